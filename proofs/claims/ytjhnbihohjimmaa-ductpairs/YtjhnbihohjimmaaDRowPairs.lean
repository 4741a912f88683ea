/- DuctPairs answers true for every room, bytes and bits: the two ducts of a pair are each their own, and are shut together (P9.5). No condition. -/
import Derived.Test.YtjhnbihohjimmaaG1
namespace Go.Proofs.Ytjhnbihohjimmaa.ductPairsRow
open Go.ChangeShapes Go.WideShapes Go.ChangeAt Go.RowKit

set_option maxRecDepth 100000 in
theorem contract (H : Type) (enc : TypeId × Value → H) (W : World) (base : Nat) (args : Array Value) (ds gs : List (DataW H)) (before : List MemPlace)
    (hval : ∀ (j : Nat) t v, Try.f7.params[j]? = some t → args[j]? = some v → Value.okWide Try.prog W .any base t v)
    (hsz : ((DataW.weightsEach Try.prog (Try.f7.params.toList ++ DataSpec.varTypes Try.prog Rows.ductPairsSpec.plain) (ds ++ gs)).all fun x => decide (x ≤ reachBytes)) = true)
    (hW : DataW.Whole enc Try.prog Try.f7.params.toList Rows.ductPairsSpec.vars false W args.toList ds gs before) :
    Calls Try.prog 7 args W fun e W' => ∃ v, e = .returned v ∧ Rows.ductPairsSpec.post enc Try.prog Try.f7 false true false false W args v W' := by
  have hW' := hW
  obtain ⟨p, q, hA0, hV, rfl, hfz, hnd⟩ := hW
  have hA : DataW.TrodAll enc Try.prog W 0 (fun _ => true) true Try.f7.params.toList args.toList ds p := hA0
  rw [Try.params7] at hA hval
  obtain ⟨v0, vs0, d0, ds0, p0, q0, hargs0, rfl, rfl, h0, r0⟩ := trodAll_cons hA
  obtain ⟨rfl, rfl, rfl⟩ := trodAll_nil r0
  obtain rfl : args = #[v0] := by
    cases args with
    | mk l => exact congrArg Array.mk hargs0
  obtain ⟨rfl, rfl⟩ := trodVars_none hV
  have k0 := h0
  have lt0 : ∀ x ∈ p0, x.block < W.heap.size := by obtain ⟨m, hm⟩ := k0; exact DataW.trod_lt m _ _ _ hm
  obtain ⟨u0, u1, u2, u3, y0, y1, y2, y3, nn, rfl, hdd, _, e0, e1, e2, e3⟩ := Go.Joins.open_agg4 Try.underlying53 (by kernel_rfl) (by kernel_rfl) (hval 0 53 v0 rfl rfl) h0
  obtain ⟨m0, g0, _, wf0⟩ := DataW.trod_int Try.underlying3 e0
  obtain rfl : u0 = .int .i64 m0 := by simpa using g0
  have b0 := wf_i64 wf0
  obtain ⟨ai1, ni1, ci1, hV1⟩ : ∃ ai ni ci, u1 = .slice ai ni ci := by
    rcases DataW.trod_slice Try.underlying27 e1 with ⟨hc, _⟩ | ⟨a', len', cap', _, _, _, _, hc, _⟩
    · simp at hc; exact ⟨_, _, _, hc⟩
    · simp at hc; exact ⟨_, _, _, hc⟩
  subst hV1
  obtain ⟨z1, hz1, _⟩ := bytes_w (W := W) (pl := y1.2) (d := y1.1) (ao := ai1) (n := ni1) (c := ci1) ⟨nn, by simpa [Value.cells] using e1⟩ (fun x hx => sized_at hsz (j := 0) (t := 53) (by kernel_rfl) rfl x (by
    rw [hdd]
    simp only [DataW.weights, Try.underlying53]
    exact DataW.weights_mem_each (P := Try.prog) (ts := [3, 27, 27, 3]) (ds := [y0.1, y1.1, y2.1, y3.1]) (j := 1) rfl rfl x hx))
  obtain ⟨ai2, ni2, ci2, hV2⟩ : ∃ ai ni ci, u2 = .slice ai ni ci := by
    rcases DataW.trod_slice Try.underlying27 e2 with ⟨hc, _⟩ | ⟨a', len', cap', _, _, _, _, hc, _⟩
    · simp at hc; exact ⟨_, _, _, hc⟩
    · simp at hc; exact ⟨_, _, _, hc⟩
  subst hV2
  obtain ⟨z2, hz2, _⟩ := bytes_w (W := W) (pl := y2.2) (d := y2.1) (ao := ai2) (n := ni2) (c := ci2) ⟨nn, by simpa [Value.cells] using e2⟩ (fun x hx => sized_at hsz (j := 0) (t := 53) (by kernel_rfl) rfl x (by
    rw [hdd]
    simp only [DataW.weights, Try.underlying53]
    exact DataW.weights_mem_each (P := Try.prog) (ts := [3, 27, 27, 3]) (ds := [y0.1, y1.1, y2.1, y3.1]) (j := 2) rfl rfl x hx))
  obtain ⟨m3, g3, _, wf3⟩ := DataW.trod_int Try.underlying3 e3
  obtain rfl : u3 = .int .i64 m3 := by simpa using g3
  have b3 := wf_i64 wf3
  have hrb : reachBytes = 140737488351232 := by decide
  clear hA0
  refine (lawPairs_any W m0 _ _ z1 z2 m3 hz1 hz2).mono fun e W' ⟨he, bel⟩ => ?_
  subst he
  exact ⟨_, rfl, _, _, _, [], _, [], hW', trodAll_mk1 (shut_bool Try.underlying4 _), (trodAll_cons_mk (Below.trod laidOut (by kernel_rfl) (of_decide_eq_true (by kernel_rfl)) k0 bel lt0) trodAll_mk0), rfl, bel.frame _, fun h => by cases h⟩

set_option maxRecDepth 100000 in
theorem lifted (os : Os) (started : os.Started) (H : Type) (enc : TypeId × Value → H) :
    ReturnsInHanded {} Try.checked os 7 .any (Rows.ductPairsSpec.pre6 enc Try.prog Try.f7 Rows.ductPairsRow.domain false) (Rows.ductPairsSpec.post enc Try.prog Try.f7 false true false false) := by
  refine returnsInHanded_of_change_sized (C := Try.checked) own started (by kernel_rfl) Try.func7
    (ChangeSpec.witness6 (enc := enc) (C := Try.checked) false ⟨#[], #[.agg #[.int .i64 0, .slice none 0 0, .slice none 0 0, .int .i64 0]], []⟩ 8 (by kernel_rfl) (by kernel_rfl) (by kernel_rfl) (by kernel_rfl)) ?_
  intro W base args ds gs before hval0 hW _ hsz _
  exact contract H enc W base args ds gs before hval0 hsz hW
end Go.Proofs.Ytjhnbihohjimmaa.ductPairsRow

namespace Go.Proofs.Ytjhnbihohjimmaa
theorem ductPairs_holds : Rows.DuctPairsSaid :=
  OpenClaim.holds_of_wide 7 Try.f7 rfl rfl rfl rfl rfl rfl rfl ⟨rfl, rfl, rfl, rfl, rfl⟩ rfl rfl rfl rfl rfl (by kernel_rfl) Try.func7 (by kernel_rfl)
    (of_decide_eq_true (by kernel_rfl)) (by unfold Func.isWrapper; first | (rw [if_pos (by decide +kernel)]; kernel_rfl) | (rw [if_neg (by decide +kernel)]; exact ⟨rfl, rfl⟩))
    (fun os started H enc _ => ductPairsRow.lifted os started H enc)
#print axioms ductPairs_holds
end Go.Proofs.Ytjhnbihohjimmaa
