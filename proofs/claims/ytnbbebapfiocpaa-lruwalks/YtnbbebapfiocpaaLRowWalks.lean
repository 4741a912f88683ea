/- LruWalks answers true for every number of entries, every two scripts of calls and every place to leave at: a walk that was asked for goes over what was there then, once and again, one in another, whatever is called later (P11.4, R4). No condition. -/
import Derived.Test.YtnbbebapfiocpaaG1
import Derived.Test.YtnbbebapfiocpaaG3
namespace Go.Proofs.Ytnbbebapfiocpaa.lruWalksRow
open Go.ChangeShapes Go.WideShapes Go.ChangeAt Go.RowKit

set_option maxRecDepth 100000 in
theorem contract (H : Type) (enc : TypeId × Value → H) (W : World) (base : Nat) (args : Array Value) (ds gs : List (DataW H)) (before : List MemPlace)
    (hval : ∀ (j : Nat) t v, Try.f8.params[j]? = some t → args[j]? = some v → Value.okWide Try.prog W .any base t v)
    (hsz : ((DataW.weightsEach Try.prog (Try.f8.params.toList ++ DataSpec.varTypes Try.prog Rows.lruWalksSpec.plain) (ds ++ gs)).all fun x => decide (x ≤ reachBytes)) = true)
    (hW : DataW.Whole enc Try.prog Try.f8.params.toList Rows.lruWalksSpec.vars false W args.toList ds gs before) :
    Calls Try.prog 8 args W fun e W' => ∃ v, e = .returned v ∧ Rows.lruWalksSpec.post enc Try.prog Try.f8 false true false false W args v W' := by
  have hW' := hW
  obtain ⟨p, q, hA0, hV, rfl, hfz, hnd⟩ := hW
  have hA : DataW.TrodAll enc Try.prog W 0 (fun _ => true) true Try.f8.params.toList args.toList ds p := hA0
  rw [Try.params8] at hA hval
  obtain ⟨v0, vs0, d0, ds0, p0, q0, hargs0, rfl, rfl, h0, r0⟩ := trodAll_cons hA
  obtain ⟨rfl, rfl, rfl⟩ := trodAll_nil r0
  obtain rfl : args = #[v0] := by
    cases args with
    | mk l => exact congrArg Array.mk hargs0
  obtain ⟨rfl, rfl⟩ := trodVars_none hV
  have k0 := h0
  have lt0 : ∀ x ∈ p0, x.block < W.heap.size := by obtain ⟨m, hm⟩ := k0; exact DataW.trod_lt m _ _ _ hm
  obtain ⟨u0, u1, u2, u3, u4, u5, y0, y1, y2, y3, y4, y5, nn, rfl, hdd, e0, e1, e2, e3, e4, e5⟩ := open_agg6 Try.underlying44 (by kernel_rfl) (by kernel_rfl) (hval 0 44 v0 rfl rfl) h0
  obtain ⟨m0, g0, _, wf0⟩ := DataW.trod_int Try.underlying3 e0
  obtain rfl : u0 = .int .i64 m0 := by simpa using g0
  have b0 := wf_i64 wf0
  obtain ⟨m1, g1, _, wf1⟩ := DataW.trod_int Try.underlying3 e1
  obtain rfl : u1 = .int .i64 m1 := by simpa using g1
  have b1 := wf_i64 wf1
  obtain ⟨ai2, ni2, ci2, hV2⟩ : ∃ ai ni ci, u2 = .slice ai ni ci := by
    rcases DataW.trod_slice Try.underlying22 e2 with ⟨hc, _⟩ | ⟨a', len', cap', _, _, _, _, hc, _⟩
    · simp at hc; exact ⟨_, _, _, hc⟩
    · simp at hc; exact ⟨_, _, _, hc⟩
  subst hV2
  have hz2 := acts_w (W := W) (pl := y2.2) (d := y2.1) (ao := ai2) (n := ni2) (c := ci2) ⟨nn, by simpa [Value.cells] using e2⟩ (fun x hx => sized_at hsz (j := 0) (t := 44) (by kernel_rfl) rfl x (by
    rw [hdd]
    simp only [DataW.weights, Try.underlying44]
    exact DataW.weights_mem_each (P := Try.prog) (ts := [3, 3, 22, 22, 22, 35]) (ds := [y0.1, y1.1, y2.1, y3.1, y4.1, y5.1]) (j := 2) rfl rfl x hx))
  obtain ⟨ai3, ni3, ci3, hV3⟩ : ∃ ai ni ci, u3 = .slice ai ni ci := by
    rcases DataW.trod_slice Try.underlying22 e3 with ⟨hc, _⟩ | ⟨a', len', cap', _, _, _, _, hc, _⟩
    · simp at hc; exact ⟨_, _, _, hc⟩
    · simp at hc; exact ⟨_, _, _, hc⟩
  subst hV3
  have hz3 := acts_w (W := W) (pl := y3.2) (d := y3.1) (ao := ai3) (n := ni3) (c := ci3) ⟨nn, by simpa [Value.cells] using e3⟩ (fun x hx => sized_at hsz (j := 0) (t := 44) (by kernel_rfl) rfl x (by
    rw [hdd]
    simp only [DataW.weights, Try.underlying44]
    exact DataW.weights_mem_each (P := Try.prog) (ts := [3, 3, 22, 22, 22, 35]) (ds := [y0.1, y1.1, y2.1, y3.1, y4.1, y5.1]) (j := 3) rfl rfl x hx))
  obtain ⟨ai4, ni4, ci4, hV4⟩ : ∃ ai ni ci, u4 = .slice ai ni ci := by
    rcases DataW.trod_slice Try.underlying22 e4 with ⟨hc, _⟩ | ⟨a', len', cap', _, _, _, _, hc, _⟩
    · simp at hc; exact ⟨_, _, _, hc⟩
    · simp at hc; exact ⟨_, _, _, hc⟩
  subst hV4
  have hz4 := acts_w (W := W) (pl := y4.2) (d := y4.1) (ao := ai4) (n := ni4) (c := ci4) ⟨nn, by simpa [Value.cells] using e4⟩ (fun x hx => sized_at hsz (j := 0) (t := 44) (by kernel_rfl) rfl x (by
    rw [hdd]
    simp only [DataW.weights, Try.underlying44]
    exact DataW.weights_mem_each (P := Try.prog) (ts := [3, 3, 22, 22, 22, 35]) (ds := [y0.1, y1.1, y2.1, y3.1, y4.1, y5.1]) (j := 4) rfl rfl x hx))
  have hrb : reachBytes = 140737488351232 := by decide
  clear hA0
  refine (lawWalks_any W m0 m1 _ _ _ _ _ _ hz2 hz3).mono fun e W' ⟨he, bel⟩ => ?_
  subst he
  exact ⟨_, rfl, _, _, _, [], _, [], hW', trodAll_mk1 (shut_bool Try.underlying4 _), (trodAll_cons_mk (Below.trod laidOut (by kernel_rfl) (of_decide_eq_true (by kernel_rfl)) k0 bel lt0) trodAll_mk0), rfl, bel.frame _, fun h => by cases h⟩

set_option maxRecDepth 100000 in
theorem lifted (os : Os) (started : os.Started) (H : Type) (enc : TypeId × Value → H) :
    ReturnsInHanded {} Try.checked os 8 .any (Rows.lruWalksSpec.pre6 enc Try.prog Try.f8 Rows.lruWalksRow.domain false) (Rows.lruWalksSpec.post enc Try.prog Try.f8 false true false false) := by
  refine returnsInHanded_of_change_sized (C := Try.checked) own started (by kernel_rfl) Try.func8
    (ChangeSpec.witness6 (enc := enc) (C := Try.checked) false ⟨#[], #[.agg #[.int .i64 0, .int .i64 0, .slice none 0 0, .slice none 0 0, .slice none 0 0, .slice none 0 0]], []⟩ 8 (by kernel_rfl) (by kernel_rfl) (by kernel_rfl) (by kernel_rfl)) ?_
  intro W base args ds gs before hval0 hW _ hsz _
  exact contract H enc W base args ds gs before hval0 hsz hW
end Go.Proofs.Ytnbbebapfiocpaa.lruWalksRow

namespace Go.Proofs.Ytnbbebapfiocpaa
theorem lruWalks_holds : Rows.LruWalksSaid :=
  OpenClaim.holds_of_wide 8 Try.f8 rfl rfl rfl rfl rfl rfl rfl ⟨rfl, rfl, rfl, rfl, rfl⟩ rfl rfl rfl rfl rfl (by kernel_rfl) Try.func8 (by kernel_rfl)
    (of_decide_eq_true (by kernel_rfl)) (by unfold Func.isWrapper; first | (rw [if_pos (by decide +kernel)]; kernel_rfl) | (rw [if_neg (by decide +kernel)]; exact ⟨rfl, rfl⟩))
    (fun os started H enc _ => lruWalksRow.lifted os started H enc)
#print axioms lruWalks_holds
end Go.Proofs.Ytnbbebapfiocpaa
