/- CrcTurns: what a turned byte makes of a sum is the document's, for any numbers (P3.3). No condition. -/
import Derived.Test.YtljppkpieoejlaaCReadT
import Derived.Test.YtljppkpieoejlaaCLaw2
namespace Go.Proofs.Ytljppkpieoejlaa.crcTurnsRow
open Go.ChangeShapes Go.WideShapes Go.ChangeAt Go.RowKit

set_option maxRecDepth 100000 in
theorem contract (H : Type) (enc : TypeId × Value → H) (W : World) (base : Nat) (args : Array Value) (ds gs : List (DataW H)) (before : List MemPlace)
    (hval : ∀ (j : Nat) t v, Try.f7.params[j]? = some t → args[j]? = some v → Value.okWide Try.prog W .any base t v)
    (hsz : ((DataW.weightsEach Try.prog (Try.f7.params.toList ++ DataSpec.varTypes Try.prog Rows.crcTurnsSpec.plain) (ds ++ gs)).all fun x => decide (x ≤ reachBytes)) = true)
    (hW : DataW.Whole enc Try.prog Try.f7.params.toList Rows.crcTurnsSpec.vars false W args.toList ds gs before) :
    Calls Try.prog 7 args W fun e W' => ∃ v, e = .returned v ∧ Rows.crcTurnsSpec.post enc Try.prog Try.f7 false true false false W args v W' := by
  have hW' := hW
  obtain ⟨p, q, hA0, hV, rfl, hfz, hnd⟩ := hW
  have hA : DataW.TrodAll enc Try.prog W 0 (fun _ => true) true Try.f7.params.toList args.toList ds p := hA0
  rw [Try.params7] at hA hval
  obtain ⟨v0, vs0, d0, ds0, p0, q0, hargs0, rfl, rfl, h0, r0⟩ := trodAll_cons hA
  obtain ⟨rfl, rfl, rfl⟩ := trodAll_nil r0
  obtain rfl : args = #[v0] := by
    cases args with
    | mk l => exact congrArg Array.mk hargs0
  obtain ⟨rfl, rfl⟩ := trodVars_none hV
  have k0 := h0
  have lt0 : ∀ x ∈ p0, x.block < W.heap.size := by obtain ⟨m, hm⟩ := k0; exact DataW.trod_lt m _ _ _ hm
  obtain ⟨u0, u1, u2, u3, y0, y1, y2, y3, nn, rfl, _, _, e0, e1, e2, e3⟩ := Go.Joins.open_agg4 Try.underlying39 (by kernel_rfl) (by kernel_rfl) (hval 0 39 v0 rfl rfl) h0
  obtain ⟨m0, g0, _, wf0⟩ := DataW.trod_int Try.underlying23 e0
  obtain rfl : u0 = .int .u32 m0 := by simpa using g0
  have b0 := wf_u32 wf0
  obtain ⟨N0, rfl⟩ : ∃ N : Nat, m0 = (N : Int) := ⟨m0.toNat, by omega⟩
  obtain ⟨m1, g1, _, wf1⟩ := DataW.trod_int Try.underlying3 e1
  obtain rfl : u1 = .int .i64 m1 := by simpa using g1
  have b1 := wf_i64 wf1
  obtain ⟨m2, g2, _, wf2⟩ := DataW.trod_int Try.underlying3 e2
  obtain rfl : u2 = .int .i64 m2 := by simpa using g2
  have b2 := wf_i64 wf2
  obtain ⟨m3, g3, _, wf3⟩ := DataW.trod_int Try.underlying5 e3
  obtain rfl : u3 = .int .u8 m3 := by simpa using g3
  have b3 := wf_u8 wf3
  obtain ⟨N3, rfl⟩ : ∃ N : Nat, m3 = (N : Int) := ⟨m3.toNat, by omega⟩
  have hrb : reachBytes = 140737488351232 := by decide
  clear hA0
  refine (lawTurns_any W N0 N3 m1 m2 (by omega) (by omega) (by omega)).mono fun e W' ⟨he, bel⟩ => ?_
  subst he
  exact ⟨_, rfl, _, _, _, [], _, [], hW', trodAll_mk1 (shut_bool Try.underlying4 _), (trodAll_cons_mk (Below.trod laidOut (by kernel_rfl) (of_decide_eq_true (by kernel_rfl)) k0 bel lt0) trodAll_mk0), rfl, bel.frame _, fun h => by cases h⟩

set_option maxRecDepth 100000 in
theorem lifted (os : Os) (started : os.Started) (H : Type) (enc : TypeId × Value → H) :
    ReturnsInHanded {} Try.checked os 7 .any (Rows.crcTurnsSpec.pre6 enc Try.prog Try.f7 Rows.crcTurnsRow.domain false) (Rows.crcTurnsSpec.post enc Try.prog Try.f7 false true false false) := by
  refine returnsInHanded_of_change_sized (C := Try.checked) own started (by kernel_rfl) Try.func7
    (ChangeSpec.witness6 (enc := enc) (C := Try.checked) false ⟨#[], #[.agg #[.int .u32 0, .int .i64 0, .int .i64 0, .int .u8 0]], []⟩ 8 (by kernel_rfl) (by kernel_rfl) (by kernel_rfl) (by kernel_rfl)) ?_
  intro W base args ds gs before hval0 hW _ hsz _
  exact contract H enc W base args ds gs before hval0 hsz hW
end Go.Proofs.Ytljppkpieoejlaa.crcTurnsRow

namespace Go.Proofs.Ytljppkpieoejlaa
theorem crcTurns_holds : Rows.CrcTurnsSaid :=
  OpenClaim.holds_of_wide 7 Try.f7 rfl rfl rfl rfl rfl rfl rfl ⟨rfl, rfl, rfl, rfl, rfl⟩ rfl rfl rfl rfl rfl (by kernel_rfl) Try.func7 (by kernel_rfl)
    (of_decide_eq_true (by kernel_rfl)) (by unfold Func.isWrapper; first | (rw [if_pos (by decide +kernel)]; kernel_rfl) | (rw [if_neg (by decide +kernel)]; exact ⟨rfl, rfl⟩))
    (fun os started H enc _ => crcTurnsRow.lifted os started H enc)
#print axioms crcTurns_holds
end Go.Proofs.Ytljppkpieoejlaa
