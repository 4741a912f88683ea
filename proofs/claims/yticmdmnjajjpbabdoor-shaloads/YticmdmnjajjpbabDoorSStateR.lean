/- A state, out of its reading. -/
import Derived.Test.YticmdmnjajjpbabDoorSUpto
import Derived.Test.YticmdmnjajjpbabDoorSTab
import Derived.Test.YticmdmnjajjpbabDoorSLoad
import Derived.Lib.SmallJoins
import Derived.Deep.Strs
namespace Go.Proofs.YticmdmnjajjpbabDoor
open Go.ChangeShapes Go.WideShapes Go.ChangeAt Go.RowKit

theorem cellsState : Tryd.prog.cellsOf 27 = 10 := by kernel_rfl
theorem cellsWords : Tryd.prog.cellsOf 23 = 8 := by kernel_rfl
theorem cellsBuf : Tryd.prog.cellsOf 24 = 1 := by kernel_rfl
theorem cellsU64 : Tryd.prog.cellsOf 25 = 1 := by kernel_rfl

section
variable {H : Type} {enc : TypeId × Value → H} {W : World} {spare : Nat → Bool} {held : Bool}

set_option maxRecDepth 100000 in
theorem state_b {r : Reach} {b0 : Nat} {v : Value} {d : DataW H} {pl : List MemPlace} (hv : Value.okWide Tryd.prog W r b0 27 v) (h : DataW.Trod enc Tryd.prog W 0 spare held 27 v d pl) (hk : Rows.uptoBulk d ≤ 1048576) :
    ∃ (xs : List Int) (ao : Option Addr) (n c : Nat) (buf : List UInt8) (N : Nat), v = .agg (scells xs (.slice ao n c) (N : Int)).toArray ∧ xs.length = 8 ∧ Src W (.slice ao n c) buf ∧ N < 18446744073709551616 := by
  obtain ⟨cs, rfl, hsz⟩ := okWide_struct Tryd.underlying27 hv
  rw [cellsState] at hsz
  obtain ⟨fuel, hf⟩ := h
  obtain ⟨⟨d0, q0⟩, ⟨d1, q1⟩, ⟨d2, q2⟩, k, hx, hlen, t0, t1, t2⟩ := Go.Deep.trod_struct3 Tryd.underlying27 hf
  simp only [Prod.mk.injEq] at hx
  rw [hx.1] at hk
  simp only [Rows.uptoBulk, Rows.uptoBulkAll] at hk
  simp only [Value.cells] at t0 t1 t2
  obtain ⟨l⟩ := cs
  obtain ⟨x0, x1, x2, x3, x4, x5, x6, x7, x8, x9, rfl⟩ : ∃ a b c d e f g i j k, l = [a, b, c, d, e, f, g, i, j, k] := by
    match l, hsz with
    | [a, b, c, d, e, f, g, i, j, k], _ => exact ⟨a, b, c, d, e, f, g, i, j, k, rfl⟩
  rw [cellsWords] at t0
  rw [cellsBuf] at t1
  rw [cellsU64] at t2
  simp only [List.drop_zero, List.drop_succ_cons, List.take_succ_cons, List.take_zero] at t0 t1 t2
  have hT0 : DataW.Trod enc Tryd.prog W 0 spare held 23 (.agg #[x0, x1, x2, x3, x4, x5, x6, x7]) d0 q0 := ⟨k, by simpa [Value.cells] using t0⟩
  obtain ⟨xs, hxl, hxe⟩ := ints_of_array Tryd.underlying23 Tryd.underlying22 (by kernel_rfl) (by kernel_rfl) (by decide) hT0
  have hxe2 : [x0, x1, x2, x3, x4, x5, x6, x7] = u32V xs := by
    injection hxe with hxe
    have := congrArg Array.toList hxe
    simpa [u32V] using this
  obtain ⟨ao, n, c, rfl⟩ : ∃ ai ni ci, x8 = .slice ai ni ci := by
    rcases DataW.trod_slice Tryd.underlying24 t1 with ⟨hc1, _⟩ | ⟨a', len', cap', _, _, _, _, hc1, _⟩
    · simp at hc1; exact ⟨_, _, _, hc1⟩
    · simp at hc1; exact ⟨_, _, _, hc1⟩
  obtain ⟨buf, hb1, _, _⟩ := bytes_b (W := W) (pl := q1) (d := d1) (ao := ao) (n := n) (c := c) ⟨k, by simpa [Value.cells] using t1⟩ (by omega)
  obtain ⟨m, g2, _, wf⟩ := DataW.trod_int Tryd.underlying25 t2
  obtain rfl : x9 = .int .u64 m := by simpa using g2
  have b2 : 0 ≤ m ∧ m ≤ 18446744073709551615 := by simpa [Lit.wf, IntKind.min, IntKind.max, IntKind.signed, IntKind.bits] using wf
  obtain ⟨N, rfl⟩ : ∃ N : Nat, m = (N : Int) := ⟨m.toNat, by omega⟩
  refine ⟨xs, ao, n, c, buf, N, ?_, hxl, hb1, by omega⟩
  have e : [x0, x1, x2, x3, x4, x5, x6, x7, .slice ao n c, .int .u64 (N : Int)] = scells xs (.slice ao n c) (N : Int) := by
    unfold scells
    rw [← hxe2]
    rfl
  rw [← e]
end

end Go.Proofs.YticmdmnjajjpbabDoor
