/- A tag and parts, out of their reading. -/
import Derived.Test.YticmdmnjajjpbacDoorSUpto
import Derived.Lib.SmallJoins
namespace Go.Proofs.YticmdmnjajjpbacDoor
open Go.ChangeShapes Go.WideShapes Go.ChangeAt Go.RowKit

section
variable {H : Type} {enc : TypeId × Value → H} {W : World} {spare : Nat → Bool} {held : Bool}
set_option maxRecDepth 100000 in
theorem named_b {r : Reach} {b0 : Nat} {v : Value} {d : DataW H} {pl : List MemPlace} (hv : Value.okWide Tryd.prog W r b0 51 v) (h : DataW.Trod enc Tryd.prog W 0 spare held 51 v d pl) (hk : Rows.uptoBulk d ≤ 1048576) :
    ∃ (s : ByteArray) (ao : Option Addr) (n c : Nat) (pss : List (List UInt8)), v = .agg #[.string s, .slice ao n c] ∧ s.size ≤ 1048576 ∧ Lists (fun _ => True) W (.slice ao n c) pss ∧ pss.length ≤ 1048576 ∧ (fl pss).length ≤ 1048576 := by
  obtain ⟨u0, u1, ⟨d0, q0⟩, ⟨d1, q1⟩, m, rfl, rfl, rfl, e0, e1⟩ := Go.Joins.open_agg2 Tryd.underlying51 (by kernel_rfl) (by kernel_rfl) hv h
  simp only [Rows.uptoBulk, Rows.uptoBulkAll] at hk
  obtain ⟨s, g0, hx0, _⟩ := DataW.trod_string Tryd.underlying9 e0
  obtain rfl : u0 = .string s := by simpa using g0
  simp only [Prod.mk.injEq] at hx0
  have hs : s.size ≤ 1048576 := by
    have e : Rows.uptoBulk d0 = s.data.toList.length + 1 := by rw [hx0.1]; rfl
    have e2 : s.size = s.data.toList.length := by simp
    omega
  obtain ⟨ao, n, c, hV⟩ : ∃ ai ni ci, u1 = .slice ai ni ci := by
    rcases DataW.trod_slice Tryd.underlying38 e1 with ⟨hc, _⟩ | ⟨a', len', cap', _, _, _, _, hc, _⟩
    · simp at hc; exact ⟨_, _, _, hc⟩
    · simp at hc; exact ⟨_, _, _, hc⟩
  subst hV
  obtain ⟨pss, h1, h2, h3, h4⟩ := lists_b (pl := q1) (d := d1) ⟨m, by simpa [Value.cells] using e1⟩ (by omega)
  exact ⟨s, ao, n, c, pss, rfl, hs, h1, h3, h4⟩
end

end Go.Proofs.YticmdmnjajjpbacDoor
