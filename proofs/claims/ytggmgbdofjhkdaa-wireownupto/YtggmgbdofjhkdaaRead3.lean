/- From what the rows say of calls to what the walks want. -/
import Derived.Test.YtggmgbdofjhkdaaRead2
import Derived.Test.YtggmgbdofjhkdaaLawBegins
namespace Go.Proofs.Ytggmgbdofjhkdaa
open Go.ChangeShapes Go.WideShapes Go.ChangeAt Go.RowKit

theorem cellsCall : Try.prog.cellsOf 43 = 3 := by kernel_rfl
theorem three {α : Type} {l : List α} (h : l.length = 3) : ∃ a b c, l = [a, b, c] := by
  match l, h with
  | [a, b, c], _ => exact ⟨a, b, c, rfl⟩

section
variable {H : Type} {enc : TypeId × Value → H} {W : World} {spare : Nat → Bool} {held : Bool}

/-- calls, out of their reading -/
theorem calls_of {ao : Option Addr} {n c : Nat} {d : DataW H} {pl : List MemPlace} (h : DataW.Trod enc Try.prog W 0 spare held 35 (.slice ao n c) d pl) (hk : Rows.uptoBulk d ≤ 1048576) :
    ∃ cs, CallsL W (.slice ao n c) cs ∧ cs.length ≤ 1048576 := by
  obtain ⟨fuel, hf⟩ := h
  rcases Go.Deep.open_slice Try.underlying35 hf with ⟨hcs, _⟩ | ⟨a, len, cap, m, n', D, Pl, hcs, _, hl, hm, hmm, hx, hel⟩
  · simp [Value.cells] at hcs
    obtain ⟨rfl, rfl, rfl⟩ := hcs
    exact ⟨[], Or.inl ⟨_, _, rfl, rfl⟩, by simp⟩
  · simp [Value.cells] at hcs
    obtain ⟨rfl, rfl, rfl⟩ := hcs
    have hlm : n ≤ m := by rw [hmm]; split <;> omega
    rw [cellsCall] at hel
    simp only [Prod.mk.injEq] at hx
    have hbd : Rows.uptoBulkAll ((List.range n).map D) ≤ 1048576 := by rw [hx.1] at hk; simp only [Rows.uptoBulk] at hk; omega
    have hone : ∀ i, i < n → ∃ x : Int × Int × Int, (W.cell? (a.add (i * 3)) = some (.int .i64 x.1) ∧ W.cell? ((a.add (i * 3)).add 1) = some (.int .i64 x.2.1) ∧ W.cell? ((a.add (i * 3)).add 2) = some (.int .i64 x.2.2)) ∧ (-9223372036854775808 ≤ x.2.1 ∧ x.2.1 ≤ 9223372036854775807) ∧ -9223372036854775808 ≤ x.2.2 ∧ x.2.2 ≤ 9223372036854775807 := by
      intro i hi
      obtain ⟨cs', hc, ht⟩ := hel i (by omega)
      obtain ⟨y0, y1, y2, k, _, hlen, t0, t1, t2⟩ := Go.Deep.trod_struct3 Try.underlying43 ht
      rw [cellsCall] at hlen
      obtain ⟨x0, x1, x2, rfl⟩ := three hlen
      obtain ⟨K, e0, _⟩ := DataW.trod_int Try.underlying3 t0
      obtain ⟨A, e1, _, wA⟩ := DataW.trod_int Try.underlying3 t1
      obtain ⟨B, e2, _, wB⟩ := DataW.trod_int Try.underlying3 t2
      simp [cellsInt] at e0 e1 e2
      subst e0 e1 e2
      have hh := World.cells?_some hc
      exact ⟨(K, A, B), ⟨by simpa [Addr.add] using hh.2.2 0 (by omega), hh.2.2 1 (by omega), hh.2.2 2 (by omega)⟩, wf_i64 wA, wf_i64 wB⟩
    obtain ⟨cs, hcl, hcs⟩ := list_of hone
    refine ⟨cs, ?_, ?_⟩
    · rcases Nat.eq_zero_or_pos n with rfl | hpos
      · exact Or.inl ⟨_, _, rfl, List.length_eq_zero_iff.1 hcl⟩
      · obtain ⟨x, ⟨h0, _⟩, _⟩ := hone 0 hpos
        have ha : a = ⟨a.block, a.off, none⟩ := addr_plain (v := .int .i64 x.1) (by simpa [Addr.add] using h0)
        have hlt : a.block < W.heap.size := World.block_lt_of_cell? W a (u := .int .i64 x.1) (by simpa [Addr.add] using h0)
        generalize hg : a.block = g at ha hlt
        generalize ho : a.off = o at ha
        subst ha
        refine Or.inr ⟨g, o, c, by rw [hcl], hlt, fun j y hj => ?_⟩
        obtain ⟨⟨h0, h1, h2⟩, hA, hB⟩ := hcs j y hj
        simp only [add_plain] at h0 h1 h2
        exact ⟨h0, h1, h2, hA, hB⟩
    · have := bulk_count ((List.range n).map D)
      simp at this
      omega
end

end Go.Proofs.Ytggmgbdofjhkdaa
