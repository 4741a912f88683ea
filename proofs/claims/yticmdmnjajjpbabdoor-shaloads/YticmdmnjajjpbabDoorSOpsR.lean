/- Calls, out of their reading. -/
import Derived.Test.YticmdmnjajjpbabDoorSPlayB
import Derived.Test.YticmdmnjajjpbabDoorSUpto
import Derived.ChangeSame
import Derived.Deep.Strs
namespace Go.Proofs.YticmdmnjajjpbabDoor
open Go.ChangeShapes Go.WideShapes Go.ChangeAt Go.RowKit

theorem cellsOp : Tryd.prog.cellsOf 49 = 2 := by kernel_rfl
theorem cellsInt : Tryd.prog.cellsOf 3 = 1 := by kernel_rfl
theorem cellsLs : Tryd.prog.cellsOf 47 = 1 := by kernel_rfl
theorem two_of {α : Type} {l : List α} (h : l.length = 2) : ∃ a b, l = [a, b] := by
  match l, h with
  | [a, b], _ => exact ⟨a, b, rfl⟩
theorem lists_low {X : Nat → Prop} {w : World} {v : Value} {pss : List (List UInt8)} (h : Lists X w v pss) : Lists (· < w.heap.size) w v pss := by
  rcases h with h | ⟨g, o, c, hv, hlt, hX, hc⟩
  · exact Or.inl h
  · refine Or.inr ⟨g, o, c, hv, hlt, hlt, fun j hj => ?_⟩
    obtain ⟨u, h1, h2, h3⟩ := hc j hj
    refine ⟨u, h1, h2, fun k hp hk => ?_⟩
    obtain ⟨_, ⟨rfl, _⟩ | ⟨ad, cap, rfl, _, _, hlt2, _⟩⟩ := h2
    · cases hk
    · simp only [Value.ownBlock, Option.some.injEq] at hk
      rw [← hk]
      exact hlt2 hp

section
variable {H : Type} {enc : TypeId × Value → H} {W : World} {spare : Nat → Bool} {held : Bool}

set_option maxRecDepth 100000 in
theorem ops_b {ao : Option Addr} {n c : Nat} {d : DataW H} {pl : List MemPlace} (h : DataW.Trod enc Tryd.prog W 0 spare held 28 (.slice ao n c) d pl) (hk : Rows.uptoBulk d ≤ 1048576) :
    OpsL W (.slice ao n c) n ∧ n ≤ 1048576 := by
  obtain ⟨fuel, hf⟩ := h
  rcases Go.Deep.open_slice Tryd.underlying28 hf with ⟨hcs, _⟩ | ⟨a, len, cap, m, n', D, Pl, hcs, _, hl, hm, hmm, hx, hel⟩
  · simp [Value.cells] at hcs
    obtain ⟨rfl, rfl, rfl⟩ := hcs
    exact ⟨Or.inl ⟨_, _, rfl, rfl⟩, by simp⟩
  · simp [Value.cells] at hcs
    obtain ⟨rfl, rfl, rfl⟩ := hcs
    have hlm : n ≤ m := by rw [hmm]; split <;> omega
    rw [cellsOp] at hel
    simp only [Prod.mk.injEq] at hx
    have hbd : Rows.uptoBulkAll ((List.range n).map D) ≤ 1048576 := by rw [hx.1] at hk; simp only [Rows.uptoBulk] at hk; omega
    have hn : n ≤ 1048576 := by
      have := bulk_count ((List.range n).map D)
      simp at this
      omega
    have hone : ∀ i, i < n → ∃ (x : Int) (ai : Option Addr) (ki ci : Nat) (pss : List (List UInt8)), W.cell? (a.add (i * 2)) = some (.int .i64 x) ∧ W.cell? ((a.add (i * 2)).add 1) = some (.slice ai ki ci) ∧ Lists (· < W.heap.size) W (.slice ai ki ci) pss ∧ pss.length ≤ 1048576 ∧ (fl pss).length ≤ 1048576 := by
      intro i hi
      obtain ⟨cs', hc, ht⟩ := hel i (by omega)
      have hDi : Rows.uptoBulk (D i) ≤ 1048576 := Nat.le_trans (bulk_mem (List.mem_map.2 ⟨i, List.mem_range.2 hi, rfl⟩)) hbd
      obtain ⟨⟨d0, q0⟩, ⟨d1, q1⟩, k, hxx, hlen, t0, t1⟩ := trod_struct2 Tryd.underlying49 ht
      simp only [Prod.mk.injEq] at hxx
      rw [hxx.1] at hDi
      simp only [Rows.uptoBulk, Rows.uptoBulkAll] at hDi
      rw [cellsOp] at hlen
      obtain ⟨x0, x1, rfl⟩ := two_of hlen
      obtain ⟨K, e0, _⟩ := DataW.trod_int Tryd.underlying3 t0
      simp [cellsInt] at e0
      subst e0
      obtain ⟨ai, ki, ci, hV⟩ : ∃ ai ni ci, x1 = .slice ai ni ci := by
        rcases DataW.trod_slice Tryd.underlying47 t1 with ⟨hc1, _⟩ | ⟨a', len', cap', _, _, _, _, hc1, _⟩
        · simp [cellsLs] at hc1; exact ⟨_, _, _, hc1⟩
        · simp [cellsLs] at hc1; exact ⟨_, _, _, hc1⟩
      subst hV
      obtain ⟨pss, h1, _, h3, h4⟩ := lists_b (W := W) (pl := q1) (d := d1) (ao := ai) (n := ki) (c := ci) ⟨k, by simpa [Value.cells, cellsInt, cellsLs] using t1⟩ (by omega)
      have hh := World.cells?_some hc
      exact ⟨K, ai, ki, ci, pss, by simpa [Addr.add] using hh.2.2 0 (by omega), hh.2.2 1 (by omega), lists_low h1, h3, h4⟩
    refine ⟨?_, hn⟩
    rcases Nat.eq_zero_or_pos n with rfl | hpos
    · exact Or.inl ⟨_, _, rfl, rfl⟩
    · obtain ⟨x, _, _, _, _, h0, _⟩ := hone 0 hpos
      have ha : a = ⟨a.block, a.off, none⟩ := addr_plain (v := .int .i64 x) (by simpa [Addr.add] using h0)
      have hlt : a.block < W.heap.size := World.block_lt_of_cell? W a (u := .int .i64 x) (by simpa [Addr.add] using h0)
      generalize hg : a.block = g at ha hlt
      generalize ho : a.off = o at ha
      subst ha
      refine Or.inr ⟨g, o, c, rfl, hlt, fun j hj => ?_⟩
      obtain ⟨x, ai, ki, ci, pss, h0, h1, h2, h3, h4⟩ := hone j hj
      simp only [add_plain] at h0 h1
      refine ⟨x, ai, ki, ci, pss, fun i v hv => ?_, h2, h3, h4⟩
      match i, hv with
      | 0, hv =>
        simp only [List.getElem?_cons_zero, Option.some.injEq] at hv
        subst hv
        exact h0
      | 1, hv =>
        simp only [List.getElem?_cons_succ, List.getElem?_cons_zero, Option.some.injEq] at hv
        subst hv
        exact h1
      | i + 2, hv => simp at hv
end

end Go.Proofs.YticmdmnjajjpbabDoor
