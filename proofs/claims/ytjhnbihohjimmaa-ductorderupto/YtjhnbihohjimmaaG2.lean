/- Contracts and pure facts that the proof needs, joined. -/
import Derived.Test.YtjhnbihohjimmaaG1
import Derived.ProofKit
import Derived.OpenShut
import Derived.Deep.Slices
import Derived.SizedLaws
import Derived.JoinedCond
import Derived.LaidLaws

/- Calls, out of their reading, by their bulk (second form). -/
namespace Go.Proofs.Ytjhnbihohjimmaa
open Go.ChangeShapes Go.WideShapes Go.ChangeAt Go.RowKit

section
variable {H : Type}
theorem bulk_pos (d : DataW H) : 1 ≤ Rows.uptoBulk d := by
  cases d with
  | lit l => cases l <;> simp [Rows.uptoBulk]
  | _ => simp [Rows.uptoBulk]
theorem bulk_mem {d : DataW H} : ∀ {l : List (DataW H)}, d ∈ l → Rows.uptoBulk d ≤ Rows.uptoBulkAll l
  | [], h => by cases h
  | x :: r, h => by
    simp only [Rows.uptoBulkAll]
    rcases List.mem_cons.1 h with rfl | h
    · omega
    · have := bulk_mem h; omega
theorem bulk_count : ∀ (l : List (DataW H)), l.length ≤ Rows.uptoBulkAll l
  | [] => by simp
  | x :: r => by
    have h1 := bulk_pos x
    have h2 := bulk_count r
    simp only [Rows.uptoBulkAll, List.length_cons]
    omega
theorem small {l : List (DataW H)} (hk : Rows.uptoSmall H l = true) : Rows.uptoBulkAll l ≤ 1048576 := of_decide_eq_true hk
theorem bulk_range (D : Nat → DataW H) (n : Nat) : Rows.uptoBulkAll ((List.range (n + 1)).map D) = Rows.uptoBulkAll ((List.range n).map D) + Rows.uptoBulk (D n) := by
  rw [List.range_succ, List.map_append]
  generalize (List.range n).map D = L
  induction L with
  | nil => simp [Rows.uptoBulkAll]
  | cons a r ih2 => simp only [List.cons_append, List.map_cons, List.map_nil, Rows.uptoBulkAll] at ih2 ⊢; omega
theorem fl_bulk {D : Nat → DataW H} : ∀ {n : Nat} {l : List (List UInt8)}, l.length = n → (∀ j x, l[j]? = some x → x.length ≤ Rows.uptoBulk (D j)) → (fl l).length ≤ Rows.uptoBulkAll ((List.range n).map D)
  | 0, l, hl, _ => by
    rw [List.length_eq_zero_iff.1 hl]; simp [fl]
  | n + 1, l, hl, h => by
    obtain ⟨m, x, rfl⟩ : ∃ m x, l = m ++ [x] := ⟨l.dropLast, l.getLast (by intro e; rw [e] at hl; simp at hl), (List.dropLast_concat_getLast _).symm⟩
    have hm : m.length = n := by simpa using hl
    have ih := fl_bulk (D := D) (n := n) (l := m) hm (fun j y hj => h j y (by
      have : j < m.length := by
        rcases Nat.lt_or_ge j m.length with h' | h'
        · exact h'
        · rw [List.getElem?_eq_none h'] at hj; cases hj
      rw [List.getElem?_append_left this]; exact hj))
    have hx := h n x (by rw [← hm]; simp)
    have e1 : (fl (m ++ [x])).length = (fl m).length + x.length := by simp [fl]
    rw [e1, bulk_range]
    omega
end

section
variable {H : Type} {enc : TypeId × Value → H} {W : World} {spare : Nat → Bool} {held : Bool}
/-- bytes out of their reading -/
theorem bytes_b {ao : Option Addr} {n c : Nat} {d : DataW H} {pl : List MemPlace} (h : DataW.Trod enc Try.prog W 0 spare held 27 (.slice ao n c) d pl) (hk : Rows.uptoBulk d ≤ 1048576) :
    ∃ bs : List UInt8, Src W (.slice ao n c) bs ∧ bs.length = n ∧ bs.length ≤ Rows.uptoBulk d := by
  have hb : ∀ elems more, d = .slice elems more → elems.length ≤ Rows.uptoBulk d := fun elems more e => by
    subst e
    have := bulk_count elems
    simp only [Rows.uptoBulk]
    omega
  obtain ⟨bs, h1, h2⟩ := bytes_full h (fun el mo e => by have := hb el mo e; omega)
  refine ⟨bs, h1, h2, ?_⟩
  obtain ⟨fuel, hf⟩ := h
  rcases Go.Deep.open_slice1 Try.underlying27 cellsU8 hf with ⟨hcs, _⟩ | ⟨a, len, cap, m, n', V, D, Pl, hcs, _, _, _, _, hx, _⟩
  · simp [Value.cells] at hcs
    rw [h2, hcs.2.1]
    exact Nat.zero_le _
  · simp [Value.cells] at hcs
    simp only [Prod.mk.injEq] at hx
    have := hb _ _ hx.1
    simp at this
    omega
/-- lists of bytes out of their reading -/
theorem lists_u {ao : Option Addr} {n c : Nat} {d : DataW H} {pl : List MemPlace} (h : DataW.Trod enc Try.prog W 0 spare held 35 (.slice ao n c) d pl) (hk : Rows.uptoBulk d ≤ 1048576) :
    ∃ pss : List (List UInt8), Lists W (.slice ao n c) pss ∧ n ≤ c ∧ pss.length ≤ 1048576 ∧ (fl pss).length ≤ 1048576 := by
  obtain ⟨fuel, hf⟩ := h
  rcases Go.Deep.open_slice1 Try.underlying35 cellsBytes hf with ⟨hcs, _⟩ | ⟨a, len, cap, m, n', V, D, Pl, hcs, _, hl, _, hmm, hx, hel⟩
  · simp [Value.cells] at hcs
    obtain ⟨rfl, rfl, rfl⟩ := hcs
    exact ⟨[], Or.inl ⟨none, 0, rfl, rfl⟩, by omega, by simp, by simp [fl]⟩
  · simp [Value.cells] at hcs
    obtain ⟨rfl, rfl, rfl⟩ := hcs
    simp only [Prod.mk.injEq] at hx
    obtain ⟨rfl, _⟩ := hx
    have hlm : n ≤ m := by rw [hmm]; split <;> omega
    have hbd : Rows.uptoBulkAll ((List.range n).map D) ≤ 1048576 := by simp only [Rows.uptoBulk] at hk; omega
    have hn : n ≤ 1048576 := by
      have := bulk_count ((List.range n).map D)
      simp at this
      omega
    have hin : ∀ i, i < n → ∃ bs : List UInt8, Src W (V i) bs ∧ bs.length ≤ Rows.uptoBulk (D i) := by
      intro i hi
      obtain ⟨h1, h2⟩ := hel i (by omega)
      have hDi : Rows.uptoBulk (D i) ≤ 1048576 := Nat.le_trans (bulk_mem (List.mem_map.2 ⟨i, List.mem_range.2 hi, rfl⟩)) hbd
      obtain ⟨ai, ni, ci, hV⟩ : ∃ ai ni ci, V i = .slice ai ni ci := by
        rcases DataW.trod_slice Try.underlying27 h2 with ⟨hc, _⟩ | ⟨a', len', cap', _, _, _, _, hc, _⟩
        · simp at hc; exact ⟨_, _, _, hc⟩
        · simp at hc; exact ⟨_, _, _, hc⟩
      rw [hV] at h2 ⊢
      obtain ⟨bs, hb, _, hbl⟩ := bytes_b (pl := Pl i) (d := D i) ⟨n', by simpa [Value.cells] using h2⟩ hDi
      exact ⟨bs, hb, hbl⟩
    obtain ⟨pss, hpl, hps⟩ := list_of hin
    have hfl : (fl pss).length ≤ 1048576 := Nat.le_trans (fl_bulk (D := D) hpl (fun j x hj => (hps j x hj).2)) hbd
    rcases Nat.eq_zero_or_pos n with rfl | hpos
    · exact ⟨[], Or.inl ⟨_, _, rfl, rfl⟩, hl, by simp, by simp [fl]⟩
    · have h0 := (hel 0 (by omega)).1
      have ha : a = ⟨a.block, a.off, none⟩ := addr_plain (v := V 0) (by simpa [Addr.add] using h0)
      have hlt : a.block < W.heap.size := World.block_lt_of_cell? W a (u := V 0) (by simpa [Addr.add] using h0)
      generalize a.block = g at ha hlt
      generalize a.off = o at ha
      subst ha
      refine ⟨pss, Or.inr ⟨g, o, c, by rw [hpl], hlt, fun j hj => ?_⟩, hl, by omega, hfl⟩
      have h1 := (hel j (by omega)).1
      rw [add_plain] at h1
      exact ⟨V j, h1, (hps j _ (by simp [List.getD_eq_getElem?_getD, List.getElem?_eq_getElem hj])).1⟩
set_option maxRecDepth 100000 in
theorem act_u {fuel : Nat} {cs : List Value} {x : DataW H × List MemPlace} (h : DataW.trod enc Try.prog W 0 spare held fuel 37 cs = some x) (hk : Rows.uptoBulk x.1 ≤ 1048576) :
    ∃ (k a b : Int) (ap : Option Addr) (np cp : Nat) (pss : List (List UInt8)), cs = [.int .i64 k, .slice ap np cp, .int .i64 a, .int .i64 b] ∧ Lists W (.slice ap np cp) pss ∧ np ≤ cp ∧ pss.length ≤ 1048576 ∧ (fl pss).length ≤ 1048576 := by
  obtain ⟨⟨d0, q0⟩, ⟨d1, q1⟩, ⟨d2, q2⟩, ⟨d3, q3⟩, m, hxx, hlen, t0, t1, t2, t3⟩ := Go.Joins.trod_struct4 Try.underlying37 h
  subst hxx
  rw [cellsAct] at hlen
  obtain ⟨x0, x1, x2, x3, rfl⟩ := four_of hlen
  obtain ⟨K, e0, _⟩ := DataW.trod_int Try.underlying3 t0
  simp [cellsInt] at e0
  obtain ⟨A, e2, _⟩ := DataW.trod_int Try.underlying3 t2
  simp [cellsInt] at e2
  obtain ⟨B, e3, _⟩ := DataW.trod_int Try.underlying3 t3
  simp [cellsInt] at e3
  subst e0 e2 e3
  obtain ⟨ai, ki, ci, hV⟩ : ∃ ai ni ci, x1 = .slice ai ni ci := by
    rcases DataW.trod_slice Try.underlying35 t1 with ⟨hc1, _⟩ | ⟨a', len', cap', _, _, _, _, hc1, _⟩
    · simp [cellsLs] at hc1; exact ⟨_, _, _, hc1⟩
    · simp [cellsLs] at hc1; exact ⟨_, _, _, hc1⟩
  subst hV
  obtain ⟨pss, h1, h2, h3, h4⟩ := lists_u (W := W) (pl := q1) (d := d1) (ao := ai) (n := ki) (c := ci) ⟨m, by simpa [Value.cells, cellsInt, cellsLs] using t1⟩ (by simp only [Rows.uptoBulk, Rows.uptoBulkAll] at hk; omega)
  exact ⟨K, A, B, ai, ki, ci, pss, rfl, h1, h2, h3, h4⟩

set_option maxRecDepth 100000 in
theorem acts_u {ao : Option Addr} {n c : Nat} {d : DataW H} {pl : List MemPlace} (h : DataW.Trod enc Try.prog W 0 spare held 22 (.slice ao n c) d pl) (hk : Rows.uptoBulk d ≤ 1048576) :
    ActsU W (.slice ao n c) n := by
  obtain ⟨fuel, hf⟩ := h
  rcases Go.Deep.open_slice Try.underlying22 hf with ⟨hcs, _⟩ | ⟨a, len, cap, m, n', D, Pl, hcs, _, hl, hm, hmm, hx, hel⟩
  · simp [Value.cells] at hcs
    obtain ⟨rfl, rfl, rfl⟩ := hcs
    exact Or.inl ⟨_, _, rfl, rfl⟩
  · simp [Value.cells] at hcs
    obtain ⟨rfl, rfl, rfl⟩ := hcs
    have hlm : n ≤ m := by rw [hmm]; split <;> omega
    rw [cellsAct] at hel
    simp only [Prod.mk.injEq] at hx
    obtain ⟨rfl, _⟩ := hx
    have hbd : Rows.uptoBulkAll ((List.range n).map D) ≤ 1048576 := by simp only [Rows.uptoBulk] at hk; omega
    have hn : n ≤ 1048576 := by
      have := bulk_count ((List.range n).map D)
      simp at this
      omega
    have hw : ∀ i, i < n → Rows.uptoBulk (D i) ≤ 1048576 := fun i hi => Nat.le_trans (bulk_mem (List.mem_map.2 ⟨i, List.mem_range.2 hi, rfl⟩)) hbd
    have hone : ∀ i, i < n → ∃ (k e b : Int) (ap : Option Addr) (np cp : Nat) (pss : List (List UInt8)), W.cell? (a.add (i * 4)) = some (.int .i64 k) ∧ W.cell? ((a.add (i * 4)).add 1) = some (.slice ap np cp) ∧ W.cell? ((a.add (i * 4)).add 2) = some (.int .i64 e) ∧ W.cell? ((a.add (i * 4)).add 3) = some (.int .i64 b) ∧ Lists W (.slice ap np cp) pss ∧ np ≤ cp ∧ pss.length ≤ 1048576 ∧ (fl pss).length ≤ 1048576 := by
      intro i hi
      obtain ⟨cs', hc, ht⟩ := hel i (by omega)
      obtain ⟨k, e, b, ap, np, cp, pss, rfl, h2⟩ := act_u ht (hw i hi)
      have hh := World.cells?_some hc
      exact ⟨k, e, b, ap, np, cp, pss, by simpa [Addr.add] using hh.2.2 0 (by omega), by simpa using hh.2.2 1 (by omega), by simpa using hh.2.2 2 (by omega), by simpa using hh.2.2 3 (by omega), h2⟩
    rcases Nat.eq_zero_or_pos n with rfl | hpos
    · exact Or.inl ⟨_, _, rfl, rfl⟩
    · obtain ⟨x, _, _, _, _, _, _, h0, _⟩ := hone 0 hpos
      have ha : a = ⟨a.block, a.off, none⟩ := addr_plain (v := .int .i64 x) (by simpa [Addr.add] using h0)
      have hlt : a.block < W.heap.size := World.block_lt_of_cell? W a (u := .int .i64 x) (by simpa [Addr.add] using h0)
      generalize a.block = g at ha hlt
      generalize a.off = o at ha
      subst ha
      refine Or.inr ⟨g, o, c, rfl, hlt, hn, fun j hj => ?_⟩
      obtain ⟨k, e, b, ap, np, cp, pss, h0, h1, h2, h3, h4, h5, h6, h7⟩ := hone j hj
      simp only [add_plain] at h0 h1 h2 h3
      refine ⟨k, e, b, ap, np, cp, pss, fun i v hv => ?_, h4, h5, h6, h7⟩
      match i, hv with
      | 0, hv => simp only [List.getElem?_cons_zero, Option.some.injEq] at hv; subst hv; exact h0
      | 1, hv => simp only [List.getElem?_cons_succ, List.getElem?_cons_zero, Option.some.injEq] at hv; subst hv; exact h1
      | 2, hv => simp only [List.getElem?_cons_succ, List.getElem?_cons_zero, Option.some.injEq] at hv; subst hv; exact h2
      | 3, hv => simp only [List.getElem?_cons_succ, List.getElem?_cons_zero, Option.some.injEq] at hv; subst hv; exact h3
      | i + 4, hv => simp at hv
end

end Go.Proofs.Ytjhnbihohjimmaa
