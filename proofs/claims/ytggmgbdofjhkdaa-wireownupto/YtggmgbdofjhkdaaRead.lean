/- From what the rows say of the arguments to what the walks want: texts, things laid down, calls, bytes; and what the bound gives. -/
import Derived.Test.YtggmgbdofjhkdaaRows
import Derived.Test.YtggmgbdofjhkdaaLawPuts
import Derived.ProofKit
import Derived.OpenShut
import Derived.Deep.Strs
import Derived.JoinedCond
namespace Go.Proofs.Ytggmgbdofjhkdaa
open Go.ChangeShapes Go.WideShapes Go.ChangeAt Go.RowKit

theorem own : ownKnob Try.prog.godebug = none := by kernel_rfl
theorem laidOut : laidOutB Try.prog = true := by kernel_rfl
theorem cellsPut : Try.prog.cellsOf 27 = 4 := by kernel_rfl
theorem cellsInt : Try.prog.cellsOf 3 = 1 := by kernel_rfl
theorem cellsI64 : Try.prog.cellsOf 2 = 1 := by kernel_rfl
theorem cellsU64 : Try.prog.cellsOf 24 = 1 := by kernel_rfl
theorem cellsStr : Try.prog.cellsOf 9 = 1 := by kernel_rfl
theorem cellsStrs : Try.prog.cellsOf 25 = 1 := by kernel_rfl

theorem arr_one {args : Array Value} {v : Value} (h : args.toList = [v]) : args = #[v] := by cases args; simp at h; simp [h]
theorem arr_two {args : Array Value} {v u : Value} (h : args.toList = [v, u]) : args = #[v, u] := by cases args; simp at h; simp [h]
theorem arr_three {args : Array Value} {v u x : Value} (h : args.toList = [v, u, x]) : args = #[v, u, x] := by cases args; simp at h; simp [h]
theorem four {α : Type} {l : List α} (h : l.length = 4) : ∃ a b c d, l = [a, b, c, d] := by
  match l, h with
  | [a, b, c, d], _ => exact ⟨a, b, c, d, rfl⟩

theorem addr_plain {w : World} {a : Addr} {v : Value} (h : w.cell? a = some v) : a = ⟨a.block, a.off, none⟩ := by
  obtain ⟨b, o, sp⟩ := a
  cases sp with
  | none => rfl
  | some s =>
    unfold World.cell? at h
    split at h <;> simp at h

theorem add_plain (b o j : Nat) : (⟨b, o, none⟩ : Addr).add j = ⟨b, o + j, none⟩ := by
  by_cases h : j = 0
  · subst h; simp [Addr.add]
  · simp [Addr.add, h]

theorem list_of {α : Type} {P : Nat → α → Prop} : ∀ {n : Nat}, (∀ i, i < n → ∃ x, P i x) → ∃ l : List α, l.length = n ∧ ∀ j x, l[j]? = some x → P j x
  | 0, _ => ⟨[], rfl, by intro j x h; simp at h⟩
  | n + 1, h => by
    obtain ⟨l, hl, hp⟩ := list_of (n := n) (fun i hi => h i (by omega))
    obtain ⟨x, hx⟩ := h n (by omega)
    refine ⟨l ++ [x], by simp [hl], fun j y hj => ?_⟩
    rcases Nat.lt_or_ge j n with hjn | hjn
    · rw [List.getElem?_append_left (by omega)] at hj
      exact hp j y hj
    · rw [List.getElem?_append_right (by omega)] at hj
      have : j - l.length = 0 := by
        rcases Nat.eq_zero_or_pos (j - l.length) with h0 | h0
        · exact h0
        · rw [List.getElem?_eq_none (by simp; omega)] at hj; cases hj
      rw [this] at hj
      simp at hj
      subst hj
      obtain rfl : j = n := by omega
      exact hx

/-! ### what the bound counts -/
section
variable {H : Type}
theorem bulk_pos (d : DataW H) : 1 ≤ Rows.uptoBulk d := by
  cases d with
  | lit l => cases l <;> simp [Rows.uptoBulk]
  | _ => simp [Rows.uptoBulk]
theorem bulk_mem {d : DataW H} : ∀ {l : List (DataW H)}, d ∈ l → Rows.uptoBulk d ≤ Rows.uptoBulkAll l
  | [], h => by cases h
  | x :: r, h => by
    simp only [Rows.uptoBulkAll]
    rcases List.mem_cons.1 h with rfl | h
    · omega
    · have := bulk_mem h; omega
theorem bulk_count : ∀ (l : List (DataW H)), l.length ≤ Rows.uptoBulkAll l
  | [] => by simp
  | x :: r => by
    have h1 := bulk_pos x
    have h2 := bulk_count r
    simp only [Rows.uptoBulkAll, List.length_cons]
    omega
theorem bulk_texts (Sx : Nat → ByteArray) : ∀ (l : List Nat), (txs (l.map Sx)).length ≤ 11 * Rows.uptoBulkAll (l.map fun i => (DataW.lit (.string (Sx i).data.toList) : DataW H))
  | [] => by simp [txs]
  | i :: r => by
    have ih := bulk_texts Sx r
    have h1 := tx_length (Sx i)
    have h2 := sn_length_le (Sx i).size
    have h3 : Rows.uptoBulk (DataW.lit (.string (Sx i).data.toList) : DataW H) = (Sx i).size + 1 := by simp [Rows.uptoBulk]
    have h4 : (txs ((i :: r).map Sx)).length = (tx (Sx i)).length + (txs (r.map Sx)).length := by simp [txs]
    rw [h4]
    simp only [List.map_cons, Rows.uptoBulkAll, h3]
    omega
theorem small {l : List (DataW H)} (hk : Rows.uptoSmall H l = true) : Rows.uptoBulkAll l ≤ 1048576 := of_decide_eq_true hk
end

section
variable {H : Type} {enc : TypeId × Value → H} {W : World} {spare : Nat → Bool} {held : Bool}

/-- texts, out of their reading -/
theorem strs_of {fuel : Nat} {v : Value} {d : DataW H} {ps : List MemPlace} (h : DataW.trod enc Try.prog W 0 spare held fuel 25 [v] = some (d, ps)) :
    ∃ ss, Strs W v ss ∧ (txs ss).length ≤ 11 * Rows.uptoBulk d := by
  rcases Go.Deep.open_strs Try.underlying25 Try.underlying9 cellsStr h with ⟨hcs, _⟩ | ⟨a, len, cap, m, Sx, hcs, _, hl, hm, hmm, hx, hel⟩
  · simp at hcs
    exact ⟨[], Or.inl ⟨none, 0, hcs, rfl⟩, by simp [txs]⟩
  · simp at hcs
    subst hcs
    have hlm : len ≤ m := by rw [hmm]; split <;> omega
    refine ⟨(List.range len).map Sx, ?_, ?_⟩
    · rcases Nat.eq_zero_or_pos len with rfl | hpos
      · exact Or.inl ⟨_, _, rfl, by simp⟩
      · have h0 := (hel 0 (by omega)).1
        have ha : a = ⟨a.block, a.off, none⟩ := addr_plain (v := .string (Sx 0)) (by simpa [Addr.add] using h0)
        have hlt : a.block < W.heap.size := World.block_lt_of_cell? W a (u := .string (Sx 0)) (by simpa [Addr.add] using h0)
        generalize hg : a.block = g at ha hlt
        generalize ho : a.off = o at ha
        subst ha
        refine Or.inr ⟨g, o, cap, by simp, hlt, fun j hj => ?_⟩
        simp at hj
        have := (hel j (by omega)).1
        rw [add_plain] at this
        rw [this]
        simp [List.getD_eq_getElem?_getD, hj]
    · simp only [Prod.mk.injEq] at hx
      have := bulk_texts (H := H) Sx (List.range len)
      rw [hx.1]
      simp only [Rows.uptoBulk]
      omega

theorem wf_u64 {n : Int} (h : (Lit.int .u64 n).wf = true) : ∃ U : Nat, n = U ∧ U < 18446744073709551616 := by
  have hx : 0 ≤ n ∧ n ≤ 18446744073709551615 := by simpa [Lit.wf, IntKind.min, IntKind.max, IntKind.signed, IntKind.bits] using h
  exact ⟨n.toNat, by omega, by omega⟩
theorem wf_i64 {n : Int} (h : (Lit.int .i64 n).wf = true) : -9223372036854775808 ≤ n ∧ n ≤ 9223372036854775807 := by
  simpa [Lit.wf, IntKind.min, IntKind.max, IntKind.signed, IntKind.bits] using h

/-- one thing laid down, out of the reading of its four cells -/
theorem put_of {fuel : Nat} {cs : List Value} {d : DataW H} {ps : List MemPlace} (h : DataW.trod enc Try.prog W 0 spare held fuel 27 cs = some (d, ps)) (hb : Rows.uptoBulk d ≤ 1048576) :
    ∃ x : PutD, cs = [.int .i64 x.k, .int .u64 x.u, .int .i64 x.i, x.tv] ∧ PutOk W x.u x.i x.tv x.ss ∧ x.bytes.length ≤ 11 * Rows.uptoBulk d ∧ (txs x.ss).length ≤ 11 * Rows.uptoBulk d := by
  obtain ⟨xs, n, _, hx, hlen, hxl, hf⟩ := DataW.trod_struct Try.underlying27 h
  rw [cellsPut] at hlen
  obtain ⟨c0, c1, c2, c3, rfl⟩ := four hlen
  obtain ⟨x0, x1, x2, x3, rfl⟩ := four (show xs.length = 4 by rw [hxl]; rfl)
  have f0 := hf 0 _ rfl
  have f1 := hf 1 _ rfl
  have f2 := hf 2 _ rfl
  have f3 := hf 3 _ rfl
  simp [cellsInt, cellsI64, cellsU64, cellsStrs] at f0 f1 f2 f3
  obtain ⟨K, e0, _⟩ := DataW.trod_int Try.underlying3 f0
  obtain ⟨U, e1, _, w1⟩ := DataW.trod_int Try.underlying24 f1
  obtain ⟨I, e2, _, w2⟩ := DataW.trod_int Try.underlying2 f2
  simp at e0 e1 e2
  subst e0 e1 e2
  obtain ⟨d3, p3⟩ := x3
  obtain ⟨ss, hs, hsl⟩ := strs_of f3
  obtain ⟨U, rfl, hU⟩ := wf_u64 w1
  have hI := wf_i64 w2
  simp only [Prod.mk.injEq] at hx
  have hbd : Rows.uptoBulk d3 + 1 ≤ Rows.uptoBulk d := by
    rw [hx.1]
    simp only [Rows.uptoBulk, List.map_cons, List.map_nil, Rows.uptoBulkAll]
    omega
  refine ⟨⟨K, U, I, c3, ss⟩, rfl, ⟨hU, hI.1, hI.2, hs, by show (txs ss).length ≤ _; omega⟩, ?_, by show (txs ss).length ≤ _; omega⟩
  have := putB_len K U I ss
  show (putB K U I ss).length ≤ _
  omega

theorem allB_bulk {D : Nat → DataW H} : ∀ {n : Nat} {l : List PutD}, l.length = n → (∀ j x, l[j]? = some x → x.bytes.length ≤ 11 * Rows.uptoBulk (D j)) → (allB l).length ≤ 11 * Rows.uptoBulkAll ((List.range n).map D)
  | 0, l, hl, _ => by
    rw [List.length_eq_zero_iff.1 hl]; simp [allB]
  | n + 1, l, hl, h => by
    obtain ⟨m, x, rfl⟩ : ∃ m x, l = m ++ [x] := ⟨l.dropLast, l.getLast (by intro e; rw [e] at hl; simp at hl), (List.dropLast_concat_getLast _).symm⟩
    have hm : m.length = n := by simpa using hl
    have ih := allB_bulk (D := D) (n := n) (l := m) hm (fun j y hj => h j y (by
      have : j < m.length := by
        rcases Nat.lt_or_ge j m.length with h' | h'
        · exact h'
        · rw [List.getElem?_eq_none h'] at hj; cases hj
      rw [List.getElem?_append_left this]; exact hj))
    have hx := h n x (by rw [← hm]; simp)
    have e1 : (allB (m ++ [x])).length = (allB m).length + x.bytes.length := by rw [allB_append]; simp [allB]
    have e2 : Rows.uptoBulkAll ((List.range (n + 1)).map D) = Rows.uptoBulkAll ((List.range n).map D) + Rows.uptoBulk (D n) := by
      rw [List.range_succ, List.map_append]
      generalize (List.range n).map D = L
      induction L with
      | nil => simp [Rows.uptoBulkAll]
      | cons a r ih2 => simp only [List.cons_append, Rows.uptoBulkAll, ih2]; omega
    rw [e1, e2]
    omega

/-- things laid down, out of their reading -/
theorem puts_of {ao : Option Addr} {n c : Nat} {d : DataW H} {pl : List MemPlace} (h : DataW.Trod enc Try.prog W 0 spare held 22 (.slice ao n c) d pl) (hk : Rows.uptoBulk d ≤ 1048576) :
    ∃ ps, PutsAt W (.slice ao n c) ps ∧ ps.length ≤ 1048576 ∧ (allB ps).length ≤ 11534336 := by
  obtain ⟨fuel, hf⟩ := h
  rcases Go.Deep.open_slice Try.underlying22 hf with ⟨hcs, _⟩ | ⟨a, len, cap, m, n', D, Pl, hcs, _, hl, hm, hmm, hx, hel⟩
  · simp [Value.cells] at hcs
    obtain ⟨rfl, rfl, rfl⟩ := hcs
    exact ⟨[], Or.inl ⟨_, _, rfl, rfl⟩, by simp, by simp [allB]⟩
  · simp [Value.cells] at hcs
    obtain ⟨rfl, rfl, rfl⟩ := hcs
    have hlm : n ≤ m := by rw [hmm]; split <;> omega
    rw [cellsPut] at hel
    simp only [Prod.mk.injEq] at hx
    have hbd : Rows.uptoBulkAll ((List.range n).map D) ≤ 1048576 := by rw [hx.1] at hk; simp only [Rows.uptoBulk] at hk; omega
    have hone : ∀ i, i < n → ∃ x : PutD, (W.cell? (a.add (i * 4)) = some (.int .i64 x.k) ∧ W.cell? ((a.add (i * 4)).add 1) = some (.int .u64 x.u) ∧ W.cell? ((a.add (i * 4)).add 2) = some (.int .i64 x.i) ∧ W.cell? ((a.add (i * 4)).add 3) = some x.tv) ∧ PutOk W x.u x.i x.tv x.ss ∧ x.bytes.length ≤ 11 * Rows.uptoBulk (D i) := by
      intro i hi
      obtain ⟨cs', hc, ht⟩ := hel i (by omega)
      have hDi : Rows.uptoBulk (D i) ≤ 1048576 := Nat.le_trans (bulk_mem (List.mem_map.2 ⟨i, List.mem_range.2 hi, rfl⟩)) hbd
      obtain ⟨x, rfl, hok, hxl, _⟩ := put_of ht hDi
      have hh := World.cells?_some hc
      exact ⟨x, ⟨by simpa [Addr.add] using hh.2.2 0 (by omega), hh.2.2 1 (by omega), hh.2.2 2 (by omega), hh.2.2 3 (by omega)⟩, hok, hxl⟩
    obtain ⟨ps, hpl, hps⟩ := list_of hone
    refine ⟨ps, ?_, ?_, ?_⟩
    · rcases Nat.eq_zero_or_pos n with rfl | hpos
      · exact Or.inl ⟨_, _, rfl, List.length_eq_zero_iff.1 hpl⟩
      · obtain ⟨x, ⟨h0, _⟩, _⟩ := hone 0 hpos
        have ha : a = ⟨a.block, a.off, none⟩ := addr_plain (v := .int .i64 x.k) (by simpa [Addr.add] using h0)
        have hlt : a.block < W.heap.size := World.block_lt_of_cell? W a (u := .int .i64 x.k) (by simpa [Addr.add] using h0)
        generalize hg : a.block = g at ha hlt
        generalize ho : a.off = o at ha
        subst ha
        refine Or.inr ⟨g, o, c, by rw [hpl], hlt, fun j y hj => ?_⟩
        obtain ⟨⟨h0, h1, h2, h3⟩, hok, _⟩ := hps j y hj
        simp only [add_plain] at h0 h1 h2 h3
        exact ⟨h0, h1, h2, h3, hok⟩
    · have := bulk_count ((List.range n).map D)
      simp at this
      omega
    · have := allB_bulk (D := D) hpl (fun j x hj => (hps j x hj).2.2)
      omega
end

end Go.Proofs.Ytggmgbdofjhkdaa
