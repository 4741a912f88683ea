/- Contracts and pure facts that the proof needs, joined. -/
import Derived.Test.YtiibhccbbpgehabGreatG1
import Derived.ProofKit
import Derived.OpenShut
import Derived.Deep.Strs
import Derived.SizedLaws
import Derived.Test.YtiibhccbbpgehabGreatRows
import Derived.Deep.Slices
import Derived.JoinedCond
import Derived.LaidLaws
import Derived.Test.YtiibhccbbpgehabGreatG6

/- Bytes out of their reading, however many a slice may have. -/
namespace Go.Proofs.YtiibhccbbpgehabGreat
open Go.ChangeShapes Go.WideShapes Go.ChangeAt Go.RowKit

theorem cellsU8 : Tryz.prog.cellsOf 5 = 1 := by kernel_rfl
section
variable {H : Type} {enc : TypeId × Value → H} {W : World} {spare : Nat → Bool} {held : Bool}
theorem bytes_full {ao : Option Addr} {n c : Nat} {d : DataW H} {pl : List MemPlace} (h : DataW.Trod enc Tryz.prog W 0 spare held 22 (.slice ao n c) d pl) (hk : ∀ elems more, d = .slice elems more → elems.length ≤ 140737488355327) :
    ∃ bs : List UInt8, Src W (.slice ao n c) bs ∧ bs.length = n := by
  obtain ⟨fuel, hf⟩ := h
  rcases open_ints Tryz.underlying22 Tryz.underlying5 cellsU8 hf with ⟨hcs, _⟩ | ⟨a, len, cap, zs, hcs, _, hl, hm, hz, hx, hcell, hwz⟩
  · simp [Value.cells] at hcs
    obtain ⟨rfl, rfl, rfl⟩ := hcs
    exact ⟨[], ⟨by simp, Or.inl ⟨rfl, rfl⟩⟩, rfl⟩
  · simp [Value.cells] at hcs
    obtain ⟨rfl, rfl, rfl⟩ := hcs
    have hlz : n ≤ zs.length := by rw [hz]; split <;> omega
    simp only [Prod.mk.injEq] at hx
    have hn : n ≤ 140737488355327 := by
      have h1 := hk _ _ hx.1
      have h2 : (lits (H := H) .u8 (zs.take n)).length = n := by simp [lits]; omega
      omega
    have hu : ∀ i, i < n → (((zs.getD i 0).toNat.toUInt8).toNat : Int) = zs.getD i 0 := by
      intro i hi
      have hm' : zs.getD i 0 ∈ zs := by
        rw [List.getD_eq_getElem?_getD, List.getElem?_eq_getElem (by omega)]
        exact List.getElem_mem _
      have hw := hwz _ hm'
      have hb : 0 ≤ zs.getD i 0 ∧ zs.getD i 0 ≤ 255 := by simpa [Lit.wf, IntKind.min, IntKind.max, IntKind.signed, IntKind.bits] using hw
      simp only [Nat.toUInt8_eq, UInt8.toNat_ofNat']
      omega
    · refine ⟨(zs.take n).map (fun z => z.toNat.toUInt8), ⟨by simp; omega, Or.inr ⟨a, c, by simp; omega, by simp; omega, hm, fun h => World.block_lt_of_cell? W a (u := .int .u8 (zs.getD 0 0)) (by simp at h; simpa [Addr.add] using hcell 0 (by omega)), fun j hj => ?_⟩⟩, by simp; omega⟩
      have hj' : j < n ∧ j < zs.length := by simp at hj; omega
      have hju := hu j hj'.1
      rw [hcell j hj'.2, ← hju]
      simp [List.getD_eq_getElem?_getD, hj'.1, List.getElem?_eq_getElem hj'.2]
end

end Go.Proofs.YtiibhccbbpgehabGreat

/- From what the rows say of the arguments to what the walks want: numbers, bytes, lists of bytes. -/
namespace Go.Proofs.YtiibhccbbpgehabGreat
open Go.ChangeShapes Go.WideShapes Go.ChangeAt Go.RowKit

theorem own : ownKnob Tryz.prog.godebug = none := by kernel_rfl
theorem laidOut : laidOutB Tryz.prog = true := by kernel_rfl
theorem cellsBytes : Tryz.prog.cellsOf 22 = 1 := by kernel_rfl
theorem bytesU8 : Tryz.prog.bytesOf 5 = 1 := by kernel_rfl
theorem bytesSl : Tryz.prog.bytesOf 22 = 24 := by kernel_rfl

theorem wf_i64 {n : Int} (h : (Lit.int .i64 n).wf = true) : -9223372036854775808 ≤ n ∧ n ≤ 9223372036854775807 := by
  simpa [Lit.wf, IntKind.min, IntKind.max, IntKind.signed, IntKind.bits] using h
theorem wf_u32 {n : Int} (h : (Lit.int .u32 n).wf = true) : 0 ≤ n ∧ n ≤ 4294967295 := by
  simpa [Lit.wf, IntKind.min, IntKind.max, IntKind.signed, IntKind.bits] using h
theorem wf_u8 {n : Int} (h : (Lit.int .u8 n).wf = true) : 0 ≤ n ∧ n ≤ 255 := by
  simpa [Lit.wf, IntKind.min, IntKind.max, IntKind.signed, IntKind.bits] using h
theorem addr_plain {w : World} {a : Addr} {v : Value} (h : w.cell? a = some v) : a = ⟨a.block, a.off, none⟩ := by
  obtain ⟨b, o, sp⟩ := a
  cases sp with
  | none => rfl
  | some s =>
    unfold World.cell? at h
    split at h <;> simp at h
theorem add_plain (b o j : Nat) : (⟨b, o, none⟩ : Addr).add j = ⟨b, o + j, none⟩ := by
  by_cases h : j = 0
  · subst h; simp [Addr.add]
  · simp [Addr.add, h]
theorem list_of {α : Type} {P : Nat → α → Prop} : ∀ {n : Nat}, (∀ i, i < n → ∃ x, P i x) → ∃ l : List α, l.length = n ∧ ∀ j x, l[j]? = some x → P j x
  | 0, _ => ⟨[], rfl, by intro j x h; simp at h⟩
  | n + 1, h => by
    obtain ⟨l, hl, hp⟩ := list_of (n := n) (fun i hi => h i (by omega))
    obtain ⟨x, hx⟩ := h n (by omega)
    refine ⟨l ++ [x], by simp [hl], fun j y hj => ?_⟩
    rcases Nat.lt_or_ge j n with hjn | hjn
    · rw [List.getElem?_append_left (by omega)] at hj
      exact hp j y hj
    · rw [List.getElem?_append_right (by omega)] at hj
      have : j - l.length = 0 := by
        rcases Nat.eq_zero_or_pos (j - l.length) with h0 | h0
        · exact h0
        · rw [List.getElem?_eq_none (by simp; omega)] at hj; cases hj
      rw [this] at hj
      simp at hj
      subst hj
      obtain rfl : j = n := by omega
      exact hx
theorem weightsAll_mem {H : Type} {P : Program} {e : TypeId} : ∀ {l : List (DataW H)} {d : DataW H}, d ∈ l → ∀ n ∈ d.weights P e, n ∈ DataW.weightsAll P e l
  | d' :: r, d, hd, n, hn => by
    simp only [DataW.weightsAll, List.mem_append]
    rcases List.mem_cons.1 hd with rfl | h
    · exact Or.inl hn
    · exact Or.inr (weightsAll_mem h n hn)

section
variable {H : Type} {enc : TypeId × Value → H} {W : World} {spare : Nat → Bool} {held : Bool}
/-- bytes out of their reading -/
theorem bytes_w {ao : Option Addr} {n c : Nat} {d : DataW H} {pl : List MemPlace} (h : DataW.Trod enc Tryz.prog W 0 spare held 22 (.slice ao n c) d pl) (hk : ∀ x ∈ d.weights Tryz.prog 22, x ≤ reachBytes) :
    ∃ bs : List UInt8, Src W (.slice ao n c) bs ∧ bs.length = n ∧ bs.length ≤ reachBytes := by
  have hr : reachBytes < 2 ^ 47 := reachBytes_lt
  have hb : ∀ elems more, d = .slice elems more → elems.length ≤ reachBytes := fun elems more e => by
    subst e
    have := hk ((elems.length + more.length) * Tryz.prog.bytesOf 5) (by simp [DataW.weights, Tryz.underlying22])
    rw [bytesU8] at this
    omega
  obtain ⟨bs, h1, h2⟩ := bytes_full h (fun el mo e => by have := hb el mo e; omega)
  refine ⟨bs, h1, h2, ?_⟩
  obtain ⟨fuel, hf⟩ := h
  rcases Go.Deep.open_slice1 Tryz.underlying22 cellsU8 hf with ⟨hcs, _⟩ | ⟨a, len, cap, m, n', V, D, Pl, hcs, _, _, _, _, hx, _⟩
  · simp [Value.cells] at hcs
    rw [h2, hcs.2.1]
    exact Nat.zero_le _
  · simp [Value.cells] at hcs
    simp only [Prod.mk.injEq] at hx
    have := hb _ _ hx.1
    simp at this
    omega
/-- lists of bytes out of their reading -/
theorem lists_w {ao : Option Addr} {n c : Nat} {d : DataW H} {pl : List MemPlace} (h : DataW.Trod enc Tryz.prog W 0 spare held 23 (.slice ao n c) d pl) (hk : ∀ x ∈ d.weights Tryz.prog 23, x ≤ reachBytes) :
    ∃ pss : List (List UInt8), Lists W (.slice ao n c) pss ∧ pss.length = n ∧ n ≤ 140737488355327 := by
  have hr : reachBytes < 2 ^ 47 := reachBytes_lt
  obtain ⟨fuel, hf⟩ := h
  rcases Go.Deep.open_slice1 Tryz.underlying23 cellsBytes hf with ⟨hcs, _⟩ | ⟨a, len, cap, m, n', V, D, Pl, hcs, _, hl, _, hmm, hx, hel⟩
  · simp [Value.cells] at hcs
    obtain ⟨rfl, rfl, rfl⟩ := hcs
    exact ⟨[], Or.inl ⟨none, 0, rfl, rfl⟩, rfl, by omega⟩
  · simp [Value.cells] at hcs
    obtain ⟨rfl, rfl, rfl⟩ := hcs
    simp only [Prod.mk.injEq] at hx
    obtain ⟨rfl, _⟩ := hx
    have hlm : n ≤ m := by rw [hmm]; split <;> omega
    have hn : n ≤ 140737488355327 := by
      have := hk (((List.range n).map D).length * Tryz.prog.bytesOf 22 + ((List.range (m - n)).map fun j => D (n + j)).length * Tryz.prog.bytesOf 22) (by simp [DataW.weights, Tryz.underlying23, Nat.add_mul])
      rw [bytesSl] at this
      simp at this
      omega
    have hin : ∀ i, i < n → ∃ bs : List UInt8, Src W (V i) bs := by
      intro i hi
      obtain ⟨h1, h2⟩ := hel i (by omega)
      have hw : ∀ x ∈ (D i).weights Tryz.prog 22, x ≤ reachBytes := fun x hxm => hk x (by
        simp only [DataW.weights, Tryz.underlying23, List.mem_cons, List.mem_append]
        exact Or.inr (Or.inl (weightsAll_mem (List.mem_map.2 ⟨i, List.mem_range.2 hi, rfl⟩) x hxm)))
      obtain ⟨ai, ni, ci, hV⟩ : ∃ ai ni ci, V i = .slice ai ni ci := by
        rcases DataW.trod_slice Tryz.underlying22 h2 with ⟨hc, _⟩ | ⟨a', len', cap', _, _, _, _, hc, _⟩
        · simp at hc; exact ⟨_, _, _, hc⟩
        · simp at hc; exact ⟨_, _, _, hc⟩
      rw [hV] at h2 ⊢
      obtain ⟨bs, hb, _⟩ := bytes_w (pl := Pl i) (d := D i) ⟨n', by simpa [Value.cells] using h2⟩ hw
      exact ⟨bs, hb⟩
    obtain ⟨pss, hpl, hps⟩ := list_of hin
    rcases Nat.eq_zero_or_pos n with rfl | hpos
    · exact ⟨[], Or.inl ⟨_, _, rfl, rfl⟩, rfl, by omega⟩
    · have h0 := (hel 0 (by omega)).1
      have ha : a = ⟨a.block, a.off, none⟩ := addr_plain (v := V 0) (by simpa [Addr.add] using h0)
      have hlt : a.block < W.heap.size := World.block_lt_of_cell? W a (u := V 0) (by simpa [Addr.add] using h0)
      generalize a.block = g at ha hlt
      generalize a.off = o at ha
      subst ha
      refine ⟨pss, Or.inr ⟨g, o, c, by rw [hpl], hlt, fun j hj => ?_⟩, hpl, hn⟩
      have h1 := (hel j (by omega)).1
      rw [add_plain] at h1
      refine ⟨V j, h1, ?_⟩
      exact hps j _ (by simp [List.getD_eq_getElem?_getD, List.getElem?_eq_getElem hj])
theorem sized_at {ts : List TypeId} {ds : List (DataW H)} (h : ((DataW.weightsEach Tryz.prog ts ds).all fun x => decide (x ≤ reachBytes)) = true) {j : Nat} {t : TypeId} {d : DataW H} (ht : ts[j]? = some t) (hd : ds[j]? = some d) : ∀ x ∈ d.weights Tryz.prog t, x ≤ reachBytes :=
  fun x hx => of_decide_eq_true (List.all_eq_true.1 h _ (DataW.weights_mem_each ht hd x hx))
end

end Go.Proofs.YtiibhccbbpgehabGreat

/- Bytes, and lists of bytes, out of their reading, by their bulk (second form). -/
namespace Go.Proofs.YtiibhccbbpgehabGreat
open Go.ChangeShapes Go.WideShapes Go.ChangeAt Go.RowKit

section
variable {H : Type}
theorem bulk_pos (d : DataW H) : 1 ≤ Rows.uptoBulk d := by
  cases d with
  | lit l => cases l <;> simp [Rows.uptoBulk]
  | _ => simp [Rows.uptoBulk]
theorem bulk_mem {d : DataW H} : ∀ {l : List (DataW H)}, d ∈ l → Rows.uptoBulk d ≤ Rows.uptoBulkAll l
  | [], h => by cases h
  | x :: r, h => by
    simp only [Rows.uptoBulkAll]
    rcases List.mem_cons.1 h with rfl | h
    · omega
    · have := bulk_mem h; omega
theorem bulk_count : ∀ (l : List (DataW H)), l.length ≤ Rows.uptoBulkAll l
  | [] => by simp
  | x :: r => by
    have h1 := bulk_pos x
    have h2 := bulk_count r
    simp only [Rows.uptoBulkAll, List.length_cons]
    omega
theorem small {l : List (DataW H)} (hk : Rows.uptoSmall H l = true) : Rows.uptoBulkAll l ≤ 1048576 := of_decide_eq_true hk
theorem bulk_range (D : Nat → DataW H) (n : Nat) : Rows.uptoBulkAll ((List.range (n + 1)).map D) = Rows.uptoBulkAll ((List.range n).map D) + Rows.uptoBulk (D n) := by
  rw [List.range_succ, List.map_append]
  generalize (List.range n).map D = L
  induction L with
  | nil => simp [Rows.uptoBulkAll]
  | cons a r ih2 => simp only [List.cons_append, List.map_cons, List.map_nil, Rows.uptoBulkAll] at ih2 ⊢; omega
theorem fl_bulk {D : Nat → DataW H} : ∀ {n : Nat} {l : List (List UInt8)}, l.length = n → (∀ j x, l[j]? = some x → x.length ≤ Rows.uptoBulk (D j)) → (fl l).length ≤ Rows.uptoBulkAll ((List.range n).map D)
  | 0, l, hl, _ => by
    rw [List.length_eq_zero_iff.1 hl]; simp [fl]
  | n + 1, l, hl, h => by
    obtain ⟨m, x, rfl⟩ : ∃ m x, l = m ++ [x] := ⟨l.dropLast, l.getLast (by intro e; rw [e] at hl; simp at hl), (List.dropLast_concat_getLast _).symm⟩
    have hm : m.length = n := by simpa using hl
    have ih := fl_bulk (D := D) (n := n) (l := m) hm (fun j y hj => h j y (by
      have : j < m.length := by
        rcases Nat.lt_or_ge j m.length with h' | h'
        · exact h'
        · rw [List.getElem?_eq_none h'] at hj; cases hj
      rw [List.getElem?_append_left this]; exact hj))
    have hx := h n x (by rw [← hm]; simp)
    have e1 : (fl (m ++ [x])).length = (fl m).length + x.length := by simp [fl]
    rw [e1, bulk_range]
    omega
end

section
variable {H : Type} {enc : TypeId × Value → H} {W : World} {spare : Nat → Bool} {held : Bool}
/-- bytes out of their reading -/
theorem bytes_b {ao : Option Addr} {n c : Nat} {d : DataW H} {pl : List MemPlace} (h : DataW.Trod enc Tryz.prog W 0 spare held 22 (.slice ao n c) d pl) (hk : Rows.uptoBulk d ≤ 1048576) :
    ∃ bs : List UInt8, Src W (.slice ao n c) bs ∧ bs.length = n ∧ bs.length ≤ Rows.uptoBulk d := by
  have hb : ∀ elems more, d = .slice elems more → elems.length ≤ Rows.uptoBulk d := fun elems more e => by
    subst e
    have := bulk_count elems
    simp only [Rows.uptoBulk]
    omega
  obtain ⟨bs, h1, h2⟩ := bytes_full h (fun el mo e => by have := hb el mo e; omega)
  refine ⟨bs, h1, h2, ?_⟩
  obtain ⟨fuel, hf⟩ := h
  rcases Go.Deep.open_slice1 Tryz.underlying22 cellsU8 hf with ⟨hcs, _⟩ | ⟨a, len, cap, m, n', V, D, Pl, hcs, _, _, _, _, hx, _⟩
  · simp [Value.cells] at hcs
    rw [h2, hcs.2.1]
    exact Nat.zero_le _
  · simp [Value.cells] at hcs
    simp only [Prod.mk.injEq] at hx
    have := hb _ _ hx.1
    simp at this
    omega
/-- lists of bytes out of their reading -/
theorem lists_u {ao : Option Addr} {n c : Nat} {d : DataW H} {pl : List MemPlace} (h : DataW.Trod enc Tryz.prog W 0 spare held 23 (.slice ao n c) d pl) (hk : Rows.uptoBulk d ≤ 1048576) :
    ∃ pss : List (List UInt8), Lists W (.slice ao n c) pss ∧ n ≤ c ∧ pss.length ≤ 1048576 ∧ (fl pss).length ≤ 1048576 := by
  obtain ⟨fuel, hf⟩ := h
  rcases Go.Deep.open_slice1 Tryz.underlying23 cellsBytes hf with ⟨hcs, _⟩ | ⟨a, len, cap, m, n', V, D, Pl, hcs, _, hl, _, hmm, hx, hel⟩
  · simp [Value.cells] at hcs
    obtain ⟨rfl, rfl, rfl⟩ := hcs
    exact ⟨[], Or.inl ⟨none, 0, rfl, rfl⟩, by omega, by simp, by simp [fl]⟩
  · simp [Value.cells] at hcs
    obtain ⟨rfl, rfl, rfl⟩ := hcs
    simp only [Prod.mk.injEq] at hx
    obtain ⟨rfl, _⟩ := hx
    have hlm : n ≤ m := by rw [hmm]; split <;> omega
    have hbd : Rows.uptoBulkAll ((List.range n).map D) ≤ 1048576 := by simp only [Rows.uptoBulk] at hk; omega
    have hn : n ≤ 1048576 := by
      have := bulk_count ((List.range n).map D)
      simp at this
      omega
    have hin : ∀ i, i < n → ∃ bs : List UInt8, Src W (V i) bs ∧ bs.length ≤ Rows.uptoBulk (D i) := by
      intro i hi
      obtain ⟨h1, h2⟩ := hel i (by omega)
      have hDi : Rows.uptoBulk (D i) ≤ 1048576 := Nat.le_trans (bulk_mem (List.mem_map.2 ⟨i, List.mem_range.2 hi, rfl⟩)) hbd
      obtain ⟨ai, ni, ci, hV⟩ : ∃ ai ni ci, V i = .slice ai ni ci := by
        rcases DataW.trod_slice Tryz.underlying22 h2 with ⟨hc, _⟩ | ⟨a', len', cap', _, _, _, _, hc, _⟩
        · simp at hc; exact ⟨_, _, _, hc⟩
        · simp at hc; exact ⟨_, _, _, hc⟩
      rw [hV] at h2 ⊢
      obtain ⟨bs, hb, _, hbl⟩ := bytes_b (pl := Pl i) (d := D i) ⟨n', by simpa [Value.cells] using h2⟩ hDi
      exact ⟨bs, hb, hbl⟩
    obtain ⟨pss, hpl, hps⟩ := list_of hin
    have hfl : (fl pss).length ≤ 1048576 := Nat.le_trans (fl_bulk (D := D) hpl (fun j x hj => (hps j x hj).2)) hbd
    rcases Nat.eq_zero_or_pos n with rfl | hpos
    · exact ⟨[], Or.inl ⟨_, _, rfl, rfl⟩, hl, by simp, by simp [fl]⟩
    · have h0 := (hel 0 (by omega)).1
      have ha : a = ⟨a.block, a.off, none⟩ := addr_plain (v := V 0) (by simpa [Addr.add] using h0)
      have hlt : a.block < W.heap.size := World.block_lt_of_cell? W a (u := V 0) (by simpa [Addr.add] using h0)
      generalize a.block = g at ha hlt
      generalize a.off = o at ha
      subst ha
      refine ⟨pss, Or.inr ⟨g, o, c, by rw [hpl], hlt, fun j hj => ?_⟩, hl, by omega, hfl⟩
      have h1 := (hel j (by omega)).1
      rw [add_plain] at h1
      exact ⟨V j, h1, (hps j _ (by simp [List.getD_eq_getElem?_getD, List.getElem?_eq_getElem hj])).1⟩
theorem bytes_k {ao : Option Addr} {n c : Nat} {d : DataW H} {pl : List MemPlace} (h : DataW.Trod enc Tryz.prog W 0 spare held 22 (.slice ao n c) d pl) (hk : Rows.uptoBulk d ≤ 1048576) :
    ∃ bs : List UInt8, Src W (.slice ao n c) bs ∧ bs.length ≤ 1048576 := by
  obtain ⟨bs, h1, _, h3⟩ := bytes_b h hk
  exact ⟨bs, h1, Nat.le_trans h3 hk⟩
theorem lists_k {ao : Option Addr} {n c : Nat} {d : DataW H} {pl : List MemPlace} (h : DataW.Trod enc Tryz.prog W 0 spare held 23 (.slice ao n c) d pl) (hk : Rows.uptoBulk d ≤ 1048576) :
    ∃ pss : List (List UInt8), Lists W (.slice ao n c) pss ∧ pss.length ≤ 1048576 ∧ (fl pss).length ≤ 1048576 := by
  obtain ⟨pss, h1, _, h3, h4⟩ := lists_u h hk
  exact ⟨pss, h1, h3, h4⟩
end
end Go.Proofs.YtiibhccbbpgehabGreat

/- StreamPoisoned answers true. -/
namespace Go.Proofs.YtiibhccbbpgehabGreat
open Go.RowKit Go.BigFrame

theorem newMax (w : World) : Calls Tryz.prog 6 #[.int .i64 2097152] w fun e w' => ∃ b, e = .returned (.tuple #[.pointer (some ⟨b, 0, none⟩), .int .i64 0]) ∧ w.heap.size ≤ b ∧ Sd w' b b (.slice none 0 0) 2097152 zS ∧ Below w.heap.size w w' := new_ok8 w 2097152 (by omega) (by omega)
theorem fl_one (bs : List UInt8) : fl [bs] = bs := by simp [fl]

set_option maxRecDepth 100000 in
set_option maxHeartbeats 8000000 in
theorem lawPois_any (v v2 : Value) (bs : List UInt8) (pss : List (List UInt8)) (w : World) (hs : Src w v bs) (hbl : bs.length ≤ 1048576) (hp : Lists w v2 pss) (hn : pss.length ≤ 1048576) :
    Calls Tryz.prog 3 #[v, v2] w fun e w' => e = .returned (.bool true) ∧ Below w.heap.size w w' := by
  have hl6 : BY.length = 6 := by_len
  obtain ⟨us, hus⟩ := lists_lsts hp
  have HP := hid hus
  have HS := hid hs
  obtain ⟨av, cv, rfl⟩ := src_shape hs
  obtain ⟨ap, cp, rfl⟩ := hus.shape
  clear hs hp hus
  go_enter Tryz.func3, Tryz.ntmps3
  go_wp2_with fail
  refine (newMax w).mono ?_
  rintro e w1 ⟨b, rfl, hbw, hsd, hb1⟩
  have HBW := hid hbw
  have HW1 := hid (below_walk w1 (.cells #[.slice av bs.length cv] 22))
  have HSD2 := hid (hsd.below HW1.out)
  have HB2 := hid (below_then hb1 HW1.out)
  have HL2 := hid (lsts_one w1 _ bs (HS.out.below hb1))
  have HVn := hid (show bs ≠ [] → (Value.slice av bs.length cv).ownBlock ≠ some b from fun h e => by have := src_lt HS.out h e; have := HBW.out; omega)
  have HLb := hid hsd.kb.lt
  clear hbw hsd hb1
  go_wp2_with fail
  obtain ⟨Z, HZe⟩ : ∃ n, Hid (w1.heap.size = n) := ⟨_, rfl⟩
  rw [HZe.out] at HL2 HLb
  try rw [HZe.out]
  generalize w1.alloc (.cells #[.slice av bs.length cv] 22) = w2 at HW1 HSD2 HB2 HL2 ⊢
  have HFE := hid (kfeed_any HSD2.out rfl _ _ _ (fun W vd hg => HL2.out.gd hg (by show some Z ≠ some b; have := HLb.out; simp; omega) (fun k e e2 => by cases e2) (fun j h => by match j, h with | 0, h => exact HVn.out h | j + 1, _ => exact (by show nS.ownBlock ≠ some b; intro e; cases e)) (fun j k _ e e2 => by cases e2)) (by simp) (by rw [fl_one]; show 0 + bs.length ≤ _; omega) (by rw [fl_one]; omega))
  rw [fl_one] at HFE
  obtain ⟨a, HA⟩ : ∃ a, Hid (runP 2097152 nev (zS, [], 0) bs = a) := ⟨_, rfl⟩
  rw [HA.out] at HFE
  refine HFE.out.mono ?_
  rintro e w3 ⟨vl, v4, fs, rfl, hof, hsd3, hg3, hm3⟩
  obtain ⟨y, HY⟩ : ∃ y, Hid (a.1.why = y) := ⟨_, rfl⟩
  obtain ⟨t, HTt⟩ : ∃ y, Hid (a.1.wat = y) := ⟨_, rfl⟩
  rw [HY.out, HTt.out]
  have HW4 := hid (below_walk w3 (.cells [Value.int .i64 y, .int .i64 t].toArray 30))
  have HSD := hid (hsd3.below HW4.out)
  have HB4 := hid (below_then (Below.trans HB2.out ((HSD2.out.low hg3).mono HBW.out)) HW4.out)
  have HF := hid (hp_new w3 (.cells [Value.int .i64 y, .int .i64 t].toArray 30))
  obtain ⟨al, cl, el⟩ := hof.shape
  subst el
  clear hof hsd3 hg3 hm3 HFE HSD2 HL2
  go_upto_region 5 with (refine st_new (by rfl) 30 _ _ (by rfl) [Value.int .i64 y, .int .i64 t] (by rfl) (by rfl) 30 _ faultSize rfl (fault_one _ _) ?_)
  obtain ⟨F, HFe⟩ : ∃ n, Hid (w3.heap.size = n) := ⟨_, rfl⟩
  rw [HFe.out] at HF
  try rw [HFe.out]
  generalize w3.alloc (.cells [Value.int .i64 y, .int .i64 t].toArray 30) = w4 at HW4 HSD HB4 HF ⊢
  have f0 : w4.cell? ⟨F, 0, none⟩ = some (.int .i64 y) := by simp [World.cell?, HF.out]
  have f1 : w4.cell? ⟨F, 1, none⟩ = some (.int .i64 t) := by simp [World.cell?, HF.out]
  by_cases hy : y = 0
  · as_aux_lemma =>
      have ht : t = 0 := by rw [← HTt.out]; exact (HSD.out.good.ok (HY.out.trans hy)).1
      have HY0 := hid (HY.out.trans hy)
      have HT0 := hid (HTt.out.trans ht)
      subst hy ht
      have n1 : ∀ W, (binOp .eql 30 (.agg #[.int .i64 0, .int .i64 0]) (.agg #[.int .i64 0, .int .i64 0])).run Tryz.prog W = .ok (.bool true) W := fun W => fault_eql 0 0 0 0 W
      go_upto_region 6 with (refine bd_row (by rfl) 30 #[] (by rfl) _ (by simp) _ built_fz ?_)
      have HRF := hid (Bel.range (range_row HF.out) (hp_lt HF.out))
      have HPO := hid (fun q : Bel w4 => kpoison_any (HSD.out.below q.bel))
      rw [HY0.out, HT0.out] at HPO
      have ib : Nonempty (Bel w4) := bel_some w4
      refine wp_region_quiet_bel (by kernel_rfl) (by kernel_rfl) ?_
      go_big_quiet_step (fail)
      go_big_quiet_step (first | (go_at_call 8; exact bel_of (HPO.out _)))
      refine wpQuiet_want (by rfl) fun K hK => quiet_ld 30 (.tmp 8) (by rfl) F 0 (by rfl) _ _ HRF.out Tryz.underlying30 rfl faultSize (hK _ ?_)
      simp only [Act.put, List.setIfInBounds_toArray, List.set_cons_succ, List.set_cons_zero]
      go_big_quiet_step (fail)
      go_big_quiet_step (fail)
      go_big_quiet_step (first | (go_at_call 9; exact bel_of (awake8_any _)))
      go_big_quiet_step (fail)
      go_big_quiet_step (fail)
      refine wpQuiet_nil ?_
      rintro w8 ⟨⟨w8', hb8⟩, hw8⟩
      obtain rfl : w8 = w8' := hw8
      have HB8 := hid (below_then HB4.out hb8)
      clear hb8
      go_wp2
      go_ret
      exact ⟨rfl, HB8.out⟩
  · have n1 : ∀ W, (binOp .eql 30 (.agg #[.int .i64 y, .int .i64 t]) (.agg #[.int .i64 0, .int .i64 0])).run Tryz.prog W = .ok (.bool false) W := fun W => by rw [fault_eql]; simp [hy]
    have HC := hid (kcount_any HSD.out)
    obtain ⟨ca, HCa⟩ : ∃ n, Hid (a.1.came = n) := ⟨_, rfl⟩
    obtain ⟨wh, HWh⟩ : ∃ n, Hid (a.1.whole = n) := ⟨_, rfl⟩
    rw [HCa.out, HWh.out] at HC
    have HYn := hid (show a.1.why ≠ 0 by rw [HY.out]; exact hy)
    go_upto_region 7 with (refine bd_row (by rfl) 30 #[] (by rfl) _ (by simp) _ built_fz ?_)
    clear f0 f1 n1
    go_wp2_with fail
    refine HC.out.mono ?_
    rintro e w5 ⟨rfl, q5, hw5⟩
    have HQ5 := hid (show Below w4.heap.size w4 w5 by rw [hw5]; exact bel_drw w4 q5)
    clear hw5 HC
    go_wp2
    go_loopw [11] (fun vi wr => ∃ k : Nat, k ≤ pss.length ∧ vi = .int .i64 k ∧ Hid (Below w4.heap.size w4 wr)) (fun vi _ => pss.length - (intOf vi).toNat)
    case atStart => exact ⟨0, by omega, rfl, HQ5.out⟩
    case round =>
      obtain ⟨k, hk, rfl, HQ⟩ := hrel
      have HYe := hid HY.out
      have HTe := hid HTt.out
      clear HY
      have HY := hid HYn.out
      by_cases hlt : k < pss.length
      · as_aux_lemma =>
        obtain ⟨g, o, rfl, hcl, hsr⟩ := (HP.out.below (below_then HB4.out HQ.out)).at k hlt
        obtain ⟨au, nu, cu, eu⟩ := src_named hsr
        rw [eu] at hcl
        have HGlt := hid (World.block_lt_of_cell? wr ⟨g, o + k, none⟩ hcl)
        clear hsr eu
        obtain ⟨w0x, hw0x⟩ : ∃ x, x = wr := ⟨_, rfl⟩
        have HSDr := hid (HSD.out.below HQ.out)
        clear HSD
        have HSD := hid HSDr.out
        clear HSDr
        go_upto_region 11 with fail
        refine wp_noPanic (wp_region_held_drew (S := fun W => Below wr.heap.size wr W) (by kernel_rfl) (bel_drw wr 1) ?_)
        intro hHeld
        refine wpAnyH_take (i := 0) (v := .pointer (some ⟨b, 0, none⟩)) rfl (by kernel_rfl) (by kernel_rfl) (by kernel_rfl) (fun _ _ _ h => h) (Or.inl ⟨by rfl, fun W _ => by go_simp⟩) hHeld ?_
        simp only [Act.put, List.getElem_toArray, List.getElem_cons_zero, List.setIfInBounds_toArray, List.set_cons_succ, List.set_cons_zero]
        refine wpAnyH_take (i := 1) (v := .slice (some ⟨g, o, none⟩) pss.length cp) rfl (by kernel_rfl) (by kernel_rfl) (by kernel_rfl) (fun _ _ _ h => h) (Or.inl ⟨by rfl, fun W _ => by go_simp⟩) hHeld ?_
        simp only [Act.put, List.getElem_toArray, List.getElem_cons_zero, List.getElem_cons_succ, List.setIfInBounds_toArray, List.set_cons_succ, List.set_cons_zero]
        refine wpAnyH_take (i := 2) (v := .int .i64 (k : Int)) rfl (by kernel_rfl) (by kernel_rfl) (by kernel_rfl) (fun _ _ _ h => h) (Or.inl ⟨by rfl, fun W _ => by go_simp⟩) hHeld ?_
        simp only [Act.put, List.getElem_toArray, List.getElem_cons_zero, List.getElem_cons_succ, List.setIfInBounds_toArray, List.set_cons_succ, List.set_cons_zero]
        refine wpAnyH_take (i := 3) (v := .pointer (some ⟨g, o + k, none⟩)) rfl (by kernel_rfl) (by kernel_rfl) (by kernel_rfl) (fun _ _ _ h => h) (Or.inl ⟨by rfl, fun W _ => by have hfact := hlt; go_simp; first | done | simp [hfact]⟩) hHeld ?_
        simp only [Act.put, List.getElem_toArray, List.getElem_cons_zero, List.getElem_cons_succ, List.setIfInBounds_toArray, List.set_cons_succ, List.set_cons_zero]
        refine wpAnyH_take (i := 4) (v := .slice au nu cu) rfl (by kernel_rfl) (by kernel_rfl) (by kernel_rfl) (fun _ _ _ h => h) (Or.inl ⟨by rfl, fun W hW => by have hcell := (hW.cell (p := ⟨g, o + k, none⟩) HGlt.out).trans hcl; clear hW; go_simp⟩) hHeld ?_
        simp only [Act.put, List.getElem_toArray, List.getElem_cons_zero, List.getElem_cons_succ, List.setIfInBounds_toArray, List.set_cons_succ, List.set_cons_zero]
        have HQx := hid (bel_drw wr 1)
        obtain ⟨wq, HWX⟩ : ∃ x, Hid (wr.drewN 1 = x) := ⟨_, rfl⟩
        have HWY := hid (show wr.drew = wq from HWX.out)
        rw [HWX.out] at HQx
        rw [HWY.out] at hHeld ⊢
        have HQwq := hid HQx.out
        refine wpAnyH_ready (rs := [5, 11]) (by kernel_rfl) (by simp) ?_
        refine AllReadyH.cons rfl (fun K hK => ?_) (AllReadyH.cons rfl (fun K hK => ?_) AllReadyH.nil)
        · skip
          go_simp
          refine (abye_any wq).mono ?_
          rintro e w2 ⟨v63, rfl, ho, hb⟩
          have HQw2 := hid (below_then HQwq.out hb)
          obtain ⟨a63, c63, e63⟩ := ho.shape
          rw [hl6] at e63
          subst e63
          clear ho hb
          go_wp2_with fail
          refine hK.out _ _ HQw2.out (fun hHeld => ?_)
          clear hK K
          try simp only [Act.put, List.getElem_toArray, List.getElem_cons_zero, List.getElem_cons_succ, List.setIfInBounds_toArray, List.set_cons_succ, List.set_cons_zero]
          refine wpAnyH_ready (rs := [6, 11]) (by kernel_rfl) (by simp) ?_
          refine AllReadyH.cons rfl (fun K hK => ?_) (AllReadyH.cons rfl (fun K hK => ?_) AllReadyH.nil)
          · skip
            have HWA := hid (below_walk w2 (.cells #[.slice au nu cu, .slice a63 6 c63] 22))
            have HQw3 := hid (below_then HQw2.out HWA.out)
            go_simp
            refine hK.out _ _ HQw3.out (fun hHeld => ?_)
            clear hK K
            try simp only [Act.put, List.getElem_toArray, List.getElem_cons_zero, List.getElem_cons_succ, List.setIfInBounds_toArray, List.set_cons_succ, List.set_cons_zero]
            generalize w2.alloc (.cells #[.slice au nu cu, .slice a63 6 c63] 22) = w3 at *
            refine wpAnyH_ready (rs := [7, 11]) (by kernel_rfl) (by simp) ?_
            refine AllReadyH.cons rfl (fun K hK => ?_) (AllReadyH.cons rfl (fun K hK => ?_) AllReadyH.nil)
            · skip
              have HFE := hid (kfeed_bad (HSD.out.below HQw3.out) HY.out)
              rw [HCa.out] at HFE
              go_simp
              refine (HFE.out _).mono ?_
              rintro e w4 ⟨rfl, hb⟩
              have HQw4 := hid (below_then HQw3.out hb)
              clear hb HFE
              go_wp2_with fail
              refine hK.out _ _ HQw4.out (fun hHeld => ?_)
              clear hK K
              try simp only [Act.put, List.getElem_toArray, List.getElem_cons_zero, List.getElem_cons_succ, List.setIfInBounds_toArray, List.set_cons_succ, List.set_cons_zero]
              refine wpAnyH_take (i := 8) (v := .tuple #[.slice none 0 0, .agg [Value.int .i64 80, .int .i64 (ca : Int)].toArray]) rfl (by kernel_rfl) (by kernel_rfl) (by kernel_rfl) (fun _ _ _ h => h) (Or.inl ⟨by rfl, fun W _ => by go_simp⟩) hHeld ?_
              simp only [Act.put, List.getElem_toArray, List.getElem_cons_zero, List.getElem_cons_succ, List.setIfInBounds_toArray, List.set_cons_succ, List.set_cons_zero]
              refine wpAnyH_take (i := 9) (v := .slice none 0 0) rfl (by kernel_rfl) (by kernel_rfl) (by kernel_rfl) (fun _ _ _ h => h) (Or.inl ⟨by rfl, fun W _ => by go_simp⟩) hHeld ?_
              simp only [Act.put, List.getElem_toArray, List.getElem_cons_zero, List.getElem_cons_succ, List.setIfInBounds_toArray, List.set_cons_succ, List.set_cons_zero]
              refine wpAnyH_take (i := 10) (v := .agg [Value.int .i64 80, .int .i64 (ca : Int)].toArray) rfl (by kernel_rfl) (by kernel_rfl) (by kernel_rfl) (fun _ _ _ h => h) (Or.inl ⟨by rfl, fun W _ => by go_simp⟩) hHeld ?_
              simp only [Act.put, List.getElem_toArray, List.getElem_cons_zero, List.getElem_cons_succ, List.setIfInBounds_toArray, List.set_cons_succ, List.set_cons_zero]
              refine wpAnyH_ready (rs := [11]) (by kernel_rfl) (by simp) ?_
              refine AllReadyH.cons rfl (fun K hK => ?_) AllReadyH.nil
              have HWF := hid (below_walk w4 (.cells #[.int .i64 0, .int .i64 0] 30))
              have HEw5 := hid (hp_new w4 (.cells #[.int .i64 0, .int .i64 0] 30))
              have HQw5 := hid (below_then HQw4.out HWF.out)
              have HEl := hid HQw4.out.size
              refine step_alloc_row8 (by rfl) 30 (by rfl) _ zeroFault ?_
              refine hK.out _ _ HQw5.out (fun hHeld => ?_)
              clear hK K
              try simp only [Act.put, List.getElem_toArray, List.getElem_cons_zero, List.getElem_cons_succ, List.setIfInBounds_toArray, List.set_cons_succ, List.set_cons_zero]
              obtain ⟨E, HEe⟩ : ∃ n, Hid (w4.heap.size = n) := ⟨_, rfl⟩
              rw [HEe.out] at HEw5 HEl
              try rw [HEe.out]
              generalize w4.alloc (.cells #[.int .i64 0, .int .i64 0] 30) = w5 at *
              refine wpAnyH_take (i := 12) (v := .slice none 0 0) rfl (by kernel_rfl) (by kernel_rfl) (by kernel_rfl) (fun _ _ _ h => h) (Or.inl ⟨by rfl, fun W _ => by go_simp⟩) hHeld ?_
              simp only [Act.put, List.getElem_toArray, List.getElem_cons_zero, List.getElem_cons_succ, List.setIfInBounds_toArray, List.set_cons_succ, List.set_cons_zero]
              refine wpAnyH_ready (rs := [13]) (by kernel_rfl) (by simp) ?_
              refine AllReadyH.cons rfl (fun K hK => ?_) AllReadyH.nil
              refine step_store_row (by rfl) 30 _ _ (by rfl) E [Value.int .i64 80, .int .i64 (ca : Int)] (by rfl) (by rfl) 30 _ HEw5.out faultSize rfl (fault_one _ _) ?_
              intro wz hwz
              have HQz := hid (Below.of_gb HQw5.out hwz.grown (by have := HEl.out; omega))
              have HEz := hid hwz.blk
              refine hK.out _ _ HQz.out (fun hHeld => ?_)
              clear hK K
              try simp only [Act.put, List.getElem_toArray, List.getElem_cons_zero, List.getElem_cons_succ]
              refine wpAnyH_done (by kernel_rfl) ?_ _
              simp only [noPanic]
              clear hHeld hwz
              have hcl2 : wz.cell? ⟨g, o + k, none⟩ = some (.slice au nu cu) := (HQz.out.cell (p := ⟨g, o + k, none⟩) HGlt.out).trans hcl
              have HSO := hid (ksome_bad (HSD.out.below HQz.out) HY.out)
              rw [HCa.out] at HSO
              go_wp2_with fail
              refine (HSO.out _ _).mono ?_
              rintro e w8 ⟨rfl, hb8⟩
              have HW9 := hid (below_walk w8 (.cells [Value.int .i64 80, .int .i64 (ca : Int)].toArray 30))
              have HN9 := hid (hp_new w8 (.cells [Value.int .i64 80, .int .i64 (ca : Int)].toArray 30))
              have HQ9 := hid (below_then (below_then HQz.out hb8) HW9.out)
              have HE9 := hid (bel_keep HW9.out (bel_keep hb8 HEz.out))
              clear hb8 HSO hcl2
              go_upto_region 13 with (refine st_new (by rfl) 30 _ _ (by rfl) [Value.int .i64 80, .int .i64 (ca : Int)] (by rfl) (by rfl) 30 _ faultSize rfl (fault_one _ _) ?_)
              obtain ⟨Y9, HYe⟩ : ∃ n, Hid (w8.heap.size = n) := ⟨_, rfl⟩
              rw [HYe.out] at HN9
              try rw [HYe.out]
              generalize w8.alloc (.cells [Value.int .i64 80, .int .i64 (ca : Int)].toArray 30) = w9 at HW9 HN9 HQ9 HE9 ⊢
              have f0 : w9.cell? ⟨E, 0, none⟩ = some (.int .i64 80) := by simp [World.cell?, HE9.out]
              have f1 : w9.cell? ⟨E, 1, none⟩ = some (.int .i64 (ca : Int)) := by simp [World.cell?, HE9.out]
              have g0 : w9.cell? ⟨Y9, 0, none⟩ = some (.int .i64 80) := by simp [World.cell?, HN9.out]
              have g1 : w9.cell? ⟨Y9, 1, none⟩ = some (.int .i64 (ca : Int)) := by simp [World.cell?, HN9.out]
              have n1 : ∀ W, (binOp .neq 30 (.agg #[.int .i64 80, .int .i64 (ca : Int)]) (.agg #[.int .i64 80, .int .i64 (ca : Int)])).run Tryz.prog W = .ok (.bool false) W := fun W => by rw [fault_neq]; simp
              go_wp2_with (refine bd_row (by rfl) 30 #[(0, .const (.int .i64 80)), (1, .tmp 89)] (by rfl) _ (by simp [Act.eval]) _ (built_ft _ _) ?_)
              exact ⟨⟨k + 1, hlt, by simp, below_then HQ.out HQ9.out⟩, by simp [intOf]; omega⟩
            · as_aux_lemma =>
                have HWF := hid (below_walk w3 (.cells #[.int .i64 0, .int .i64 0] 30))
                have HEw4 := hid (hp_new w3 (.cells #[.int .i64 0, .int .i64 0] 30))
                have HQw4 := hid (below_then HQw3.out HWF.out)
                have HEl := hid HQw3.out.size
                refine step_alloc_row8 (by rfl) 30 (by rfl) _ zeroFault ?_
                refine hK.out _ _ HQw4.out (fun hHeld => ?_)
                clear hK K
                try simp only [Act.put, List.getElem_toArray, List.getElem_cons_zero, List.getElem_cons_succ, List.setIfInBounds_toArray, List.set_cons_succ, List.set_cons_zero]
                obtain ⟨E, HEe⟩ : ∃ n, Hid (w3.heap.size = n) := ⟨_, rfl⟩
                rw [HEe.out] at HEw4 HEl
                try rw [HEe.out]
                generalize w3.alloc (.cells #[.int .i64 0, .int .i64 0] 30) = w4 at *
                refine wpAnyH_ready (rs := [7]) (by kernel_rfl) (by simp) ?_
                refine AllReadyH.cons rfl (fun K hK => ?_) AllReadyH.nil
                have HFE := hid (kfeed_bad (HSD.out.below HQw4.out) HY.out)
                rw [HCa.out] at HFE
                go_simp
                refine (HFE.out _).mono ?_
                rintro e w5 ⟨rfl, hb⟩
                have HQw5 := hid (below_then HQw4.out hb)
                have HEw5 := hid (bel_keep hb HEw4.out)
                clear hb HFE
                go_wp2_with fail
                refine hK.out _ _ HQw5.out (fun hHeld => ?_)
                clear hK K
                try simp only [Act.put, List.getElem_toArray, List.getElem_cons_zero, List.getElem_cons_succ, List.setIfInBounds_toArray, List.set_cons_succ, List.set_cons_zero]
                refine wpAnyH_take (i := 8) (v := .tuple #[.slice none 0 0, .agg [Value.int .i64 80, .int .i64 (ca : Int)].toArray]) rfl (by kernel_rfl) (by kernel_rfl) (by kernel_rfl) (fun _ _ _ h => h) (Or.inl ⟨by rfl, fun W _ => by go_simp⟩) hHeld ?_
                simp only [Act.put, List.getElem_toArray, List.getElem_cons_zero, List.getElem_cons_succ, List.setIfInBounds_toArray, List.set_cons_succ, List.set_cons_zero]
                refine wpAnyH_take (i := 9) (v := .slice none 0 0) rfl (by kernel_rfl) (by kernel_rfl) (by kernel_rfl) (fun _ _ _ h => h) (Or.inl ⟨by rfl, fun W _ => by go_simp⟩) hHeld ?_
                simp only [Act.put, List.getElem_toArray, List.getElem_cons_zero, List.getElem_cons_succ, List.setIfInBounds_toArray, List.set_cons_succ, List.set_cons_zero]
                refine wpAnyH_take (i := 10) (v := .agg [Value.int .i64 80, .int .i64 (ca : Int)].toArray) rfl (by kernel_rfl) (by kernel_rfl) (by kernel_rfl) (fun _ _ _ h => h) (Or.inl ⟨by rfl, fun W _ => by go_simp⟩) hHeld ?_
                simp only [Act.put, List.getElem_toArray, List.getElem_cons_zero, List.getElem_cons_succ, List.setIfInBounds_toArray, List.set_cons_succ, List.set_cons_zero]
                refine wpAnyH_take (i := 12) (v := .slice none 0 0) rfl (by kernel_rfl) (by kernel_rfl) (by kernel_rfl) (fun _ _ _ h => h) (Or.inl ⟨by rfl, fun W _ => by go_simp⟩) hHeld ?_
                simp only [Act.put, List.getElem_toArray, List.getElem_cons_zero, List.getElem_cons_succ, List.setIfInBounds_toArray, List.set_cons_succ, List.set_cons_zero]
                refine wpAnyH_ready (rs := [13]) (by kernel_rfl) (by simp) ?_
                refine AllReadyH.cons rfl (fun K hK => ?_) AllReadyH.nil
                refine step_store_row (by rfl) 30 _ _ (by rfl) E [Value.int .i64 80, .int .i64 (ca : Int)] (by rfl) (by rfl) 30 _ HEw5.out faultSize rfl (fault_one _ _) ?_
                intro wz hwz
                have HQz := hid (Below.of_gb HQw5.out hwz.grown (by have := HEl.out; omega))
                have HEz := hid hwz.blk
                refine hK.out _ _ HQz.out (fun hHeld => ?_)
                clear hK K
                try simp only [Act.put, List.getElem_toArray, List.getElem_cons_zero, List.getElem_cons_succ]
                refine wpAnyH_done (by kernel_rfl) ?_ _
                simp only [noPanic]
                clear hHeld hwz
                have hcl2 : wz.cell? ⟨g, o + k, none⟩ = some (.slice au nu cu) := (HQz.out.cell (p := ⟨g, o + k, none⟩) HGlt.out).trans hcl
                have HSO := hid (ksome_bad (HSD.out.below HQz.out) HY.out)
                rw [HCa.out] at HSO
                go_wp2_with fail
                refine (HSO.out _ _).mono ?_
                rintro e w8 ⟨rfl, hb8⟩
                have HW9 := hid (below_walk w8 (.cells [Value.int .i64 80, .int .i64 (ca : Int)].toArray 30))
                have HN9 := hid (hp_new w8 (.cells [Value.int .i64 80, .int .i64 (ca : Int)].toArray 30))
                have HQ9 := hid (below_then (below_then HQz.out hb8) HW9.out)
                have HE9 := hid (bel_keep HW9.out (bel_keep hb8 HEz.out))
                clear hb8 HSO hcl2
                go_upto_region 13 with (refine st_new (by rfl) 30 _ _ (by rfl) [Value.int .i64 80, .int .i64 (ca : Int)] (by rfl) (by rfl) 30 _ faultSize rfl (fault_one _ _) ?_)
                obtain ⟨Y9, HYe⟩ : ∃ n, Hid (w8.heap.size = n) := ⟨_, rfl⟩
                rw [HYe.out] at HN9
                try rw [HYe.out]
                generalize w8.alloc (.cells [Value.int .i64 80, .int .i64 (ca : Int)].toArray 30) = w9 at HW9 HN9 HQ9 HE9 ⊢
                have f0 : w9.cell? ⟨E, 0, none⟩ = some (.int .i64 80) := by simp [World.cell?, HE9.out]
                have f1 : w9.cell? ⟨E, 1, none⟩ = some (.int .i64 (ca : Int)) := by simp [World.cell?, HE9.out]
                have g0 : w9.cell? ⟨Y9, 0, none⟩ = some (.int .i64 80) := by simp [World.cell?, HN9.out]
                have g1 : w9.cell? ⟨Y9, 1, none⟩ = some (.int .i64 (ca : Int)) := by simp [World.cell?, HN9.out]
                have n1 : ∀ W, (binOp .neq 30 (.agg #[.int .i64 80, .int .i64 (ca : Int)]) (.agg #[.int .i64 80, .int .i64 (ca : Int)])).run Tryz.prog W = .ok (.bool false) W := fun W => by rw [fault_neq]; simp
                go_wp2_with (refine bd_row (by rfl) 30 #[(0, .const (.int .i64 80)), (1, .tmp 89)] (by rfl) _ (by simp [Act.eval]) _ (built_ft _ _) ?_)
                exact ⟨⟨k + 1, hlt, by simp, below_then HQ.out HQ9.out⟩, by simp [intOf]; omega⟩
          · as_aux_lemma =>
              have HWF := hid (below_walk w2 (.cells #[.int .i64 0, .int .i64 0] 30))
              have HEw3 := hid (hp_new w2 (.cells #[.int .i64 0, .int .i64 0] 30))
              have HQw3 := hid (below_then HQw2.out HWF.out)
              have HEl := hid HQw2.out.size
              refine step_alloc_row8 (by rfl) 30 (by rfl) _ zeroFault ?_
              refine hK.out _ _ HQw3.out (fun hHeld => ?_)
              clear hK K
              try simp only [Act.put, List.getElem_toArray, List.getElem_cons_zero, List.getElem_cons_succ, List.setIfInBounds_toArray, List.set_cons_succ, List.set_cons_zero]
              obtain ⟨E, HEe⟩ : ∃ n, Hid (w2.heap.size = n) := ⟨_, rfl⟩
              rw [HEe.out] at HEw3 HEl
              try rw [HEe.out]
              generalize w2.alloc (.cells #[.int .i64 0, .int .i64 0] 30) = w3 at *
              refine wpAnyH_ready (rs := [6]) (by kernel_rfl) (by simp) ?_
              refine AllReadyH.cons rfl (fun K hK => ?_) AllReadyH.nil
              have HWA := hid (below_walk w3 (.cells #[.slice au nu cu, .slice a63 6 c63] 22))
              have HQw4 := hid (below_then HQw3.out HWA.out)
              have HEw4 := hid (bel_keep HWA.out HEw3.out)
              go_simp
              refine hK.out _ _ HQw4.out (fun hHeld => ?_)
              clear hK K
              try simp only [Act.put, List.getElem_toArray, List.getElem_cons_zero, List.getElem_cons_succ, List.setIfInBounds_toArray, List.set_cons_succ, List.set_cons_zero]
              generalize w3.alloc (.cells #[.slice au nu cu, .slice a63 6 c63] 22) = w4 at *
              refine wpAnyH_ready (rs := [7]) (by kernel_rfl) (by simp) ?_
              refine AllReadyH.cons rfl (fun K hK => ?_) AllReadyH.nil
              have HFE := hid (kfeed_bad (HSD.out.below HQw4.out) HY.out)
              rw [HCa.out] at HFE
              go_simp
              refine (HFE.out _).mono ?_
              rintro e w5 ⟨rfl, hb⟩
              have HQw5 := hid (below_then HQw4.out hb)
              have HEw5 := hid (bel_keep hb HEw4.out)
              clear hb HFE
              go_wp2_with fail
              refine hK.out _ _ HQw5.out (fun hHeld => ?_)
              clear hK K
              try simp only [Act.put, List.getElem_toArray, List.getElem_cons_zero, List.getElem_cons_succ, List.setIfInBounds_toArray, List.set_cons_succ, List.set_cons_zero]
              refine wpAnyH_take (i := 8) (v := .tuple #[.slice none 0 0, .agg [Value.int .i64 80, .int .i64 (ca : Int)].toArray]) rfl (by kernel_rfl) (by kernel_rfl) (by kernel_rfl) (fun _ _ _ h => h) (Or.inl ⟨by rfl, fun W _ => by go_simp⟩) hHeld ?_
              simp only [Act.put, List.getElem_toArray, List.getElem_cons_zero, List.getElem_cons_succ, List.setIfInBounds_toArray, List.set_cons_succ, List.set_cons_zero]
              refine wpAnyH_take (i := 9) (v := .slice none 0 0) rfl (by kernel_rfl) (by kernel_rfl) (by kernel_rfl) (fun _ _ _ h => h) (Or.inl ⟨by rfl, fun W _ => by go_simp⟩) hHeld ?_
              simp only [Act.put, List.getElem_toArray, List.getElem_cons_zero, List.getElem_cons_succ, List.setIfInBounds_toArray, List.set_cons_succ, List.set_cons_zero]
              refine wpAnyH_take (i := 10) (v := .agg [Value.int .i64 80, .int .i64 (ca : Int)].toArray) rfl (by kernel_rfl) (by kernel_rfl) (by kernel_rfl) (fun _ _ _ h => h) (Or.inl ⟨by rfl, fun W _ => by go_simp⟩) hHeld ?_
              simp only [Act.put, List.getElem_toArray, List.getElem_cons_zero, List.getElem_cons_succ, List.setIfInBounds_toArray, List.set_cons_succ, List.set_cons_zero]
              refine wpAnyH_take (i := 12) (v := .slice none 0 0) rfl (by kernel_rfl) (by kernel_rfl) (by kernel_rfl) (fun _ _ _ h => h) (Or.inl ⟨by rfl, fun W _ => by go_simp⟩) hHeld ?_
              simp only [Act.put, List.getElem_toArray, List.getElem_cons_zero, List.getElem_cons_succ, List.setIfInBounds_toArray, List.set_cons_succ, List.set_cons_zero]
              refine wpAnyH_ready (rs := [13]) (by kernel_rfl) (by simp) ?_
              refine AllReadyH.cons rfl (fun K hK => ?_) AllReadyH.nil
              refine step_store_row (by rfl) 30 _ _ (by rfl) E [Value.int .i64 80, .int .i64 (ca : Int)] (by rfl) (by rfl) 30 _ HEw5.out faultSize rfl (fault_one _ _) ?_
              intro wz hwz
              have HQz := hid (Below.of_gb HQw5.out hwz.grown (by have := HEl.out; omega))
              have HEz := hid hwz.blk
              refine hK.out _ _ HQz.out (fun hHeld => ?_)
              clear hK K
              try simp only [Act.put, List.getElem_toArray, List.getElem_cons_zero, List.getElem_cons_succ]
              refine wpAnyH_done (by kernel_rfl) ?_ _
              simp only [noPanic]
              clear hHeld hwz
              have hcl2 : wz.cell? ⟨g, o + k, none⟩ = some (.slice au nu cu) := (HQz.out.cell (p := ⟨g, o + k, none⟩) HGlt.out).trans hcl
              have HSO := hid (ksome_bad (HSD.out.below HQz.out) HY.out)
              rw [HCa.out] at HSO
              go_wp2_with fail
              refine (HSO.out _ _).mono ?_
              rintro e w8 ⟨rfl, hb8⟩
              have HW9 := hid (below_walk w8 (.cells [Value.int .i64 80, .int .i64 (ca : Int)].toArray 30))
              have HN9 := hid (hp_new w8 (.cells [Value.int .i64 80, .int .i64 (ca : Int)].toArray 30))
              have HQ9 := hid (below_then (below_then HQz.out hb8) HW9.out)
              have HE9 := hid (bel_keep HW9.out (bel_keep hb8 HEz.out))
              clear hb8 HSO hcl2
              go_upto_region 13 with (refine st_new (by rfl) 30 _ _ (by rfl) [Value.int .i64 80, .int .i64 (ca : Int)] (by rfl) (by rfl) 30 _ faultSize rfl (fault_one _ _) ?_)
              obtain ⟨Y9, HYe⟩ : ∃ n, Hid (w8.heap.size = n) := ⟨_, rfl⟩
              rw [HYe.out] at HN9
              try rw [HYe.out]
              generalize w8.alloc (.cells [Value.int .i64 80, .int .i64 (ca : Int)].toArray 30) = w9 at HW9 HN9 HQ9 HE9 ⊢
              have f0 : w9.cell? ⟨E, 0, none⟩ = some (.int .i64 80) := by simp [World.cell?, HE9.out]
              have f1 : w9.cell? ⟨E, 1, none⟩ = some (.int .i64 (ca : Int)) := by simp [World.cell?, HE9.out]
              have g0 : w9.cell? ⟨Y9, 0, none⟩ = some (.int .i64 80) := by simp [World.cell?, HN9.out]
              have g1 : w9.cell? ⟨Y9, 1, none⟩ = some (.int .i64 (ca : Int)) := by simp [World.cell?, HN9.out]
              have n1 : ∀ W, (binOp .neq 30 (.agg #[.int .i64 80, .int .i64 (ca : Int)]) (.agg #[.int .i64 80, .int .i64 (ca : Int)])).run Tryz.prog W = .ok (.bool false) W := fun W => by rw [fault_neq]; simp
              go_wp2_with (refine bd_row (by rfl) 30 #[(0, .const (.int .i64 80)), (1, .tmp 89)] (by rfl) _ (by simp [Act.eval]) _ (built_ft _ _) ?_)
              exact ⟨⟨k + 1, hlt, by simp, below_then HQ.out HQ9.out⟩, by simp [intOf]; omega⟩
        · as_aux_lemma =>
            have HWF := hid (below_walk wq (.cells #[.int .i64 0, .int .i64 0] 30))
            have HEw2 := hid (hp_new wq (.cells #[.int .i64 0, .int .i64 0] 30))
            have HQw2 := hid (below_then HQwq.out HWF.out)
            have HEl := hid HQwq.out.size
            refine step_alloc_row8 (by rfl) 30 (by rfl) _ zeroFault ?_
            refine hK.out _ _ HQw2.out (fun hHeld => ?_)
            clear hK K
            try simp only [Act.put, List.getElem_toArray, List.getElem_cons_zero, List.getElem_cons_succ, List.setIfInBounds_toArray, List.set_cons_succ, List.set_cons_zero]
            obtain ⟨E, HEe⟩ : ∃ n, Hid (wq.heap.size = n) := ⟨_, rfl⟩
            rw [HEe.out] at HEw2 HEl
            try rw [HEe.out]
            generalize wq.alloc (.cells #[.int .i64 0, .int .i64 0] 30) = w2 at *
            refine wpAnyH_ready (rs := [5]) (by kernel_rfl) (by simp) ?_
            refine AllReadyH.cons rfl (fun K hK => ?_) AllReadyH.nil
            go_simp
            refine (abye_any w2).mono ?_
            rintro e w3 ⟨v63, rfl, ho, hb⟩
            have HQw3 := hid (below_then HQw2.out hb)
            have HEw3 := hid (bel_keep hb HEw2.out)
            obtain ⟨a63, c63, e63⟩ := ho.shape
            rw [hl6] at e63
            subst e63
            clear ho hb
            go_wp2_with fail
            refine hK.out _ _ HQw3.out (fun hHeld => ?_)
            clear hK K
            try simp only [Act.put, List.getElem_toArray, List.getElem_cons_zero, List.getElem_cons_succ, List.setIfInBounds_toArray, List.set_cons_succ, List.set_cons_zero]
            refine wpAnyH_ready (rs := [6]) (by kernel_rfl) (by simp) ?_
            refine AllReadyH.cons rfl (fun K hK => ?_) AllReadyH.nil
            have HWA := hid (below_walk w3 (.cells #[.slice au nu cu, .slice a63 6 c63] 22))
            have HQw4 := hid (below_then HQw3.out HWA.out)
            have HEw4 := hid (bel_keep HWA.out HEw3.out)
            go_simp
            refine hK.out _ _ HQw4.out (fun hHeld => ?_)
            clear hK K
            try simp only [Act.put, List.getElem_toArray, List.getElem_cons_zero, List.getElem_cons_succ, List.setIfInBounds_toArray, List.set_cons_succ, List.set_cons_zero]
            generalize w3.alloc (.cells #[.slice au nu cu, .slice a63 6 c63] 22) = w4 at *
            refine wpAnyH_ready (rs := [7]) (by kernel_rfl) (by simp) ?_
            refine AllReadyH.cons rfl (fun K hK => ?_) AllReadyH.nil
            have HFE := hid (kfeed_bad (HSD.out.below HQw4.out) HY.out)
            rw [HCa.out] at HFE
            go_simp
            refine (HFE.out _).mono ?_
            rintro e w5 ⟨rfl, hb⟩
            have HQw5 := hid (below_then HQw4.out hb)
            have HEw5 := hid (bel_keep hb HEw4.out)
            clear hb HFE
            go_wp2_with fail
            refine hK.out _ _ HQw5.out (fun hHeld => ?_)
            clear hK K
            try simp only [Act.put, List.getElem_toArray, List.getElem_cons_zero, List.getElem_cons_succ, List.setIfInBounds_toArray, List.set_cons_succ, List.set_cons_zero]
            refine wpAnyH_take (i := 8) (v := .tuple #[.slice none 0 0, .agg [Value.int .i64 80, .int .i64 (ca : Int)].toArray]) rfl (by kernel_rfl) (by kernel_rfl) (by kernel_rfl) (fun _ _ _ h => h) (Or.inl ⟨by rfl, fun W _ => by go_simp⟩) hHeld ?_
            simp only [Act.put, List.getElem_toArray, List.getElem_cons_zero, List.getElem_cons_succ, List.setIfInBounds_toArray, List.set_cons_succ, List.set_cons_zero]
            refine wpAnyH_take (i := 9) (v := .slice none 0 0) rfl (by kernel_rfl) (by kernel_rfl) (by kernel_rfl) (fun _ _ _ h => h) (Or.inl ⟨by rfl, fun W _ => by go_simp⟩) hHeld ?_
            simp only [Act.put, List.getElem_toArray, List.getElem_cons_zero, List.getElem_cons_succ, List.setIfInBounds_toArray, List.set_cons_succ, List.set_cons_zero]
            refine wpAnyH_take (i := 10) (v := .agg [Value.int .i64 80, .int .i64 (ca : Int)].toArray) rfl (by kernel_rfl) (by kernel_rfl) (by kernel_rfl) (fun _ _ _ h => h) (Or.inl ⟨by rfl, fun W _ => by go_simp⟩) hHeld ?_
            simp only [Act.put, List.getElem_toArray, List.getElem_cons_zero, List.getElem_cons_succ, List.setIfInBounds_toArray, List.set_cons_succ, List.set_cons_zero]
            refine wpAnyH_take (i := 12) (v := .slice none 0 0) rfl (by kernel_rfl) (by kernel_rfl) (by kernel_rfl) (fun _ _ _ h => h) (Or.inl ⟨by rfl, fun W _ => by go_simp⟩) hHeld ?_
            simp only [Act.put, List.getElem_toArray, List.getElem_cons_zero, List.getElem_cons_succ, List.setIfInBounds_toArray, List.set_cons_succ, List.set_cons_zero]
            refine wpAnyH_ready (rs := [13]) (by kernel_rfl) (by simp) ?_
            refine AllReadyH.cons rfl (fun K hK => ?_) AllReadyH.nil
            refine step_store_row (by rfl) 30 _ _ (by rfl) E [Value.int .i64 80, .int .i64 (ca : Int)] (by rfl) (by rfl) 30 _ HEw5.out faultSize rfl (fault_one _ _) ?_
            intro wz hwz
            have HQz := hid (Below.of_gb HQw5.out hwz.grown (by have := HEl.out; omega))
            have HEz := hid hwz.blk
            refine hK.out _ _ HQz.out (fun hHeld => ?_)
            clear hK K
            try simp only [Act.put, List.getElem_toArray, List.getElem_cons_zero, List.getElem_cons_succ]
            refine wpAnyH_done (by kernel_rfl) ?_ _
            simp only [noPanic]
            clear hHeld hwz
            have hcl2 : wz.cell? ⟨g, o + k, none⟩ = some (.slice au nu cu) := (HQz.out.cell (p := ⟨g, o + k, none⟩) HGlt.out).trans hcl
            have HSO := hid (ksome_bad (HSD.out.below HQz.out) HY.out)
            rw [HCa.out] at HSO
            go_wp2_with fail
            refine (HSO.out _ _).mono ?_
            rintro e w8 ⟨rfl, hb8⟩
            have HW9 := hid (below_walk w8 (.cells [Value.int .i64 80, .int .i64 (ca : Int)].toArray 30))
            have HN9 := hid (hp_new w8 (.cells [Value.int .i64 80, .int .i64 (ca : Int)].toArray 30))
            have HQ9 := hid (below_then (below_then HQz.out hb8) HW9.out)
            have HE9 := hid (bel_keep HW9.out (bel_keep hb8 HEz.out))
            clear hb8 HSO hcl2
            go_upto_region 13 with (refine st_new (by rfl) 30 _ _ (by rfl) [Value.int .i64 80, .int .i64 (ca : Int)] (by rfl) (by rfl) 30 _ faultSize rfl (fault_one _ _) ?_)
            obtain ⟨Y9, HYe⟩ : ∃ n, Hid (w8.heap.size = n) := ⟨_, rfl⟩
            rw [HYe.out] at HN9
            try rw [HYe.out]
            generalize w8.alloc (.cells [Value.int .i64 80, .int .i64 (ca : Int)].toArray 30) = w9 at HW9 HN9 HQ9 HE9 ⊢
            have f0 : w9.cell? ⟨E, 0, none⟩ = some (.int .i64 80) := by simp [World.cell?, HE9.out]
            have f1 : w9.cell? ⟨E, 1, none⟩ = some (.int .i64 (ca : Int)) := by simp [World.cell?, HE9.out]
            have g0 : w9.cell? ⟨Y9, 0, none⟩ = some (.int .i64 80) := by simp [World.cell?, HN9.out]
            have g1 : w9.cell? ⟨Y9, 1, none⟩ = some (.int .i64 (ca : Int)) := by simp [World.cell?, HN9.out]
            have n1 : ∀ W, (binOp .neq 30 (.agg #[.int .i64 80, .int .i64 (ca : Int)]) (.agg #[.int .i64 80, .int .i64 (ca : Int)])).run Tryz.prog W = .ok (.bool false) W := fun W => by rw [fault_neq]; simp
            go_wp2_with (refine bd_row (by rfl) 30 #[(0, .const (.int .i64 80)), (1, .tmp 89)] (by rfl) _ (by simp [Act.eval]) _ (built_ft _ _) ?_)
            exact ⟨⟨k + 1, hlt, by simp, below_then HQ.out HQ9.out⟩, by simp [intOf]; omega⟩
      · obtain rfl : k = pss.length := by omega
        as_aux_lemma =>
        have HSDr := hid (HSD.out.below HQ.out)
        have HFr := hid (bel_keep HQ.out HF.out)
        have HC := hid (kcount_any HSDr.out)
        rw [HCa.out, HWh.out] at HC
        go_wp2_with fail
        refine HC.out.mono ?_
        rintro e w5' ⟨rfl, q6, hw6⟩
        have HQ6 := hid (show Below wr.heap.size wr w5' by rw [hw6]; exact bel_drw wr q6)
        have HSD5 := hid (HSDr.out.below HQ6.out)
        have HFw := hid (bel_keep HQ6.out HFr.out)
        have HB5 := hid (below_then HB4.out (below_then HQ.out HQ6.out))
        clear hw6 HC HSDr HFr
        obtain ⟨w5, hw5⟩ : ∃ x, x = w5' := ⟨_, rfl⟩
        subst hw5
        have HSTe := hid (show stopP a.1 = (y, t) by unfold stopP; rw [if_pos HY.out, HYe.out, HTe.out])
        have HWTe := hid (show wantP a.1 = 0 by unfold wantP; rw [if_pos HY.out])
        have n1 : ∀ W, (binOp .eql 30 (.agg #[.int .i64 y, .int .i64 t]) (.agg #[.int .i64 y, .int .i64 t])).run Tryz.prog W = .ok (.bool true) W := fun W => by rw [fault_eql]; simp
        go_upto_region 16 with fail
        have HRF := hid (Bel.range (range_row HFw.out) (hp_lt HFw.out))
        have HPO := hid (fun q : Bel w5 => kpoison_any (HSD5.out.below q.bel))
        have HEN := hid (fun q : Bel w5 => kend_any (HSD5.out.below q.bel))
        have HWN := hid (fun q : Bel w5 => kwant_any (HSD5.out.below q.bel))
        rw [HYe.out, HTe.out] at HPO
        rw [HSTe.out] at HEN
        rw [HWTe.out] at HWN
        have ib : Nonempty (Bel w5) := bel_some w5
        refine wp_region_quiet_bel (by kernel_rfl) (by kernel_rfl) ?_
        go_big_quiet_step (fail)
        go_big_quiet_step (fail)
        go_big_quiet_step (fail)
        go_big_quiet_step (fail)
        go_big_quiet_step (fail)
        go_big_quiet_step (fail)
        go_big_quiet_step (fail)
        go_big_quiet_step (fail)
        go_big_quiet_step (fail)
        go_big_quiet_step (fail)
        go_big_quiet_step (first | (go_at_call 8; exact bel_of (HPO.out _)))
        refine wpQuiet_want (by rfl) fun K hK => quiet_ld 30 (.tmp 8) (by rfl) F 0 (by rfl) _ _ HRF.out Tryz.underlying30 rfl faultSize (hK _ ?_)
        simp only [Act.put, List.setIfInBounds_toArray, List.set_cons_succ, List.set_cons_zero]
        go_big_quiet_step (fail)
        go_big_quiet_step (fail)
        go_big_quiet_step (fail)
        go_big_quiet_step (fail)
        go_big_quiet_step (first | (go_at_call 13; exact bel_of (HEN.out _)))
        refine wpQuiet_want (by rfl) fun K hK => quiet_ld 30 (.tmp 8) (by rfl) F 0 (by rfl) _ _ HRF.out Tryz.underlying30 rfl faultSize (hK _ ?_)
        simp only [Act.put, List.setIfInBounds_toArray, List.set_cons_succ, List.set_cons_zero]
        go_big_quiet_step (fail)
        go_big_quiet_step (fail)
        go_big_quiet_step (fail)
        go_big_quiet_step (fail)
        go_big_quiet_step (first | (go_at_call 14; exact bel_of (HWN.out _)))
        go_big_quiet_step (fail)
        go_big_quiet_step (fail)
        go_big_quiet_step (fail)
        go_big_quiet_step (first | (go_at_call 9; exact bel_of (awake8_any _)))
        go_big_quiet_step (fail)
        go_big_quiet_step (fail)
        refine wpQuiet_nil ?_
        rintro w8 ⟨⟨w8', hb8⟩, hw8⟩
        obtain rfl : w8 = w8' := hw8
        have HB8 := hid (below_then HB5.out hb8)
        clear hb8
        go_wp2
        go_ret
        exact ⟨rfl, HB8.out⟩
end Go.Proofs.YtiibhccbbpgehabGreat
