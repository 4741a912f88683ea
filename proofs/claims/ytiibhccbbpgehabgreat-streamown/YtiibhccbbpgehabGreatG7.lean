/- Contracts and pure facts that the proof needs, joined. -/
import Derived.Test.YtiibhccbbpgehabGreatG1
import Derived.ProofKit
import Derived.OpenShut
import Derived.Deep.Strs
import Derived.SizedLaws
import Derived.Test.YtiibhccbbpgehabGreatRows
import Derived.Deep.Slices
import Derived.JoinedCond
import Derived.LaidLaws
import Derived.Test.YtiibhccbbpgehabGreatG6
import Derived.Test.YtiibhccbbpgehabGreatG3
import Derived.Test.YtiibhccbbpgehabGreatG4
import Derived.StillTailTactics
import Derived.Test.YtiibhccbbpgehabGreatG5

/- Bytes out of their reading, however many a slice may have. -/
namespace Go.Proofs.YtiibhccbbpgehabGreat
open Go.ChangeShapes Go.WideShapes Go.ChangeAt Go.RowKit

theorem cellsU8 : Tryz.prog.cellsOf 5 = 1 := by kernel_rfl
section
variable {H : Type} {enc : TypeId × Value → H} {W : World} {spare : Nat → Bool} {held : Bool}
theorem bytes_full {ao : Option Addr} {n c : Nat} {d : DataW H} {pl : List MemPlace} (h : DataW.Trod enc Tryz.prog W 0 spare held 22 (.slice ao n c) d pl) (hk : ∀ elems more, d = .slice elems more → elems.length ≤ 140737488355327) :
    ∃ bs : List UInt8, Src W (.slice ao n c) bs ∧ bs.length = n := by
  obtain ⟨fuel, hf⟩ := h
  rcases open_ints Tryz.underlying22 Tryz.underlying5 cellsU8 hf with ⟨hcs, _⟩ | ⟨a, len, cap, zs, hcs, _, hl, hm, hz, hx, hcell, hwz⟩
  · simp [Value.cells] at hcs
    obtain ⟨rfl, rfl, rfl⟩ := hcs
    exact ⟨[], ⟨by simp, Or.inl ⟨rfl, rfl⟩⟩, rfl⟩
  · simp [Value.cells] at hcs
    obtain ⟨rfl, rfl, rfl⟩ := hcs
    have hlz : n ≤ zs.length := by rw [hz]; split <;> omega
    simp only [Prod.mk.injEq] at hx
    have hn : n ≤ 140737488355327 := by
      have h1 := hk _ _ hx.1
      have h2 : (lits (H := H) .u8 (zs.take n)).length = n := by simp [lits]; omega
      omega
    have hu : ∀ i, i < n → (((zs.getD i 0).toNat.toUInt8).toNat : Int) = zs.getD i 0 := by
      intro i hi
      have hm' : zs.getD i 0 ∈ zs := by
        rw [List.getD_eq_getElem?_getD, List.getElem?_eq_getElem (by omega)]
        exact List.getElem_mem _
      have hw := hwz _ hm'
      have hb : 0 ≤ zs.getD i 0 ∧ zs.getD i 0 ≤ 255 := by simpa [Lit.wf, IntKind.min, IntKind.max, IntKind.signed, IntKind.bits] using hw
      simp only [Nat.toUInt8_eq, UInt8.toNat_ofNat']
      omega
    · refine ⟨(zs.take n).map (fun z => z.toNat.toUInt8), ⟨by simp; omega, Or.inr ⟨a, c, by simp; omega, by simp; omega, hm, fun h => World.block_lt_of_cell? W a (u := .int .u8 (zs.getD 0 0)) (by simp at h; simpa [Addr.add] using hcell 0 (by omega)), fun j hj => ?_⟩⟩, by simp; omega⟩
      have hj' : j < n ∧ j < zs.length := by simp at hj; omega
      have hju := hu j hj'.1
      rw [hcell j hj'.2, ← hju]
      simp [List.getD_eq_getElem?_getD, hj'.1, List.getElem?_eq_getElem hj'.2]
end

end Go.Proofs.YtiibhccbbpgehabGreat

/- From what the rows say of the arguments to what the walks want: numbers, bytes, lists of bytes. -/
namespace Go.Proofs.YtiibhccbbpgehabGreat
open Go.ChangeShapes Go.WideShapes Go.ChangeAt Go.RowKit

theorem own : ownKnob Tryz.prog.godebug = none := by kernel_rfl
theorem laidOut : laidOutB Tryz.prog = true := by kernel_rfl
theorem cellsBytes : Tryz.prog.cellsOf 22 = 1 := by kernel_rfl
theorem bytesU8 : Tryz.prog.bytesOf 5 = 1 := by kernel_rfl
theorem bytesSl : Tryz.prog.bytesOf 22 = 24 := by kernel_rfl

theorem wf_i64 {n : Int} (h : (Lit.int .i64 n).wf = true) : -9223372036854775808 ≤ n ∧ n ≤ 9223372036854775807 := by
  simpa [Lit.wf, IntKind.min, IntKind.max, IntKind.signed, IntKind.bits] using h
theorem wf_u32 {n : Int} (h : (Lit.int .u32 n).wf = true) : 0 ≤ n ∧ n ≤ 4294967295 := by
  simpa [Lit.wf, IntKind.min, IntKind.max, IntKind.signed, IntKind.bits] using h
theorem wf_u8 {n : Int} (h : (Lit.int .u8 n).wf = true) : 0 ≤ n ∧ n ≤ 255 := by
  simpa [Lit.wf, IntKind.min, IntKind.max, IntKind.signed, IntKind.bits] using h
theorem addr_plain {w : World} {a : Addr} {v : Value} (h : w.cell? a = some v) : a = ⟨a.block, a.off, none⟩ := by
  obtain ⟨b, o, sp⟩ := a
  cases sp with
  | none => rfl
  | some s =>
    unfold World.cell? at h
    split at h <;> simp at h
theorem add_plain (b o j : Nat) : (⟨b, o, none⟩ : Addr).add j = ⟨b, o + j, none⟩ := by
  by_cases h : j = 0
  · subst h; simp [Addr.add]
  · simp [Addr.add, h]
theorem list_of {α : Type} {P : Nat → α → Prop} : ∀ {n : Nat}, (∀ i, i < n → ∃ x, P i x) → ∃ l : List α, l.length = n ∧ ∀ j x, l[j]? = some x → P j x
  | 0, _ => ⟨[], rfl, by intro j x h; simp at h⟩
  | n + 1, h => by
    obtain ⟨l, hl, hp⟩ := list_of (n := n) (fun i hi => h i (by omega))
    obtain ⟨x, hx⟩ := h n (by omega)
    refine ⟨l ++ [x], by simp [hl], fun j y hj => ?_⟩
    rcases Nat.lt_or_ge j n with hjn | hjn
    · rw [List.getElem?_append_left (by omega)] at hj
      exact hp j y hj
    · rw [List.getElem?_append_right (by omega)] at hj
      have : j - l.length = 0 := by
        rcases Nat.eq_zero_or_pos (j - l.length) with h0 | h0
        · exact h0
        · rw [List.getElem?_eq_none (by simp; omega)] at hj; cases hj
      rw [this] at hj
      simp at hj
      subst hj
      obtain rfl : j = n := by omega
      exact hx
theorem weightsAll_mem {H : Type} {P : Program} {e : TypeId} : ∀ {l : List (DataW H)} {d : DataW H}, d ∈ l → ∀ n ∈ d.weights P e, n ∈ DataW.weightsAll P e l
  | d' :: r, d, hd, n, hn => by
    simp only [DataW.weightsAll, List.mem_append]
    rcases List.mem_cons.1 hd with rfl | h
    · exact Or.inl hn
    · exact Or.inr (weightsAll_mem h n hn)

section
variable {H : Type} {enc : TypeId × Value → H} {W : World} {spare : Nat → Bool} {held : Bool}
/-- bytes out of their reading -/
theorem bytes_w {ao : Option Addr} {n c : Nat} {d : DataW H} {pl : List MemPlace} (h : DataW.Trod enc Tryz.prog W 0 spare held 22 (.slice ao n c) d pl) (hk : ∀ x ∈ d.weights Tryz.prog 22, x ≤ reachBytes) :
    ∃ bs : List UInt8, Src W (.slice ao n c) bs ∧ bs.length = n ∧ bs.length ≤ reachBytes := by
  have hr : reachBytes < 2 ^ 47 := reachBytes_lt
  have hb : ∀ elems more, d = .slice elems more → elems.length ≤ reachBytes := fun elems more e => by
    subst e
    have := hk ((elems.length + more.length) * Tryz.prog.bytesOf 5) (by simp [DataW.weights, Tryz.underlying22])
    rw [bytesU8] at this
    omega
  obtain ⟨bs, h1, h2⟩ := bytes_full h (fun el mo e => by have := hb el mo e; omega)
  refine ⟨bs, h1, h2, ?_⟩
  obtain ⟨fuel, hf⟩ := h
  rcases Go.Deep.open_slice1 Tryz.underlying22 cellsU8 hf with ⟨hcs, _⟩ | ⟨a, len, cap, m, n', V, D, Pl, hcs, _, _, _, _, hx, _⟩
  · simp [Value.cells] at hcs
    rw [h2, hcs.2.1]
    exact Nat.zero_le _
  · simp [Value.cells] at hcs
    simp only [Prod.mk.injEq] at hx
    have := hb _ _ hx.1
    simp at this
    omega
/-- lists of bytes out of their reading -/
theorem lists_w {ao : Option Addr} {n c : Nat} {d : DataW H} {pl : List MemPlace} (h : DataW.Trod enc Tryz.prog W 0 spare held 23 (.slice ao n c) d pl) (hk : ∀ x ∈ d.weights Tryz.prog 23, x ≤ reachBytes) :
    ∃ pss : List (List UInt8), Lists W (.slice ao n c) pss ∧ pss.length = n ∧ n ≤ 140737488355327 := by
  have hr : reachBytes < 2 ^ 47 := reachBytes_lt
  obtain ⟨fuel, hf⟩ := h
  rcases Go.Deep.open_slice1 Tryz.underlying23 cellsBytes hf with ⟨hcs, _⟩ | ⟨a, len, cap, m, n', V, D, Pl, hcs, _, hl, _, hmm, hx, hel⟩
  · simp [Value.cells] at hcs
    obtain ⟨rfl, rfl, rfl⟩ := hcs
    exact ⟨[], Or.inl ⟨none, 0, rfl, rfl⟩, rfl, by omega⟩
  · simp [Value.cells] at hcs
    obtain ⟨rfl, rfl, rfl⟩ := hcs
    simp only [Prod.mk.injEq] at hx
    obtain ⟨rfl, _⟩ := hx
    have hlm : n ≤ m := by rw [hmm]; split <;> omega
    have hn : n ≤ 140737488355327 := by
      have := hk (((List.range n).map D).length * Tryz.prog.bytesOf 22 + ((List.range (m - n)).map fun j => D (n + j)).length * Tryz.prog.bytesOf 22) (by simp [DataW.weights, Tryz.underlying23, Nat.add_mul])
      rw [bytesSl] at this
      simp at this
      omega
    have hin : ∀ i, i < n → ∃ bs : List UInt8, Src W (V i) bs := by
      intro i hi
      obtain ⟨h1, h2⟩ := hel i (by omega)
      have hw : ∀ x ∈ (D i).weights Tryz.prog 22, x ≤ reachBytes := fun x hxm => hk x (by
        simp only [DataW.weights, Tryz.underlying23, List.mem_cons, List.mem_append]
        exact Or.inr (Or.inl (weightsAll_mem (List.mem_map.2 ⟨i, List.mem_range.2 hi, rfl⟩) x hxm)))
      obtain ⟨ai, ni, ci, hV⟩ : ∃ ai ni ci, V i = .slice ai ni ci := by
        rcases DataW.trod_slice Tryz.underlying22 h2 with ⟨hc, _⟩ | ⟨a', len', cap', _, _, _, _, hc, _⟩
        · simp at hc; exact ⟨_, _, _, hc⟩
        · simp at hc; exact ⟨_, _, _, hc⟩
      rw [hV] at h2 ⊢
      obtain ⟨bs, hb, _⟩ := bytes_w (pl := Pl i) (d := D i) ⟨n', by simpa [Value.cells] using h2⟩ hw
      exact ⟨bs, hb⟩
    obtain ⟨pss, hpl, hps⟩ := list_of hin
    rcases Nat.eq_zero_or_pos n with rfl | hpos
    · exact ⟨[], Or.inl ⟨_, _, rfl, rfl⟩, rfl, by omega⟩
    · have h0 := (hel 0 (by omega)).1
      have ha : a = ⟨a.block, a.off, none⟩ := addr_plain (v := V 0) (by simpa [Addr.add] using h0)
      have hlt : a.block < W.heap.size := World.block_lt_of_cell? W a (u := V 0) (by simpa [Addr.add] using h0)
      generalize a.block = g at ha hlt
      generalize a.off = o at ha
      subst ha
      refine ⟨pss, Or.inr ⟨g, o, c, by rw [hpl], hlt, fun j hj => ?_⟩, hpl, hn⟩
      have h1 := (hel j (by omega)).1
      rw [add_plain] at h1
      refine ⟨V j, h1, ?_⟩
      exact hps j _ (by simp [List.getD_eq_getElem?_getD, List.getElem?_eq_getElem hj])
theorem sized_at {ts : List TypeId} {ds : List (DataW H)} (h : ((DataW.weightsEach Tryz.prog ts ds).all fun x => decide (x ≤ reachBytes)) = true) {j : Nat} {t : TypeId} {d : DataW H} (ht : ts[j]? = some t) (hd : ds[j]? = some d) : ∀ x ∈ d.weights Tryz.prog t, x ≤ reachBytes :=
  fun x hx => of_decide_eq_true (List.all_eq_true.1 h _ (DataW.weights_mem_each ht hd x hx))
end

end Go.Proofs.YtiibhccbbpgehabGreat

/- Bytes, and lists of bytes, out of their reading, by their bulk (second form). -/
namespace Go.Proofs.YtiibhccbbpgehabGreat
open Go.ChangeShapes Go.WideShapes Go.ChangeAt Go.RowKit

section
variable {H : Type}
theorem bulk_pos (d : DataW H) : 1 ≤ Rows.uptoBulk d := by
  cases d with
  | lit l => cases l <;> simp [Rows.uptoBulk]
  | _ => simp [Rows.uptoBulk]
theorem bulk_mem {d : DataW H} : ∀ {l : List (DataW H)}, d ∈ l → Rows.uptoBulk d ≤ Rows.uptoBulkAll l
  | [], h => by cases h
  | x :: r, h => by
    simp only [Rows.uptoBulkAll]
    rcases List.mem_cons.1 h with rfl | h
    · omega
    · have := bulk_mem h; omega
theorem bulk_count : ∀ (l : List (DataW H)), l.length ≤ Rows.uptoBulkAll l
  | [] => by simp
  | x :: r => by
    have h1 := bulk_pos x
    have h2 := bulk_count r
    simp only [Rows.uptoBulkAll, List.length_cons]
    omega
theorem small {l : List (DataW H)} (hk : Rows.uptoSmall H l = true) : Rows.uptoBulkAll l ≤ 1048576 := of_decide_eq_true hk
theorem bulk_range (D : Nat → DataW H) (n : Nat) : Rows.uptoBulkAll ((List.range (n + 1)).map D) = Rows.uptoBulkAll ((List.range n).map D) + Rows.uptoBulk (D n) := by
  rw [List.range_succ, List.map_append]
  generalize (List.range n).map D = L
  induction L with
  | nil => simp [Rows.uptoBulkAll]
  | cons a r ih2 => simp only [List.cons_append, List.map_cons, List.map_nil, Rows.uptoBulkAll] at ih2 ⊢; omega
theorem fl_bulk {D : Nat → DataW H} : ∀ {n : Nat} {l : List (List UInt8)}, l.length = n → (∀ j x, l[j]? = some x → x.length ≤ Rows.uptoBulk (D j)) → (fl l).length ≤ Rows.uptoBulkAll ((List.range n).map D)
  | 0, l, hl, _ => by
    rw [List.length_eq_zero_iff.1 hl]; simp [fl]
  | n + 1, l, hl, h => by
    obtain ⟨m, x, rfl⟩ : ∃ m x, l = m ++ [x] := ⟨l.dropLast, l.getLast (by intro e; rw [e] at hl; simp at hl), (List.dropLast_concat_getLast _).symm⟩
    have hm : m.length = n := by simpa using hl
    have ih := fl_bulk (D := D) (n := n) (l := m) hm (fun j y hj => h j y (by
      have : j < m.length := by
        rcases Nat.lt_or_ge j m.length with h' | h'
        · exact h'
        · rw [List.getElem?_eq_none h'] at hj; cases hj
      rw [List.getElem?_append_left this]; exact hj))
    have hx := h n x (by rw [← hm]; simp)
    have e1 : (fl (m ++ [x])).length = (fl m).length + x.length := by simp [fl]
    rw [e1, bulk_range]
    omega
end

section
variable {H : Type} {enc : TypeId × Value → H} {W : World} {spare : Nat → Bool} {held : Bool}
/-- bytes out of their reading -/
theorem bytes_b {ao : Option Addr} {n c : Nat} {d : DataW H} {pl : List MemPlace} (h : DataW.Trod enc Tryz.prog W 0 spare held 22 (.slice ao n c) d pl) (hk : Rows.uptoBulk d ≤ 1048576) :
    ∃ bs : List UInt8, Src W (.slice ao n c) bs ∧ bs.length = n ∧ bs.length ≤ Rows.uptoBulk d := by
  have hb : ∀ elems more, d = .slice elems more → elems.length ≤ Rows.uptoBulk d := fun elems more e => by
    subst e
    have := bulk_count elems
    simp only [Rows.uptoBulk]
    omega
  obtain ⟨bs, h1, h2⟩ := bytes_full h (fun el mo e => by have := hb el mo e; omega)
  refine ⟨bs, h1, h2, ?_⟩
  obtain ⟨fuel, hf⟩ := h
  rcases Go.Deep.open_slice1 Tryz.underlying22 cellsU8 hf with ⟨hcs, _⟩ | ⟨a, len, cap, m, n', V, D, Pl, hcs, _, _, _, _, hx, _⟩
  · simp [Value.cells] at hcs
    rw [h2, hcs.2.1]
    exact Nat.zero_le _
  · simp [Value.cells] at hcs
    simp only [Prod.mk.injEq] at hx
    have := hb _ _ hx.1
    simp at this
    omega
/-- lists of bytes out of their reading -/
theorem lists_u {ao : Option Addr} {n c : Nat} {d : DataW H} {pl : List MemPlace} (h : DataW.Trod enc Tryz.prog W 0 spare held 23 (.slice ao n c) d pl) (hk : Rows.uptoBulk d ≤ 1048576) :
    ∃ pss : List (List UInt8), Lists W (.slice ao n c) pss ∧ n ≤ c ∧ pss.length ≤ 1048576 ∧ (fl pss).length ≤ 1048576 := by
  obtain ⟨fuel, hf⟩ := h
  rcases Go.Deep.open_slice1 Tryz.underlying23 cellsBytes hf with ⟨hcs, _⟩ | ⟨a, len, cap, m, n', V, D, Pl, hcs, _, hl, _, hmm, hx, hel⟩
  · simp [Value.cells] at hcs
    obtain ⟨rfl, rfl, rfl⟩ := hcs
    exact ⟨[], Or.inl ⟨none, 0, rfl, rfl⟩, by omega, by simp, by simp [fl]⟩
  · simp [Value.cells] at hcs
    obtain ⟨rfl, rfl, rfl⟩ := hcs
    simp only [Prod.mk.injEq] at hx
    obtain ⟨rfl, _⟩ := hx
    have hlm : n ≤ m := by rw [hmm]; split <;> omega
    have hbd : Rows.uptoBulkAll ((List.range n).map D) ≤ 1048576 := by simp only [Rows.uptoBulk] at hk; omega
    have hn : n ≤ 1048576 := by
      have := bulk_count ((List.range n).map D)
      simp at this
      omega
    have hin : ∀ i, i < n → ∃ bs : List UInt8, Src W (V i) bs ∧ bs.length ≤ Rows.uptoBulk (D i) := by
      intro i hi
      obtain ⟨h1, h2⟩ := hel i (by omega)
      have hDi : Rows.uptoBulk (D i) ≤ 1048576 := Nat.le_trans (bulk_mem (List.mem_map.2 ⟨i, List.mem_range.2 hi, rfl⟩)) hbd
      obtain ⟨ai, ni, ci, hV⟩ : ∃ ai ni ci, V i = .slice ai ni ci := by
        rcases DataW.trod_slice Tryz.underlying22 h2 with ⟨hc, _⟩ | ⟨a', len', cap', _, _, _, _, hc, _⟩
        · simp at hc; exact ⟨_, _, _, hc⟩
        · simp at hc; exact ⟨_, _, _, hc⟩
      rw [hV] at h2 ⊢
      obtain ⟨bs, hb, _, hbl⟩ := bytes_b (pl := Pl i) (d := D i) ⟨n', by simpa [Value.cells] using h2⟩ hDi
      exact ⟨bs, hb, hbl⟩
    obtain ⟨pss, hpl, hps⟩ := list_of hin
    have hfl : (fl pss).length ≤ 1048576 := Nat.le_trans (fl_bulk (D := D) hpl (fun j x hj => (hps j x hj).2)) hbd
    rcases Nat.eq_zero_or_pos n with rfl | hpos
    · exact ⟨[], Or.inl ⟨_, _, rfl, rfl⟩, hl, by simp, by simp [fl]⟩
    · have h0 := (hel 0 (by omega)).1
      have ha : a = ⟨a.block, a.off, none⟩ := addr_plain (v := V 0) (by simpa [Addr.add] using h0)
      have hlt : a.block < W.heap.size := World.block_lt_of_cell? W a (u := V 0) (by simpa [Addr.add] using h0)
      generalize a.block = g at ha hlt
      generalize a.off = o at ha
      subst ha
      refine ⟨pss, Or.inr ⟨g, o, c, by rw [hpl], hlt, fun j hj => ?_⟩, hl, by omega, hfl⟩
      have h1 := (hel j (by omega)).1
      rw [add_plain] at h1
      exact ⟨V j, h1, (hps j _ (by simp [List.getD_eq_getElem?_getD, List.getElem?_eq_getElem hj])).1⟩
theorem bytes_k {ao : Option Addr} {n c : Nat} {d : DataW H} {pl : List MemPlace} (h : DataW.Trod enc Tryz.prog W 0 spare held 22 (.slice ao n c) d pl) (hk : Rows.uptoBulk d ≤ 1048576) :
    ∃ bs : List UInt8, Src W (.slice ao n c) bs ∧ bs.length ≤ 1048576 := by
  obtain ⟨bs, h1, _, h3⟩ := bytes_b h hk
  exact ⟨bs, h1, Nat.le_trans h3 hk⟩
theorem lists_k {ao : Option Addr} {n c : Nat} {d : DataW H} {pl : List MemPlace} (h : DataW.Trod enc Tryz.prog W 0 spare held 23 (.slice ao n c) d pl) (hk : Rows.uptoBulk d ≤ 1048576) :
    ∃ pss : List (List UInt8), Lists W (.slice ao n c) pss ∧ pss.length ≤ 1048576 ∧ (fl pss).length ≤ 1048576 := by
  obtain ⟨pss, h1, _, h3, h4⟩ := lists_u h hk
  exact ⟨pss, h1, h3, h4⟩
end
end Go.Proofs.YtiibhccbbpgehabGreat

/- A region that draws its order: what is held may be made more on the way. Frames that lie apart from what grew. -/
namespace Go.Proofs.YtiibhccbbpgehabGreat
open Go.RowKit Go.BigFrame

theorem wpAnyH_turn {P : Program} {md : Region.Mode} {ops : Array Oper} {Q : Exit → Act → World → Prop} {S S' : World → Prop} (hS : ∀ W, S' W → S W) : ∀ (fuel : Nat) (listed : Array Bool) (a : Act) (w : World), wpAnyH P md ops Q S' fuel listed a w → wpAnyH P md ops Q S fuel listed a w
  | 0, _, _, _, h => h
  | fuel + 1, _, _, _, h => ⟨h.1, fun i hi => wpOp_mono (fun a' w' h' => ⟨hS w' h'.1, wpAnyH_turn hS fuel _ a' w' h'.2⟩) (h.2 i hi)⟩
theorem unguard8 {P : Program} {ops : Array Oper} {Q : Exit → Act → World → Prop} {a : Act} {w : World} {rest : List Oper} {d : Option Tmp} {op : Op} {ty : TypeId} {pos : String} {af : Array Edge} {g : Option (Nat × Bool)}
    (hw : Region.wanted ⟨d, op, ty, pos, af, g⟩ (yielded ops a.tmps) = true) (h : wpList P ops Q (⟨d, op, ty, pos, af, none⟩ :: rest) a w) : wpList P ops Q (⟨d, op, ty, pos, af, g⟩ :: rest) a w := by
  have hn : Region.wanted ⟨d, op, ty, pos, af, none⟩ (yielded ops a.tmps) = true := by simp [Region.wanted]
  simp only [wpList] at h ⊢
  rw [if_pos hn] at h
  rw [if_pos hw]
  exact h

/-- frames and their texts all lie below N -/
def Low (N : Nat) (v : Value) (fs : List FV) : Prop := (∀ k, v.ownBlock = some k → k < N) ∧ ∀ f ∈ fs, ∀ k, f.2.ownBlock = some k → k < N
theorem OFs.low {w : World} {lo : Nat} {v : Value} {fs : List FV} (h : OFs w lo v fs) : Low w.heap.size v fs :=
  ⟨fun k e => (World.ownsRow.lt h.own k e).2, fun f hf k e => (World.ownsRow.lt (h.each f hf).1 k e).2⟩
theorem OFs.off {w w' : World} {lo N : Nat} {v : Value} {row : Option Nat} {fs : List FV} (h : OFs w lo v fs) (hl : Low N v fs) (g : w.grownBy w' row) (hn : ∀ k, row = some k → N ≤ k) : OFs w' lo v fs := by
  have key : ∀ {t : TypeId} {sz m : Nat} {u : Value} {ys : List Value}, w.ownsRow lo t sz u m ys → (∀ k, u.ownBlock = some k → k < N) → w'.ownsRow lo t sz u m ys := by
    intro t sz m u ys hu hb
    refine World.ownsRow.kept hu g ?_
    cases hk : u.ownBlock with
    | none => exact Or.inl rfl
    | some k => exact Or.inr (fun h9 => by have := hb k hk; have := hn k h9.symm; omega)
  exact ⟨key h.own hl.1, fun f hf => ⟨key (h.each f hf).1 (hl.2 f hf), (h.each f hf).2⟩⟩
theorem gb_blk {w w' : World} {row : Option Nat} {b : Nat} {o : Obj} (hb : w.heap[b]? = some o) (g : w.grownBy w' row) (hn : row ≠ some b) : w'.heap[b]? = some o :=
  (g.block b (hp_lt hb) (fun e => hn e.symm)).trans hb
theorem cuts_split (bs : List UInt8) (T H N : Nat) (hH : H ≤ N) : (bs.drop T).take (T + H - T) ++ (bs.drop (T + H)).take (T + N - (T + H)) = (bs.drop T).take N := by
  rw [show T + H - T = H by omega, show T + N - (T + H) = N - H by omega, ← List.drop_drop]
  have e : (bs.drop T).take N = ((bs.drop T).take H) ++ ((bs.drop T).drop H).take (N - H) := by
    rw [← List.take_add, show H + (N - H) = N by omega]
  rw [e]
theorem Below.of_gbo {w w1 w2 : World} {row : Option Nat} (h : Below w.heap.size w w1) (g : w1.grownBy w2 row) (hr : ∀ k, row = some k → w.heap.size ≤ k) : Below w.heap.size w w2 :=
  ⟨g.os.trans h.os, g.tape.trans h.tape, g.output.trans h.output, Nat.le_trans h.size g.size, fun k hk => (g.block k (Nat.lt_of_lt_of_le hk h.size) (fun e => by have := hr k e.symm; omega)).trans (h.block k hk)⟩
end Go.Proofs.YtiibhccbbpgehabGreat

/- The document's reader: what it means that a block is one; its calls fail and short, and New. -/
namespace Go.Proofs.YtiibhccbbpgehabGreat
open Go.RowKit

/-- block b is a reader of the document's: its bytes, its place, its fault -/
structure Qd (w : World) (base b : Nat) (v : Value) (bs : List UInt8) (a : Nat) (why wat : Int) : Prop where
  lo : base ≤ b
  blk : w.heap[b]? = some (.cells #[v, .int .i64 a, .int .i64 why, .int .i64 wat] 130 (0, 0))
  own : OwnB w base v bs
  ne : v.ownBlock ≠ some b
  le : a ≤ bs.length

section
variable {w w' : World} {base b : Nat} {v : Value} {bs : List UInt8} {a : Nat} {why wat : Int}
theorem Qd.lt (h : Qd w base b v bs a why wat) : b < w.heap.size := by
  rcases Nat.lt_or_ge b w.heap.size with h1 | h1
  · exact h1
  · have := h.blk; rw [Array.getElem?_eq_none h1] at this; cases this
theorem Qd.c0 (h : Qd w base b v bs a why wat) : w.cell? ⟨b, 0, none⟩ = some v := by simp [World.cell?, h.blk]
theorem Qd.c1 (h : Qd w base b v bs a why wat) : w.cell? ⟨b, 1, none⟩ = some (.int .i64 a) := by simp [World.cell?, h.blk]
theorem Qd.c2 (h : Qd w base b v bs a why wat) : w.cell? ⟨b, 2, none⟩ = some (.int .i64 why) := by simp [World.cell?, h.blk]
theorem Qd.c3 (h : Qd w base b v bs a why wat) : w.cell? ⟨b, 3, none⟩ = some (.int .i64 wat) := by simp [World.cell?, h.blk]
theorem Qd.fz (h : Qd w base b v bs a why wat) (i : Nat) : w.frozen? ⟨b, i, none⟩ = false := by simp [World.frozen?, h.blk]
theorem Qd.grown {row : Option Nat} (h : Qd w base b v bs a why wat) (hg : w.grownBy w' row) (hb : row ≠ some b) (hv : v.ownBlock = none ∨ v.ownBlock ≠ row) : Qd w' base b v bs a why wat :=
  ⟨h.lo, (hg.block b h.lt (fun e => hb e.symm)).trans h.blk, h.own.kept hg hv, h.ne, h.le⟩
theorem Qd.below (h : Qd w base b v bs a why wat) (hb : Below w.heap.size w w') : Qd w' base b v bs a why wat :=
  ⟨h.lo, (hb.block b h.lt).trans h.blk, h.own.below hb, h.ne, h.le⟩
theorem Qd.drewN (h : Qd w base b v bs a why wat) (k : Nat) : Qd (w.drewN k) base b v bs a why wat := ⟨h.lo, h.blk, h.own, h.ne, h.le⟩
theorem Qd.drew (h : Qd w base b v bs a why wat) : Qd w.drew base b v bs a why wat := ⟨h.lo, h.blk, h.own, h.ne, h.le⟩
theorem Qd.setAt (h : Qd w base b v bs a why wat) (a' : Nat) (h' : a' ≤ bs.length) : Qd (w.setCell ⟨b, 1, none⟩ (.int .i64 a')) base b v bs a' why wat :=
  ⟨h.lo, blk_set h.blk _, h.own.kept (gb_set w _ _) (Or.inr (by simpa using h.ne)), h.ne, h'⟩
theorem Qd.setFault (h : Qd w base b v bs a why wat) (e x : Int) : Qd ((w.setCell ⟨b, 2, none⟩ (.int .i64 e)).setCell ⟨b, 3, none⟩ (.int .i64 x)) base b v bs a e x :=
  ⟨h.lo, blk_set (blk_set h.blk _) _, (h.own.kept (gb_set w _ _) (Or.inr (by simpa using h.ne))).kept (gb_set _ _ _) (Or.inr (by simpa using h.ne)), h.ne, h.le⟩

set_option maxHeartbeats 400000 in
theorem qfail_any (h : Qd w base b v bs a why wat) (e x : Int) :
    Calls Tryz.prog 85 #[.pointer (some ⟨b, 0, none⟩), .int .i64 e, .int .i64 x] w fun r w' => r = .returned (.tuple #[]) ∧ Qd w' base b v bs a e x ∧ w.grownBy w' (some b) := by
  have HR := hid h
  have h2 := h.c2
  have h3 := h.c3
  have f2 := h.fz 2
  have f3 := h.fz 3
  clear h
  go_enter Tryz.func85, Tryz.ntmps85
  go_wp2
  go_end0
  exact ⟨rfl, HR.out.setFault _ _, gb_trans (gb_set _ _ _) (gb_set _ _ _)⟩
end

theorem num_plus {acc c j : Nat} (hj : j ≤ 9) (ha : acc < 128 ^ j) (h9 : j = 9 → c ≤ 1) :
    IntKind.u64.wrap ((acc : Int) + IntKind.u64.wrap ((c : Int) % 128 * 2 ^ (7 * j))) = ((acc + c % 128 * 128 ^ j : Nat) : Int) := by
  have hg := group_lt hj h9
  have hp := pow_mono hj
  have e0 : (c : Int) % 128 = ((c % 128 : Nat) : Int) := by omega
  have e2 : ((c % 128 : Nat) : Int) * 2 ^ (7 * j) = ((c % 128 * 128 ^ j : Nat) : Int) := by rw [← seven_pow j]; simp
  have e3 : IntKind.u64.wrap ((c % 128 * 128 ^ j : Nat) : Int) = ((c % 128 * 128 ^ j : Nat) : Int) := by rw [IntKind.wrap_u64]; omega
  have hb : acc + c % 128 * 128 ^ j < 18446744073709551616 := by
    rcases Nat.lt_or_ge j 9 with h | h
    · have h1 := pow_step h
      have h2 : c % 128 * 128 ^ j ≤ 127 * 72057594037927936 := Nat.mul_le_mul (by omega) h1
      omega
    · obtain rfl : j = 9 := by omega
      have h1 := h9 rfl
      have : c % 128 * 128 ^ 9 ≤ 1 * 128 ^ 9 := Nat.mul_le_mul_right _ (by omega)
      omega
  rw [e0, e2, e3, IntKind.wrap_u64]
  omega

theorem ret_num3 {x y : Int} {k : Int} (h : x = y) : Ending.returned (.tuple #[.int .u64 x, .int .i64 k, .int .i64 0]) = .returned (.tuple #[.int .u64 y, .int .i64 k, .int .i64 0]) := by rw [h]

set_option maxRecDepth 100000 in
set_option maxHeartbeats 1000000 in
theorem short_any (base : Nat) (v : Value) (bs : List UInt8) (a : Nat) (w : World) (ho : OwnB w base v bs) (hle : a ≤ bs.length) (er n k : Nat) (hdec : dec (bs.drop a) 0 0 = (er, n, k)) :
    Calls Tryz.prog 86 #[v, .int .i64 a] w fun e w' => e = .returned (.tuple #[.int .u64 n, .int .i64 k, .int .i64 er]) ∧ w' = w := by
  have HD := hid hdec
  have hl := ho.len
  have HF := hid ho.forms
  obtain ⟨ad, cap, rfl⟩ := ho.shape
  clear ho hdec
  unfold maxLen at hl
  go_enter Tryz.func86, Tryz.ntmps86
  go_wp2_with fail
  go_loop [7, 8] (fun x i => ∃ (j acc : Nat), j ≤ 9 ∧ a + j ≤ bs.length ∧ acc < 128 ^ j ∧ dec (bs.drop (a + j)) j acc = (er, n, k) ∧ x = .int .u64 acc ∧ i = .int .i64 j) (fun _ i => 10 - (intOf i).toNat)
  case atStart => exact ⟨0, 0, by omega, by omega, by simp, HD.out, rfl, rfl⟩
  case round =>
    obtain ⟨j, acc, hj, haj, hacc, hd, rfl, rfl⟩ := hrel
    have HDR := hid hd
    have HAC := hid hacc
    clear hd hacc HD
    by_cases hlt : a + j < bs.length
    · obtain ⟨g, hadr, hbyte⟩ : ∃ g, ad = some ⟨g, 0, none⟩ ∧ w.cell? ⟨g, a + j, none⟩ = some (.int .u8 (bs.getD (a + j) 0).toNat) := by
        rcases HF.out with ⟨_, rfl⟩ | ⟨g, cp, hv, _, _, _, _, _, hc⟩
        · simp at hlt
        · simp only [Value.slice.injEq] at hv
          exact ⟨g, hv.1, hc _ hlt⟩
      subst hadr
      have HDR2 := hid (by rw [← HDR.out, drop_cons hlt, dec_cons] : (er, n, k) = _)
      have hcl := UInt8.toNat_lt (bs.getD (a + j) 0)
      generalize (bs.getD (a + j) 0).toNat = c at *
      have hbd : (a : Int) + (j : Int) < (bs.length : Int) := by omega
      have hbd0 : 0 ≤ (a : Int) + (j : Int) := by omega
      have hte : ((a : Int) + (j : Int)).toNat = a + j := by omega
      by_cases h9 : j = 9
      · subst h9
        have hbd' : (a : Int) + 9 < (bs.length : Int) := by omega
        have hbd0' : 0 ≤ (a : Int) + 9 := by omega
        have hte' : ((a : Int) + 9).toNat = a + 9 := by omega
        by_cases hc1 : (1 : Int) < (c : Int)
        · have HE := hid (end_wide (j := 9) HDR2.out rfl (by omega : 1 < c))
          clear HDR2
          go_wp2_with fail
          go_ret3
          obtain ⟨rfl, rfl, rfl⟩ := HE.out
          exact ⟨rfl, rfl⟩
        · by_cases hz : c = 0
          · have hz' : (c : Int) = 0 := by omega
            have HE := hid (end_form (j := 9) (c := c) HDR2.out (by omega) (by omega) hz)
            clear hz HDR2
            go_wp2_with fail
            go_ret3
            obtain ⟨rfl, rfl, rfl⟩ := HE.out
            exact ⟨rfl, rfl⟩
          · obtain rfl : c = 1 := by omega
            have HE := hid (end_done (j := 9) (c := 1) HDR2.out (by omega) (by omega) (by omega))
            clear HDR2
            go_wp2_with fail
            go_ret3
            obtain ⟨rfl, rfl, rfl⟩ := HE.out
            exact ⟨ret_num3 (num_plus (c := 1) (j := 9) (by omega) HAC.out (by omega)), rfl⟩
      · have HJ9 := hid h9
        have hj9 : ¬ (j : Int) = 9 := by omega
        clear h9
        by_cases hc1 : (c : Int) < 128
        · by_cases hz : c = 0
          · have HZ := hid hz
            have hz' : (c : Int) = 0 := by omega
            clear hz
            by_cases hj0 : 0 < j
            · go_wp2_with fail
              go_ret3
              obtain ⟨rfl, rfl, rfl⟩ := end_form (c := c) (j := j) HDR2.out (by omega) hj0 HZ.out
              exact ⟨rfl, rfl⟩
            · have HE := hid (end_done (c := c) (j := j) HDR2.out (by omega) (by omega) (by omega))
              clear HDR2
              go_wp2_with fail
              go_ret3
              obtain ⟨rfl, rfl, rfl⟩ := HE.out
              refine ⟨ret_num3 (k := (j : Int) + 1) ?_, rfl⟩
              have h1 := pow_mono (show j ≤ 9 by omega)
              have h2 := HAC.out
              rw [HZ.out, IntKind.wrap_u64]
              omega
          · have hz' : ¬ (c : Int) = 0 := by omega
            go_wp2_with fail
            go_ret3
            obtain ⟨rfl, rfl, rfl⟩ := end_done HDR2.out (by have := HJ9.out; omega) (by omega) (by omega)
            have e1 : c % 128 = c := by omega
            exact ⟨ret_num3 (by rw [num_plus (by omega) HAC.out (fun e => absurd e HJ9.out), e1]), rfl⟩
        · go_wp2_with fail
          have e0 := end_more HDR2.out HJ9.out (by omega)
          have e1 : c % 128 = c - 128 := by omega
          have hps : 128 ^ (j + 1) = 128 ^ j * 128 := Nat.pow_succ _ _
          have hlt2 : acc + (c - 128) * 128 ^ j < 128 ^ (j + 1) := by
            have h1 : (c - 128) * 128 ^ j ≤ 127 * 128 ^ j := Nat.mul_le_mul_right _ (by omega)
            have h2 := HAC.out
            omega
          have hj' := HJ9.out
          go_round
          case rel => exact ⟨j + 1, acc + (c - 128) * 128 ^ j, by omega, by omega, hlt2, e0, by rw [num_plus (by omega) HAC.out (fun e => absurd e HJ9.out), e1], by go_num⟩
          case measure => simp [intOf]; omega
    · go_wp2_with fail
      go_ret3
      have e1 : bs.drop (a + j) = [] := List.drop_eq_nil_of_le (by omega)
      have e2 := HDR.out
      rw [e1] at e2
      simp [dec] at e2
      obtain ⟨rfl, rfl, rfl⟩ := e2
      exact ⟨rfl, rfl⟩

end Go.Proofs.YtiibhccbbpgehabGreat

/- The document's reader: Uint, Int, Fail, End. -/
namespace Go.Proofs.YtiibhccbbpgehabGreat
open Go.RowKit

theorem watOf_ne {er : Nat} (h : er ≠ 0) (a : Nat) (wat : Int) : watOf er a wat = a := by
  unfold watOf
  simp [h]

section

variable {w : World} {base b : Nat} {v : Value} {bs : List UInt8} {a : Nat} {why wat : Int}


set_option maxHeartbeats 1000000 in
theorem quint_over (h : Qd w base b v bs a why wat) (hw : why ≠ 0) :
    Calls Tryz.prog 77 #[.pointer (some ⟨b, 0, none⟩)] w fun e w' => e = .returned (.int .u64 0) ∧ w' = w := by
  have h2 := h.c2
  have hb : (why != 0) = true := by simpa using hw
  clear h
  go_enter Tryz.func77, Tryz.ntmps77
  go_wp2
  go_ret
  exact ⟨rfl, rfl⟩

set_option maxHeartbeats 1000000 in
theorem quint_go (h : Qd w base b v bs a 0 wat) (er n k : Nat) (hdec : dec (bs.drop a) 0 0 = (er, n, k)) :
    Calls Tryz.prog 77 #[.pointer (some ⟨b, 0, none⟩)] w fun e w' => e = .returned (.int .u64 n) ∧ Qd w' base b v bs (a + k) er (watOf er a wat) ∧ w.grownBy w' (some b) := by
  have HR := hid h
  have h0 := h.c0
  have h1 := h.c1
  have h2 := h.c2
  have f1 := h.fz 1
  have hle := h.le
  have hl := h.own.len
  unfold maxLen at hl
  have HD := hid hdec
  have HL := hid (dec_le _ hdec)
  clear h hdec
  go_enter Tryz.func77, Tryz.ntmps77
  go_wp2_with fail
  go_quiet (first | (go_at_call 86; exact Calls.quiet_of_same (short_any base v bs a _ (HR.out.drewN _).own HR.out.le er n k HD.out)))
  by_cases he : er = 0
  · subst he
    have hk : (a : Int) + (k : Int) ≤ 9223372036854775807 := by have := HL.out.1; simp at this; omega
    go_wp2_with fail
    go_ret
    have R := (HR.out.drewN nq).setAt (a + k) (by have := HL.out.1; simp at this; omega)
    rw [Int.natCast_add] at R
    exact ⟨rfl, by simpa [watOf] using R, gb_trans (gb_drewN _ _ _) (gb_set _ _ _)⟩
  · have hW := watOf_ne he a wat
    have HW := hid hW
    clear hW
    have he' : ((er : Int) != 0) = true := by simpa using he
    obtain ⟨rfl, rfl⟩ := HL.out.2.2.2 he
    clear he
    go_wp2_with fail
    refine (qfail_any (HR.out.drewN nq) _ _).mono ?_
    rintro e w1 ⟨rfl, hq, hg⟩
    have HQ := hid hq
    have HG := hid (gb_trans (gb_drewN w nq _) hg)
    clear hq hg
    go_wp2_with fail
    go_ret
    exact ⟨rfl, by rw [HW.out]; exact HQ.out, HG.out⟩

theorem quint_R (h : Qd w base b v bs a why wat) :
    Calls Tryz.prog 77 #[.pointer (some ⟨b, 0, none⟩)] w fun e w' => e = .returned (.int .u64 (uintF bs a why wat).1) ∧ Qd w' base b v bs (uintF bs a why wat).2.1 (uintF bs a why wat).2.2.1 (uintF bs a why wat).2.2.2 ∧ w.grownBy w' (some b) := by
  unfold uintF
  by_cases hw : why ≠ 0
  · rw [if_pos hw]
    refine (quint_over h hw).mono ?_
    rintro e w' ⟨rfl, rfl⟩
    exact ⟨rfl, h, gb_refl _ _⟩
  · rw [if_neg hw]
    obtain rfl : why = 0 := by omega
    exact quint_go h _ _ _ rfl

set_option maxHeartbeats 1000000 in
theorem qfailm_R (n : Int) (h : Qd w base b v bs a why wat) :
    Calls Tryz.prog 91 #[.pointer (some ⟨b, 0, none⟩), .int .i64 n] w fun e w' => e = .returned (.tuple #[]) ∧
      Qd w' base b v bs a (if why = 0 then n else why) (if why = 0 ∧ n ≠ 0 then a else wat) ∧ w.grownBy w' (some b) := by
  have h1 := h.c1
  have h2 := h.c2
  by_cases hw : why = 0
  · subst hw
    by_cases hn : n = 0
    · subst hn
      rw [if_pos rfl, if_neg (by simp)]
      have HR := hid h
      clear h
      go_enter Tryz.func91, Tryz.ntmps91
      go_wp2_with fail
      go_end0
      exact ⟨rfl, HR.out, gb_refl _ _⟩
    · rw [if_pos rfl, if_pos ⟨rfl, hn⟩]
      have HR := hid h
      have hn' : (n != 0) = true := by simpa using hn
      clear h hn
      go_enter Tryz.func91, Tryz.ntmps91
      go_wp2_with fail
      refine (qfail_any HR.out _ _).mono ?_
      rintro e w1 ⟨rfl, hq, hg⟩
      have HQ := hid hq
      have HG := hid hg
      clear hq hg HR
      go_wp2_with fail
      go_end0
      exact ⟨rfl, HQ.out, HG.out⟩
  · rw [if_neg hw, if_neg (by simp [hw])]
    have HR := hid h
    have hw' : (why == 0) = false := by simpa using hw
    clear h hw
    go_enter Tryz.func91, Tryz.ntmps91
    go_wp2_with fail
    go_end0
    exact ⟨rfl, HR.out, gb_refl _ _⟩

set_option maxHeartbeats 1000000 in
theorem qend_more (h : Qd w base b v bs a 0 wat) (hlt : a < bs.length) :
    Calls Tryz.prog 76 #[.pointer (some ⟨b, 0, none⟩)] w fun e w' => e = .returned (.tuple #[.int .i64 6, .int .i64 a]) ∧ Qd w' base b v bs a 6 a ∧ w.grownBy w' (some b) := by
  obtain ⟨ad, cap, rfl⟩ := h.own.shape
  have HR := hid h
  have h0 := h.c0
  have h1 := h.c1
  have h2 := h.c2
  have hlt' : (a : Int) < (bs.length : Int) := by omega
  clear h
  go_enter Tryz.func76, Tryz.ntmps76
  go_wp2_with fail
  go_quiet (fail)
  go_wp2_with fail
  refine (qfail_any (HR.out.drewN nq) _ _).mono ?_
  rintro e w1 ⟨rfl, hq, hg⟩
  have HQ := hid hq
  have HG := hid (gb_trans (gb_drewN w nq _) hg)
  have g2 := hq.c2
  have g3 := hq.c3
  clear hq hg HR
  go_wp2_with fail
  go_quiet (fail)
  go_wp2_with fail
  go_ret2
  exact ⟨rfl, HQ.out.drewN _, gb_trans HG.out (gb_drewN _ _ _)⟩

set_option maxHeartbeats 1000000 in
theorem qend_idle (h : Qd w base b v bs a why wat) (hidle : why ≠ 0 ∨ a = bs.length) :
    Calls Tryz.prog 76 #[.pointer (some ⟨b, 0, none⟩)] w fun e w' => e = .returned (.tuple #[.int .i64 why, .int .i64 wat]) ∧ Qd w' base b v bs a why wat ∧ w.grownBy w' (some b) := by
  obtain ⟨ad, cap, rfl⟩ := h.own.shape
  have HR := hid h
  have h0 := h.c0
  have h1 := h.c1
  have h2 := h.c2
  have h3 := h.c3
  clear h
  by_cases hw : why = 0
  · subst hw
    obtain rfl : a = bs.length := by rcases hidle with h | h; exact absurd rfl h; exact h
    clear hidle
    go_enter Tryz.func76, Tryz.ntmps76
    go_wp2_with fail
    go_quiet (fail)
    go_wp2_with fail
    go_quiet (fail)
    go_wp2_with fail
    go_ret2
    exact ⟨rfl, (HR.out.drewN _).drewN _, gb_trans (gb_drewN _ _ _) (gb_drewN _ _ _)⟩
  · have hw' : (why == 0) = false := by simpa using hw
    clear hidle hw
    go_enter Tryz.func76, Tryz.ntmps76
    go_wp2_with fail
    go_quiet (fail)
    go_wp2_with fail
    go_quiet (fail)
    go_wp2_with fail
    go_ret2
    exact ⟨rfl, (HR.out.drewN _).drewN _, gb_trans (gb_drewN _ _ _) (gb_drewN _ _ _)⟩

end

end Go.Proofs.YtiibhccbbpgehabGreat

/- The document's Need. -/
namespace Go.Proofs.YtiibhccbbpgehabGreat
open Go.RowKit Go.BigFrame

set_option maxRecDepth 100000 in
set_option maxHeartbeats 2000000 in
theorem qnew_any (v0 : Value) (bs : List UInt8) (w : World) (hs : Src w v0 bs) :
    Calls Tryz.prog 74 #[v0] w fun e w' => ∃ v', e = .returned (.agg #[v', .int .i64 0, .int .i64 0, .int .i64 0]) ∧ OwnB w' w.heap.size v' bs ∧ Below w.heap.size w w' := by
  have HS := hid (hs.below (below_walk w (.cells #[.slice none 0 0, .int .i64 0, .int .i64 0, .int .i64 0] 130)))
  have hl := hs.1
  clear hs
  go_enter Tryz.func74, Tryz.ntmps74
  go_wp2_with (at_builtin; refine app_src rfl _ _ rfl (w.heap.size + 1) _ _ rfl (OwnB.nil _ _) _ _ rfl HS.out ?c1 ?c2 ?_)
  case c1 => simpa using hl
  case c2 => simp
  intro v1 w1 ho1 hg1
  have HO1 := hid (by simpa using ho1 : OwnB w1 (w.heap.size + 1) v1 bs)
  have HB1 := hid ((below_walk w _).trans ((gb_below hg1).mono (by simp)))
  have n0 : w1.cell? ⟨w.heap.size, 0, none⟩ = some (.slice none 0 0) := by rw [(gb_below hg1).cell (p := ⟨w.heap.size, 0, none⟩) (by simp)]; simp
  have n1 : w1.cell? ⟨w.heap.size, 1, none⟩ = some (.int .i64 0) := by rw [(gb_below hg1).cell (p := ⟨w.heap.size, 1, none⟩) (by simp)]; simp
  have n2 : w1.cell? ⟨w.heap.size, 2, none⟩ = some (.int .i64 0) := by rw [(gb_below hg1).cell (p := ⟨w.heap.size, 2, none⟩) (by simp)]; simp
  have n3 : w1.cell? ⟨w.heap.size, 3, none⟩ = some (.int .i64 0) := by rw [(gb_below hg1).cell (p := ⟨w.heap.size, 3, none⟩) (by simp)]; simp
  have f0 : ∀ i, w1.frozen? ⟨w.heap.size, i, none⟩ = false := by intro i; rw [(gb_below hg1).frozen (p := ⟨w.heap.size, i, none⟩) (by simp)]; simp
  have f1 := f0 0
  have f2 := f0 1
  have f3 := f0 2
  have f4 := f0 3
  clear ho1 hg1 f0
  obtain ⟨ad, cap, rfl⟩ := HO1.out.shape
  go_wp2_with fail
  have hg : w1.grownBy ((((w1.setCell ⟨w.heap.size, 0, none⟩ (.slice ad bs.length cap)).setCell ⟨w.heap.size, 1, none⟩ (.int .i64 0)).setCell ⟨w.heap.size, 2, none⟩ (.int .i64 0)).setCell ⟨w.heap.size, 3, none⟩ (.int .i64 0)) (some w.heap.size) :=
    gb_trans (gb_trans (gb_trans (gb_set _ _ _) (gb_set _ _ _)) (gb_set _ _ _)) (gb_set _ _ _)
  exact bodyPost_ret (v := .agg #[.slice ad bs.length cap, .int .i64 0, .int .i64 0, .int .i64 0]) (by simp [results, Tryz.results74, go_sem, n0, n1, n2, n3]) rfl ⟨_, rfl, (HO1.out.kept hg (by right; intro e; have := (HO1.out.lt _ e).1; omega)).le (by omega), Below.of_gb HB1.out hg (Nat.le_refl _)⟩

set_option maxRecDepth 100000 in
set_option maxHeartbeats 4000000 in
theorem rneed_any (v : Value) (bs : List UInt8) (w : World) (hs : Src w v bs) :
    Calls Tryz.prog 66 #[v] w fun e w' => e = .returned (.tuple #[.int .i64 (needP bs).1, .int .i64 (needP bs).2.1, .int .i64 (needP bs).2.2]) ∧ Below w.heap.size w w' := by
  obtain ⟨av, cv, rfl⟩ := src_shape hs
  have hsl := hs.1
  have HN := hid (qnew_any _ bs w hs)
  obtain ⟨E, N, K, hdec⟩ : ∃ E N K, dec bs 0 0 = (E, N, K) := ⟨_, _, _, rfl⟩
  have HU : Hid (uintF bs 0 0 0 = (N, K, (E : Int), watOf E 0 0)) := hid (by unfold uintF; rw [if_neg (by simp), List.drop_zero, hdec]; simp)
  have HLE := hid (dec_le bs hdec)
  have HTEN : Hid (K ≤ 10) := hid (by have h1 := dec_head bs; rw [hdec] at h1; have := (dec_le _ h1).1; rw [List.length_take] at this; omega)
  have HP : Hid (needP bs = if E = 4 then (0, 0, 0) else if E ≠ 0 then (0, 0, E) else if 2097152 < N then (0, 0, 3) else if N = 0 then (0, 0, 70) else (K + N + 4, K, 0)) := hid (by unfold needP; rw [hdec])
  clear hdec hs
  go_enter Tryz.func66, Tryz.ntmps66
  go_wp2_with fail
  refine HN.out.mono ?_
  rintro e w1 ⟨v1, rfl, ho1, hb1⟩
  obtain ⟨a1, c1, e1⟩ := src_shape (ho1.src (by omega))
  subst e1
  have HB1 := hid (below_then hb1 (below_walk w1 (.cells #[.slice a1 bs.length c1, .int .i64 0, .int .i64 0, .int .i64 0] 130)))
  have HQ1 : Hid (Qd (w1.alloc (.cells #[.slice a1 bs.length c1, .int .i64 0, .int .i64 0, .int .i64 0] 130)) w.heap.size w1.heap.size (.slice a1 bs.length c1) bs 0 0 0) := hid ⟨hb1.size, hp_new w1 _, ho1.below (below_walk w1 _), fun e => by have := (ho1.lt _ e).2; omega, Nat.zero_le _⟩
  clear ho1 hb1 HN
  go_wp2_with fail
  obtain ⟨B, HBN⟩ : ∃ b : Nat, Hid (w1.heap.size = b) := ⟨_, rfl⟩
  rw [HBN.out] at HQ1 ⊢
  generalize w1.alloc (.cells #[.slice a1 bs.length c1, .int .i64 0, .int .i64 0, .int .i64 0] 130) = w2 at HB1 HQ1 ⊢
  have HUI := hid (quint_R (h := HQ1.out))
  rw [HU.out] at HUI
  refine HUI.out.mono ?_
  rintro e w3 ⟨rfl, hq3, hg3⟩
  have HQ3 := hid hq3
  have HB3 := hid (Below.of_gb HB1.out hg3 hq3.lo)
  have x1 : w3.cell? ⟨B, 1, none⟩ = some (.int .i64 K) := by rw [cell_of_row w3 B 1 _ _ _ hq3.blk]; rfl
  have x2 : w3.cell? ⟨B, 2, none⟩ = some (.int .i64 E) := by rw [cell_of_row w3 B 2 _ _ _ hq3.blk]; rfl
  clear hq3 hg3 HUI HB1 HQ1
  by_cases h4 : E = 4
  · have HV := hid (show needP bs = (0, 0, 0) by rw [HP.out, if_pos h4])
    have q1 : ((E : Int) == 4) = true := by simp [h4]
    have q2 : (E : Int) = 4 := by omega
    clear h4
    go_wp2
    go_ret3
    rw [HV.out]
    exact ⟨rfl, HB3.out⟩
  · have q1 : ((E : Int) == 4) = false := by simp; omega
    have q2 : ¬ (E : Int) = 4 := by omega
    by_cases h0 : E = 0
    · have q3 : ((E : Int) != 0) = false := by simp [h0]
      have q4 : (E : Int) = 0 := by omega
      by_cases hN : 2097152 < N
      · have HV := hid (show needP bs = (0, 0, 3) by rw [HP.out, if_neg h4, if_neg (by simpa using h0), if_pos hN])
        have q5 : (2097152 : Int) < (N : Int) := by omega
        have q6 : decide ((2097152 : Int) < (N : Int)) = true := by simpa using q5
        clear h4 h0 hN
        go_wp2
        go_ret3
        rw [HV.out]
        exact ⟨rfl, HB3.out⟩
      · have q5 : ¬ (2097152 : Int) < (N : Int) := by omega
        have q6 : decide ((2097152 : Int) < (N : Int)) = false := by simpa using q5
        by_cases hz : N = 0
        · have HV := hid (show needP bs = (0, 0, 70) by rw [HP.out, if_neg h4, if_neg (by simpa using h0), if_neg hN, if_pos hz])
          have q7 : ((N : Int) == 0) = true := by simp [hz]
          have q8 : (N : Int) = 0 := by omega
          clear h4 h0 hN hz
          go_wp2
          go_ret3
          rw [HV.out]
          exact ⟨rfl, HB3.out⟩
        · have HV := hid (show needP bs = (K + N + 4, K, 0) by rw [HP.out, if_neg h4, if_neg (by simpa using h0), if_neg hN, if_neg hz])
          have q7 : ((N : Int) == 0) = false := by simp; omega
          have q8 : ¬ (N : Int) = 0 := by omega
          have wa : IntKind.i64.wrap (N : Int) = (N : Int) := by rw [IntKind.wrap_i64]; omega
          have wb : IntKind.i64.wrap ((K : Int) + (N : Int)) = (K : Int) + (N : Int) := by rw [IntKind.wrap_i64]; have := HTEN.out; omega
          have wc : IntKind.i64.wrap ((K : Int) + (N : Int) + 4) = (K : Int) + (N : Int) + 4 := by rw [IntKind.wrap_i64]; have := HTEN.out; omega
          clear h4 h0 hN hz
          go_wp2_with fail
          go_quiet (fail)
          go_wp2
          go_ret3
          rw [HV.out]
          exact ⟨by simp, below_then HB3.out ⟨rfl, rfl, rfl, Nat.le_refl _, fun _ _ => rfl⟩⟩
    · have HV := hid (show needP bs = (0, 0, E) by rw [HP.out, if_neg h4, if_pos h0])
      have q3 : ((E : Int) != 0) = true := by simp; omega
      have q4 : ¬ (E : Int) = 0 := by omega
      clear h4 h0
      go_wp2_with fail
      go_quiet (fail)
      go_wp2
      go_ret3
      rw [HV.out]
      exact ⟨rfl, below_then HB3.out ⟨rfl, rfl, rfl, Nat.le_refl _, fun _ _ => rfl⟩⟩

end Go.Proofs.YtiibhccbbpgehabGreat

/- The document's reader: Raw, Byte, Bool, Count. -/
namespace Go.Proofs.YtiibhccbbpgehabGreat
open Go.RowKit

/-- how bytes of the call's own are cut in their midst -/
theorem cut_mid {w : World} {base : Nat} {ad : Option Addr} {cap : Nat} {bs : List UInt8} (h : OwnB w base (.slice ad bs.length cap) bs) (hbl : bs.length ≤ 140737488355327) (a m : Nat) (hm : a + m ≤ bs.length) :
    ∃ vx, Src w vx ((bs.drop a).take m) ∧ vx.ownBlock = ad.map (·.block) ∧ (∀ W, (Instr.slice 22 (.slice ad bs.length cap) (some (.int .i64 (a : Int))) (some (.int .i64 ((a : Int) + (m : Int)))) none).run Tryz.prog W = .ok vx W) := by
  rcases h.forms with ⟨h1, rfl⟩ | ⟨g, cap', hv, _, hlt, h1, h2, _, hc⟩
  · simp at hm h1
    obtain ⟨rfl, rfl⟩ := hm
    obtain ⟨rfl, rfl⟩ := h1
    exact ⟨.slice none 0 0, ⟨by simp, Or.inl ⟨rfl, by simp⟩⟩, rfl, fun W => by go_simp⟩
  · simp only [Value.slice.injEq] at hv
    obtain ⟨rfl, _, rfl⟩ := hv
    have hlen : ((bs.drop a).take m).length = m := by simp; omega
    have hk1 : (a : Int) + (m : Int) ≤ (cap : Int) := by omega
    have hk0 : 0 ≤ (a : Int) + (m : Int) := by omega
    have hk2 : (a : Int) ≤ max ((a : Int) + (m : Int)) 0 := by omega
    have ht : ((a : Int) + (m : Int)).toNat - a = m := by omega
    refine ⟨.slice (if cap = a then some ⟨g, 0, none⟩ else some ⟨g, a, none⟩) m (cap - a), ?_, by split <;> rfl, fun W => by go_simp; intro hx; exact absurd hx (by omega)⟩
    refine ⟨by omega, Or.inr ?_⟩
    by_cases hca : cap = a
    · obtain rfl : m = 0 := by omega
      rw [if_pos hca]
      exact ⟨_, _, by rw [hlen], by omega, by omega, fun h => by omega, fun j hj => by rw [hlen] at hj; omega⟩
    · rw [if_neg hca]
      refine ⟨⟨g, a, none⟩, _, by rw [hlen], by omega, by omega, fun _ => hlt, fun j hj => ?_⟩
      rw [hlen] at hj
      have ha : (⟨g, a, none⟩ : Addr).add j = ⟨g, a + j, none⟩ := by
        by_cases h0 : j = 0
        · subst h0; simp [Addr.add]
        · simp [Addr.add, h0]
      rw [ha, hc (a + j) (by omega)]
      simp [List.getD_eq_getElem?_getD, hj]

section

variable {w : World} {base b : Nat} {v : Value} {bs : List UInt8} {a : Nat} {why wat : Int}


set_option maxHeartbeats 1000000 in
theorem qraw_over (m : Int) (h : Qd w base b v bs a why wat) (hw : why ≠ 0) :
    Calls Tryz.prog 81 #[.pointer (some ⟨b, 0, none⟩), .int .i64 m] w fun e w' => e = .returned (.slice none 0 0) ∧ w' = w := by
  have h2 := h.c2
  have hb : (why != 0) = true := by simpa using hw
  clear h
  go_enter Tryz.func81, Tryz.ntmps81
  go_wp2
  go_ret
  exact ⟨rfl, rfl⟩

set_option maxHeartbeats 1000000 in
theorem qraw_arg (m : Int) (h : Qd w base b v bs a 0 wat) (hm : m < 0) :
    Calls Tryz.prog 81 #[.pointer (some ⟨b, 0, none⟩), .int .i64 m] w fun e w' => e = .returned (.slice none 0 0) ∧ Qd w' base b v bs a 1 a ∧ w.grownBy w' (some b) := by
  have h1 := h.c1
  have h2 := h.c2
  have HR := hid h
  clear h
  go_enter Tryz.func81, Tryz.ntmps81
  go_wp2_with fail
  refine (qfail_any HR.out _ _).mono ?_
  rintro e w1 ⟨rfl, hq, hg⟩
  have HQ := hid hq
  have HG := hid hg
  clear hq hg HR
  go_wp2_with fail
  go_ret
  exact ⟨rfl, HQ.out, HG.out⟩

set_option maxHeartbeats 1000000 in
theorem qraw_short (m : Nat) (h : Qd w base b v bs a 0 wat) (hm : bs.length - a < m) :
    Calls Tryz.prog 81 #[.pointer (some ⟨b, 0, none⟩), .int .i64 m] w fun e w' => e = .returned (.slice none 0 0) ∧ Qd w' base b v bs a 4 a ∧ w.grownBy w' (some b) := by
  have hl := h.own.len
  unfold maxLen at hl
  have hle := h.le
  obtain ⟨ad, cap, rfl⟩ := h.own.shape
  have h0 := h.c0
  have h1 := h.c1
  have h2 := h.c2
  have HR := hid h
  have hm' : (bs.length : Int) - (a : Int) < (m : Int) := by omega
  clear h
  go_enter Tryz.func81, Tryz.ntmps81
  go_wp2_with fail
  go_quiet (fail)
  go_wp2_with fail
  refine (qfail_any (HR.out.drewN nq) _ _).mono ?_
  rintro e w1 ⟨rfl, hq, hg⟩
  have HQ := hid hq
  have HG := hid (gb_trans (gb_drewN w nq _) hg)
  clear hq hg HR
  go_wp2_with fail
  go_ret
  exact ⟨rfl, HQ.out, HG.out⟩

set_option maxRecDepth 100000 in
set_option maxHeartbeats 2000000 in
theorem qraw_ok (m : Nat) (h : Qd w base b v bs a 0 wat) (hbl : bs.length ≤ 140737488355327) (hm : a + m ≤ bs.length) :
    Calls Tryz.prog 81 #[.pointer (some ⟨b, 0, none⟩), .int .i64 m] w fun e w' => ∃ v', e = .returned v' ∧ OwnB w' w.heap.size v' ((bs.drop a).take m) ∧ Qd w' base b v bs (a + m) 0 wat ∧ w.grownBy w' (some b) := by
  obtain ⟨ad, cap, rfl⟩ := h.own.shape
  have h0 := h.c0
  have h1 := h.c1
  have h2 := h.c2
  have f1 := h.fz 1
  have HR := hid h
  have hm' : ¬ (bs.length : Int) - (a : Int) < (m : Int) := by omega
  clear h
  go_enter Tryz.func81, Tryz.ntmps81
  go_wp2_with fail
  go_quiet (fail)
  go_wp2_with fail
  have HQ := hid (HR.out.drewN nq |>.setAt (a + m) hm)
  rw [Int.natCast_add] at HQ
  have HG := hid (gb_trans (gb_drewN w nq _) (gb_set (w.drewN nq) ⟨b, 1, none⟩ (.int .i64 ((a : Int) + (m : Int)))))
  generalize (w.drewN nq).setCell ⟨b, 1, none⟩ (.int .i64 ((a : Int) + (m : Int))) = W at *
  clear h0 h1 h2 f1 HR
  have HQD := hid (HQ.out.drew)
  have HGD := hid (gb_trans HG.out (gb_drew W _))
  obtain ⟨X, HX⟩ : ∃ X : World, Hid (X = W.drew) := ⟨_, rfl⟩
  rw [← HX.out] at HQD HGD
  have h0 := HQD.out.c0
  have h1 := HQD.out.c1
  obtain ⟨vx, hvx, hob, hcut⟩ := cut_mid HQD.out.own hbl a m hm
  have HVX := hid hvx
  have HOB := hid hob
  clear hvx hob HQ HG
  have e1 : (a : Int) + (m : Int) - (m : Int) = (a : Int) := by omega
  have e2 : ((a : Int) + (m : Int)) ≤ 140737488355327 := by omega
  have e3 : IntKind.i64.wrap (a : Int) = (a : Int) := by rw [IntKind.wrap_i64]; omega
  rw [Int.natCast_add] at h1
  refine wp_region_still_tail 15 (by kernel_rfl) (by kernel_rfl) ?_
  simp only [List.take_succ_cons, List.take_zero, List.drop_succ_cons, List.drop_zero]
  rw [show ({ W with drawn := W.drawn + 1 } : World) = X from HX.out.symm]
  repeat still_step
  refine wpStill_nil ?_
  go_wp2_with (at_builtin; refine app_src rfl _ _ rfl X.heap.size _ _ rfl (OwnB.nil _ _) _ _ rfl HVX.out ?c1 (Nat.le_refl _) ?_)
  case c1 => omega
  intro v1 w1 ho1 hg1
  have HO1 := hid (by simpa using ho1 : OwnB w1 X.heap.size v1 ((bs.drop a).take m))
  have HB1 := hid (gb_below hg1)
  clear ho1 hg1
  go_wp2_with fail
  go_ret
  exact ⟨_, rfl, HO1.out.le HGD.out.size, HQD.out.below HB1.out, gb_trans HGD.out (below_gb HB1.out _)⟩

theorem qraw_R (m : Int) (hbl : bs.length ≤ 140737488355327) (h : Qd w base b v bs a why wat) :
    Calls Tryz.prog 81 #[.pointer (some ⟨b, 0, none⟩), .int .i64 m] w fun e w' => ∃ v', e = .returned v' ∧ OwnB w' w.heap.size v' (rawF bs a why wat m).1 ∧ Qd w' base b v bs (rawF bs a why wat m).2.1 (rawF bs a why wat m).2.2.1 (rawF bs a why wat m).2.2.2 ∧ w.grownBy w' (some b) := by
  unfold rawF
  by_cases hw : why ≠ 0
  · rw [if_pos hw]
    refine (qraw_over m h hw).mono ?_
    rintro e w' ⟨rfl, rfl⟩
    exact ⟨_, rfl, OwnB.nil _ _, h, gb_refl _ _⟩
  · rw [if_neg hw]
    obtain rfl : why = 0 := by omega
    by_cases h0 : m < 0
    · rw [if_pos h0]
      refine (qraw_arg m h h0).mono ?_
      rintro e w' ⟨rfl, hr⟩
      exact ⟨_, rfl, OwnB.nil _ _, hr⟩
    · rw [if_neg h0]
      obtain ⟨k, rfl⟩ : ∃ k : Nat, m = k := ⟨m.toNat, by omega⟩
      simp only [Int.toNat_natCast]
      have hle := h.le
      by_cases hl : bs.length - a < k
      · rw [if_pos hl]
        refine (qraw_short k h hl).mono ?_
        rintro e w' ⟨rfl, hr⟩
        exact ⟨_, rfl, OwnB.nil _ _, hr⟩
      · rw [if_neg hl]
        exact qraw_ok k h hbl (by omega)

set_option maxHeartbeats 1000000 in
theorem qcount_over (m : Int) (h : Qd w base b v bs a why wat) (hw : why ≠ 0) :
    Calls Tryz.prog 82 #[.pointer (some ⟨b, 0, none⟩), .int .i64 m] w fun e w' => e = .returned (.int .i64 0) ∧ w' = w := by
  have HC := hid (quint_over h hw)
  have h1 := h.c1
  have h2 := h.c2
  have hw' : (why == 0) = false := by simpa using hw
  clear h hw
  go_enter Tryz.func82, Tryz.ntmps82
  go_wp2_with fail
  refine Calls.mono HC.out ?_
  rintro e w1 ⟨rfl, rfl⟩
  go_wp2_with fail
  go_ret
  exact ⟨rfl, rfl⟩

set_option maxHeartbeats 1000000 in
theorem qcount_arg (m : Int) (h : Qd w base b v bs a 0 wat) (hm : m < 0) :
    Calls Tryz.prog 82 #[.pointer (some ⟨b, 0, none⟩), .int .i64 m] w fun e w' => e = .returned (.int .i64 0) ∧ Qd w' base b v bs a 1 a ∧ w.grownBy w' (some b) := by
  have h1 := h.c1
  have h2 := h.c2
  have HR := hid h
  clear h
  go_enter Tryz.func82, Tryz.ntmps82
  go_wp2_with fail
  refine (qfail_any HR.out _ _).mono ?_
  rintro e w1 ⟨rfl, hq, hg⟩
  have HQ := hid hq
  have HG := hid hg
  have g2 := hq.c2
  clear hq hg HR
  go_wp2_with fail
  refine (quint_over HQ.out (by decide)).mono ?_
  rintro e w2 ⟨rfl, rfl⟩
  go_wp2_with fail
  go_ret
  exact ⟨rfl, HQ.out, HG.out⟩

set_option maxHeartbeats 1000000 in
theorem qcount_go (m : Nat) (hm : m ≤ 9223372036854775807) (h : Qd w base b v bs a 0 wat) (er n k : Nat) (hup : upTo (bs.drop a) m 11 = (er, n, k)) :
    Calls Tryz.prog 82 #[.pointer (some ⟨b, 0, none⟩), .int .i64 m] w fun e w' => e = .returned (.int .i64 n) ∧ Qd w' base b v bs (a + k) er (watOf er a wat) ∧ w.grownBy w' (some b) := by
  obtain ⟨d1, d2, d3, hd⟩ : ∃ d1 d2 d3, dec (bs.drop a) 0 0 = (d1, d2, d3) := ⟨_, _, _, rfl⟩
  have HC := hid (quint_go h d1 d2 d3 hd)
  have h1 := h.c1
  have h2 := h.c2
  have hle := h.le
  obtain ⟨_, hlt, _, hz⟩ := dec_le _ hd
  unfold upTo at hup
  rw [hd] at hup
  simp only at hup
  clear h hd
  by_cases he : d1 = 0
  · subst he
    rw [if_neg (by simp)] at hup
    by_cases hn : m < d2
    · rw [if_pos hn] at hup
      simp only [Prod.mk.injEq] at hup
      obtain ⟨rfl, rfl, rfl⟩ := hup
      have hn' : (m : Int) < (d2 : Int) := by omega
      have HW := hid (watOf_ne (er := 11) (by decide) a wat)
      clear hz
      go_enter Tryz.func82, Tryz.ntmps82
      go_wp2_with fail
      refine Calls.mono HC.out ?_
      rintro e w1 ⟨rfl, hq, hg⟩
      have HQ := hid (hq.setAt a hle)
      have HG := hid (gb_trans hg (gb_set w1 ⟨b, 1, none⟩ (.int .i64 a)))
      have g2 := hq.c2
      have f1 := hq.fz 1
      have g1 := hq.c1
      clear hq hg HC
      go_wp2_with fail
      refine (qfail_any HQ.out _ _).mono ?_
      rintro e w2 ⟨rfl, hq, hg⟩
      have HQ2 := hid hq
      have HG2 := hid (gb_trans HG.out hg)
      clear hq hg
      go_wp2_with fail
      go_ret
      exact ⟨rfl, by rw [HW.out]; exact HQ2.out, HG2.out⟩
    · rw [if_neg hn] at hup
      simp only [Prod.mk.injEq] at hup
      obtain ⟨rfl, rfl, rfl⟩ := hup
      have hn' : ¬ (m : Int) < (d2 : Int) := by omega
      clear hz
      go_enter Tryz.func82, Tryz.ntmps82
      go_wp2_with fail
      refine Calls.mono HC.out ?_
      rintro e w1 ⟨rfl, hq, hg⟩
      have HQ := hid hq
      have HG := hid hg
      have g2 := hq.c2
      clear hq hg HC
      go_wp2_with fail
      go_ret
      exact ⟨rfl, HQ.out, HG.out⟩
  · rw [if_pos he] at hup
    simp only [Prod.mk.injEq] at hup
    obtain ⟨rfl, rfl, rfl⟩ := hup
    obtain ⟨rfl, rfl⟩ := hz he
    have he' : ((d1 : Int) == 0) = false := by simpa using he
    clear he hz
    go_enter Tryz.func82, Tryz.ntmps82
    go_wp2_with fail
    refine Calls.mono HC.out ?_
    rintro e w1 ⟨rfl, hq, hg⟩
    have HQ := hid hq
    have HG := hid hg
    have g2 := hq.c2
    clear hq hg HC
    go_wp2_with fail
    go_ret
    exact ⟨rfl, HQ.out, HG.out⟩

theorem qcount_R (m : Int) (hm : m ≤ 9223372036854775807) (h : Qd w base b v bs a why wat) :
    Calls Tryz.prog 82 #[.pointer (some ⟨b, 0, none⟩), .int .i64 m] w fun e w' => e = .returned (.int .i64 (countF bs a why wat m).1) ∧ Qd w' base b v bs (countF bs a why wat m).2.1 (countF bs a why wat m).2.2.1 (countF bs a why wat m).2.2.2 ∧ w.grownBy w' (some b) := by
  unfold countF
  by_cases hw : why ≠ 0
  · rw [if_pos hw]
    refine (qcount_over m h hw).mono ?_
    rintro e w' ⟨rfl, rfl⟩
    exact ⟨rfl, h, gb_refl _ _⟩
  · rw [if_neg hw]
    obtain rfl : why = 0 := by omega
    by_cases h0 : m < 0
    · rw [if_pos h0]
      exact qcount_arg m h h0
    · rw [if_neg h0]
      obtain ⟨k, rfl⟩ : ∃ k : Nat, m = k := ⟨m.toNat, by omega⟩
      exact qcount_go k (by omega) h _ _ _ rfl

end

end Go.Proofs.YtiibhccbbpgehabGreat

/- The document's reader: Text. -/
namespace Go.Proofs.YtiibhccbbpgehabGreat
open Go.RowKit

section
variable {w : World} {base b : Nat} {v : Value} {bs : List UInt8} {a : Nat} {why wat : Int}

set_option maxRecDepth 100000 in
set_option maxHeartbeats 1000000 in
theorem qtext_over (m : Int) (h : Qd w base b v bs a why wat) (hw : why ≠ 0) :
    Calls Tryz.prog 84 #[.pointer (some ⟨b, 0, none⟩), .int .i64 m] w fun e w' => e = .returned (.string ⟨#[]⟩) ∧ w' = w := by
  have HC := hid (quint_over h hw)
  have h1 := h.c1
  have h2 := h.c2
  have hw' : (why == 0) = false := by simpa using hw
  have hw2 : (why != 0) = true := by simpa using hw
  clear h hw
  go_enter Tryz.func84, Tryz.ntmps84
  go_wp2_with fail
  refine Calls.mono HC.out ?_
  rintro e w1 ⟨rfl, rfl⟩
  go_wp2_with fail
  go_ret
  exact ⟨rfl, rfl⟩

set_option maxRecDepth 100000 in
set_option maxHeartbeats 1000000 in
theorem qtext_arg (m : Int) (h : Qd w base b v bs a 0 wat) (hm : m < 0) :
    Calls Tryz.prog 84 #[.pointer (some ⟨b, 0, none⟩), .int .i64 m] w fun e w' => e = .returned (.string ⟨#[]⟩) ∧ Qd w' base b v bs a 1 a ∧ w.grownBy w' (some b) := by
  have h1 := h.c1
  have h2 := h.c2
  have HR := hid h
  clear h
  go_enter Tryz.func84, Tryz.ntmps84
  go_wp2_with fail
  refine (qfail_any HR.out _ _).mono ?_
  rintro e w1 ⟨rfl, hq, hg⟩
  have HQ := hid hq
  have HG := hid hg
  have g2 := hq.c2
  clear hq hg HR
  go_wp2_with fail
  refine (quint_over HQ.out (by decide)).mono ?_
  rintro e w2 ⟨rfl, rfl⟩
  go_wp2_with fail
  go_ret
  exact ⟨rfl, HQ.out, HG.out⟩

set_option maxRecDepth 100000 in
set_option maxHeartbeats 2000000 in
theorem qtext_go (m : Nat) (hm : m ≤ 9223372036854775807) (hbl : bs.length ≤ 140737488355327) (h : Qd w base b v bs a 0 wat) (er k : Nat) (s : List UInt8) (ht : wtxt (bs.drop a) m = (er, s, k)) :
    Calls Tryz.prog 84 #[.pointer (some ⟨b, 0, none⟩), .int .i64 m] w fun e w' => e = .returned (.string ⟨s.toArray⟩) ∧ Qd w' base b v bs (a + k) er (watOf er a wat) ∧ w.grownBy w' (some b) := by
  obtain ⟨d1, d2, d3, hd⟩ : ∃ d1 d2 d3, dec (bs.drop a) 0 0 = (d1, d2, d3) := ⟨_, _, _, rfl⟩
  have HC := hid (quint_go h d1 d2 d3 hd)
  have h1 := h.c1
  have h2 := h.c2
  have hle := h.le
  obtain ⟨ad, cap, rfl⟩ := h.own.shape
  obtain ⟨hk3, hlt, _, hz⟩ := dec_le _ hd
  have hdl : (bs.drop a).length = bs.length - a := by simp
  rw [hdl] at hk3
  unfold wtxt upTo at ht
  rw [hd, hdl] at ht
  simp only at ht
  clear h hd hdl
  by_cases he : d1 = 0
  · subst he
    obtain ⟨a', ha'⟩ : ∃ a', a' = a + d3 := ⟨_, rfl⟩
    have HA := hid ha'
    rw [← ha'] at HC
    have hW0 : watOf 0 a wat = wat := by simp [watOf]
    rw [hW0] at HC
    clear hW0
    by_cases hn : m < d2
    · have hsimp : (er, s, k) = (3, [], 0) := by
        rw [← ht]
        simp [hn]
      simp only [Prod.mk.injEq] at hsimp
      obtain ⟨rfl, rfl, rfl⟩ := hsimp
      have hn' : (m : Int) < (d2 : Int) := by omega
      have HW := hid (watOf_ne (er := 3) (by decide) a wat)
      clear hz ht ha'
      go_enter Tryz.func84, Tryz.ntmps84
      go_wp2_with fail
      refine Calls.mono HC.out ?_
      rintro e w1 ⟨rfl, hq, hg⟩
      have HQ := hid hq
      have HG := hid hg
      have g2 := hq.c2
      clear hq hg HC
      go_wp2_with fail
      refine (qfail_any HQ.out _ _).mono ?_
      rintro e w2 ⟨rfl, hq, hg⟩
      have HQ2 := hid (hq.setAt a hle)
      have HG2 := hid (gb_trans (gb_trans HG.out hg) (gb_set w2 ⟨b, 1, none⟩ (.int .i64 a)))
      have p2 := hq.c2
      have p1 := hq.c1
      have f1 := hq.fz 1
      clear hq hg
      go_wp2_with fail
      go_ret
      exact ⟨rfl, by rw [HW.out]; exact HQ2.out, HG2.out⟩
    · by_cases hsh : bs.length - a < d3 + d2
      · have hsimp : (er, s, k) = (4, [], 0) := by
          rw [← ht]
          simp [hn, hsh]
        simp only [Prod.mk.injEq] at hsimp
        obtain ⟨rfl, rfl, rfl⟩ := hsimp
        have hn' : ¬ (m : Int) < (d2 : Int) := by omega
        have hsh' : (bs.length : Int) - (a' : Int) < (d2 : Int) := by omega
        have hwr : IntKind.u64.wrap ((bs.length : Int) - (a' : Int)) = (bs.length : Int) - (a' : Int) := by rw [IntKind.wrap_u64]; omega
        have hi63 : (bs.length : Int) - (a' : Int) ≤ 9223372036854775807 := by omega
        have hi0 : 0 ≤ (bs.length : Int) - (a' : Int) := by omega
        have HW := hid (watOf_ne (er := 4) (by decide) a wat)
        clear hz ht ha'
        go_enter Tryz.func84, Tryz.ntmps84
        go_wp2_with fail
        refine Calls.mono HC.out ?_
        rintro e w1 ⟨rfl, hq, hg⟩
        have HQ := hid hq
        have HG := hid hg
        have g2 := hq.c2
        have g0 := hq.c0
        have g1 := hq.c1
        clear hq hg HC
        go_wp2_with fail
        go_quiet (fail)
        go_wp2_with fail
        refine (qfail_any (HQ.out.drewN nq) _ _).mono ?_
        rintro e w2 ⟨rfl, hq, hg⟩
        have HQ2 := hid (hq.setAt a hle)
        have HG2 := hid (gb_trans (gb_trans (gb_trans HG.out (gb_drewN _ _ _)) hg) (gb_set w2 ⟨b, 1, none⟩ (.int .i64 a)))
        have p2 := hq.c2
        have p1 := hq.c1
        have f1 := hq.fz 1
        clear hq hg
        go_wp2_with fail
        go_ret
        exact ⟨rfl, by rw [HW.out]; exact HQ2.out, HG2.out⟩
      · have hsimp : (er, s, k) = (0, (bs.drop (a + d3)).take d2, d3 + d2) := by
          rw [← ht]
          simp [hn, hsh]
        simp only [Prod.mk.injEq] at hsimp
        obtain ⟨rfl, rfl, rfl⟩ := hsimp
        have hn' : ¬ (m : Int) < (d2 : Int) := by omega
        have hsh' : ¬ (bs.length : Int) - (a' : Int) < (d2 : Int) := by omega
        have hwr : IntKind.u64.wrap ((bs.length : Int) - (a' : Int)) = (bs.length : Int) - (a' : Int) := by rw [IntKind.wrap_u64]; omega
        have hi63 : (bs.length : Int) - (a' : Int) ≤ 9223372036854775807 := by omega
        have hi0 : 0 ≤ (bs.length : Int) - (a' : Int) := by omega
        have HW := hid (by simp [watOf] : watOf 0 a wat = wat)
        have HS := hid (by omega : a' + d2 ≤ bs.length)
        clear hz ht ha'
        go_enter Tryz.func84, Tryz.ntmps84
        go_wp2_with fail
        refine Calls.mono HC.out ?_
        rintro e w1 ⟨rfl, hq, hg⟩
        have HQ := hid hq
        have HG := hid hg
        have g2 := hq.c2
        have g0 := hq.c0
        have g1 := hq.c1
        clear hq hg HC
        go_wp2_with fail
        go_quiet (fail)
        go_wp2_with fail
        refine (qraw_ok d2 (HQ.out.drewN nq) hbl HS.out).mono ?_
        rintro e w2 ⟨v2, rfl, ho, hq, hg⟩
        have hstr := run_str (ho.src (by rw [List.length_take, List.length_drop]; omega))
        have HQ2 := hid hq
        have HG2 := hid (gb_trans (gb_trans HG.out (gb_drewN _ _ _)) hg)
        clear hq hg ho
        rw [HA.out] at hstr HQ2
        go_wp2_with fail
        go_ret
        refine ⟨rfl, ?_, HG2.out⟩
        rw [HW.out, ← Nat.add_assoc]
        exact HQ2.out
  · have hsimp : (er, s, k) = (d1, [], 0) := by
      rw [← ht]
      simp [he]
    simp only [Prod.mk.injEq] at hsimp
    obtain ⟨rfl, rfl, rfl⟩ := hsimp
    obtain ⟨rfl, rfl⟩ := hz he
    have he' : ((er : Int) != 0) = true := by simpa using he
    clear he hz ht
    go_enter Tryz.func84, Tryz.ntmps84
    go_wp2_with fail
    refine Calls.mono HC.out ?_
    rintro e w1 ⟨rfl, hq, hg⟩
    have HQ := hid hq
    have HG := hid hg
    have g2 := hq.c2
    clear hq hg HC
    go_wp2_with fail
    go_ret
    exact ⟨rfl, HQ.out, HG.out⟩

theorem qtext_R (m : Int) (hm : m ≤ 9223372036854775807) (hbl : bs.length ≤ 140737488355327) (h : Qd w base b v bs a why wat) :
    Calls Tryz.prog 84 #[.pointer (some ⟨b, 0, none⟩), .int .i64 m] w fun e w' => e = .returned (.string ⟨(textF bs a why wat m).1.toArray⟩) ∧ Qd w' base b v bs (textF bs a why wat m).2.1 (textF bs a why wat m).2.2.1 (textF bs a why wat m).2.2.2 ∧ w.grownBy w' (some b) := by
  unfold textF
  by_cases hw : why ≠ 0
  · rw [if_pos hw]
    refine (qtext_over m h hw).mono ?_
    rintro e w' ⟨rfl, rfl⟩
    exact ⟨rfl, h, gb_refl _ _⟩
  · rw [if_neg hw]
    obtain rfl : why = 0 := by omega
    by_cases h0 : m < 0
    · rw [if_pos h0]
      exact qtext_arg m h h0
    · rw [if_neg h0]
      obtain ⟨k, rfl⟩ : ∃ k : Nat, m = k := ⟨m.toNat, by omega⟩
      exact qtext_go k (by omega) hbl h _ _ _ rfl
end

end Go.Proofs.YtiibhccbbpgehabGreat

/- The document's reader: List. -/
namespace Go.Proofs.YtiibhccbbpgehabGreat
open Go.RowKit

theorem Qd.far {w w' : World} {base b : Nat} {v : Value} {bs : List UInt8} {a : Nat} {why wat : Int} {row : Option Nat} {B : Nat} (h : Qd w base b v bs a why wat) (hg : w.grownBy w' row) (hb : b < B) (hv : ∀ j, v.ownBlock = some j → j < B) (hr : ∀ j, row = some j → B ≤ j) : Qd w' base b v bs a why wat := by
  refine h.grown hg (fun e => by have := hr _ e; omega) ?_
  cases e : v.ownBlock with
  | none => exact Or.inl rfl
  | some j =>
    refine Or.inr (fun e2 => ?_)
    have h1 := hv j e
    have h2 := hr j e2.symm
    omega

section
variable {w : World} {base b : Nat} {v : Value} {bs : List UInt8} {a : Nat} {why wat : Int}

set_option maxRecDepth 100000 in
set_option maxHeartbeats 1000000 in
theorem qlist_over (m n : Int) (h : Qd w base b v bs a why wat) (hw : why ≠ 0) :
    Calls Tryz.prog 83 #[.pointer (some ⟨b, 0, none⟩), .int .i64 m, .int .i64 n] w fun e w' => e = .returned (.slice none 0 0) ∧ Qd w' base b v bs a why wat ∧ w.grownBy w' (some b) := by
  have HC := hid (quint_over h hw)
  have h1 := h.c1
  have h2 := h.c2
  have f1 := h.fz 1
  have HR := hid (h.setAt a h.le)
  have hw' : (why == 0) = false := by simpa using hw
  have hw2 : (why != 0) = true := by simpa using hw
  clear h hw
  go_enter Tryz.func83, Tryz.ntmps83
  go_wp2_with fail
  refine Calls.mono HC.out ?_
  rintro e w1 ⟨rfl, rfl⟩
  go_wp2_with fail
  go_loop [9, 10] (fun x i => x = .slice none 0 0 ∧ i = .int .u64 0) (fun _ _ => 0)
  case atStart => exact ⟨rfl, rfl⟩
  case round =>
    obtain ⟨rfl, rfl⟩ := hrel
    go_wp2_with fail
    go_ret
    exact ⟨rfl, HR.out, gb_set _ _ _⟩

set_option maxRecDepth 100000 in
set_option maxHeartbeats 1000000 in
theorem qlist_arg (m n : Int) (h : Qd w base b v bs a 0 wat) (hmn : m < 0 ∨ n < 0) :
    Calls Tryz.prog 83 #[.pointer (some ⟨b, 0, none⟩), .int .i64 m, .int .i64 n] w fun e w' => e = .returned (.slice none 0 0) ∧ Qd w' base b v bs a 1 a ∧ w.grownBy w' (some b) := by
  have h1 := h.c1
  have h2 := h.c2
  have hle := h.le
  have HR := hid h
  have HM := hid hmn
  clear h hmn
  by_cases hm : m < 0
  all_goals
    have hn : ¬ m < 0 → n < 0 := fun h' => HM.out.elim (fun h => absurd h h') id
    first
    | have hn' : n < 0 := hn hm
    | skip
    clear hn HM
    go_enter Tryz.func83, Tryz.ntmps83
    go_wp2_with fail
    refine (qfail_any HR.out _ _).mono ?_
    rintro e w1 ⟨rfl, hq, hg⟩
    have HQ := hid hq
    have HQ2 := hid (hq.setAt a hle)
    have HG := hid (gb_trans hg (gb_set w1 ⟨b, 1, none⟩ (.int .i64 a)))
    have g2 := hq.c2
    have g1 := hq.c1
    have f1 := hq.fz 1
    clear hq hg HR
    go_wp2_with fail
    refine (quint_over HQ.out (by decide)).mono ?_
    rintro e w2 ⟨rfl, rfl⟩
    go_wp2_with fail
    go_loop [9, 10] (fun x i => x = .slice none 0 0 ∧ i = .int .u64 0) (fun _ _ => 0)
    case atStart => exact ⟨rfl, rfl⟩
    case round =>
      obtain ⟨rfl, rfl⟩ := hrel
      go_wp2_with fail
      go_ret
      exact ⟨rfl, HQ2.out, HG.out⟩

set_option maxRecDepth 100000 in
set_option maxHeartbeats 4000000 in
theorem qlist_go (m n : Nat) (hm : m ≤ 9223372036854775807) (hn : n ≤ 9223372036854775807) (hbl : bs.length ≤ 1099511627776) (h : Qd w base b v bs a 0 wat) (er k : Nat) (ts : List (List UInt8)) (hl : lst (bs.drop a) m n = (er, ts, k)) :
    Calls Tryz.prog 83 #[.pointer (some ⟨b, 0, none⟩), .int .i64 m, .int .i64 n] w fun e w' => ∃ v', e = .returned v' ∧ WOwnS w' w.heap.size v' ts ∧ (er ≠ 0 → v' = .slice none 0 0) ∧ (er = 0 → Qd w' base b v bs (a + k) 0 wat) ∧ (er ≠ 0 → Qd w' base b v bs a er ((a + k : Nat) : Int)) ∧ w.grownBy w' (some b) := by
  obtain ⟨d1, n0, d3, hd⟩ : ∃ d1 d2 d3, dec (bs.drop a) 0 0 = (d1, d2, d3) := ⟨_, _, _, rfl⟩
  have HC := hid (quint_go h d1 n0 d3 hd)
  have h1 := h.c1
  have h2 := h.c2
  have hle := h.le
  have hblt := h.lt
  have HVB := hid (fun j e => (h.own.lt j e).2 : ∀ j, v.ownBlock = some j → j < w.heap.size)
  obtain ⟨hk3, hlt, _, hz⟩ := dec_le _ hd
  have hdl : (bs.drop a).length = bs.length - a := by simp
  rw [hdl] at hk3
  unfold lst upTo at hl
  rw [hd] at hl
  simp only [List.drop_drop] at hl
  clear h hd hdl
  by_cases he : d1 = 0
  · subst he
    have hW0 : watOf 0 a wat = wat := by simp [watOf]
    rw [hW0] at HC
    clear hW0 hz
    by_cases hmn : m < n0
    · have hsimp : (er, ts, k) = (11, [], 0) := by
        rw [← hl]
        simp [hmn]
      simp only [Prod.mk.injEq] at hsimp
      have HE := hid hsimp
      clear hsimp
      have hn' : (m : Int) < (n0 : Int) := by omega
      have hn0 : (0 : Int) < (n0 : Int) := by omega
      clear hl
      go_enter Tryz.func83, Tryz.ntmps83
      go_wp2_with fail
      refine Calls.mono HC.out ?_
      rintro e w1 ⟨rfl, hq, hg⟩
      have HQ := hid hq
      have HG := hid hg
      have g2 := hq.c2
      clear hq hg HC
      go_wp2_with fail
      refine (qfail_any HQ.out _ _).mono ?_
      rintro e w2 ⟨rfl, hq, hg⟩
      have HQ2 := hid (hq.setAt a hle)
      have HG2 := hid (gb_trans (gb_trans HG.out hg) (gb_set w2 ⟨b, 1, none⟩ (.int .i64 a)))
      have p2 := hq.c2
      have p1 := hq.c1
      have f1 := hq.fz 1
      clear hq hg
      go_wp2_with fail
      go_loop [9, 10] (fun x i => x = .slice none 0 0 ∧ i = .int .u64 0) (fun _ _ => 0)
      case atStart => exact ⟨rfl, rfl⟩
      case round =>
        obtain ⟨rfl, rfl⟩ := hrel
        go_wp2_with fail
        go_ret
        obtain ⟨rfl, rfl, rfl⟩ := HE.out
        exact ⟨_, rfl, WOwnS.nil _ _, fun _ => rfl, fun h' => absurd h' (by decide), fun _ => HQ2.out, HG2.out⟩
    · have hsimp : (er, ts, k) = ((lstR n0 (bs.drop (a + d3)) n).1, (lstR n0 (bs.drop (a + d3)) n).2.1, d3 + (lstR n0 (bs.drop (a + d3)) n).2.2) := by
        rw [← hl]
        simp [hmn]
      have HG0 := hid (⟨rfl, fun _ => by simp, fun h' => lstR_err _ _ _ h', by simp, by omega, by simp⟩ : Going (lstR n0 (bs.drop (a + d3)) n) bs n (a + d3) (a + d3) 0 n0 [])
      generalize lstR n0 (bs.drop (a + d3)) n = R at *
      simp only [Prod.mk.injEq] at hsimp
      have HE := hid hsimp
      have hn' : ¬ (m : Int) < (n0 : Int) := by omega
      clear hl hsimp
      go_enter Tryz.func83, Tryz.ntmps83
      go_wp2_with fail
      refine Calls.mono HC.out ?_
      rintro e w1 ⟨rfl, hq, hg⟩
      have HQ := hid hq
      have HG := hid hg
      have g2 := hq.c2
      clear hq hg HC
      go_wp2_with fail
      go_loopw [9, 10] (fun x i wr => ∃ (c a' : Nat) (us : List (List UInt8)) (why' wat' : Int), c ≤ n0 ∧ i = .int .u64 c ∧ WOwnS wr w.heap.size x us ∧ Qd wr base b v bs a' why' wat' ∧ w.grownBy wr (some b) ∧ ((why' = 0 ∧ wat' = wat ∧ Going R bs n (a + d3) a' c (n0 - c) us) ∨ (why' ≠ 0 ∧ why' = R.1 ∧ R.2.1 = [] ∧ wat' = ((a + (d3 + R.2.2) : Nat) : Int)))) (fun _ i _ => n0 - (intOf i).toNat)
      case atStart => exact ⟨0, a + d3, [], 0, wat, by omega, rfl, WOwnS.nil _ _, HQ.out, HG.out, Or.inl ⟨rfl, rfl, by simpa using HG0.out⟩⟩
      case round =>
        obtain ⟨c, a', us, why', wat', hc, rfl, hos, hRr, hgr, hst⟩ := hrel
        have HOS := hid hos
        have HRR := hid hRr
        have HGR := hid hgr
        have hsr := hgr.size
        have q2 := hRr.c2
        have q1 := hRr.c1
        have qf := hRr.fz 1
        clear hos hRr hgr HG0 HQ HG
        rcases hst with ⟨rfl, rfl, hgo⟩ | ⟨hne, rfl, hnil, rfl⟩
        · have HGO := hid hgo
          clear hgo
          by_cases hcn : c < n0
          · obtain ⟨m1, hm1⟩ : ∃ m1, n0 - c = m1 + 1 := ⟨n0 - c - 1, by omega⟩
            rw [hm1] at HGO
            obtain ⟨er1, x1, k1, ht⟩ : ∃ er1 x1 k1, wtxt (bs.drop a') n = (er1, x1, k1) := ⟨_, _, _, rfl⟩
            have HT := hid ht
            have HK1 := hid ((txt_le ht).2.2)
            have HM := hid hm1
            have hcn' : (c : Int) < (n0 : Int) := by omega
            clear ht hm1
            by_cases her : er1 = 0
            · subst her
              have HST := hid (HGO.out.step HT.out)
              have hcnt := HGO.out.cnt
              have hle2 := HGO.out.le
              go_wp2_with fail
              refine (qtext_go n hn (by omega) HRR.out _ _ _ HT.out).mono ?_
              rintro e w2 ⟨rfl, hR2, hg2⟩
              have HR2 := hid (by simpa [watOf] using hR2 : Qd w2 base b v bs (a' + k1) 0 wat')
              have HG2 := hid hg2
              have hs2 := hg2.size
              have HOS2 := hid (HOS.out.far hg2 (fun j e => by cases e; omega))
              have r2 := HR2.out.c2
              clear hR2 hg2
              go_wp2_with (at_builtin; refine wapp_text rfl _ _ rfl w.heap.size _ _ rfl (HOS2.out.alloc _) x1 w2.heap.size rfl ?c0 ?c1 ?c2 ?_)
              case c0 => simp
              case c1 => omega
              case c2 => simp; omega
              intro v3 w3 ho3 hg3
              have HO3 := hid ho3
              have hvlt : ∀ j, u9.ownBlock = some j → w.heap.size ≤ j := fun j e => (HOS.out.lt j e).1
              have HR3 := hid ((HR2.out.below (below_walk _ _)).far hg3 hblt HVB.out hvlt : Qd w3 base b v bs (a' + k1) 0 wat')
              have HG3 := hid (gb_then (gb_trans (gb_trans HGR.out HG2.out) (gb_alloc _ _ _)) hg3 (fun j e => Or.inl (hvlt j e)) : w.grownBy w3 (some b))
              clear ho3 hg3 hvlt
              go_wp2_with fail
              go_roundw
              case rel => exact ⟨c + 1, a' + k1, us ++ [x1], 0, wat', by omega, by go_num, HO3.out, HR3.out, HG3.out, Or.inl ⟨rfl, rfl, by have := HM.out; rw [show n0 - (c + 1) = m1 by omega]; exact HST.out⟩⟩
              case measure => simp [intOf]; omega
            · have HSP := hid (HGO.out.stop HT.out her)
              have heb : ((er1 : Int) == 0) = false := by simp; omega
              have HK0 := hid (HK1.out her)
              have hle2 := HGO.out.le
              have HW := hid (watOf_ne her a' wat')
              have HER := hid her
              clear her
              go_wp2_with fail
              refine (qtext_go n hn (by omega) HRR.out _ _ _ HT.out).mono ?_
              rintro e w2 ⟨rfl, hR2, hg2⟩
              rw [HW.out, HK0.out.2, Nat.add_zero] at hR2
              have HR2 := hid hR2
              have HG2 := hid (gb_trans HGR.out hg2)
              have HOS2 := hid (HOS.out.far hg2 (fun j e => by cases e; omega))
              have r2 := HR2.out.c2
              clear hR2 hg2
              go_wp2_with fail
              go_roundw
              case rel =>
                obtain ⟨e1, e2, e3⟩ := HSP.out
                have := HER.out
                exact ⟨c + 1, a', us, er1, (a' : Int), by omega, by go_num, HOS2.out, HR2.out, HG2.out, Or.inr ⟨by omega, by rw [e1], e2, by rw [e3]; omega⟩⟩
              case measure => simp [intOf]; omega
          · have hcn' : ¬ (c : Int) < (n0 : Int) := by omega
            have hc0 : n0 - c = 0 := by omega
            rw [hc0] at HGO
            have HDN := hid HGO.out.done
            have hle2 := HGO.out.le
            go_wp2_with fail
            go_ret
            obtain ⟨rfl, rfl, rfl⟩ := HE.out
            obtain ⟨e1, e2, e3⟩ := HDN.out
            refine ⟨_, rfl, by rw [e2]; exact HOS.out, fun h' => absurd e1 h', fun _ => ?_, fun h' => absurd e1 h', HGR.out⟩
            rw [e3, show a + (d3 + (a' - (a + d3))) = a' by omega]
            exact HRR.out
        · have heb : (((R.1 : Nat) : Int) == 0) = false := by simpa using hne
          have heb2 : (((R.1 : Nat) : Int) != 0) = true := by simpa using hne
          have HNE := hid hne
          have HNIL := hid hnil
          have HQ2 := hid (HRR.out.setAt a hle)
          have HG2 := hid (gb_trans HGR.out (gb_set wr ⟨b, 1, none⟩ (.int .i64 a)))
          clear hne hnil
          generalize R.1 = R1 at *
          by_cases hcn : (c : Int) < (n0 : Int)
          all_goals
            go_wp2_with fail
            go_ret
            obtain ⟨rfl, rfl, rfl⟩ := HE.out
            exact ⟨_, rfl, by rw [HNIL.out]; exact WOwnS.nil _ _, fun _ => rfl, fun h' => absurd (by rw [h']; rfl) HNE.out, fun _ => HQ2.out, HG2.out⟩
  · have hsimp : (er, ts, k) = (d1, [], 0) := by
      rw [← hl]
      simp [he]
    simp only [Prod.mk.injEq] at hsimp
    obtain ⟨rfl, rfl, rfl⟩ := hsimp
    obtain ⟨rfl, rfl⟩ := hz he
    have he' : ((er : Int) != 0) = true := by simpa using he
    have he2 : ((er : Int) == 0) = false := by simpa using he
    have HER := hid he
    have HW := hid (watOf_ne he a wat)
    clear he hz hl
    go_enter Tryz.func83, Tryz.ntmps83
    go_wp2_with fail
    refine Calls.mono HC.out ?_
    rintro e w1 ⟨rfl, hq, hg⟩
    rw [HW.out, Nat.add_zero] at hq
    have HQ2 := hid (hq.setAt a hle)
    have HG2 := hid (gb_trans hg (gb_set w1 ⟨b, 1, none⟩ (.int .i64 a)))
    have g2 := hq.c2
    have g1 := hq.c1
    have f1 := hq.fz 1
    clear hq hg HC
    go_wp2_with fail
    go_loop [9, 10] (fun x i => x = .slice none 0 0 ∧ i = .int .u64 0) (fun _ _ => 0)
    case atStart => exact ⟨rfl, rfl⟩
    case round =>
      obtain ⟨rfl, rfl⟩ := hrel
      go_wp2_with fail
      go_ret
      exact ⟨_, rfl, WOwnS.nil _ _, fun _ => rfl, fun h' => absurd h' HER.out, fun _ => by simpa using HQ2.out, HG2.out⟩

theorem qlist_R (m n : Int) (hm : m ≤ 9223372036854775807) (hn : n ≤ 9223372036854775807) (hbl : bs.length ≤ 1099511627776) (h : Qd w base b v bs a why wat) :
    Calls Tryz.prog 83 #[.pointer (some ⟨b, 0, none⟩), .int .i64 m, .int .i64 n] w fun e w' => ∃ v', e = .returned v' ∧ WOwnS w' w.heap.size v' (listF bs a why wat m n).1 ∧ Qd w' base b v bs (listF bs a why wat m n).2.1 (listF bs a why wat m n).2.2.1 (listF bs a why wat m n).2.2.2 ∧ w.grownBy w' (some b) := by
  unfold listF
  by_cases hw : why ≠ 0
  · rw [if_pos hw]
    refine (qlist_over m n h hw).mono ?_
    rintro e w' ⟨rfl, hr⟩
    exact ⟨_, rfl, WOwnS.nil _ _, hr⟩
  · rw [if_neg hw]
    obtain rfl : why = 0 := by omega
    by_cases h0 : m < 0 ∨ n < 0
    · rw [if_pos h0]
      refine (qlist_arg m n h h0).mono ?_
      rintro e w' ⟨rfl, hr⟩
      exact ⟨_, rfl, WOwnS.nil _ _, hr⟩
    · rw [if_neg h0]
      obtain ⟨k, rfl⟩ : ∃ k : Nat, m = k := ⟨m.toNat, by omega⟩
      obtain ⟨j, rfl⟩ : ∃ j : Nat, n = j := ⟨n.toNat, by omega⟩
      simp only [Int.toNat_natCast]
      refine (qlist_go k j (by omega) (by omega) hbl h _ _ _ rfl).mono ?_
      rintro e w' ⟨v', rfl, ho, hnil, h1, h2, hg⟩
      by_cases he : (lst (bs.drop a) k j).1 ≠ 0
      · rw [if_pos he]
        obtain rfl := hnil he
        exact ⟨_, rfl, WOwnS.nil _ _, h2 he, hg⟩
      · rw [if_neg he]
        exact ⟨_, rfl, ho, h1 (Decidable.not_not.1 he), hg⟩
end

end Go.Proofs.YtiibhccbbpgehabGreat

/- The document's some. -/
namespace Go.Proofs.YtiibhccbbpgehabGreat
open Go.RowKit Go.BigFrame

/-- the document's reader, where it stands so -/
def Qs (w : World) (base b : Nat) (v : Value) (bs : List UInt8) (s : St) : Prop := Qd w base b v bs s.1 s.2.1 s.2.2
section
variable {w w' : World} {base b : Nat} {v : Value} {bs : List UInt8} {s : St}
theorem Qs.below (h : Qs w base b v bs s) (hb : Below w.heap.size w w') : Qs w' base b v bs s := Qd.below h hb
theorem Qs.lt (h : Qs w base b v bs s) : b < w.heap.size := Qd.lt h
theorem Qs.own (h : Qs w base b v bs s) : ∀ k, v.ownBlock = some k → k < w.heap.size := fun k hk => ((Qd.own h).lt k hk).2
theorem Qs.far {n : Nat} (h : Qs w base b v bs s) (hg : w.grownBy w' (some n)) (h1 : b < n) (h3 : ∀ k, v.ownBlock = some k → k < n) : Qs w' base b v bs s :=
  Qd.grown h hg (fun e => by injection e with e; omega) (by
    cases hv : v.ownBlock with
    | none => exact Or.inl rfl
    | some k => exact Or.inr (fun e => by injection e with e; have := h3 k hv; omega))
theorem qs_uint (h : Qs w base b v bs s) : Calls Tryz.prog 77 #[.pointer (some ⟨b, 0, none⟩)] w fun e w' => e = .returned (.int .u64 (uS bs s).1) ∧ Qs w' base b v bs (uS bs s).2 ∧ w.grownBy w' (some b) := quint_R (h := h)
theorem qs_count (m : Int) (hm : m ≤ 9223372036854775807) (h : Qs w base b v bs s) : Calls Tryz.prog 82 #[.pointer (some ⟨b, 0, none⟩), .int .i64 m] w fun e w' => e = .returned (.int .i64 (cS bs m s).1) ∧ Qs w' base b v bs (cS bs m s).2 ∧ w.grownBy w' (some b) := qcount_R m hm (h := h)
theorem qs_text (m : Int) (hm : m ≤ 9223372036854775807) (hbl : bs.length ≤ 140737488355327) (h : Qs w base b v bs s) : Calls Tryz.prog 84 #[.pointer (some ⟨b, 0, none⟩), .int .i64 m] w fun e w' => e = .returned (.string (mk (tS bs m s).1)) ∧ Qs w' base b v bs (tS bs m s).2 ∧ w.grownBy w' (some b) := qtext_R m hm hbl (h := h)
theorem qs_list (m n : Int) (hm : m ≤ 9223372036854775807) (hn : n ≤ 9223372036854775807) (hbl : bs.length ≤ 1099511627776) (h : Qs w base b v bs s) : Calls Tryz.prog 83 #[.pointer (some ⟨b, 0, none⟩), .int .i64 m, .int .i64 n] w fun e w' => ∃ v', e = .returned v' ∧ WOwnS w' w.heap.size v' (lS bs m n s).1 ∧ Qs w' base b v bs (lS bs m n s).2 ∧ w.grownBy w' (some b) := qlist_R m n hm hn hbl (h := h)
theorem qs_raw (m : Int) (hbl : bs.length ≤ 140737488355327) (h : Qs w base b v bs s) : Calls Tryz.prog 81 #[.pointer (some ⟨b, 0, none⟩), .int .i64 m] w fun e w' => ∃ v', e = .returned v' ∧ OwnB w' w.heap.size v' (rS bs m s).1 ∧ Qs w' base b v bs (rS bs m s).2 ∧ w.grownBy w' (some b) := qraw_R m hbl (h := h)
end

set_option maxRecDepth 100000 in
set_option maxHeartbeats 2000000 in
theorem qs_some (base b : Nat) (v : Value) (bs : List UInt8) (s : St) (m : Int) (w : World) (hm : m ≤ 9223372036854775807) (h : Qs w base b v bs s) :
    Calls Tryz.prog 80 #[.pointer (some ⟨b, 0, none⟩), .int .i64 m] w fun e w' => e = .returned (.int .i64 (oS bs m s).1) ∧ Qs w' base b v bs (oS bs m s).2 ∧ w.grownBy w' (some b) := by
  have HCO := hid (qs_count m hm h)
  have c1 := Qd.c1 h
  have HLE := hid (Qd.le h)
  clear h
  go_enter Tryz.func80, Tryz.ntmps80
  go_wp2_with fail
  refine HCO.out.mono ?_
  rintro e w2 ⟨rfl, hf2, hg2⟩
  have HF2 := hid hf2
  have HG2 := hid hg2
  obtain ⟨N, HN⟩ : ∃ N : Nat, Hid ((cS bs m s).1 = N) := ⟨_, rfl⟩
  obtain ⟨Y, HY⟩ : ∃ N : Int, Hid ((cS bs m s).2.2.1 = N) := ⟨_, rfl⟩
  have d2 := Qd.c2 hf2
  rw [HY.out] at d2
  have d1 := Qd.c1 hf2
  have f1 := Qd.fz hf2 1
  rw [HN.out]
  clear hf2 hg2 HCO c1
  by_cases hY : Y = 0
  · subst hY
    by_cases h0 : N = 0
    · as_aux_lemma =>
        subst h0
        have HO := hid (show oS bs m s = (0, s.1, 70, (s.1 : Int)) by
          unfold oS
          rw [if_pos ⟨HN.out, HY.out⟩])
        go_upto_region 5 with fail
        have HQ := hid (Qd.setAt HF2.out s.1 HLE.out)
        have HG4 := hid (gb_set w2 ⟨b, 1, none⟩ (.int .i64 (s.1 : Nat)))
        generalize w2.setCell ⟨b, 1, none⟩ (.int .i64 (s.1 : Nat)) = w4 at HQ HG4 ⊢
        clear d1 d2 f1
        go_wp2_with fail
        refine (qfailm_R (n := 70) (h := HQ.out)).mono ?_
        rintro e w5 ⟨rfl, hr5, hg5⟩
        rw [HY.out] at hr5
        have HR5 := hid (show Qd w5 base b v bs s.1 70 s.1 by simpa using hr5)
        have HG5 := hid hg5
        clear hr5 hg5
        go_wp2
        go_ret
        rw [HO.out]
        exact ⟨rfl, HR5.out, gb_trans HG2.out (gb_trans HG4.out HG5.out)⟩
    · as_aux_lemma =>
        have q0 : ¬ (N : Int) = 0 := by omega
        have q1 : ((N : Int) == 0) = false := by simpa using q0
        have HO := hid (show oS bs m s = cS bs m s by
          unfold oS
          rw [if_neg (fun h9 => h0 (HN.out ▸ h9.1))])
        clear h0
        go_wp2
        go_ret
        rw [HO.out, HN.out]
        exact ⟨rfl, HF2.out, HG2.out⟩
  · as_aux_lemma =>
      have q1 : (Y == 0) = false := by simpa using hY
      have HO := hid (show oS bs m s = cS bs m s by
        unfold oS
        rw [if_neg (fun h9 => hY (HY.out ▸ h9.2))])
      clear hY
      go_wp2
      go_ret
      rw [HO.out, HN.out]
      exact ⟨rfl, HF2.out, HG2.out⟩
theorem bytesV_at (l : List UInt8) (i : Nat) (hi : i < l.length) : (bytesV l)[i]? = some (.int .u8 (l.getD i 0).toNat) := by
  rw [bytesV_get, List.getElem?_eq_getElem hi]
  simp [List.getD_eq_getElem?_getD, List.getElem?_eq_getElem hi]
theorem fset_tool (f : Fr) (va : Value) (i : Nat) (hi : i < f.tool.length) (x : UInt8) : (fcells f va).toArray.setIfInBounds (4 + i) (.int .u8 x.toNat) = (fcells { f with tool := f.tool.set i x } va).toArray := by
  unfold fcells
  rw [List.setIfInBounds_toArray, List.set_append_right _ _ (by simp), List.set_append_left _ _ (by rw [bytesV_length]; simp; exact hi)]
  simp [bytesV, List.map_set]
end Go.Proofs.YtiibhccbbpgehabGreat

/- The document's fields, where the kind that is read is 0. -/
namespace Go.Proofs.YtiibhccbbpgehabGreat
open Go.RowKit Go.BigFrame

set_option maxRecDepth 100000 in
set_option maxHeartbeats 4000000 in
theorem rfields_0 (base b : Nat) (v : Value) (bs : List UInt8) (s : St) (w : World) (hbl : bs.length ≤ 1099511627776) (h : Qs w base b v bs s) (hK : (oS bs 6 s).1 = 0) :
    Calls Tryz.prog 75 #[.pointer (some ⟨b, 0, none⟩)] w fun e w' => ∃ va, e = .returned (.agg (fcells ((kF 0, (oS bs 6 s).2)).1 va).toArray) ∧ WOwnS w' w.heap.size va ((kF 0, (oS bs 6 s).2)).1.args ∧ Qs w' base b v bs ((kF 0, (oS bs 6 s).2)).2 ∧ w.grownBy w' (some b) := by
  obtain ⟨n, HN⟩ : ∃ n, Hid (w.heap.size = n) := ⟨_, rfl⟩
  have HW := hid (below_walk w (.cells (fcells zF nS).toArray 65))
  have HM := hid (hp_new w (.cells (fcells zF nS).toArray 65))
  have HFD := hid (h.below HW.out)
  have HBn : Hid (b < n) := hid (HN.out ▸ h.lt)
  have HLEN := hid hbl
  have HVW := hid h.own
  have HK := hid hK
  clear h hK
  go_enter Tryz.func75, Tryz.ntmps75
  go_upto_region 1 with (refine al_row (by rfl) 65 (by rfl) _ zeroFrame ?_)
  have HG0 := hid (below_gb HW.out (some b))
  generalize w.alloc (.cells (fcells zF nS).toArray 65) = w0 at HW HM HFD HG0 ⊢
  rw [HN.out] at HM ⊢
  go_wp2_with fail
  refine (qs_some base b v bs s 6 w0 (by omega) HFD.out).mono ?_
  rintro e x ⟨rfl, hfx, hgx⟩
  rw [show ((oS bs 6 s).1 : Int) = 0 by rw [HK.out]; rfl]
  have HFx := hid hfx
  have HMx := hid (gb_keep hgx HM.out (by have := HBn.out; omega))
  have HGx := hid (gb_trans HG0.out hgx)
  clear hfx hgx HFD HM HG0 HW
  go_upto_region 2 with (first
    | (refine bd_row (by rfl) 65 #[(0, .tmp 7)] (by rfl) _ (by simp [Act.eval]) _ built_k0 ?_)
    | (refine al_row (by rfl) 65 (by rfl) _ zeroFrame ?_)
    | (refine st_new (by rfl) 65 _ _ (by rfl) (fcells (kF 0) nS) (by rfl) (by rfl) 65 _ (frame_size (kF 0) nS rfl) rfl (fcells_one (kF 0) nS rfl) ?_))
  have HWx := hid (below_walk x (.cells (fcells (kF 0) nS).toArray 65))
  have HFD := hid (HFx.out.below HWx.out)
  have HM0 := hid (bel_keep HWx.out HMx.out)
  have HG := hid (gb_trans HGx.out (below_gb HWx.out (some b)))
  have HA0 := hid (show (x.alloc (.cells (fcells (kF 0) nS).toArray 65)).heap[x.heap.size]? = some (.cells (fcells (⟨0, 0, 0, 0, z32f, 0, (0, 0, 0), [], []⟩ : Fr) nS).toArray 65 (0, 0)) from hp_new x _)
  have HVO := hid HFx.out.own
  have HVN : Hid (∀ k, v.ownBlock = some k → k < n) := hid (HN.out ▸ HVW.out)
  have HLn : Hid (n < x.heap.size) := hid (hp_lt HMx.out)
  have HBf : Hid (b < x.heap.size) := hid HFx.out.lt
  have HSW : Hid (w.heap.size ≤ x.heap.size) := hid HGx.out.size
  obtain ⟨fb, HFb⟩ : ∃ n, Hid (x.heap.size = n) := ⟨_, rfl⟩
  rw [HFb.out] at HA0 HVO HLn HBf HSW ⊢
  generalize x.alloc (.cells (fcells (kF 0) nS).toArray 65) = w1 at HWx HFD HM0 HG HA0 ⊢
  clear HFx HMx HGx HWx HFb
  have k0 : w1.cell? ⟨fb, 0, none⟩ = some (.int .i64 0) := (Fb.of HA0.out rfl).k
  obtain ⟨FF, HFF⟩ : ∃ L, Hid (fcells (⟨0, 0, 0, 0, z32f, 0, (0, 0, 0), [], []⟩ : Fr) nS = L) := ⟨_, rfl⟩
  have HSZ := hid (frame_size (⟨0, 0, 0, 0, z32f, 0, (0, 0, 0), [], []⟩ : Fr) nS rfl)
  have HON := hid (fcells_one (⟨0, 0, 0, 0, z32f, 0, (0, 0, 0), [], []⟩ : Fr) nS rfl)
  have HOS := hid (show (fcells zF nS).toArray.size = (fcells (⟨0, 0, 0, 0, z32f, 0, (0, 0, 0), [], []⟩ : Fr) nS).length by rw [fcells_length _ _ rfl]; rfl)
  rw [HFF.out] at HA0 HSZ HON HOS
  go_wp2_with (first
    | (refine ld_row (by rfl) 65 (.tmp 3) (by rfl) fb (by rfl) FF 65 HA0.out _ Tryz.underlying65 rfl HSZ.out ?_)
    | (refine st_row (by rfl) 65 _ _ (by rfl) n FF (by rfl) (by rfl) 65 _ HM0.out HSZ.out HOS.out HON.out ?_; intro wz hwz))
  refine ret_row 2 65 rfl n rfl FF 65 hwz.blk _ Tryz.underlying65 rfl HSZ.out rfl ⟨nS, ?_, ?_, ?_, gb_then HG.out hwz.grown (fun j e => by injection e with e; left; have := HN.out; omega)⟩
  · rw [← HFF.out]; rfl
  · exact World.ownsRow_nil _ _ _ _
  · exact HFD.out.far hwz.grown HBn.out (fun k hk => HVN.out k hk)
end Go.Proofs.YtiibhccbbpgehabGreat

/- The document's fields, where the kind that is read is 1. -/
namespace Go.Proofs.YtiibhccbbpgehabGreat
open Go.RowKit Go.BigFrame

set_option maxRecDepth 100000 in
set_option maxHeartbeats 4000000 in
theorem rfields_1 (base b : Nat) (v : Value) (bs : List UInt8) (s : St) (w : World) (hbl : bs.length ≤ 1099511627776) (h : Qs w base b v bs s) (hK : (oS bs 6 s).1 = 1) :
    Calls Tryz.prog 75 #[.pointer (some ⟨b, 0, none⟩)] w fun e w' => ∃ va, e = .returned (.agg (fcells (fieldsP bs 1 (oS bs 6 s).2).1 va).toArray) ∧ WOwnS w' w.heap.size va (fieldsP bs 1 (oS bs 6 s).2).1.args ∧ Qs w' base b v bs (fieldsP bs 1 (oS bs 6 s).2).2 ∧ w.grownBy w' (some b) := by
  obtain ⟨n, HN⟩ : ∃ n, Hid (w.heap.size = n) := ⟨_, rfl⟩
  have HW := hid (below_walk w (.cells (fcells zF nS).toArray 65))
  have HM := hid (hp_new w (.cells (fcells zF nS).toArray 65))
  have HFD := hid (h.below HW.out)
  have HBn : Hid (b < n) := hid (HN.out ▸ h.lt)
  have HLEN := hid hbl
  have HVW := hid h.own
  have HK := hid hK
  clear h hK
  go_enter Tryz.func75, Tryz.ntmps75
  go_upto_region 1 with (refine al_row (by rfl) 65 (by rfl) _ zeroFrame ?_)
  have HG0 := hid (below_gb HW.out (some b))
  generalize w.alloc (.cells (fcells zF nS).toArray 65) = w0 at HW HM HFD HG0 ⊢
  rw [HN.out] at HM ⊢
  go_wp2_with fail
  refine (qs_some base b v bs s 6 w0 (by omega) HFD.out).mono ?_
  rintro e x ⟨rfl, hfx, hgx⟩
  rw [show ((oS bs 6 s).1 : Int) = 1 by rw [HK.out]; rfl]
  have HFx := hid hfx
  have HMx := hid (gb_keep hgx HM.out (by have := HBn.out; omega))
  have HGx := hid (gb_trans HG0.out hgx)
  clear hfx hgx HFD HM HG0 HW
  go_upto_region 2 with (first
    | (refine bd_row (by rfl) 65 #[(0, .tmp 7)] (by rfl) _ (by simp [Act.eval]) _ built_k1 ?_)
    | (refine al_row (by rfl) 65 (by rfl) _ zeroFrame ?_)
    | (refine st_new (by rfl) 65 _ _ (by rfl) (fcells (kF 1) nS) (by rfl) (by rfl) 65 _ (frame_size (kF 1) nS rfl) rfl (fcells_one (kF 1) nS rfl) ?_))
  have HWx := hid (below_walk x (.cells (fcells (kF 1) nS).toArray 65))
  have HFD := hid (HFx.out.below HWx.out)
  have HM0 := hid (bel_keep HWx.out HMx.out)
  have HG := hid (gb_trans HGx.out (below_gb HWx.out (some b)))
  have HA0 := hid (show (x.alloc (.cells (fcells (kF 1) nS).toArray 65)).heap[x.heap.size]? = some (.cells (fcells (⟨1, 0, 0, 0, z32f, 0, (0, 0, 0), [], []⟩ : Fr) nS).toArray 65 (0, 0)) from hp_new x _)
  have HVO := hid HFx.out.own
  have HVN : Hid (∀ k, v.ownBlock = some k → k < n) := hid (HN.out ▸ HVW.out)
  have HLn : Hid (n < x.heap.size) := hid (hp_lt HMx.out)
  have HBf : Hid (b < x.heap.size) := hid HFx.out.lt
  have HSW : Hid (w.heap.size ≤ x.heap.size) := hid HGx.out.size
  obtain ⟨fb, HFb⟩ : ∃ n, Hid (x.heap.size = n) := ⟨_, rfl⟩
  rw [HFb.out] at HA0 HVO HLn HBf HSW ⊢
  generalize x.alloc (.cells (fcells (kF 1) nS).toArray 65) = w1 at HWx HFD HM0 HG HA0 ⊢
  clear HFx HMx HGx HWx HFb
  have k0 : w1.cell? ⟨fb, 0, none⟩ = some (.int .i64 1) := (Fb.of HA0.out rfl).k
  go_wp2_with fail
  refine (qs_some base b v bs _ 1 _ (by omega) HFD.out).mono ?_
  rintro e y0 ⟨rfl, hf0, hg0⟩
  have HA := hid (gb_keep hg0 HA0.out (by have := HBf.out; omega))
  have HMn := hid (gb_keep hg0 HM0.out (by have := HBn.out; omega))
  have HGn := hid (gb_trans HG.out hg0)
  have HFn := hid hf0
  clear HFD HA0 HM0 HG hf0 hg0 k0
  have x0 := (Fb.of HA.out rfl).v
  have z0 := row_fz HA.out 2
  have k1 : y0.cell? ⟨fb, 0, none⟩ = some (.int .i64 1) := (Fb.of HA.out rfl).k
  go_upto_region 5 with fail
  have HA0 := hid (show (y0.setCell ⟨fb, 2, none⟩ (.int .i64 ((oS bs 1 (oS bs 6 s).2).1 : Nat))).heap[fb]? = some (.cells (fcells (⟨1, 0, (((oS bs 1 (oS bs 6 s).2).1 : Nat) : Int), 0, z32f, 0, (0, 0, 0), [], []⟩ : Fr) nS).toArray 65 (0, 0)) from (blk_set HA.out _).trans (congrArg (fun a => some (Obj.cells a 65 (0, 0))) (fset_ver (⟨1, 0, 0, 0, z32f, 0, (0, 0, 0), [], []⟩ : Fr) nS rfl _)))
  have HM0 := hid (show (y0.setCell ⟨fb, 2, none⟩ (.int .i64 ((oS bs 1 (oS bs 6 s).2).1 : Nat))).heap[n]? = some (.cells (fcells zF nS).toArray 65 (0, 0)) from (Below.heap_setCell y0 _ _ n (by have := HLn.out; simp; omega)).trans HMn.out)
  have HG := hid (gb_then HGn.out (gb_set y0 ⟨fb, 2, none⟩ (.int .i64 ((oS bs 1 (oS bs 6 s).2).1 : Nat))) (fun j e => by have e2 : fb = j := Option.some.inj e; left; have := HSW.out; omega))
  have HFD := hid (HFn.out.far (gb_set y0 ⟨fb, 2, none⟩ (.int .i64 ((oS bs 1 (oS bs 6 s).2).1 : Nat))) HBf.out HVO.out)
  generalize y0.setCell ⟨fb, 2, none⟩ (.int .i64 ((oS bs 1 (oS bs 6 s).2).1 : Nat)) = w2 at HA0 HM0 HG HFD ⊢
  clear HA HMn HGn HFn x0 z0 k1
  go_wp2_with fail
  refine (qs_some base b v bs _ 64 _ (by omega) HFD.out).mono ?_
  rintro e y1 ⟨rfl, hf1, hg1⟩
  have HA := hid (gb_keep hg1 HA0.out (by have := HBf.out; omega))
  have HMn := hid (gb_keep hg1 HM0.out (by have := HBn.out; omega))
  have HGn := hid (gb_trans HG.out hg1)
  have HFn := hid hf1
  clear HFD HA0 HM0 HG hf1 hg1
  have x1 := (Fb.of HA.out rfl).s
  have z1 := row_fz HA.out 3
  go_upto_region 6 with fail
  have HA0 := hid (show (y1.setCell ⟨fb, 3, none⟩ (.int .i64 ((oS bs 64 (oS bs 1 (oS bs 6 s).2).2).1 : Nat))).heap[fb]? = some (.cells (fcells (⟨1, 0, (((oS bs 1 (oS bs 6 s).2).1 : Nat) : Int), (((oS bs 64 (oS bs 1 (oS bs 6 s).2).2).1 : Nat) : Int), z32f, 0, (0, 0, 0), [], []⟩ : Fr) nS).toArray 65 (0, 0)) from (blk_set HA.out _).trans (congrArg (fun a => some (Obj.cells a 65 (0, 0))) (fset_slots (⟨1, 0, (((oS bs 1 (oS bs 6 s).2).1 : Nat) : Int), 0, z32f, 0, (0, 0, 0), [], []⟩ : Fr) nS rfl _)))
  have HM0 := hid (show (y1.setCell ⟨fb, 3, none⟩ (.int .i64 ((oS bs 64 (oS bs 1 (oS bs 6 s).2).2).1 : Nat))).heap[n]? = some (.cells (fcells zF nS).toArray 65 (0, 0)) from (Below.heap_setCell y1 _ _ n (by have := HLn.out; simp; omega)).trans HMn.out)
  have HG := hid (gb_then HGn.out (gb_set y1 ⟨fb, 3, none⟩ (.int .i64 ((oS bs 64 (oS bs 1 (oS bs 6 s).2).2).1 : Nat))) (fun j e => by have e2 : fb = j := Option.some.inj e; left; have := HSW.out; omega))
  have HFD := hid (HFn.out.far (gb_set y1 ⟨fb, 3, none⟩ (.int .i64 ((oS bs 64 (oS bs 1 (oS bs 6 s).2).2).1 : Nat))) HBf.out HVO.out)
  generalize y1.setCell ⟨fb, 3, none⟩ (.int .i64 ((oS bs 64 (oS bs 1 (oS bs 6 s).2).2).1 : Nat)) = w3 at HA0 HM0 HG HFD ⊢
  clear HA HMn HGn HFn x1 z1
  go_wp2_with fail
  refine (qs_raw 32 (by omega) HFD.out).mono ?_
  rintro e y ⟨vr, rfl, hor, hfr, hgr⟩
  have HAr := hid (gb_keep hgr HA0.out (by have := HBf.out; omega))
  have HMr := hid (gb_keep hgr HM0.out (by have := HBn.out; omega))
  have HGr := hid (gb_trans HG.out hgr)
  have HFr := hid hfr
  have HLR := hid (rS_len bs (oS bs 64 (oS bs 1 (oS bs 6 s).2).2).2)
  have HOR := hid (hor.le (show fb + 1 ≤ w3.heap.size by have := hp_lt HA0.out; omega))
  have HSR := hid (hor.src (by have := HLR.out; omega))
  obtain ⟨ar, cr, er⟩ := src_shape HSR.out
  obtain ⟨RL, HRL⟩ : ∃ l, Hid ((rS bs 32 (oS bs 64 (oS bs 1 (oS bs 6 s).2).2).2).1 = l) := ⟨_, rfl⟩
  rw [HRL.out] at er HLR HSR HOR
  subst er
  clear hor hfr hgr HFD HA0 HM0 HG HSR
  go_wp2_with fail
  go_loopw [5] (fun vi wr => ∃ i : Nat, i ≤ RL.length ∧ vi = .int .i64 i ∧ wr.heap[fb]? = some (.cells (fcells { (⟨1, 0, (((oS bs 1 (oS bs 6 s).2).1 : Nat) : Int), (((oS bs 64 (oS bs 1 (oS bs 6 s).2).2).1 : Nat) : Int), z32f, 0, (0, 0, 0), [], []⟩ : Fr) with tool := RL.take i ++ z32f.drop i } nS).toArray 65 (0, 0)) ∧ wr.heap[n]? = some (.cells (fcells zF nS).toArray 65 (0, 0)) ∧ w.grownBy wr (some b) ∧ Qs wr base b v bs (rS bs 32 (oS bs 64 (oS bs 1 (oS bs 6 s).2).2).2).2 ∧ OwnB wr (fb + 1) (.slice ar RL.length cr) RL) (fun vi _ => RL.length - (intOf vi).toNat)
  case atStart => exact ⟨0, by omega, rfl, HAr.out, HMr.out, HGr.out, HFr.out, HOR.out⟩
  case round =>
    obtain ⟨i, hi, rfl, hA, hM, hG, hQ, hO⟩ := hrel
    have HA := hid hA
    have HM0 := hid hM
    have HG := hid hG
    have HFD := hid hQ
    have HO := hid hO
    have hl32 : RL.length ≤ 32 := by have := HLR.out; omega
    have HTL : Hid ((RL.take i ++ z32f.drop i).length = 32) := hid (by rw [List.length_append, List.length_take, List.length_drop, show z32f.length = 32 from rfl]; omega)
    clear hA hM hG hQ hO HAr HMr HGr HFr HOR
    by_cases hlt : i < RL.length
    · have hki : (i : Int) < (RL.length : Int) := by omega
      have hd : decide ((i : Int) < (RL.length : Int)) = true := decide_eq_true hki
      have hkw : IntKind.i64.wrap ((i : Int) + 1) = (i : Int) + 1 := by rw [IntKind.wrap_i64]; omega
      have h32 : (i : Int) < 32 := by omega
      obtain ⟨g1, cap1, hv1, _, _, _, _, _, hc1⟩ : ∃ g cap, Value.slice ar RL.length cr = .slice (some ⟨g, 0, none⟩) RL.length cap ∧ fb + 1 ≤ g ∧ g < wr.heap.size ∧ RL.length ≤ cap ∧ cap ≤ maxLen ∧ (∀ j, wr.frozen? ⟨g, j, none⟩ = false) ∧ ∀ j, j < RL.length → wr.cell? ⟨g, j, none⟩ = some (.int .u8 (RL.getD j 0).toNat) := by
        rcases HO.out.forms with ⟨_, h9⟩ | h9
        · rw [h9] at hlt; simp at hlt
        · exact h9
      simp only [Value.slice.injEq] at hv1
      obtain ⟨rfl, _, rfl⟩ := hv1
      have c1 := hc1 i hlt
      have cB : wr.cell? ⟨fb, 4 + i, none⟩ = some (.int .u8 ((RL.take i ++ z32f.drop i).getD i 0).toNat) := (Fb.of HA.out HTL.out).t i _ (bytesV_at _ i (by rw [HTL.out]; omega))
      have fB := row_fz HA.out (4 + i)
      clear hc1
      obtain ⟨X, HX⟩ : ∃ X, Hid (RL.getD i 0 = X) := ⟨_, rfl⟩
      rw [HX.out] at c1
      go_wp2
      refine ⟨⟨i + 1, by omega, by simp, ?_, ?_, ?_, ?_, ?_⟩, by simp [intOf]; omega⟩
      · refine (blk_set HA.out _).trans (congrArg (fun a => some (Obj.cells a 65 (0, 0))) ?_)
        rw [fset_tool _ _ i (by show i < (RL.take i ++ z32f.drop i).length; rw [HTL.out]; omega) X]
        congr 3
        show (RL.take i ++ z32f.drop i).set i X = RL.take (i + 1) ++ z32f.drop (i + 1)
        rw [List.take_succ_eq_append_getElem hlt, List.set_append_right _ _ (by rw [List.length_take]; omega), List.length_take, show i - min i RL.length = 0 by omega, List.append_assoc]
        congr 1
        have h9 : z32f.drop i = z32f.getD i 0 :: z32f.drop (i + 1) := drop_cons (by show i < 32; omega)
        rw [h9, List.set_cons_zero]
        have h8 : RL[i] = X := by rw [← HX.out, List.getD_eq_getElem?_getD, List.getElem?_eq_getElem hlt]; rfl
        rw [h8]
        rfl
      · exact (Below.heap_setCell wr _ _ n (by have := HLn.out; simp; omega)).trans HM0.out
      · exact gb_then HG.out (gb_set wr _ _) (fun j e => by have e2 : fb = j := Option.some.inj e; left; have := HSW.out; omega)
      · exact HFD.out.far (gb_set wr _ _) HBf.out HVO.out
      · exact HO.out.kept (gb_set wr _ _) (Or.inr (fun e => by have h9 := (HO.out.lt _ rfl).1; have e2 : g1 = fb := Option.some.inj e; omega))
    · obtain rfl : i = RL.length := by omega
      have HPD := hid (show RL.take RL.length ++ z32f.drop RL.length = pad32 RL by
        rw [List.take_length]
        unfold pad32
        rcases HLR.out with h9 | h9
        · obtain rfl : RL = [] := List.length_eq_zero_iff.1 h9
          rfl
        · rw [if_pos h9, h9, show z32f.drop 32 = [] from rfl, List.append_nil])
      have HA0 := hid (show wr.heap[fb]? = some (.cells (fcells (⟨1, 0, (((oS bs 1 (oS bs 6 s).2).1 : Nat) : Int), (((oS bs 64 (oS bs 1 (oS bs 6 s).2).2).1 : Nat) : Int), (pad32 RL), 0, (0, 0, 0), [], []⟩ : Fr) nS).toArray 65 (0, 0)) by have h9 := HA.out; rw [HPD.out] at h9; exact h9)
      rw [← HRL.out] at HA0
      clear HA HTL HPD HO
      obtain ⟨FF, HFF⟩ : ∃ L, Hid (fcells (⟨1, 0, (((oS bs 1 (oS bs 6 s).2).1 : Nat) : Int), (((oS bs 64 (oS bs 1 (oS bs 6 s).2).2).1 : Nat) : Int), (pad32 (rS bs 32 (oS bs 64 (oS bs 1 (oS bs 6 s).2).2).2).1), 0, (0, 0, 0), [], []⟩ : Fr) nS = L) := ⟨_, rfl⟩
      have HSZ := hid (frame_size (⟨1, 0, (((oS bs 1 (oS bs 6 s).2).1 : Nat) : Int), (((oS bs 64 (oS bs 1 (oS bs 6 s).2).2).1 : Nat) : Int), (pad32 (rS bs 32 (oS bs 64 (oS bs 1 (oS bs 6 s).2).2).2).1), 0, (0, 0, 0), [], []⟩ : Fr) nS (pad32_length _))
      have HON := hid (fcells_one (⟨1, 0, (((oS bs 1 (oS bs 6 s).2).1 : Nat) : Int), (((oS bs 64 (oS bs 1 (oS bs 6 s).2).2).1 : Nat) : Int), (pad32 (rS bs 32 (oS bs 64 (oS bs 1 (oS bs 6 s).2).2).2).1), 0, (0, 0, 0), [], []⟩ : Fr) nS rfl)
      have HOS := hid (show (fcells zF nS).toArray.size = (fcells (⟨1, 0, (((oS bs 1 (oS bs 6 s).2).1 : Nat) : Int), (((oS bs 64 (oS bs 1 (oS bs 6 s).2).2).1 : Nat) : Int), (pad32 (rS bs 32 (oS bs 64 (oS bs 1 (oS bs 6 s).2).2).2).1), 0, (0, 0, 0), [], []⟩ : Fr) nS).length by rw [fcells_length _ _ (pad32_length _)]; rfl)
      rw [HFF.out] at HA0 HSZ HON HOS
      go_wp2_with (first
        | (refine ld_row (by rfl) 65 (.tmp 3) (by rfl) fb (by rfl) FF 65 HA0.out _ Tryz.underlying65 rfl HSZ.out ?_)
        | (refine st_row (by rfl) 65 _ _ (by rfl) n FF (by rfl) (by rfl) 65 _ HM0.out HSZ.out HOS.out HON.out ?_; intro wz hwz))
      refine ret_row 2 65 rfl n rfl FF 65 hwz.blk _ Tryz.underlying65 rfl HSZ.out rfl ⟨nS, ?_, ?_, ?_, gb_then HG.out hwz.grown (fun j e => by injection e with e; left; have := HN.out; omega)⟩
      · rw [← HFF.out]; rfl
      · exact World.ownsRow_nil _ _ _ _
      · exact HFD.out.far hwz.grown HBn.out (fun k hk => HVN.out k hk)
end Go.Proofs.YtiibhccbbpgehabGreat

/- The document's fields, where the kind that is read is 2. -/
namespace Go.Proofs.YtiibhccbbpgehabGreat
open Go.RowKit Go.BigFrame

set_option maxRecDepth 100000 in
set_option maxHeartbeats 4000000 in
theorem rfields_2 (base b : Nat) (v : Value) (bs : List UInt8) (s : St) (w : World) (hbl : bs.length ≤ 1099511627776) (h : Qs w base b v bs s) (hK : (oS bs 6 s).1 = 2) :
    Calls Tryz.prog 75 #[.pointer (some ⟨b, 0, none⟩)] w fun e w' => ∃ va, e = .returned (.agg (fcells (fieldsP bs 2 (oS bs 6 s).2).1 va).toArray) ∧ WOwnS w' w.heap.size va (fieldsP bs 2 (oS bs 6 s).2).1.args ∧ Qs w' base b v bs (fieldsP bs 2 (oS bs 6 s).2).2 ∧ w.grownBy w' (some b) := by
  obtain ⟨n, HN⟩ : ∃ n, Hid (w.heap.size = n) := ⟨_, rfl⟩
  have HW := hid (below_walk w (.cells (fcells zF nS).toArray 65))
  have HM := hid (hp_new w (.cells (fcells zF nS).toArray 65))
  have HFD := hid (h.below HW.out)
  have HBn : Hid (b < n) := hid (HN.out ▸ h.lt)
  have HLEN := hid hbl
  have HVW := hid h.own
  have HK := hid hK
  clear h hK
  go_enter Tryz.func75, Tryz.ntmps75
  go_upto_region 1 with (refine al_row (by rfl) 65 (by rfl) _ zeroFrame ?_)
  have HG0 := hid (below_gb HW.out (some b))
  generalize w.alloc (.cells (fcells zF nS).toArray 65) = w0 at HW HM HFD HG0 ⊢
  rw [HN.out] at HM ⊢
  go_wp2_with fail
  refine (qs_some base b v bs s 6 w0 (by omega) HFD.out).mono ?_
  rintro e x ⟨rfl, hfx, hgx⟩
  rw [show ((oS bs 6 s).1 : Int) = 2 by rw [HK.out]; rfl]
  have HFx := hid hfx
  have HMx := hid (gb_keep hgx HM.out (by have := HBn.out; omega))
  have HGx := hid (gb_trans HG0.out hgx)
  clear hfx hgx HFD HM HG0 HW
  go_upto_region 2 with (first
    | (refine bd_row (by rfl) 65 #[(0, .tmp 7)] (by rfl) _ (by simp [Act.eval]) _ built_k2 ?_)
    | (refine al_row (by rfl) 65 (by rfl) _ zeroFrame ?_)
    | (refine st_new (by rfl) 65 _ _ (by rfl) (fcells (kF 2) nS) (by rfl) (by rfl) 65 _ (frame_size (kF 2) nS rfl) rfl (fcells_one (kF 2) nS rfl) ?_))
  have HWx := hid (below_walk x (.cells (fcells (kF 2) nS).toArray 65))
  have HFD := hid (HFx.out.below HWx.out)
  have HM0 := hid (bel_keep HWx.out HMx.out)
  have HG := hid (gb_trans HGx.out (below_gb HWx.out (some b)))
  have HA0 := hid (show (x.alloc (.cells (fcells (kF 2) nS).toArray 65)).heap[x.heap.size]? = some (.cells (fcells (⟨2, 0, 0, 0, z32f, 0, (0, 0, 0), [], []⟩ : Fr) nS).toArray 65 (0, 0)) from hp_new x _)
  have HVO := hid HFx.out.own
  have HVN : Hid (∀ k, v.ownBlock = some k → k < n) := hid (HN.out ▸ HVW.out)
  have HLn : Hid (n < x.heap.size) := hid (hp_lt HMx.out)
  have HBf : Hid (b < x.heap.size) := hid HFx.out.lt
  have HSW : Hid (w.heap.size ≤ x.heap.size) := hid HGx.out.size
  obtain ⟨fb, HFb⟩ : ∃ n, Hid (x.heap.size = n) := ⟨_, rfl⟩
  rw [HFb.out] at HA0 HVO HLn HBf HSW ⊢
  generalize x.alloc (.cells (fcells (kF 2) nS).toArray 65) = w1 at HWx HFD HM0 HG HA0 ⊢
  clear HFx HMx HGx HWx HFb
  have k0 : w1.cell? ⟨fb, 0, none⟩ = some (.int .i64 2) := (Fb.of HA0.out rfl).k
  go_wp2_with fail
  refine (qs_uint HFD.out).mono ?_
  rintro e y0 ⟨rfl, hf0, hg0⟩
  have HA := hid (gb_keep hg0 HA0.out (by have := HBf.out; omega))
  have HMn := hid (gb_keep hg0 HM0.out (by have := HBn.out; omega))
  have HGn := hid (gb_trans HG.out hg0)
  have HFn := hid hf0
  clear HFD HA0 HM0 HG hf0 hg0 k0
  have x0 := (Fb.of HA.out rfl).i
  have z0 := row_fz HA.out 1
  have k1 : y0.cell? ⟨fb, 0, none⟩ = some (.int .i64 2) := (Fb.of HA.out rfl).k
  go_upto_region 13 with fail
  have HA0 := hid (show (y0.setCell ⟨fb, 1, none⟩ (.int .u64 ((uS bs (oS bs 6 s).2).1 : Nat))).heap[fb]? = some (.cells (fcells (⟨2, (((uS bs (oS bs 6 s).2).1 : Nat) : Int), 0, 0, z32f, 0, (0, 0, 0), [], []⟩ : Fr) nS).toArray 65 (0, 0)) from (blk_set HA.out _).trans (congrArg (fun a => some (Obj.cells a 65 (0, 0))) (fset_id (⟨2, 0, 0, 0, z32f, 0, (0, 0, 0), [], []⟩ : Fr) nS rfl _)))
  have HM0 := hid (show (y0.setCell ⟨fb, 1, none⟩ (.int .u64 ((uS bs (oS bs 6 s).2).1 : Nat))).heap[n]? = some (.cells (fcells zF nS).toArray 65 (0, 0)) from (Below.heap_setCell y0 _ _ n (by have := HLn.out; simp; omega)).trans HMn.out)
  have HG := hid (gb_then HGn.out (gb_set y0 ⟨fb, 1, none⟩ (.int .u64 ((uS bs (oS bs 6 s).2).1 : Nat))) (fun j e => by have e2 : fb = j := Option.some.inj e; left; have := HSW.out; omega))
  have HFD := hid (HFn.out.far (gb_set y0 ⟨fb, 1, none⟩ (.int .u64 ((uS bs (oS bs 6 s).2).1 : Nat))) HBf.out HVO.out)
  generalize y0.setCell ⟨fb, 1, none⟩ (.int .u64 ((uS bs (oS bs 6 s).2).1 : Nat)) = w2 at HA0 HM0 HG HFD ⊢
  clear HA HMn HGn HFn x0 z0 k1
  go_wp2_with fail
  refine (qs_count 2147483648 (by omega) HFD.out).mono ?_
  rintro e y1 ⟨rfl, hf1, hg1⟩
  have HA := hid (gb_keep hg1 HA0.out (by have := HBf.out; omega))
  have HMn := hid (gb_keep hg1 HM0.out (by have := HBn.out; omega))
  have HGn := hid (gb_trans HG.out hg1)
  have HFn := hid hf1
  clear HFD HA0 HM0 HG hf1 hg1
  have x1 := (Fb.of HA.out rfl).l1
  have z1 := row_fz HA.out 37
  go_upto_region 14 with fail
  have HA0 := hid (show (y1.setCell ⟨fb, 37, none⟩ (.int .i64 ((cS bs 2147483648 (uS bs (oS bs 6 s).2).2).1 : Nat))).heap[fb]? = some (.cells (fcells (⟨2, (((uS bs (oS bs 6 s).2).1 : Nat) : Int), 0, 0, z32f, 0, ((((cS bs 2147483648 (uS bs (oS bs 6 s).2).2).1 : Nat) : Int), 0, 0), [], []⟩ : Fr) nS).toArray 65 (0, 0)) from (blk_set HA.out _).trans (congrArg (fun a => some (Obj.cells a 65 (0, 0))) (fset_l1 (⟨2, (((uS bs (oS bs 6 s).2).1 : Nat) : Int), 0, 0, z32f, 0, (0, 0, 0), [], []⟩ : Fr) nS rfl _)))
  have HM0 := hid (show (y1.setCell ⟨fb, 37, none⟩ (.int .i64 ((cS bs 2147483648 (uS bs (oS bs 6 s).2).2).1 : Nat))).heap[n]? = some (.cells (fcells zF nS).toArray 65 (0, 0)) from (Below.heap_setCell y1 _ _ n (by have := HLn.out; simp; omega)).trans HMn.out)
  have HG := hid (gb_then HGn.out (gb_set y1 ⟨fb, 37, none⟩ (.int .i64 ((cS bs 2147483648 (uS bs (oS bs 6 s).2).2).1 : Nat))) (fun j e => by have e2 : fb = j := Option.some.inj e; left; have := HSW.out; omega))
  have HFD := hid (HFn.out.far (gb_set y1 ⟨fb, 37, none⟩ (.int .i64 ((cS bs 2147483648 (uS bs (oS bs 6 s).2).2).1 : Nat))) HBf.out HVO.out)
  generalize y1.setCell ⟨fb, 37, none⟩ (.int .i64 ((cS bs 2147483648 (uS bs (oS bs 6 s).2).2).1 : Nat)) = w3 at HA0 HM0 HG HFD ⊢
  clear HA HMn HGn HFn x1 z1
  go_wp2_with fail
  refine (qs_count 2147483648 (by omega) HFD.out).mono ?_
  rintro e y2 ⟨rfl, hf2, hg2⟩
  have HA := hid (gb_keep hg2 HA0.out (by have := HBf.out; omega))
  have HMn := hid (gb_keep hg2 HM0.out (by have := HBn.out; omega))
  have HGn := hid (gb_trans HG.out hg2)
  have HFn := hid hf2
  clear HFD HA0 HM0 HG hf2 hg2
  have x2 := (Fb.of HA.out rfl).l2
  have z2 := row_fz HA.out 38
  go_upto_region 15 with fail
  have HA0 := hid (show (y2.setCell ⟨fb, 38, none⟩ (.int .i64 ((cS bs 2147483648 (cS bs 2147483648 (uS bs (oS bs 6 s).2).2).2).1 : Nat))).heap[fb]? = some (.cells (fcells (⟨2, (((uS bs (oS bs 6 s).2).1 : Nat) : Int), 0, 0, z32f, 0, ((((cS bs 2147483648 (uS bs (oS bs 6 s).2).2).1 : Nat) : Int), (((cS bs 2147483648 (cS bs 2147483648 (uS bs (oS bs 6 s).2).2).2).1 : Nat) : Int), 0), [], []⟩ : Fr) nS).toArray 65 (0, 0)) from (blk_set HA.out _).trans (congrArg (fun a => some (Obj.cells a 65 (0, 0))) (fset_l2 (⟨2, (((uS bs (oS bs 6 s).2).1 : Nat) : Int), 0, 0, z32f, 0, ((((cS bs 2147483648 (uS bs (oS bs 6 s).2).2).1 : Nat) : Int), 0, 0), [], []⟩ : Fr) nS rfl _)))
  have HM0 := hid (show (y2.setCell ⟨fb, 38, none⟩ (.int .i64 ((cS bs 2147483648 (cS bs 2147483648 (uS bs (oS bs 6 s).2).2).2).1 : Nat))).heap[n]? = some (.cells (fcells zF nS).toArray 65 (0, 0)) from (Below.heap_setCell y2 _ _ n (by have := HLn.out; simp; omega)).trans HMn.out)
  have HG := hid (gb_then HGn.out (gb_set y2 ⟨fb, 38, none⟩ (.int .i64 ((cS bs 2147483648 (cS bs 2147483648 (uS bs (oS bs 6 s).2).2).2).1 : Nat))) (fun j e => by have e2 : fb = j := Option.some.inj e; left; have := HSW.out; omega))
  have HFD := hid (HFn.out.far (gb_set y2 ⟨fb, 38, none⟩ (.int .i64 ((cS bs 2147483648 (cS bs 2147483648 (uS bs (oS bs 6 s).2).2).2).1 : Nat))) HBf.out HVO.out)
  generalize y2.setCell ⟨fb, 38, none⟩ (.int .i64 ((cS bs 2147483648 (cS bs 2147483648 (uS bs (oS bs 6 s).2).2).2).1 : Nat)) = w4 at HA0 HM0 HG HFD ⊢
  clear HA HMn HGn HFn x2 z2
  go_wp2_with fail
  refine (qs_count 2147483648 (by omega) HFD.out).mono ?_
  rintro e y3 ⟨rfl, hf3, hg3⟩
  have HA := hid (gb_keep hg3 HA0.out (by have := HBf.out; omega))
  have HMn := hid (gb_keep hg3 HM0.out (by have := HBn.out; omega))
  have HGn := hid (gb_trans HG.out hg3)
  have HFn := hid hf3
  clear HFD HA0 HM0 HG hf3 hg3
  have x3 := (Fb.of HA.out rfl).l3
  have z3 := row_fz HA.out 39
  go_upto_region 16 with fail
  have HA0 := hid (show (y3.setCell ⟨fb, 39, none⟩ (.int .i64 ((cS bs 2147483648 (cS bs 2147483648 (cS bs 2147483648 (uS bs (oS bs 6 s).2).2).2).2).1 : Nat))).heap[fb]? = some (.cells (fcells (⟨2, (((uS bs (oS bs 6 s).2).1 : Nat) : Int), 0, 0, z32f, 0, ((((cS bs 2147483648 (uS bs (oS bs 6 s).2).2).1 : Nat) : Int), (((cS bs 2147483648 (cS bs 2147483648 (uS bs (oS bs 6 s).2).2).2).1 : Nat) : Int), (((cS bs 2147483648 (cS bs 2147483648 (cS bs 2147483648 (uS bs (oS bs 6 s).2).2).2).2).1 : Nat) : Int)), [], []⟩ : Fr) nS).toArray 65 (0, 0)) from (blk_set HA.out _).trans (congrArg (fun a => some (Obj.cells a 65 (0, 0))) (fset_l3 (⟨2, (((uS bs (oS bs 6 s).2).1 : Nat) : Int), 0, 0, z32f, 0, ((((cS bs 2147483648 (uS bs (oS bs 6 s).2).2).1 : Nat) : Int), (((cS bs 2147483648 (cS bs 2147483648 (uS bs (oS bs 6 s).2).2).2).1 : Nat) : Int), 0), [], []⟩ : Fr) nS rfl _)))
  have HM0 := hid (show (y3.setCell ⟨fb, 39, none⟩ (.int .i64 ((cS bs 2147483648 (cS bs 2147483648 (cS bs 2147483648 (uS bs (oS bs 6 s).2).2).2).2).1 : Nat))).heap[n]? = some (.cells (fcells zF nS).toArray 65 (0, 0)) from (Below.heap_setCell y3 _ _ n (by have := HLn.out; simp; omega)).trans HMn.out)
  have HG := hid (gb_then HGn.out (gb_set y3 ⟨fb, 39, none⟩ (.int .i64 ((cS bs 2147483648 (cS bs 2147483648 (cS bs 2147483648 (uS bs (oS bs 6 s).2).2).2).2).1 : Nat))) (fun j e => by have e2 : fb = j := Option.some.inj e; left; have := HSW.out; omega))
  have HFD := hid (HFn.out.far (gb_set y3 ⟨fb, 39, none⟩ (.int .i64 ((cS bs 2147483648 (cS bs 2147483648 (cS bs 2147483648 (uS bs (oS bs 6 s).2).2).2).2).1 : Nat))) HBf.out HVO.out)
  generalize y3.setCell ⟨fb, 39, none⟩ (.int .i64 ((cS bs 2147483648 (cS bs 2147483648 (cS bs 2147483648 (uS bs (oS bs 6 s).2).2).2).2).1 : Nat)) = w5 at HA0 HM0 HG HFD ⊢
  clear HA HMn HGn HFn x3 z3
  go_wp2_with fail
  refine (qs_list 8 4096 (by omega) (by omega) (by omega) HFD.out).mono ?_
  rintro e y4 ⟨vl, rfl, hol, hf4, hg4⟩
  obtain ⟨al, cl, el⟩ := wowns_shape hol
  subst el
  have HOL := hid (hol.le (show fb + 1 ≤ w5.heap.size by have := hp_lt HA0.out; omega))
  have HA := hid (gb_keep hg4 HA0.out (by have := HBf.out; omega))
  have HMn := hid (gb_keep hg4 HM0.out (by have := HBn.out; omega))
  have HGn := hid (gb_trans HG.out hg4)
  have HFn := hid hf4
  clear HFD HA0 HM0 HG hf4 hg4 hol
  have x4 := (Fb.of HA.out rfl).a
  have z4 := row_fz HA.out 40
  go_upto_region 17 with fail
  have HA0 := hid (show (y4.setCell ⟨fb, 40, none⟩ (.slice al (lS bs 8 4096 (cS bs 2147483648 (cS bs 2147483648 (cS bs 2147483648 (uS bs (oS bs 6 s).2).2).2).2).2).1.length cl)).heap[fb]? = some (.cells (fcells (⟨2, (((uS bs (oS bs 6 s).2).1 : Nat) : Int), 0, 0, z32f, 0, ((((cS bs 2147483648 (uS bs (oS bs 6 s).2).2).1 : Nat) : Int), (((cS bs 2147483648 (cS bs 2147483648 (uS bs (oS bs 6 s).2).2).2).1 : Nat) : Int), (((cS bs 2147483648 (cS bs 2147483648 (cS bs 2147483648 (uS bs (oS bs 6 s).2).2).2).2).1 : Nat) : Int)), (lS bs 8 4096 (cS bs 2147483648 (cS bs 2147483648 (cS bs 2147483648 (uS bs (oS bs 6 s).2).2).2).2).2).1, []⟩ : Fr) (.slice al (lS bs 8 4096 (cS bs 2147483648 (cS bs 2147483648 (cS bs 2147483648 (uS bs (oS bs 6 s).2).2).2).2).2).1.length cl)).toArray 65 (0, 0)) from (blk_set HA.out _).trans (congrArg (fun a => some (Obj.cells a 65 (0, 0))) (fset_args (⟨2, (((uS bs (oS bs 6 s).2).1 : Nat) : Int), 0, 0, z32f, 0, ((((cS bs 2147483648 (uS bs (oS bs 6 s).2).2).1 : Nat) : Int), (((cS bs 2147483648 (cS bs 2147483648 (uS bs (oS bs 6 s).2).2).2).1 : Nat) : Int), (((cS bs 2147483648 (cS bs 2147483648 (cS bs 2147483648 (uS bs (oS bs 6 s).2).2).2).2).1 : Nat) : Int)), [], []⟩ : Fr) nS rfl _)))
  have HM0 := hid (show (y4.setCell ⟨fb, 40, none⟩ (.slice al (lS bs 8 4096 (cS bs 2147483648 (cS bs 2147483648 (cS bs 2147483648 (uS bs (oS bs 6 s).2).2).2).2).2).1.length cl)).heap[n]? = some (.cells (fcells zF nS).toArray 65 (0, 0)) from (Below.heap_setCell y4 _ _ n (by have := HLn.out; simp; omega)).trans HMn.out)
  have HG := hid (gb_then HGn.out (gb_set y4 ⟨fb, 40, none⟩ (.slice al (lS bs 8 4096 (cS bs 2147483648 (cS bs 2147483648 (cS bs 2147483648 (uS bs (oS bs 6 s).2).2).2).2).2).1.length cl)) (fun j e => by have e2 : fb = j := Option.some.inj e; left; have := HSW.out; omega))
  have HFD := hid (HFn.out.far (gb_set y4 ⟨fb, 40, none⟩ (.slice al (lS bs 8 4096 (cS bs 2147483648 (cS bs 2147483648 (cS bs 2147483648 (uS bs (oS bs 6 s).2).2).2).2).2).1.length cl)) HBf.out HVO.out)
  have HOLn := hid (WOwnS.far HOL.out (gb_set y4 ⟨fb, 40, none⟩ (.slice al (lS bs 8 4096 (cS bs 2147483648 (cS bs 2147483648 (cS bs 2147483648 (uS bs (oS bs 6 s).2).2).2).2).2).1.length cl)) (fun j e => by have e2 : fb = j := Option.some.inj e; omega))
  generalize y4.setCell ⟨fb, 40, none⟩ (.slice al (lS bs 8 4096 (cS bs 2147483648 (cS bs 2147483648 (cS bs 2147483648 (uS bs (oS bs 6 s).2).2).2).2).2).1.length cl) = w6 at HA0 HM0 HG HFD HOLn ⊢
  clear HA HMn HGn HFn x4 z4
  clear HOL
  have HOL := hid HOLn.out
  clear HOLn
  go_wp2_with fail
  refine (qs_text 2097152 (by omega) (by omega) HFD.out).mono ?_
  rintro e y5 ⟨rfl, hf5, hg5⟩
  have HA := hid (gb_keep hg5 HA0.out (by have := HBf.out; omega))
  have HMn := hid (gb_keep hg5 HM0.out (by have := HBn.out; omega))
  have HGn := hid (gb_trans HG.out hg5)
  have HOLn := hid (WOwnS.far HOL.out hg5 (fun j e => by injection e with e; have := HBf.out; omega))
  clear HOL
  have HOL := hid HOLn.out
  clear HOLn
  have HFn := hid hf5
  clear HFD HA0 HM0 HG hf5 hg5
  have x5 := (Fb.of HA.out rfl).bd
  have z5 := row_fz HA.out 41
  go_upto_region 26 with fail
  have HA0 := hid (show (y5.setCell ⟨fb, 41, none⟩ (.string (mk (tS bs 2097152 (lS bs 8 4096 (cS bs 2147483648 (cS bs 2147483648 (cS bs 2147483648 (uS bs (oS bs 6 s).2).2).2).2).2).2).1))).heap[fb]? = some (.cells (fcells (⟨2, (((uS bs (oS bs 6 s).2).1 : Nat) : Int), 0, 0, z32f, 0, ((((cS bs 2147483648 (uS bs (oS bs 6 s).2).2).1 : Nat) : Int), (((cS bs 2147483648 (cS bs 2147483648 (uS bs (oS bs 6 s).2).2).2).1 : Nat) : Int), (((cS bs 2147483648 (cS bs 2147483648 (cS bs 2147483648 (uS bs (oS bs 6 s).2).2).2).2).1 : Nat) : Int)), (lS bs 8 4096 (cS bs 2147483648 (cS bs 2147483648 (cS bs 2147483648 (uS bs (oS bs 6 s).2).2).2).2).2).1, (tS bs 2097152 (lS bs 8 4096 (cS bs 2147483648 (cS bs 2147483648 (cS bs 2147483648 (uS bs (oS bs 6 s).2).2).2).2).2).2).1⟩ : Fr) (.slice al (lS bs 8 4096 (cS bs 2147483648 (cS bs 2147483648 (cS bs 2147483648 (uS bs (oS bs 6 s).2).2).2).2).2).1.length cl)).toArray 65 (0, 0)) from (blk_set HA.out _).trans (congrArg (fun a => some (Obj.cells a 65 (0, 0))) (fset_body (⟨2, (((uS bs (oS bs 6 s).2).1 : Nat) : Int), 0, 0, z32f, 0, ((((cS bs 2147483648 (uS bs (oS bs 6 s).2).2).1 : Nat) : Int), (((cS bs 2147483648 (cS bs 2147483648 (uS bs (oS bs 6 s).2).2).2).1 : Nat) : Int), (((cS bs 2147483648 (cS bs 2147483648 (cS bs 2147483648 (uS bs (oS bs 6 s).2).2).2).2).1 : Nat) : Int)), (lS bs 8 4096 (cS bs 2147483648 (cS bs 2147483648 (cS bs 2147483648 (uS bs (oS bs 6 s).2).2).2).2).2).1, []⟩ : Fr) (.slice al (lS bs 8 4096 (cS bs 2147483648 (cS bs 2147483648 (cS bs 2147483648 (uS bs (oS bs 6 s).2).2).2).2).2).1.length cl) rfl _)))
  have HM0 := hid (show (y5.setCell ⟨fb, 41, none⟩ (.string (mk (tS bs 2097152 (lS bs 8 4096 (cS bs 2147483648 (cS bs 2147483648 (cS bs 2147483648 (uS bs (oS bs 6 s).2).2).2).2).2).2).1))).heap[n]? = some (.cells (fcells zF nS).toArray 65 (0, 0)) from (Below.heap_setCell y5 _ _ n (by have := HLn.out; simp; omega)).trans HMn.out)
  have HG := hid (gb_then HGn.out (gb_set y5 ⟨fb, 41, none⟩ (.string (mk (tS bs 2097152 (lS bs 8 4096 (cS bs 2147483648 (cS bs 2147483648 (cS bs 2147483648 (uS bs (oS bs 6 s).2).2).2).2).2).2).1))) (fun j e => by have e2 : fb = j := Option.some.inj e; left; have := HSW.out; omega))
  have HFD := hid (HFn.out.far (gb_set y5 ⟨fb, 41, none⟩ (.string (mk (tS bs 2097152 (lS bs 8 4096 (cS bs 2147483648 (cS bs 2147483648 (cS bs 2147483648 (uS bs (oS bs 6 s).2).2).2).2).2).2).1))) HBf.out HVO.out)
  have HOLn := hid (WOwnS.far HOL.out (gb_set y5 ⟨fb, 41, none⟩ (.string (mk (tS bs 2097152 (lS bs 8 4096 (cS bs 2147483648 (cS bs 2147483648 (cS bs 2147483648 (uS bs (oS bs 6 s).2).2).2).2).2).2).1))) (fun j e => by have e2 : fb = j := Option.some.inj e; omega))
  generalize y5.setCell ⟨fb, 41, none⟩ (.string (mk (tS bs 2097152 (lS bs 8 4096 (cS bs 2147483648 (cS bs 2147483648 (cS bs 2147483648 (uS bs (oS bs 6 s).2).2).2).2).2).2).1)) = w7 at HA0 HM0 HG HFD HOLn ⊢
  clear HA HMn HGn HFn x5 z5
  clear HOL
  have HOL := hid HOLn.out
  clear HOLn
  obtain ⟨FF, HFF⟩ : ∃ L, Hid (fcells (⟨2, (((uS bs (oS bs 6 s).2).1 : Nat) : Int), 0, 0, z32f, 0, ((((cS bs 2147483648 (uS bs (oS bs 6 s).2).2).1 : Nat) : Int), (((cS bs 2147483648 (cS bs 2147483648 (uS bs (oS bs 6 s).2).2).2).1 : Nat) : Int), (((cS bs 2147483648 (cS bs 2147483648 (cS bs 2147483648 (uS bs (oS bs 6 s).2).2).2).2).1 : Nat) : Int)), (lS bs 8 4096 (cS bs 2147483648 (cS bs 2147483648 (cS bs 2147483648 (uS bs (oS bs 6 s).2).2).2).2).2).1, (tS bs 2097152 (lS bs 8 4096 (cS bs 2147483648 (cS bs 2147483648 (cS bs 2147483648 (uS bs (oS bs 6 s).2).2).2).2).2).2).1⟩ : Fr) (.slice al (lS bs 8 4096 (cS bs 2147483648 (cS bs 2147483648 (cS bs 2147483648 (uS bs (oS bs 6 s).2).2).2).2).2).1.length cl) = L) := ⟨_, rfl⟩
  have HSZ := hid (frame_size (⟨2, (((uS bs (oS bs 6 s).2).1 : Nat) : Int), 0, 0, z32f, 0, ((((cS bs 2147483648 (uS bs (oS bs 6 s).2).2).1 : Nat) : Int), (((cS bs 2147483648 (cS bs 2147483648 (uS bs (oS bs 6 s).2).2).2).1 : Nat) : Int), (((cS bs 2147483648 (cS bs 2147483648 (cS bs 2147483648 (uS bs (oS bs 6 s).2).2).2).2).1 : Nat) : Int)), (lS bs 8 4096 (cS bs 2147483648 (cS bs 2147483648 (cS bs 2147483648 (uS bs (oS bs 6 s).2).2).2).2).2).1, (tS bs 2097152 (lS bs 8 4096 (cS bs 2147483648 (cS bs 2147483648 (cS bs 2147483648 (uS bs (oS bs 6 s).2).2).2).2).2).2).1⟩ : Fr) (.slice al (lS bs 8 4096 (cS bs 2147483648 (cS bs 2147483648 (cS bs 2147483648 (uS bs (oS bs 6 s).2).2).2).2).2).1.length cl) rfl)
  have HON := hid (fcells_one (⟨2, (((uS bs (oS bs 6 s).2).1 : Nat) : Int), 0, 0, z32f, 0, ((((cS bs 2147483648 (uS bs (oS bs 6 s).2).2).1 : Nat) : Int), (((cS bs 2147483648 (cS bs 2147483648 (uS bs (oS bs 6 s).2).2).2).1 : Nat) : Int), (((cS bs 2147483648 (cS bs 2147483648 (cS bs 2147483648 (uS bs (oS bs 6 s).2).2).2).2).1 : Nat) : Int)), (lS bs 8 4096 (cS bs 2147483648 (cS bs 2147483648 (cS bs 2147483648 (uS bs (oS bs 6 s).2).2).2).2).2).1, (tS bs 2097152 (lS bs 8 4096 (cS bs 2147483648 (cS bs 2147483648 (cS bs 2147483648 (uS bs (oS bs 6 s).2).2).2).2).2).2).1⟩ : Fr) (.slice al (lS bs 8 4096 (cS bs 2147483648 (cS bs 2147483648 (cS bs 2147483648 (uS bs (oS bs 6 s).2).2).2).2).2).1.length cl) rfl)
  have HOS := hid (show (fcells zF nS).toArray.size = (fcells (⟨2, (((uS bs (oS bs 6 s).2).1 : Nat) : Int), 0, 0, z32f, 0, ((((cS bs 2147483648 (uS bs (oS bs 6 s).2).2).1 : Nat) : Int), (((cS bs 2147483648 (cS bs 2147483648 (uS bs (oS bs 6 s).2).2).2).1 : Nat) : Int), (((cS bs 2147483648 (cS bs 2147483648 (cS bs 2147483648 (uS bs (oS bs 6 s).2).2).2).2).1 : Nat) : Int)), (lS bs 8 4096 (cS bs 2147483648 (cS bs 2147483648 (cS bs 2147483648 (uS bs (oS bs 6 s).2).2).2).2).2).1, (tS bs 2097152 (lS bs 8 4096 (cS bs 2147483648 (cS bs 2147483648 (cS bs 2147483648 (uS bs (oS bs 6 s).2).2).2).2).2).2).1⟩ : Fr) (.slice al (lS bs 8 4096 (cS bs 2147483648 (cS bs 2147483648 (cS bs 2147483648 (uS bs (oS bs 6 s).2).2).2).2).2).1.length cl)).length by rw [fcells_length _ _ rfl]; rfl)
  rw [HFF.out] at HA0 HSZ HON HOS
  go_wp2_with (first
    | (refine ld_row (by rfl) 65 (.tmp 3) (by rfl) fb (by rfl) FF 65 HA0.out _ Tryz.underlying65 rfl HSZ.out ?_)
    | (refine st_row (by rfl) 65 _ _ (by rfl) n FF (by rfl) (by rfl) 65 _ HM0.out HSZ.out HOS.out HON.out ?_; intro wz hwz))
  refine ret_row 2 65 rfl n rfl FF 65 hwz.blk _ Tryz.underlying65 rfl HSZ.out rfl ⟨(.slice al (lS bs 8 4096 (cS bs 2147483648 (cS bs 2147483648 (cS bs 2147483648 (uS bs (oS bs 6 s).2).2).2).2).2).1.length cl), ?_, ?_, ?_, gb_then HG.out hwz.grown (fun j e => by injection e with e; left; have := HN.out; omega)⟩
  · rw [← HFF.out]; rfl
  · exact (WOwnS.far HOL.out hwz.grown (fun j e => by have e2 : n = j := Option.some.inj e; have := HLn.out; omega)).le (by have := HSW.out; omega)
  · exact HFD.out.far hwz.grown HBn.out (fun k hk => HVN.out k hk)
end Go.Proofs.YtiibhccbbpgehabGreat

/- The document's fields, where the kind that is read is 3. -/
namespace Go.Proofs.YtiibhccbbpgehabGreat
open Go.RowKit Go.BigFrame

set_option maxRecDepth 100000 in
set_option maxHeartbeats 4000000 in
theorem rfields_3 (base b : Nat) (v : Value) (bs : List UInt8) (s : St) (w : World) (hbl : bs.length ≤ 1099511627776) (h : Qs w base b v bs s) (hK : (oS bs 6 s).1 = 3) :
    Calls Tryz.prog 75 #[.pointer (some ⟨b, 0, none⟩)] w fun e w' => ∃ va, e = .returned (.agg (fcells (fieldsP bs 3 (oS bs 6 s).2).1 va).toArray) ∧ WOwnS w' w.heap.size va (fieldsP bs 3 (oS bs 6 s).2).1.args ∧ Qs w' base b v bs (fieldsP bs 3 (oS bs 6 s).2).2 ∧ w.grownBy w' (some b) := by
  obtain ⟨n, HN⟩ : ∃ n, Hid (w.heap.size = n) := ⟨_, rfl⟩
  have HW := hid (below_walk w (.cells (fcells zF nS).toArray 65))
  have HM := hid (hp_new w (.cells (fcells zF nS).toArray 65))
  have HFD := hid (h.below HW.out)
  have HBn : Hid (b < n) := hid (HN.out ▸ h.lt)
  have HLEN := hid hbl
  have HVW := hid h.own
  have HK := hid hK
  clear h hK
  go_enter Tryz.func75, Tryz.ntmps75
  go_upto_region 1 with (refine al_row (by rfl) 65 (by rfl) _ zeroFrame ?_)
  have HG0 := hid (below_gb HW.out (some b))
  generalize w.alloc (.cells (fcells zF nS).toArray 65) = w0 at HW HM HFD HG0 ⊢
  rw [HN.out] at HM ⊢
  go_wp2_with fail
  refine (qs_some base b v bs s 6 w0 (by omega) HFD.out).mono ?_
  rintro e x ⟨rfl, hfx, hgx⟩
  rw [show ((oS bs 6 s).1 : Int) = 3 by rw [HK.out]; rfl]
  have HFx := hid hfx
  have HMx := hid (gb_keep hgx HM.out (by have := HBn.out; omega))
  have HGx := hid (gb_trans HG0.out hgx)
  clear hfx hgx HFD HM HG0 HW
  go_upto_region 2 with (first
    | (refine bd_row (by rfl) 65 #[(0, .tmp 7)] (by rfl) _ (by simp [Act.eval]) _ built_k3 ?_)
    | (refine al_row (by rfl) 65 (by rfl) _ zeroFrame ?_)
    | (refine st_new (by rfl) 65 _ _ (by rfl) (fcells (kF 3) nS) (by rfl) (by rfl) 65 _ (frame_size (kF 3) nS rfl) rfl (fcells_one (kF 3) nS rfl) ?_))
  have HWx := hid (below_walk x (.cells (fcells (kF 3) nS).toArray 65))
  have HFD := hid (HFx.out.below HWx.out)
  have HM0 := hid (bel_keep HWx.out HMx.out)
  have HG := hid (gb_trans HGx.out (below_gb HWx.out (some b)))
  have HA0 := hid (show (x.alloc (.cells (fcells (kF 3) nS).toArray 65)).heap[x.heap.size]? = some (.cells (fcells (⟨3, 0, 0, 0, z32f, 0, (0, 0, 0), [], []⟩ : Fr) nS).toArray 65 (0, 0)) from hp_new x _)
  have HVO := hid HFx.out.own
  have HVN : Hid (∀ k, v.ownBlock = some k → k < n) := hid (HN.out ▸ HVW.out)
  have HLn : Hid (n < x.heap.size) := hid (hp_lt HMx.out)
  have HBf : Hid (b < x.heap.size) := hid HFx.out.lt
  have HSW : Hid (w.heap.size ≤ x.heap.size) := hid HGx.out.size
  obtain ⟨fb, HFb⟩ : ∃ n, Hid (x.heap.size = n) := ⟨_, rfl⟩
  rw [HFb.out] at HA0 HVO HLn HBf HSW ⊢
  generalize x.alloc (.cells (fcells (kF 3) nS).toArray 65) = w1 at HWx HFD HM0 HG HA0 ⊢
  clear HFx HMx HGx HWx HFb
  have k0 : w1.cell? ⟨fb, 0, none⟩ = some (.int .i64 3) := (Fb.of HA0.out rfl).k
  go_wp2_with fail
  refine (qs_uint HFD.out).mono ?_
  rintro e y0 ⟨rfl, hf0, hg0⟩
  have HA := hid (gb_keep hg0 HA0.out (by have := HBf.out; omega))
  have HMn := hid (gb_keep hg0 HM0.out (by have := HBn.out; omega))
  have HGn := hid (gb_trans HG.out hg0)
  have HFn := hid hf0
  clear HFD HA0 HM0 HG hf0 hg0 k0
  have x0 := (Fb.of HA.out rfl).i
  have z0 := row_fz HA.out 1
  have k1 : y0.cell? ⟨fb, 0, none⟩ = some (.int .i64 3) := (Fb.of HA.out rfl).k
  go_upto_region 20 with fail
  have HA0 := hid (show (y0.setCell ⟨fb, 1, none⟩ (.int .u64 ((uS bs (oS bs 6 s).2).1 : Nat))).heap[fb]? = some (.cells (fcells (⟨3, (((uS bs (oS bs 6 s).2).1 : Nat) : Int), 0, 0, z32f, 0, (0, 0, 0), [], []⟩ : Fr) nS).toArray 65 (0, 0)) from (blk_set HA.out _).trans (congrArg (fun a => some (Obj.cells a 65 (0, 0))) (fset_id (⟨3, 0, 0, 0, z32f, 0, (0, 0, 0), [], []⟩ : Fr) nS rfl _)))
  have HM0 := hid (show (y0.setCell ⟨fb, 1, none⟩ (.int .u64 ((uS bs (oS bs 6 s).2).1 : Nat))).heap[n]? = some (.cells (fcells zF nS).toArray 65 (0, 0)) from (Below.heap_setCell y0 _ _ n (by have := HLn.out; simp; omega)).trans HMn.out)
  have HG := hid (gb_then HGn.out (gb_set y0 ⟨fb, 1, none⟩ (.int .u64 ((uS bs (oS bs 6 s).2).1 : Nat))) (fun j e => by have e2 : fb = j := Option.some.inj e; left; have := HSW.out; omega))
  have HFD := hid (HFn.out.far (gb_set y0 ⟨fb, 1, none⟩ (.int .u64 ((uS bs (oS bs 6 s).2).1 : Nat))) HBf.out HVO.out)
  generalize y0.setCell ⟨fb, 1, none⟩ (.int .u64 ((uS bs (oS bs 6 s).2).1 : Nat)) = w2 at HA0 HM0 HG HFD ⊢
  clear HA HMn HGn HFn x0 z0 k1
  go_wp2_with fail
  refine (qs_some base b v bs _ 3 _ (by omega) HFD.out).mono ?_
  rintro e y1 ⟨rfl, hf1, hg1⟩
  have HA := hid (gb_keep hg1 HA0.out (by have := HBf.out; omega))
  have HMn := hid (gb_keep hg1 HM0.out (by have := HBn.out; omega))
  have HGn := hid (gb_trans HG.out hg1)
  have HFn := hid hf1
  clear HFD HA0 HM0 HG hf1 hg1
  have x1 := (Fb.of HA.out rfl).st
  have z1 := row_fz HA.out 36
  go_upto_region 21 with fail
  have HA0 := hid (show (y1.setCell ⟨fb, 36, none⟩ (.int .i64 ((oS bs 3 (uS bs (oS bs 6 s).2).2).1 : Nat))).heap[fb]? = some (.cells (fcells (⟨3, (((uS bs (oS bs 6 s).2).1 : Nat) : Int), 0, 0, z32f, (((oS bs 3 (uS bs (oS bs 6 s).2).2).1 : Nat) : Int), (0, 0, 0), [], []⟩ : Fr) nS).toArray 65 (0, 0)) from (blk_set HA.out _).trans (congrArg (fun a => some (Obj.cells a 65 (0, 0))) (fset_status (⟨3, (((uS bs (oS bs 6 s).2).1 : Nat) : Int), 0, 0, z32f, 0, (0, 0, 0), [], []⟩ : Fr) nS rfl _)))
  have HM0 := hid (show (y1.setCell ⟨fb, 36, none⟩ (.int .i64 ((oS bs 3 (uS bs (oS bs 6 s).2).2).1 : Nat))).heap[n]? = some (.cells (fcells zF nS).toArray 65 (0, 0)) from (Below.heap_setCell y1 _ _ n (by have := HLn.out; simp; omega)).trans HMn.out)
  have HG := hid (gb_then HGn.out (gb_set y1 ⟨fb, 36, none⟩ (.int .i64 ((oS bs 3 (uS bs (oS bs 6 s).2).2).1 : Nat))) (fun j e => by have e2 : fb = j := Option.some.inj e; left; have := HSW.out; omega))
  have HFD := hid (HFn.out.far (gb_set y1 ⟨fb, 36, none⟩ (.int .i64 ((oS bs 3 (uS bs (oS bs 6 s).2).2).1 : Nat))) HBf.out HVO.out)
  generalize y1.setCell ⟨fb, 36, none⟩ (.int .i64 ((oS bs 3 (uS bs (oS bs 6 s).2).2).1 : Nat)) = w3 at HA0 HM0 HG HFD ⊢
  clear HA HMn HGn HFn x1 z1
  go_wp2_with fail
  refine (qs_text 2097152 (by omega) (by omega) HFD.out).mono ?_
  rintro e y2 ⟨rfl, hf2, hg2⟩
  have HA := hid (gb_keep hg2 HA0.out (by have := HBf.out; omega))
  have HMn := hid (gb_keep hg2 HM0.out (by have := HBn.out; omega))
  have HGn := hid (gb_trans HG.out hg2)
  have HFn := hid hf2
  clear HFD HA0 HM0 HG hf2 hg2
  have x2 := (Fb.of HA.out rfl).bd
  have z2 := row_fz HA.out 41
  go_upto_region 26 with fail
  have HA0 := hid (show (y2.setCell ⟨fb, 41, none⟩ (.string (mk (tS bs 2097152 (oS bs 3 (uS bs (oS bs 6 s).2).2).2).1))).heap[fb]? = some (.cells (fcells (⟨3, (((uS bs (oS bs 6 s).2).1 : Nat) : Int), 0, 0, z32f, (((oS bs 3 (uS bs (oS bs 6 s).2).2).1 : Nat) : Int), (0, 0, 0), [], (tS bs 2097152 (oS bs 3 (uS bs (oS bs 6 s).2).2).2).1⟩ : Fr) nS).toArray 65 (0, 0)) from (blk_set HA.out _).trans (congrArg (fun a => some (Obj.cells a 65 (0, 0))) (fset_body (⟨3, (((uS bs (oS bs 6 s).2).1 : Nat) : Int), 0, 0, z32f, (((oS bs 3 (uS bs (oS bs 6 s).2).2).1 : Nat) : Int), (0, 0, 0), [], []⟩ : Fr) nS rfl _)))
  have HM0 := hid (show (y2.setCell ⟨fb, 41, none⟩ (.string (mk (tS bs 2097152 (oS bs 3 (uS bs (oS bs 6 s).2).2).2).1))).heap[n]? = some (.cells (fcells zF nS).toArray 65 (0, 0)) from (Below.heap_setCell y2 _ _ n (by have := HLn.out; simp; omega)).trans HMn.out)
  have HG := hid (gb_then HGn.out (gb_set y2 ⟨fb, 41, none⟩ (.string (mk (tS bs 2097152 (oS bs 3 (uS bs (oS bs 6 s).2).2).2).1))) (fun j e => by have e2 : fb = j := Option.some.inj e; left; have := HSW.out; omega))
  have HFD := hid (HFn.out.far (gb_set y2 ⟨fb, 41, none⟩ (.string (mk (tS bs 2097152 (oS bs 3 (uS bs (oS bs 6 s).2).2).2).1))) HBf.out HVO.out)
  generalize y2.setCell ⟨fb, 41, none⟩ (.string (mk (tS bs 2097152 (oS bs 3 (uS bs (oS bs 6 s).2).2).2).1)) = w4 at HA0 HM0 HG HFD ⊢
  clear HA HMn HGn HFn x2 z2
  obtain ⟨FF, HFF⟩ : ∃ L, Hid (fcells (⟨3, (((uS bs (oS bs 6 s).2).1 : Nat) : Int), 0, 0, z32f, (((oS bs 3 (uS bs (oS bs 6 s).2).2).1 : Nat) : Int), (0, 0, 0), [], (tS bs 2097152 (oS bs 3 (uS bs (oS bs 6 s).2).2).2).1⟩ : Fr) nS = L) := ⟨_, rfl⟩
  have HSZ := hid (frame_size (⟨3, (((uS bs (oS bs 6 s).2).1 : Nat) : Int), 0, 0, z32f, (((oS bs 3 (uS bs (oS bs 6 s).2).2).1 : Nat) : Int), (0, 0, 0), [], (tS bs 2097152 (oS bs 3 (uS bs (oS bs 6 s).2).2).2).1⟩ : Fr) nS rfl)
  have HON := hid (fcells_one (⟨3, (((uS bs (oS bs 6 s).2).1 : Nat) : Int), 0, 0, z32f, (((oS bs 3 (uS bs (oS bs 6 s).2).2).1 : Nat) : Int), (0, 0, 0), [], (tS bs 2097152 (oS bs 3 (uS bs (oS bs 6 s).2).2).2).1⟩ : Fr) nS rfl)
  have HOS := hid (show (fcells zF nS).toArray.size = (fcells (⟨3, (((uS bs (oS bs 6 s).2).1 : Nat) : Int), 0, 0, z32f, (((oS bs 3 (uS bs (oS bs 6 s).2).2).1 : Nat) : Int), (0, 0, 0), [], (tS bs 2097152 (oS bs 3 (uS bs (oS bs 6 s).2).2).2).1⟩ : Fr) nS).length by rw [fcells_length _ _ rfl]; rfl)
  rw [HFF.out] at HA0 HSZ HON HOS
  go_wp2_with (first
    | (refine ld_row (by rfl) 65 (.tmp 3) (by rfl) fb (by rfl) FF 65 HA0.out _ Tryz.underlying65 rfl HSZ.out ?_)
    | (refine st_row (by rfl) 65 _ _ (by rfl) n FF (by rfl) (by rfl) 65 _ HM0.out HSZ.out HOS.out HON.out ?_; intro wz hwz))
  refine ret_row 2 65 rfl n rfl FF 65 hwz.blk _ Tryz.underlying65 rfl HSZ.out rfl ⟨nS, ?_, ?_, ?_, gb_then HG.out hwz.grown (fun j e => by injection e with e; left; have := HN.out; omega)⟩
  · rw [← HFF.out]; rfl
  · exact World.ownsRow_nil _ _ _ _
  · exact HFD.out.far hwz.grown HBn.out (fun k hk => HVN.out k hk)
end Go.Proofs.YtiibhccbbpgehabGreat

/- The document's fields, where the kind that is read is 4. -/
namespace Go.Proofs.YtiibhccbbpgehabGreat
open Go.RowKit Go.BigFrame

set_option maxRecDepth 100000 in
set_option maxHeartbeats 4000000 in
theorem rfields_4 (base b : Nat) (v : Value) (bs : List UInt8) (s : St) (w : World) (hbl : bs.length ≤ 1099511627776) (h : Qs w base b v bs s) (hK : (oS bs 6 s).1 = 4) :
    Calls Tryz.prog 75 #[.pointer (some ⟨b, 0, none⟩)] w fun e w' => ∃ va, e = .returned (.agg (fcells (fieldsP bs 4 (oS bs 6 s).2).1 va).toArray) ∧ WOwnS w' w.heap.size va (fieldsP bs 4 (oS bs 6 s).2).1.args ∧ Qs w' base b v bs (fieldsP bs 4 (oS bs 6 s).2).2 ∧ w.grownBy w' (some b) := by
  obtain ⟨n, HN⟩ : ∃ n, Hid (w.heap.size = n) := ⟨_, rfl⟩
  have HW := hid (below_walk w (.cells (fcells zF nS).toArray 65))
  have HM := hid (hp_new w (.cells (fcells zF nS).toArray 65))
  have HFD := hid (h.below HW.out)
  have HBn : Hid (b < n) := hid (HN.out ▸ h.lt)
  have HLEN := hid hbl
  have HVW := hid h.own
  have HK := hid hK
  clear h hK
  go_enter Tryz.func75, Tryz.ntmps75
  go_upto_region 1 with (refine al_row (by rfl) 65 (by rfl) _ zeroFrame ?_)
  have HG0 := hid (below_gb HW.out (some b))
  generalize w.alloc (.cells (fcells zF nS).toArray 65) = w0 at HW HM HFD HG0 ⊢
  rw [HN.out] at HM ⊢
  go_wp2_with fail
  refine (qs_some base b v bs s 6 w0 (by omega) HFD.out).mono ?_
  rintro e x ⟨rfl, hfx, hgx⟩
  rw [show ((oS bs 6 s).1 : Int) = 4 by rw [HK.out]; rfl]
  have HFx := hid hfx
  have HMx := hid (gb_keep hgx HM.out (by have := HBn.out; omega))
  have HGx := hid (gb_trans HG0.out hgx)
  clear hfx hgx HFD HM HG0 HW
  go_upto_region 2 with (first
    | (refine bd_row (by rfl) 65 #[(0, .tmp 7)] (by rfl) _ (by simp [Act.eval]) _ built_k4 ?_)
    | (refine al_row (by rfl) 65 (by rfl) _ zeroFrame ?_)
    | (refine st_new (by rfl) 65 _ _ (by rfl) (fcells (kF 4) nS) (by rfl) (by rfl) 65 _ (frame_size (kF 4) nS rfl) rfl (fcells_one (kF 4) nS rfl) ?_))
  have HWx := hid (below_walk x (.cells (fcells (kF 4) nS).toArray 65))
  have HFD := hid (HFx.out.below HWx.out)
  have HM0 := hid (bel_keep HWx.out HMx.out)
  have HG := hid (gb_trans HGx.out (below_gb HWx.out (some b)))
  have HA0 := hid (show (x.alloc (.cells (fcells (kF 4) nS).toArray 65)).heap[x.heap.size]? = some (.cells (fcells (⟨4, 0, 0, 0, z32f, 0, (0, 0, 0), [], []⟩ : Fr) nS).toArray 65 (0, 0)) from hp_new x _)
  have HVO := hid HFx.out.own
  have HVN : Hid (∀ k, v.ownBlock = some k → k < n) := hid (HN.out ▸ HVW.out)
  have HLn : Hid (n < x.heap.size) := hid (hp_lt HMx.out)
  have HBf : Hid (b < x.heap.size) := hid HFx.out.lt
  have HSW : Hid (w.heap.size ≤ x.heap.size) := hid HGx.out.size
  obtain ⟨fb, HFb⟩ : ∃ n, Hid (x.heap.size = n) := ⟨_, rfl⟩
  rw [HFb.out] at HA0 HVO HLn HBf HSW ⊢
  generalize x.alloc (.cells (fcells (kF 4) nS).toArray 65) = w1 at HWx HFD HM0 HG HA0 ⊢
  clear HFx HMx HGx HWx HFb
  have k0 : w1.cell? ⟨fb, 0, none⟩ = some (.int .i64 4) := (Fb.of HA0.out rfl).k
  go_wp2_with fail
  refine (qs_uint HFD.out).mono ?_
  rintro e y0 ⟨rfl, hf0, hg0⟩
  have HA := hid (gb_keep hg0 HA0.out (by have := HBf.out; omega))
  have HMn := hid (gb_keep hg0 HM0.out (by have := HBn.out; omega))
  have HGn := hid (gb_trans HG.out hg0)
  have HFn := hid hf0
  clear HFD HA0 HM0 HG hf0 hg0 k0
  have x0 := (Fb.of HA.out rfl).i
  have z0 := row_fz HA.out 1
  have k1 : y0.cell? ⟨fb, 0, none⟩ = some (.int .i64 4) := (Fb.of HA.out rfl).k
  go_upto_region 26 with fail
  have HA0 := hid (show (y0.setCell ⟨fb, 1, none⟩ (.int .u64 ((uS bs (oS bs 6 s).2).1 : Nat))).heap[fb]? = some (.cells (fcells (⟨4, (((uS bs (oS bs 6 s).2).1 : Nat) : Int), 0, 0, z32f, 0, (0, 0, 0), [], []⟩ : Fr) nS).toArray 65 (0, 0)) from (blk_set HA.out _).trans (congrArg (fun a => some (Obj.cells a 65 (0, 0))) (fset_id (⟨4, 0, 0, 0, z32f, 0, (0, 0, 0), [], []⟩ : Fr) nS rfl _)))
  have HM0 := hid (show (y0.setCell ⟨fb, 1, none⟩ (.int .u64 ((uS bs (oS bs 6 s).2).1 : Nat))).heap[n]? = some (.cells (fcells zF nS).toArray 65 (0, 0)) from (Below.heap_setCell y0 _ _ n (by have := HLn.out; simp; omega)).trans HMn.out)
  have HG := hid (gb_then HGn.out (gb_set y0 ⟨fb, 1, none⟩ (.int .u64 ((uS bs (oS bs 6 s).2).1 : Nat))) (fun j e => by have e2 : fb = j := Option.some.inj e; left; have := HSW.out; omega))
  have HFD := hid (HFn.out.far (gb_set y0 ⟨fb, 1, none⟩ (.int .u64 ((uS bs (oS bs 6 s).2).1 : Nat))) HBf.out HVO.out)
  generalize y0.setCell ⟨fb, 1, none⟩ (.int .u64 ((uS bs (oS bs 6 s).2).1 : Nat)) = w2 at HA0 HM0 HG HFD ⊢
  clear HA HMn HGn HFn x0 z0 k1
  obtain ⟨FF, HFF⟩ : ∃ L, Hid (fcells (⟨4, (((uS bs (oS bs 6 s).2).1 : Nat) : Int), 0, 0, z32f, 0, (0, 0, 0), [], []⟩ : Fr) nS = L) := ⟨_, rfl⟩
  have HSZ := hid (frame_size (⟨4, (((uS bs (oS bs 6 s).2).1 : Nat) : Int), 0, 0, z32f, 0, (0, 0, 0), [], []⟩ : Fr) nS rfl)
  have HON := hid (fcells_one (⟨4, (((uS bs (oS bs 6 s).2).1 : Nat) : Int), 0, 0, z32f, 0, (0, 0, 0), [], []⟩ : Fr) nS rfl)
  have HOS := hid (show (fcells zF nS).toArray.size = (fcells (⟨4, (((uS bs (oS bs 6 s).2).1 : Nat) : Int), 0, 0, z32f, 0, (0, 0, 0), [], []⟩ : Fr) nS).length by rw [fcells_length _ _ rfl]; rfl)
  rw [HFF.out] at HA0 HSZ HON HOS
  go_wp2_with (first
    | (refine ld_row (by rfl) 65 (.tmp 3) (by rfl) fb (by rfl) FF 65 HA0.out _ Tryz.underlying65 rfl HSZ.out ?_)
    | (refine st_row (by rfl) 65 _ _ (by rfl) n FF (by rfl) (by rfl) 65 _ HM0.out HSZ.out HOS.out HON.out ?_; intro wz hwz))
  refine ret_row 2 65 rfl n rfl FF 65 hwz.blk _ Tryz.underlying65 rfl HSZ.out rfl ⟨nS, ?_, ?_, ?_, gb_then HG.out hwz.grown (fun j e => by injection e with e; left; have := HN.out; omega)⟩
  · rw [← HFF.out]; rfl
  · exact World.ownsRow_nil _ _ _ _
  · exact HFD.out.far hwz.grown HBn.out (fun k hk => HVN.out k hk)
end Go.Proofs.YtiibhccbbpgehabGreat

/- The document's fields, where the kind that is read is 5. -/
namespace Go.Proofs.YtiibhccbbpgehabGreat
open Go.RowKit Go.BigFrame

set_option maxRecDepth 100000 in
set_option maxHeartbeats 4000000 in
theorem rfields_5 (base b : Nat) (v : Value) (bs : List UInt8) (s : St) (w : World) (hbl : bs.length ≤ 1099511627776) (h : Qs w base b v bs s) (hK : (oS bs 6 s).1 = 5) :
    Calls Tryz.prog 75 #[.pointer (some ⟨b, 0, none⟩)] w fun e w' => ∃ va, e = .returned (.agg (fcells (fieldsP bs 5 (oS bs 6 s).2).1 va).toArray) ∧ WOwnS w' w.heap.size va (fieldsP bs 5 (oS bs 6 s).2).1.args ∧ Qs w' base b v bs (fieldsP bs 5 (oS bs 6 s).2).2 ∧ w.grownBy w' (some b) := by
  obtain ⟨n, HN⟩ : ∃ n, Hid (w.heap.size = n) := ⟨_, rfl⟩
  have HW := hid (below_walk w (.cells (fcells zF nS).toArray 65))
  have HM := hid (hp_new w (.cells (fcells zF nS).toArray 65))
  have HFD := hid (h.below HW.out)
  have HBn : Hid (b < n) := hid (HN.out ▸ h.lt)
  have HLEN := hid hbl
  have HVW := hid h.own
  have HK := hid hK
  clear h hK
  go_enter Tryz.func75, Tryz.ntmps75
  go_upto_region 1 with (refine al_row (by rfl) 65 (by rfl) _ zeroFrame ?_)
  have HG0 := hid (below_gb HW.out (some b))
  generalize w.alloc (.cells (fcells zF nS).toArray 65) = w0 at HW HM HFD HG0 ⊢
  rw [HN.out] at HM ⊢
  go_wp2_with fail
  refine (qs_some base b v bs s 6 w0 (by omega) HFD.out).mono ?_
  rintro e x ⟨rfl, hfx, hgx⟩
  rw [show ((oS bs 6 s).1 : Int) = 5 by rw [HK.out]; rfl]
  have HFx := hid hfx
  have HMx := hid (gb_keep hgx HM.out (by have := HBn.out; omega))
  have HGx := hid (gb_trans HG0.out hgx)
  clear hfx hgx HFD HM HG0 HW
  go_upto_region 2 with (first
    | (refine bd_row (by rfl) 65 #[(0, .tmp 7)] (by rfl) _ (by simp [Act.eval]) _ built_k5 ?_)
    | (refine al_row (by rfl) 65 (by rfl) _ zeroFrame ?_)
    | (refine st_new (by rfl) 65 _ _ (by rfl) (fcells (kF 5) nS) (by rfl) (by rfl) 65 _ (frame_size (kF 5) nS rfl) rfl (fcells_one (kF 5) nS rfl) ?_))
  have HWx := hid (below_walk x (.cells (fcells (kF 5) nS).toArray 65))
  have HFD := hid (HFx.out.below HWx.out)
  have HM0 := hid (bel_keep HWx.out HMx.out)
  have HG := hid (gb_trans HGx.out (below_gb HWx.out (some b)))
  have HA0 := hid (show (x.alloc (.cells (fcells (kF 5) nS).toArray 65)).heap[x.heap.size]? = some (.cells (fcells (⟨5, 0, 0, 0, z32f, 0, (0, 0, 0), [], []⟩ : Fr) nS).toArray 65 (0, 0)) from hp_new x _)
  have HVO := hid HFx.out.own
  have HVN : Hid (∀ k, v.ownBlock = some k → k < n) := hid (HN.out ▸ HVW.out)
  have HLn : Hid (n < x.heap.size) := hid (hp_lt HMx.out)
  have HBf : Hid (b < x.heap.size) := hid HFx.out.lt
  have HSW : Hid (w.heap.size ≤ x.heap.size) := hid HGx.out.size
  obtain ⟨fb, HFb⟩ : ∃ n, Hid (x.heap.size = n) := ⟨_, rfl⟩
  rw [HFb.out] at HA0 HVO HLn HBf HSW ⊢
  generalize x.alloc (.cells (fcells (kF 5) nS).toArray 65) = w1 at HWx HFD HM0 HG HA0 ⊢
  clear HFx HMx HGx HWx HFb
  have k0 : w1.cell? ⟨fb, 0, none⟩ = some (.int .i64 5) := (Fb.of HA0.out rfl).k
  obtain ⟨FF, HFF⟩ : ∃ L, Hid (fcells (⟨5, 0, 0, 0, z32f, 0, (0, 0, 0), [], []⟩ : Fr) nS = L) := ⟨_, rfl⟩
  have HSZ := hid (frame_size (⟨5, 0, 0, 0, z32f, 0, (0, 0, 0), [], []⟩ : Fr) nS rfl)
  have HON := hid (fcells_one (⟨5, 0, 0, 0, z32f, 0, (0, 0, 0), [], []⟩ : Fr) nS rfl)
  have HOS := hid (show (fcells zF nS).toArray.size = (fcells (⟨5, 0, 0, 0, z32f, 0, (0, 0, 0), [], []⟩ : Fr) nS).length by rw [fcells_length _ _ rfl]; rfl)
  rw [HFF.out] at HA0 HSZ HON HOS
  go_wp2_with (first
    | (refine ld_row (by rfl) 65 (.tmp 3) (by rfl) fb (by rfl) FF 65 HA0.out _ Tryz.underlying65 rfl HSZ.out ?_)
    | (refine st_row (by rfl) 65 _ _ (by rfl) n FF (by rfl) (by rfl) 65 _ HM0.out HSZ.out HOS.out HON.out ?_; intro wz hwz))
  refine ret_row 2 65 rfl n rfl FF 65 hwz.blk _ Tryz.underlying65 rfl HSZ.out rfl ⟨nS, ?_, ?_, ?_, gb_then HG.out hwz.grown (fun j e => by injection e with e; left; have := HN.out; omega)⟩
  · rw [← HFF.out]; rfl
  · exact World.ownsRow_nil _ _ _ _
  · exact HFD.out.far hwz.grown HBn.out (fun k hk => HVN.out k hk)
end Go.Proofs.YtiibhccbbpgehabGreat

/- The document's fields, where the kind that is read is 6. -/
namespace Go.Proofs.YtiibhccbbpgehabGreat
open Go.RowKit Go.BigFrame

set_option maxRecDepth 100000 in
set_option maxHeartbeats 4000000 in
theorem rfields_6 (base b : Nat) (v : Value) (bs : List UInt8) (s : St) (w : World) (hbl : bs.length ≤ 1099511627776) (h : Qs w base b v bs s) (hK : (oS bs 6 s).1 = 6) :
    Calls Tryz.prog 75 #[.pointer (some ⟨b, 0, none⟩)] w fun e w' => ∃ va, e = .returned (.agg (fcells (fieldsP bs 6 (oS bs 6 s).2).1 va).toArray) ∧ WOwnS w' w.heap.size va (fieldsP bs 6 (oS bs 6 s).2).1.args ∧ Qs w' base b v bs (fieldsP bs 6 (oS bs 6 s).2).2 ∧ w.grownBy w' (some b) := by
  obtain ⟨n, HN⟩ : ∃ n, Hid (w.heap.size = n) := ⟨_, rfl⟩
  have HW := hid (below_walk w (.cells (fcells zF nS).toArray 65))
  have HM := hid (hp_new w (.cells (fcells zF nS).toArray 65))
  have HFD := hid (h.below HW.out)
  have HBn : Hid (b < n) := hid (HN.out ▸ h.lt)
  have HLEN := hid hbl
  have HVW := hid h.own
  have HK := hid hK
  clear h hK
  go_enter Tryz.func75, Tryz.ntmps75
  go_upto_region 1 with (refine al_row (by rfl) 65 (by rfl) _ zeroFrame ?_)
  have HG0 := hid (below_gb HW.out (some b))
  generalize w.alloc (.cells (fcells zF nS).toArray 65) = w0 at HW HM HFD HG0 ⊢
  rw [HN.out] at HM ⊢
  go_wp2_with fail
  refine (qs_some base b v bs s 6 w0 (by omega) HFD.out).mono ?_
  rintro e x ⟨rfl, hfx, hgx⟩
  rw [show ((oS bs 6 s).1 : Int) = 6 by rw [HK.out]; rfl]
  have HFx := hid hfx
  have HMx := hid (gb_keep hgx HM.out (by have := HBn.out; omega))
  have HGx := hid (gb_trans HG0.out hgx)
  clear hfx hgx HFD HM HG0 HW
  go_upto_region 2 with (first
    | (refine bd_row (by rfl) 65 #[(0, .tmp 7)] (by rfl) _ (by simp [Act.eval]) _ built_k6 ?_)
    | (refine al_row (by rfl) 65 (by rfl) _ zeroFrame ?_)
    | (refine st_new (by rfl) 65 _ _ (by rfl) (fcells (kF 6) nS) (by rfl) (by rfl) 65 _ (frame_size (kF 6) nS rfl) rfl (fcells_one (kF 6) nS rfl) ?_))
  have HWx := hid (below_walk x (.cells (fcells (kF 6) nS).toArray 65))
  have HFD := hid (HFx.out.below HWx.out)
  have HM0 := hid (bel_keep HWx.out HMx.out)
  have HG := hid (gb_trans HGx.out (below_gb HWx.out (some b)))
  have HA0 := hid (show (x.alloc (.cells (fcells (kF 6) nS).toArray 65)).heap[x.heap.size]? = some (.cells (fcells (⟨6, 0, 0, 0, z32f, 0, (0, 0, 0), [], []⟩ : Fr) nS).toArray 65 (0, 0)) from hp_new x _)
  have HVO := hid HFx.out.own
  have HVN : Hid (∀ k, v.ownBlock = some k → k < n) := hid (HN.out ▸ HVW.out)
  have HLn : Hid (n < x.heap.size) := hid (hp_lt HMx.out)
  have HBf : Hid (b < x.heap.size) := hid HFx.out.lt
  have HSW : Hid (w.heap.size ≤ x.heap.size) := hid HGx.out.size
  obtain ⟨fb, HFb⟩ : ∃ n, Hid (x.heap.size = n) := ⟨_, rfl⟩
  rw [HFb.out] at HA0 HVO HLn HBf HSW ⊢
  generalize x.alloc (.cells (fcells (kF 6) nS).toArray 65) = w1 at HWx HFD HM0 HG HA0 ⊢
  clear HFx HMx HGx HWx HFb
  have k0 : w1.cell? ⟨fb, 0, none⟩ = some (.int .i64 6) := (Fb.of HA0.out rfl).k
  go_wp2_with fail
  refine (qs_text 2097152 (by omega) (by omega) HFD.out).mono ?_
  rintro e y0 ⟨rfl, hf0, hg0⟩
  have HA := hid (gb_keep hg0 HA0.out (by have := HBf.out; omega))
  have HMn := hid (gb_keep hg0 HM0.out (by have := HBn.out; omega))
  have HGn := hid (gb_trans HG.out hg0)
  have HFn := hid hf0
  clear HFD HA0 HM0 HG hf0 hg0 k0
  have x0 := (Fb.of HA.out rfl).bd
  have z0 := row_fz HA.out 41
  have k1 : y0.cell? ⟨fb, 0, none⟩ = some (.int .i64 6) := (Fb.of HA.out rfl).k
  go_upto_region 26 with fail
  have HA0 := hid (show (y0.setCell ⟨fb, 41, none⟩ (.string (mk (tS bs 2097152 (oS bs 6 s).2).1))).heap[fb]? = some (.cells (fcells (⟨6, 0, 0, 0, z32f, 0, (0, 0, 0), [], (tS bs 2097152 (oS bs 6 s).2).1⟩ : Fr) nS).toArray 65 (0, 0)) from (blk_set HA.out _).trans (congrArg (fun a => some (Obj.cells a 65 (0, 0))) (fset_body (⟨6, 0, 0, 0, z32f, 0, (0, 0, 0), [], []⟩ : Fr) nS rfl _)))
  have HM0 := hid (show (y0.setCell ⟨fb, 41, none⟩ (.string (mk (tS bs 2097152 (oS bs 6 s).2).1))).heap[n]? = some (.cells (fcells zF nS).toArray 65 (0, 0)) from (Below.heap_setCell y0 _ _ n (by have := HLn.out; simp; omega)).trans HMn.out)
  have HG := hid (gb_then HGn.out (gb_set y0 ⟨fb, 41, none⟩ (.string (mk (tS bs 2097152 (oS bs 6 s).2).1))) (fun j e => by have e2 : fb = j := Option.some.inj e; left; have := HSW.out; omega))
  have HFD := hid (HFn.out.far (gb_set y0 ⟨fb, 41, none⟩ (.string (mk (tS bs 2097152 (oS bs 6 s).2).1))) HBf.out HVO.out)
  generalize y0.setCell ⟨fb, 41, none⟩ (.string (mk (tS bs 2097152 (oS bs 6 s).2).1)) = w2 at HA0 HM0 HG HFD ⊢
  clear HA HMn HGn HFn x0 z0 k1
  obtain ⟨FF, HFF⟩ : ∃ L, Hid (fcells (⟨6, 0, 0, 0, z32f, 0, (0, 0, 0), [], (tS bs 2097152 (oS bs 6 s).2).1⟩ : Fr) nS = L) := ⟨_, rfl⟩
  have HSZ := hid (frame_size (⟨6, 0, 0, 0, z32f, 0, (0, 0, 0), [], (tS bs 2097152 (oS bs 6 s).2).1⟩ : Fr) nS rfl)
  have HON := hid (fcells_one (⟨6, 0, 0, 0, z32f, 0, (0, 0, 0), [], (tS bs 2097152 (oS bs 6 s).2).1⟩ : Fr) nS rfl)
  have HOS := hid (show (fcells zF nS).toArray.size = (fcells (⟨6, 0, 0, 0, z32f, 0, (0, 0, 0), [], (tS bs 2097152 (oS bs 6 s).2).1⟩ : Fr) nS).length by rw [fcells_length _ _ rfl]; rfl)
  rw [HFF.out] at HA0 HSZ HON HOS
  go_wp2_with (first
    | (refine ld_row (by rfl) 65 (.tmp 3) (by rfl) fb (by rfl) FF 65 HA0.out _ Tryz.underlying65 rfl HSZ.out ?_)
    | (refine st_row (by rfl) 65 _ _ (by rfl) n FF (by rfl) (by rfl) 65 _ HM0.out HSZ.out HOS.out HON.out ?_; intro wz hwz))
  refine ret_row 2 65 rfl n rfl FF 65 hwz.blk _ Tryz.underlying65 rfl HSZ.out rfl ⟨nS, ?_, ?_, ?_, gb_then HG.out hwz.grown (fun j e => by injection e with e; left; have := HN.out; omega)⟩
  · rw [← HFF.out]; rfl
  · exact World.ownsRow_nil _ _ _ _
  · exact HFD.out.far hwz.grown HBn.out (fun k hk => HVN.out k hk)
end Go.Proofs.YtiibhccbbpgehabGreat

/- What may be, of fields that were read without a fault, plainly. -/
namespace Go.Proofs.YtiibhccbbpgehabGreat
open Go.RowKit

theorem lstR_each : ∀ (n : Nat) (l : List UInt8) (each k : Nat) (ts : List (List UInt8)), lstR n l each = (0, ts, k) → ∀ t ∈ ts, t.length ≤ each
  | 0, l, each, k, ts, h => by
    intro t ht
    have e : lstR 0 l each = (0, [], 0) := rfl
    rw [e] at h
    simp only [Prod.mk.injEq, true_and] at h
    rw [← h.1] at ht
    cases ht
  | n + 1, l, each, k, ts, h => by
    intro t ht
    rw [lstR_succ] at h
    split at h
    · rename_i g
      simp only [Prod.mk.injEq] at h
      exact absurd h.1 g
    · rename_i g
      split at h
      · rename_i g2
        simp only [Prod.mk.injEq] at h
        exact absurd h.1 g2
      · rename_i g2
        obtain ⟨E, s, k1, hs⟩ : ∃ E s k1, wtxt l each = (E, s, k1) := ⟨_, _, _, rfl⟩
        obtain ⟨E2, r, k2, hr⟩ : ∃ E s k1, lstR n (l.drop (wtxt l each).2.2) each = (E, s, k1) := ⟨_, _, _, rfl⟩
        have hE : E = 0 := by rw [hs] at g; simpa using g
        have hE2 : E2 = 0 := by rw [hr] at g2; simpa using g2
        subst hE hE2
        rw [hr, hs] at h
        simp only [Prod.mk.injEq, true_and] at h
        rw [← h.1] at ht
        rcases List.mem_cons.1 ht with rfl | ht
        · exact (txt_ok hs).2.2.1
        · exact lstR_each n _ each k2 r hr t ht
theorem l_bound (bs : List UInt8) (s : St) (h : (lS bs 8 4096 s).2.2.1 = 0) : (lS bs 8 4096 s).1.length ≤ 8 ∧ longA (lS bs 8 4096 s).1 = false := by
  by_cases h0 : s.2.1 = 0
  · obtain ⟨E, ts, k, hd⟩ : ∃ E n9 k, lst (bs.drop s.1) 8 4096 = (E, n9, k) := ⟨_, _, _, rfl⟩
    by_cases hE : E = 0
    · subst hE
      have e1 : (lS bs 8 4096 s).1 = ts := by
        unfold lS listF
        rw [if_neg (fun h9 => h9 h0), if_neg (by omega), show (8 : Int).toNat = 8 from rfl, show (4096 : Int).toNat = 4096 from rfl, hd, if_neg (fun h9 => h9 rfl)]
      rw [e1]
      unfold lst at hd
      obtain ⟨E3, n, k3, hu⟩ : ∃ E n k, upTo (bs.drop s.1) 8 11 = (E, n, k) := ⟨_, _, _, rfl⟩
      rw [hu] at hd
      simp only at hd
      by_cases hE3 : E3 = 0
      · subst hE3
        rw [if_neg (fun h9 => h9 rfl)] at hd
        obtain ⟨E4, r, k4, hr⟩ : ∃ E r k, lstR n ((bs.drop s.1).drop k3) 4096 = (E, r, k) := ⟨_, _, _, rfl⟩
        rw [hr] at hd
        simp only [Prod.mk.injEq] at hd
        obtain ⟨hE4, hts, _⟩ := hd
        subst hE4 hts
        have h8 := (upTo_ok (by decide) hu).2
        have h9 := (lstR_ok n _ 4096 k4 r hr).1
        refine ⟨by omega, ?_⟩
        unfold longA
        rw [List.any_eq_false]
        intro t ht
        have := lstR_each n _ 4096 k4 r hr t ht
        simp
        omega
      · rw [if_pos hE3] at hd
        simp only [Prod.mk.injEq] at hd
        exact absurd hd.1 hE3
    · exfalso
      unfold lS listF at h
      rw [if_neg (fun h9 => h9 h0), if_neg (by omega), show (8 : Int).toNat = 8 from rfl, show (4096 : Int).toNat = 4096 from rfl, hd, if_pos hE] at h
      have : (E : Int) = 0 := h
      omega
  · rw [over_l bs 8 4096 s h0] at h
    exact absurd h h0
/-- what the document asks of fields that were read: nothing but of a response -/
theorem may_fields (bs : List UInt8) (K : Nat) (s : St) (hK : 1 ≤ K ∧ K ≤ 6) (he : (eS bs (fieldsP bs (K : Int) s).2).1 = 0) :
    mayF (fieldsP bs (K : Int) s).1 = !decide (K = 3 ∧ (fieldsP bs (K : Int) s).1.status ≠ 1 ∧ (fieldsP bs (K : Int) s).1.body ≠ []) := by
  obtain ⟨e1, e2⟩ := e_form bs _ he
  have hc : K = 1 ∨ K = 2 ∨ K = 3 ∨ K = 4 ∨ K = 5 ∨ K = 6 := by omega
  rcases hc with rfl | rfl | rfl | rfl | rfl | rfl
  · rw [show ((1 : Nat) : Int) = 1 from rfl] at e1 ⊢
    rw [decide_eq_false (by omega), mayF_1 _ (fieldsP_kind bs 1 s (by omega)), fieldsP_1]
    rw [fieldsP_1] at e1
    obtain ⟨a1, a2, a3⟩ := r_form bs _ e1
    obtain ⟨b1, b2, b3⟩ := o_form bs 64 _ (by omega) a1
    obtain ⟨c1, c2, c3⟩ := o_form bs 1 _ (by omega) b1
    have d1 := oS_le bs 1 s (by omega)
    have d2 := oS_le bs 64 (oS bs 1 s).2 (by omega)
    refine decide_eq_true ⟨?_, ?_, ?_⟩
    · show ((oS bs 1 s).1 : Int) = 1
      omega
    · show (1 : Int) ≤ ((oS bs 64 (oS bs 1 s).2).1 : Int)
      omega
    · show ((oS bs 64 (oS bs 1 s).2).1 : Int) ≤ 64
      omega
  · rw [show ((2 : Nat) : Int) = 2 from rfl] at e1 ⊢
    rw [decide_eq_false (by omega), mayF_2 _ (fieldsP_kind bs 2 s (by omega)), fieldsP_2]
    rw [fieldsP_2] at e1
    obtain ⟨a1, a2⟩ := t_form bs 2097152 _ (by omega) e1
    obtain ⟨l1, l2⟩ := l_bound bs _ a1
    refine decide_eq_true ⟨?_, ?_, ?_, l1, l2⟩
    · simp [reqF]
    · simp [reqF]
    · simp [reqF]
  · rw [show ((3 : Nat) : Int) = 3 from rfl] at e1 ⊢
    rw [mayF_3 _ (fieldsP_kind bs 3 s (by omega)), fieldsP_3]
    rw [fieldsP_3] at e1
    obtain ⟨a1, a2⟩ := t_form bs 2097152 _ (by omega) e1
    obtain ⟨b1, b2, b3⟩ := o_form bs 3 _ (by omega) a1
    have d1 := oS_le bs 3 (uS bs s).2 (by omega)
    unfold mayResP
    simp only [resF]
    generalize (oS bs 3 (uS bs s).2).1 = X at *
    generalize (tS bs 2097152 (oS bs 3 (uS bs s).2).2).1 = Y at *
    by_cases hY : Y = []
    · have : X = 1 ∨ X = 2 ∨ X = 3 := by omega
      rcases this with rfl | rfl | rfl <;> simp [hY]
    · have : X = 1 ∨ X = 2 ∨ X = 3 := by omega
      rcases this with rfl | rfl | rfl <;> simp [hY]
  · rw [show ((4 : Nat) : Int) = 4 from rfl] at e1 ⊢
    rw [decide_eq_false (by omega), mayF_4 _ (fieldsP_kind bs 4 s (by omega))]
    rfl
  · rw [show ((5 : Nat) : Int) = 5 from rfl] at e1 ⊢
    rw [decide_eq_false (by omega), mayF_5 _ (fieldsP_kind bs 5 s (by omega))]
    rfl
  · rw [show ((6 : Nat) : Int) = 6 from rfl] at e1 ⊢
    rw [decide_eq_false (by omega), mayF_6 _ (fieldsP_kind bs 6 s (by omega))]
    rfl
end Go.Proofs.YtiibhccbbpgehabGreat

/- Toward the document's Decode. -/
namespace Go.Proofs.YtiibhccbbpgehabGreat
open Go.RowKit Go.BigFrame

def fldP (bs : List UInt8) (s : St) : Fr × St := if (oS bs 6 s).1 = 0 then (kF 0, (oS bs 6 s).2) else fieldsP bs ((oS bs 6 s).1 : Int) (oS bs 6 s).2
theorem rfields_any (base b : Nat) (v : Value) (bs : List UInt8) (s : St) (w : World) (hbl : bs.length ≤ 1099511627776) (h : Qs w base b v bs s) :
    Calls Tryz.prog 75 #[.pointer (some ⟨b, 0, none⟩)] w fun e w' => ∃ va, e = .returned (.agg (fcells (fldP bs s).1 va).toArray) ∧ WOwnS w' w.heap.size va (fldP bs s).1.args ∧ Qs w' base b v bs (fldP bs s).2 ∧ w.grownBy w' (some b) := by
  have hle := oS_le bs 6 s (by omega)
  have hc : (oS bs 6 s).1 = 0 ∨ (oS bs 6 s).1 = 1 ∨ (oS bs 6 s).1 = 2 ∨ (oS bs 6 s).1 = 3 ∨ (oS bs 6 s).1 = 4 ∨ (oS bs 6 s).1 = 5 ∨ (oS bs 6 s).1 = 6 := by omega
  unfold fldP
  rcases hc with k | k | k | k | k | k | k
  · rw [if_pos k]
    exact rfields_0 base b v bs s w hbl h k
  · rw [if_neg (by omega), k, show ((1 : Nat) : Int) = 1 from rfl]
    exact rfields_1 base b v bs s w hbl h k
  · rw [if_neg (by omega), k, show ((2 : Nat) : Int) = 2 from rfl]
    exact rfields_2 base b v bs s w hbl h k
  · rw [if_neg (by omega), k, show ((3 : Nat) : Int) = 3 from rfl]
    exact rfields_3 base b v bs s w hbl h k
  · rw [if_neg (by omega), k, show ((4 : Nat) : Int) = 4 from rfl]
    exact rfields_4 base b v bs s w hbl h k
  · rw [if_neg (by omega), k, show ((5 : Nat) : Int) = 5 from rfl]
    exact rfields_5 base b v bs s w hbl h k
  · rw [if_neg (by omega), k, show ((6 : Nat) : Int) = 6 from rfl]
    exact rfields_6 base b v bs s w hbl h k
/-- the fault at the end, and the frame -/
theorem frameP_fld (bs : List UInt8) (head : Nat) : frameP bs head = if (eS bs (fldP bs (head, 0, 0)).2).1 ≠ 0 then (zF, eS bs (fldP bs (head, 0, 0)).2) else if (fldP bs (head, 0, 0)).1.kind = 3 ∧ (fldP bs (head, 0, 0)).1.status ≠ 1 ∧ (fldP bs (head, 0, 0)).1.body ≠ [] then (zF, 70, (head : Int)) else ((fldP bs (head, 0, 0)).1, 0, 0) := by
  have hle := oS_le bs 6 (head, 0, 0) (by omega)
  unfold fldP
  by_cases h0 : (oS bs 6 (head, 0, 0)).1 = 0
  · rw [if_pos h0, frameP_zero bs head h0]
    have h1 := oS_zero bs 6 _ h0
    rw [if_pos]
    intro h2
    exact h1 (e_form bs _ h2).1
  · rw [if_neg h0]
    obtain ⟨K, hK⟩ : ∃ K, (oS bs 6 (head, 0, 0)).1 = K := ⟨_, rfl⟩
    rw [hK] at h0 hle ⊢
    by_cases he : (eS bs (fieldsP bs (K : Int) (oS bs 6 (head, 0, 0)).2).2).1 = 0
    · rw [if_neg (fun h9 => h9 he)]
      have hm := may_fields bs K (oS bs 6 (head, 0, 0)).2 (by omega) he
      have hkd := fieldsP_kind bs (K : Int) (oS bs 6 (head, 0, 0)).2 (by omega)
      by_cases hb : K = 3 ∧ (fieldsP bs (K : Int) (oS bs 6 (head, 0, 0)).2).1.status ≠ 1 ∧ (fieldsP bs (K : Int) (oS bs 6 (head, 0, 0)).2).1.body ≠ []
      · rw [decide_eq_true hb] at hm
        rw [if_pos (by rw [hkd]; exact ⟨by omega, hb.2⟩), frameP_may bs head K hK h0 he hm]
      · rw [decide_eq_false hb] at hm
        rw [if_neg (by rw [hkd]; rintro ⟨h1, h2⟩; exact hb ⟨by omega, h2⟩), frameP_ok bs head K hK h0 he hm]
    · rw [if_pos he, frameP_bad bs head K hK h0 he]
theorem fldP_tool (bs : List UInt8) (s : St) : (fldP bs s).1.tool.length = 32 := by
  unfold fldP
  split
  · rfl
  · exact fieldsP_tool _ _ _
theorem qs_end (base b : Nat) (v : Value) (bs : List UInt8) (s : St) (w : World) (h : Qs w base b v bs s) :
    Calls Tryz.prog 76 #[.pointer (some ⟨b, 0, none⟩)] w fun e w' => e = .returned (.tuple #[.int .i64 (eS bs s).1, .int .i64 (eS bs s).2]) ∧ w.grownBy w' (some b) := by
  obtain ⟨a, why, wat⟩ := s
  by_cases hm : why = 0 ∧ a < bs.length
  · obtain ⟨rfl, hlt⟩ := hm
    have e : eS bs (a, 0, wat) = (6, (a : Int)) := by unfold eS; rw [if_neg (by simp), if_pos hlt]
    rw [e]
    exact (qend_more (h := h) (hlt := hlt)).mono fun _ _ ⟨h1, _, h3⟩ => ⟨h1, h3⟩
  · have hi : why ≠ 0 ∨ a = bs.length := by
      by_cases h9 : why = 0
      · have h8 : a ≤ bs.length := Qd.le h
        exact Or.inr (by have : ¬ a < bs.length := fun h => hm ⟨h9, h⟩; omega)
      · exact Or.inl h9
    have e : eS bs (a, why, wat) = (why, wat) := by
      unfold eS
      by_cases h9 : why = 0
      · rw [if_neg (by simpa using h9), if_neg (fun h => hm ⟨h9, h⟩)]
      · rw [if_pos h9]
    rw [e]
    exact (qend_idle (h := h) (hidle := hi)).mono fun _ _ ⟨h1, _, h3⟩ => ⟨h1, h3⟩

end Go.Proofs.YtiibhccbbpgehabGreat

/- The document's Decode. -/
namespace Go.Proofs.YtiibhccbbpgehabGreat
open Go.RowKit Go.BigFrame

set_option maxRecDepth 100000 in
set_option maxHeartbeats 8000000 in
theorem rdecode_any (v0 : Value) (bs : List UInt8) (w : World) (hs : Src w v0 bs) :
    Calls Tryz.prog 65 #[v0] w fun e w' => ∃ va, e = .returned (.tuple #[.agg (fcells (decP bs).1 va).toArray, .int .i64 (decP bs).2.1, .int .i64 (decP bs).2.2]) ∧ WOwnS w' w.heap.size va (decP bs).1.args ∧ Below w.heap.size w w' := by
  obtain ⟨av, cv, rfl⟩ := src_shape hs
  obtain ⟨A, HAA⟩ : ∃ n, Hid (w.heap.size = n) := ⟨_, rfl⟩
  have HBA := hid (below_walk w (.cells (fcells zF nS).toArray 65))
  have HNA := hid (hp_new w (.cells (fcells zF nS).toArray 65))
  have HSA : Hid ((w.alloc (.cells (fcells zF nS).toArray 65)).heap.size = w.heap.size + 1) := hid (by simp)
  have HSS := hid hs
  have HDU := hid (decP_uns bs)
  have hsl := hs.1
  obtain ⟨n, Hn⟩ : ∃ n, Hid ((needP bs).1 = n) := ⟨_, rfl⟩
  obtain ⟨hd, Hhd⟩ : ∃ n, Hid ((needP bs).2.1 = n) := ⟨_, rfl⟩
  obtain ⟨er, Her⟩ : ∃ n, Hid ((needP bs).2.2 = n) := ⟨_, rfl⟩
  obtain ⟨L, HL⟩ : ∃ n, Hid (bs.length = n) := ⟨_, rfl⟩
  have HUE : Hid (unsE bs = if er ≠ 0 then ((er : Int), 0) else if n = 0 ∨ L < n then (4, (L : Int)) else if n < L then (6, (n : Int)) else if cokP bs = true then (0, 0) else (71, (n : Int) - 4)) := hid (by unfold unsE; rw [Hn.out, Her.out, HL.out])
  have HIN : Hid (er = 0 → n ≠ 0 → L = n → (∃ N, uS (bs.take (bs.length - 4)) (0, 0, 0) = (N, hd, 0, 0)) ∧ 4 ≤ n ∧ n ≤ 3000000) := hid (by
    intro h1 h2 h3
    refine ⟨?_, ?_⟩
    · have := inner_head (b := bs) (by rw [Her.out]; exact h1) (by rw [Hn.out]; exact h2) (by rw [HL.out, Hn.out]; exact h3)
      rw [Hhd.out] at this
      exact this
    · obtain ⟨N, hd9, hN1, hN2, hn⟩ := need_ok (b := bs) (by rw [Her.out]; exact h1) (by rw [Hn.out]; exact h2)
      have := dec_ok_len hd9
      have h8 := sn_length_le N
      rw [Hn.out] at hn
      omega)
  rw [HL.out] at hsl
  clear hs
  go_enter Tryz.func65, Tryz.ntmps65
  go_upto_region 1 with (refine al_row (by rfl) 65 (by rfl) _ zeroFrame ?_)
  generalize w.alloc (.cells (fcells zF nS).toArray 65) = wA at HBA HNA HSA ⊢
  rw [HAA.out] at HNA HSA ⊢
  go_upto_region 2 with (first
    | (refine bd_row (by rfl) 65 #[] (by rfl) _ (by simp) _ built_zf ?_)
    | (refine al_row (by rfl) 65 (by rfl) _ zeroFrame ?_)
    | (refine st_new (by rfl) 65 _ _ (by rfl) (fcells zF nS) (by rfl) (by rfl) 65 _ (frame_size zF nS rfl) rfl (fcells_one zF nS rfl) ?_))
  have HW0 := hid (below_walk wA (.cells (fcells zF nS).toArray 65))
  have HNB0 := hid (bel_keep HW0.out HNA.out)
  have HNB1 := hid (hp_new wA (.cells (fcells zF nS).toArray 65))
  have HB0 := hid (below_then HBA.out HW0.out)
  have HS0 := hid (HSS.out.below HB0.out)
  rw [HSA.out] at HNB1 ⊢
  generalize wA.alloc (.cells (fcells zF nS).toArray 65) = w0 at HB0 HNB0 HNB1 HS0 HW0 ⊢
  have HNE := hid (rneed_any _ bs w0 HS0.out)
  rw [Hn.out, Hhd.out, Her.out, HL.out] at HNE
  rw [HL.out]
  clear HW0 HNA HBA HSA HSS
  go_wp2_with fail
  refine HNE.out.mono ?_
  rintro e w1 ⟨rfl, hb1⟩
  have HZ0 := hid (bel_keep hb1 HNB0.out)
  have HZ1 := hid (bel_keep hb1 HNB1.out)
  have HS1 := hid (HS0.out.below hb1)
  have HBB := hid (below_then HB0.out hb1)
  clear hb1 HNB0 HNB1 HS0 HB0 HNE
  by_cases h1 : er ≠ 0
  · as_aux_lemma =>
      have q1 : ((er : Int) != 0) = true := by simp; omega
      have q2 : ((er : Int) == 0) = false := by simp; omega
      rw [if_pos h1] at HUE
      have HDP := hid (show decP bs = (zF, (er : Int), 0) by rw [HDU.out, HUE.out, if_pos (by show (er : Int) ≠ 0; omega)])
      clear h1
      go_wp2_with (first
        | (refine ld_row (by rfl) 65 (.tmp 5) (by rfl) (A + 1) (by rfl) (fcells zF nS) 65 HZ1.out _ Tryz.underlying65 rfl (frame_size zF nS rfl) ?_)
        | (refine st_row (by rfl) 65 _ _ (by rfl) A (fcells zF nS) (by rfl) (by rfl) 65 _ HZ0.out (frame_size zF nS rfl) rfl (fcells_one zF nS rfl) ?_; intro wz hwz))
      refine ret_row3 2 3 4 65 rfl A rfl (fcells zF nS) 65 hwz.blk _ Tryz.underlying65 rfl (frame_size zF nS rfl) _ _ rfl rfl rfl ?_
      rw [HDP.out]
      exact ⟨nS, rfl, World.ownsRow_nil _ _ _ _, Below.of_gb HBB.out hwz.grown (by have := HAA.out; omega)⟩
  · obtain rfl : er = 0 := by omega
    rw [if_neg h1] at HUE
    clear h1
    by_cases h2 : n = 0 ∨ L < n
    · as_aux_lemma =>
        rw [if_pos h2] at HUE
        have HDP := hid (show decP bs = (zF, 4, (L : Int)) by rw [HDU.out, HUE.out, if_pos (by show (4 : Int) ≠ 0; decide)])
        by_cases h3 : n = 0
        · subst h3
          clear h2
          go_wp2_with (first
            | (refine ld_row (by rfl) 65 (.tmp 5) (by rfl) (A + 1) (by rfl) (fcells zF nS) 65 HZ1.out _ Tryz.underlying65 rfl (frame_size zF nS rfl) ?_)
            | (refine st_row (by rfl) 65 _ _ (by rfl) A (fcells zF nS) (by rfl) (by rfl) 65 _ HZ0.out (frame_size zF nS rfl) rfl (fcells_one zF nS rfl) ?_; intro wz hwz))
          refine ret_row3 2 3 4 65 rfl A rfl (fcells zF nS) 65 hwz.blk _ Tryz.underlying65 rfl (frame_size zF nS rfl) _ _ rfl rfl rfl ?_
          rw [HDP.out]
          exact ⟨nS, rfl, World.ownsRow_nil _ _ _ _, Below.of_gb HBB.out hwz.grown (by have := HAA.out; omega)⟩
        · have q1 : ((n : Int) == 0) = false := by simp; omega
          have q2 : ¬ (n : Int) = 0 := by omega
          have q3 : (L : Int) < (n : Int) := by omega
          have q4 : decide ((L : Int) < (n : Int)) = true := decide_eq_true q3
          clear h2 h3
          go_wp2_with (first
            | (refine ld_row (by rfl) 65 (.tmp 5) (by rfl) (A + 1) (by rfl) (fcells zF nS) 65 HZ1.out _ Tryz.underlying65 rfl (frame_size zF nS rfl) ?_)
            | (refine st_row (by rfl) 65 _ _ (by rfl) A (fcells zF nS) (by rfl) (by rfl) 65 _ HZ0.out (frame_size zF nS rfl) rfl (fcells_one zF nS rfl) ?_; intro wz hwz))
          refine ret_row3 2 3 4 65 rfl A rfl (fcells zF nS) 65 hwz.blk _ Tryz.underlying65 rfl (frame_size zF nS rfl) _ _ rfl rfl rfl ?_
          rw [HDP.out]
          exact ⟨nS, rfl, World.ownsRow_nil _ _ _ _, Below.of_gb HBB.out hwz.grown (by have := HAA.out; omega)⟩
    · rw [if_neg h2] at HUE
      have h3 : n ≠ 0 := fun h => h2 (Or.inl h)
      have h4 : ¬ L < n := fun h => h2 (Or.inr h)
      have q1 : ((n : Int) == 0) = false := by simp; omega
      have q2 : ¬ (n : Int) = 0 := by omega
      have q3 : ¬ (L : Int) < (n : Int) := by omega
      have q4 : decide ((L : Int) < (n : Int)) = false := decide_eq_false q3
      clear h2
      by_cases h6 : n < L
      · as_aux_lemma =>
          rw [if_pos h6] at HUE
          have HDP := hid (show decP bs = (zF, 6, (n : Int)) by rw [HDU.out, HUE.out, if_pos (by show (6 : Int) ≠ 0; decide)])
          have q5 : (n : Int) < (L : Int) := by omega
          have q6 : decide ((n : Int) < (L : Int)) = true := decide_eq_true q5
          clear h3 h4 h6
          go_wp2_with (first
            | (refine ld_row (by rfl) 65 (.tmp 5) (by rfl) (A + 1) (by rfl) (fcells zF nS) 65 HZ1.out _ Tryz.underlying65 rfl (frame_size zF nS rfl) ?_)
            | (refine st_row (by rfl) 65 _ _ (by rfl) A (fcells zF nS) (by rfl) (by rfl) 65 _ HZ0.out (frame_size zF nS rfl) rfl (fcells_one zF nS rfl) ?_; intro wz hwz))
          refine ret_row3 2 3 4 65 rfl A rfl (fcells zF nS) 65 hwz.blk _ Tryz.underlying65 rfl (frame_size zF nS rfl) _ _ rfl rfl rfl ?_
          rw [HDP.out]
          exact ⟨nS, rfl, World.ownsRow_nil _ _ _ _, Below.of_gb HBB.out hwz.grown (by have := HAA.out; omega)⟩
      · rw [if_neg h6] at HUE
        have q5 : ¬ (n : Int) < (L : Int) := by omega
        have q6 : decide ((n : Int) < (L : Int)) = false := decide_eq_false q5
        obtain ⟨⟨N, hu⟩, hn4, hn3⟩ := HIN.out rfl h3 (by omega)
        have HOP := hid (ropen_any w1 _ bs HS1.out (by rw [HL.out]; omega))
        rw [HL.out] at HOP
        obtain ⟨D, HD⟩ : ∃ d : Int, Hid ((n : Int) - 4 = d) := ⟨_, rfl⟩
        rw [HD.out] at HUE
        have wD : IntKind.i64.wrap ((n : Int) - 4) = D := by rw [IntKind.wrap_i64, ← HD.out]; omega
        have HLn : Hid (L = n) := hid (by omega)
        clear h3 h4 h6 hu
        go_wp2_with fail
        refine HOP.out.mono ?_
        rintro e w2 ⟨he, hb2⟩
        have HZ0b := hid (bel_keep hb2 HZ0.out)
        have HZ1b := hid (bel_keep hb2 HZ1.out)
        have HBb := hid (below_then HBB.out hb2)
        clear HZ0 HZ1 HBB
        have HZ0 := hid HZ0b.out
        have HZ1 := hid HZ1b.out
        have HBB := hid HBb.out
        clear HZ0b HZ1b HBb
        by_cases hc : cokP bs = true
        · rw [if_pos hc] at HUE
          rw [if_pos hc] at he
          obtain ⟨v', rfl, ho⟩ := he
          obtain ⟨P, HP⟩ : ∃ p, Hid (bs.take (bs.length - 4) = p) := ⟨_, rfl⟩
          have HDF := hid (show decP bs = frameP P hd by rw [HDU.out, HUE.out, if_neg (by simp), HP.out, Hhd.out])
          have HPL : Hid (P.length + 4 = n) := hid (by rw [← HP.out, List.length_take, HL.out]; have := HLn.out; omega)
          have HHD : Hid (hd ≤ P.length) := hid (by
            obtain ⟨N9, hd9, _, _, hn9⟩ := need_ok (b := bs) Her.out (by rw [Hn.out]; omega)
            rw [Hn.out, Hhd.out] at hn9
            have := HPL.out
            omega)
          rw [HP.out] at ho
          have hs2 := ho.src (by have := HPL.out; omega)
          obtain ⟨ao, no, co, eo⟩ := src_named hs2
          have HQN := hid (qnew_any _ P w2 hs2)
          subst eo
          clear hc ho hs2 hb2 HOP HDU HUE HIN HS1
          as_aux_lemma =>
            go_wp2_with fail
            refine HQN.out.mono ?_
            rintro e w3 ⟨vr, rfl, hor, hb3⟩
            obtain ⟨aR, cR, eR⟩ := hor.shape
            have HW3 := hid (below_walk w3 (.cells #[vr, .int .i64 0, .int .i64 0, .int .i64 0] 130))
            have HB3 := hid (below_then HBB.out hb3)
            have HLr : Hid (w2.heap.size ≤ w3.heap.size) := hid hb3.size
            have HZ0b := hid (bel_keep HW3.out (bel_keep hb3 HZ0.out))
            have HZ1b := hid (bel_keep HW3.out (bel_keep hb3 HZ1.out))
            have HQ0 := hid (show Qd (w3.alloc (.cells #[vr, .int .i64 0, .int .i64 0, .int .i64 0] 130)) w2.heap.size w3.heap.size vr P 0 0 0 from ⟨HLr.out, hp_new w3 _, hor.below HW3.out, fun e => by have := (hor.lt _ e).2; omega, Nat.zero_le _⟩)
            have HB4 := hid (below_then HB3.out HW3.out)
            have HLA : Hid (A + 2 ≤ w3.heap.size) := hid (by have := hp_lt HZ1.out; have := HLr.out; omega)
            subst eR
            obtain ⟨LP, HLP⟩ : ∃ n, Hid (P.length = n) := ⟨_, rfl⟩
            rw [HLP.out] at HQ0 HW3 HZ0b HZ1b HB4 ⊢
            clear hor hb3 HQN HZ0 HZ1 HBB HB3
            go_upto_region 13 with fail
            obtain ⟨rb, HRb⟩ : ∃ n, Hid (w3.heap.size = n) := ⟨_, rfl⟩
            rw [HRb.out] at HQ0 HLA HLr ⊢
            generalize w3.alloc (.cells #[.slice aR LP cR, .int .i64 0, .int .i64 0, .int .i64 0] 130) = w4 at HQ0 HW3 HZ0b HZ1b HB4 ⊢
            have c1 := Qd.c1 HQ0.out
            have f1 := Qd.fz HQ0.out 1
            go_upto_region 14 with fail
            have HQ1 := hid (show Qs (w4.setCell ⟨rb, 1, none⟩ (.int .i64 (hd : Nat))) w2.heap.size rb (.slice aR LP cR) P (hd, 0, 0) from Qd.setAt HQ0.out hd HHD.out)
            have HG5 := hid (show w4.grownBy (w4.setCell ⟨rb, 1, none⟩ (.int .i64 (hd : Nat))) (some rb) from gb_set w4 ⟨rb, 1, none⟩ (.int .i64 (hd : Nat)))
            generalize w4.setCell ⟨rb, 1, none⟩ (.int .i64 (hd : Nat)) = w5 at HQ1 HG5 ⊢
            have HZ0c := hid (gb_keep HG5.out HZ0b.out (by have := HLA.out; omega))
            have HZ1c := hid (gb_keep HG5.out HZ1b.out (by have := HLA.out; omega))
            have HB5 := hid (Below.of_gb HB4.out HG5.out (by have := HLA.out; have := HAA.out; omega))
            clear c1 f1 HQ0 HZ0b HZ1b HB4 HG5 HW3
            go_wp2_with fail
            refine (rfields_any w2.heap.size rb _ P (hd, 0, 0) w5 (by rw [HLP.out]; have := HPL.out; rw [HLP.out] at this; omega) HQ1.out).mono ?_
            rintro e w6 ⟨va, rfl, hoa, hq6, hg6⟩
            have HZ0d := hid (gb_keep hg6 HZ0c.out (by have := HLA.out; omega))
            have HZ1d := hid (gb_keep hg6 HZ1c.out (by have := HLA.out; omega))
            have HB6 := hid (Below.of_gb HB5.out hg6 (by have := HLA.out; have := HAA.out; omega))
            have HFF := hid (frameP_fld P hd)
            have HTL := hid (fldP_tool P (hd, 0, 0))
            obtain ⟨f, HF⟩ : ∃ x, Hid ((fldP P (hd, 0, 0)).1 = x) := ⟨_, rfl⟩
            obtain ⟨S2, HS2⟩ : ∃ x, Hid ((fldP P (hd, 0, 0)).2 = x) := ⟨_, rfl⟩
            obtain ⟨E1, HE1⟩ : ∃ x, Hid ((eS P S2).1 = x) := ⟨_, rfl⟩
            obtain ⟨E2, HE2⟩ : ∃ x, Hid ((eS P S2).2 = x) := ⟨_, rfl⟩
            rw [HF.out, HS2.out] at HFF
            rw [HF.out] at hoa HTL
            rw [HS2.out] at hq6
            have HQ6 := hid hq6
            obtain ⟨aV, cV, eV⟩ := wowns_shape hoa
            have HOA := hid hoa
            have HSZ := hid (frame_size f va HTL.out)
            have HON := hid (fcells_one f va (by rw [eV]; rfl))
            have HOS := hid (show (fcells zF nS).toArray.size = (fcells f va).length by rw [fcells_length _ _ HTL.out]; rfl)
            rw [HF.out]
            obtain ⟨GG, HGG⟩ : ∃ L, Hid (fcells f va = L) := ⟨_, rfl⟩
            have HGK := hid (fun (W : World) (g9 : Nat) (h9 : W.heap[g9]? = some (.cells GG.toArray 65 (0, 0))) => Fb.of (f := f) (va := va) (by rw [HGG.out]; exact h9) HTL.out)
            rw [HGG.out] at HSZ HON HOS ⊢
            have HL6 : Hid (rb < w6.heap.size) := hid (Qs.lt hq6)
            have HRW : Hid (rb < w5.heap.size) := hid (Qs.lt HQ1.out)
            have HW5 : Hid (A + 2 ≤ w5.heap.size) := hid (by have := Qs.lt HQ1.out; have := HLA.out; omega)
            clear hoa hq6 hg6 HZ0c HZ1c HB5 HQ1 eV
            go_upto_region 15 with (first
              | (refine al_row (by rfl) 65 (by rfl) _ zeroFrame ?_)
              | (refine st_new (by rfl) 65 _ _ (by rfl) GG (by rfl) (by rfl) 65 _ HSZ.out HOS.out HON.out ?_))
            have HW6 := hid (below_walk w6 (.cells GG.toArray 65))
            have HZ0e := hid (bel_keep HW6.out HZ0d.out)
            have HZ1e := hid (bel_keep HW6.out HZ1d.out)
            have HB7 := hid (below_then HB6.out HW6.out)
            have HQ7 := hid (HQ6.out.below HW6.out)
            have HOA7 := hid (HOA.out.alloc (.cells GG.toArray 65))
            have HG7 := hid (hp_new w6 (.cells GG.toArray 65))
            obtain ⟨gb, HGb⟩ : ∃ n, Hid (w6.heap.size = n) := ⟨_, rfl⟩
            rw [HGb.out] at HG7 HL6 ⊢
            generalize w6.alloc (.cells GG.toArray 65) = w7 at HZ0e HZ1e HB7 HQ7 HOA7 HG7 ⊢
            clear HZ0d HZ1d HB6 HQ6 HOA HW6
            have HEN := hid (qs_end _ _ _ _ _ w7 HQ7.out)
            rw [HE1.out, HE2.out] at HEN
            go_wp2_with fail
            refine HEN.out.mono ?_
            rintro e w8 ⟨rfl, hg8⟩
            have HZ0 := hid (gb_keep hg8 HZ0e.out (by have := HLA.out; omega))
            have HZ1 := hid (gb_keep hg8 HZ1e.out (by have := HLA.out; omega))
            have HBB := hid (Below.of_gb HB7.out hg8 (by have := HLA.out; have := HAA.out; omega))
            have HG8 := hid (gb_keep hg8 HG7.out (by have := HL6.out; omega))
            have HOA8 := hid (WOwnS.far HOA7.out hg8 (fun j e => by injection e with e; have := HRW.out; omega))
            have HFB := hid (HGK.out w8 gb HG8.out)
            have k0 := HFB.out.k
            have k5 := HFB.out.st
            have k8 := HFB.out.bd
            have HEE := hid (show eS P S2 = (E1, E2) by rw [← HE1.out, ← HE2.out])
            rw [HEE.out] at HFF
            clear hg8 HZ0e HZ1e HB7 HQ7 HOA7 HG7 HEN HFB HGK
            by_cases hE : E1 = 0
            · subst hE
              rw [if_neg (by simp)] at HFF
              by_cases hbad : f.kind = 3 ∧ f.status ≠ 1 ∧ f.body ≠ []
              · as_aux_lemma =>
                  rw [if_pos hbad] at HFF
                  have HDP := hid (HDF.out.trans HFF.out)
                  obtain ⟨b1, b2, b3⟩ := hbad
                  rw [b1] at k0
                  have q7 : (f.status != 1) = true := by simpa using b2
                  have q8 : (f.status == 1) = false := by simpa using b2
                  have e4 : ¬ (mk f.body).toList = [] := fun h => b3 ((bl_mk f.body).symm.trans h)
                  have e5 : ((mk f.body).toList == []) = false := by simpa using e4
                  have e7 : ((mk f.body).toList != []) = true := by simpa using e4
                  have e8 : (mk f.body).toList.isEmpty = false := by rw [List.isEmpty_eq_false_iff]; exact e4
                  have b2' := b2
                  clear b1 b3 HFF b2'
                  go_wp2_with (first
                    | (refine ld_row (by rfl) 65 (.tmp 5) (by rfl) (A + 1) (by rfl) (fcells zF nS) 65 HZ1.out _ Tryz.underlying65 rfl (frame_size zF nS rfl) ?_)
                    | (refine st_row (by rfl) 65 _ _ (by rfl) A (fcells zF nS) (by rfl) (by rfl) 65 _ HZ0.out (frame_size zF nS rfl) rfl (fcells_one zF nS rfl) ?_; intro wz hwz))
                  refine ret_row3 2 3 4 65 rfl A rfl (fcells zF nS) 65 hwz.blk _ Tryz.underlying65 rfl (frame_size zF nS rfl) _ _ rfl rfl rfl ?_
                  rw [HDP.out]
                  exact ⟨nS, rfl, World.ownsRow_nil _ _ _ _, Below.of_gb HBB.out hwz.grown (by have := HAA.out; omega)⟩
              · rw [if_neg hbad] at HFF
                have HDP := hid (HDF.out.trans HFF.out)
                have hbad' := hbad
                clear hbad
                by_cases b1 : f.kind = 3
                · rw [b1] at k0
                  by_cases b2 : f.status = 1
                  · as_aux_lemma =>
                      rw [b2] at k5
                      clear b1 b2 hbad' HFF
                      go_wp2_with (first
                        | (refine ld_row (by rfl) 65 (.tmp 11) (by rfl) gb (by rfl) GG 65 HG8.out _ Tryz.underlying65 rfl HSZ.out ?_)
                        | (refine st_row (by rfl) 65 _ _ (by rfl) A GG (by rfl) (by rfl) 65 _ HZ0.out HSZ.out HOS.out HON.out ?_; intro wz hwz))
                      refine ret_row3 2 3 4 65 rfl A rfl GG 65 hwz.blk _ Tryz.underlying65 rfl HSZ.out _ _ rfl rfl rfl ?_
                      rw [HDP.out]
                      refine ⟨va, by rw [← HGG.out]; rfl, ?_, Below.of_gb HBB.out hwz.grown (by have := HAA.out; omega)⟩
                      exact (WOwnS.far HOA8.out hwz.grown (fun j e => by injection e with e; have := HW5.out; omega)).le (by have := HW5.out; have := HAA.out; omega)
                  · as_aux_lemma =>
                      have b3 : f.body = [] := by
                        by_cases h9 : f.body = []
                        · exact h9
                        · exact absurd ⟨b1, b2, h9⟩ hbad'
                      have q7 : (f.status != 1) = true := by simpa using b2
                      have q8 : (f.status == 1) = false := by simpa using b2
                      have e4 : (mk f.body).toList = [] := (bl_mk f.body).trans b3
                      have e5 : ((mk f.body).toList == []) = true := by rw [e4]; rfl
                      have e7 : ((mk f.body).toList != []) = false := by rw [e4]; rfl
                      clear b1 b3 hbad' HFF
                      go_wp2_with (first
                        | (refine ld_row (by rfl) 65 (.tmp 11) (by rfl) gb (by rfl) GG 65 HG8.out _ Tryz.underlying65 rfl HSZ.out ?_)
                        | (refine st_row (by rfl) 65 _ _ (by rfl) A GG (by rfl) (by rfl) 65 _ HZ0.out HSZ.out HOS.out HON.out ?_; intro wz hwz))
                      refine ret_row3 2 3 4 65 rfl A rfl GG 65 hwz.blk _ Tryz.underlying65 rfl HSZ.out _ _ rfl rfl rfl ?_
                      rw [HDP.out]
                      refine ⟨va, by rw [← HGG.out]; rfl, ?_, Below.of_gb HBB.out hwz.grown (by have := HAA.out; omega)⟩
                      exact (WOwnS.far HOA8.out hwz.grown (fun j e => by injection e with e; have := HW5.out; omega)).le (by have := HW5.out; have := HAA.out; omega)
                · as_aux_lemma =>
                    have q7 : (f.kind == 3) = false := by simpa using b1
                    clear hbad' HFF
                    go_wp2_with (first
                      | (refine ld_row (by rfl) 65 (.tmp 11) (by rfl) gb (by rfl) GG 65 HG8.out _ Tryz.underlying65 rfl HSZ.out ?_)
                      | (refine st_row (by rfl) 65 _ _ (by rfl) A GG (by rfl) (by rfl) 65 _ HZ0.out HSZ.out HOS.out HON.out ?_; intro wz hwz))
                    refine ret_row3 2 3 4 65 rfl A rfl GG 65 hwz.blk _ Tryz.underlying65 rfl HSZ.out _ _ rfl rfl rfl ?_
                    rw [HDP.out]
                    refine ⟨va, by rw [← HGG.out]; rfl, ?_, Below.of_gb HBB.out hwz.grown (by have := HAA.out; omega)⟩
                    exact (WOwnS.far HOA8.out hwz.grown (fun j e => by injection e with e; have := HW5.out; omega)).le (by have := HW5.out; have := HAA.out; omega)
            · as_aux_lemma =>
                have q7 : (E1 != 0) = true := by simpa using hE
                have q8 : (E1 == 0) = false := by simpa using hE
                rw [if_pos (by simpa using hE)] at HFF
                have HDP := hid (HDF.out.trans HFF.out)
                clear hE HFF
                go_wp2_with (first
                  | (refine ld_row (by rfl) 65 (.tmp 5) (by rfl) (A + 1) (by rfl) (fcells zF nS) 65 HZ1.out _ Tryz.underlying65 rfl (frame_size zF nS rfl) ?_)
                  | (refine st_row (by rfl) 65 _ _ (by rfl) A (fcells zF nS) (by rfl) (by rfl) 65 _ HZ0.out (frame_size zF nS rfl) rfl (fcells_one zF nS rfl) ?_; intro wz hwz))
                refine ret_row3 2 3 4 65 rfl A rfl (fcells zF nS) 65 hwz.blk _ Tryz.underlying65 rfl (frame_size zF nS rfl) _ _ rfl rfl rfl ?_
                rw [HDP.out]
                exact ⟨nS, rfl, World.ownsRow_nil _ _ _ _, Below.of_gb HBB.out hwz.grown (by have := HAA.out; omega)⟩
        · as_aux_lemma =>
            rw [if_neg hc] at HUE
            rw [if_neg hc] at he
            subst he
            have HDP := hid (show decP bs = (zF, 71, D) by rw [HDU.out, HUE.out, if_pos (by show (71 : Int) ≠ 0; decide)])
            clear hc hb2
            go_wp2_with (first
              | (refine ld_row (by rfl) 65 (.tmp 5) (by rfl) (A + 1) (by rfl) (fcells zF nS) 65 HZ1.out _ Tryz.underlying65 rfl (frame_size zF nS rfl) ?_)
              | (refine st_row (by rfl) 65 _ _ (by rfl) A (fcells zF nS) (by rfl) (by rfl) 65 _ HZ0.out (frame_size zF nS rfl) rfl (fcells_one zF nS rfl) ?_; intro wz hwz))
            refine ret_row3 2 3 4 65 rfl A rfl (fcells zF nS) 65 hwz.blk _ Tryz.underlying65 rfl (frame_size zF nS rfl) _ _ rfl rfl rfl ?_
            rw [HDP.out]
            exact ⟨nS, rfl, World.ownsRow_nil _ _ _ _, Below.of_gb HBB.out hwz.grown (by have := HAA.out; omega)⟩
end Go.Proofs.YtiibhccbbpgehabGreat
