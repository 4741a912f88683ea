/- Contracts and pure facts that the proof needs, joined. -/
import Derived.Test.YteijkbanlpodpaaGreatDoorG1
import Derived.Test.YteijkbanlpodpaaGreatDoorG2
import Derived.Deep.Strs
import Derived.ChangeSame
import Derived.Lib.SmallJoins
import Derived.Laws.StructEq
import Derived.OrdersHeld
import Derived.Deep.RegionHeld3
import Derived.RangeFuncBox
import Derived.RangeFuncLeaves
import Derived.RangeFuncNested
import Derived.Shelf.Abstract
import Derived.WalkKit
import Derived.OwnWalkIn
import Derived.TacticsInMore
import Derived.LoopNIn
import Derived.LoopIn
import Derived.Laws.EntriesVeiled

/- Entries out of their reading. -/
namespace Go.Proofs.YteijkbanlpodpaaGreatDoor
open Go.ChangeShapes Go.WideShapes Go.ChangeAt Go.RowKit

theorem cellsEnt : Tryz.prog.cellsOf 25 = 3 := by kernel_rfl
theorem cellsInt : Tryz.prog.cellsOf 3 = 1 := by kernel_rfl
theorem three_of {α : Type} {l : List α} (h : l.length = 3) : ∃ a b c, l = [a, b, c] := by
  match l, h with
  | [a, b, c], _ => exact ⟨a, b, c, rfl⟩

/-- entries of bulk -/
structure EBk (es : List Ent) : Prop where
  len : es.length ≤ 1048576
  bulk : Bulk es
  sz : szP es ≤ 1048576
theorem EBk.tre {es : List Ent} (h : EBk es) : Tre es := ⟨by have := h.len; omega, fun e he => by have := h.bulk e he; unfold Shr; omega, by have := h.sz; omega⟩

section
variable {H : Type} {enc : TypeId × Value → H} {W : World} {spare : Nat → Bool} {held : Bool}

/-- one entry -/
theorem ent_b {fuel : Nat} {cs : List Value} {x : DataW H × List MemPlace} (h : DataW.trod enc Tryz.prog W 0 spare held fuel 25 cs = some x) :
    ∃ e : Ent, cs = entV e ∧ e.1.length + e.2.2.length < Rows.uptoBulk x.1 := by
  obtain ⟨y0, y1, y2, n, hx, hl, t0, t1, t2⟩ := Go.Deep.trod_struct3 Tryz.underlying25 h
  rw [cellsEnt] at hl
  obtain ⟨a, b, c, rfl⟩ := three_of hl
  simp only [cellsStr, cellsInt] at t0 t1 t2
  obtain ⟨s0, e0, f0, _⟩ := DataW.trod_string Tryz.underlying9 t0
  obtain ⟨K, e1, f1⟩ := DataW.trod_int Tryz.underlying3 t1
  obtain ⟨s2, e2, f2, _⟩ := DataW.trod_string Tryz.underlying9 t2
  simp at e0 e1 e2
  subst e0 e1 e2
  refine ⟨(bl s0, K, bl s2), by unfold entV; rw [mk_bl, mk_bl], ?_⟩
  rw [hx, f0, f2]
  have := bulk_pos y1.1
  simp only [Rows.uptoBulk, Rows.uptoBulkAll, bl_eq]
  omega

set_option maxRecDepth 100000 in
theorem ents_b {ao : Option Addr} {n c : Nat} {d : DataW H} {pl : List MemPlace} (h : DataW.Trod enc Tryz.prog W 0 spare held 22 (.slice ao n c) d pl) (hk : Rows.uptoBulk d ≤ 1048576) :
    ∃ es : List Ent, Ents W (.slice ao n c) es ∧ EBk es := by
  obtain ⟨fuel, hf⟩ := h
  rcases Go.Deep.open_slice Tryz.underlying22 hf with ⟨hcs, _⟩ | ⟨a, len, cap, m, n', D, Pl, hcs, _, hl, hm, hmm, hx, hel⟩
  · simp [Value.cells] at hcs
    obtain ⟨rfl, rfl, rfl⟩ := hcs
    exact ⟨[], Or.inl ⟨_, _, rfl, rfl, fun _ => rfl⟩, by simp, fun e h => (by cases h), by simp [szP]⟩
  · simp [Value.cells] at hcs
    obtain ⟨rfl, rfl, rfl⟩ := hcs
    have hlm : n ≤ m := by rw [hmm]; split <;> omega
    rw [cellsEnt] at hel
    simp only [Prod.mk.injEq] at hx
    have hbd : Rows.uptoBulkAll ((List.range n).map D) ≤ 1048576 := by rw [hx.1] at hk; simp only [Rows.uptoBulk] at hk; omega
    have hn : n ≤ 1048576 := by
      have := bulk_count ((List.range n).map D)
      simp at this
      omega
    obtain ⟨es, hes, hp⟩ := list_of (P := fun i (e : Ent) => W.cell? (a.add (i * 3)) = some (.string (mk e.1)) ∧ W.cell? ((a.add (i * 3)).add 1) = some (.int .i64 e.2.1) ∧ W.cell? ((a.add (i * 3)).add 2) = some (.string (mk e.2.2)) ∧ e.1.length + e.2.2.length < Rows.uptoBulk (D i)) (n := n) (by
      intro i hi
      obtain ⟨cs', hc, ht⟩ := hel i (by omega)
      obtain ⟨e, rfl, hb⟩ := ent_b ht
      have hh := World.cells?_some hc
      exact ⟨e, by simpa [Addr.add, entV] using hh.2.2 0 (by omega), by simpa [entV] using hh.2.2 1 (by omega), by simpa [entV] using hh.2.2 2 (by omega), hb⟩)
    have hsum : ∀ k, k ≤ n → szP (es.take k) ≤ Rows.uptoBulkAll ((List.range k).map D) := by
      intro k
      induction k with
      | zero => intro _; simp [szP]
      | succ k ih =>
        intro hk2
        have h1 := ih (by omega)
        rw [take_snoc es k (by omega), szP_snoc, bulk_range]
        have h2 := (hp k (es.getD k zE) (by rw [List.getD_eq_getElem?_getD, List.getElem?_eq_getElem (show k < es.length by omega)]; rfl)).2.2.2
        omega
    refine ⟨es, ?_, by omega, ?_, ?_⟩
    · rcases Nat.eq_zero_or_pos n with rfl | hpos
      · exact Or.inl ⟨_, _, rfl, List.length_eq_zero_iff.1 hes, fun e => by cases e⟩
      · have hg : ∀ j, j < n → es[j]? = some (es.getD j zE) := fun j hj => by rw [List.getD_eq_getElem?_getD, List.getElem?_eq_getElem (show j < es.length by omega)]; rfl
        have h0 := (hp 0 _ (hg 0 hpos)).1
        have ha : a = ⟨a.block, a.off, none⟩ := addr_plain (v := .string (mk (es.getD 0 zE).1)) (by simpa [Addr.add] using h0)
        have hlt : a.block < W.heap.size := World.block_lt_of_cell? W a (u := .string (mk (es.getD 0 zE).1)) (by simpa [Addr.add] using h0)
        generalize a.block = g at ha hlt
        generalize a.off = o at ha
        subst ha
        refine Or.inr ⟨g, o, c, by rw [hes], hlt, by rw [hes]; exact hl, fun j hj => ?_⟩
        obtain ⟨c0, c1, c2, _⟩ := hp j _ (hg j (by omega))
        simp only [add_plain] at c0 c1 c2
        exact ⟨c0, c1, c2⟩
    · intro e he
      obtain ⟨j, hj, rfl⟩ := List.mem_iff_getElem.1 he
      have h1 := (hp j _ (List.getElem?_eq_getElem hj)).2.2.2
      have h2 : Rows.uptoBulk (D j) ≤ 1048576 := Nat.le_trans (bulk_mem (List.mem_map.2 ⟨j, List.mem_range.2 (by omega), rfl⟩)) hbd
      omega
    · have := hsum n (Nat.le_refl _)
      rw [List.take_of_length_le (by omega)] at this
      omega
end

end Go.Proofs.YteijkbanlpodpaaGreatDoor

/- Edits out of their reading. -/
namespace Go.Proofs.YteijkbanlpodpaaGreatDoor
open Go.ChangeShapes Go.WideShapes Go.ChangeAt Go.RowKit

theorem cellsEdt : Tryz.prog.cellsOf 27 = 6 := by kernel_rfl
theorem cellsEnts : Tryz.prog.cellsOf 22 = 1 := by kernel_rfl
theorem six_of {α : Type} {l : List α} (h : l.length = 6) : ∃ a b c d e f, l = [a, b, c, d, e, f] := by
  match l, h with
  | [a, b, c, d, e, f], _ => exact ⟨a, b, c, d, e, f, rfl⟩
/-- an edit: its number, its entry, its path, its tree -/
structure Edt where
  k : Int
  x : Ent
  p : List UInt8
  v : Value
  s : List Ent
def zEd : Edt := ⟨0, zE, [], .slice none 0 0, []⟩
def edtV (e : Edt) : List Value := [.int .i64 e.k, .string (mk e.x.1), .int .i64 e.x.2.1, .string (mk e.x.2.2), .string (mk e.p), e.v]
/-- the six cells of an edit -/
def EdtAt (w : World) (g o : Nat) (e : Edt) : Prop :=
  (w.cell? ⟨g, o, none⟩ = some (.int .i64 e.k) ∧ w.cell? ⟨g, o + 1, none⟩ = some (.string (mk e.x.1)) ∧ w.cell? ⟨g, o + 2, none⟩ = some (.int .i64 e.x.2.1)) ∧ w.cell? ⟨g, o + 3, none⟩ = some (.string (mk e.x.2.2)) ∧ w.cell? ⟨g, o + 4, none⟩ = some (.string (mk e.p)) ∧ w.cell? ⟨g, o + 5, none⟩ = some e.v
/-- an edit of bulk -/
def EdBk (w : World) (e : Edt) : Prop := Ents w e.v e.s ∧ EBk e.s ∧ e.x.1.length ≤ 1048576 ∧ e.x.2.2.length ≤ 1048576 ∧ e.p.length ≤ 1048576
/-- v is a slice that holds the edits es -/
def Edts (w : World) (v : Value) (es : List Edt) : Prop :=
  (∃ ao c, v = .slice ao 0 c ∧ es = []) ∨ ∃ g o c, v = .slice (some ⟨g, o, none⟩) es.length c ∧ g < w.heap.size ∧ ∀ j, j < es.length → EdtAt w g (o + j * 6) (es.getD j zEd)
theorem EdtAt.below {w w' : World} {g o n : Nat} {e : Edt} (h : EdtAt w g o e) (hg : g < n) (hb : Below n w w') : EdtAt w' g o e :=
  ⟨⟨by rw [hb.cell (p := ⟨g, o, none⟩) hg]; exact h.1.1, by rw [hb.cell (p := ⟨g, o + 1, none⟩) hg]; exact h.1.2.1, by rw [hb.cell (p := ⟨g, o + 2, none⟩) hg]; exact h.1.2.2⟩, by rw [hb.cell (p := ⟨g, o + 3, none⟩) hg]; exact h.2.1, by rw [hb.cell (p := ⟨g, o + 4, none⟩) hg]; exact h.2.2.1, by rw [hb.cell (p := ⟨g, o + 5, none⟩) hg]; exact h.2.2.2⟩
theorem Edts.below {w w' : World} {v : Value} {es : List Edt} (h : Edts w v es) (hb : Below w.heap.size w w') : Edts w' v es := by
  rcases h with h | ⟨g, o, c, hv, hlt, hc⟩
  · exact Or.inl h
  · exact Or.inr ⟨g, o, c, hv, Nat.lt_of_lt_of_le hlt hb.size, fun j hj => (hc j hj).below hlt hb⟩
theorem Edts.shape {w : World} {v : Value} {es : List Edt} (h : Edts w v es) : ∃ ao c, v = .slice ao es.length c := by
  rcases h with ⟨ao, c, hv, rfl⟩ | ⟨g, o, c, hv, _⟩
  · exact ⟨ao, c, hv⟩
  · exact ⟨_, _, hv⟩
theorem Edts.at {w : World} {ao : Option Addr} {n c : Nat} {es : List Edt} (h : Edts w (.slice ao n c) es) (k : Nat) (hk : k < es.length) :
    ∃ g o, ao = some ⟨g, o, none⟩ ∧ g < w.heap.size ∧ EdtAt w g (o + k * 6) (es.getD k zEd) := by
  rcases h with ⟨_, _, _, h0⟩ | ⟨g, o, c, hv, hlt, hc⟩
  · rw [h0] at hk; simp at hk
  · injection hv with h1 _ _
    exact ⟨g, o, h1, hlt, hc k hk⟩

section
variable {H : Type} {enc : TypeId × Value → H} {W : World} {spare : Nat → Bool} {held : Bool}

set_option maxRecDepth 100000 in
/-- one edit -/
theorem edt_b {fuel : Nat} {cs : List Value} {x : DataW H × List MemPlace} (h : DataW.trod enc Tryz.prog W 0 spare held fuel 27 cs = some x) (hk : Rows.uptoBulk x.1 ≤ 1048576) :
    ∃ e : Edt, cs = edtV e ∧ EdBk W e := by
  obtain ⟨y0, y1, y2, y3, k, hx, hlen, t0, t1, t2, t3⟩ := Go.Joins.trod_struct4 Tryz.underlying27 h
  rw [cellsEdt] at hlen
  obtain ⟨c0, c1, c2, c3, c4, c5, rfl⟩ := six_of hlen
  simp only [cellsEnts, cellsEnt, cellsStr, cellsInt] at t0 t1 t2 t3
  simp only [List.drop_zero, List.drop_succ_cons, List.take_succ_cons, List.take_zero] at t0 t1 t2 t3
  have hxe : x.1 = _ := congrArg Prod.fst hx
  rw [hxe] at hk
  simp only [Rows.uptoBulk, Rows.uptoBulkAll] at hk
  obtain ⟨ao, n, c, rfl⟩ : ∃ ai ni ci, c5 = .slice ai ni ci := by
    rcases DataW.trod_slice Tryz.underlying22 t3 with ⟨hc1, _⟩ | ⟨a', len', cap', _, _, _, _, hc1, _⟩
    · simp at hc1; exact ⟨_, _, _, hc1⟩
    · simp at hc1; exact ⟨_, _, _, hc1⟩
  obtain ⟨es, he, hs⟩ := ents_b (W := W) (pl := y3.2) (d := y3.1) (ao := ao) (n := n) (c := c) ⟨k, by simpa [Value.cells] using t3⟩ (by omega)
  obtain ⟨K, e0, f0⟩ := DataW.trod_int Tryz.underlying3 t0
  obtain ⟨x1, h1, b1⟩ := ent_b t1
  obtain ⟨s2, e2, f2, _⟩ := DataW.trod_string Tryz.underlying9 t2
  simp [entV] at e0 h1 e2
  obtain ⟨rfl, rfl, rfl⟩ := h1
  subst e0 e2
  rw [f2] at hk
  simp only [Rows.uptoBulk] at hk
  refine ⟨⟨K, x1, bl s2, .slice ao n c, es⟩, ?_, he, hs, ?_, ?_, ?_⟩
  · unfold edtV
    rw [mk_bl]
  · show x1.1.length ≤ _; omega
  · show x1.2.2.length ≤ _; omega
  · show (bl s2).length ≤ _; rw [bl_eq]; omega

set_option maxRecDepth 100000 in
theorem edits_b {ao : Option Addr} {n c : Nat} {d : DataW H} {pl : List MemPlace} (h : DataW.Trod enc Tryz.prog W 0 spare held 23 (.slice ao n c) d pl) (hk : Rows.uptoBulk d ≤ 1048576) :
    ∃ es : List Edt, Edts W (.slice ao n c) es ∧ es.length ≤ 1048576 ∧ ∀ e ∈ es, EdBk W e := by
  obtain ⟨fuel, hf⟩ := h
  rcases Go.Deep.open_slice Tryz.underlying23 hf with ⟨hcs, _⟩ | ⟨a, len, cap, m, n', D, Pl, hcs, _, hl, hm, hmm, hx, hel⟩
  · simp [Value.cells] at hcs
    obtain ⟨rfl, rfl, rfl⟩ := hcs
    exact ⟨[], Or.inl ⟨_, _, rfl, rfl⟩, by simp, fun e h => (by cases h)⟩
  · simp [Value.cells] at hcs
    obtain ⟨rfl, rfl, rfl⟩ := hcs
    have hlm : n ≤ m := by rw [hmm]; split <;> omega
    rw [cellsEdt] at hel
    simp only [Prod.mk.injEq] at hx
    have hbd : Rows.uptoBulkAll ((List.range n).map D) ≤ 1048576 := by rw [hx.1] at hk; simp only [Rows.uptoBulk] at hk; omega
    have hn : n ≤ 1048576 := by
      have := bulk_count ((List.range n).map D)
      simp at this
      omega
    obtain ⟨es, hes, hp⟩ := list_of (P := fun i (x : Edt) => (∀ j, j < 6 → ∀ u, (edtV x)[j]? = some u → W.cell? ((a.add (i * 6)).add j) = some u) ∧ EdBk W x) (n := n) (by
      intro i hi
      obtain ⟨cs', hc, ht⟩ := hel i (by omega)
      obtain ⟨x, rfl, hb⟩ := edt_b ht (Nat.le_trans (bulk_mem (List.mem_map.2 ⟨i, List.mem_range.2 hi, rfl⟩)) hbd)
      have hh := World.cells?_some hc
      refine ⟨x, fun j hj u hu => ?_, hb⟩
      have h1 := hh.2.2 j (by omega)
      rw [hu] at h1
      exact h1)
    refine ⟨es, ?_, by omega, ?_⟩
    · rcases Nat.eq_zero_or_pos n with rfl | hpos
      · exact Or.inl ⟨_, _, rfl, List.length_eq_zero_iff.1 hes⟩
      · have hg : ∀ j, j < n → es[j]? = some (es.getD j zEd) := fun j hj => by rw [List.getD_eq_getElem?_getD, List.getElem?_eq_getElem (show j < es.length by omega)]; rfl
        have h0 := (hp 0 _ (hg 0 hpos)).1 0 (by omega) _ rfl
        have ha : a = ⟨a.block, a.off, none⟩ := addr_plain (v := .int .i64 (es.getD 0 zEd).k) (by simpa [Addr.add] using h0)
        have hlt : a.block < W.heap.size := World.block_lt_of_cell? W a (u := .int .i64 (es.getD 0 zEd).k) (by simpa [Addr.add] using h0)
        generalize a.block = g at ha hlt
        generalize a.off = o at ha
        subst ha
        refine Or.inr ⟨g, o, c, by rw [hes], hlt, fun j hj => ?_⟩
        have hq := (hp j _ (hg j (by omega))).1
        have q0 := hq 0 (by omega) _ rfl
        have q1 := hq 1 (by omega) _ rfl
        have q2 := hq 2 (by omega) _ rfl
        have q3 := hq 3 (by omega) _ rfl
        have q4 := hq 4 (by omega) _ rfl
        have q5 := hq 5 (by omega) _ rfl
        simp only [add_plain] at q0 q1 q2 q3 q4 q5
        exact ⟨⟨q0, q1, q2⟩, q3, q4, q5⟩
    · intro e he
      obtain ⟨j, hj, rfl⟩ := List.mem_iff_getElem.1 he
      exact (hp j _ (List.getElem?_eq_getElem hj)).2
end

end Go.Proofs.YteijkbanlpodpaaGreatDoor

/- An entry that is handed in, out of its reading. -/
namespace Go.Proofs.YteijkbanlpodpaaGreatDoor
open Go.ChangeShapes Go.WideShapes Go.ChangeAt Go.RowKit

section
variable {H : Type} {enc : TypeId × Value → H} {W : World} {spare : Nat → Bool} {held : Bool}

set_option maxRecDepth 100000 in
theorem ent_arg {r : Reach} {b0 : Nat} {v : Value} {d : DataW H} {p : List MemPlace} (hv : Value.okWide Tryz.prog W r b0 25 v) (h : DataW.Trod enc Tryz.prog W 0 spare held 25 v d p) (hk : Rows.uptoBulk d ≤ 1048576) :
    ∃ e : Ent, v = entA e ∧ e.1.length ≤ 1048576 ∧ e.2.2.length ≤ 1048576 := by
  obtain ⟨cs, rfl, _⟩ := okWide_struct Tryz.underlying25 hv
  obtain ⟨fuel, hf⟩ := h
  obtain ⟨e, he, hb⟩ := ent_b hf
  have hb2 : e.1.length + e.2.2.length < Rows.uptoBulk d := hb
  obtain ⟨l⟩ := cs
  simp [Value.cells] at he
  subst he
  exact ⟨e, by unfold entA entV; rfl, by omega, by omega⟩
end

end Go.Proofs.YteijkbanlpodpaaGreatDoor

/- Changes between two trees, plainly. -/
namespace Go.Proofs.YteijkbanlpodpaaGreatDoor

/-- a change: where, what stood, what stands -/
abbrev Chg := List UInt8 × Ent × Ent
/-- the changes that lead from the one to the other, of rising entries -/
def difP : List Ent → List Ent → List Chg
  | [], [] => []
  | x :: a, [] => (x.1, x, zE) :: difP a []
  | [], y :: b => (y.1, zE, y) :: difP [] b
  | x :: a, y :: b =>
    if cmpL (nms x.1) (nms y.1) < 0 then (x.1, x, zE) :: difP a (y :: b)
    else if cmpL (nms x.1) (nms y.1) = 0 then (if x = y then [] else [(x.1, x, y)]) ++ difP a b
    else (y.1, zE, y) :: difP (x :: a) b
/-- what two trees have at the first path of both -/
def firP (a b : List Ent) : Chg := match a, b with
  | [], [] => ([], zE, zE)
  | x :: _, [] => (x.1, x, zE)
  | [], y :: _ => (y.1, zE, y)
  | x :: _, y :: _ => if cmpL (nms x.1) (nms y.1) < 0 then (x.1, x, zE) else if cmpL (nms x.1) (nms y.1) = 0 then (y.1, x, y) else (y.1, zE, y)
theorem may_kind {e : Ent} (h : mayP e = true) : e.2.1 ≠ 0 := by
  unfold mayP at h
  simp only [Bool.and_eq_true, decide_eq_true_iff] at h
  omega
theorem may_zero {e : Ent} (h : mayP e = true) : e ≠ zE := fun he => may_kind h (by rw [he]; rfl)
/-- one turn of the program's loop -/
theorem difP_step {a b : List Ent} (ha : ∀ e ∈ a, mayP e = true) (hb : ∀ e ∈ b, mayP e = true) (h : a ≠ [] ∨ b ≠ []) :
    difP a b = (if (firP a b).2.1 = (firP a b).2.2 then [] else [firP a b]) ++ difP (if (firP a b).2.1.2.1 = 0 then a else a.drop 1) (if (firP a b).2.2.2.1 = 0 then b else b.drop 1) := by
  match a, b with
  | [], [] => exact absurd rfl (h.elim id id)
  | x :: a, [] =>
    have hx := ha x (by simp)
    have e1 : firP (x :: a) [] = (x.1, x, zE) := rfl
    rw [e1, if_neg (may_zero hx), if_neg (may_kind hx), if_pos (show zE.2.1 = 0 from rfl), difP]
    rfl
  | [], y :: b =>
    have hy := hb y (by simp)
    have e1 : firP [] (y :: b) = (y.1, zE, y) := rfl
    rw [e1, if_neg (fun e => may_zero hy e.symm), if_pos (show zE.2.1 = 0 from rfl), if_neg (may_kind hy), difP]
    rfl
  | x :: a, y :: b =>
    have hx := ha x (by simp)
    have hy := hb y (by simp)
    rw [difP]
    by_cases h1 : cmpL (nms x.1) (nms y.1) < 0
    · have e1 : firP (x :: a) (y :: b) = (x.1, x, zE) := by unfold firP; dsimp only; rw [if_pos h1]
      rw [if_pos h1, e1, if_neg (may_zero hx), if_neg (may_kind hx), if_pos (show zE.2.1 = 0 from rfl)]
      rfl
    · by_cases h2 : cmpL (nms x.1) (nms y.1) = 0
      · have e1 : firP (x :: a) (y :: b) = (y.1, x, y) := by unfold firP; dsimp only; rw [if_neg h1, if_pos h2]
        have e2 : x.1 = y.1 := nms_inj (cmpL_zero h2)
        rw [if_neg h1, if_pos h2, e1, if_neg (may_kind hx), if_neg (may_kind hy), e2]
        rfl
      · have e1 : firP (x :: a) (y :: b) = (y.1, zE, y) := by unfold firP; dsimp only; rw [if_neg h1, if_neg h2]
        rw [if_neg h1, if_neg h2, e1, if_neg (fun e => may_zero hy e.symm), if_pos (show zE.2.1 = 0 from rfl), if_neg (may_kind hy)]
        rfl
theorem difP_len : ∀ (n : Nat) (a b : List Ent), a.length + b.length ≤ n → (difP a b).length ≤ a.length + b.length
  | 0, a, b, h => by
    obtain rfl : a = [] := List.length_eq_zero_iff.1 (by omega)
    obtain rfl : b = [] := List.length_eq_zero_iff.1 (by simpa using h)
    rw [difP]
    simp
  | n + 1, [], [], _ => by rw [difP]; simp
  | n + 1, x :: a, [], h => by
    have := difP_len n a [] (by simp at h ⊢; omega)
    rw [difP]
    simp at this ⊢
    omega
  | n + 1, [], y :: b, h => by
    have := difP_len n [] b (by simp at h ⊢; omega)
    rw [difP]
    simp at this ⊢
    omega
  | n + 1, x :: a, y :: b, h => by
    have h1 := difP_len n a (y :: b) (by simp at h ⊢; omega)
    have h2 := difP_len n a b (by simp at h ⊢; omega)
    have h3 := difP_len n (x :: a) b (by simp at h ⊢; omega)
    rw [difP]
    split
    · simp at h1 ⊢; omega
    · split
      · rw [List.length_append]
        split
        · simp at h2 ⊢; omega
        · simp at h2 ⊢; omega
      · simp at h3 ⊢; omega

end Go.Proofs.YteijkbanlpodpaaGreatDoor

/- Where a path stands, and changes applied, plainly: the changes between two trees lead from the one to the other. -/
namespace Go.Proofs.YteijkbanlpodpaaGreatDoor

/-- where a path stands in a rising row, or would -/
def plP (t : List Ent) (p : List UInt8) : Nat := (t.takeWhile (fun e => decide (cmpL (nms e.1) (nms p) < 0))).length
def thP (t : List Ent) (p : List UInt8) : Bool := (fdP t p).isSome
/-- what stands at a path; the zero entry, if nothing does -/
def stP (t : List Ent) (p : List UInt8) : Ent := (fdP t p).getD zE
structure Plc (t : List Ent) (p : List UInt8) (i : Nat) : Prop where
  le : i ≤ t.length
  lo : ∀ j, j < i → cmpL (nms (t.getD j zE).1) (nms p) < 0
  hi : ∀ j, i ≤ j → j < t.length → ¬ cmpL (nms (t.getD j zE).1) (nms p) < 0
theorem plP_lt {x : Ent} {t : List Ent} {p : List UInt8} (h : cmpL (nms x.1) (nms p) < 0) : plP (x :: t) p = plP t p + 1 := by
  unfold plP
  rw [List.takeWhile_cons, if_pos (by simpa using h)]
  rfl
theorem plP_ge {x : Ent} {t : List Ent} {p : List UInt8} (h : ¬ cmpL (nms x.1) (nms p) < 0) : plP (x :: t) p = 0 := by
  unfold plP
  rw [List.takeWhile_cons, if_neg (by simpa using h)]
  rfl
theorem Plc.eq : ∀ {t : List Ent} {p : List UInt8} {i : Nat}, Plc t p i → i = plP t p
  | [], p, i, h => by have := h.le; simp at this; subst this; rfl
  | x :: t, p, i, h => by
    by_cases hx : cmpL (nms x.1) (nms p) < 0
    · rw [plP_lt hx]
      cases i with
      | zero => exact absurd hx (h.hi 0 (Nat.le_refl _) (by simp))
      | succ i =>
        have : Plc t p i := ⟨by have := h.le; simpa using this, fun j hj => by have := h.lo (j + 1) (by omega); simpa using this, fun j h1 h2 => by have := h.hi (j + 1) (by omega) (by simpa using h2); simpa using this⟩
        rw [← this.eq]
    · rw [plP_ge hx]
      cases i with
      | zero => rfl
      | succ i => exact absurd (h.lo 0 (by omega)) hx
theorem plP_le (t : List Ent) (p : List UInt8) : plP t p ≤ t.length := by
  unfold plP
  exact (List.takeWhile_sublist _).length_le
theorem fdP_cons_ne {x : Ent} {t : List Ent} {p : List UInt8} (h : x.1 ≠ p) : fdP (x :: t) p = fdP t p := by
  unfold fdP
  rw [List.find?_cons, decide_eq_false h]
theorem fdP_cons_eq {x : Ent} {t : List Ent} : fdP (x :: t) x.1 = some x := by
  unfold fdP
  rw [List.find?_cons, decide_eq_true rfl]
theorem cmp_ne {a b : List UInt8} (h : cmpL (nms a) (nms b) < 0) : a ≠ b := fun e => by rw [e, cmpL_self] at h; omega
/-- the place that was found: whether the path stands there -/
theorem Plc.there {t : List Ent} {p : List UInt8} {i : Nat} (_ : Plc t p i) (ht : t.Pairwise ltE) (hi : i < t.length) (h0 : cmpL (nms (t.getD i zE).1) (nms p) = 0) : fdP t p = some (t.getD i zE) := by
  have := fdP_mem ht (getD_mem hi)
  rw [nms_inj (cmpL_zero h0)] at this
  exact this
theorem Plc.lacks {t : List Ent} {p : List UInt8} {i : Nat} (h : Plc t p i) (ht : t.Pairwise ltE) (h0 : i < t.length → cmpL (nms (t.getD i zE).1) (nms p) ≠ 0) : fdP t p = none := by
  rw [fdP_none]
  intro e he hp
  obtain ⟨k, hk, rfl⟩ := List.getElem_of_mem he
  have hg : t.getD k zE = t[k] := by simp [List.getD_eq_getElem?_getD, hk]
  rcases Nat.lt_or_ge k i with h1 | h1
  · exact cmp_ne (h.lo k h1) (by rw [hg]; exact hp)
  · rcases Nat.lt_or_ge i k with h2 | h2
    · have h3 := pair_at ht h2 hk
      unfold ltE at h3
      rw [hg, hp] at h3
      exact h.hi i (Nat.le_refl _) (by omega) h3
    · obtain rfl : k = i := by omega
      exact h0 hk (by rw [hg, hp, cmpL_self])

/-- changes that are made -/
def chgd : List Ent → List Chg → List Ent
  | t, [] => t
  | t, c :: l => t.take (plP t c.1) ++ ((if c.2.2.2.1 = 0 then [] else [c.2.2]) ++ chgd (t.drop (plP t c.1 + (if thP t c.1 then 1 else 0))) l)
/-- may one side of a change be? -/
def sidP (e : Ent) (p : List UInt8) : Bool := decide (e = zE) || (decide (e.1 = p) && mayP e)
def okC (c : Chg) : Bool := !(decide (c.2.1 = zE) && decide (c.2.2 = zE)) && sidP c.2.1 c.1 && sidP c.2.2 c.1
/-- may changes be, behind a path? -/
def mayC : List UInt8 → List Chg → Bool
  | _, [] => true
  | last, c :: l => okC c && decide (cmpL (nms last) (nms c.1) < 0) && mayC c.1 l
/-- what Apply answers -/
def apP (t : List Ent) (l : List Chg) : Except Int (List Ent) :=
  if (chkP t).2 ≠ 0 then .error (chkP t).2 else if mayC [] l = false then .error 1 else if l.any (fun c => decide (stP t c.1 ≠ c.2.1)) = true then .error 8
  else if (chkP (chgd t l)).2 ≠ 0 then .error (chkP (chgd t l)).2 else .ok (chgd t l)
theorem dif_mem : ∀ (n : Nat) (a b : List Ent), a.length + b.length ≤ n → ∀ c ∈ difP a b, ∃ e ∈ a ++ b, c.1 = e.1
  | n, [], [], _, c, hc => by rw [difP] at hc; simp at hc
  | 0, x :: a, b, h, _, _ => by simp at h
  | 0, [], y :: b, h, _, _ => by simp at h
  | n + 1, x :: a, [], h, c, hc => by
    rw [difP, List.mem_cons] at hc
    rcases hc with rfl | hc
    · exact ⟨x, by simp, rfl⟩
    · obtain ⟨e, he, h1⟩ := dif_mem n a [] (by simp at h ⊢; omega) c hc
      exact ⟨e, by simp at he ⊢; exact Or.inr he, h1⟩
  | n + 1, [], y :: b, h, c, hc => by
    rw [difP, List.mem_cons] at hc
    rcases hc with rfl | hc
    · exact ⟨y, by simp, rfl⟩
    · obtain ⟨e, he, h1⟩ := dif_mem n [] b (by simp at h ⊢; omega) c hc
      exact ⟨e, by simp at he ⊢; exact Or.inr he, h1⟩
  | n + 1, x :: a, y :: b, h, c, hc => by
    rw [difP] at hc
    split at hc
    · rw [List.mem_cons] at hc
      rcases hc with rfl | hc
      · exact ⟨x, by simp, rfl⟩
      · obtain ⟨e, he, h1⟩ := dif_mem n a (y :: b) (by simp at h ⊢; omega) c hc
        exact ⟨e, by rw [List.cons_append]; exact List.mem_cons_of_mem _ he, h1⟩
    · split at hc
      · rw [List.mem_append] at hc
        rcases hc with hc | hc
        · split at hc
          · simp at hc
          · rw [List.mem_singleton] at hc
            subst hc
            exact ⟨x, by simp, rfl⟩
        · obtain ⟨e, he, h1⟩ := dif_mem n a b (by simp at h ⊢; omega) c hc
          refine ⟨e, ?_, h1⟩
          rw [List.mem_append] at he ⊢
          exact he.imp (List.mem_cons_of_mem _) (List.mem_cons_of_mem _)
      · rw [List.mem_cons] at hc
        rcases hc with rfl | hc
        · exact ⟨y, by simp, rfl⟩
        · obtain ⟨e, he, h1⟩ := dif_mem n (x :: a) b (by simp at h ⊢; omega) c hc
          refine ⟨e, ?_, h1⟩
          rw [List.mem_append] at he ⊢
          exact he.imp id (List.mem_cons_of_mem _)
/-- all changes lie behind what lies ahead of both -/
theorem dif_behind {a b : List Ent} {p : List UInt8} (ha : ∀ e ∈ a, cmpL (nms p) (nms e.1) < 0) (hb : ∀ e ∈ b, cmpL (nms p) (nms e.1) < 0) : ∀ c ∈ difP a b, cmpL (nms p) (nms c.1) < 0 := by
  intro c hc
  obtain ⟨e, he, h1⟩ := dif_mem _ a b (Nat.le_refl _) c hc
  rw [h1]
  rw [List.mem_append] at he
  exact he.elim (ha e) (hb e)
theorem chgd_skip {x : Ent} {t : List Ent} {l : List Chg} (h : ∀ c ∈ l, cmpL (nms x.1) (nms c.1) < 0) : chgd (x :: t) l = x :: chgd t l := by
  cases l with
  | nil => rfl
  | cons c l =>
    have hc := h c (by simp)
    have e1 : thP (x :: t) c.1 = thP t c.1 := by unfold thP; rw [fdP_cons_ne (cmp_ne hc)]
    rw [chgd, chgd, plP_lt hc, e1, List.take_succ_cons, show plP t c.1 + 1 + (if thP t c.1 = true then 1 else 0) = (plP t c.1 + (if thP t c.1 = true then 1 else 0)) + 1 by omega, List.drop_succ_cons]
    rfl
theorem stP_skip {x : Ent} {t : List Ent} {p : List UInt8} (h : cmpL (nms x.1) (nms p) < 0) : stP (x :: t) p = stP t p := by
  unfold stP
  rw [fdP_cons_ne (cmp_ne h)]
theorem stP_none {t : List Ent} {p : List UInt8} (h : ∀ e ∈ t, cmpL (nms p) (nms e.1) < 0) : fdP t p = none := by
  rw [fdP_none]
  exact fun e he hp => cmp_ne (h e he) hp.symm
theorem pairL {x : Ent} {t : List Ent} (h : (x :: t).Pairwise ltE) : (∀ e ∈ t, cmpL (nms x.1) (nms e.1) < 0) ∧ t.Pairwise ltE := by
  rw [List.pairwise_cons] at h
  exact ⟨fun e he => h.1 e he, h.2⟩
/-- what Diff tells leads from the one to the other, and fits what stands -/
theorem dif_leads : ∀ (n : Nat) (a b : List Ent), a.length + b.length ≤ n → a.Pairwise ltE → b.Pairwise ltE → (∀ e ∈ a, mayP e = true) → (∀ e ∈ b, mayP e = true) →
    chgd a (difP a b) = b ∧ (∀ c ∈ difP a b, stP a c.1 = c.2.1) ∧ ∀ p, (∀ e ∈ a, cmpL (nms p) (nms e.1) < 0) → (∀ e ∈ b, cmpL (nms p) (nms e.1) < 0) → mayC p (difP a b) = true
  | n, [], [], _, _, _, _, _ => by
    rw [difP]
    exact ⟨rfl, fun c hc => by simp at hc, fun _ _ _ => rfl⟩
  | 0, x :: a, b, h, _, _, _, _ => by simp at h
  | 0, [], y :: b, h, _, _, _, _ => by simp at h
  | n + 1, x :: a, [], h, pa, pb, ma, mb => by
    obtain ⟨i1, i2, i3⟩ := dif_leads n a [] (by simp at h ⊢; omega) (pairL pa).2 pb (fun e he => ma e (by simp [he])) mb
    have hx := ma x (by simp)
    rw [difP]
    refine ⟨?_, ?_, ?_⟩
    · have e1 : thP (x :: a) x.1 = true := by unfold thP; rw [fdP_cons_eq]; rfl
      rw [chgd]
      dsimp only
      rw [plP_ge (by rw [cmpL_self]; omega), e1, if_pos (show zE.2.1 = 0 from rfl), if_pos rfl]
      exact i1
    · intro c hc
      rw [List.mem_cons] at hc
      rcases hc with rfl | hc
      · unfold stP
        rw [fdP_cons_eq]
        rfl
      · rw [stP_skip (dif_behind (pairL pa).1 (fun e he => by simp at he) c hc)]
        exact i2 c hc
    · intro p h1 _
      have e1 : okC (x.1, x, zE) = true := by unfold okC sidP; simp [hx, may_zero hx]
      rw [mayC, e1, i3 x.1 (pairL pa).1 (fun e he => by simp at he), decide_eq_true (h1 x (by simp))]
      rfl
  | n + 1, [], y :: b, h, pa, pb, ma, mb => by
    obtain ⟨i1, i2, i3⟩ := dif_leads n [] b (by simp at h ⊢; omega) pa (pairL pb).2 ma (fun e he => mb e (by simp [he]))
    have hy := mb y (by simp)
    rw [difP]
    refine ⟨?_, ?_, ?_⟩
    · rw [chgd]
      dsimp only
      rw [if_neg (may_kind hy)]
      simp only [List.take_nil, List.drop_nil, List.nil_append]
      rw [i1]
      rfl
    · intro c hc
      rw [List.mem_cons] at hc
      rcases hc with rfl | hc
      · rfl
      · exact i2 c hc
    · intro p _ h2
      have e1 : okC (y.1, zE, y) = true := by unfold okC sidP; simp [hy, may_zero hy]
      rw [mayC, e1, i3 y.1 (fun e he => by simp at he) (pairL pb).1, decide_eq_true (h2 y (by simp))]
      rfl
  | n + 1, x :: a, y :: b, h, pa, pb, ma, mb => by
    have hx := ma x (by simp)
    have hy := mb y (by simp)
    have ta : ∀ {p : List UInt8}, cmpL (nms p) (nms x.1) < 0 → ∀ e ∈ x :: a, cmpL (nms p) (nms e.1) < 0 := by
      intro p hp e he
      rw [List.mem_cons] at he
      rcases he with rfl | he
      · exact hp
      · exact cmpL_lt_trans hp ((pairL pa).1 e he)
    have tb : ∀ {p : List UInt8}, cmpL (nms p) (nms y.1) < 0 → ∀ e ∈ y :: b, cmpL (nms p) (nms e.1) < 0 := by
      intro p hp e he
      rw [List.mem_cons] at he
      rcases he with rfl | he
      · exact hp
      · exact cmpL_lt_trans hp ((pairL pb).1 e he)
    rw [difP]
    split
    · rename_i hlt
      obtain ⟨i1, i2, i3⟩ := dif_leads n a (y :: b) (by simp at h ⊢; omega) (pairL pa).2 pb (fun e he => ma e (by simp [he])) mb
      have hbh := dif_behind (pairL pa).1 (tb hlt)
      refine ⟨?_, ?_, ?_⟩
      · have e1 : thP (x :: a) x.1 = true := by unfold thP; rw [fdP_cons_eq]; rfl
        rw [chgd]
        dsimp only
        rw [plP_ge (by rw [cmpL_self]; omega), e1, if_pos (show zE.2.1 = 0 from rfl), if_pos rfl]
        exact i1
      · intro c hc
        rw [List.mem_cons] at hc
        rcases hc with rfl | hc
        · unfold stP
          rw [fdP_cons_eq]
          rfl
        · rw [stP_skip (hbh c hc)]
          exact i2 c hc
      · intro p h1 _
        have e1 : okC (x.1, x, zE) = true := by unfold okC sidP; simp [hx, may_zero hx]
        rw [mayC, e1, i3 x.1 (pairL pa).1 (tb hlt), decide_eq_true (h1 x (by simp))]
        rfl
    · rename_i hlt
      split
      · rename_i heq
        have hp : x.1 = y.1 := nms_inj (cmpL_zero heq)
        obtain ⟨i1, i2, i3⟩ := dif_leads n a b (by simp at h ⊢; omega) (pairL pa).2 (pairL pb).2 (fun e he => ma e (by simp [he])) (fun e he => mb e (by simp [he]))
        have hbh := dif_behind (pairL pa).1 (fun e he => by rw [hp]; exact (pairL pb).1 e he)
        by_cases hxy : x = y
        · subst hxy
          rw [if_pos rfl, List.nil_append]
          refine ⟨by rw [chgd_skip hbh, i1], fun c hc => by rw [stP_skip (hbh c hc)]; exact i2 c hc, fun p h1 h2 => i3 p (fun e he => h1 e (by simp [he])) (fun e he => h2 e (by simp [he]))⟩
        · rw [if_neg hxy, List.singleton_append]
          refine ⟨?_, ?_, ?_⟩
          · have e1 : thP (x :: a) x.1 = true := by unfold thP; rw [fdP_cons_eq]; rfl
            rw [chgd]
            dsimp only
            rw [plP_ge (by rw [cmpL_self]; omega), e1, if_neg (may_kind hy), if_pos rfl]
            simp only [List.take_zero, List.nil_append, Nat.zero_add, List.drop_succ_cons, List.drop_zero, List.singleton_append]
            rw [i1]
          · intro c hc
            rw [List.mem_cons] at hc
            rcases hc with rfl | hc
            · unfold stP
              rw [fdP_cons_eq]
              rfl
            · rw [stP_skip (hbh c hc)]
              exact i2 c hc
          · intro p h1 _
            have e1 : okC (x.1, x, y) = true := by unfold okC sidP; simp [hx, hy, may_zero hx, hp]
            rw [mayC, e1, i3 x.1 (pairL pa).1 (fun e he => by rw [hp]; exact (pairL pb).1 e he), decide_eq_true (h1 x (by simp))]
            rfl
      · rename_i hne
        have hgt : cmpL (nms y.1) (nms x.1) < 0 := by have := cmpL_anti (nms x.1) (nms y.1); omega
        obtain ⟨i1, i2, i3⟩ := dif_leads n (x :: a) b (by simp at h ⊢; omega) pa (pairL pb).2 ma (fun e he => mb e (by simp [he]))
        have hf : fdP (x :: a) y.1 = none := stP_none (ta hgt)
        refine ⟨?_, ?_, ?_⟩
        · have e1 : thP (x :: a) y.1 = false := by unfold thP; rw [hf]; rfl
          rw [chgd]
          dsimp only
          rw [plP_ge (by omega), e1, if_neg (may_kind hy)]
          simp only [List.take_zero, List.nil_append, Nat.zero_add, List.singleton_append, Bool.false_eq_true, if_false, List.drop_zero]
          rw [i1]
        · intro c hc
          rw [List.mem_cons] at hc
          rcases hc with rfl | hc
          · unfold stP
            rw [hf]
            rfl
          · exact i2 c hc
        · intro p _ h2
          have e1 : okC (y.1, zE, y) = true := by unfold okC sidP; simp [hy, may_zero hy]
          rw [mayC, e1, i3 y.1 (ta hgt) (pairL pb).1, decide_eq_true (h2 y (by simp))]
          rfl
theorem ahead_all {t : List Ent} (h : ∀ e ∈ t, mayP e = true) : ∀ e ∈ t, cmpL (nms []) (nms e.1) < 0 := by
  intro e he
  rw [nms_e, cmpL_nil (mayP_nms (h e he))]
  omega
theorem apP_dif {a b : List Ent} (ha : Rgt a) (hb : Rgt b) : apP a (difP a b) = .ok b := by
  obtain ⟨h1, h2, h3⟩ := dif_leads _ a b (Nat.le_refl _) ha.up hb.up ha.may hb.may
  unfold apP
  rw [h1, h3 [] (ahead_all ha.may) (ahead_all hb.may), if_neg (by simpa using rgt_iff.2 ha), if_neg (by simp), if_neg ?_, if_neg (by simpa using rgt_iff.2 hb)]
  rw [List.any_eq_true]
  rintro ⟨c, hc, hd⟩
  simp only [decide_eq_true_eq] at hd
  exact hd (h2 c hc)
/-- no changes just where both are one -/
theorem dif_none {a b : List Ent} (ha : Rgt a) (hb : Rgt b) : difP a b = [] ↔ a = b := by
  obtain ⟨h1, _, _⟩ := dif_leads _ a b (Nat.le_refl _) ha.up hb.up ha.may hb.may
  constructor
  · intro h
    rw [h] at h1
    exact h1
  · rintro rfl
    have : ∀ t : List Ent, difP t t = [] := by
      intro t
      induction t with
      | nil => rw [difP]
      | cons x t ih => rw [difP, cmpL_self, if_neg (by omega), if_pos rfl, if_pos rfl, ih]; rfl
    exact this a

end Go.Proofs.YteijkbanlpodpaaGreatDoor

/- What place compares by. -/
namespace Go.Proofs.YteijkbanlpodpaaGreatDoor
open Go.RowKit Go.BigFrame

set_option maxRecDepth 100000 in
set_option maxHeartbeats 1000000 in
theorem placeCmp_any (e : Ent) (p : List UInt8) (w : World) (he : e.1.length ≤ 9223372036854775807) (hp : p.length ≤ 9223372036854775807) :
    Calls Tryz.prog 50 #[entA e, .string (mk p)] w fun r w' => r = .returned (.int .i64 (cmP e.1 p)) ∧ Below w.heap.size w w' := by
  have HC := hid (compare_any (mk e.1) (mk p) · (by rw [bl_mk]; exact he) (by rw [bl_mk]; exact hp))
  simp only [bl_mk] at HC
  have HB := hid (below_walk w (.cells #[.string (mk e.1), .int .i64 e.2.1, .string (mk e.2.2)] 25))
  unfold entA
  generalize cmP e.1 p = C at *
  generalize pN e.1 p = D at *
  generalize mk e.1 = s1 at *
  generalize mk e.2.2 = s2 at *
  generalize mk p = s3 at *
  clear he hp
  go_enter Tryz.func50, Tryz.ntmps50
  go_wp2_with (go_at_call 51; refine (HC.out _).mono ?_; rintro r w1 ⟨rfl, hb1⟩; have HB1 := hid (below_then HB.out hb1); clear hb1)
  go_ret
  exact ⟨rfl, HB1.out⟩

theorem cmP_ok {a b : List UInt8} (ha : okP a = true) (hb : okP b = true) : cmP a b = cmpL (nms a) (nms b) := by unfold cmP; rw [if_pos ⟨ha, hb⟩]

end Go.Proofs.YteijkbanlpodpaaGreatDoor

/- Where a path stands: the program's place. -/
namespace Go.Proofs.YteijkbanlpodpaaGreatDoor
open Go.RowKit Go.BigFrame

set_option maxRecDepth 100000 in
set_option maxHeartbeats 2000000 in
theorem search_any (v : Value) (t : List Ent) (p : List UInt8) (w : World) (h : Ents w v t) (hup : t.Pairwise ltE) (hok : ∀ e ∈ t, okP e.1 = true) (hp : okP p = true) (hn : t.length ≤ 1024) :
    Calls Tryz.prog 49 #[v, .string (mk p), .func (.func 50) #[] #[]] w
      fun r w' => r = .returned (.tuple #[.int .i64 (plP t p), .bool (thP t p)]) ∧ Below w.heap.size w w' := by
  obtain ⟨ao, c, rfl⟩ := h.shape
  have H := hid h
  have HUP := hid hup
  have HOK := hid hok
  have HC := hid (fun (e : Ent) (he : e ∈ t) (W : World) => placeCmp_any e p W (by have := okP_short (hok e he); omega) (by have := okP_short hp; omega))
  have HP := hid hp
  clear h hup hok hp
  go_enter Tryz.func49, Tryz.ntmps49
  go_wp2
  go_loopw [9, 10] (fun x y wr => ∃ i j : Nat, x = .int .i64 i ∧ y = .int .i64 j ∧ i ≤ j ∧ j ≤ t.length ∧ (∀ k, k < i → cmpL (nms (t.getD k zE).1) (nms p) < 0) ∧ (∀ k, j ≤ k → k < t.length → ¬ cmpL (nms (t.getD k zE).1) (nms p) < 0) ∧ Below w.heap.size w wr) (fun x y _ => (intOf y).toNat - (intOf x).toNat)
  case atStart => exact ⟨0, t.length, rfl, rfl, Nat.zero_le _, Nat.le_refl _, fun k hk => by omega, fun k h1 h2 => by omega, Below.refl _ _⟩
  case round =>
    obtain ⟨i, j, rfl, rfl, hij, hjn, hlo, hhi, hb⟩ := hrel
    have HLO := hid hlo
    have HHI := hid hhi
    have HB := hid hb
    clear hlo hhi hb
    by_cases hlt : i < j
    · have q1 : (i : Int) < (j : Int) := by omega
      obtain ⟨m, HM⟩ : ∃ m : Nat, Hid (m = (i + j) / 2) := ⟨_, rfl⟩
      have hm1 : i ≤ m := by rw [HM.out]; omega
      have hm2 : m < j := by rw [HM.out]; omega
      have hm3 : m < t.length := by omega
      obtain ⟨g, o, rfl, hgl, hx⟩ := (H.out.below HB.out).at m hm3
      obtain ⟨x, HX⟩ : ∃ x, Hid (t.getD m zE = x) := ⟨_, rfl⟩
      rw [HX.out] at hx
      have hmem : x ∈ t := by rw [← HX.out]; exact getD_mem hm3
      have HCX := hid (fun W : World => HC.out x hmem W)
      have HCO := hid (cmP_ok (HOK.out x hmem) HP.out)
      have hw1 : IntKind.i64.wrap ((i : Int) + (j : Int)) = ((i + j : Nat) : Int) := by rw [IntKind.wrap_i64]; omega
      have hq : ((i : Int) + (j : Int)) / 2 = (m : Int) := by rw [HM.out]; omega
      have hw2 : IntKind.i64.wrap ((m : Int) + 1) = ((m + 1 : Nat) : Int) := by rw [IntKind.wrap_i64]; omega
      have q2 : (m : Int) < (t.length : Int) := by omega
      have HLO2 := hid (fun (h : cmpL (nms x.1) (nms p) < 0) k (hk : k < m + 1) => show cmpL (nms (t.getD k zE).1) (nms p) < 0 from by
        rcases Nat.lt_or_ge k m with h1 | h1
        · have h2 := pair_at HUP.out h1 hm3
          unfold ltE at h2
          rw [HX.out] at h2
          exact cmpL_lt_trans h2 h
        · obtain rfl : k = m := by omega
          rw [HX.out]
          exact h)
      have HHI2 := hid (fun (h : ¬ cmpL (nms x.1) (nms p) < 0) k (h1 : m ≤ k) (h2 : k < t.length) => show ¬ cmpL (nms (t.getD k zE).1) (nms p) < 0 from by
        intro h3
        rcases Nat.lt_or_ge m k with h4 | h4
        · have h5 := pair_at HUP.out h4 h2
          unfold ltE at h5
          rw [HX.out] at h5
          exact h (cmpL_lt_trans h5 h3)
        · obtain rfl : k = m := by omega
          rw [HX.out] at h3
          exact h h3)
      obtain ⟨x0, x1, x2⟩ := hx
      clear HC hmem
      unfold entA at HCX
      rw [← HCO.out] at HLO2 HHI2
      generalize cmP x.1 p = K at *
      by_cases hK : K < 0
      · have HLO3 := hid (HLO2.out hK)
        clear HLO2 HHI2
        go_wp2_with (go_at_call 50; refine (HCX.out _).mono ?_; rintro r w1 ⟨rfl, hb1⟩; have HB1 := hid (HB.out.trans (hb1.mono HB.out.size)); clear hb1)
        exact ⟨⟨m + 1, j, by simp, rfl, by omega, hjn, HLO3.out, (fun k a b => Int.not_lt.2 (by simpa using HHI.out k a b)), HB1.out⟩, by simp [intOf]; omega⟩
      · have HHI3 := hid (HHI2.out hK)
        clear HLO2 HHI2
        go_wp2_with (go_at_call 50; refine (HCX.out _).mono ?_; rintro r w1 ⟨rfl, hb1⟩; have HB1 := hid (HB.out.trans (hb1.mono HB.out.size)); clear hb1)
        exact ⟨⟨i, m, rfl, rfl, hm1, by omega, HLO.out, (fun k a b => Int.not_lt.2 (by simpa using HHI3.out k a b)), HB1.out⟩, by simp [intOf]; omega⟩
    · have q1 : ¬ (i : Int) < (j : Int) := by omega
      obtain rfl : i = j := by omega
      have HPL : Hid (Plc t p i) := ⟨hjn, HLO.out, HHI.out⟩
      have HPE := hid HPL.out.eq
      by_cases hin : i < t.length
      · have q3 : (i : Int) < (t.length : Int) := by omega
        obtain ⟨g, o, rfl, hgl, hx⟩ := (H.out.below HB.out).at i hin
        obtain ⟨x, HX⟩ : ∃ x, Hid (t.getD i zE = x) := ⟨_, rfl⟩
        rw [HX.out] at hx
        have hmem : x ∈ t := by rw [← HX.out]; exact getD_mem hin
        have HCX := hid (fun W : World => HC.out x hmem W)
        have HTH := hid (show decide (cmP x.1 p = 0) = thP t p from by
          rw [cmP_ok (HOK.out x hmem) HP.out]
          unfold thP
          by_cases h0 : cmpL (nms x.1) (nms p) = 0
          · rw [decide_eq_true h0, HPL.out.there HUP.out hin (by rw [HX.out]; exact h0)]; rfl
          · rw [decide_eq_false h0, HPL.out.lacks HUP.out (fun _ => by rw [HX.out]; exact h0)]; rfl)
        obtain ⟨x0, x1, x2⟩ := hx
        clear HC hmem
        unfold entA at HCX
        generalize cmP x.1 p = K at *
        go_wp2_with (go_at_call 50; refine (HCX.out _).mono ?_; rintro r w1 ⟨rfl, hb1⟩; have HB1 := hid (HB.out.trans (hb1.mono HB.out.size)); clear hb1)
        go_ret2
        refine ⟨?_, HB1.out⟩
        rw [← HPE.out, ← HTH.out]
        first | rfl | simp
      · have q3 : ¬ (i : Int) < (t.length : Int) := by omega
        have HTH := hid (show thP t p = false from by unfold thP; rw [HPL.out.lacks HUP.out (fun h => absurd h hin)]; rfl)
        go_wp2
        go_ret2
        refine ⟨?_, HB.out⟩
        rw [← HPE.out, HTH.out]
        rfl

set_option maxRecDepth 100000 in
set_option maxHeartbeats 1000000 in
theorem place_any (v : Value) (t : List Ent) (p : List UInt8) (w : World) (h : Ents w v t) (hup : t.Pairwise ltE) (hok : ∀ e ∈ t, okP e.1 = true) (hp : okP p = true) (hn : t.length ≤ 1024) :
    Calls Tryz.prog 22 #[v, .string (mk p)] w fun r w' => r = .returned (.tuple #[.int .i64 (plP t p), .bool (thP t p)]) ∧ Below w.heap.size w w' := by
  have HS := hid (search_any v t p w h hup hok hp hn)
  obtain ⟨ao, c, rfl⟩ := h.shape
  generalize plP t p = I at *
  generalize thP t p = B at *
  clear h hup hok hp
  go_enter Tryz.func22, Tryz.ntmps22
  go_wp2_with (go_at_call 49; refine HS.out.mono ?_; rintro r w1 ⟨rfl, hb1⟩)
  go_ret2
  exact ⟨rfl, hb1⟩

theorem plP_th {t : List Ent} {p : List UInt8} (hup : t.Pairwise ltE) (h : thP t p = true) : plP t p < t.length ∧ t.getD (plP t p) zE = stP t p := by
  unfold thP at h
  obtain ⟨e, he⟩ := Option.isSome_iff_exists.1 h
  obtain ⟨h1, h2⟩ := fdP_some he
  obtain ⟨k, hk, rfl⟩ := List.getElem_of_mem h1
  have hg : t.getD k zE = t[k] := by simp [List.getD_eq_getElem?_getD, hk]
  have : Plc t p k := ⟨Nat.le_of_lt hk, fun j hj => by
      have := pair_at hup hj hk
      unfold ltE at this
      rw [hg, h2] at this
      exact this, fun j h3 h4 h5 => by
      rcases Nat.lt_or_ge k j with h6 | h6
      · have := pair_at hup h6 h4
        unfold ltE at this
        rw [hg, h2] at this
        have := cmpL_lt_trans this h5
        rw [cmpL_self] at this
        omega
      · obtain rfl : j = k := by omega
        rw [hg, h2, cmpL_self] at h5
        omega⟩
  rw [← this.eq]
  refine ⟨hk, ?_⟩
  unfold stP
  rw [he, hg]
  rfl

set_option maxRecDepth 100000 in
set_option maxHeartbeats 1000000 in
theorem standing_any (v : Value) (t : List Ent) (p : List UInt8) (w : World) (h : Ents w v t) (hup : t.Pairwise ltE) (hok : ∀ e ∈ t, okP e.1 = true) (hp : okP p = true) (hn : t.length ≤ 1024) :
    Calls Tryz.prog 47 #[v, .string (mk p)] w fun r w' => r = .returned (entA (stP t p)) ∧ Below w.heap.size w w' := by
  have HB0 := hid (below_walk w (.cells #[.string ⟨#[]⟩, .int .i64 0, .string ⟨#[]⟩] 25))
  have HN0 := hid (hp_new w (.cells #[.string ⟨#[]⟩, .int .i64 0, .string ⟨#[]⟩] 25))
  have HS := hid (place_any v t p (w.alloc (.cells #[.string ⟨#[]⟩, .int .i64 0, .string ⟨#[]⟩] 25)) (h.below HB0.out) hup hok hp hn)
  have HT := hid (fun h => plP_th (t := t) (p := p) hup h)
  have HF := hid (show thP t p = false → stP t p = zE from fun h => by
    unfold thP at h
    unfold stP
    rw [Option.isSome_eq_false_iff, Option.isNone_iff_eq_none] at h
    rw [h]; rfl)
  have H := hid h
  obtain ⟨ao, c, rfl⟩ := h.shape
  generalize plP t p = I at *
  generalize thP t p = B at *
  clear h hup hok hp
  have HU := hid Tryz.underlying25
  cases B with
  | true =>
    obtain ⟨hI, hst⟩ := HT.out rfl
    obtain ⟨g, o, rfl, hgl, hx⟩ := H.out.at I hI
    rw [hst] at hx
    obtain ⟨e, HE⟩ : ∃ e, Hid (stP t p = e) := ⟨_, rfl⟩
    rw [HE.out] at hx ⊢
    have HX := hid hx
    have HG := hid hgl
    have q1 : (I : Int) < (t.length : Int) := by omega
    unfold entA
    clear HT HF hst hx hgl
    go_enter Tryz.func47, Tryz.ntmps47
    go_wp2_with fail
    refine HS.out.mono ?_
    rintro r w1 ⟨rfl, hb1⟩
    have HB1 := hid (below_then HB0.out hb1)
    have HN1 := hid ((hb1.block w.heap.size (by simp)).trans HN0.out)
    obtain ⟨x0, x1, x2⟩ := HX.out.below HG.out HB1.out
    clear hb1 HS HB0 HN0
    have g0 := row_cell HN1.out 0
    have g1 := row_cell HN1.out 1
    have g2 := row_cell HN1.out 2
    have f0 := row_fz HN1.out 0
    have f1 := row_fz HN1.out 1
    have f2 := row_fz HN1.out 2
    simp at g0 g1 g2
    go_wp2
    refine ret_row 4 25 rfl w.heap.size rfl [.string (mk e.1), .int .i64 e.2.1, .string (mk e.2.2)] 25 (by rw [blk_set (blk_set (blk_set HN1.out _) _) _]; rfl) _ Tryz.underlying25 rfl (by kernel_rfl) rfl ⟨rfl, ?_⟩
    exact ((HB1.out.setCell (by simp) _).setCell (by simp) _).setCell (by simp) _
  | false =>
    rw [HF.out rfl]
    unfold entA
    clear HT HF
    go_enter Tryz.func47, Tryz.ntmps47
    go_wp2_with fail
    refine HS.out.mono ?_
    rintro r w1 ⟨rfl, hb1⟩
    have HB1 := hid (below_then HB0.out hb1)
    have HN1 := hid ((hb1.block w.heap.size (by simp)).trans HN0.out)
    clear hb1 HS HB0 HN0
    have g0 := row_cell HN1.out 0
    have g1 := row_cell HN1.out 1
    have g2 := row_cell HN1.out 2
    have f0 := row_fz HN1.out 0
    have f1 := row_fz HN1.out 1
    have f2 := row_fz HN1.out 2
    simp at g0 g1 g2
    go_wp2
    refine ret_row 4 25 rfl w.heap.size rfl [.string ⟨#[]⟩, .int .i64 0, .string ⟨#[]⟩] 25 (by rw [blk_set (blk_set (blk_set HN1.out _) _) _]; rfl) _ Tryz.underlying25 rfl (by kernel_rfl) rfl ⟨rfl, ?_⟩
    exact ((HB1.out.setCell (by simp) _).setCell (by simp) _).setCell (by simp) _

end Go.Proofs.YteijkbanlpodpaaGreatDoor

/- The program's isDirectory, below and Find. -/
namespace Go.Proofs.YteijkbanlpodpaaGreatDoor
open Go.RowKit Go.BigFrame

theorem dirP_st {t : List Ent} {p : List UInt8} (h : p ≠ []) : dirP t p = decide ((stP t p).2.1 = 2) := by
  unfold dirP stP
  rw [decide_eq_false h, Bool.false_or]
  cases fdP t p with
  | none => rfl
  | some e => rfl

theorem field_kind (s1 s2 : ByteArray) (K : Int) (W : World) : (Instr.field 25 (.agg #[.string s1, .int .i64 K, .string s2]) 1).run Tryz.prog W = .ok (.int .i64 K) W := by kernel_rfl

set_option maxRecDepth 100000 in
set_option maxHeartbeats 1000000 in
theorem isDir_any (v : Value) (t : List Ent) (p : List UInt8) (w : World) (h : Ents w v t) (hup : t.Pairwise ltE) (hok : ∀ e ∈ t, okP e.1 = true) (hp : okP p = true) (hn : t.length ≤ 1024) :
    Calls Tryz.prog 20 #[v, .string (mk p)] w fun r w' => r = .returned (.bool (dirP t p)) ∧ Below w.heap.size w w' := by
  have HS := hid (standing_any v t p w h hup hok hp hn)
  obtain ⟨ao, c, rfl⟩ := h.shape
  unfold entA at HS
  by_cases h0 : p = []
  · have HD := hid (show dirP t p = true from by unfold dirP; rw [decide_eq_true h0]; rfl)
    have e1 : (mk p).toList = [] := by rw [h0]; exact bl_mk []
    clear h hup hok hp h0 HS
    generalize mk p = s at *
    go_enter Tryz.func20, Tryz.ntmps20
    go_wp2
    go_ret
    exact ⟨ret_bb HD.out.symm, Below.refl _ _⟩
  · have HD := hid (dirP_st (t := t) h0)
    have e1 : ¬ (mk p).toList = [] := fun h => h0 ((bl_mk p).symm.trans h)
    have e2 : ((mk p).toList == []) = false := by simpa using e1
    have e3 : (mk p).toList.isEmpty = false := by simpa using e1
    obtain ⟨K, HK⟩ : ∃ K : Int, Hid ((stP t p).2.1 = K) := ⟨_, rfl⟩
    rw [HK.out] at HS HD
    clear h hup hok hp h0 HK
    generalize mk (stP t p).1 = s1 at *
    generalize mk (stP t p).2.2 = s2 at *
    generalize mk p = s at *
    have hfk := fun W => field_kind s1 s2 K W
    by_cases hk : K = 2
    · subst hk
      go_enter Tryz.func20, Tryz.ntmps20
      go_wp2_with (go_at_call 47; refine HS.out.mono ?_; rintro r w1 ⟨rfl, hb1⟩; have HB1 := hid hb1; clear hb1)
      go_ret
      exact ⟨ret_bb (by rw [HD.out]; rfl), HB1.out⟩
    · have e4 : (K == 2) = false := by simpa using hk
      have HD2 := hid (HD.out.trans (decide_eq_false hk))
      go_enter Tryz.func20, Tryz.ntmps20
      go_wp2_with (go_at_call 47; refine HS.out.mono ?_; rintro r w1 ⟨rfl, hb1⟩; have HB1 := hid hb1; clear hb1)
      go_ret
      exact ⟨ret_bb (by rw [HD2.out]), HB1.out⟩

/-- does a path lie below a directory? -/
def lyP (d q : List UInt8) : Bool := decide (d = []) || (d ++ [47]).isPrefixOf q
/-- f tells which paths lie below a directory -/
def Lies (w : World) (f : Value) (d : List UInt8) : Prop :=
  (d = [] ∧ f = .func (.func 58) #[] #[]) ∨ (d ≠ [] ∧ ∃ B, f = .func (.func 59) #[] #[.pointer (some ⟨B, 0, none⟩)] ∧ B < w.heap.size ∧ w.cell? ⟨B, 0, none⟩ = some (.string (mk (d ++ [47]))))
theorem Lies.two {w : World} {f : Value} {d : List UInt8} (h : Lies w f d) (hd : d ≠ []) : ∃ B, f = .func (.func 59) #[] #[.pointer (some ⟨B, 0, none⟩)] ∧ B < w.heap.size ∧ w.cell? ⟨B, 0, none⟩ = some (.string (mk (d ++ [47]))) := by
  rcases h with h | h
  · exact absurd h.1 hd
  · exact h.2
theorem Lies.below {w w' : World} {f : Value} {d : List UInt8} (h : Lies w f d) (hb : Below w.heap.size w w') : Lies w' f d := by
  rcases h with h | ⟨h0, B, h1, h2, h3⟩
  · exact Or.inl h
  · exact Or.inr ⟨h0, B, h1, Nat.lt_of_lt_of_le h2 hb.size, (hb.cell (p := ⟨B, 0, none⟩) h2).trans h3⟩

set_option maxRecDepth 100000 in
set_option maxHeartbeats 1000000 in
theorem below_fn (d : List UInt8) (w : World) (hd : d.length ≤ 4611686018427387904) :
    Calls Tryz.prog 33 #[.string (mk d)] w fun r w' => ∃ f, r = .returned f ∧ Lies w' f d ∧ Below w.heap.size w w' := by
  by_cases h0 : d = []
  · have HL := hid (show Lies w (.func (.func 58) #[] #[]) d from Or.inl ⟨h0, rfl⟩)
    have e1 : (mk d).toList = [] := by rw [h0]; exact bl_mk []
    clear h0
    generalize mk d = s at *
    go_enter Tryz.func33, Tryz.ntmps33
    go_wp2
    go_ret
    exact ⟨_, rfl, HL.out, Below.refl _ _⟩
  · have e1 : ¬ (mk d).toList = [] := fun h => h0 ((bl_mk d).symm.trans h)
    have e2 : ((mk d).toList == []) = false := by simpa using e1
    have e3 : (mk d).toList.isEmpty = false := by simpa using e1
    have hadd := fun W => str_add d [47] (by simp; omega) W
    have HL := hid (show ∀ W : World, W.cell? ⟨w.heap.size, 0, none⟩ = some (.string (mk (d ++ [47]))) → w.heap.size < W.heap.size → Lies W (.func (.func 59) #[] #[.pointer (some ⟨w.heap.size, 0, none⟩)]) d from fun W h1 h2 => Or.inr ⟨h0, _, rfl, h2, h1⟩)
    have HB := hid (below_walk w (.cells #[.string (mk (d ++ [47]))] 9))
    have HN := hid (hp_new w (.cells #[.string (mk (d ++ [47]))] 9))
    change ∀ W, (Op.stringOp .add (mk d) ⟨#[47]⟩).run Tryz.prog W = .ok (.string (mk (d ++ [47]))) W at hadd
    clear h0
    generalize mk (d ++ [47]) = s2 at *
    generalize mk d = s at *
    go_enter Tryz.func33, Tryz.ntmps33
    go_wp2
    go_ret
    exact ⟨_, rfl, HL.out _ (by rw [row_cell HN.out 0]; rfl) (hp_lt HN.out), HB.out⟩

set_option maxRecDepth 100000 in
set_option maxHeartbeats 1000000 in
theorem lies_one (q : List UInt8) (w : World) : Calls Tryz.prog 58 #[.string (mk q)] w fun r w' => r = .returned (.bool true) ∧ w' = w := by
  generalize mk q = s
  go_enter Tryz.func58, Tryz.ntmps58
  go_wp2
  go_ret
  exact ⟨rfl, rfl⟩

set_option maxRecDepth 100000 in
set_option maxHeartbeats 1000000 in
theorem lies_two (B : Nat) (d q : List UInt8) (w : World) (h : w.cell? ⟨B, 0, none⟩ = some (.string (mk (d ++ [47])))) :
    Calls Tryz.prog 59 #[.string (mk q), .pointer (some ⟨B, 0, none⟩)] w fun r w' => r = .returned (.bool ((d ++ [47]).isPrefixOf q)) ∧ w' = w := by
  have HP := hid (pre_any (mk q) (mk (d ++ [47])) w)
  rw [bl_mk, bl_mk] at HP
  generalize mk (d ++ [47]) = s2 at *
  generalize mk q = s at *
  go_enter Tryz.func59, Tryz.ntmps59
  go_wp2_with (go_at_call 60; refine HP.out.mono ?_; rintro r w1 ⟨rfl, rfl⟩)
  go_ret
  exact ⟨rfl, rfl⟩

end Go.Proofs.YteijkbanlpodpaaGreatDoor

/- What lies below a directory: plainly. -/
namespace Go.Proofs.YteijkbanlpodpaaGreatDoor

theorem spD_pre {p : List UInt8} (h : okP p = true) (h0 : p ≠ []) (h1 : spD p ≠ []) : ∃ x, p = spD p ++ 47 :: x := by
  obtain ⟨x, hx⟩ := nms_last h h0
  refine ⟨x, ?_⟩
  have h2 : nms (spD p) ≠ [] := fun h3 => h1 (nms_nil.1 h3)
  have h3 := txt_app h2 (r := [x]) (by simp)
  rw [← hx, txt_nms, txt_nms, txt_one] at h3
  exact h3
theorem ly_up {p : List UInt8} {e : Ent} (hm : mayP e = true) (hp : p ≠ []) (h1 : spD e.1 ≠ []) (h : spD e.1 = p ∨ lyP p (spD e.1) = true) : lyP p e.1 = true := by
  obtain ⟨x, hx⟩ := spD_pre (mayP_ok hm) (mayP_ne hm) h1
  unfold lyP at h ⊢
  rw [decide_eq_false hp, Bool.false_or] at h ⊢
  rw [List.isPrefixOf_iff_prefix] at h ⊢
  rcases h with h | h
  · refine ⟨x, ?_⟩
    rw [hx, h]
    simp
  · refine h.trans ⟨47 :: x, ?_⟩
    exact hx.symm
/-- how the law tells what lies under a path -/
theorem under_is {p q : List UInt8} (hp : p ≠ []) : lyP p q = true ↔ p.length < q.length ∧ q.take p.length = p ∧ q.getD p.length 0 = 47 := by
  unfold lyP
  rw [decide_eq_false hp, Bool.false_or, List.isPrefixOf_iff_prefix]
  constructor
  · rintro ⟨r, rfl⟩
    refine ⟨by simp, by simp, ?_⟩
    simp [List.getD_eq_getElem?_getD]
  · rintro ⟨h1, h2, h3⟩
    refine ⟨q.drop (p.length + 1), ?_⟩
    have h4 : q = q.take p.length ++ q.drop p.length := (List.take_append_drop _ _).symm
    have h5 : q.drop p.length = q[p.length] :: q.drop (p.length + 1) := List.drop_eq_getElem_cons h1
    have h6 : q[p.length] = 47 := by
      rw [List.getD_eq_getElem?_getD, List.getElem?_eq_getElem h1] at h3
      exact h3
    rw [h5, h6, h2] at h4
    rw [List.append_assoc]
    exact h4.symm

/-- a path as it is told below a directory -/
def cutP (d p : List UInt8) : List UInt8 := if d = [] then p else p.drop (d.length + 1)
/-- a path below a directory -/
def mvT (d q : List UInt8) : List UInt8 := if d = [] then q else d ++ 47 :: q
def subE (d : List UInt8) (e : Ent) : Ent := (cutP d e.1, e.2)
def mvE (d : List UInt8) (e : Ent) : Ent := (mvT d e.1, e.2)
theorem mv_cut {d p : List UInt8} (h : lyP d p = true) : mvT d (cutP d p) = p := by
  unfold mvT cutP
  by_cases hd : d = []
  · rw [if_pos hd, if_pos hd]
  · rw [if_neg hd, if_neg hd]
    unfold lyP at h
    rw [decide_eq_false hd, Bool.false_or, List.isPrefixOf_iff_prefix] at h
    obtain ⟨r, rfl⟩ := h
    rw [List.append_assoc, ← List.drop_drop, List.drop_left]
    rfl
theorem cut_mv (d q : List UInt8) : cutP d (mvT d q) = q := by
  unfold mvT cutP
  by_cases hd : d = []
  · rw [if_pos hd, if_pos hd]
  · rw [if_neg hd, if_neg hd, ← List.drop_drop, List.drop_left]
    rfl
theorem ly_mv (d q : List UInt8) : lyP d (mvT d q) = true := by
  unfold lyP mvT
  by_cases hd : d = []
  · rw [decide_eq_true hd, Bool.true_or]
  · rw [if_neg hd, decide_eq_false hd, Bool.false_or, List.isPrefixOf_iff_prefix]
    exact ⟨q, by rw [List.append_assoc]; rfl⟩
theorem nms_mv {d q : List UInt8} (h0 : q ≠ []) : nms (mvT d q) = nms d ++ nms q := by
  unfold mvT
  by_cases hd : d = []
  · rw [if_pos hd, hd, nms_e, List.nil_append]
  · rw [if_neg hd]
    unfold nms
    rw [if_neg hd, if_neg h0, if_neg (by simp), pcs_append]
theorem mv_ne {d q : List UInt8} (h0 : q ≠ []) : mvT d q ≠ [] := by
  unfold mvT
  split
  · exact h0
  · simp
theorem cut_ok {d p : List UInt8} (hp : okP p = true) (h0 : p ≠ []) (h : lyP d p = true) : okP (cutP d p) = true ∧ cutP d p ≠ [] ∧ nms p = nms d ++ nms (cutP d p) := by
  have e := mv_cut h
  have hq : cutP d p ≠ [] := by
    intro hq
    rw [hq] at e
    unfold mvT at e
    split at e
    · exact h0 e.symm
    · rename_i hd
      have h1 := ((okP_iff p).1 hp).1 [] (by
        unfold nms
        rw [if_neg h0, ← e, pcs_append]
        exact List.mem_append.2 (Or.inr (by simp [pcs])))
      simp [nmP] at h1
  have hn := nms_mv (d := d) hq
  rw [e] at hn
  have h2 := (okP_iff p).1 hp
  rw [hn] at h2
  refine ⟨(okP_iff _).2 ⟨fun x hx => h2.1 x (List.mem_append.2 (Or.inr hx)), ?_⟩, hq, hn⟩
  have := h2.2
  rw [List.length_append] at this
  omega
theorem mv_ok {d q : List UInt8} (hd : okP d = true) (hq : okP q = true) (h0 : q ≠ []) : okP (mvT d q) = decide ((nms d).length + (nms q).length ≤ 32) := by
  have h1 := ((okP_iff d).1 hd).1
  have h2 := ((okP_iff q).1 hq).1
  unfold okP
  rw [nms_mv h0, List.length_append, show (nms d ++ nms q).all nmP = true from List.all_eq_true.2 (fun x hx => (List.mem_append.1 hx).elim (h1 x) (h2 x)), Bool.true_and]
theorem cmpL_app : ∀ (a x y : List (List UInt8)), cmpL (a ++ x) (a ++ y) = cmpL x y
  | [], x, y => rfl
  | z :: a, x, y => by
    rw [List.cons_append, List.cons_append, show cmpL (z :: (a ++ x)) (z :: (a ++ y)) = if cb z z = 0 then cmpL (a ++ x) (a ++ y) else cb z z from rfl, if_pos (cb_self z), cmpL_app a x y]
theorem ly_self {d : List UInt8} (hd : d ≠ []) : lyP d d = false := by
  cases h : lyP d d with
  | false => rfl
  | true =>
    have := ((under_is hd).1 h).1
    omega
theorem ly_of {d p : List UInt8} {r : List (List UInt8)} (hr : r ≠ []) (h : nms p = nms d ++ r) : lyP d p = true := by
  by_cases h0 : d = []
  · unfold lyP
    rw [decide_eq_true h0, Bool.true_or]
  · have h1 : nms d ≠ [] := fun e => h0 (nms_nil.1 e)
    have h2 := txt_app h1 hr
    rw [← h, txt_nms, txt_nms] at h2
    rw [h2]
    have := ly_mv d (txt r)
    unfold mvT at this
    rwa [if_neg h0] at this
theorem ly_lt {d : List UInt8} {m : Ent} (hm : okP m.1 = true) (h0 : m.1 ≠ []) (h : lyP d m.1 = true) : cmpL (nms d) (nms m.1) < 0 := by
  obtain ⟨h1, h2, h3⟩ := cut_ok hm h0 h
  rw [h3, cmpL_pre (fun e => h2 (nms_nil.1 e))]
  decide
/-- what stands behind a directory and not below it stands behind all that is below it -/
theorem ly_behind {d : List UInt8} {m e : Ent} (hm : okP m.1 = true) (h0 : m.1 ≠ []) (h : lyP d m.1 = true) (hn : lyP d e.1 = false) (hlt : cmpL (nms d) (nms e.1) < 0) : ltE m e := by
  obtain ⟨h1, h2, h3⟩ := cut_ok hm h0 h
  have hr : nms (cutP d m.1) ≠ [] := fun e => h2 (nms_nil.1 e)
  have no : ∀ r, r ≠ [] → nms e.1 ≠ nms d ++ r := fun r h4 h5 => by
    rw [ly_of h4 h5] at hn
    cases hn
  unfold ltE
  rcases cmpL_range (nms m.1) (nms e.1) with h4 | h4 | h4
  · omega
  · exact absurd ((cmpL_zero h4).symm.trans h3) (no _ hr)
  · have h5 := cmpL_anti (nms m.1) (nms e.1)
    rw [h4, h3] at h5
    obtain ⟨t, h6, h7⟩ := cmpL_between hlt (r := nms (cutP d m.1)) (by omega)
    exact absurd h7 (no t h6)

theorem sz_map (f : Ent → Ent) (h : ∀ e, (f e).2 = e.2) (t : List Ent) : szP (t.map f) = szP t := by
  unfold szP
  rw [List.map_map]
  congr 2
  funext e
  rw [Function.comp, h]
theorem szL_filter (f : Ent → Bool) : ∀ t : List Ent, szP (t.filter f) ≤ szP t
  | [] => Nat.le_refl _
  | x :: t => by
    have ih := szL_filter f t
    have h4 : szP (x :: t) = x.2.2.length + szP t := by simp [szP]
    rw [List.filter_cons]
    split
    · have h5 : szP (x :: t.filter f) = x.2.2.length + szP (t.filter f) := by simp [szP]
      omega
    · omega
theorem may_of {e f : Ent} (h : mayP e = true) (h1 : f.2 = e.2) (h2 : okP f.1 = true) (h3 : f.1 ≠ []) : mayP f = true := by
  unfold mayP at h ⊢
  rw [Bool.and_eq_true, Bool.and_eq_true] at h
  rw [h1, h2, decide_eq_true h3, h.2]
  rfl
/-- what lies below a directory of a right tree -/
def subL (t : List Ent) (d : List UInt8) : List Ent := (t.filter (fun e => lyP d e.1)).map (subE d)
theorem sub_rgt {t : List Ent} (d : List UInt8) (h : Rgt t) : Rgt (subL t d) := by
  unfold subL
  refine ⟨⟨fun e he => ?_, ?_, fun e he => ?_⟩, ?_, ?_⟩
  · obtain ⟨f, hf, rfl⟩ := List.mem_map.1 he
    obtain ⟨h1, h2⟩ := List.mem_filter.1 hf
    have hm := h.may f h1
    obtain ⟨h3, h4, _⟩ := cut_ok (mayP_ok hm) (mayP_ne hm) h2
    exact may_of hm rfl h3 h4
  · rw [List.pairwise_map]
    refine List.Pairwise.imp_of_mem ?_ (h.up.sublist List.filter_sublist)
    intro a b ha hb hab
    obtain ⟨a1, a2⟩ := List.mem_filter.1 ha
    obtain ⟨b1, b2⟩ := List.mem_filter.1 hb
    obtain ⟨_, _, a3⟩ := cut_ok (mayP_ok (h.may a a1)) (mayP_ne (h.may a a1)) a2
    obtain ⟨_, _, b3⟩ := cut_ok (mayP_ok (h.may b b1)) (mayP_ne (h.may b b1)) b2
    unfold ltE at hab ⊢
    rw [a3, b3, cmpL_app] at hab
    exact hab
  · obtain ⟨f, hf, rfl⟩ := List.mem_map.1 he
    obtain ⟨h1, h2⟩ := List.mem_filter.1 hf
    have hm := h.may f h1
    obtain ⟨h3, h4, h5⟩ := cut_ok (mayP_ok hm) (mayP_ne hm) h2
    by_cases h6 : spD (cutP d f.1) = []
    · exact Or.inl h6
    · right
      have h7 : nms (spD f.1) = nms (mvT d (spD (cutP d f.1))) := by
        have hne : nms (cutP d f.1) ≠ [] := fun e => h4 (nms_nil.1 e)
        rw [nms_spD (mayP_ok hm), nms_mv h6, nms_spD h3, h5, List.dropLast_append_of_ne_nil hne]
      have h8 := nms_inj h7
      rcases h.dir f h1 with h9 | ⟨g, h9, h10, h11⟩
      · rw [h9] at h8
        exact absurd h8.symm (mv_ne h6)
      · refine ⟨subE d g, List.mem_map.2 ⟨g, List.mem_filter.2 ⟨h9, ?_⟩, rfl⟩, ?_, h11⟩
        · rw [h10, h8]
          exact ly_mv _ _
        · show cutP d g.1 = spD (cutP d f.1)
          rw [h10, h8, cut_mv]
  · rw [List.length_map]
    exact Nat.le_trans (List.length_filter_le _ _) h.many
  · rw [sz_map (subE d) (fun _ => rfl)]
    exact Nat.le_trans (szL_filter _ _) h.big

/-- entries laid right behind their directory, in the place of what lies below it -/
def rpB (d : List UInt8) (t M : List Ent) : List Ent :=
  if d = [] then M else t.flatMap (fun e => (if lyP d e.1 = true then [] else [e]) ++ (if e.1 = d then M else []))
theorem mem_rpB {d : List UInt8} {t M : List Ent} (h : d = [] ∨ ∃ f ∈ t, f.1 = d) {e : Ent} : e ∈ rpB d t M ↔ (e ∈ t ∧ lyP d e.1 = false) ∨ e ∈ M := by
  unfold rpB
  by_cases hd : d = []
  · rw [if_pos hd]
    constructor
    · exact Or.inr
    · rintro (h1 | h1)
      · have := h1.2
        unfold lyP at this
        rw [decide_eq_true hd, Bool.true_or] at this
        cases this
      · exact h1
  · rw [if_neg hd, List.mem_flatMap]
    constructor
    · rintro ⟨f, hf, hm⟩
      rcases List.mem_append.1 hm with h1 | h1
      · split at h1
        · simp at h1
        · rename_i h2
          rw [List.mem_singleton] at h1
          subst h1
          exact Or.inl ⟨hf, by simpa using h2⟩
      · split at h1
        · exact Or.inr h1
        · simp at h1
    · rintro (⟨h1, h2⟩ | h1)
      · exact ⟨e, h1, List.mem_append.2 (Or.inl (by rw [h2]; simp))⟩
      · rcases h with h | ⟨f, hf, h3⟩
        · exact absurd h hd
        · exact ⟨f, hf, List.mem_append.2 (Or.inr (by rw [if_pos h3]; exact h1))⟩
/-- entries that all lie below a directory -/
structure LyM (d : List UInt8) (M : List Ent) : Prop where
  up : M.Pairwise ltE
  ly : ∀ m ∈ M, lyP d m.1 = true ∧ okP m.1 = true ∧ m.1 ≠ []
theorem rpB_up {d : List UInt8} {t M : List Ent} (ht : Rgt t) (hM : LyM d M) : (rpB d t M).Pairwise ltE := by
  unfold rpB
  by_cases h0 : d = []
  · rw [if_pos h0]
    exact hM.up
  · rw [if_neg h0, List.pairwise_flatMap]
    refine ⟨fun e he => ?_, List.Pairwise.imp_of_mem ?_ ht.up⟩
    · rw [List.pairwise_append]
      refine ⟨by split <;> simp, by split <;> simp [hM.up], fun x hx y hy => ?_⟩
      split at hx
      · simp at hx
      · rw [List.mem_singleton] at hx
        subst hx
        split at hy
        · rename_i h1
          obtain ⟨h2, h3, h4⟩ := hM.ly y hy
          unfold ltE
          rw [h1]
          exact ly_lt h3 h4 h2
        · simp at hy
    · intro a b ha hb hab x hx y hy
      rcases List.mem_append.1 hx with hx | hx
      · split at hx
        · simp at hx
        · rw [List.mem_singleton] at hx
          subst hx
          rcases List.mem_append.1 hy with hy | hy
          · split at hy
            · simp at hy
            · rw [List.mem_singleton] at hy
              subst hy
              exact hab
          · split at hy
            · rename_i h1
              obtain ⟨h2, h3, h4⟩ := hM.ly y hy
              have h5 := ly_lt h3 h4 h2
              unfold ltE at hab ⊢
              rw [h1] at hab
              exact cmpL_lt_trans hab h5
            · simp at hy
      · split at hx
        · rename_i h1
          obtain ⟨h2, h3, h4⟩ := hM.ly x hx
          rcases List.mem_append.1 hy with hy | hy
          · split at hy
            · simp at hy
            · rename_i h5
              rw [List.mem_singleton] at hy
              subst hy
              unfold ltE at hab
              rw [h1] at hab
              exact ly_behind h3 h4 h2 (by simpa using h5) hab
          · split at hy
            · rename_i h5
              exact absurd (h1.trans h5.symm) (ltE_ne hab)
            · simp at hy
        · simp at hx
theorem mv_ly {d : List UInt8} {s : List Ent} (hs : Rgt s) (hok : ∀ e ∈ s, okP (mvT d e.1) = true) : LyM d (s.map (mvE d)) := by
  constructor
  · rw [List.pairwise_map]
    refine List.Pairwise.imp_of_mem ?_ hs.up
    intro a b ha hb hab
    unfold ltE at hab ⊢
    show cmpL (nms (mvT d a.1)) (nms (mvT d b.1)) < 0
    rw [nms_mv (mayP_ne (hs.may a ha)), nms_mv (mayP_ne (hs.may b hb)), cmpL_app]
    exact hab
  · intro m hm
    obtain ⟨e, he, rfl⟩ := List.mem_map.1 hm
    exact ⟨ly_mv _ _, hok e he, mv_ne (mayP_ne (hs.may e he))⟩
/-- a right tree in the place of a directory of a right tree: a right tree, if it is not too much -/
theorem rpB_rgt {d : List UInt8} {t s : List Ent} (ht : Rgt t) (hs : Rgt s) (hdir : dirP t d = true) (hok : ∀ e ∈ s, okP (mvT d e.1) = true)
    (hm : (rpB d t (s.map (mvE d))).length ≤ 1024) (hb : szP (rpB d t (s.map (mvE d))) ≤ 1048576) : Rgt (rpB d t (s.map (mvE d))) := by
  have hL := mv_ly hs hok
  have hw := (dirP_of ht.up).1 hdir
  have hw' : d = [] ∨ ∃ f ∈ t, f.1 = d := hw.imp id (fun ⟨f, h1, h2, _⟩ => ⟨f, h1, h2⟩)
  refine ⟨⟨fun e he => ?_, rpB_up ht hL, fun e he => ?_⟩, hm, hb⟩
  · rcases (mem_rpB hw').1 he with h1 | h1
    · exact ht.may e h1.1
    · obtain ⟨f, hf, rfl⟩ := List.mem_map.1 h1
      exact may_of (hs.may f hf) rfl (hok f hf) (mv_ne (mayP_ne (hs.may f hf)))
  · rcases (mem_rpB hw').1 he with ⟨h1, h2⟩ | h1
    · by_cases h3 : spD e.1 = []
      · exact Or.inl h3
      · rcases ht.dir e h1 with h4 | ⟨g, h4, h5, h6⟩
        · exact absurd h4 h3
        · refine Or.inr ⟨g, (mem_rpB hw').2 (Or.inl ⟨h4, ?_⟩), h5, h6⟩
          by_cases h0 : d = []
          · unfold lyP at h2
            rw [decide_eq_true h0, Bool.true_or] at h2
            cases h2
          · cases h7 : lyP d g.1 with
            | false => rfl
            | true =>
              rw [h5] at h7
              rw [ly_up (ht.may e h1) h0 h3 (Or.inr h7)] at h2
              cases h2
    · obtain ⟨f, hf, rfl⟩ := List.mem_map.1 h1
      have hmf := hs.may f hf
      have h3 : nms (spD (mvT d f.1)) = nms d ++ nms (spD f.1) := by
        rw [nms_spD (hok f hf), nms_mv (mayP_ne hmf), nms_spD (mayP_ok hmf), List.dropLast_append_of_ne_nil (mayP_nms hmf)]
      by_cases h4 : spD f.1 = []
      · rw [h4, nms_e, List.append_nil] at h3
        have h5 := nms_inj h3
        rcases hw with h6 | ⟨g, h6, h7, h8⟩
        · left
          show spD (mvT d f.1) = []
          rw [h5, h6]
        · by_cases h0 : d = []
          · left
            show spD (mvT d f.1) = []
            rw [h5, h0]
          · right
            refine ⟨g, (mem_rpB hw').2 (Or.inl ⟨h6, by rw [h7]; exact ly_self h0⟩), ?_, h8⟩
            show g.1 = spD (mvT d f.1)
            rw [h5, h7]
      · rw [← nms_mv h4] at h3
        have h5 := nms_inj h3
        rcases hs.dir f hf with h6 | ⟨g, h6, h7, h8⟩
        · exact absurd h6 h4
        · right
          refine ⟨mvE d g, (mem_rpB hw').2 (Or.inr (List.mem_map.2 ⟨g, h6, rfl⟩)), ?_, h8⟩
          show mvT d g.1 = spD (mvT d f.1)
          rw [h5, h7]
theorem mv_sub (t : List Ent) (d : List UInt8) : (subL t d).map (mvE d) = t.filter (fun e => lyP d e.1) := by
  unfold subL
  rw [List.map_map]
  conv => rhs; rw [← List.map_id (t.filter (fun e => lyP d e.1))]
  refine List.map_congr_left (fun e he => ?_)
  show (mvT d (cutP d e.1), e.2) = e
  rw [mv_cut (List.mem_filter.1 he).2]
theorem sub_mv (s : List Ent) (d : List UInt8) : (s.map (mvE d)).map (subE d) = s := by
  rw [List.map_map]
  conv => rhs; rw [← List.map_id s]
  refine List.map_congr_left (fun e _ => ?_)
  show (cutP d (mvT d e.1), e.2) = e
  rw [cut_mv]
theorem rpB_sub {d : List UInt8} {t : List Ent} (ht : Rgt t) (hdir : dirP t d = true) : rpB d t ((subL t d).map (mvE d)) = t := by
  have hw' : d = [] ∨ ∃ f ∈ t, f.1 = d := ((dirP_of ht.up).1 hdir).imp id (fun ⟨f, h1, h2, _⟩ => ⟨f, h1, h2⟩)
  rw [mv_sub]
  refine pair_ext (rpB_up ht ⟨ht.up.sublist List.filter_sublist, fun m hm => ?_⟩) ht.up (fun e => ?_)
  · obtain ⟨h1, h2⟩ := List.mem_filter.1 hm
    exact ⟨h2, mayP_ok (ht.may m h1), mayP_ne (ht.may m h1)⟩
  · rw [mem_rpB hw', List.mem_filter]
    constructor
    · rintro (h | h) <;> exact h.1
    · intro h
      cases hl : lyP d e.1 with
      | false => exact Or.inl ⟨h, rfl⟩
      | true => exact Or.inr ⟨h, rfl⟩
theorem sub_rpB {d : List UInt8} {t s : List Ent} (ht : Rgt t) (hs : Rgt s) (hdir : dirP t d = true) (hok : ∀ e ∈ s, okP (mvT d e.1) = true) : subL (rpB d t (s.map (mvE d))) d = s := by
  have hw' : d = [] ∨ ∃ f ∈ t, f.1 = d := ((dirP_of ht.up).1 hdir).imp id (fun ⟨f, h1, h2, _⟩ => ⟨f, h1, h2⟩)
  have hL := mv_ly hs hok
  have h1 : (rpB d t (s.map (mvE d))).filter (fun e => lyP d e.1) = s.map (mvE d) := by
    refine pair_ext ((rpB_up ht hL).sublist List.filter_sublist) hL.up (fun e => ?_)
    rw [List.mem_filter, mem_rpB hw']
    constructor
    · rintro ⟨h | h, h2⟩
      · rw [h.2] at h2
        cases h2
      · exact h
    · exact fun h => ⟨Or.inr h, (hL.ly e h).1⟩
  unfold subL
  rw [h1, sub_mv]

end Go.Proofs.YteijkbanlpodpaaGreatDoor

/- What Sub and Graft answer; what is cut out and put back: plainly. -/
namespace Go.Proofs.YteijkbanlpodpaaGreatDoor

/-- why a text is no directory -/
def whP (t : List Ent) (d : List UInt8) : Int := if okP d = false then 45 else if dirP t d = true then 0 else if thP t d = false then 8 else 102
def sbP (t : List Ent) (d : List UInt8) : Except Int (List Ent) := if (chkP t).2 ≠ 0 then .error (chkP t).2 else if whP t d ≠ 0 then .error (whP t d) else .ok (subL t d)
/-- do all paths fit below a directory? -/
def mvOk (d : List UInt8) (s : List Ent) : Bool := s.all (fun e => okP (mvT d e.1))
def grP (t : List Ent) (d : List UInt8) (s : List Ent) : Except Int (List Ent) :=
  if (chkP t).2 ≠ 0 then .error (chkP t).2 else if (chkP s).2 ≠ 0 then .error (chkP s).2 else if whP t d ≠ 0 then .error (whP t d)
  else if mvOk d s = false then .error 44 else fitP (rpB d t (s.map (mvE d)))
theorem wh_zero {t : List Ent} {d : List UInt8} : whP t d = 0 ↔ okP d = true ∧ dirP t d = true := by
  unfold whP
  cases h1 : okP d <;> cases h2 : dirP t d <;> cases h3 : thP t d <;> simp
theorem sb_ok {t u : List Ent} {d : List UInt8} (h : sbP t d = .ok u) : Rgt t ∧ okP d = true ∧ dirP t d = true ∧ u = subL t d := by
  unfold sbP at h
  split at h
  · cases h
  · rename_i h0
    split at h
    · cases h
    · rename_i h1
      obtain ⟨h2, h3⟩ := wh_zero.1 (Decidable.not_not.1 h1)
      injection h with h
      exact ⟨rgt_iff.1 (Decidable.not_not.1 h0), h2, h3, h.symm⟩
theorem fit_rgt {t : List Ent} (h : Rgt t) : fitP t = .ok t := by
  unfold fitP
  rw [if_neg (by have := h.many; omega), if_neg (by have := h.big; omega)]
theorem fit_ok {t u : List Ent} (h : fitP t = .ok u) : u = t ∧ t.length ≤ 1024 ∧ szP t ≤ 1048576 := by
  unfold fitP at h
  split at h
  · cases h
  · split at h
    · cases h
    · injection h with h
      exact ⟨h.symm, by omega, by omega⟩
/-- what is cut out and put back leaves the tree as it was -/
theorem graft_back {t u : List Ent} {d : List UInt8} (h : sbP t d = .ok u) : grP t d u = .ok t := by
  obtain ⟨h1, h2, h3, rfl⟩ := sb_ok h
  unfold grP
  rw [rgt_iff.2 h1, rgt_iff.2 (sub_rgt d h1), wh_zero.2 ⟨h2, h3⟩, if_neg (by simp), if_neg (by simp), if_neg (by simp), if_neg, rpB_sub h1 h3, fit_rgt h1]
  intro h4
  have : mvOk d (subL t d) = true := by
    unfold mvOk
    rw [List.all_eq_true]
    intro e he
    have := List.mem_map_of_mem (f := mvE d) he
    rw [mv_sub] at this
    exact mayP_ok (h1.may _ (List.mem_filter.1 this).1)
  rw [this] at h4
  cases h4
/-- what is put in is what is cut out -/
theorem sub_back {t s w : List Ent} {d : List UInt8} (h : grP t d s = .ok w) : sbP w d = .ok s := by
  unfold grP at h
  split at h
  · cases h
  · rename_i h0
    split at h
    · cases h
    · rename_i h1
      split at h
      · cases h
      · rename_i h2
        split at h
        · cases h
        · rename_i h3
          have ht := rgt_iff.1 (Decidable.not_not.1 h0)
          have hs := rgt_iff.1 (Decidable.not_not.1 h1)
          obtain ⟨h4, h5⟩ := wh_zero.1 (Decidable.not_not.1 h2)
          have hok : ∀ e ∈ s, okP (mvT d e.1) = true := by
            have h6 : mvOk d s = true := by cases e : mvOk d s <;> simp_all
            exact List.all_eq_true.1 h6
          obtain ⟨rfl, h6, h7⟩ := fit_ok h
          have hw := rpB_rgt ht hs h5 hok h6 h7
          have hdir : dirP (rpB d t (s.map (mvE d))) d = true := by
            have h8 := (dirP_of ht.up).1 h5
            refine (dirP_of hw.up).2 ?_
            by_cases h9 : d = []
            · exact Or.inl h9
            · rcases h8 with h8 | ⟨g, g1, g2, g3⟩
              · exact Or.inl h8
              · exact Or.inr ⟨g, (mem_rpB (Or.inr ⟨g, g1, g2⟩)).2 (Or.inl ⟨g1, by rw [g2]; exact ly_self h9⟩), g2, g3⟩
          unfold sbP
          rw [rgt_iff.2 hw, wh_zero.2 ⟨h4, hdir⟩, if_neg (by simp), if_neg (by simp), sub_rpB ht hs h5 hok]

theorem sbP_err {t : List Ent} {d : List UInt8} {E : Int} (h : sbP t d = .error E) : E ≠ 0 := by
  unfold sbP at h
  split at h
  · injection h with h; rw [← h]; assumption
  · split at h
    · injection h with h; rw [← h]; assumption
    · cases h
theorem grP_err {t s : List Ent} {d : List UInt8} {E : Int} (h : grP t d s = .error E) : E ≠ 0 := by
  unfold grP at h
  split at h
  · injection h with h; rw [← h]; assumption
  · split at h
    · injection h with h; rw [← h]; assumption
    · split at h
      · injection h with h; rw [← h]; assumption
      · split at h
        · injection h with h; rw [← h]; decide
        · unfold fitP at h
          split at h
          · injection h with h; rw [← h]; decide
          · split at h
            · injection h with h; rw [← h]; decide
            · cases h

end Go.Proofs.YteijkbanlpodpaaGreatDoor

/- The beginning of a text, cut; and its bytes. -/
namespace Go.Proofs.YteijkbanlpodpaaGreatDoor
open Go.RowKit

theorem text_to (q : List UInt8) (k : Nat) (hk : k ≤ q.length) (W : World) : (Instr.slice 9 (.string (mk q)) none (some (.int .i64 (k : Int))) none).run Tryz.prog W = .ok (.string (mk (q.take k))) W := by
  have h1 : (mk q).size = q.length := mk_size q
  have h2 : (k : Int) ≤ ((mk q).size : Int) := by rw [h1]; omega
  have h3 : (mk q).extract 0 k = mk (q.take k) := by
    apply ByteArray.ext
    simp [ByteArray.data_extract, mk]
  go_simp
  first | done | simp [h3] | exact h3
theorem text_at (q : List UInt8) (k : Nat) (hk : k < q.length) (W : World) : (Instr.index 9 (.string (mk q)) (.int .i64 (k : Int))).run Tryz.prog W = .ok (.int .u8 ((q.getD k 0).toNat : Nat)) W := by
  have := bl_at (mk q) k (by rw [bl_mk]; exact hk) W
  rw [bl_mk] at this
  exact this

end Go.Proofs.YteijkbanlpodpaaGreatDoor

/- Entries are compared. -/
namespace Go.Proofs.YteijkbanlpodpaaGreatDoor
open Go.RowKit

theorem entG : Tryz.prog.eqGuardType Tryz.prog.depth 25 = false := by kernel_rfl
theorem eq_run (s1 s2 d1 d2 : ByteArray) (k1 k2 : Int) (w : World) : (Op.equalIn 10000 25 (.agg #[.string s1, .int .i64 k1, .string d1]) (.agg #[.string s2, .int .i64 k2, .string d2])).run Tryz.prog w = .ok (s1.toList == s2.toList && k1 == k2 && d1.toList == d2.toList) w := by
  have hS : Tryz.prog.underlying 25 = some (.struct (Tryz.prog.fieldsOf 25)) := by kernel_rfl
  have hp : Tryz.prog.stoodInHeld 25 = false := by kernel_rfl
  have u3 := Tryz.underlying3
  have a3 := Tryz.isAgg3
  have z3 := Tryz.sizeOf3
  have u9 := Tryz.underlying9
  have a9 := Tryz.isAgg9
  have z9 := Tryz.sizeOf9
  rw [show (10000 : Nat) = 9999 + 1 from rfl, run_equalIn_agg w 9999 25 _ _ hS hp]
  simp only [Program.fieldsOf, Tryz.underlying25]
  go_simp
  by_cases h1 : s1.toList = s2.toList <;> by_cases h2 : k1 = k2 <;> by_cases h3 : d1.toList = d2.toList <;> simp [h1, h2, h3]
theorem eqb_ent (a b : Ent) : ((mk a.1).toList == (mk b.1).toList && a.2.1 == b.2.1 && (mk a.2.2).toList == (mk b.2.2).toList) = decide (a = b) := by
  have e1 : ∀ l, (mk l).toList = l := bl_mk
  rw [e1, e1, e1, e1, Bool.eq_iff_iff]
  obtain ⟨p, k, d⟩ := a
  obtain ⟨p', k', d'⟩ := b
  simp [and_assoc]
theorem eql_ent (a b : Ent) (w : World) : (binOp .eql 25 (.agg #[.string (mk a.1), .int .i64 a.2.1, .string (mk a.2.2)]) (.agg #[.string (mk b.1), .int .i64 b.2.1, .string (mk b.2.2)])).run Tryz.prog w = .ok (.bool (decide (a = b))) w := by
  rw [run_eql_struct, eq_run, eqb_ent]
  rfl
theorem neq_ent (a b : Ent) (w : World) : (binOp .neq 25 (.agg #[.string (mk a.1), .int .i64 a.2.1, .string (mk a.2.2)]) (.agg #[.string (mk b.1), .int .i64 b.2.1, .string (mk b.2.2)])).run Tryz.prog w = .ok (.bool (!decide (a = b))) w := by
  rw [run_neq_struct, eq_run, eqb_ent]
  rfl

end Go.Proofs.YteijkbanlpodpaaGreatDoor

/- The document's Size and Same. -/
namespace Go.Proofs.YteijkbanlpodpaaGreatDoor
open Go.RowKit Go.BigFrame

set_option maxRecDepth 100000 in
set_option maxHeartbeats 1000000 in
theorem rsize_any (v : Value) (t : List Ent) (w : World) (h : Ents w v t) (hn : t.length ≤ 4611686018427387904) (hz : szP t ≤ 4611686018427387904) :
    Calls Tryz.prog 46 #[v] w fun r w' => r = .returned (.int .i64 (szP t : Nat)) ∧ w' = w := by
  obtain ⟨ao, c, rfl⟩ := h.shape
  have H := hid h
  have HZ := hid hz
  clear h hz
  go_enter Tryz.func46, Tryz.ntmps46
  go_wp2
  go_loop [3, 4] (fun s i => ∃ k : Nat, i = .int .i64 k ∧ k ≤ t.length ∧ s = .int .i64 (szP (t.take k) : Nat)) (fun _ i => t.length - (intOf i).toNat)
  case atStart => exact ⟨0, rfl, Nat.zero_le _, rfl⟩
  case round =>
    obtain ⟨k, rfl, hk, rfl⟩ := hrel
    by_cases hlt : k < t.length
    · have q2 : (k : Int) < (t.length : Int) := by omega
      obtain ⟨g, o, rfl, hgl, hcell⟩ := H.out.at k hlt
      obtain ⟨e, HE⟩ : ∃ e, Hid (t.getD k zE = e) := ⟨_, rfl⟩
      rw [HE.out] at hcell
      obtain ⟨c0, c1, c2⟩ := hcell
      have HS := hid (show szP (t.take (k + 1)) = szP (t.take k) + e.2.2.length by rw [take_snoc t k hlt, szP_snoc, HE.out])
      have HT := hid (szP_take t (k + 1))
      obtain ⟨S, HSS⟩ : ∃ S : Nat, Hid (szP (t.take k) = S) := ⟨_, rfl⟩
      obtain ⟨M, HMM⟩ : ∃ M : Nat, Hid (szP (t.take (k + 1)) = M) := ⟨_, rfl⟩
      rw [HSS.out, HMM.out] at HS
      rw [HMM.out] at HT
      rw [HSS.out]
      have hdz : (mk e.2.2).size = e.2.2.length := mk_size _
      obtain ⟨D, HDD⟩ : ∃ D : Nat, Hid (e.2.2.length = D) := ⟨_, rfl⟩
      rw [HDD.out] at hdz HS
      have hw1 : IntKind.i64.wrap ((S : Int) + (D : Int)) = (M : Int) := by rw [IntKind.wrap_i64]; have := HS.out; have := HT.out; have := HZ.out; omega
      have hDl : D ≤ 4611686018427387904 := by have := HS.out; have := HT.out; have := HZ.out; omega
      generalize mk e.2.2 = sd at *
      go_wp2
      exact ⟨⟨k + 1, by simp, by omega, by rw [HMM.out]⟩, by simp [intOf]; omega⟩
    · have q2 : ¬ (k : Int) < (t.length : Int) := by omega
      obtain rfl : k = t.length := by omega
      rw [List.take_length]
      go_wp2
      go_ret
      exact ⟨rfl, rfl⟩

theorem ext_getD {a b : List Ent} (h : a.length = b.length) (hs : ∀ j, j < a.length → a.getD j zE = b.getD j zE) : a = b := by
  apply List.ext_getElem h
  intro i h1 h2
  have := hs i h1
  simpa [List.getD_eq_getElem?_getD, h1, h2] using this

set_option maxRecDepth 100000 in
set_option maxHeartbeats 1000000 in
theorem rsame_any (va vb : Value) (a b : List Ent) (w : World) (ha : Ents w va a) (hb : Ents w vb b) (hn : a.length ≤ 4611686018427387904) :
    Calls Tryz.prog 14 #[va, vb] w fun r w' => r = .returned (.bool (decide (a = b))) ∧ ∃ q, w' = w.drewN q := by
  obtain ⟨ao, ca, rfl⟩ := ha.shape
  obtain ⟨bo, cb, rfl⟩ := hb.shape
  have HA := hid ha
  have HB := hid hb
  by_cases hlen : a.length = b.length
  · have q1 : (a.length : Int) = (b.length : Int) := by omega
    have HL := hid hlen
    clear hlen ha hb
    go_enter Tryz.func14, Tryz.ntmps14
    go_wp2
    go_loopw [5] (fun i wr => ∃ k : Nat, i = .int .i64 k ∧ k ≤ a.length ∧ (∀ j, j < k → a.getD j zE = b.getD j zE) ∧ ∃ q, wr = w.drewN q) (fun i _ => a.length - (intOf i).toNat)
    case atStart => exact ⟨0, rfl, Nat.zero_le _, fun j hj => by omega, 0, rfl⟩
    case round =>
      obtain ⟨k, rfl, hk, hs, q, rfl⟩ := hrel
      have HS := hid hs
      clear hs
      by_cases hlt : k < a.length
      · have q2 : (k : Int) < (a.length : Int) := by omega
        have q2b : (k : Int) < (b.length : Int) := by omega
        obtain ⟨g, o, rfl, hgl, hcell⟩ := HA.out.at k hlt
        obtain ⟨g', o', rfl, hgl', hcell'⟩ := HB.out.at k (by have := HL.out; omega)
        obtain ⟨e, HE⟩ : ∃ e, Hid (a.getD k zE = e) := ⟨_, rfl⟩
        obtain ⟨f, HF⟩ : ∃ f, Hid (b.getD k zE = f) := ⟨_, rfl⟩
        rw [HE.out] at hcell
        rw [HF.out] at hcell'
        obtain ⟨c0, c1, c2⟩ := hcell
        obtain ⟨d0, d1, d2⟩ := hcell'
        have hg := entG
        have hne := fun W => neq_ent e f W
        obtain ⟨X, HX⟩ : ∃ X, Hid (decide (e = f) = X) := ⟨_, rfl⟩
        rw [HX.out] at hne
        have HNE := hid (fun (h : X = false) => show decide (a = b) = false from by
          rw [decide_eq_false_iff_not]
          rintro rfl
          rw [← HE.out, ← HF.out, h] at HX
          simpa using HX.out)
        have HEQ := hid (fun (h : X = true) => show ∀ j, j < k + 1 → a.getD j zE = b.getD j zE from by
          intro j hj
          by_cases hjk : j = k
          · subst hjk
            rw [HE.out, HF.out]
            have := HX.out
            rw [h, decide_eq_true_iff] at this
            exact this
          · exact HS.out j (by omega))
        clear HX
        generalize mk e.1 = s1 at *
        generalize mk e.2.2 = s2 at *
        generalize mk f.1 = s3 at *
        generalize mk f.2.2 = s4 at *
        generalize e.2.1 = k1 at *
        generalize f.2.1 = k2 at *
        cases X with
        | true =>
          have HEQ2 := hid (HEQ.out rfl)
          clear HEQ HNE
          go_wp2_with fail
          go_quiet (fail)
          go_wp2
          exact ⟨⟨k + 1, by simp, by omega, HEQ2.out, q + nq, by simp⟩, by simp [intOf]; omega⟩
        | false =>
          have HNE2 := hid (HNE.out rfl)
          clear HEQ HNE
          go_wp2_with fail
          go_quiet (fail)
          go_wp2
          go_ret
          exact ⟨ret_bb HNE2.out.symm, q + nq, by simp⟩
      · have q2 : ¬ (k : Int) < (a.length : Int) := by omega
        obtain rfl : k = a.length := by omega
        have HD := hid (show decide (a = b) = true by rw [decide_eq_true_iff]; exact ext_getD HL.out HS.out)
        go_wp2
        go_ret
        exact ⟨ret_bb HD.out.symm, q, rfl⟩
  · have q1 : ¬ (a.length : Int) = (b.length : Int) := by omega
    have q2 : ((a.length : Int) == (b.length : Int)) = false := by simp; omega
    have HD := hid (show decide (a = b) = false by rw [decide_eq_false_iff_not]; intro h; exact hlen (by rw [h]))
    clear hlen ha hb
    go_enter Tryz.func14, Tryz.ntmps14
    go_wp2
    go_ret
    exact ⟨ret_bb HD.out.symm, 0, rfl⟩

end Go.Proofs.YteijkbanlpodpaaGreatDoor

/- Entries that may be are not long. -/
namespace Go.Proofs.YteijkbanlpodpaaGreatDoor
open Go.RowKit

theorem may_short {t : List Ent} (h : ∀ e ∈ t, mayP e = true) : Short t := by
  intro e he
  have h1 := okP_short (mayP_ok (h e he))
  have h2 := h e he
  unfold mayP at h2
  simp only [Bool.and_eq_true, decide_eq_true_iff] at h2
  refine ⟨by omega, ?_⟩
  rcases h2.2 with h3 | h3 | h3
  · omega
  · rw [h3.2]; simp
  · omega
theorem may_shr' {e : Ent} (h : mayP e = true) : Shr e := by
  have h1 := okP_short (mayP_ok h)
  refine ⟨by omega, ?_⟩
  unfold mayP at h
  simp only [Bool.and_eq_true, decide_eq_true_iff] at h
  rcases h.2 with h2 | h2 | h2
  · omega
  · rw [h2.2]; simp
  · omega

end Go.Proofs.YteijkbanlpodpaaGreatDoor

/- The document's below, where, sized. -/
namespace Go.Proofs.YteijkbanlpodpaaGreatDoor
open Go.RowKit Go.BigFrame

set_option maxRecDepth 100000 in
set_option maxHeartbeats 2000000 in
theorem rbelow_any (d q : List UInt8) (w : World) (hq : q ≠ []) :
    Calls Tryz.prog 36 #[.string (mk d), .string (mk q)] w fun r w' => r = .returned (.bool (lyP d q)) ∧ w' = w := by
  have q1 : ¬ (mk q).toList = [] := fun h => hq ((bl_mk q).symm.trans h)
  have q2 : ((mk q).toList == []) = false := by simpa using q1
  have q3 : (mk q).toList.isEmpty = false := by simpa using q1
  by_cases h0 : d = []
  · have HL := hid (show lyP d q = true from by unfold lyP; rw [decide_eq_true h0, Bool.true_or])
    have e1 : (mk d).toList = [] := by rw [h0]; exact bl_mk []
    have e2 : ((mk d).toList == []) = true := by rw [e1]; rfl
    clear h0
    generalize mk d = s1 at *
    generalize mk q = s2 at *
    go_enter Tryz.func36, Tryz.ntmps36
    go_wp2
    go_ret
    exact ⟨ret_bb HL.out.symm, rfl⟩
  · have e1 : ¬ (mk d).toList = [] := fun h => h0 ((bl_mk d).symm.trans h)
    have e2 : ((mk d).toList == []) = false := by simpa using e1
    have e3 : (mk d).toList.isEmpty = false := by simpa using e1
    have lp : (mk d).size = d.length := mk_size d
    have lq : (mk q).size = q.length := mk_size q
    have HU := hid (under_is (p := d) (q := q) h0)
    by_cases hl : d.length < q.length
    · have l1 : (d.length : Int) < (q.length : Int) := by omega
      have HTO := text_to q d.length (by omega)
      have HAT := text_at q d.length hl
      obtain ⟨C, HC⟩ : ∃ C, Hid (q.getD d.length 0 = C) := ⟨_, rfl⟩
      rw [HC.out] at HU HAT
      by_cases ht : q.take d.length = d
      · have t5 : (mk (q.take d.length)).toList = (mk d).toList := by rw [ht]
        have HT := hid ht
        clear ht
        by_cases hc : C = 47
        · have HL := hid (show lyP d q = true from HU.out.2 ⟨hl, HT.out, hc⟩)
          subst hc
          clear HU h0 HC hl
          generalize mk (q.take d.length) = s3 at *
          generalize mk d = s1 at *
          generalize mk q = s2 at *
          go_enter Tryz.func36, Tryz.ntmps36
          go_wp2
          go_ret
          exact ⟨ret_bb HL.out.symm, rfl⟩
        · have HL := hid (show lyP d q = false from by
            cases e : lyP d q with
            | false => rfl
            | true => exact absurd (HU.out.1 e).2.2 hc)
          have c1 : ¬ (C.toNat : Int) = 47 := fun e => hc (UInt8.toNat_inj.1 (by rw [show (47 : UInt8).toNat = 47 from rfl]; omega))
          have c2 : ((C.toNat : Int) == 47) = false := by simpa using c1
          obtain ⟨K, HK⟩ : ∃ K : Int, Hid ((C.toNat : Int) = K) := ⟨_, rfl⟩
          rw [HK.out] at c1 c2 HAT
          clear HU h0 HC hl hc HK
          generalize mk (q.take d.length) = s3 at *
          generalize mk d = s1 at *
          generalize mk q = s2 at *
          go_enter Tryz.func36, Tryz.ntmps36
          go_wp2
          go_ret
          exact ⟨ret_bb HL.out.symm, rfl⟩
      · have HL := hid (show lyP d q = false from by
          cases e : lyP d q with
          | false => rfl
          | true => exact absurd (HU.out.1 e).2.1 ht)
        have t5 : ¬ (mk (q.take d.length)).toList = (mk d).toList := fun h => ht (by have h2 : bl (mk (q.take d.length)) = bl (mk d) := h; rw [bl_mk, bl_mk] at h2; exact h2)
        have t6 : ((mk (q.take d.length)).toList == (mk d).toList) = false := by simpa using t5
        clear HU h0 HC hl ht HAT
        generalize mk (q.take d.length) = s3 at *
        generalize mk d = s1 at *
        generalize mk q = s2 at *
        go_enter Tryz.func36, Tryz.ntmps36
        go_wp2
        go_ret
        exact ⟨ret_bb HL.out.symm, rfl⟩
    · have HL := hid (show lyP d q = false from by
        cases e : lyP d q with
        | false => rfl
        | true => exact absurd (HU.out.1 e).1 hl)
      have l1 : ¬ (d.length : Int) < (q.length : Int) := by omega
      clear HU h0
      generalize mk d = s1 at *
      generalize mk q = s2 at *
      go_enter Tryz.func36, Tryz.ntmps36
      go_wp2
      go_ret
      exact ⟨ret_bb HL.out.symm, rfl⟩

set_option maxRecDepth 100000 in
set_option maxHeartbeats 2000000 in
theorem rwhere_any (v : Value) (t : List Ent) (d : List UInt8) (w : World) (h : Ents w v t) (hn : t.length ≤ 4611686018427387904) (hd : d.length ≤ 1099511627776) :
    Calls Tryz.prog 40 #[v, .string (mk d)] w fun r w' => r = .returned (.int .i64 (whP t d)) ∧ Below w.heap.size w w' := by
  have HP := hid (rpath_any (mk d) w (by rw [bl_mk]; exact hd))
  rw [bl_mk] at HP
  have HD := hid (fun W (hW : Below w.heap.size w W) => risdir_any v t d W (h.below hW) hn)
  have HF := hid (fun W (hW : Below w.heap.size w W) => rfind_any v t d W (h.below hW) hn)
  obtain ⟨ao, c, e0⟩ := h.shape
  subst e0
  clear h
  cases hok : okP d with
  | false =>
    have HW := hid (show whP t d = 45 from by unfold whP; rw [if_pos hok])
    rw [hok] at HP
    clear hok HD HF
    generalize mk d = s at *
    go_enter Tryz.func40, Tryz.ntmps40
    go_wp2_with (go_at_call 35; refine HP.out.mono ?_; rintro r w1 ⟨rfl, hb1⟩)
    go_ret
    exact ⟨by rw [HW.out]; rfl, hb1⟩
  | true =>
    rw [hok] at HP
    cases hdir : dirP t d with
    | true =>
      have HW := hid (show whP t d = 0 from wh_zero.2 ⟨hok, hdir⟩)
      rw [hdir] at HD
      clear hok HF hdir
      generalize mk d = s at *
      go_enter Tryz.func40, Tryz.ntmps40
      go_wp2_with (first | (go_at_call 35; refine HP.out.mono ?_; rintro r w1 ⟨rfl, hb1⟩; have HB1 := hid hb1) | (go_at_call 27; refine (HD.out _ HB1.out).mono ?_; rintro r w2 ⟨rfl, hw2⟩; have hw2 := hw2.symm; subst hw2))
      go_ret
      exact ⟨by rw [HW.out]; rfl, HB1.out⟩
    | false =>
      have HW := hid (show whP t d = if thP t d = false then 8 else 102 from by unfold whP; rw [hok, hdir]; rfl)
      rw [hdir] at HD
      have HFI := hid (fdP_fiP t d)
      cases hfi : fiP t d with
      | none =>
        have hz : fiN t d = -1 := by unfold fiN; rw [hfi]
        have HW2 := hid (show whP t d = 8 from by rw [HW.out, if_pos]; unfold thP; rw [HFI.out, hfi]; rfl)
        rw [hz] at HF
        clear hok hdir hfi hz HW
        generalize mk d = s at *
        go_enter Tryz.func40, Tryz.ntmps40
        go_wp2_with (first | (go_at_call 35; refine HP.out.mono ?_; rintro r w1 ⟨rfl, hb1⟩; have HB1 := hid hb1) | (go_at_call 27; refine (HD.out _ HB1.out).mono ?_; rintro r w2 ⟨rfl, hw2⟩; have hw2 := hw2.symm; subst hw2) | (go_at_call 29; refine (HF.out _ HB1.out).mono ?_; rintro r w3 ⟨rfl, hw3⟩; have hw3 := hw3.symm; subst hw3))
        go_ret
        exact ⟨by rw [HW2.out]; rfl, HB1.out⟩
      | some i =>
        have hz : fiN t d = (i : Int) := by unfold fiN; rw [hfi]
        have HW2 := hid (show whP t d = 102 from by rw [HW.out, if_neg]; unfold thP; rw [HFI.out, hfi]; simp)
        have i1 : ¬ (i : Int) < 0 := by omega
        rw [hz] at HF
        clear hok hdir hfi hz HW
        generalize mk d = s at *
        go_enter Tryz.func40, Tryz.ntmps40
        go_wp2_with (first | (go_at_call 35; refine HP.out.mono ?_; rintro r w1 ⟨rfl, hb1⟩; have HB1 := hid hb1) | (go_at_call 27; refine (HD.out _ HB1.out).mono ?_; rintro r w2 ⟨rfl, hw2⟩; have hw2 := hw2.symm; subst hw2) | (go_at_call 29; refine (HF.out _ HB1.out).mono ?_; rintro r w3 ⟨rfl, hw3⟩; have hw3 := hw3.symm; subst hw3))
        go_ret
        exact ⟨by rw [HW2.out]; rfl, HB1.out⟩

/-- a tree and a number, as answered, wherever the entries lie -/
def AnsR (w' : World) (r : Ending) (x : Except Int (List Ent)) : Prop := match x with
  | .ok t => ∃ v, r = .returned (.tuple #[v, .int .i64 0]) ∧ Ents w' v t
  | .error e => r = .returned (.tuple #[.slice none 0 0, .int .i64 e])

set_option maxRecDepth 100000 in
set_option maxHeartbeats 2000000 in
theorem rsized_any (v : Value) (t : List Ent) (w : World) (h : Ents w v t) (hn : t.length ≤ 4611686018427387904) (hz : szP t ≤ 4611686018427387904) :
    Calls Tryz.prog 30 #[v] w fun r w' => AnsR w' r (fitP t) ∧ w' = w := by
  have HS := hid (rsize_any v t w h hn hz)
  have HE := hid h
  obtain ⟨ao, c, e0⟩ := h.shape
  subst e0
  clear h
  by_cases hm : 1024 < t.length
  · have q1 : (1024 : Int) < (t.length : Int) := by omega
    have HF := hid (show fitP t = .error 53 by unfold fitP; rw [if_pos hm])
    clear hm
    go_enter Tryz.func30, Tryz.ntmps30
    go_wp2
    go_ret2
    rw [HF.out]
    exact ⟨rfl, rfl⟩
  · have q1 : ¬ (1024 : Int) < (t.length : Int) := by omega
    by_cases hb : 1048576 < szP t
    · have HF := hid (show fitP t = .error 54 by unfold fitP; rw [if_neg hm, if_pos hb])
      have q2 : (1048576 : Int) < (szP t : Int) := by omega
      generalize szP t = S at *
      clear hm hb
      go_enter Tryz.func30, Tryz.ntmps30
      go_wp2_with (go_at_call 46; refine HS.out.mono ?_; rintro r w2 ⟨rfl, hw2⟩; have hw2 := hw2.symm; subst hw2)
      go_ret2
      rw [HF.out]
      exact ⟨rfl, rfl⟩
    · have HF := hid (show fitP t = .ok t by unfold fitP; rw [if_neg hm, if_neg hb])
      have q2 : ¬ (1048576 : Int) < (szP t : Int) := by omega
      generalize szP t = S at *
      clear hm hb
      go_enter Tryz.func30, Tryz.ntmps30
      go_wp2_with (go_at_call 46; refine HS.out.mono ?_; rintro r w2 ⟨rfl, hw2⟩; have hw2 := hw2.symm; subst hw2)
      go_ret2
      rw [HF.out]
      exact ⟨⟨_, rfl, HE.out⟩, rfl⟩

end Go.Proofs.YteijkbanlpodpaaGreatDoor

/- The program's Remove. -/
namespace Go.Proofs.YteijkbanlpodpaaGreatDoor
open Go.RowKit Go.BigFrame

/-- what Remove leaves -/
def keepP (p : List UInt8) (e : Ent) : Bool := decide (e.1 ≠ p) && !lyP p e.1
def rmP (t : List Ent) (p : List UInt8) : Except Int (List Ent) :=
  if (chkP t).2 ≠ 0 then .error (chkP t).2 else if okP p = false then .error 45 else if thP t p = false then .error 8 else .ok (t.filter (keepP p))
theorem keep_no {p : List UInt8} {e : Ent} (h : e.1 = p) : keepP p e = false := by unfold keepP; rw [decide_eq_false (by simpa using h)]; rfl
theorem keep_is {p : List UInt8} {e : Ent} (h : e.1 ≠ p) : keepP p e = !lyP p e.1 := by unfold keepP; rw [decide_eq_true h]; rfl
theorem th_ne {t : List Ent} {p : List UInt8} (hm : ∀ e ∈ t, mayP e = true) (h : thP t p = true) : p ≠ [] := by
  unfold thP at h
  obtain ⟨e, he⟩ := Option.isSome_iff_exists.1 h
  obtain ⟨h1, h2⟩ := fdP_some he
  rw [← h2]
  exact mayP_ne (hm e h1)

set_option maxRecDepth 100000 in
set_option maxHeartbeats 4000000 in
theorem remove_any (v : Value) (t : List Ent) (p : List UInt8) (w : World) (h : Ents w v t) (hs : Short t) (hn : t.length ≤ 4611686018427387904) (hpl : p.length ≤ 4611686018427387904) :
    Calls Tryz.prog 8 #[v, .string (mk p)] w fun r w' => AnsE w' w.heap.size r (rmP t p) ∧ Below w.heap.size w w' := by
  obtain ⟨E0, HE0⟩ : ∃ E : Int, Hid ((chkP t).2 = E) := ⟨_, rfl⟩
  have HR := hid (right_one v t w h hs hn E0 HE0.out)
  have HET := hid h
  obtain ⟨ao, c, rfl⟩ := h.shape
  clear h hs
  by_cases h0 : E0 = 0
  · subst h0
    have HRT := hid (rgt_iff.1 HE0.out)
    cases hok : okP p with
    | false =>
      have HAP := hid (show rmP t p = .error 45 from by unfold rmP; rw [if_neg (by simpa using HE0.out), if_pos hok])
      have HC := hid (check_is (mk p) 45 (by rw [bl_mk]; unfold chN; rw [hok]; rfl) (by rw [bl_mk]; omega))
      clear hok
      go_enter Tryz.func8, Tryz.ntmps8
      go_wp2_with fail
      refine HR.out.mono ?_
      rintro r w1 ⟨rfl, hb1⟩
      have HB1 := hid hb1
      clear hb1 HR
      go_wp2_with (go_at_call 32; refine (HC.out _).mono ?_; rintro r w2 ⟨rfl, n2, rfl⟩)
      go_ret2
      rw [HAP.out]
      exact ⟨rfl, below_n HB1.out n2⟩
    | true =>
      have HC := hid (check_is (mk p) 0 (by rw [bl_mk]; unfold chN; rw [hok]; rfl) (by rw [bl_mk]; omega))
      have HPL := hid (fun W (hW : Below w.heap.size w W) => place_any _ t p W (HET.out.below hW) HRT.out.up (fun e he => mayP_ok (HRT.out.may e he)) hok HRT.out.many)
      have HBF := hid (fun W : World => below_fn p W hpl)
      have HOK := hid hok
      generalize plP t p = I at *
      cases hth : thP t p with
      | false =>
        have HAP := hid (show rmP t p = .error 8 from by unfold rmP; rw [if_neg (by simpa using HE0.out), if_neg (by rw [HOK.out]; simp), if_pos hth])
        rw [hth] at HPL
        clear hok hth
        go_enter Tryz.func8, Tryz.ntmps8
        go_wp2_with fail
        refine HR.out.mono ?_
        rintro r w1 ⟨rfl, hb1⟩
        have HB1 := hid hb1
        clear hb1 HR
        go_wp2_with (first | (go_at_call 32; refine (HC.out _).mono ?_; rintro r w2 ⟨rfl, n2, rfl⟩; have HB2 := hid (below_n HB1.out n2); generalize w1.drewN n2 = w2 at *) | (go_at_call 22; refine (HPL.out _ HB2.out).mono ?_; rintro r w3 ⟨rfl, hb3⟩; have HB3 := hid (below_then HB2.out hb3); clear hb3))
        go_ret2
        rw [HAP.out]
        exact ⟨rfl, HB3.out⟩
      | true =>
        have HAP := hid (show rmP t p = .ok (t.filter (keepP p)) from by unfold rmP; rw [if_neg (by simpa using HE0.out), if_neg (by rw [HOK.out]; simp), if_neg (by rw [hth]; simp)])
        have HPN := hid (th_ne HRT.out.may hth)
        rw [hth] at HPL
        clear hok hth
        go_enter Tryz.func8, Tryz.ntmps8
        go_wp2_with fail
        refine HR.out.mono ?_
        rintro r w1 ⟨rfl, hb1⟩
        have HB1 := hid hb1
        clear hb1 HR
        go_wp2_with (first | (go_at_call 32; refine (HC.out _).mono ?_; rintro r w2 ⟨rfl, n2, rfl⟩; have HB2 := hid (below_n HB1.out n2); generalize w1.drewN n2 = w2 at *) | (go_at_call 22; refine (HPL.out _ HB2.out).mono ?_; rintro r w3 ⟨rfl, hb3⟩; have HB3 := hid (below_then HB2.out hb3); clear hb3) | (go_at_call 33; refine (HBF.out _).mono ?_; rintro r w4 ⟨f, rfl, hf, hb4⟩; have HB4 := hid (below_then HB3.out hb4); have HLF := hid hf; obtain ⟨B, hfe, hBl, hBc⟩ := hf.two HPN.out; subst hfe; have HBL := hid hBl; have HBC := hid hBc; clear hf hb4 hBl hBc HBF))
        have HE4 := hid (HET.out.below HB4.out)
        clear HB1 HB2 HB3 HET HLF
        go_loopw [11, 37] (fun x i wr => ∃ k : Nat, i = .int .i64 k ∧ k ≤ t.length ∧ OwnE wr w4.heap.size x ((t.take k).filter (keepP p)) ∧ Below w4.heap.size w4 wr) (fun _ i _ => t.length - (intOf i).toNat)
        case atStart => exact ⟨0, rfl, Nat.zero_le _, OwnE.nil _ _, Below.refl _ _⟩
        case round =>
          obtain ⟨k, rfl, hk, ho, hb⟩ := hrel
          have HO := hid ho
          have HB := hid hb
          obtain ⟨al, xl, e2⟩ := ho.ents.shape
          generalize ((t.take k).filter (keepP p)).length = nl at e2
          subst e2
          clear ho hb
          by_cases hlt : k < t.length
          · have q1 : (k : Int) < (t.length : Int) := by omega
            have hw1 : IntKind.i64.wrap ((k : Int) + 1) = ((k + 1 : Nat) : Int) := by rw [IntKind.wrap_i64]; omega
            obtain ⟨g, o, rfl, hgl, hat⟩ := (HE4.out.below HB.out).at k hlt
            obtain ⟨e, HED⟩ : ∃ e, Hid (t.getD k zE = e) := ⟨_, rfl⟩
            rw [HED.out] at hat
            have HTK := hid (take_snoc t k hlt)
            rw [HED.out] at HTK
            have HCW := hid ((HB.out.cell (p := ⟨B, 0, none⟩) HBL.out).trans HBC.out)
            have HEB := hid (Eb.new wr e)
            have HBE := hid (HB.out.alloc HB.out.size (.cells #[.string (mk e.1), .int .i64 e.2.1, .string (mk e.2.2)] 25))
            have HOE := hid (HO.out.below (below_walk wr (.cells #[.string (mk e.1), .int .i64 e.2.1, .string (mk e.2.2)] 25)))
            have HCE := hid (((below_walk wr (.cells #[.string (mk e.1), .int .i64 e.2.1, .string (mk e.2.2)] 25)).cell (p := ⟨B, 0, none⟩) (Nat.lt_of_lt_of_le HBL.out HB.out.size)).trans HCW.out)
            obtain ⟨d0, d1, d2⟩ := hat
            have HLT := hid (fun W (hW : W.cell? ⟨B, 0, none⟩ = some (.string (mk (p ++ [47])))) => lies_two B p e.1 W hW)
            by_cases hx : e.1 = p
            · have e1 : (mk e.1).toList = (mk p).toList := by rw [hx]
              have HF := hid (show (t.take (k + 1)).filter (keepP p) = (t.take k).filter (keepP p) from by rw [HTK.out, List.filter_append]; simp [keep_no hx])
              clear hx
              go_wp2
              exact ⟨⟨k + 1, by simp, by omega, by rw [HF.out]; exact HOE.out, HBE.out⟩, by simp [intOf]; omega⟩
            · have e1 : ¬ (mk e.1).toList = (mk p).toList := fun h => hx ((bl_mk e.1).symm.trans (h.trans (bl_mk p)))
              have e2 : ((mk e.1).toList == (mk p).toList) = false := by simpa using e1
              have HKP := hid (show keepP p e = !((p ++ [47]).isPrefixOf e.1) from by rw [keep_is hx]; unfold lyP; rw [decide_eq_false HPN.out]; rfl)
              clear hx
              generalize (p ++ [47]).isPrefixOf e.1 = X at *
              cases X with
              | true =>
                have HF := hid (show (t.take (k + 1)).filter (keepP p) = (t.take k).filter (keepP p) from by rw [HTK.out, List.filter_append]; simp [HKP.out])
                go_wp2_with (go_at_call 59; refine (HLT.out _ HCE.out).mono ?_; rintro r w5 ⟨rfl, rfl⟩)
                exact ⟨⟨k + 1, by simp, by omega, by rw [HF.out]; exact HOE.out, HBE.out⟩, by simp [intOf]; omega⟩
              | false =>
                have HF := hid (show (t.take (k + 1)).filter (keepP p) = (t.take k).filter (keepP p) ++ [e] from by rw [HTK.out, List.filter_append]; simp [HKP.out])
                have HLA := hid (show ((t.take k).filter (keepP p)).length + [e].length ≤ 3298534883328 by have h1 := List.length_filter_le (keepP p) (t.take k); rw [List.length_take] at h1; have := HRT.out.many; simp only [List.length_cons, List.length_nil]; omega)
                have HEN := hid (ents_one (wr.alloc (.cells #[.string (mk e.1), .int .i64 e.2.1, .string (mk e.2.2)] 25)) e)
                have HOA := hid (HOE.out.below (below_walk (wr.alloc (.cells #[.string (mk e.1), .int .i64 e.2.1, .string (mk e.2.2)] 25)) (.cells #[.string (mk e.1), .int .i64 e.2.1, .string (mk e.2.2)] 25)))
                have HBA := hid (HBE.out.alloc HBE.out.size (.cells #[.string (mk e.1), .int .i64 e.2.1, .string (mk e.2.2)] 25))
                rw [show (wr.alloc (.cells #[.string (mk e.1), .int .i64 e.2.1, .string (mk e.2.2)] 25)).heap.size = wr.heap.size + 1 by simp] at HEN
                go_wp2_with (first | (go_at_call 59; refine (HLT.out _ HCE.out).mono ?_; rintro r w5 ⟨rfl, rfl⟩) | (at_builtin; refine app_ent rfl _ _ rfl w4.heap.size _ _ rfl HOA.out [e] _ rfl HEN.out HLA.out HBA.out.size ?_; intro vA wA hoA hgA _; have HOB := hid hoA; have HBB := hid (HBA.out.grown hgA HBA.out.size (fun j hj => (HOA.out.lt j hj).1)); obtain ⟨aA, nA, cA, eA⟩ : ∃ a n c, vA = .slice a n c := by {obtain ⟨a, c, e⟩ := hoA.ents.shape; exact ⟨a, _, c, e⟩}; subst eA; clear hoA hgA))
                exact ⟨⟨k + 1, by simp, by omega, by rw [HF.out]; exact HOB.out, HBB.out⟩, by simp [intOf]; omega⟩
          · have q1 : ¬ (k : Int) < (t.length : Int) := by omega
            obtain rfl : k = t.length := by omega
            rw [List.take_length] at HO
            have HOW := hid (own_any _ (t.filter (keepP p)) wr HO.out.ents (by have h1 := List.length_filter_le (keepP p) t; have := HRT.out.many; omega) (fun e he => may_shr' (HRT.out.may e (List.mem_filter.1 he).1)))
            go_wp2_with fail
            refine HOW.out.mono ?_
            rintro r w7 ⟨v7, rfl, ho7, hb7⟩
            have HB7 := hid (below_then (below_then HB4.out HB.out) hb7)
            have HO7 := hid (ho7.le (below_then HB4.out HB.out).size)
            obtain ⟨a7, n7, c7, e7⟩ : ∃ a n c, v7 = .slice a n c := by obtain ⟨a, c, e⟩ := ho7.ents.shape; exact ⟨a, _, c, e⟩
            subst e7
            clear ho7 hb7
            go_wp2
            go_ret2
            rw [HAP.out]
            exact ⟨⟨_, rfl, HO7.out⟩, HB7.out⟩
  · have HAP := hid (show rmP t p = .error E0 from by unfold rmP; rw [HE0.out, if_pos h0])
    have e1 : (E0 == 0) = false := by simpa using h0
    clear h0
    go_enter Tryz.func8, Tryz.ntmps8
    go_wp2_with fail
    refine HR.out.mono ?_
    rintro r w1 ⟨rfl, hb1⟩
    have HB1 := hid hb1
    clear hb1 HR
    go_wp2
    go_ret2
    rw [HAP.out]
    exact ⟨rfl, HB1.out⟩

end Go.Proofs.YteijkbanlpodpaaGreatDoor

/- The document's Remove and Sub. -/
namespace Go.Proofs.YteijkbanlpodpaaGreatDoor
open Go.RowKit Go.BigFrame

set_option maxRecDepth 100000 in
set_option maxHeartbeats 4000000 in
theorem rremove_any (v : Value) (t : List Ent) (p : List UInt8) (w : World) (h : Ents w v t) (hl : Bulk t) (hn : t.length ≤ 4611686018427387904) (hp : p.length ≤ 1099511627776) :
    Calls Tryz.prog 9 #[v, .string (mk p)] w fun r w' => AnsE w' w.heap.size r (rmP t p) ∧ Below w.heap.size w w' := by
  obtain ⟨I0, HI0⟩ : ∃ I : Nat, Hid ((chkP t).1 = I) := ⟨_, rfl⟩
  obtain ⟨E0, HE0⟩ : ∃ E : Int, Hid ((chkP t).2 = E) := ⟨_, rfl⟩
  have HR := hid (rcheck_any v t w h hl hn)
  rw [HI0.out, HE0.out] at HR
  have HET := hid h
  obtain ⟨ao, c, e0⟩ := h.shape
  subst e0
  clear h hl
  by_cases h0 : E0 = 0
  · subst h0
    have HRT := hid (rgt_iff.1 HE0.out)
    have HP := hid (fun W => rpath_any (mk p) W (by rw [bl_mk]; exact hp))
    rw [bl_mk] at HP
    cases hok : okP p with
    | false =>
      have HAP := hid (show rmP t p = .error 45 from by unfold rmP; rw [if_neg (by simpa using HE0.out), if_pos hok])
      rw [hok] at HP
      clear hok
      generalize mk p = s at *
      go_enter Tryz.func9, Tryz.ntmps9
      go_wp2_with (first | (go_at_call 25; refine HR.out.mono ?_; rintro r w1 ⟨rfl, hb1⟩; have HB1 := hid hb1; clear hb1) | (go_at_call 35; refine (HP.out _).mono ?_; rintro r w2 ⟨rfl, hb2⟩; have HB2 := hid (below_then HB1.out hb2); clear hb2))
      go_ret2
      rw [HAP.out]
      exact ⟨rfl, HB2.out⟩
    | true =>
      rw [hok] at HP
      have HF := hid (fun W (hW : Below w.heap.size w W) => rfind_any _ t p W (HET.out.below hW) hn)
      have HFI := hid (fdP_fiP t p)
      cases hfi : fiP t p with
      | none =>
        have hz : fiN t p = -1 := by unfold fiN; rw [hfi]
        have HAP := hid (show rmP t p = .error 8 from by unfold rmP; rw [if_neg (by simpa using HE0.out), if_neg (by rw [hok]; simp), if_pos]; unfold thP; rw [HFI.out, hfi]; rfl)
        rw [hz] at HF
        clear hok hfi hz
        generalize mk p = s at *
        go_enter Tryz.func9, Tryz.ntmps9
        go_wp2_with (first | (go_at_call 25; refine HR.out.mono ?_; rintro r w1 ⟨rfl, hb1⟩; have HB1 := hid hb1; clear hb1) | (go_at_call 35; refine (HP.out _).mono ?_; rintro r w2 ⟨rfl, hb2⟩; have HB2 := hid (below_then HB1.out hb2); clear hb2) | (go_at_call 29; refine (HF.out _ HB2.out).mono ?_; rintro r w3 ⟨rfl, hw3⟩; have hw3 := hw3.symm; subst hw3))
        go_ret2
        rw [HAP.out]
        exact ⟨rfl, HB2.out⟩
      | some i =>
        have hz : fiN t p = (i : Int) := by unfold fiN; rw [hfi]
        have i1 : ¬ (i : Int) < 0 := by omega
        have hth : thP t p = true := by unfold thP; rw [HFI.out, hfi]; rfl
        have HAP := hid (show rmP t p = .ok (t.filter (keepP p)) from by unfold rmP; rw [if_neg (by simpa using HE0.out), if_neg (by rw [hok]; simp), if_neg (by rw [hth]; simp)])
        have HPN := hid (th_ne HRT.out.may hth)
        have HBW := hid (fun (e : Ent) (he : e ∈ t) W => rbelow_any p e.1 W (mayP_ne (HRT.out.may e he)))
        rw [hz] at HF
        clear hok hfi hz hth
        obtain ⟨S, HS⟩ : ∃ S, Hid (mk p = S) := ⟨_, rfl⟩
        rw [HS.out] at HP HF HBW ⊢
        go_enter Tryz.func9, Tryz.ntmps9
        go_wp2_with (first | (go_at_call 25; refine HR.out.mono ?_; rintro r w1 ⟨rfl, hb1⟩; have HB1 := hid hb1; clear hb1) | (go_at_call 35; refine (HP.out _).mono ?_; rintro r w2 ⟨rfl, hb2⟩; have HB2 := hid (below_then HB1.out hb2); clear hb2) | (go_at_call 29; refine (HF.out _ HB2.out).mono ?_; rintro r w3 ⟨rfl, hw3⟩; have hw3 := hw3.symm; subst hw3))
        have HE4 := hid (HET.out.below HB2.out)
        go_loopw [8, 9] (fun x i wr => ∃ k : Nat, i = .int .i64 k ∧ k ≤ t.length ∧ OwnE wr w2.heap.size x ((t.take k).filter (keepP p)) ∧ Below w2.heap.size w2 wr) (fun _ i _ => t.length - (intOf i).toNat)
        case atStart => exact ⟨0, rfl, Nat.zero_le _, OwnE.nil _ _, Below.refl _ _⟩
        case round =>
          obtain ⟨k, rfl, hk, ho, hb⟩ := hrel
          have HO := hid ho
          have HB := hid hb
          obtain ⟨al, xl, e2⟩ := ho.ents.shape
          have hlen : ((t.take k).filter (keepP p)).length ≤ 1024 := by have h1 := List.length_filter_le (keepP p) (t.take k); rw [List.length_take] at h1; have := HRT.out.many; omega
          have HLL := hid hlen
          generalize ((t.take k).filter (keepP p)).length = nl at e2
          subst e2
          clear ho hb hlen
          by_cases hlt : k < t.length
          · have hmany := HRT.out.many
            have q1 : (k : Int) < (t.length : Int) := by omega
            have q2 : ¬ (k : Int) < 0 := by omega
            have hw1 : IntKind.i64.wrap ((k : Int) + 1) = ((k + 1 : Nat) : Int) := by rw [IntKind.wrap_i64]; omega
            obtain ⟨g, o, rfl, hgl, hat⟩ := (HE4.out.below HB.out).at k hlt
            obtain ⟨e, HED⟩ : ∃ e, Hid (t.getD k zE = e) := ⟨_, rfl⟩
            rw [HED.out] at hat
            have HTK := hid (take_snoc t k hlt)
            rw [HED.out] at HTK
            have HBL := hid (HBW.out e (by rw [← HED.out]; exact getD_mem hlt))
            obtain ⟨d0, d1, d2⟩ := hat
            by_cases hx : e.1 = p
            · have e1 : (mk e.1).toList = S.toList := by rw [hx, HS.out]
              have HF2 := hid (show (t.take (k + 1)).filter (keepP p) = (t.take k).filter (keepP p) from by rw [HTK.out, List.filter_append]; simp [keep_no hx])
              clear hx
              go_wp2
              exact ⟨⟨k + 1, by simp, by omega, by rw [HF2.out]; exact HO.out, HB.out⟩, by simp [intOf]; omega⟩
            · have e1 : ¬ (mk e.1).toList = S.toList := fun h => hx (by have h2 : bl (mk e.1) = bl S := h; rw [bl_mk, ← HS.out, bl_mk] at h2; exact h2)
              have e2 : ((mk e.1).toList == S.toList) = false := by simpa using e1
              have HKP := hid (keep_is hx)
              clear hx
              generalize lyP p e.1 = X at *
              cases X with
              | true =>
                have HF2 := hid (show (t.take (k + 1)).filter (keepP p) = (t.take k).filter (keepP p) from by rw [HTK.out, List.filter_append]; simp [HKP.out])
                go_wp2_with (go_at_call 36; refine (HBL.out _).mono ?_; rintro r w5 ⟨rfl, hw5⟩; have hw5 := hw5.symm; subst hw5)
                exact ⟨⟨k + 1, by simp, by omega, by rw [HF2.out]; exact HO.out, HB.out⟩, by simp [intOf]; omega⟩
              | false =>
                have HF2 := hid (show (t.take (k + 1)).filter (keepP p) = (t.take k).filter (keepP p) ++ [e] from by rw [HTK.out, List.filter_append]; simp [HKP.out])
                have HLA := hid (show ((t.take k).filter (keepP p)).length + [e].length ≤ 3298534883328 by have := HLL.out; simp only [List.length_cons, List.length_nil]; omega)
                have HEN := hid (ents_one wr e)
                have HOA := hid (HO.out.below (below_walk wr (.cells #[.string (mk e.1), .int .i64 e.2.1, .string (mk e.2.2)] 25)))
                have HBA := hid (HB.out.alloc HB.out.size (.cells #[.string (mk e.1), .int .i64 e.2.1, .string (mk e.2.2)] 25))
                go_wp2_with (first | (go_at_call 36; refine (HBL.out _).mono ?_; rintro r w5 ⟨rfl, hw5⟩; have hw5 := hw5.symm; subst hw5) | (at_builtin; refine app_ent rfl _ _ rfl w2.heap.size _ _ rfl HOA.out [e] _ rfl HEN.out HLA.out HBA.out.size ?_; intro vA wA hoA hgA _; have HOB := hid hoA; have HBB := hid (HBA.out.grown hgA HBA.out.size (fun j hj => (HOA.out.lt j hj).1)); obtain ⟨aA, nA, cA, eA⟩ : ∃ a n c, vA = .slice a n c := by {obtain ⟨a, c, e⟩ := hoA.ents.shape; exact ⟨a, _, c, e⟩}; subst eA; clear hoA hgA))
                exact ⟨⟨k + 1, by simp, by omega, by rw [HF2.out]; exact HOB.out, HBB.out⟩, by simp [intOf]; omega⟩
          · have q1 : ¬ (k : Int) < (t.length : Int) := by omega
            obtain rfl : k = t.length := by omega
            rw [List.take_length] at HO
            go_wp2
            go_ret2
            rw [HAP.out]
            exact ⟨⟨_, rfl, HO.out.le HB2.out.size⟩, HB2.out.trans (HB.out.mono HB2.out.size)⟩
  · have HAP := hid (show rmP t p = .error E0 from by unfold rmP; rw [HE0.out, if_pos h0])
    have e1 : (E0 == 0) = false := by simpa using h0
    clear h0
    go_enter Tryz.func9, Tryz.ntmps9
    go_wp2_with (go_at_call 25; refine HR.out.mono ?_; rintro r w1 ⟨rfl, hb1⟩; have HB1 := hid hb1; clear hb1)
    go_ret2
    rw [HAP.out]
    exact ⟨rfl, HB1.out⟩

theorem ext_from (q : List UInt8) (k : Nat) : (mk q).extract k (mk q).size = mk (q.drop k) := by
  have h1 : (mk q).size = q.length := mk_size q
  apply ByteArray.ext
  rw [h1]
  simp [ByteArray.data_extract, mk]
  rw [List.take_of_length_le (by rw [List.length_drop]; omega)]
theorem subL_snoc (d : List UInt8) (t : List Ent) {k : Nat} (hk : k < t.length) : subL (t.take (k + 1)) d = subL (t.take k) d ++ (if lyP d (t.getD k zE).1 = true then [subE d (t.getD k zE)] else []) := by
  unfold subL
  rw [take_snoc t k hk, List.filter_append, List.map_append]
  congr 1
  by_cases h : lyP d (t.getD k zE).1 = true
  · rw [if_pos h, List.filter_cons, if_pos h]
    rfl
  · rw [if_neg h, List.filter_cons, if_neg h]
    rfl

set_option maxRecDepth 100000 in
set_option maxHeartbeats 4000000 in
theorem rsub_any (v : Value) (t : List Ent) (d : List UInt8) (w : World) (h : Ents w v t) (hl : Bulk t) (hn : t.length ≤ 4611686018427387904) (hd : d.length ≤ 1099511627776) :
    Calls Tryz.prog 11 #[v, .string (mk d)] w fun r w' => AnsE w' w.heap.size r (sbP t d) ∧ Below w.heap.size w w' := by
  obtain ⟨I0, HI0⟩ : ∃ I : Nat, Hid ((chkP t).1 = I) := ⟨_, rfl⟩
  obtain ⟨E0, HE0⟩ : ∃ E : Int, Hid ((chkP t).2 = E) := ⟨_, rfl⟩
  have HR := hid (rcheck_any v t w h hl hn)
  rw [HI0.out, HE0.out] at HR
  have HET := hid h
  obtain ⟨ao, c, e0⟩ := h.shape
  subst e0
  clear h hl
  by_cases hz : E0 = 0
  · subst hz
    have HRT := hid (rgt_iff.1 HE0.out)
    obtain ⟨W0, HW0⟩ : ∃ W, Hid (whP t d = W) := ⟨_, rfl⟩
    have HWH := hid (fun W (hW : Below w.heap.size w W) => rwhere_any _ t d W (HET.out.below hW) hn hd)
    rw [HW0.out] at HWH
    by_cases h1 : W0 = 0
    · subst h1
      have HAP := hid (show sbP t d = .ok (subL t d) from by unfold sbP; rw [if_neg (by simpa using HE0.out), if_neg (by simpa using HW0.out)])
      have HBW := hid (fun (e : Ent) (he : e ∈ t) W => rbelow_any d e.1 W (mayP_ne (HRT.out.may e he)))
      have hsz : (mk d).size = d.length := mk_size d
      by_cases h0 : d = []
      · have e1 : (mk d).toList = [] := by rw [h0]; exact bl_mk []
        have e2 : ((mk d).toList == []) = true := by rw [e1]; rfl
        have H0 := hid h0
        clear h0
        generalize mk d = S at *
        go_enter Tryz.func11, Tryz.ntmps11
        go_wp2_with (first | (go_at_call 25; refine HR.out.mono ?_; rintro r w1 ⟨rfl, hb1⟩; have HB1 := hid hb1; clear hb1) | (go_at_call 40; refine (HWH.out _ HB1.out).mono ?_; rintro r w2 ⟨rfl, hb2⟩; have HB2 := hid (below_then HB1.out hb2); clear hb2))
        have HE4 := hid (HET.out.below HB2.out)
        go_loopw [8, 9] (fun x i wr => ∃ k : Nat, i = .int .i64 k ∧ k ≤ t.length ∧ OwnE wr w2.heap.size x (subL (t.take k) d) ∧ Below w2.heap.size w2 wr) (fun _ i _ => t.length - (intOf i).toNat)
        case atStart => exact ⟨0, rfl, Nat.zero_le _, OwnE.nil _ _, Below.refl _ _⟩
        case round =>
          obtain ⟨k, rfl, hk, ho, hb⟩ := hrel
          have HO := hid ho
          have HB := hid hb
          obtain ⟨al, xl, e2⟩ := ho.ents.shape
          have hlen : (subL (t.take k) d).length ≤ 1024 := by
            unfold subL
            rw [List.length_map]
            have h1 := List.length_filter_le (fun e : Ent => lyP d e.1) (t.take k)
            rw [List.length_take] at h1
            have := HRT.out.many
            omega
          have HLL := hid hlen
          generalize (subL (t.take k) d).length = nl at e2
          subst e2
          clear ho hb hlen
          by_cases hlt : k < t.length
          · have hmany := HRT.out.many
            have q1 : (k : Int) < (t.length : Int) := by omega
            have q2 : ¬ (k : Int) < 0 := by omega
            have hw1 : IntKind.i64.wrap ((k : Int) + 1) = ((k + 1 : Nat) : Int) := by rw [IntKind.wrap_i64]; omega
            obtain ⟨g, o, rfl, hgl, hat⟩ := (HE4.out.below HB.out).at k hlt
            obtain ⟨e, HED⟩ : ∃ e, Hid (t.getD k zE = e) := ⟨_, rfl⟩
            rw [HED.out] at hat
            have HSN := hid (subL_snoc d t hlt)
            rw [HED.out] at HSN
            have HBL := hid (HBW.out e (by rw [← HED.out]; exact getD_mem hlt))
            have HLY := hid (show lyP d e.1 = lyP d e.1 from rfl)
            obtain ⟨d0, d1, d2⟩ := hat
            cases hly : lyP d e.1 with
            | false =>
              have HF2 := hid (show subL (t.take (k + 1)) d = subL (t.take k) d from by rw [HSN.out, hly]; simp)
              rw [hly] at HBL
              clear hly HLY
              go_wp2_with (go_at_call 36; refine (HBL.out _).mono ?_; rintro r w5 ⟨rfl, hw5⟩; have hw5 := hw5.symm; subst hw5)
              exact ⟨⟨k + 1, by simp, by omega, by rw [HF2.out]; exact HO.out, HB.out⟩, by simp [intOf]; omega⟩
            | true =>
              have HF2 := hid (show subL (t.take (k + 1)) d = subL (t.take k) d ++ [subE d e] from by rw [HSN.out, hly]; simp)
              have HLA := hid (show (subL (t.take k) d).length + [e].length ≤ 3298534883328 by have := HLL.out; simp only [List.length_cons, List.length_nil]; omega)
              have HLA2 := hid (show (subL (t.take k) d).length + [((e.1.drop (d.length + 1), e.2) : Ent)].length ≤ 3298534883328 by have := HLL.out; simp only [List.length_cons, List.length_nil]; omega)
              rw [hly] at HBL
              have HLY := hid hly
              clear hly
              have HF0 := hid (show subE d e = e from by unfold subE cutP; rw [if_pos H0.out])
              rw [HF0.out] at HF2
              have HEB := hid (Eb.new wr e)
              have HEN := hid (ents_one (wr.alloc (.cells #[.string (mk e.1), .int .i64 e.2.1, .string (mk e.2.2)] 25)) e)
              rw [show (wr.alloc (.cells #[.string (mk e.1), .int .i64 e.2.1, .string (mk e.2.2)] 25)).heap.size = wr.heap.size + 1 by simp] at HEN
              have HOA := hid ((HO.out.below (below_walk wr (.cells #[.string (mk e.1), .int .i64 e.2.1, .string (mk e.2.2)] 25))).below (below_walk (wr.alloc (.cells #[.string (mk e.1), .int .i64 e.2.1, .string (mk e.2.2)] 25)) (.cells #[.string (mk e.1), .int .i64 e.2.1, .string (mk e.2.2)] 25)))
              have HBA := hid ((HB.out.alloc HB.out.size (.cells #[.string (mk e.1), .int .i64 e.2.1, .string (mk e.2.2)] 25)).alloc (HB.out.alloc HB.out.size (.cells #[.string (mk e.1), .int .i64 e.2.1, .string (mk e.2.2)] 25)).size (.cells #[.string (mk e.1), .int .i64 e.2.1, .string (mk e.2.2)] 25))
              go_wp2_with (first | (go_at_call 36; refine (HBL.out _).mono ?_; rintro r w5 ⟨rfl, hw5⟩; have hw5 := hw5.symm; subst hw5) | (at_builtin; refine app_ent rfl _ _ rfl w2.heap.size _ _ rfl HOA.out [e] _ rfl HEN.out HLA.out HBA.out.size ?_; intro vA wA hoA hgA _; have HOB := hid hoA; have HBB := hid (HBA.out.grown hgA HBA.out.size (fun j hj => (HOA.out.lt j hj).1)); obtain ⟨aA, nA, cA, eA⟩ : ∃ a n c, vA = .slice a n c := by {obtain ⟨a, c, e⟩ := hoA.ents.shape; exact ⟨a, _, c, e⟩}; subst eA; clear hoA hgA))
              exact ⟨⟨k + 1, by simp, by omega, by rw [HF2.out]; exact HOB.out, HBB.out⟩, by simp [intOf]; omega⟩
          · have q1 : ¬ (k : Int) < (t.length : Int) := by omega
            obtain rfl : k = t.length := by omega
            rw [List.take_length] at HO
            go_wp2
            go_ret2
            rw [HAP.out]
            exact ⟨⟨_, rfl, HO.out.le HB2.out.size⟩, HB2.out.trans (HB.out.mono HB2.out.size)⟩

      · have e1 : ¬ (mk d).toList = [] := fun h => h0 ((bl_mk d).symm.trans h)
        have e2 : ((mk d).toList == []) = false := by simpa using e1
        have e3 : (mk d).toList.isEmpty = false := by simpa using e1
        have H0 := hid h0
        clear h0
        generalize mk d = S at *
        go_enter Tryz.func11, Tryz.ntmps11
        go_wp2_with (first | (go_at_call 25; refine HR.out.mono ?_; rintro r w1 ⟨rfl, hb1⟩; have HB1 := hid hb1; clear hb1) | (go_at_call 40; refine (HWH.out _ HB1.out).mono ?_; rintro r w2 ⟨rfl, hb2⟩; have HB2 := hid (below_then HB1.out hb2); clear hb2))
        have HE4 := hid (HET.out.below HB2.out)
        go_loopw [8, 9] (fun x i wr => ∃ k : Nat, i = .int .i64 k ∧ k ≤ t.length ∧ OwnE wr w2.heap.size x (subL (t.take k) d) ∧ Below w2.heap.size w2 wr) (fun _ i _ => t.length - (intOf i).toNat)
        case atStart => exact ⟨0, rfl, Nat.zero_le _, OwnE.nil _ _, Below.refl _ _⟩
        case round =>
          obtain ⟨k, rfl, hk, ho, hb⟩ := hrel
          have HO := hid ho
          have HB := hid hb
          obtain ⟨al, xl, e2⟩ := ho.ents.shape
          have hlen : (subL (t.take k) d).length ≤ 1024 := by
            unfold subL
            rw [List.length_map]
            have h1 := List.length_filter_le (fun e : Ent => lyP d e.1) (t.take k)
            rw [List.length_take] at h1
            have := HRT.out.many
            omega
          have HLL := hid hlen
          generalize (subL (t.take k) d).length = nl at e2
          subst e2
          clear ho hb hlen
          by_cases hlt : k < t.length
          · have hmany := HRT.out.many
            have q1 : (k : Int) < (t.length : Int) := by omega
            have q2 : ¬ (k : Int) < 0 := by omega
            have hw1 : IntKind.i64.wrap ((k : Int) + 1) = ((k + 1 : Nat) : Int) := by rw [IntKind.wrap_i64]; omega
            obtain ⟨g, o, rfl, hgl, hat⟩ := (HE4.out.below HB.out).at k hlt
            obtain ⟨e, HED⟩ : ∃ e, Hid (t.getD k zE = e) := ⟨_, rfl⟩
            rw [HED.out] at hat
            have HSN := hid (subL_snoc d t hlt)
            rw [HED.out] at HSN
            have HBL := hid (HBW.out e (by rw [← HED.out]; exact getD_mem hlt))
            have HLY := hid (show lyP d e.1 = lyP d e.1 from rfl)
            obtain ⟨d0, d1, d2⟩ := hat
            cases hly : lyP d e.1 with
            | false =>
              have HF2 := hid (show subL (t.take (k + 1)) d = subL (t.take k) d from by rw [HSN.out, hly]; simp)
              rw [hly] at HBL
              clear hly HLY
              go_wp2_with (go_at_call 36; refine (HBL.out _).mono ?_; rintro r w5 ⟨rfl, hw5⟩; have hw5 := hw5.symm; subst hw5)
              exact ⟨⟨k + 1, by simp, by omega, by rw [HF2.out]; exact HO.out, HB.out⟩, by simp [intOf]; omega⟩
            | true =>
              have HF2 := hid (show subL (t.take (k + 1)) d = subL (t.take k) d ++ [subE d e] from by rw [HSN.out, hly]; simp)
              have HLA := hid (show (subL (t.take k) d).length + [e].length ≤ 3298534883328 by have := HLL.out; simp only [List.length_cons, List.length_nil]; omega)
              have HLA2 := hid (show (subL (t.take k) d).length + [((e.1.drop (d.length + 1), e.2) : Ent)].length ≤ 3298534883328 by have := HLL.out; simp only [List.length_cons, List.length_nil]; omega)
              rw [hly] at HBL
              have HLY := hid hly
              clear hly
              have HF0 := hid (show subE d e = (e.1.drop (d.length + 1), e.2) from by unfold subE cutP; rw [if_neg H0.out])
              rw [HF0.out] at HF2
              have hql := (under_is H0.out).1 HLY.out
              have HSF := hid (ext_from e.1 (d.length + 1))
              have hwd : IntKind.i64.wrap ((d.length : Int) + 1) = ((d.length + 1 : Nat) : Int) := by rw [IntKind.wrap_i64]; omega
              have HEN := hid (ents_one (wr.alloc (.cells #[.string (mk (e.1.drop (d.length + 1))), .int .i64 e.2.1, .string (mk e.2.2)] 25)) (e.1.drop (d.length + 1), e.2))
              rw [show (wr.alloc (.cells #[.string (mk (e.1.drop (d.length + 1))), .int .i64 e.2.1, .string (mk e.2.2)] 25)).heap.size = wr.heap.size + 1 by simp] at HEN
              have HOA := hid ((HO.out.below (below_walk wr (.cells #[.string (mk (e.1.drop (d.length + 1))), .int .i64 e.2.1, .string (mk e.2.2)] 25))).below (below_walk (wr.alloc (.cells #[.string (mk (e.1.drop (d.length + 1))), .int .i64 e.2.1, .string (mk e.2.2)] 25)) (.cells #[.string (mk (e.1.drop (d.length + 1))), .int .i64 e.2.1, .string (mk e.2.2)] 25)))
              have HBA := hid ((HB.out.alloc HB.out.size (.cells #[.string (mk (e.1.drop (d.length + 1))), .int .i64 e.2.1, .string (mk e.2.2)] 25)).alloc (HB.out.alloc HB.out.size (.cells #[.string (mk (e.1.drop (d.length + 1))), .int .i64 e.2.1, .string (mk e.2.2)] 25)).size (.cells #[.string (mk (e.1.drop (d.length + 1))), .int .i64 e.2.1, .string (mk e.2.2)] 25))
              have hcs : (d.length : Int) + 1 ≤ ((mk e.1).size : Int) := by rw [mk_size]; have := hql.1; omega
              have hcs2 : ((d.length + 1 : Nat) : Int) ≤ ((mk e.1).size : Int) := by rw [mk_size]; have := hql.1; omega
              clear hql
              go_wp2_with (first | (go_at_call 36; refine (HBL.out _).mono ?_; rintro r w5 ⟨rfl, hw5⟩; have hw5 := hw5.symm; subst hw5) | (at_builtin; rw [HSF.out]; refine app_ent rfl _ _ rfl w2.heap.size _ _ rfl HOA.out [(e.1.drop (d.length + 1), e.2)] _ rfl HEN.out HLA2.out HBA.out.size ?_; intro vA wA hoA hgA _; have HOB := hid hoA; have HBB := hid (HBA.out.grown hgA HBA.out.size (fun j hj => (HOA.out.lt j hj).1)); obtain ⟨aA, nA, cA, eA⟩ : ∃ a n c, vA = .slice a n c := by {obtain ⟨a, c, e⟩ := hoA.ents.shape; exact ⟨a, _, c, e⟩}; subst eA; clear hoA hgA))
              exact ⟨⟨k + 1, by simp, by omega, by rw [HF2.out]; exact HOB.out, HBB.out⟩, by simp [intOf]; omega⟩
          · have q1 : ¬ (k : Int) < (t.length : Int) := by omega
            obtain rfl : k = t.length := by omega
            rw [List.take_length] at HO
            go_wp2
            go_ret2
            rw [HAP.out]
            exact ⟨⟨_, rfl, HO.out.le HB2.out.size⟩, HB2.out.trans (HB.out.mono HB2.out.size)⟩

    · have HAP := hid (show sbP t d = .error W0 from by unfold sbP; rw [if_neg (by simpa using HE0.out), HW0.out, if_pos h1])
      have e1 : (W0 == 0) = false := by simpa using h1
      clear h1
      generalize mk d = S at *
      go_enter Tryz.func11, Tryz.ntmps11
      go_wp2_with (first | (go_at_call 25; refine HR.out.mono ?_; rintro r w1 ⟨rfl, hb1⟩; have HB1 := hid hb1; clear hb1) | (go_at_call 40; refine (HWH.out _ HB1.out).mono ?_; rintro r w2 ⟨rfl, hb2⟩; have HB2 := hid (below_then HB1.out hb2); clear hb2))
      go_ret2
      rw [HAP.out]
      exact ⟨rfl, HB2.out⟩
  · have HAP := hid (show sbP t d = .error E0 from by unfold sbP; rw [HE0.out, if_pos hz])
    have e1 : (E0 == 0) = false := by simpa using hz
    clear hz
    generalize mk d = S at *
    go_enter Tryz.func11, Tryz.ntmps11
    go_wp2_with (go_at_call 25; refine HR.out.mono ?_; rintro r w1 ⟨rfl, hb1⟩; have HB1 := hid hb1; clear hb1)
    go_ret2
    rw [HAP.out]
    exact ⟨rfl, HB1.out⟩

end Go.Proofs.YteijkbanlpodpaaGreatDoor

/- A region in which no step can panic. -/
namespace Go.Proofs.YteijkbanlpodpaaGreatDoor
open Go.RowKit
variable {P : Program}

/-- what must be shown where no step can panic -/
def noPanic (Q : Exit → Act → World → Prop) : Exit → Act → World → Prop := fun e a w => match e with
  | .panic _ => False
  | e => Q e a w
theorem wp_noPanic {c : Code} {Q : Exit → Act → World → Prop} {a : Act} {w : World} (h : c.wp P (noPanic Q) a w) : c.wp P Q a w :=
  Code.wp_mono (fun e a w h => by
    cases e
    all_goals first | exact h | exact h.elim) h

end Go.Proofs.YteijkbanlpodpaaGreatDoor

/- The document's Sort. -/
namespace Go.Proofs.YteijkbanlpodpaaGreatDoor
open Go.RowKit Go.BigFrame

/-- no later one ahead of an earlier one -/
def UpE (l : List Ent) : Prop := l.Pairwise (fun a b => ¬ cmpL (nms b.1) (nms a.1) < 0)
theorem cmpL_nlt {a b : List (List UInt8)} : ¬ cmpL b a < 0 ↔ cmpL a b ≤ 0 := by
  have := cmpL_anti a b
  omega
/-- how far two rising rows are joined: o is done, a and b are left -/
structure Mrg (t o a b : List Ent) : Prop where
  perm : (o ++ (a ++ b)).Perm t
  up : UpE o
  ua : UpE a
  ub : UpE b
  oa : ∀ x ∈ o, ∀ y ∈ a, ¬ cmpL (nms y.1) (nms x.1) < 0
  ob : ∀ x ∈ o, ∀ y ∈ b, ¬ cmpL (nms y.1) (nms x.1) < 0
theorem Mrg.stepA {t o a b : List Ent} {x : Ent} (h : Mrg t o (x :: a) b) (hb : ∀ y ∈ b, ¬ cmpL (nms y.1) (nms x.1) < 0) : Mrg t (o ++ [x]) a b := by
  have hu := h.ua
  unfold UpE at hu
  rw [List.pairwise_cons] at hu
  refine ⟨?_, ?_, hu.2, h.ub, ?_, ?_⟩
  · have := h.perm
    rw [List.append_assoc]
    exact this
  · unfold UpE
    rw [List.pairwise_append]
    refine ⟨h.up, List.pairwise_singleton _ _, fun p hp q hq => ?_⟩
    rw [List.mem_singleton] at hq
    subst hq
    exact h.oa p hp q (by simp)
  · intro p hp q hq
    rw [List.mem_append, List.mem_singleton] at hp
    rcases hp with hp | rfl
    · exact h.oa p hp q (by simp [hq])
    · exact hu.1 q hq
  · intro p hp q hq
    rw [List.mem_append, List.mem_singleton] at hp
    rcases hp with hp | rfl
    · exact h.ob p hp q hq
    · exact hb q hq
theorem Mrg.stepB {t o a b : List Ent} {x : Ent} (h : Mrg t o a (x :: b)) (ha : ∀ y ∈ a, ¬ cmpL (nms y.1) (nms x.1) < 0) : Mrg t (o ++ [x]) a b := by
  have hu := h.ub
  unfold UpE at hu
  rw [List.pairwise_cons] at hu
  refine ⟨?_, ?_, h.ua, hu.2, ?_, ?_⟩
  · have := h.perm
    refine List.Perm.trans ?_ this
    rw [List.append_assoc]
    exact List.Perm.append_left o (show (x :: (a ++ b)).Perm (a ++ x :: b) from List.perm_middle.symm)
  · unfold UpE
    rw [List.pairwise_append]
    refine ⟨h.up, List.pairwise_singleton _ _, fun p hp q hq => ?_⟩
    rw [List.mem_singleton] at hq
    subst hq
    exact h.ob p hp q (by simp)
  · intro p hp q hq
    rw [List.mem_append, List.mem_singleton] at hp
    rcases hp with hp | rfl
    · exact h.oa p hp q hq
    · exact ha q hq
  · intro p hp q hq
    rw [List.mem_append, List.mem_singleton] at hp
    rcases hp with hp | rfl
    · exact h.ob p hp q (by simp [hq])
    · exact hu.1 q hq
theorem Mrg.done {t o a b : List Ent} (h : Mrg t o a b) (h0 : a = [] ∨ b = []) : (o ++ a ++ b).Perm t ∧ UpE (o ++ a ++ b) := by
  refine ⟨by rw [List.append_assoc]; exact h.perm, ?_⟩
  unfold UpE
  rw [List.append_assoc, List.pairwise_append]
  rcases h0 with rfl | rfl
  · exact ⟨h.up, h.ub, fun x hx y hy => h.ob x hx y hy⟩
  · rw [List.append_nil]
    exact ⟨h.up, h.ua, fun x hx y hy => h.oa x hx y hy⟩
theorem up_head {x : Ent} {a : List Ent} (h : UpE (x :: a)) : ∀ y ∈ x :: a, ¬ cmpL (nms y.1) (nms x.1) < 0 := by
  intro y hy
  rw [List.mem_cons] at hy
  rcases hy with rfl | hy
  · rw [cmpL_self]; omega
  · unfold UpE at h
    rw [List.pairwise_cons] at h
    exact h.1 y hy
/-- what Sort answers -/
def SortA (w : World) (t : List Ent) (r : Ending) (w' : World) : Prop := ∃ v l, r = .returned v ∧ OwnE w' w.heap.size v l ∧ l.Perm t ∧ UpE l ∧ Below w.heap.size w w'
theorem slice_shape {v : Value} {es : List Ent} {w : World} (h : Ents w v es) : ∃ a n c, v = .slice a n c := by
  obtain ⟨a, c, e⟩ := h.shape
  exact ⟨a, _, c, e⟩

set_option maxRecDepth 100000 in
set_option maxHeartbeats 1000000 in
theorem rsort_small (t : List Ent) (h2 : t.length < 2) (v : Value) (w : World) (h : Ents w v t) : Calls Tryz.prog 31 #[v] w (SortA w t) := by
  obtain ⟨ao, c, rfl⟩ := h.shape
  have H := hid h
  have q1 : (t.length : Int) < 2 := by omega
  have HU : Hid (UpE t) := by
    unfold UpE
    match t, h2 with
    | [], _ => exact List.Pairwise.nil
    | [x], _ => exact List.pairwise_singleton _ _
  have HLN := hid (show ([] : List Ent).length + t.length ≤ 3298534883328 by simp; omega)
  clear h h2
  go_enter Tryz.func31, Tryz.ntmps31
  go_wp2_with (at_builtin; refine app_ent rfl _ _ rfl w.heap.size _ [] rfl (OwnE.nil _ _) t _ rfl H.out HLN.out (Nat.le_refl _) ?_)
  intro v5 w5 ho5 hg5 _
  have HO5 := hid ho5
  have HB5 := hid (gb_below hg5)
  obtain ⟨a5, c5, h5⟩ := ho5.ents.shape
  generalize ([] ++ t).length = n5 at h5
  subst h5
  clear ho5 hg5
  go_wp2
  go_ret
  exact ⟨_, t, rfl, HO5.out, List.Perm.refl _, HU.out, HB5.out⟩

set_option maxRecDepth 100000 in
set_option maxHeartbeats 4000000 in
theorem rsort_any : ∀ (f : Nat) (t : List Ent), t.length ≤ f → t.length ≤ 1099511627776 → (∀ e ∈ t, okP e.1 = true) → ∀ (v : Value) (w : World), Ents w v t →
    Calls Tryz.prog 31 #[v] w (SortA w t) := by
  intro f
  induction f with
  | zero =>
    intro t hf hn hok v w h
    exact rsort_small t (by omega) v w h
  | succ f ih =>
    intro t hf hn hok v w h
    obtain ⟨ao, c, rfl⟩ := h.shape
    have H := hid h
    have HIH := hid ih
    have HOK := hid hok
    by_cases h2 : t.length < 2
    · exact rsort_small t h2 _ w h
    · have q1 : ¬ (t.length : Int) < 2 := by omega
      obtain ⟨m, HM⟩ : ∃ m : Nat, Hid (m = t.length / 2) := ⟨_, rfl⟩
      have hm1 : 1 ≤ m := by rw [HM.out]; omega
      have hm2 : m < t.length := by rw [HM.out]; omega
      have hq : ((t.length : Nat) : Int).tdiv 2 = (m : Int) := by rw [HM.out]; rfl
      have hwm : IntKind.i64.wrap (m : Int) = (m : Int) := by rw [IntKind.wrap_i64]; omega
      obtain ⟨va, hva, hs1⟩ := ecut_to h m (by omega)
      obtain ⟨vb, hvb, hs2⟩ := ecut_from h m (by omega)
      obtain ⟨aa, na, ca, ea⟩ := slice_shape hva
      obtain ⟨ab, nb, cb', eb⟩ := slice_shape hvb
      subst ea eb
      have HVA := hid hva
      have HVB := hid hvb
      have HTD := hid (List.take_append_drop m t)
      have HS1 := hid hs1
      have HS2 := hid hs2
      clear hva hvb h ih hok h2 hs1 hs2
      go_enter Tryz.func31, Tryz.ntmps31
      go_wp2_with fail
      refine wp_noPanic (wp_region_held_drew (S := fun _ => True) (by kernel_rfl) trivial ?_)
      intro hHeld
      refine wpAnyH_take (i := 0) (v := .slice ao t.length c) rfl (by kernel_rfl) (by kernel_rfl) (by kernel_rfl) (fun _ _ _ h => h) (Or.inl ⟨by rfl, fun W _ => by go_simp⟩) hHeld ?_
      simp only [Act.put, List.getElem_toArray, List.getElem_cons_zero, List.setIfInBounds_toArray, List.set_cons_succ, List.set_cons_zero]
      refine wpAnyH_take (i := 1) (v := .slice ao t.length c) rfl (by kernel_rfl) (by kernel_rfl) (by kernel_rfl) (fun _ _ _ h => h) (Or.inl ⟨by rfl, fun W _ => by go_simp⟩) hHeld ?_
      simp only [Act.put, List.getElem_toArray, List.getElem_cons_zero, List.getElem_cons_succ, List.setIfInBounds_toArray, List.set_cons_succ, List.set_cons_zero]
      refine wpAnyH_take (i := 2) (v := .int .i64 (t.length : Int)) rfl (by kernel_rfl) (by kernel_rfl) (by kernel_rfl) (fun _ _ _ h => h) (Or.inl ⟨by rfl, fun W _ => by go_simp⟩) hHeld ?_
      simp only [Act.put, List.getElem_toArray, List.getElem_cons_zero, List.getElem_cons_succ, List.setIfInBounds_toArray, List.set_cons_succ, List.set_cons_zero]
      refine wpAnyH_take (i := 3) (v := .int .i64 (m : Int)) rfl (by kernel_rfl) (by kernel_rfl) (by kernel_rfl) (fun _ _ _ h => h) (Or.inl ⟨by rfl, fun W _ => by have hfact := hwm; go_simp; first | done | simp [hfact]⟩) hHeld ?_
      simp only [Act.put, List.getElem_toArray, List.getElem_cons_zero, List.getElem_cons_succ, List.setIfInBounds_toArray, List.set_cons_succ, List.set_cons_zero]
      refine wpAnyH_take (i := 4) (v := .slice aa na ca) rfl (by kernel_rfl) (by kernel_rfl) (by kernel_rfl) (fun _ _ _ h => h) (Or.inl ⟨by rfl, fun W _ => by have hfact := HS1.out W; go_simp; first | done | simp [hfact]⟩) hHeld ?_
      simp only [Act.put, List.getElem_toArray, List.getElem_cons_zero, List.getElem_cons_succ, List.setIfInBounds_toArray, List.set_cons_succ, List.set_cons_zero]
      refine wpAnyH_take (i := 6) (v := .slice ao t.length c) rfl (by kernel_rfl) (by kernel_rfl) (by kernel_rfl) (fun _ _ _ h => h) (Or.inl ⟨by rfl, fun W _ => by go_simp⟩) hHeld ?_
      simp only [Act.put, List.getElem_toArray, List.getElem_cons_zero, List.getElem_cons_succ, List.setIfInBounds_toArray, List.set_cons_succ, List.set_cons_zero]
      refine wpAnyH_take (i := 7) (v := .slice ao t.length c) rfl (by kernel_rfl) (by kernel_rfl) (by kernel_rfl) (fun _ _ _ h => h) (Or.inl ⟨by rfl, fun W _ => by go_simp⟩) hHeld ?_
      simp only [Act.put, List.getElem_toArray, List.getElem_cons_zero, List.getElem_cons_succ, List.setIfInBounds_toArray, List.set_cons_succ, List.set_cons_zero]
      refine wpAnyH_take (i := 8) (v := .int .i64 (t.length : Int)) rfl (by kernel_rfl) (by kernel_rfl) (by kernel_rfl) (fun _ _ _ h => h) (Or.inl ⟨by rfl, fun W _ => by go_simp⟩) hHeld ?_
      simp only [Act.put, List.getElem_toArray, List.getElem_cons_zero, List.getElem_cons_succ, List.setIfInBounds_toArray, List.set_cons_succ, List.set_cons_zero]
      refine wpAnyH_take (i := 9) (v := .int .i64 (m : Int)) rfl (by kernel_rfl) (by kernel_rfl) (by kernel_rfl) (fun _ _ _ h => h) (Or.inl ⟨by rfl, fun W _ => by have hfact := hwm; go_simp; first | done | simp [hfact]⟩) hHeld ?_
      simp only [Act.put, List.getElem_toArray, List.getElem_cons_zero, List.getElem_cons_succ, List.setIfInBounds_toArray, List.set_cons_succ, List.set_cons_zero]
      refine wpAnyH_take (i := 10) (v := .slice ab nb cb') rfl (by kernel_rfl) (by kernel_rfl) (by kernel_rfl) (fun _ _ _ h => h) (Or.inl ⟨by rfl, fun W _ => by have hfact := HS2.out W; go_simp; first | done | simp [hfact]⟩) hHeld ?_
      simp only [Act.put, List.getElem_toArray, List.getElem_cons_zero, List.getElem_cons_succ, List.setIfInBounds_toArray, List.set_cons_succ, List.set_cons_zero]
      refine wpAnyH_ready (rs := [5]) (by kernel_rfl) (by simp) ?_
      refine AllReadyH.cons rfl (fun K hK => ?_) AllReadyH.nil
      go_simp
      refine (HIH.out (t.take m) (by rw [List.length_take]; omega) (by rw [List.length_take]; omega) (fun e he => HOK.out e (List.mem_of_mem_take he)) _ w.drew (HVA.out.below (w' := w.drew) ⟨rfl, rfl, rfl, Nat.le_refl _, fun _ _ => rfl⟩)).mono ?_
      rintro r w1 ⟨v1, l1, rfl, ho1, hp1, hu1, hb1⟩
      obtain ⟨a1, n1, c1, e1⟩ := slice_shape ho1.ents
      subst e1
      have HO1 := hid ho1
      have HP1 := hid hp1
      have HU1 := hid hu1
      have HB1 : Hid (Below w.heap.size w w1) := ⟨hb1.os, hb1.tape, hb1.output, hb1.size, hb1.block⟩
      clear ho1 hp1 hu1 hb1
      go_wp2_with fail
      refine hK.out _ _ trivial (fun hHeld => ?_)
      clear hK K
      refine wpAnyH_ready (rs := [11]) (by kernel_rfl) (by simp) ?_
      refine AllReadyH.cons rfl (fun K hK => ?_) AllReadyH.nil
      go_simp
      refine (HIH.out (t.drop m) (by rw [List.length_drop]; omega) (by rw [List.length_drop]; omega) (fun e he => HOK.out e (List.mem_of_mem_drop he)) _ _ (HVB.out.below HB1.out)).mono ?_
      rintro r w2 ⟨v2, l2, rfl, ho2, hp2, hu2, hb2⟩
      obtain ⟨a2, n2, c2, e2⟩ := slice_shape ho2.ents
      subst e2
      have HO2 := hid (ho2.le HB1.out.size)
      have HO12 := hid (HO1.out.below hb2)
      have HP2 := hid hp2
      have HU2 := hid hu2
      have HB2 := hid (below_then HB1.out hb2)
      clear ho2 hp2 hu2 hb2 HO1 HB1
      go_wp2_with fail
      refine hK.out _ _ trivial (fun hHeld => ?_)
      clear hK K
      refine wpAnyH_take (i := 12) (v := .slice a1 n1 c1) rfl (by kernel_rfl) (by kernel_rfl) (by kernel_rfl) (fun _ _ _ h => h) (Or.inl ⟨by rfl, fun W _ => by go_simp⟩) hHeld ?_
      simp only [Act.put, List.getElem_toArray, List.getElem_cons_zero, List.getElem_cons_succ, List.setIfInBounds_toArray, List.set_cons_succ, List.set_cons_zero]
      refine wpAnyH_take (i := 13) (v := .slice a2 n2 c2) rfl (by kernel_rfl) (by kernel_rfl) (by kernel_rfl) (fun _ _ _ h => h) (Or.inl ⟨by rfl, fun W _ => by go_simp⟩) hHeld ?_
      simp only [Act.put, List.getElem_toArray, List.getElem_cons_zero, List.getElem_cons_succ, List.setIfInBounds_toArray, List.set_cons_succ, List.set_cons_zero]
      refine wpAnyH_done (by kernel_rfl) ?_ _
      simp only [noPanic]
      clear hHeld
      have HST : Hid (Mrg t [] l1 l2) := by
        refine ⟨?_, List.Pairwise.nil, HU1.out, HU2.out, fun x hx => (by cases hx), fun x hx => (by cases hx)⟩
        rw [List.nil_append]
        have := List.Perm.append HP1.out HP2.out
        rwa [HTD.out] at this
      have HE1 := hid HO12.out.ents
      have HE2 := hid HO2.out.ents
      clear HO12 HO2 HP1 HP2 HU1 HU2 HVA HVB HIH H
      go_wp2_with fail
      go_loopw [3, 4, 5] (fun va vb vo wr => ∃ o a b, Mrg t o a b ∧ OwnE wr w2.heap.size vo o ∧ Ents w2 va a ∧ Ents w2 vb b ∧ Below w2.heap.size w2 wr) (fun va vb _ _ => lenV va + lenV vb)
      case atStart => exact ⟨[], l1, l2, HST.out, OwnE.nil _ _, HE1.out, HE2.out, Below.refl _ _⟩
      case round =>
        obtain ⟨o, a, b, hmg, ho, hea, heb, hbw⟩ := hrel
        have HMG := hid hmg
        have HO := hid ho
        have HEA := hid hea
        have HEB := hid heb
        have HBW := hid hbw
        obtain ⟨aa', ca', ha'⟩ := hea.shape
        obtain ⟨ab', cb2, hb'⟩ := heb.shape
        obtain ⟨ao', no', co', ho'⟩ := slice_shape ho.ents
        have HLO := hid (show o.length + (a.length + b.length) ≤ 1099511627776 by have := hmg.perm.length_eq; simp only [List.length_append] at this; omega)
        clear hmg ho hea heb hbw HST HE1 HE2
        subst ha' hb' ho'
        by_cases hpos : 0 < a.length ∧ 0 < b.length
        · obtain ⟨x, a', rfl⟩ : ∃ x a', a = x :: a' := by
            cases a with
            | nil => simp at hpos
            | cons x a' => exact ⟨x, a', rfl⟩
          obtain ⟨y, b', rfl⟩ : ∃ y b', b = y :: b' := by
            cases b with
            | nil => simp at hpos
            | cons y b' => exact ⟨y, b', rfl⟩
          clear hpos
          obtain ⟨n1', HN1⟩ : ∃ n : Nat, Hid (n = (x :: a').length) := ⟨_, rfl⟩
          obtain ⟨n2', HN2⟩ : ∃ n : Nat, Hid (n = (y :: b').length) := ⟨_, rfl⟩
          have hn1 : 0 < n1' := by rw [HN1.out]; simp
          have hn2 : 0 < n2' := by rw [HN2.out]; simp
          obtain ⟨g1, o1, hg1, hl1, hx⟩ := HEA.out.at 0 (by simp)
          obtain ⟨g2, o2, hg2, hl2, hy⟩ := HEB.out.at 0 (by simp)
          have hx := hx.below hl1 HBW.out
          have hy := hy.below hl2 HBW.out
          rw [Nat.zero_mul, Nat.add_zero] at hx hy
          have HX : Hid (EntAt wr g1 o1 x) := hx
          have HY : Hid (EntAt wr g2 o2 y) := hy
          obtain ⟨va1, hva1, hsa⟩ := ecut_from HEA.out 1 (by simp)
          obtain ⟨vb1, hvb1, hsb⟩ := ecut_from HEB.out 1 (by simp)
          rw [← HN1.out] at hsa ⊢
          rw [← HN2.out] at hsb ⊢
          subst hg1 hg2
          have HSA : Hid (∀ W, (Instr.slice 22 (.slice (some ⟨g1, o1, none⟩) n1' ca') (some (.int .i64 1)) none none).run Tryz.prog W = .ok va1 W) := hsa
          have HSB : Hid (∀ W, (Instr.slice 22 (.slice (some ⟨g2, o2, none⟩) n2' cb2) (some (.int .i64 1)) none none).run Tryz.prog W = .ok vb1 W) := hsb
          have HVA1 : Hid (Ents w2 va1 a') := hva1
          have HVB1 : Hid (Ents w2 vb1 b') := hvb1
          obtain ⟨za, ya, hza⟩ := hva1.shape
          obtain ⟨zb, yb, hzb⟩ := hvb1.shape
          rw [show ((x :: a').drop 1) = a' from rfl] at hza
          rw [show ((y :: b').drop 1) = b' from rfl] at hzb
          have hla : a'.length < n1' := by rw [HN1.out]; simp
          have hlb : b'.length < n2' := by rw [HN2.out]; simp
          have hG1 := Nat.lt_of_lt_of_le hl1 HBW.out.size
          have hG2 := Nat.lt_of_lt_of_le hl2 HBW.out.size
          have HG1 := hid hG1
          have HG2 := hid hG2
          have px := fun p : Bel wr => p.cell HX.out.1 HG1.out
          have py := fun p : Bel wr => p.cell HY.out.1 HG2.out
          have ib : Nonempty (Bel wr) := bel_some wr
          have HOX := hid (show okP x.1 = true from HOK.out x (HMG.out.perm.mem_iff.1 (by simp)))
          have HOY := hid (show okP y.1 = true from HOK.out y (HMG.out.perm.mem_iff.1 (by simp)))
          have HLS := hid (fun p : Bel wr => rless_any y.1 x.1 p.out (by have := okP_short HOY.out; omega) (by have := okP_short HOX.out; omega))
          have HLT := hid (ltP_iff HOY.out HOX.out)
          generalize ltP y.1 x.1 = X at *
          clear hx hy hsa hsb hva1 hvb1 hl1 hl2 hG1 hG2
          go_wp2_with fail
          refine wp_region_quiet_bel (by kernel_rfl) (by kernel_rfl) ?_
          repeat (go_big_quiet_step (first | (go_at_call 54; exact bel_of (HLS.out _))))
          refine wpQuiet_nil ?_
          rintro w3 ⟨⟨w3', hb3⟩, hw3⟩
          obtain rfl : w3 = w3' := hw3
          have HB3 := hid (HBW.out.trans (hb3.mono HBW.out.size))
          have HO3 := hid (HO.out.below hb3)
          have HX3 := hid (HX.out.below HG1.out hb3)
          have HY3 := hid (HY.out.below HG2.out hb3)
          clear hb3 px py ib HLS HX HY HO HBW HG1 HG2
          cases X with
          | true =>
            have hlt := HLT.out.1 rfl
            have HM2 := hid (HMG.out.stepB (fun z hz => by
              have h1 := up_head HMG.out.ua z hz
              rw [cmpL_nlt] at h1 ⊢
              exact cmpL_trans _ _ _ (by omega) h1))
            obtain ⟨y0, y1, y2⟩ := HY3.out
            have HEN := hid (ents_one w3 y)
            have HO4 := hid (HO3.out.below (below_walk w3 (.cells #[.string (mk y.1), .int .i64 y.2.1, .string (mk y.2.2)] 25)))
            have HB4 := hid (HB3.out.alloc HB3.out.size (.cells #[.string (mk y.1), .int .i64 y.2.1, .string (mk y.2.2)] 25))
            have HL4 := hid (show o.length + [y].length ≤ 3298534883328 by have := HLO.out; simp at *; omega)
            have hsb := HSB.out
            subst hzb
            clear hlt HLT HMG HX3 HY3
            go_wp2_with (at_builtin; refine app_ent rfl _ _ rfl w2.heap.size _ o rfl HO4.out [y] _ rfl HEN.out HL4.out HB4.out.size ?_)
            intro v5 w5 ho5 hg5 _
            have HO5 := hid ho5
            have HB5 := hid (HB4.out.grown hg5 HB4.out.size (fun j hj => (HO4.out.lt j hj).1))
            obtain ⟨a5, n5, c5, h5⟩ := slice_shape ho5.ents
            subst h5
            clear ho5 hg5 HO4 HB4 HEN y0 y1 y2
            go_wp2
            refine ⟨⟨o ++ [y], x :: a', b', HM2.out, HO5.out, by rw [HN1.out] ; exact HEA.out, HVB1.out, HB5.out⟩, ?_⟩
            simp [lenV]
            omega
          | false =>
            have hlt : ¬ cmpL (nms y.1) (nms x.1) < 0 := fun h => by have := HLT.out.2 h; cases this
            have HM2 := hid (HMG.out.stepA (fun z hz => by
              have h1 := up_head HMG.out.ub z hz
              rw [cmpL_nlt] at h1 hlt ⊢
              exact cmpL_trans _ _ _ hlt h1))
            obtain ⟨y0, y1, y2⟩ := HX3.out
            have HEN := hid (ents_one w3 x)
            have HO4 := hid (HO3.out.below (below_walk w3 (.cells #[.string (mk x.1), .int .i64 x.2.1, .string (mk x.2.2)] 25)))
            have HB4 := hid (HB3.out.alloc HB3.out.size (.cells #[.string (mk x.1), .int .i64 x.2.1, .string (mk x.2.2)] 25))
            have HL4 := hid (show o.length + [x].length ≤ 3298534883328 by have := HLO.out; simp at *; omega)
            have hsa := HSA.out
            subst hza
            clear hlt HLT HMG HX3 HY3
            go_wp2_with (at_builtin; refine app_ent rfl _ _ rfl w2.heap.size _ o rfl HO4.out [x] _ rfl HEN.out HL4.out HB4.out.size ?_)
            intro v5 w5 ho5 hg5 _
            have HO5 := hid ho5
            have HB5 := hid (HB4.out.grown hg5 HB4.out.size (fun j hj => (HO4.out.lt j hj).1))
            obtain ⟨a5, n5, c5, h5⟩ := slice_shape ho5.ents
            subst h5
            clear ho5 hg5 HO4 HB4 HEN y0 y1 y2
            go_wp2
            refine ⟨⟨o ++ [x], a', y :: b', HM2.out, HO5.out, HVA1.out, by rw [HN2.out] ; exact HEB.out, HB5.out⟩, ?_⟩
            simp [lenV]
            omega
        · have HDN := hid (HMG.out.done (by
            cases a with
            | nil => exact Or.inl rfl
            | cons x a' =>
              cases b with
              | nil => exact Or.inr rfl
              | cons y b' => exact absurd ⟨by simp, by simp⟩ hpos))
          have HEA2 := hid (HEA.out.below HBW.out)
          have HEB2 := hid (HEB.out.below HBW.out)
          have HL4 := hid (show o.length + a.length ≤ 3298534883328 by have := HLO.out; omega)
          have HL5 := hid (show (o ++ a).length + b.length ≤ 3298534883328 by have := HLO.out; rw [List.length_append]; omega)
          obtain ⟨n1', HN1⟩ : ∃ n : Nat, Hid (a.length = n) := ⟨_, rfl⟩
          obtain ⟨n2', HN2⟩ : ∃ n : Nat, Hid (b.length = n) := ⟨_, rfl⟩
          have hpos' : ¬ (0 < n1' ∧ 0 < n2') := by rw [HN1.out, HN2.out] at hpos; exact hpos
          rw [HN1.out] at HEA2 HEA ⊢
          rw [HN2.out] at HEB2 HEB ⊢
          have HFIN : Hid (∀ v5 w5, OwnE w5 w2.heap.size v5 (o ++ a) → wr.grownBy w5 (Value.slice ao' no' co').ownBlock → Below w2.heap.size w2 w5 ∧ Ents w5 (.slice ab' n2' cb2) b) := by
            intro v5 w5 _ hg5
            have hb5 := HBW.out.grown hg5 HBW.out.size (fun j hj => (HO.out.lt j hj).1)
            exact ⟨hb5, HEB.out.below hb5⟩
          clear hpos HMG
          by_cases h1 : 0 < n1'
          · have h2 : ¬ 0 < n2' := fun h => hpos' ⟨h1, h⟩
            have e1 : decide (0 < n1') = true := by simpa using h1
            clear hpos'
            go_wp2_with (at_builtin; refine app_ent rfl _ _ rfl w2.heap.size _ o rfl HO.out a _ rfl HEA2.out HL4.out HBW.out.size ?_)
            intro v5 w5 ho5 hg5 _
            obtain ⟨hb5, he5⟩ := HFIN.out v5 w5 ho5 hg5
            have HO5 := hid ho5
            have HB5 := hid hb5
            have HE5 := hid he5
            obtain ⟨a5, n5, c5, h5⟩ := slice_shape ho5.ents
            subst h5
            clear ho5 hg5 hb5 he5 HFIN HO HEA2 HEB2
            go_wp2_with (at_builtin; refine app_ent rfl _ _ rfl w2.heap.size _ (o ++ a) rfl HO5.out b _ rfl HE5.out HL5.out HB5.out.size ?_)
            intro v6 w6 ho6 hg6 _
            have HO6 := hid (ho6.le HB2.out.size)
            have HB6 := hid (below_then HB2.out (HB5.out.grown hg6 HB5.out.size (fun j hj => (HO5.out.lt j hj).1)))
            obtain ⟨a6, n6, c6, h6⟩ := slice_shape ho6.ents
            subst h6
            clear ho6 hg6 HO5 HB5 HE5
            go_wp2
            go_ret
            exact ⟨_, o ++ a ++ b, rfl, by rw [List.append_assoc]; exact HO6.out, HDN.out.1, HDN.out.2, HB6.out⟩
          · have e1 : decide (0 < n1') = false := by simpa using h1
            clear hpos'
            go_wp2_with (at_builtin; refine app_ent rfl _ _ rfl w2.heap.size _ o rfl HO.out a _ rfl HEA2.out HL4.out HBW.out.size ?_)
            intro v5 w5 ho5 hg5 _
            obtain ⟨hb5, he5⟩ := HFIN.out v5 w5 ho5 hg5
            have HO5 := hid ho5
            have HB5 := hid hb5
            have HE5 := hid he5
            obtain ⟨a5, n5, c5, h5⟩ := slice_shape ho5.ents
            subst h5
            clear ho5 hg5 hb5 he5 HFIN HO HEA2 HEB2
            go_wp2_with (at_builtin; refine app_ent rfl _ _ rfl w2.heap.size _ (o ++ a) rfl HO5.out b _ rfl HE5.out HL5.out HB5.out.size ?_)
            intro v6 w6 ho6 hg6 _
            have HO6 := hid (ho6.le HB2.out.size)
            have HB6 := hid (below_then HB2.out (HB5.out.grown hg6 HB5.out.size (fun j hj => (HO5.out.lt j hj).1)))
            obtain ⟨a6, n6, c6, h6⟩ := slice_shape ho6.ents
            subst h6
            clear ho6 hg6 HO5 HB5 HE5
            go_wp2
            go_ret
            exact ⟨_, o ++ a ++ b, rfl, by rw [List.append_assoc]; exact HO6.out, HDN.out.1, HDN.out.2, HB6.out⟩

end Go.Proofs.YteijkbanlpodpaaGreatDoor

/- under: its value, and how it goes. -/
namespace Go.Proofs.YteijkbanlpodpaaGreatDoor
open Go.RowKit Go.Shelf Go.BigFrame

attribute [local go_sem] Oper.semAt_some

theorem Lies.one {w : World} {f : Value} {d : List UInt8} (h : Lies w f d) (h0 : d = []) : f = .func (.func 58) #[] #[] := by
  rcases h with h | h
  · exact h.2
  · exact absurd h0 h.1

set_option maxRecDepth 100000 in
set_option maxHeartbeats 1000000 in
/-- below, with the place of the text that it keeps -/
theorem below_new (d : List UInt8) (w : World) (hd : d.length ≤ 4611686018427387904) (h0 : d ≠ []) :
    Calls Tryz.prog 33 #[.string (mk d)] w fun r w' => ∃ f, r = .returned f ∧ (∃ B, f = .func (.func 59) #[] #[.pointer (some ⟨B, 0, none⟩)] ∧ B < w'.heap.size ∧ w'.cell? ⟨B, 0, none⟩ = some (.string (mk (d ++ [47]))) ∧ w.heap.size ≤ B) ∧ Below w.heap.size w w' := by
  have e1 : ¬ (mk d).toList = [] := fun h => h0 ((bl_mk d).symm.trans h)
  have e2 : ((mk d).toList == []) = false := by simpa using e1
  have e3 : (mk d).toList.isEmpty = false := by simpa using e1
  have hadd := fun W => str_add d [47] (by simp; omega) W
  have HB := hid (below_walk w (.cells #[.string (mk (d ++ [47]))] 9))
  have HN := hid (hp_new w (.cells #[.string (mk (d ++ [47]))] 9))
  change ∀ W, (Op.stringOp .add (mk d) ⟨#[47]⟩).run Tryz.prog W = .ok (.string (mk (d ++ [47]))) W at hadd
  clear h0
  generalize mk (d ++ [47]) = s2 at *
  generalize mk d = s at *
  go_enter Tryz.func33, Tryz.ntmps33
  go_wp2
  go_ret
  exact ⟨_, rfl, ⟨_, rfl, hp_lt HN.out, by rw [row_cell HN.out 0]; rfl, Nat.le_refl _⟩, HB.out⟩

/-- an entry that may be -/
abbrev MEnt := { e : Ent // mayP e = true }
def vals (T : List MEnt) : List Ent := T.map (·.1)
theorem vals_of {t : List Ent} (h : ∀ e ∈ t, mayP e = true) : ∃ T : List MEnt, t = vals T := by
  induction t with
  | nil => exact ⟨[], rfl⟩
  | cons e t ih =>
    obtain ⟨T, hT⟩ := ih (fun x hx => h x (List.mem_cons_of_mem _ hx))
    have he := h e (by simp)
    exact ⟨⟨e, he⟩ :: T, by rw [hT]; rfl⟩
theorem vals_len (T : List MEnt) : (vals T).length = T.length := by unfold vals; rw [List.length_map]
/-- those below a directory -/
def undL (d : List UInt8) (T : List MEnt) : List MEnt := T.filter (fun y => lyP d y.1.1)
theorem vals_und (d : List UInt8) (T : List MEnt) : vals (undL d T) = (vals T).filter (fun e => lyP d e.1) := by
  unfold vals undL
  rw [List.filter_map]
  rfl
/-- what a round is handed: the last name, the entry -/
def undE (y : MEnt) : Array Value := #[.string (mk (spN y.1.1)), entA y.1]

/-- a round keeps all below n0 but one block -/
def KpS (n0 x : Nat) (W W' : World) : Prop := W.heap.size ≤ W'.heap.size ∧ ∀ b, b < n0 → b ≠ x → W'.heap[b]? = W.heap[b]?
theorem kpS_r (n0 x : Nat) (W : World) : KpS n0 x W W := ⟨Nat.le_refl _, fun _ _ _ => rfl⟩
theorem kpS_t {n0 x : Nat} {A B C : World} (h : KpS n0 x A B) (k : KpS n0 x B C) : KpS n0 x A C := ⟨Nat.le_trans h.1 k.1, fun b h1 h2 => (k.2 b h1 h2).trans (h.2 b h1 h2)⟩
theorem kpS_b {n0 x : Nat} {w : World} (hb : n0 ≤ w.heap.size) (W : World) (l : Nat) (o o' : Obj) (hl : w.heap.size ≤ l) (_ : W.heap[l]? = some o) (_ : o.isCells = false) (_ : o.isWalk = false) : KpS n0 x W (W.putObj l o') := by
  refine ⟨by simp [World.putObj], fun b h1 _ => ?_⟩
  have hne : l ≠ b := by omega
  simp [World.putObj, hne]
theorem kpS_below {n0 x : Nat} {W W' : World} (h : Below W.heap.size W W') (hn : n0 ≤ W.heap.size) : KpS n0 x W W' := ⟨h.size, fun b h1 _ => h.block b (Nat.lt_of_lt_of_le h1 hn)⟩
theorem KpS.cell {n0 x : Nat} {W W' : World} (h : KpS n0 x W W') {b o : Nat} (h1 : b < n0) (h2 : b ≠ x) : W'.cell? ⟨b, o, none⟩ = W.cell? ⟨b, o, none⟩ := World.cell?_of_block (h.2 b h1 h2)

theorem Ents.low {w : World} {v : Value} {t : List Ent} (h : Ents w v t) {g o n c : Nat} (h0 : 0 < t.length) (e : v = .slice (some ⟨g, o, none⟩) n c) : g < w.heap.size := by
  subst e
  obtain ⟨g', o', e1, h1, _⟩ := h.at 0 h0
  injection e1 with e1
  injection e1 with e1 _
  rw [e1]
  exact h1
/-- what under's value goes over: all of it below n0, and not at x -/
structure Und (w : World) (n0 x : Nat) (tv : Value) (t : List Ent) (f : Value) (d : List UInt8) (Bt Bl : Nat) : Prop where
  ct : w.cell? ⟨Bt, 0, none⟩ = some tv
  cl : w.cell? ⟨Bl, 0, none⟩ = some f
  lt : Bt < n0 ∧ Bt ≠ x
  ll : Bl < n0 ∧ Bl ≠ x
  sh : ∃ ao c, tv = .slice ao t.length c
  et : ∀ k, k < t.length → ∃ g o c, tv = .slice (some ⟨g, o, none⟩) t.length c ∧ g < n0 ∧ g ≠ x ∧ EntAt w g (o + k * 3) (t.getD k zE)
  fl : (d = [] ∧ f = .func (.func 58) #[] #[]) ∨ (d ≠ [] ∧ ∃ B, f = .func (.func 59) #[] #[.pointer (some ⟨B, 0, none⟩)] ∧ B < n0 ∧ B ≠ x ∧ w.cell? ⟨B, 0, none⟩ = some (.string (mk (d ++ [47]))))
theorem Und.kept {w w' : World} {n0 x : Nat} {tv : Value} {t : List Ent} {f : Value} {d : List UInt8} {Bt Bl : Nat} (h : Und w n0 x tv t f d Bt Bl) (k : KpS n0 x w w') : Und w' n0 x tv t f d Bt Bl := by
  refine ⟨(k.cell h.lt.1 h.lt.2).trans h.ct, (k.cell h.ll.1 h.ll.2).trans h.cl, h.lt, h.ll, h.sh, fun j hj => ?_, ?_⟩
  · obtain ⟨g, o, c, h1, h2, h3, h4, h5, h6⟩ := h.et j hj
    exact ⟨g, o, c, h1, h2, h3, (k.cell h2 h3).trans h4, (k.cell h2 h3).trans h5, (k.cell h2 h3).trans h6⟩
  · rcases h.fl with h1 | ⟨h0, B, h1, h2, h3, h4⟩
    · exact Or.inl h1
    · exact Or.inr ⟨h0, B, h1, h2, h3, (k.cell h2 h3).trans h4⟩

set_option maxRecDepth 100000 in
set_option maxHeartbeats 1000000 in
theorem under_any (tv : Value) (t : List Ent) (d : List UInt8) (w : World) (h : Ents w tv t) (hd : d.length ≤ 4611686018427387904) (x : Nat) (hx : x < w.heap.size) (hap : ∀ g o n c, 0 < t.length → tv = .slice (some ⟨g, o, none⟩) n c → g ≠ x) :
    Calls Tryz.prog 38 #[tv, .string (mk d)] w fun r w' => ∃ Bt Bl f, r = .returned (.func (.func 63) #[] #[.pointer (some ⟨Bt, 0, none⟩), .pointer (some ⟨Bl, 0, none⟩)]) ∧ Und w' w'.heap.size x tv t f d Bt Bl ∧ w.heap.size ≤ Bt ∧ w.heap.size ≤ Bl ∧ Below w.heap.size w w' := by
  have hmf : ∀ (fn : Fn) (first cap : Array Value) (w : World), (Instr.makeFunc fn first cap).run Tryz.prog w = .ok (.func fn first cap) w := fun _ _ _ _ => rfl
  obtain ⟨ao, c, e0⟩ := h.shape
  have HET := hid h
  have HAP := hid hap
  subst e0
  clear h hap
  by_cases h0 : d = []
  · have HB := hid (fun W => below_fn d W hd)
    have H0 := hid h0
    clear h0
    go_enter Tryz.func38, Tryz.ntmps38
    go_wp2_with (go_at_call 33; go_loud (refine (HB.out _).mono ?_; rintro r w1 ⟨f, rfl, hf, hb1⟩; have hf1 := hf.one H0.out; subst hf1; have HB1 := hid hb1; clear hb1 hf))
    go_ret
    have hb0 := below_walk w (.cells #[.slice ao t.length c] 22)
    have hb1 := below_then hb0 HB1.out
    have hz1 : w.heap.size + 1 ≤ w1.heap.size := by have := HB1.out.size; simpa using this
    have hb2 := hb1.alloc hb1.size (.cells #[.func (.func 58) #[] #[]] 57)
    have hz2 : (w1.alloc (.cells #[.func (.func 58) #[] #[]] 57)).heap.size = w1.heap.size + 1 := by simp
    refine ⟨_, _, .func (.func 58) #[] #[], rfl, ?_, Nat.le_refl _, by omega, hb2⟩
    refine ⟨?_, by simp, ⟨by rw [hz2]; omega, by omega⟩, ⟨by rw [hz2]; omega, by omega⟩, ⟨_, _, rfl⟩, fun k hk => ?_, Or.inl ⟨H0.out, rfl⟩⟩
    · rw [(below_walk w1 _).cell (p := ⟨w.heap.size, 0, none⟩) (by show w.heap.size < w1.heap.size; omega), HB1.out.cell (p := ⟨w.heap.size, 0, none⟩) (by simp)]
      simp
    · obtain ⟨g, o, rfl, h2, h3⟩ := HET.out.at k hk
      exact ⟨g, o, c, rfl, by rw [hz2]; omega, HAP.out _ _ _ _ (by omega) rfl, h3.below h2 hb2⟩
  · have HB := hid (fun W => below_new d W hd h0)
    have H0 := hid h0
    clear h0
    go_enter Tryz.func38, Tryz.ntmps38
    go_wp2_with (go_at_call 33; refine (HB.out _).mono ?_; rintro r w1 ⟨f, rfl, hf, hb1⟩; obtain ⟨B, rfl, hB1, hB2, hB3⟩ := hf; have HBL := hid hB1; have HBC := hid hB2; have HBN := hid hB3; clear hB1 hB2 hB3; have HB1 := hid hb1; clear hb1)
    go_ret
    have hb0 := below_walk w (.cells #[.slice ao t.length c] 22)
    have hb1 := below_then hb0 HB1.out
    have hz1 : w.heap.size + 1 ≤ w1.heap.size := by have := HB1.out.size; simpa using this
    have hb2 := hb1.alloc hb1.size (.cells #[.func (.func 59) #[] #[.pointer (some ⟨B, 0, none⟩)]] 57)
    have hz2 : (w1.alloc (.cells #[.func (.func 59) #[] #[.pointer (some ⟨B, 0, none⟩)]] 57)).heap.size = w1.heap.size + 1 := by simp
    refine ⟨_, _, .func (.func 59) #[] #[.pointer (some ⟨B, 0, none⟩)], rfl, ?_, Nat.le_refl _, by omega, hb2⟩
    refine ⟨?_, by simp, ⟨by rw [hz2]; omega, by omega⟩, ⟨by rw [hz2]; omega, by omega⟩, ⟨_, _, rfl⟩, fun k hk => ?_, Or.inr ⟨H0.out, B, rfl, by rw [hz2]; have := HBL.out; omega, by have h4 := HBN.out; simp at h4; omega, ((below_walk w1 _).cell (p := ⟨B, 0, none⟩) HBL.out).trans HBC.out⟩⟩
    · rw [(below_walk w1 _).cell (p := ⟨w.heap.size, 0, none⟩) (by show w.heap.size < w1.heap.size; omega), HB1.out.cell (p := ⟨w.heap.size, 0, none⟩) (by simp)]
      simp
    · obtain ⟨g, o, rfl, h2, h3⟩ := HET.out.at k hk
      exact ⟨g, o, c, rfl, by rw [hz2]; omega, HAP.out _ _ _ _ (by omega) rfl, h3.below h2 hb2⟩

theorem und_snoc (d : List UInt8) (T : List MEnt) (k : Nat) (y : MEnt) (hy : T[k]? = some y) : undL d (T.take (k + 1)) = undL d (T.take k) ++ (if lyP d y.1.1 = true then [y] else []) := by
  unfold undL
  rw [List.take_add_one, hy, List.filter_append]
  congr 1
  simp only [Option.toList, List.filter_cons, List.filter_nil]

set_option maxRecDepth 100000 in
set_option maxHeartbeats 2000000 in
theorem und_in (n : Nat) (hn : 1 ≤ n) (l Bt Bl n0 x : Nat) (T : List MEnt) (hT : T.length ≤ 1024) (tv f : Value) (d : List UInt8) (J Jx : List MEnt → World → Prop)
    (hY : ∀ pre y W, J pre W → pre.length < T.length → YieldAt Fence.wide (n - 1) Tryz.prog l (undE y) W fun e W' =>
      (e = .returned (.bool true) ∧ J (pre ++ [y]) W' ∧ KpS n0 x W W') ∨ (e = .returned (.bool false) ∧ Jx (pre ++ [y]) W'))
    (W : World) (hU : Und W n0 x tv (vals T) f d Bt Bl) (hnW : n0 ≤ W.heap.size) (hJ' : AbidesFrom W.heap.size J) (h0 : J [] W) :
    CallsIn Fence.wide n Tryz.prog 63 #[.func (.yield l) #[] #[], .pointer (some ⟨Bt, 0, none⟩), .pointer (some ⟨Bl, 0, none⟩)] W fun e W' => (∃ v, e = .returned v) ∧
      ((∃ ys, ys = undL d T ∧ J ys W') ∨ (∃ pre, pre <+: undL d T ∧ Jx pre W')) := by
  obtain ⟨ao, c, rfl⟩ := hU.sh
  rw [vals_len] at hU
  have HU := hid hU
  have ct := hU.ct
  clear hU
  refine callsIn_of_wp Tryz.func63 rfl trivial ?_ rfl
  simp only [Tryz.ntmps63, List.size_toArray, List.length_cons, List.length_nil, Nat.reduceAdd, Nat.reduceSub, Array.replicate_succ, Array.replicate_zero, List.push_toArray, List.append_toArray, List.nil_append, List.cons_append]
  gi_wp2
  gi_loopw [11] (fun i wr => ∃ k : Nat, k ≤ T.length ∧ i = .int .i64 k ∧ J (undL d (T.take k)) wr ∧ KpS n0 x W wr) (fun i _ => T.length - (intOf i).toNat)
  case atStart => exact ⟨0, Nat.zero_le _, rfl, h0, kpS_r _ _ _⟩
  case round =>
    obtain ⟨k, hk, rfl, hJs, hkp⟩ := hrel
    have HJs := hid hJs
    have HKP := hid hkp
    clear hJs hkp
    by_cases hlt : k < T.length
    · obtain ⟨y, hy⟩ : ∃ y, T[k]? = some y := ⟨_, List.getElem?_eq_getElem hlt⟩
      have hge : (vals T).getD k zE = y.1 := by
        unfold vals
        rw [List.getD_eq_getElem?_getD, List.getElem?_map, hy]
        rfl
      have HS := hid (und_snoc d T k y hy)
      obtain ⟨g, o, c', e0, h2, h3, h4, h5, h6⟩ := (HU.out.kept HKP.out).et k (by rw [vals_len]; exact hlt)
      rw [hge] at h4 h5 h6
      injection e0 with e0 e1 e2
      clear e1 e2
      subst e0
      have cl := (HU.out.kept HKP.out).cl
      have hnw : n0 ≤ wr.heap.size := Nat.le_trans hnW HKP.out.1
      have q1 : (k : Int) < (T.length : Int) := by omega
      have hw1 : IntKind.i64.wrap ((k : Int) + 1) = ((k + 1 : Nat) : Int) := by rw [IntKind.wrap_i64]; omega
      have HBE := hid (below_walk wr (.cells #[.string (mk y.1.1), .int .i64 y.1.2.1, .string (mk y.1.2.2)] 25))
      have HUE := hid ((HU.out.kept HKP.out).kept (kpS_below HBE.out hnw))
      have cl2 := HUE.out.cl
      have HPS := hid (fun W => psplit_any (mk y.1.1) W (by rw [bl_mk]; have := okP_short (mayP_ok y.2); omega))
      rw [bl_mk] at HPS
      have HPX := hid (show undL d (T.take (k + 1)) <+: undL d T from List.IsPrefix.filter _ (List.take_prefix _ _))
      have HYW := hid (fun W (hJW : J (undL d (T.take k)) W) => hY _ y W hJW (Nat.lt_of_le_of_lt (by unfold undL; have := List.length_filter_le (fun y : MEnt => lyP d y.1.1) (T.take k); rw [List.length_take] at this; exact Nat.le_trans this (Nat.min_le_left _ _)) hlt))
      have HFL := hid (HUE.out.fl)
      have HLN := hid hnw
      clear hy hge cl hnw ct
      rcases HFL.out with ⟨hd0, hf⟩ | ⟨hd0, B, hf, hB1, hB2, hB3⟩
      · subst hf
        have HS1 := hid (show undL d (T.take (k + 1)) = undL d (T.take k) ++ [y] from by rw [HS.out, if_pos (by unfold lyP; rw [decide_eq_true hd0, Bool.true_or])])
        have HL := hid (fun W => lies_one y.1.1 W)
        clear HS hd0
        have HS := HS1; clear HS1
        gi_wp2_with (first | (refine ⟨trivial, ?_⟩; gi_at_call 58; refine (callsIn_wide.2 (HL.out _)).mono ?_; rintro e w5 ⟨rfl, hw5⟩; have hw5 := hw5.symm; subst hw5) | (refine ⟨trivial, ?_⟩; gi_at_call 48; refine (callsIn_wide.2 (HPS.out _)).mono ?_; rintro e w6 ⟨rfl, n1, hw6⟩; subst hw6; obtain ⟨fn, tmps, assign, body, hy, hR⟩ := HYW.out _ (hJ' _ _ _ none HJs.out (below_gb (below_n HBE.out n1) none) (by simp)); dsimp only [undE, entA] at hy))
        refine hR.mono ?_
        rintro e W3 (⟨rfl, hJ3, hk3⟩ | ⟨rfl, hJx3⟩)
        · gi_wp2
          go_roundw
          case rel => exact ⟨k + 1, by omega, by simp, by rw [HS.out]; exact hJ3, kpS_t HKP.out (kpS_t (kpS_below (below_n HBE.out n1) HLN.out) hk3)⟩
          case measure => simp [intOf]; omega
        · gi_wp2
          refine bodyPost_ret (results_none rfl _ _ _) rfl ?_
          exact ⟨⟨_, rfl⟩, .inr ⟨_, by rw [← HS.out]; exact HPX.out, hJx3⟩⟩
      · subst hf
        have HD0 := hid hd0
        have HLP := hid (show lyP d y.1.1 = (d ++ [47]).isPrefixOf y.1.1 from by unfold lyP; rw [decide_eq_false hd0, Bool.false_or])
        rw [HLP.out] at HS
        have HL := hid (fun W hW => lies_two B d y.1.1 W hW)
        have HBC := hid hB3
        clear hd0 hB1 hB2 hB3 HLP
        generalize (d ++ [47]).isPrefixOf y.1.1 = X at *
        cases X with
        | true =>
          have HS1 := hid (show undL d (T.take (k + 1)) = undL d (T.take k) ++ [y] from by rw [HS.out, if_pos rfl])
          clear HS
          have HS := HS1; clear HS1
          gi_wp2_with (first | (refine ⟨trivial, ?_⟩; gi_at_call 59; refine (callsIn_wide.2 (HL.out _ HBC.out)).mono ?_; rintro e w5 ⟨rfl, hw5⟩; have hw5 := hw5.symm; subst hw5) | (refine ⟨trivial, ?_⟩; gi_at_call 48; refine (callsIn_wide.2 (HPS.out _)).mono ?_; rintro e w6 ⟨rfl, n1, hw6⟩; subst hw6; obtain ⟨fn, tmps, assign, body, hy, hR⟩ := HYW.out _ (hJ' _ _ _ none HJs.out (below_gb (below_n HBE.out n1) none) (by simp)); dsimp only [undE, entA] at hy))
          refine hR.mono ?_
          rintro e W3 (⟨rfl, hJ3, hk3⟩ | ⟨rfl, hJx3⟩)
          · gi_wp2
            go_roundw
            case rel => exact ⟨k + 1, by omega, by simp, by rw [HS.out]; exact hJ3, kpS_t HKP.out (kpS_t (kpS_below (below_n HBE.out n1) HLN.out) hk3)⟩
            case measure => simp [intOf]; omega
          · gi_wp2
            refine bodyPost_ret (results_none rfl _ _ _) rfl ?_
            exact ⟨⟨_, rfl⟩, .inr ⟨_, by rw [← HS.out]; exact HPX.out, hJx3⟩⟩
        | false =>
          have HS1 := hid (show undL d (T.take (k + 1)) = undL d (T.take k) from by rw [HS.out, if_neg (by simp), List.append_nil])
          clear HS
          gi_wp2_with (refine ⟨trivial, ?_⟩; gi_at_call 59; refine (callsIn_wide.2 (HL.out _ HBC.out)).mono ?_; rintro e w5 ⟨rfl, hw5⟩; have hw5 := hw5.symm; subst hw5)
          go_roundw
          case rel => exact ⟨k + 1, by omega, by simp, by rw [HS1.out]; exact hJ' _ _ _ none HJs.out (below_gb HBE.out none) (by simp), kpS_t HKP.out (kpS_below HBE.out HLN.out)⟩
          case measure => simp [intOf]; omega
    · obtain rfl : k = T.length := by omega
      have HJ := hid (show J (undL d T) wr by have := HJs.out; rwa [List.take_length] at this)
      gi_wp2
      go_end0
      exact ⟨⟨_, rfl⟩, .inl ⟨_, rfl, HJ.out⟩⟩

end Go.Proofs.YteijkbanlpodpaaGreatDoor

/- directory; under's value as a contract for loops. -/
namespace Go.Proofs.YteijkbanlpodpaaGreatDoor
open Go.RowKit Go.BigFrame

theorem und_stops (n : Nat) (hn : 1 ≤ n) (Bt Bl n0 x : Nat) (T : List MEnt) (hT : T.length ≤ 1024) (tv f : Value) (d : List UInt8) (w : World) (hU : Und w n0 x tv (vals T) f d Bt Bl) (hnw : n0 ≤ w.heap.size) :
    SeqStopsK Fence.wide n Tryz.prog 63 #[.pointer (some ⟨Bt, 0, none⟩), .pointer (some ⟨Bl, 0, none⟩)] undE (KpS n0 x) (fun ys => ys = undL d T) (fun pre => pre <+: undL d T) T.length w := by
  intro l J Jx W hW hJ hJx hY h0
  exact und_in n hn l Bt Bl n0 x T hT tv f d J Jx hY W (hU.kept (kpS_below hW hnw)) (Nat.le_trans hnw hW.size) hJ h0

set_option maxRecDepth 100000 in
set_option maxHeartbeats 1000000 in
theorem directory_any (v : Value) (t : List Ent) (d : List UInt8) (w : World) (h : Ents w v t) (hr : Rgt t) (hd : d.length ≤ 4611686018427387904) :
    Calls Tryz.prog 37 #[v, .string (mk d)] w fun r w' => r = .returned (.int .i64 (whP t d)) ∧ Below w.heap.size w w' := by
  have hoks : ∀ e ∈ t, okP e.1 = true := fun e he => mayP_ok (hr.may e he)
  obtain ⟨ao, c, e0⟩ := h.shape
  cases hok : okP d with
  | false =>
    have HC := hid (check_is (mk d) 45 (by rw [bl_mk]; unfold chN; rw [hok]; rfl) (by rw [bl_mk]; omega))
    have HW := hid (show whP t d = 45 from by unfold whP; rw [if_pos hok])
    clear hok h hr hoks
    subst e0
    generalize mk d = s at *
    go_enter Tryz.func37, Tryz.ntmps37
    go_wp2_with (go_at_call 32; refine (HC.out _).mono ?_; rintro r w1 ⟨rfl, n1, rfl⟩)
    go_ret
    exact ⟨by rw [HW.out]; rfl, below_n (Below.refl _ _) n1⟩
  | true =>
    have HC := hid (check_is (mk d) 0 (by rw [bl_mk]; unfold chN; rw [hok]; rfl) (by rw [bl_mk]; omega))
    have HD := hid (fun W (hW : Below w.heap.size w W) => isDir_any v t d W (h.below hW) hr.up hoks hok hr.many)
    have HS := hid (fun W (hW : Below w.heap.size w W) => standing_any v t d W (h.below hW) hr.up hoks hok hr.many)
    cases hdir : dirP t d with
    | true =>
      have HW := hid (show whP t d = 0 from by unfold whP; rw [hok, hdir]; rfl)
      rw [hdir] at HD
      clear hok h hr hoks hdir
      subst e0
      generalize mk d = s at *
      go_enter Tryz.func37, Tryz.ntmps37
      go_wp2_with (first | (go_at_call 32; refine (HC.out _).mono ?_; rintro r w1 ⟨rfl, n1, rfl⟩; have HB1 := hid (below_n (Below.refl w.heap.size w) n1)) | (go_at_call 20; refine (HD.out _ HB1.out).mono ?_; rintro r w2 ⟨rfl, hb2⟩; have HB2 := hid (below_then HB1.out hb2); clear hb2))
      go_ret
      exact ⟨by rw [HW.out]; rfl, HB2.out⟩
    | false =>
      obtain ⟨K, HK⟩ : ∃ K : Int, Hid ((stP t d).2.1 = K) := ⟨_, rfl⟩
      have hz : thP t d = false → K = 0 := fun h => by
        rw [← HK.out]
        unfold thP at h
        unfold stP
        cases e : fdP t d with
        | none => rfl
        | some x => rw [e] at h; cases h
      have hz2 : thP t d = true → K ≠ 0 := fun h h0 => by
        unfold thP at h
        obtain ⟨e, he⟩ := Option.isSome_iff_exists.1 h
        have hm := hr.may e (fdP_some he).1
        have : (stP t d).2.1 = e.2.1 := by unfold stP; rw [he]; rfl
        rw [HK.out, h0] at this
        unfold mayP at hm
        rw [← this] at hm
        simp at hm
      have HW := hid (show whP t d = if K = 0 then 8 else 102 from by
        unfold whP
        rw [hok, hdir]
        cases hth : thP t d with
        | false => rw [hz hth]; rfl
        | true => rw [if_neg (hz2 hth)]; rfl)
      rw [hdir] at HD
      unfold entA at HS
      rw [HK.out] at HS
      clear hok h hr hoks hdir hz hz2 HK
      subst e0
      generalize mk (stP t d).1 = s1 at *
      generalize mk (stP t d).2.2 = s2 at *
      generalize mk d = s at *
      have hfk := fun W => field_kind s1 s2 K W
      by_cases h0 : K = 0
      · have HW2 := hid (HW.out.trans (if_pos h0))
        subst h0
        clear HW
        go_enter Tryz.func37, Tryz.ntmps37
        go_wp2_with (first | (go_at_call 32; refine (HC.out _).mono ?_; rintro r w1 ⟨rfl, n1, rfl⟩; have HB1 := hid (below_n (Below.refl w.heap.size w) n1)) | (go_at_call 20; refine (HD.out _ HB1.out).mono ?_; rintro r w2 ⟨rfl, hb2⟩; have HB2 := hid (below_then HB1.out hb2); clear hb2) | (go_at_call 47; refine (HS.out _ HB2.out).mono ?_; rintro r w3 ⟨rfl, hb3⟩; have HB3 := hid (below_then HB2.out hb3); clear hb3))
        go_ret
        exact ⟨by rw [HW2.out]; rfl, HB3.out⟩
      · have HW2 := hid (HW.out.trans (if_neg h0))
        have e4 : (K == 0) = false := by simpa using h0
        clear HW
        go_enter Tryz.func37, Tryz.ntmps37
        go_wp2_with (first | (go_at_call 32; refine (HC.out _).mono ?_; rintro r w1 ⟨rfl, n1, rfl⟩; have HB1 := hid (below_n (Below.refl w.heap.size w) n1)) | (go_at_call 20; refine (HD.out _ HB1.out).mono ?_; rintro r w2 ⟨rfl, hb2⟩; have HB2 := hid (below_then HB1.out hb2); clear hb2) | (go_at_call 47; refine (HS.out _ HB2.out).mono ?_; rintro r w3 ⟨rfl, hb3⟩; have HB3 := hid (below_then HB2.out hb3); clear hb3))
        go_ret
        exact ⟨by rw [HW2.out]; rfl, HB3.out⟩

end Go.Proofs.YteijkbanlpodpaaGreatDoor
