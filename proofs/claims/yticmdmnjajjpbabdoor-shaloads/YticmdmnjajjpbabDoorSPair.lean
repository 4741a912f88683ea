/- Two hashes beside the document's: in memory, and how they stand to one another. -/
import Derived.Test.YticmdmnjajjpbabDoorSState
import Derived.Test.YticmdmnjajjpbabDoorSSame
import Derived.Test.YticmdmnjajjpbabDoorSRWrite
namespace Go.Proofs.YticmdmnjajjpbabDoor
open Go.RowKit

/-- a state of the document: its words, its slice, the bytes of that, their number -/
structure S5 where
  H : List Int
  v : Value
  buf : List UInt8
  N : Nat
def S5.cs (σ : S5) : List Value := scells σ.H σ.v (σ.N : Int)

/-- a pair's cells -/
def pc (b0 b1 : Nat) (s0 s1 : List Value) (n : Int) : List Value := [.pointer (some ⟨b0, 0, none⟩), .pointer (some ⟨b1, 0, none⟩)] ++ (s0 ++ (s1 ++ [.int .i64 n]))
theorem pc_length (b0 b1 : Nat) (s0 s1 : List Value) (n : Int) (h0 : s0.length = 10) (h1 : s1.length = 10) : (pc b0 b1 s0 s1 n).length = 23 := by simp [pc, h0, h1]
theorem pc_one (b0 b1 : Nat) (s0 s1 : List Value) (n : Int) (h0 : ∀ v ∈ s0, v.oneCell' = true) (h1 : ∀ v ∈ s1, v.oneCell' = true) : ∀ v ∈ pc b0 b1 s0 s1 n, v.oneCell' = true := by
  intro v hv
  simp only [pc, List.mem_append, List.mem_cons, List.not_mem_nil, or_false] at hv
  rcases hv with (rfl | rfl) | hv | hv | rfl
  · rfl
  · rfl
  · exact h0 v hv
  · exact h1 v hv
  · rfl
/-- block p is a pair -/
structure Pb (w : World) (p b0 b1 : Nat) (s0 s1 : List Value) (n : Int) : Prop where
  blk : w.heap[p]? = some (.cells (pc b0 b1 s0 s1 n).toArray 43 (0, 0))
  l0 : s0.length = 10
  l1 : s1.length = 10
section
variable {w w' : World} {p b0 b1 : Nat} {s0 s1 : List Value} {n : Int}
theorem Pb.lt (h : Pb w p b0 b1 s0 s1 n) : p < w.heap.size := hp_lt h.blk
theorem Pb.fz (h : Pb w p b0 b1 s0 s1 n) (i : Nat) : w.frozen? ⟨p, i, none⟩ = false := by simp [World.frozen?, h.blk]
theorem Pb.below (h : Pb w p b0 b1 s0 s1 n) (hb : Below w.heap.size w w') : Pb w' p b0 b1 s0 s1 n := ⟨(hb.block p h.lt).trans h.blk, h.l0, h.l1⟩
theorem Pb.grown {row : Option Nat} (h : Pb w p b0 b1 s0 s1 n) (hg : w.grownBy w' row) (hne : row ≠ some p) : Pb w' p b0 b1 s0 s1 n := ⟨(hg.block p h.lt (fun e => hne e.symm)).trans h.blk, h.l0, h.l1⟩
theorem Pb.whole (h : Pb w p b0 b1 s0 s1 n) : w.rangeAt p 0 (pc b0 b1 s0 s1 n) := fun j v hv => by
  rw [Nat.zero_add, cell_of_row _ _ j _ _ _ h.blk]
  simpa using hv
theorem Pb.c0 (h : Pb w p b0 b1 s0 s1 n) : w.cell? ⟨p, 0, none⟩ = some (.pointer (some ⟨b0, 0, none⟩)) := by
  rw [cell_of_row _ _ _ _ _ _ h.blk]; rfl
theorem Pb.c1 (h : Pb w p b0 b1 s0 s1 n) : w.cell? ⟨p, 1, none⟩ = some (.pointer (some ⟨b1, 0, none⟩)) := by
  rw [cell_of_row _ _ _ _ _ _ h.blk]; rfl
theorem pc_n (b0 b1 : Nat) (s0 s1 : List Value) (n : Int) (h0 : s0.length = 10) (h1 : s1.length = 10) : (pc b0 b1 s0 s1 n)[22]? = some (.int .i64 n) := by
  simp [pc, h0, h1]
theorem Pb.cn (h : Pb w p b0 b1 s0 s1 n) : w.cell? ⟨p, 22, none⟩ = some (.int .i64 n) := by
  rw [cell_of_row _ _ _ _ _ _ h.blk]
  simpa using pc_n b0 b1 s0 s1 n h.l0 h.l1
theorem Pb.r0 (h : Pb w p b0 b1 s0 s1 n) : w.rangeAt p 2 s0 := fun j v hv => by
  have hj := (List.getElem?_eq_some_iff.1 hv).1
  refine (show w.cell? ⟨p, 2 + j, none⟩ = some v from ?_)
  rw [cell_of_row _ _ _ _ _ _ h.blk]
  simp only [List.getElem?_toArray, pc]
  rw [List.getElem?_append_right (by simp), List.getElem?_append_left (by simpa using hj)]
  simpa using hv
theorem Pb.r1 (h : Pb w p b0 b1 s0 s1 n) : w.rangeAt p 12 s1 := fun j v hv => by
  have hj := (List.getElem?_eq_some_iff.1 hv).1
  have hl := h.l0
  refine (show w.cell? ⟨p, 12 + j, none⟩ = some v from ?_)
  rw [cell_of_row _ _ _ _ _ _ h.blk]
  simp only [List.getElem?_toArray, pc]
  rw [List.getElem?_append_right (by simp; omega), List.getElem?_append_right (by simp; omega), List.getElem?_append_left (by simp; omega)]
  rw [← hv]
  congr 1
  simp
  omega
theorem Pb.set (h : Pb w p b0 b1 s0 s1 n) (k : Nat) (u : Value) : (w.setCell ⟨p, k, none⟩ u).heap[p]? = some (.cells ((pc b0 b1 s0 s1 n).set k u).toArray 43 (0, 0)) := by
  have := blk_set (w := w) (b := p) (i := k) h.blk u
  rw [this]
  simp
theorem Pb.setN (h : Pb w p b0 b1 s0 s1 n) (m : Int) : Pb (w.setCell ⟨p, 22, none⟩ (.int .i64 m)) p b0 b1 s0 s1 m := by
  refine ⟨?_, h.l0, h.l1⟩
  rw [h.set]
  congr 3
  have h0 := h.l0
  have h1 := h.l1
  simp [pc, h0, h1]
theorem Pb.setP0 (h : Pb w p b0 b1 s0 s1 n) (b : Nat) : Pb (w.setCell ⟨p, 0, none⟩ (.pointer (some ⟨b, 0, none⟩))) p b b1 s0 s1 n := ⟨by rw [h.set]; rfl, h.l0, h.l1⟩
theorem Pb.setP1 (h : Pb w p b0 b1 s0 s1 n) (b : Nat) : Pb (w.setCell ⟨p, 1, none⟩ (.pointer (some ⟨b, 0, none⟩))) p b0 b s0 s1 n := ⟨by rw [h.set]; rfl, h.l0, h.l1⟩
theorem Pb.setS0 (h : Pb w p b0 b1 s0 s1 n) (t0 : List Value) (ht : t0.length = 10) : Pb (w.setCells p 2 t0) p b0 b1 t0 s1 n ∧ w.grownBy (w.setCells p 2 t0) (some p) := by
  have := setCells_row (t := 43) t0 2 (pc b0 b1 s0 s1 n) w h.blk (by rw [pc_length _ _ _ _ _ h.l0 h.l1, ht]; omega)
  refine ⟨⟨?_, ht, h.l1⟩, this.grown⟩
  rw [this.blk]
  congr 3
  exact splice_app [.pointer (some ⟨b0, 0, none⟩), .pointer (some ⟨b1, 0, none⟩)] s0 (s1 ++ [.int .i64 n]) t0 (by rw [ht, h.l0])
theorem Pb.setS1 (h : Pb w p b0 b1 s0 s1 n) (t1 : List Value) (ht : t1.length = 10) : Pb (w.setCells p 12 t1) p b0 b1 s0 t1 n ∧ w.grownBy (w.setCells p 12 t1) (some p) := by
  have := setCells_row (t := 43) t1 12 (pc b0 b1 s0 s1 n) w h.blk (by rw [pc_length _ _ _ _ _ h.l0 h.l1, ht]; omega)
  refine ⟨⟨?_, h.l0, ht⟩, this.grown⟩
  rw [this.blk]
  congr 3
  have e := splice_app ([.pointer (some ⟨b0, 0, none⟩), .pointer (some ⟨b1, 0, none⟩)] ++ s0) s1 [.int .i64 n] t1 (by rw [ht, h.l1])
  have e2 : ([Value.pointer (some ⟨b0, 0, none⟩), .pointer (some ⟨b1, 0, none⟩)] ++ s0).length = 12 := by simp [h.l0]
  rw [e2] at e
  simpa [pc] using e
theorem Pb.there (h : Pb w p b0 b1 s0 s1 n) (o k : Nat) (hk : o + k ≤ 23) : w.there p o k := fun j hj => by
  refine ⟨?_, h.fz _⟩
  rw [cell_of_row w p _ _ _ _ h.blk]
  have := pc_length b0 b1 s0 s1 n h.l0 h.l1
  simp [List.getElem?_eq_getElem (show o + j < (pc b0 b1 s0 s1 n).length by omega)]
end

/-- a hash of the program stands as the document's -/
structure At (w : World) (base b : Nat) (σ : S5) : Prop where
  hg : Hg w b σ.H σ.buf σ.N
  ow : OwnB w 0 σ.v σ.buf
  le : σ.N ≤ 2305843009213693951
  hl : σ.H.length = 8
  lo : base ≤ b
theorem own_hash {w : World} {base : Nat} {v : Value} {bs : List UInt8} {b : Nat} {H : List Int} {buf : List UInt8} {N : Nat} (h : OwnB w base v bs) (k : Hg w b H buf N) : v.ownBlock ≠ some b := by
  intro e
  obtain ⟨_, _, _, hb, _⟩ := k.ex
  obtain ⟨_, ⟨rfl, _⟩ | ⟨g, cap, cur, rfl, _, hh, _⟩⟩ := h
  · cases e
  · simp only [Value.ownBlock, Option.some.injEq] at e
    subst e
    have := hb.blk
    rw [hh] at this
    injection this with this
    injection this with _ h2
    cases h2
section
variable {w w' : World} {base b c : Nat} {σ : S5}
theorem At.len (h : At w base b σ) : σ.buf.length < 64 := by have := h.hg.len; omega
theorem At.src (h : At w base b σ) : Src w σ.v σ.buf := h.ow.src (by have := h.len; omega)
theorem At.cs (h : At w base b σ) : σ.cs.length = 10 := scells_length _ _ _ h.hl
theorem At.one (h : At w base b σ) : ∀ v ∈ σ.cs, v.oneCell' = true := scells_one _ _ _ h.ow.one
theorem At.below (h : At w base b σ) (hb : Below w.heap.size w w') : At w' base b σ := ⟨h.hg.below hb, h.ow.below hb, h.le, h.hl, h.lo⟩
theorem At.grown {row : Option Nat} (h : At w base b σ) (hg : w.grownBy w' row) (hne : row ≠ some b) (ho : σ.v.ownBlock = none ∨ σ.v.ownBlock ≠ row) : At w' base b σ := ⟨h.hg.grown hg hne, h.ow.kept hg ho, h.le, h.hl, h.lo⟩
/-- another hash was written -/
theorem At.other {H : List Int} {buf : List UInt8} {N : Nat} (h : At w base b σ) (k : Hg w c H buf N) (hg : w.grownBy w' (some c)) (hne : c ≠ b) : At w' base b σ := h.grown hg (by simpa using hne) (Or.inr (own_hash h.ow k))
/-- a pair was written -/
theorem own_pair {v : Value} {bs : List UInt8} {p b0 b1 : Nat} {s0 s1 : List Value} {n : Int} (h : OwnB w base v bs) (k : Pb w p b0 b1 s0 s1 n) : v.ownBlock ≠ some p := by
  intro e
  obtain ⟨_, ⟨rfl, _⟩ | ⟨g, cap, cur, rfl, _, hh, _⟩⟩ := h
  · cases e
  · simp only [Value.ownBlock, Option.some.injEq] at e
    subst e
    have := k.blk
    rw [hh] at this
    injection this with this
    injection this with _ h2
    cases h2
theorem hg_pair {H : List Int} {buf : List UInt8} {N : Nat} {p b0 b1 : Nat} {s0 s1 : List Value} {n : Int} (h : Hg w b H buf N) (k : Pb w p b0 b1 s0 s1 n) : p ≠ b := by
  intro e
  subst e
  obtain ⟨_, _, _, hb, _⟩ := h.ex
  have := k.blk
  rw [hb.blk] at this
  injection this with this
  injection this with _ h2
  cases h2
theorem At.pair {p b0 b1 : Nat} {s0 s1 : List Value} {n : Int} (h : At w base b σ) (k : Pb w p b0 b1 s0 s1 n) (hg : w.grownBy w' (some p)) : At w' base b σ := h.grown hg (by simpa using hg_pair h.hg k) (Or.inr (own_pair h.ow k))
end

/-- a new variable, a store into a part of a row, as one step each -/
theorem step_alloc_row {P : Program} {ops : Array Oper} {o : Oper} {a : Act} {w : World} {K : Act → World → Prop} {Q : Exit → Act → World → Prop} {E : Prop} (hgd : o.guard = none) (ty : TypeId) (ho : o.op = .alloc ty)
    (cs : Array Value) (hz : ∀ w, (zeroValue ty).run P w = .ok (.agg cs) w)
    (h : K (a.put o.dst (.pointer (some ⟨w.heap.size, 0, none⟩))) (w.alloc (.cells cs ty))) : if Region.wanted o (yielded ops a.tmps) = true then Oper.wp P o a w K Q else E := by
  rw [if_pos (by simp [Region.wanted, hgd])]
  unfold Oper.wp execOp
  simp only [ho, Instr.alloc, Sem.run_bind, hz, newVar, newRow, run_newObj_alloc, Sem.run_pure, Result.andThen_ok, Value.cells]
  exact h
theorem step_store_mid {P : Program} {ops : Array Oper} {o : Oper} {a : Act} {w : World} {K : Act → World → Prop} {Q : Exit → Act → World → Prop} {E : Prop} (hgd : o.guard = none) (ty : TypeId) (x y : Operand) (ho : o.op = .store ty x y)
    (b off : Nat) (cs : List Value) (hx : a.eval x = .pointer (some ⟨b, off, none⟩)) (hy : a.eval y = .agg cs.toArray) (ht : w.there b off cs.length) (hi : (P.info? ty).map (·.size) = some cs.length) (h1 : ∀ v ∈ cs, v.oneCell' = true)
    (h : K (a.put o.dst undef) (w.setCells b off cs)) : if Region.wanted o (yielded ops a.tmps) = true then Oper.wp P o a w K Q else E := by
  rw [if_pos (by simp [Region.wanted, hgd])]
  have hrun := run_storeVar_mid (P := P) w b off ty cs.toArray (by simpa using ht) (by simpa using hi) (by simpa using h1)
  unfold Oper.wp execOp
  simp only [ho, hx, hy, Instr.storeAt, Instr.sureAddr, Sem.run_bind, Sem.run_pure, Result.andThen_ok, hrun]
  exact h

end Go.Proofs.YticmdmnjajjpbabDoor
