/- Contracts and pure facts that the proof needs, joined. -/
import Derived.Test.YtnbbebapfiocpaaProg
import Derived.WalkKit
import Derived.WalkSpells
import Derived.WalkLawsBesides
import Derived.BigQuiet
import Derived.BigRegion
import Derived.Deep.QuietTactic
import Derived.Deep.RegionWith
import Derived.Deep.MidRow
import Derived.Deep.RegionHeld3
import Derived.Deep.RegionHeldLaw
import Derived.Deep.RegionLaw
import Derived.Laws.AppendOwnNone
import Derived.Laws.OwnMore
import Derived.Deep.Cut
import Derived.Deep.WholeRow
import Derived.Maps.OwnSet
import Derived.Recover
import Derived.Defers
import Derived.KernelRfl
import Derived.Test.YtnbbebapfiocpaaRows
import Derived.ProofKit
import Derived.OpenShut
import Derived.Deep.Slices
import Derived.Deep.Strs
import Derived.ChangeSame
import Derived.SizedLaws
import Derived.Lib.SmallJoins
import Derived.LaidEqlPtr
import Derived.Laws.MakeOwn
import Derived.OwnWalk
import Derived.RangeFuncBox
import Derived.RangeFuncLeaves
import Derived.Shelf.Abstract
import Derived.OwnWalkIn
import Derived.TacticsInMore
import Derived.LoopNIn
import Derived.LoopIn
import Derived.Sort.BigQuietIn

/- Small laws on worlds; a ring of entries in memory: who stands beside whom. -/
namespace Go.Proofs.Ytnbbebapfiocpaa
open Go.RowKit

theorem gb_refl (w : World) (row : Option Nat) : w.grownBy w row := ⟨rfl, rfl, rfl, Nat.le_refl _, fun _ _ _ => rfl⟩
theorem below_gb {w w' : World} (h : Below w.heap.size w w') (row : Option Nat) : w.grownBy w' row := ⟨h.os, h.tape, h.output, h.size, fun k hk _ => h.block k hk⟩
theorem below_walk (w : World) (o : Obj) : Below w.heap.size w (w.alloc o) := (Below.refl _ _).alloc (Nat.le_refl _) _
theorem below_drewN (w : World) (n : Nat) : Below w.heap.size w (w.drewN n) := ⟨rfl, rfl, rfl, Nat.le_refl _, fun _ _ => rfl⟩
theorem hp_new (w : World) (o : Obj) : (w.alloc o).heap[w.heap.size]? = some o := heap_alloc_last w o
theorem hp_old (w : World) (o : Obj) (k : Nat) (h : k < w.heap.size) : (w.alloc o).heap[k]? = w.heap[k]? := Below.heap_alloc w o k h
theorem hp_set (w : World) (b c i : Nat) (v : Value) (h : b ≠ c) : (w.setCell ⟨c, i, none⟩ v).heap[b]? = w.heap[b]? := Below.heap_setCell w _ v b (by simpa using h)
theorem hp_lt {w : World} {b : Nat} {o : Obj} (h : w.heap[b]? = some o) : b < w.heap.size := (Array.getElem?_eq_some_iff.1 h).1
theorem blk_set {w : World} {b : Nat} {cs : Array Value} {T : TypeId} {i : Nat} (hb : w.heap[b]? = some (.cells cs T (0, 0))) (u : Value) :
    (w.setCell ⟨b, i, none⟩ u).heap[b]? = some (.cells (cs.setIfInBounds i u) T (0, 0)) := by
  simp [World.setCell, Array.getElem?_modify, hb]
theorem hid {p : Prop} (h : p) : Hid p := h

/-- a pointer to a block's beginning -/
abbrev pt (b : Nat) : Value := .pointer (some ⟨b, 0, none⟩)

/-- a wide frame: nothing but the blocks of F changed -/
structure Fr (w w' : World) (F : List Nat) : Prop where
  os : w'.os = w.os
  tape : w'.tape = w.tape
  output : w'.output = w.output
  size : w.heap.size ≤ w'.heap.size
  block : ∀ k, k < w.heap.size → k ∉ F → w'.heap[k]? = w.heap[k]?
theorem Fr.refl (w : World) (F : List Nat) : Fr w w F := ⟨rfl, rfl, rfl, Nat.le_refl _, fun _ _ _ => rfl⟩
theorem Fr.of_below {w w' : World} (h : Below w.heap.size w w') (F : List Nat) : Fr w w' F := ⟨h.os, h.tape, h.output, h.size, fun k hk _ => h.block k hk⟩
theorem Fr.trans {w w1 w2 : World} {F G : List Nat} (h : Fr w w1 F) (g : Fr w1 w2 G) (hG : ∀ k ∈ G, k ∈ F ∨ w.heap.size ≤ k) : Fr w w2 F :=
  ⟨g.os.trans h.os, g.tape.trans h.tape, g.output.trans h.output, Nat.le_trans h.size g.size,
    fun k hk hF => (g.block k (Nat.lt_of_lt_of_le hk h.size) (fun e => by
      rcases hG k e with e | e
      · exact hF e
      · omega)).trans (h.block k hk hF)⟩
theorem Fr.mono {w w' : World} {F G : List Nat} (h : Fr w w' F) (hF : ∀ k ∈ F, k ∈ G ∨ w.heap.size ≤ k) : Fr w w' G :=
  ⟨h.os, h.tape, h.output, h.size, fun k hk hG => h.block k hk (fun e => by
    rcases hF k e with e | e
    · exact hG e
    · omega)⟩
theorem Fr.set (w : World) (b i : Nat) (u : Value) : Fr w (w.setCell ⟨b, i, none⟩ u) [b] :=
  ⟨rfl, rfl, rfl, by simp, fun k _ hk => Below.heap_setCell w _ u k (by simpa using hk)⟩
theorem Fr.of_grown {w w' : World} {b : Nat} (h : w.grownBy w' (some b)) : Fr w w' [b] :=
  ⟨h.os, h.tape, h.output, h.size, fun k hk hn => h.block k hk (fun e => hn (by cases e; simp))⟩
theorem Fr.below {w w' : World} {F : List Nat} {base : Nat} (h : Fr w w' F) (hb : base ≤ w.heap.size) (hF : ∀ k ∈ F, base ≤ k) : Below base w w' :=
  ⟨h.os, h.tape, h.output, h.size, fun k hk => h.block k (by omega) (fun e => by have := hF k e; omega)⟩
theorem Fr.blk {w w' : World} {F : List Nat} (h : Fr w w' F) {k : Nat} {o : Obj} (hk : w.heap[k]? = some o) (hF : k ∉ F) : w'.heap[k]? = some o :=
  (h.block k (hp_lt hk) hF).trans hk

/-- block b is an entry: its key, its value, and some two beside it -/
def En (T : TypeId) (w : World) (b : Nat) (k v : Value) : Prop := ∃ p q : Option Addr, w.heap[b]? = some (.cells #[k, v, .pointer p, .pointer q] T (0, 0))

section
variable {T : TypeId} {w w' : World} {b : Nat} {k v : Value}
theorem En.lt (h : En T w b k v) : b < w.heap.size := by obtain ⟨p, q, h⟩ := h; exact hp_lt h
theorem En.fz (h : En T w b k v) (i : Nat) : w.frozen? ⟨b, i, none⟩ = false := by obtain ⟨p, q, h⟩ := h; simp [World.frozen?, h]
theorem En.c0 (h : En T w b k v) : w.cell? ⟨b, 0, none⟩ = some k := by obtain ⟨p, q, h⟩ := h; simp [World.cell?, h]
theorem En.c1 (h : En T w b k v) : w.cell? ⟨b, 1, none⟩ = some v := by obtain ⟨p, q, h⟩ := h; simp [World.cell?, h]
theorem En.fr {F : List Nat} (h : En T w b k v) (g : Fr w w' F) (hF : b ∉ F) : En T w' b k v := by
  obtain ⟨p, q, h⟩ := h; exact ⟨p, q, g.blk h hF⟩
theorem En.below (h : En T w b k v) (g : Below w.heap.size w w') : En T w' b k v := h.fr (Fr.of_below g []) (by simp)
theorem En.set2 (h : En T w b k v) (a : Nat) (p : Option Addr) : En T (w.setCell ⟨a, 2, none⟩ (.pointer p)) b k v := by
  obtain ⟨p0, q0, h⟩ := h
  by_cases e : b = a
  · subst e; exact ⟨p, q0, by rw [blk_set h]; rfl⟩
  · exact ⟨p0, q0, by rw [hp_set w b a 2 _ e]; exact h⟩
theorem En.set3 (h : En T w b k v) (a : Nat) (p : Option Addr) : En T (w.setCell ⟨a, 3, none⟩ (.pointer p)) b k v := by
  obtain ⟨p0, q0, h⟩ := h
  by_cases e : b = a
  · subst e; exact ⟨p0, p, by rw [blk_set h]; rfl⟩
  · exact ⟨p0, q0, by rw [hp_set w b a 3 _ e]; exact h⟩
theorem En.setV (h : En T w b k v) (u : Value) : En T (w.setCell ⟨b, 1, none⟩ u) b k u := by
  obtain ⟨p0, q0, h⟩ := h
  exact ⟨p0, q0, by rw [blk_set h]; rfl⟩
theorem En.typ {o : Obj} (h : En T w b k v) (ho : w.heap[b]? = some o) : ∃ cs, o = .cells cs T (0, 0) := by
  obtain ⟨p0, q0, h⟩ := h
  rw [h] at ho; cases ho; exact ⟨_, rfl⟩
end

/-- each stands beside the next: the first's older one is the second, the second's newer one the first -/
def Lk (w : World) : List Nat → Prop
  | a :: b :: r => (w.cell? ⟨a, 3, none⟩ = some (pt b) ∧ w.cell? ⟨b, 2, none⟩ = some (pt a)) ∧ Lk w (b :: r)
  | _ => True

theorem Lk.split {w : World} {a : Nat} {R : List Nat} : ∀ {P : List Nat}, Lk w (P ++ a :: R) ↔ Lk w (P ++ [a]) ∧ Lk w (a :: R)
  | [] => by simp [Lk]
  | [x] => by simp [Lk]
  | x :: y :: P => by
    have ih := Lk.split (w := w) (a := a) (R := R) (P := y :: P)
    simp only [List.cons_append, Lk] at ih ⊢
    rw [ih]
    simp only [and_assoc]

theorem Lk.keep {w w' : World} : ∀ {L : List Nat}, Lk w L → (∀ x ∈ L.dropLast, w'.cell? ⟨x, 3, none⟩ = w.cell? ⟨x, 3, none⟩) → (∀ x ∈ L.tail, w'.cell? ⟨x, 2, none⟩ = w.cell? ⟨x, 2, none⟩) → Lk w' L
  | [], _, _, _ => trivial
  | [_], _, _, _ => trivial
  | a :: b :: r, h, h3, h2 => by
    refine ⟨⟨(h3 a (by simp)).trans h.1.1, (h2 b (by simp)).trans h.1.2⟩, Lk.keep h.2 (fun x hx => h3 x ?_) (fun x hx => h2 x ?_)⟩
    · rw [List.dropLast_cons_of_ne_nil (by simp)]; exact List.mem_cons_of_mem _ hx
    · exact List.mem_cons_of_mem _ hx

theorem Lk.fr {w w' : World} {L F : List Nat} (h : Lk w L) (g : Fr w w' F) (hl : ∀ x ∈ L, x < w.heap.size) (hF : ∀ x ∈ L, x ∉ F) : Lk w' L :=
  h.keep (fun x hx => World.cell?_of_block (g.block x (hl x (List.dropLast_subset L hx)) (hF x (List.dropLast_subset L hx)))) (fun x hx => World.cell?_of_block (g.block x (hl x (List.mem_of_mem_tail hx)) (hF x (List.mem_of_mem_tail hx))))

/-- the entries of some blocks, and the cells of their neighbours alone may have changed -/
structure Rp (T : TypeId) (w w' : World) (L : List Nat) : Prop where
  fr : Fr w w' L
  en : ∀ {x : Nat} {k v : Value}, En T w x k v → En T w' x k v
theorem Rp.refl (T : TypeId) (w : World) (L : List Nat) : Rp T w w L := ⟨Fr.refl w L, fun h => h⟩
theorem Rp.trans {T : TypeId} {w w1 w2 : World} {F G : List Nat} (h : Rp T w w1 F) (g : Rp T w1 w2 G) (hG : ∀ k ∈ G, k ∈ F ∨ w.heap.size ≤ k) : Rp T w w2 F := ⟨h.fr.trans g.fr hG, fun e => g.en (h.en e)⟩
theorem Rp.of_below {T : TypeId} {w w' : World} (h : Below w.heap.size w w') (F : List Nat) : Rp T w w' F := ⟨Fr.of_below h F, fun e => e.below h⟩
theorem Rp.set2 (T : TypeId) (w : World) (a : Nat) (p : Option Addr) : Rp T w (w.setCell ⟨a, 2, none⟩ (.pointer p)) [a] := ⟨Fr.set w a 2 _, fun e => e.set2 a p⟩
theorem Rp.set3 (T : TypeId) (w : World) (a : Nat) (p : Option Addr) : Rp T w (w.setCell ⟨a, 3, none⟩ (.pointer p)) [a] := ⟨Fr.set w a 3 _, fun e => e.set3 a p⟩
theorem Rp.mono {T : TypeId} {w w' : World} {F G : List Nat} (h : Rp T w w' F) (hF : ∀ k ∈ F, k ∈ G ∨ w.heap.size ≤ k) : Rp T w w' G := ⟨h.fr.mono hF, h.en⟩

theorem cell_set_same {w : World} {a i : Nat} {u : Value} (h : (w.cell? ⟨a, i, none⟩).isSome = true) : (w.setCell ⟨a, i, none⟩ u).cell? ⟨a, i, none⟩ = some u := World.cell?_setCell_same' _ _ _ h
theorem cell_set_other {w : World} {a i b j : Nat} {u : Value} (h : ¬ (b = a ∧ j = i)) : (w.setCell ⟨a, i, none⟩ u).cell? ⟨b, j, none⟩ = w.cell? ⟨b, j, none⟩ :=
  World.cell?_setCell_other _ _ _ _ (fun e => h (by simp only [Addr.mk.injEq] at e; exact ⟨e.1.symm, e.2.1.symm⟩))

section
variable {P : Program}
theorem ld_row {w : World} {ops : Array Oper} {rest : List Oper} {op : Oper} {a : Act} {Q : Exit → Act → World → Prop} (hgd : op.guard = none) (ty : TypeId) (x : Operand) (ho : op.op = .load ty x)
    (g : Nat) (hx : a.eval x = .pointer (some ⟨g, 0, none⟩)) (cs : List Value) (t : TypeId) (hb : w.heap[g]? = some (.cells cs.toArray t (0, 0))) (d : TypeDesc)
    (hu : P.underlying ty = some d) (hd : d.isRow = true) (hi : (P.info? ty).map (·.size) = some cs.length)
    (h : wpList P ops Q rest (a.put op.dst (.agg cs.toArray)) w) : wpList P ops Q (op :: rest) a w :=
  wpList_load_mid hgd ty x ho g 0 hx cs d (fun j v hv => by rw [Nat.zero_add, cell_of_row w g j cs.toArray t (0, 0) hb]; simpa using hv) hu hd hi h
theorem al_row {w : World} {ops : Array Oper} {rest : List Oper} {o : Oper} {a : Act} {Q : Exit → Act → World → Prop} (hgd : o.guard = none) (ty : TypeId) (ho : o.op = .alloc ty)
    (cs : Array Value) (hz : ∀ w, (zeroValue ty).run P w = .ok (.agg cs) w)
    (h : wpList P ops Q rest (a.put o.dst (.pointer (some ⟨w.heap.size, 0, none⟩))) (w.alloc (.cells cs ty))) : wpList P ops Q (o :: rest) a w := by
  refine wpList_plain hgd fun K hK => ?_
  unfold Oper.wp execOp
  simp only [ho, Instr.alloc, Sem.run_bind, hz, newVar, newRow, run_newObj_alloc, Sem.run_pure, Result.andThen_ok, Value.cells]
  exact hK _ _ h
theorem st_new {w : World} {ops : Array Oper} {rest : List Oper} {o : Oper} {a : Act} {Q : Exit → Act → World → Prop} (hgd : o.guard = none) (ty : TypeId) (x y : Operand) (ho : o.op = .store ty x y)
    (cs : List Value) (hx : a.eval x = .pointer (some ⟨w.heap.size, 0, none⟩)) (hy : a.eval y = .agg cs.toArray)
    (t : TypeId) (old : Array Value) (hi : (P.info? ty).map (·.size) = some cs.length) (hold : old.size = cs.length) (h1 : ∀ v ∈ cs, v.oneCell' = true)
    (h : wpList P ops Q rest (a.put o.dst undef) (w.alloc (.cells cs.toArray t))) : wpList P ops Q (o :: rest) a (w.alloc (.cells old t)) :=
  wpList_store_row hgd ty x y ho w.heap.size cs.toArray hx hy t old (hp_new w _) (by simpa using hi) (by simpa using hold) (all_oneCell_toArray h1) (by rw [World.setRow_alloc_new]; exact h)
theorem bd_row {w : World} {ops : Array Oper} {rest : List Oper} {o : Oper} {a : Act} {Q : Exit → Act → World → Prop} (hgd : o.guard = none) (t : TypeId) (parts : Array (Nat × Operand)) (ho : o.op = .build t parts)
    (vs : List (Nat × Value)) (hvs : (parts.map fun (i, x) => (i, a.eval x)).toList = vs) (cs : Array Value) (hb : P.built t vs = some cs)
    (h : wpList P ops Q rest (a.put o.dst (.agg cs)) w) : wpList P ops Q (o :: rest) a w :=
  wpList_build hgd t parts ho (by rw [hvs, hb]; rfl) (by rw [hvs, hb]; exact h)
theorem bx_row {w : World} {ops : Array Oper} {rest : List Oper} {o : Oper} {a : Act} {Q : Exit → Act → World → Prop} (hgd : o.guard = none) (t : TypeId) (x : Operand) (ho : o.op = .box t x)
    (cs : Array Value) (hx : a.eval x = .agg cs)
    (h : wpList P ops Q rest (a.put o.dst (.pointer (some ⟨w.heap.size, 0, none⟩))) (w.alloc (.cells cs t))) : wpList P ops Q (o :: rest) a w := by
  refine wpList_plain hgd fun K hK => ?_
  unfold Oper.wp execOp
  simp only [ho, hx, Sem.run_bind, Instr.box, newVar, newRow, run_newObj_alloc, Sem.run_pure, Result.andThen_ok, Value.cells]
  exact hK _ _ h
theorem results_cell {fn : Func} {p : Tmp} {ty : TypeId} (h : fn.results = #[.cell p ty]) (tmps : Array Value) (P : Program) (w : World) :
    (results fn tmps).run P w = ((asAddr (tmps.getD p undef)).run P w).andThen fun a w₁ => (loadVar ty a).run P w₁ := by
  simp only [results, h]
  simp [Sem.run_bind, Result.andThen]
theorem ret_row {fn : Func} {R : Ending → World → Prop} {a : Act} {w : World} (p : Tmp) (ty : TypeId) (h : fn.results = #[.cell p ty]) (g : Nat) (hp : a.tmps.getD p undef = .pointer (some ⟨g, 0, none⟩))
    (cs : List Value) (t : TypeId) (hb : w.heap[g]? = some (.cells cs.toArray t (0, 0))) (d : TypeDesc) (hu : P.underlying ty = some d) (hd : d.isRow = true) (hi : (P.info? ty).map (·.size) = some cs.length)
    (hdf : a.defers = []) (hR : R (.returned (.agg cs.toArray)) w) : bodyPost P fn R .ret a w := by
  refine bodyPost_ret (v := .agg cs.toArray) ?_ hdf hR
  rw [results_cell h, hp]
  have := run_loadVar_mid (P := P) w g 0 ty cs d (fun j v hv => by rw [Nat.zero_add, cell_of_row w g j cs.toArray t (0, 0) hb]; simpa using hv) hu hd hi
  simp [asAddr, this]
end

end Go.Proofs.Ytnbbebapfiocpaa

/- A ring: an entry is taken out, an entry is laid in. -/
namespace Go.Proofs.Ytnbbebapfiocpaa
open Go.RowKit

/-- behind a lift: a and c stand beside one another -/
structure Lft (T : TypeId) (w w' : World) (a c : Nat) : Prop where
  rp : Rp T w w' [a, c]
  c3 : w'.cell? ⟨a, 3, none⟩ = some (pt c)
  c2 : w'.cell? ⟨c, 2, none⟩ = some (pt a)
  cs : ∀ x i, x < w.heap.size → ¬ (x = a ∧ i = 3) → ¬ (x = c ∧ i = 2) → w'.cell? ⟨x, i, none⟩ = w.cell? ⟨x, i, none⟩

theorem lft_mk {T : TypeId} {w w1 : World} {a c : Nat} {ka va kc vc : Value} (hb : Below w.heap.size w w1) (ha : En T w a ka va) (hc : En T w c kc vc) :
    Lft T w ((w1.setCell ⟨a, 3, none⟩ (pt c)).setCell ⟨c, 2, none⟩ (pt a)) a c := by
  have ea := ha.below hb
  have ec := hc.below hb
  have s3 : (w1.cell? ⟨a, 3, none⟩).isSome = true := by obtain ⟨p, q, h⟩ := ea; simp [World.cell?, h]
  have s2 : ((w1.setCell ⟨a, 3, none⟩ (pt c)).cell? ⟨c, 2, none⟩).isSome = true := by rw [cell_set_other (by omega)]; obtain ⟨p, q, h⟩ := ec; simp [World.cell?, h]
  refine ⟨(Rp.of_below hb [a, c]).trans (((Rp.set3 T w1 a _).mono (G := [a, c]) (by simp)).trans (Rp.set2 T _ c _) (by simp)) (by simp), ?_, cell_set_same s2, fun x i hx n1 n2 => ?_⟩
  · rw [cell_set_other (by omega)]; exact cell_set_same s3
  · rw [cell_set_other n2, cell_set_other n1]; exact hb.cell (p := ⟨x, i, none⟩) hx

theorem lft_mk2 {T : TypeId} {w w1 : World} {a c : Nat} {ka va kc vc : Value} (hb : Below w.heap.size w w1) (ha : En T w a ka va) (hc : En T w c kc vc) :
    Lft T w ((w1.setCell ⟨c, 2, none⟩ (pt a)).setCell ⟨a, 3, none⟩ (pt c)) a c := by
  have ea := ha.below hb
  have ec := hc.below hb
  have s2 : (w1.cell? ⟨c, 2, none⟩).isSome = true := by obtain ⟨p, q, h⟩ := ec; simp [World.cell?, h]
  have s3 : ((w1.setCell ⟨c, 2, none⟩ (pt a)).cell? ⟨a, 3, none⟩).isSome = true := by rw [cell_set_other (by omega)]; obtain ⟨p, q, h⟩ := ea; simp [World.cell?, h]
  refine ⟨(Rp.of_below hb [a, c]).trans (((Rp.set2 T w1 c _).mono (G := [a, c]) (by simp)).trans (Rp.set3 T _ a _) (by simp)) (by simp), cell_set_same s3, ?_, fun x i hx n1 n2 => ?_⟩
  · rw [cell_set_other (by omega)]; exact cell_set_same s2
  · rw [cell_set_other n1, cell_set_other n2]; exact hb.cell (p := ⟨x, i, none⟩) hx

theorem Fr.drewN {w w' : World} {F : List Nat} (h : Fr w w' F) (q : Nat) : Fr w (w'.drewN q) F := ⟨h.os, h.tape, h.output, h.size, h.block⟩
theorem Fr.drew {w w' : World} {F : List Nat} (h : Fr w w' F) : Fr w w'.drew F := ⟨h.os, h.tape, h.output, h.size, h.block⟩
theorem Rp.drew {T : TypeId} {w w' : World} {F : List Nat} (h : Rp T w w' F) : Rp T w w'.drew F := ⟨h.fr.drew, fun e => h.en e⟩
theorem Lft.drew {T : TypeId} {w w' : World} {a c : Nat} (h : Lft T w w' a c) : Lft T w w'.drew a c := ⟨h.rp.drew, h.c3, h.c2, h.cs⟩

/-- behind a lay: e stands between z and h -/
structure Lay (T : TypeId) (w w' : World) (z e h : Nat) : Prop where
  rp : Rp T w w' [e, z, h]
  e2 : w'.cell? ⟨e, 2, none⟩ = some (pt z)
  e3 : w'.cell? ⟨e, 3, none⟩ = some (pt h)
  z3 : w'.cell? ⟨z, 3, none⟩ = some (pt e)
  h2 : w'.cell? ⟨h, 2, none⟩ = some (pt e)
  cs : ∀ x i, x < w.heap.size → ¬ (x = e ∧ (i = 2 ∨ i = 3)) → ¬ (x = z ∧ i = 3) → ¬ (x = h ∧ i = 2) → w'.cell? ⟨x, i, none⟩ = w.cell? ⟨x, i, none⟩

theorem lay_mk {T : TypeId} {w w1 : World} {z e h : Nat} {kz vz ke ve kh vh : Value} (hb : Below w.heap.size w w1) (he : En T w e ke ve) (hz : En T w z kz vz) (hh : En T w h kh vh) (n1 : e ≠ z) (n2 : e ≠ h) :
    Lay T w ((((w1.setCell ⟨e, 2, none⟩ (pt z)).setCell ⟨e, 3, none⟩ (pt h)).setCell ⟨z, 3, none⟩ (pt e)).setCell ⟨h, 2, none⟩ (pt e)) z e h := by
  have ee := he.below hb
  have ez := hz.below hb
  have eh := hh.below hb
  have some2 : ∀ {W : World} {x : Nat} {k v : Value}, En T W x k v → (W.cell? ⟨x, 2, none⟩).isSome = true ∧ (W.cell? ⟨x, 3, none⟩).isSome = true := fun ⟨p, q, h⟩ => by simp [World.cell?, h]
  have q1 : Rp T w1 (w1.setCell ⟨e, 2, none⟩ (pt z)) [e, z, h] := (Rp.set2 T w1 e _).mono (by simp)
  have q2 : Rp T w1 ((w1.setCell ⟨e, 2, none⟩ (pt z)).setCell ⟨e, 3, none⟩ (pt h)) [e, z, h] := q1.trans (Rp.set3 T _ e _) (by simp)
  have q3 : Rp T w1 (((w1.setCell ⟨e, 2, none⟩ (pt z)).setCell ⟨e, 3, none⟩ (pt h)).setCell ⟨z, 3, none⟩ (pt e)) [e, z, h] := q2.trans (Rp.set3 T _ z _) (by simp)
  have q4 := q3.trans (Rp.set2 T _ h (some ⟨e, 0, none⟩)) (by simp)
  refine ⟨(Rp.of_below hb [e, z, h]).trans q4 (by simp), ?_, ?_, ?_, ?_, fun x i hx m1 m2 m3 => ?_⟩
  · rw [cell_set_other (by omega), cell_set_other (by omega), cell_set_other (by omega)]
    exact cell_set_same (some2 ee).1
  · rw [cell_set_other (by omega), cell_set_other (by omega)]
    exact cell_set_same (some2 (q1.en ee)).2
  · rw [cell_set_other (by omega)]
    exact cell_set_same (some2 (q2.en ez)).2
  · exact cell_set_same (some2 (q3.en eh)).1
  · rw [cell_set_other m3, cell_set_other m2, cell_set_other (by omega), cell_set_other (by omega)]
    exact hb.cell (p := ⟨x, i, none⟩) hx
theorem Lay.drew {T : TypeId} {w w' : World} {z e h : Nat} (g : Lay T w w' z e h) : Lay T w w'.drew z e h := ⟨g.rp.drew, g.e2, g.e3, g.z3, g.h2, g.cs⟩

end Go.Proofs.Ytnbbebapfiocpaa

/- The row of a memo's entries (keys of type int): newest, oldest, lift, lay, renew, newRow. -/
namespace Go.Proofs.Ytnbbebapfiocpaa
open Go.RowKit

set_option maxHeartbeats 400000 in
theorem inewest_any (w : World) (z h : Nat) (hc : w.cell? ⟨z, 3, none⟩ = some (pt h)) (hz : z < w.heap.size) :
    Calls Try.prog 60 #[.agg #[pt z]] w fun e w' => e = .returned (pt h) ∧ w' = w.alloc (.cells #[pt z] 71) := by
  have hc1 : (w.alloc (.cells #[pt z] 71)).cell? ⟨z, 3, none⟩ = some (pt h) := by rw [World.cell?_alloc_past _ _ _ hz]; exact hc
  go_enter Try.func60, Try.ntmps60
  go_wp2
  go_ret
  exact ⟨rfl, rfl⟩

set_option maxHeartbeats 400000 in
theorem ioldest_any (w : World) (z h : Nat) (hc : w.cell? ⟨z, 2, none⟩ = some (pt h)) (hz : z < w.heap.size) :
    Calls Try.prog 30 #[.agg #[pt z]] w fun e w' => e = .returned (pt h) ∧ w' = w.alloc (.cells #[pt z] 71) := by
  have hc1 : (w.alloc (.cells #[pt z] 71)).cell? ⟨z, 2, none⟩ = some (pt h) := by rw [World.cell?_alloc_past _ _ _ hz]; exact hc
  go_enter Try.func30, Try.ntmps30
  go_wp2
  go_ret
  exact ⟨rfl, rfl⟩

set_option maxHeartbeats 1000000 in
theorem ilift_any (w : World) (z e a c : Nat) {ke ve ka va kc vc : Value} (he : En 76 w e ke ve) (ha : En 76 w a ka va) (hc : En 76 w c kc vc)
    (h2 : w.cell? ⟨e, 2, none⟩ = some (pt a)) (h3 : w.cell? ⟨e, 3, none⟩ = some (pt c)) :
    Calls Try.prog 59 #[.agg #[pt z], pt e] w fun r w' => r = .returned (.tuple #[]) ∧ Lft 76 w w' a c := by
  have hb := below_walk w (.cells #[pt z] 71)
  have k2 := (hb.cell (p := ⟨e, 2, none⟩) he.lt).trans h2
  have k3 := (hb.cell (p := ⟨e, 3, none⟩) he.lt).trans h3
  have ea := ha.below hb
  have ec := hc.below hb
  have HB := hid hb
  have HA := hid ha
  have HC := hid hc
  clear he ha hc h2 h3 hb
  go_enter Try.func59, Try.ntmps59
  go_upto_region 1 with fail
  try simp only [Act.put, List.setIfInBounds_toArray, List.set_cons_succ, List.set_cons_zero]
  generalize w.alloc (.cells #[pt z] 71) = w1 at HB k2 k3 ea ec ⊢
  obtain ⟨pa, qa, ba⟩ := ea
  obtain ⟨pc, qc, bc⟩ := ec
  have a3 : w1.cell? ⟨a, 3, none⟩ = some (.pointer qa) := by simp [World.cell?, ba]
  have c2 : w1.cell? ⟨c, 2, none⟩ = some (.pointer pc) := by simp [World.cell?, bc]
  have fa : w1.frozen? ⟨a, 3, none⟩ = false := by simp [World.frozen?, ba]
  have fc : w1.frozen? ⟨c, 2, none⟩ = false := by simp [World.frozen?, bc]
  have a3' : ∀ u, (w1.setCell ⟨c, 2, none⟩ u).cell? ⟨a, 3, none⟩ = some (.pointer qa) := fun u => by rw [cell_set_other (by omega)]; exact a3
  have c2' : ∀ u, (w1.setCell ⟨a, 3, none⟩ u).cell? ⟨c, 2, none⟩ = some (.pointer pc) := fun u => by rw [cell_set_other (by omega)]; exact c2
  have fa' : ∀ u, (w1.setCell ⟨c, 2, none⟩ u).frozen? ⟨a, 3, none⟩ = false := fun u => by rw [World.frozen?_setCell]; exact fa
  have fc' : ∀ u, (w1.setCell ⟨a, 3, none⟩ u).frozen? ⟨c, 2, none⟩ = false := fun u => by rw [World.frozen?_setCell]; exact fc
  have HBA := hid ba
  have HBC := hid bc
  clear ba bc
  go_region
  go_end0
  exact ⟨rfl, (lft_mk HB.out HA.out HC.out).drew⟩

set_option maxHeartbeats 1000000 in
theorem ilay_any (w : World) (z e h : Nat) {ke ve kz vz kh vh : Value} (he : En 76 w e ke ve) (hz : En 76 w z kz vz) (hh : En 76 w h kh vh)
    (h3 : w.cell? ⟨z, 3, none⟩ = some (pt h)) (n1 : e ≠ z) (n2 : e ≠ h) :
    Calls Try.prog 55 #[.agg #[pt z], pt e] w fun r w' => r = .returned (.tuple #[]) ∧ Lay 76 w w' z e h := by
  have hb := below_walk w (.cells #[pt z] 71)
  have hrow := hp_new w (.cells #[pt z] 71)
  have r0 : (w.alloc (.cells #[pt z] 71)).cell? ⟨w.heap.size, 0, none⟩ = some (pt z) := by unfold World.cell?; rw [hrow]; rfl
  have k3 := (hb.cell (p := ⟨z, 3, none⟩) hz.lt).trans h3
  have HB := hid hb
  have HE := hid he
  have HZ := hid hz
  have HH := hid hh
  have hzs := hz.lt
  clear he hz hh h3 hb hrow
  go_enter Try.func55, Try.ntmps55
  go_upto_region 1 with fail
  try simp only [Act.put, List.setIfInBounds_toArray, List.set_cons_succ, List.set_cons_zero]
  have hz1 : z < (w.alloc (.cells #[pt z] 71)).heap.size := by simp; omega
  have hr1 : w.heap.size < (w.alloc (.cells #[pt z] 71)).heap.size := by simp
  generalize w.alloc (.cells #[pt z] 71) = w1 at HB k3 r0 hz1 hr1 ⊢
  have HN : Hid _ := hid (inewest_any w1.drew z h k3 hz1)
  have hb2 : Below w1.heap.size w1 (w1.drew.alloc (.cells #[pt z] 71)) := by
    have h := below_walk w1.drew (.cells #[pt z] 71)
    exact ⟨h.os, h.tape, h.output, h.size, h.block⟩
  have HB2 : Hid _ := hid (HB.out.trans (hb2.mono HB.out.size))
  obtain ⟨pe, qe, be⟩ := HE.out.below HB2.out
  have rW := (hb2.cell (p := ⟨w.heap.size, 0, none⟩) hr1).trans r0
  have hW : ∃ W, w1.drew.alloc (.cells #[pt z] 71) = W := ⟨_, rfl⟩
  obtain ⟨W, hW⟩ := hW
  rw [hW] at be HB2 rW
  have e2 : W.cell? ⟨e, 2, none⟩ = some (.pointer pe) := by simp [World.cell?, be]
  have e3 : W.cell? ⟨e, 3, none⟩ = some (.pointer qe) := by simp [World.cell?, be]
  have f2 : W.frozen? ⟨e, 2, none⟩ = false := by simp [World.frozen?, be]
  have f3 : W.frozen? ⟨e, 3, none⟩ = false := by simp [World.frozen?, be]
  have e3' : ∀ u, (W.setCell ⟨e, 2, none⟩ u).cell? ⟨e, 3, none⟩ = some (.pointer qe) := fun u => by rw [cell_set_other (by omega)]; exact e3
  have f3' : ∀ u, (W.setCell ⟨e, 2, none⟩ u).frozen? ⟨e, 3, none⟩ = false := fun u => by rw [World.frozen?_setCell]; exact f3
  have HW : Hid _ := hid hW
  clear hW be hb2
  go_region_with (go_at_call 60; refine HN.out.mono ?_; rintro r w2 ⟨rfl, h2⟩; rw [HW.out] at h2; subst h2)
  all_goals
    (obtain ⟨W3, HW3⟩ : ∃ W3, Hid ((w2.setCell ⟨e, 2, none⟩ (pt z)).setCell ⟨e, 3, none⟩ (pt h) = W3) := ⟨_, rfl⟩
     rw [HW3.out]
     have q1 : Rp 76 w2 W3 [e] := by rw [← HW3.out]; exact (Rp.set2 _ w2 e _).trans (Rp.set3 _ _ e _) (by simp)
     have g2 : W3.cell? ⟨e, 2, none⟩ = some (pt z) := by rw [← HW3.out, cell_set_other (by omega)]; exact cell_set_same (by rw [e2]; rfl)
     have g3 : W3.cell? ⟨e, 3, none⟩ = some (pt h) := by rw [← HW3.out]; exact cell_set_same (by rw [e3']; rfl)
     obtain ⟨pz, qz, bz⟩ := q1.en (HZ.out.below HB2.out)
     obtain ⟨ph, qh, bh⟩ := q1.en (HH.out.below HB2.out)
     have z3 : W3.cell? ⟨z, 3, none⟩ = some (.pointer qz) := by simp [World.cell?, bz]
     have y2 : W3.cell? ⟨h, 2, none⟩ = some (.pointer ph) := by simp [World.cell?, bh]
     have fz : W3.frozen? ⟨z, 3, none⟩ = false := by simp [World.frozen?, bz]
     have fh : W3.frozen? ⟨h, 2, none⟩ = false := by simp [World.frozen?, bh]
     have y2' : ∀ u, (W3.setCell ⟨z, 3, none⟩ u).cell? ⟨h, 2, none⟩ = some (.pointer ph) := fun u => by rw [cell_set_other (by omega)]; exact y2
     have fh' : ∀ u, (W3.setCell ⟨z, 3, none⟩ u).frozen? ⟨h, 2, none⟩ = false := fun u => by rw [World.frozen?_setCell]; exact fh
     clear q1 bz bh e2 e3 f2 f3 e3' f3' rW HW HN
     go_upto_region 2 with fail
     go_region
     go_end0
     refine ⟨rfl, ?_⟩
     rw [← HW3.out]
     exact (lay_mk HB2.out HE.out HZ.out HH.out n1 n2).drew)

end Go.Proofs.Ytnbbebapfiocpaa

/- A ring that stands: an entry is taken out of it, one is laid in. -/
namespace Go.Proofs.Ytnbbebapfiocpaa
open Go.RowKit

/-- the entries bs, the newest first, stand in a ring that z closes -/
structure Rg (T : TypeId) (w : World) (z : Nat) (bs : List Nat) : Prop where
  en : ∀ x ∈ z :: bs, ∃ k v, En T w x k v
  lk : Lk w (z :: (bs ++ [z]))
  nd : (z :: bs).Nodup

theorem Rg.lt {T : TypeId} {w : World} {z : Nat} {bs : List Nat} (h : Rg T w z bs) : ∀ x ∈ z :: bs, x < w.heap.size := fun x hx => by
  obtain ⟨k, v, e⟩ := h.en x hx; exact e.lt

theorem Rg.fr {T : TypeId} {w w' : World} {z : Nat} {bs F : List Nat} (h : Rg T w z bs) (g : Fr w w' F) (hF : ∀ x ∈ z :: bs, x ∉ F) : Rg T w' z bs :=
  ⟨fun x hx => by obtain ⟨k, v, e⟩ := h.en x hx; exact ⟨k, v, e.fr g (hF x hx)⟩,
    h.lk.fr g (fun x hx => h.lt x (by simpa [or_comm, or_assoc] using hx)) (fun x hx => hF x (by simpa [or_comm, or_assoc] using hx)), h.nd⟩
theorem Rg.below {T : TypeId} {w w' : World} {z : Nat} {bs : List Nat} (h : Rg T w z bs) (g : Below w.heap.size w w') : Rg T w' z bs := h.fr (Fr.of_below g []) (by simp)

theorem Rg.lift {T : TypeId} {w : World} {z e : Nat} {A B : List Nat} (h : Rg T w z (A ++ e :: B)) :
    ∃ a c, a ∈ z :: (A ++ e :: B) ∧ c ∈ z :: (A ++ e :: B) ∧ w.cell? ⟨e, 2, none⟩ = some (pt a) ∧ w.cell? ⟨e, 3, none⟩ = some (pt c) ∧ ∀ w', Lft T w w' a c → Rg T w' z (A ++ B) := by
  have hlt := h.lt
  obtain ⟨P, a, hP⟩ : ∃ P a, z :: A = P ++ [a] := by
    rcases List.eq_nil_or_concat (z :: A) with h | ⟨P, a, h⟩
    · cases h
    · exact ⟨P, a, by simpa using h⟩
  obtain ⟨c, Q, hQ⟩ : ∃ c Q, B ++ [z] = c :: Q := by
    cases B with
    | nil => exact ⟨z, [], rfl⟩
    | cons x r => exact ⟨x, r ++ [z], rfl⟩
  have e0 : z :: ((A ++ e :: B) ++ [z]) = P ++ a :: e :: c :: Q := by
    rw [show z :: ((A ++ e :: B) ++ [z]) = (z :: A) ++ e :: (B ++ [z]) by simp, hP, hQ]; simp
  have e1 : z :: ((A ++ B) ++ [z]) = P ++ a :: c :: Q := by
    rw [show z :: ((A ++ B) ++ [z]) = (z :: A) ++ (B ++ [z]) by simp, hP, hQ]; simp
  have hl := h.lk
  rw [e0, Lk.split] at hl
  obtain ⟨h1, ⟨ha3, he2⟩, ⟨he3, hc2⟩, h4⟩ := hl
  have hnd := h.nd
  have ma : a ∈ z :: A := by rw [hP]; simp
  have mc : c ∈ B ++ [z] := by rw [hQ]; simp
  have nzA : (P ++ [a]).Nodup := by rw [← hP]; exact hnd.sublist (by simp)
  have nBz : (c :: Q).Nodup := by
    rw [← hQ]
    have : (z :: B).Nodup := hnd.sublist (by simp)
    rw [List.nodup_append]
    exact ⟨(List.nodup_cons.1 this).2, by simp, fun x hx y hy => by simp at hy; subst hy; exact fun e => (List.nodup_cons.1 this).1 (e ▸ hx)⟩
  have dis : ∀ x ∈ A, ∀ y ∈ B ++ [z], x ≠ y := by
    intro x hx y hy
    rw [List.nodup_cons, List.nodup_append] at hnd
    rcases List.mem_append.1 hy with hy | hy
    · exact hnd.2.2.2 x hx y (List.mem_cons_of_mem _ hy)
    · simp at hy; subst hy
      exact fun e => hnd.1 (by subst e; simp [hx])
  have dis2 : ∀ x ∈ z :: A, ∀ y ∈ B, x ≠ y := by
    intro x hx y hy
    rcases List.mem_cons.1 hx with rfl | hx
    · exact fun e => (List.nodup_cons.1 hnd).1 (by subst e; simp [hy])
    · exact dis x hx y (by simp [hy])
  have iA : ∀ x ∈ z :: A, x ∈ z :: (A ++ e :: B) := fun x hx => by
    rcases List.mem_cons.1 hx with rfl | hx <;> simp [*]
  have iB : ∀ x ∈ B ++ [z], x ∈ z :: (A ++ e :: B) := fun x hx => by
    rcases List.mem_append.1 hx with hx | hx
    · simp [hx]
    · simp at hx; simp [hx]
  refine ⟨a, c, iA a ma, iB c mc, he2, he3, fun w' g => ⟨?_, ?_, ?_⟩⟩
  · intro x hx
    obtain ⟨k, v, q⟩ := h.en x (by
      rcases List.mem_cons.1 hx with rfl | hx
      · simp
      · rcases List.mem_append.1 hx with hx | hx <;> simp [hx])
    exact ⟨k, v, g.rp.en q⟩
  · rw [e1, Lk.split]
    refine ⟨h1.keep (fun x hx => ?_) (fun x hx => ?_), ⟨g.c3, g.c2⟩, h4.keep (fun x hx => ?_) (fun x hx => ?_)⟩
    · have hx' : x ∈ P := by simpa using hx
      have : x ≠ a := fun e => (List.nodup_append.1 nzA).2.2 x hx' a (by simp) e
      exact g.cs x 3 (hlt x (iA x (by rw [hP]; simp [hx']))) (by omega) (by omega)
    · have hx' : x ∈ A := by rw [← hP] at hx; simpa using hx
      have : x ≠ c := dis x hx' c mc
      exact g.cs x 2 (hlt x (iA x (by simp [hx']))) (by omega) (by omega)
    · have hx' : x ∈ B := by rw [← hQ] at hx; simpa using hx
      have : a ≠ x := dis2 a ma x hx'
      exact g.cs x 3 (hlt x (iB x (by simp [hx']))) (by omega) (by omega)
    · have hx' : x ∈ Q := by simpa using hx
      have : x ≠ c := fun e => (List.nodup_cons.1 nBz).1 (e ▸ hx')
      exact g.cs x 2 (hlt x (iB x (by rw [hQ]; simp [hx']))) (by omega) (by omega)
  · exact hnd.sublist (by simp)

theorem Rg.lay {T : TypeId} {w : World} {z e : Nat} {bs : List Nat} {k v : Value} (h : Rg T w z bs) (he : En T w e k v) (hn : e ∉ z :: bs) :
    ∃ c, c ∈ z :: bs ∧ w.cell? ⟨z, 3, none⟩ = some (pt c) ∧ ∀ w', Lay T w w' z e c → Rg T w' z (e :: bs) := by
  have hlt := h.lt
  obtain ⟨c, Q, hQ⟩ : ∃ c Q, bs ++ [z] = c :: Q := by
    cases bs with
    | nil => exact ⟨z, [], rfl⟩
    | cons x r => exact ⟨x, r ++ [z], rfl⟩
  have hl := h.lk
  rw [hQ] at hl
  obtain ⟨⟨hz3, hc2⟩, h4⟩ := hl
  have hnd := h.nd
  have mc : c ∈ bs ++ [z] := by rw [hQ]; simp
  have iB : ∀ x ∈ bs ++ [z], x ∈ z :: bs := fun x hx => by simpa [or_comm] using hx
  have nBz : (c :: Q).Nodup := by
    rw [← hQ, List.nodup_append]
    exact ⟨(List.nodup_cons.1 hnd).2, by simp, fun x hx y hy => by simp at hy; subst hy; exact fun e => (List.nodup_cons.1 hnd).1 (e ▸ hx)⟩
  refine ⟨c, iB c mc, hz3, fun w' g => ⟨?_, ?_, ?_⟩⟩
  · intro x hx
    have : x = e ∨ x ∈ z :: bs := by simpa [or_left_comm] using hx
    rcases this with rfl | hx
    · exact ⟨k, v, g.rp.en he⟩
    · obtain ⟨k, v, q⟩ := h.en x hx
      exact ⟨k, v, g.rp.en q⟩
  · rw [show z :: (e :: bs ++ [z]) = z :: e :: (bs ++ [z]) from rfl, hQ]
    refine ⟨⟨g.z3, g.e2⟩, ⟨g.e3, g.h2⟩, h4.keep (fun x hx => ?_) (fun x hx => ?_)⟩
    · have hx' : x ∈ bs := by rw [← hQ] at hx; simpa using hx
      have h1 : x ≠ z := fun e => (List.nodup_cons.1 hnd).1 (e ▸ hx')
      have h2 : x ≠ e := fun q => hn (q ▸ List.mem_cons_of_mem _ hx')
      exact g.cs x 3 (hlt x (by simp [hx'])) (by omega) (by omega) (by omega)
    · have hx' : x ∈ Q := by simpa using hx
      have hxb : x ∈ z :: bs := iB x (by rw [hQ]; simp [hx'])
      have h1 : x ≠ c := fun e => (List.nodup_cons.1 nBz).1 (e ▸ hx')
      have h2 : x ≠ e := fun q => hn (q ▸ hxb)
      exact g.cs x 2 (hlt x hxb) (by omega) (by omega) (by omega)
  · rw [List.nodup_cons] at hnd ⊢
    simp only [List.mem_cons, not_or] at hn ⊢
    exact ⟨⟨fun e => hn.1 e.symm, hnd.1⟩, List.nodup_cons.2 ⟨hn.2, hnd.2⟩⟩

/-- the newest one, or z itself -/
theorem Rg.newest {T : TypeId} {w : World} {z : Nat} {bs : List Nat} (h : Rg T w z bs) : w.cell? ⟨z, 3, none⟩ = some (pt (bs.headD z)) := by
  cases bs with
  | nil => exact h.lk.1.1
  | cons x r => exact h.lk.1.1
theorem Rg.oldest {T : TypeId} {w : World} {z x : Nat} {bs : List Nat} (h : Rg T w z (bs ++ [x])) : w.cell? ⟨z, 2, none⟩ = some (pt x) := by
  have hl := h.lk
  rw [show z :: ((bs ++ [x]) ++ [z]) = (z :: bs) ++ x :: [z] by simp, Lk.split] at hl
  exact hl.2.1.2
theorem Rg.oldest0 {T : TypeId} {w : World} {z : Nat} (h : Rg T w z []) : w.cell? ⟨z, 2, none⟩ = some (pt z) := h.lk.1.2
/-- the one that is older than e, or z -/
theorem Rg.older {T : TypeId} {w : World} {z e : Nat} {A B : List Nat} (h : Rg T w z (A ++ e :: B)) : w.cell? ⟨e, 3, none⟩ = some (pt (B.headD z)) := by
  have hl := h.lk
  rw [show z :: ((A ++ e :: B) ++ [z]) = (z :: A) ++ e :: (B ++ [z]) by simp, Lk.split] at hl
  have h2 := hl.2
  cases B with
  | nil => exact h2.1.1
  | cons x r => exact h2.1.1
/-- the one that is newer than e, or z -/
theorem Rg.newer {T : TypeId} {w : World} {z e : Nat} {A B : List Nat} (h : Rg T w z (A ++ e :: B)) : w.cell? ⟨e, 2, none⟩ = some (pt (A.getLastD z)) := by
  have hl := h.lk
  rcases List.eq_nil_or_concat A with rfl | ⟨A', x, rfl⟩
  · exact hl.1.2
  · rw [List.concat_eq_append] at hl ⊢
    rw [show z :: (((A' ++ [x]) ++ e :: B) ++ [z]) = (z :: A') ++ x :: (e :: (B ++ [z])) by simp, Lk.split] at hl
    rw [hl.2.1.2]
    simp

end Go.Proofs.Ytnbbebapfiocpaa

/- renew, newRow, isItself, made (keys of type int). -/
namespace Go.Proofs.Ytnbbebapfiocpaa
open Go.RowKit

set_option maxHeartbeats 1000000 in
theorem irenew_any (w : World) (z e : Nat) (A B : List Nat) (h : Rg 76 w z (A ++ e :: B)) :
    Calls Try.prog 40 #[.agg #[pt z], pt e] w fun r w' => r = .returned (.tuple #[]) ∧ Rg 76 w' z (e :: (A ++ B)) ∧ Rp 76 w w' (z :: (A ++ e :: B)) := by
  have hb := below_walk w (.cells #[pt z] 71)
  have h1 := h.below hb
  have hrow := hp_new w (.cells #[pt z] 71)
  have r0 : (w.alloc (.cells #[pt z] 71)).cell? ⟨w.heap.size, 0, none⟩ = some (pt z) := by unfold World.cell?; rw [hrow]; rfl
  have hr1 : w.heap.size < (w.alloc (.cells #[pt z] 71)).heap.size := by simp
  have hout : w.heap.size ∉ z :: (A ++ e :: B) := fun hx => by have := h.lt _ hx; omega
  have HO := hid hout
  have HB := hid hb
  have HR := hid h1
  have HND := hid h.nd
  clear hb h1 hrow h hout
  go_enter Try.func40, Try.ntmps40
  go_upto_region 1 with fail
  try simp only [Act.put, List.setIfInBounds_toArray, List.set_cons_succ, List.set_cons_zero]
  generalize w.alloc (.cells #[pt z] 71) = w1 at HB HR r0 hr1 ⊢
  obtain ⟨a, c, ia, ic, h2, h3, hnext⟩ := HR.out.lift
  obtain ⟨ke, ve, ee⟩ := HR.out.en e (by simp)
  obtain ⟨ka, va, ea⟩ := HR.out.en a ia
  obtain ⟨kc, vc, ec⟩ := HR.out.en c ic
  have HL := hid (ilift_any w1 z e a c ee ea ec h2 h3)
  have HNX := hid hnext
  have HE := hid ee
  have HIA := hid ia
  have HIC := hid ic
  clear ea ec h2 h3 hnext ia ic ee
  go_wp2_with fail
  refine HL.out.mono ?_
  rintro r w2 ⟨rfl, hl2⟩
  have HR2 := hid (HNX.out w2 hl2)
  have HRP2 := hid hl2.rp
  have r2 : w2.cell? ⟨w.heap.size, 0, none⟩ = some (pt z) := by
    rw [hl2.cs _ 0 hr1 (by omega) (by omega)]; exact r0
  have he2 : Hid (En 76 w2 e ke ve) := hl2.rp.en HE.out
  have hne : e ∉ z :: (A ++ B) := by
    have := HND.out
    rw [List.nodup_cons, List.nodup_append] at this
    intro hx
    rcases List.mem_cons.1 hx with rfl | hx
    · exact this.1 (by simp)
    · rcases List.mem_append.1 hx with hx | hx
      · exact this.2.2.2 e hx e (by simp) rfl
      · exact (List.nodup_cons.1 this.2.2.1).1 hx
  obtain ⟨d, id, hz3, hnext⟩ := HR2.out.lay he2.out hne
  obtain ⟨kz, vz, ez⟩ := HR2.out.en z (by simp)
  obtain ⟨kd, vd, ed⟩ := HR2.out.en d id
  have HY := hid (ilay_any w2 z e d he2.out ez ed hz3 (fun q => hne (by simp [q])) (fun q => hne (q ▸ id)))
  have HNX2 := hid hnext
  have HID := hid id
  have HNE := hid hne
  clear hl2 ez ed hz3 hnext id HL HNX hne
  go_wp2_with fail
  refine HY.out.mono ?_
  rintro r w3 ⟨rfl, hy3⟩
  go_wp2_with fail
  go_end0
  refine ⟨rfl, HNX2.out w3 hy3, ((Rp.of_below HB.out (z :: (A ++ e :: B))).trans HRP2.out (fun k hk => Or.inl ?_)).trans hy3.rp (fun k hk => Or.inl ?_)⟩
  · simp only [List.mem_cons, List.not_mem_nil, or_false] at hk
    rcases hk with rfl | rfl
    · exact HIA.out
    · exact HIC.out
  · have hid := HID.out
    simp only [List.mem_cons, List.mem_append, List.not_mem_nil, or_false] at hk hid ⊢
    rcases hk with rfl | rfl | rfl
    · simp
    · simp
    · rcases hid with h | h | h <;> simp [h]

set_option maxHeartbeats 1000000 in
theorem inewRow_any (w : World) :
    Calls Try.prog 47 #[] w fun r w' => r = .returned (.agg #[pt (w.heap.size + 1)]) ∧ Rg 76 w' (w.heap.size + 1) [] ∧ Below w.heap.size w w' := by
  go_enter Try.func47, Try.ntmps47
  go_wp2
  have hb1 := hp_new (w.alloc (.cells #[pt (w.heap.size + 1)] 71)) (.cells #[ .int .i64 0, .int .i64 0, pt (w.heap.size + 1), pt (w.heap.size + 1)] 76)
  rw [World.size_alloc] at hb1
  refine ret_row 0 71 rfl w.heap.size rfl [pt (w.heap.size + 1)] 71 ?_ _ Try.underlying71 rfl (by kernel_rfl) rfl ?_
  · exact (hp_old _ _ _ (by simp)).trans (hp_new w _)
  refine ⟨rfl, ⟨?_, ⟨⟨?_, ?_⟩, trivial⟩, by simp⟩, ((Below.refl _ _).alloc (Nat.le_refl _) _).alloc (by simp) _⟩
  · intro x hx
    obtain rfl : x = w.heap.size + 1 := by simpa using hx
    exact ⟨_, _, _, _, hb1⟩
  · exact (cell_of_row _ _ 3 _ _ _ hb1).trans rfl
  · exact (cell_of_row _ _ 2 _ _ _ hb1).trans rfl

theorem icatch_idle (p : Addr) (w : World) :
    CallsD Try.prog 58 #[.pointer (some p)] .returning w fun e u' w' => e = .returned (.tuple #[]) ∧ u' = .returning ∧ w' = w := by
  refine callsD_of_wpS Try.func58 rfl fun c₀ cs hu => ?_
  apply wpS_seq
  apply wpS_region
  simp [wpOpsS, go_sem, recoverD, hu, Try.ntmps58, Exit.thenS]
  refine wpS_cond (t := false) (by simp [Act.eval, Array.replicate]) ?_
  simp only [Bool.false_eq_true, if_false]
  refine wpS_of_wp (wp_skip ?_)
  cases c₀
  simp_all [bodyPostS, results, Try.results58]

set_option maxHeartbeats 1000000 in
theorem iisItself_any (w : World) (k : Int) :
    Calls Try.prog 39 #[ .int .i64 k ] w fun e w' => e = .returned (.bool true) ∧ Below w.heap.size w w' := by
  have hmf : ∀ (fn : Fn) (first cap : Array Value) (w : World), (Instr.makeFunc fn first cap).run Try.prog w = .ok (.func fn first cap) w := fun _ _ _ _ => rfl
  go_enter_defers Try.func39, Try.ntmps39
  go_wp2
  refine leaves_cons (f := 58) (args := #[.pointer (some ⟨w.heap.size, 0, none⟩)]) (by simp) (by simp [go_sem]) ?_
  refine (icatch_idle ⟨w.heap.size, 0, none⟩ _).mono ?_
  rintro e u' w'' ⟨rfl, rfl, rfl⟩
  simp [Leaves, settle, results, Try.results39, go_sem]
  exact below_walk w _

end Go.Proofs.Ytnbbebapfiocpaa

/- A map from keys to entries, key by key. -/
namespace Go.Proofs.Ytnbbebapfiocpaa
open Go.RowKit

/-- how a pointer to a block's beginning reads -/
def ptrR : Value → Option (DataW Unit × List MemPlace)
  | .pointer none => some (.nil, [])
  | .pointer (some ⟨b, 0, none⟩) => some (.lit (.int .i64 b), [])
  | _ => none
def ptO : Option Nat → Value
  | none => .pointer none
  | some b => pt b
def dtO : Option Nat → DataW Unit
  | none => .nil
  | some b => .lit (.int .i64 b)
theorem ptO_none : ptO none = .pointer none := rfl
theorem ptO_some (b : Nat) : ptO (some b) = pt b := rfl
theorem ptrR_mk (o : Option Nat) : ptrR (ptO o) = some (dtO o, []) := by cases o <;> rfl
theorem ptrR_inv {v : Value} {o : Option Nat} {ps : List MemPlace} (h : ptrR v = some (dtO o, ps)) : v = ptO o := by
  unfold ptrR at h
  split at h
  · cases o with
    | none => rfl
    | some b => simp [dtO] at h
  · cases o with
    | none => simp [dtO] at h
    | some b =>
      simp only [dtO, Option.some.injEq, Prod.mk.injEq, DataW.lit.injEq, Lit.int.injEq, true_and] at h
      have := h.1
      simp only [ptO, pt]
      congr 3
      omega
  · cases h

/-- block mb is a map: of each key the entry's block, or nothing; how many there are -/
def Mp (P : Program) (kt : TypeId) {κ : Type} (kL : κ → Lit) (w : World) (mb : Nat) (f : κ → Option Nat) (n : Nat) : Prop :=
  ∃ D : DataW Unit, w.ownsMap P kt ptrR mb n D ∧ Maps.size D = n ∧ ∀ k, D.atKey (kL k) .nil = dtO (f k) ∧ Maps.has D (kL k) = (f k).isSome

section
variable {P : Program} {kt t e : TypeId} {κ : Type} {kL : κ → Lit} {w w' : World} {mb n : Nat} {f : κ → Option Nat}

theorem Mp.lt (h : Mp P kt kL w mb f n) : mb < w.heap.size := by obtain ⟨D, h, _⟩ := h; exact h.lt
theorem Mp.fr {F : List Nat} (h : Mp P kt kL w mb f n) (g : Fr w w' F) (hF : mb ∉ F) : Mp P kt kL w' mb f n := by
  have hl := h.lt
  obtain ⟨D, ⟨es, cl, hb, r⟩, h2⟩ := h
  exact ⟨D, ⟨es, cl, (g.block mb hl hF).trans hb, r⟩, h2⟩
theorem Mp.notRow (h : Mp P kt kL w mb f n) {b : Nat} {cs : Array Value} {T : TypeId} {z : Nat × Nat} (hb : w.heap[b]? = some (.cells cs T z)) : b ≠ mb := by
  obtain ⟨D, ⟨es, cl, h, _⟩, _⟩ := h
  intro e
  rw [e, h] at hb
  cases hb
theorem Mp.made (w : World) (P : Program) (kt : TypeId) (kL : κ → Lit) : Mp P kt kL (w.alloc (.map #[] 0)) w.heap.size (fun _ => none) 0 :=
  ⟨.map [], World.ownsMap_made w P kt ptrR, rfl, fun _ => ⟨rfl, rfl⟩⟩
theorem Mp.look (h : Mp P kt kL w mb f n) (K : Maps.Keyed P kt) (ht : P.underlying t = some (.map kt e)) (hz : (zeroValue e).run P w = .ok (.pointer none) w) {key : Value} {k : κ} (hk : keyOf P kt key = some (kL k)) :
    (Instr.lookup t (.map (some mb)) key false).run P w = .ok (ptO (f k)) w := by
  obtain ⟨D, ho, _, h2⟩ := h
  obtain ⟨v, ps, hr, hv⟩ := ho.lookup K ht hz (zd := .nil) (zp := []) rfl hk
  rw [(h2 k).1] at hv
  rw [hr, ptrR_inv hv]
theorem Mp.len (h : Mp P kt kL w mb f n) (ht : P.underlying t = some (.map kt e)) (ty : TypeId) : (Builtin.len_ #[t] ty #[.map (some mb)]).run P w = .ok (.int .i64 n) w := by
  obtain ⟨D, ho, h1, _⟩ := h
  rw [ho.len ht ty, h1]
theorem own_less {D : DataW Unit} (h : w.ownsMap P kt ptrR mb n D) {m : Nat} (hm : Maps.size D ≤ m) : w.ownsMap P kt ptrR mb m D := by
  obtain ⟨es, cl, hb, F, _, rfl⟩ := h
  refine ⟨es, cl, hb, F, ?_, rfl⟩
  simpa [Maps.size, length_sorted] using hm
theorem Mp.put [DecidableEq κ] (h : Mp P kt kL w mb f n) (K : Maps.Keyed P kt) (inj : ∀ a b, kL a = kL b → a = b) (ht : P.underlying t = some (.map kt e)) (hn : n < maxLen) {key : Value} {k : κ} (hk : keyOf P kt key = some (kL k)) (b : Nat) (hf : f k = none) :
    ∃ w', (Instr.mapUpdate t (.map (some mb)) key (pt b)).run P w = .ok () w' ∧ Mp P kt kL w' mb (fun x => if x = k then some b else f x) (n + 1) ∧ w.grownBy w' (some mb) := by
  obtain ⟨D, ho, h1, h2⟩ := h
  obtain ⟨w', hr, ho', hg⟩ := ho.update K ht hn hk (val := pt b) (d := dtO (some b)) (ps := []) rfl
  have hsz := Maps.size_put (k := kL k) (ho.tidy K) (dtO (some b))
  rw [(h2 k).2, hf] at hsz
  simp only [Option.isSome_none, Bool.false_eq_true, if_false] at hsz
  refine ⟨w', hr, ⟨_, ho', by omega, fun x => ?_⟩, hg⟩
  show (D.put (kL k) (dtO (some b))).atKey (kL x) .nil = dtO (if x = k then some b else f x) ∧ Maps.has (D.put (kL k) (dtO (some b))) (kL x) = (if x = k then some b else f x).isSome
  by_cases hx : x = k
  · subst hx
    rw [if_pos rfl]
    exact ⟨Maps.atKey_put_same ho.isMap (K.key hk) _ _, Maps.has_put_same ho.isMap (K.key hk) _⟩
  · rw [if_neg hx]
    have hne : kL x ≠ kL k := fun q => hx (inj _ _ q)
    rw [Maps.atKey_put_other hne, Maps.has_put_other hne]
    exact h2 x
theorem Mp.del [DecidableEq κ] (h : Mp P kt kL w mb f n) (K : Maps.Keyed P kt) (inj : ∀ a b, kL a = kL b → a = b) (ht : P.underlying t = some (.map kt e)) {key : Value} {k : κ} (hk : keyOf P kt key = some (kL k)) {b : Nat} (hf : f k = some b) (ty : TypeId) :
    ∃ w', (Builtin.delete_ #[t, kt] ty #[.map (some mb), key]).run P w = .ok (.tuple #[]) w' ∧ Mp P kt kL w' mb (fun x => if x = k then none else f x) (n - 1) ∧ w.grownBy w' (some mb) := by
  obtain ⟨D, ho, h1, h2⟩ := h
  obtain ⟨w', hr, ho', hg⟩ := ho.drop K ht hk ty
  have hsz := Maps.size_del (k := kL k) (ho.tidy K)
  rw [(h2 k).2, hf] at hsz
  simp only [Option.isSome_some, if_true] at hsz
  refine ⟨w', hr, ⟨_, own_less ho' (m := n - 1) (by omega), by omega, fun x => ?_⟩, hg.grown⟩
  show (D.del (kL k)).atKey (kL x) .nil = dtO (if x = k then none else f x) ∧ Maps.has (D.del (kL k)) (kL x) = (if x = k then none else f x).isSome
  by_cases hx : x = k
  · subst hx
    rw [if_pos rfl]
    exact ⟨Maps.atKey_del_same _, Maps.has_del_same⟩
  · rw [if_neg hx]
    have hne : kL x ≠ kL k := fun q => hx (inj _ _ q)
    rw [Maps.atKey_del_other hne, Maps.has_del_other hne]
    exact h2 x
end

end Go.Proofs.Ytnbbebapfiocpaa

/- A memo's blocks (keys of type int). -/
namespace Go.Proofs.Ytnbbebapfiocpaa
open Go.RowKit

/-- an entry: its block, key and value -/
structure iNd where
  b : Nat
  k : Int
  v : Int

def ikV (k : Int) : Value := .int .i64 k
def ikL (k : Int) : Lit := .int .i64 k
def iKok (k : Int) : Prop := (Lit.int .i64 k).wf = true
theorem ikL_inj (a b : Int) (h : ikL a = ikL b) : a = b := by
  unfold ikL at h
  simpa using h
theorem ikey {k : Int} (h : iKok k) : keyOf Try.prog 3 (ikV k) = some (ikL k) :=
  Maps.keyOf_int_mk Try.underlying3 h
theorem ikeyed : Maps.Keyed Try.prog 3 := Maps.int_keyed Try.underlying3
theorem izeroE (w : World) : (zeroValue 69).run Try.prog w = .ok (.pointer none) w := by kernel_rfl

def ibs (N : List iNd) : List Nat := N.map (·.b)
def iat (N : List iNd) (k : Int) : Option Nat := (N.find? (fun n => decide (n.k = k))).map (·.b)

theorem iat_some {N : List iNd} (hd : (N.map (·.k)).Nodup) {n : iNd} (hn : n ∈ N) : iat N n.k = some n.b := by
  induction N with
  | nil => cases hn
  | cons x r ih =>
    simp only [List.map_cons, List.nodup_cons] at hd
    rcases List.mem_cons.1 hn with rfl | hn
    · simp [iat]
    · have hne : ¬ x.k = n.k := fun e => hd.1 (by rw [e]; exact List.mem_map.2 ⟨n, hn, rfl⟩)
      have := ih hd.2 hn
      unfold iat at this ⊢
      rw [List.find?_cons_of_neg (by simpa using hne)]
      exact this
theorem iat_none {N : List iNd} {k : Int} (h : ∀ n ∈ N, n.k ≠ k) : iat N k = none := by
  unfold iat
  rw [List.find?_eq_none.2 (fun n hn => by simpa using h n hn)]
  rfl
theorem iat_eq {N N' : List iNd} (hd : (N.map (·.k)).Nodup) (hd' : (N'.map (·.k)).Nodup) (h : ∀ n, n ∈ N ↔ n ∈ N') : iat N = iat N' := by
  funext k
  by_cases hk : ∃ n ∈ N, n.k = k
  · obtain ⟨n, hn, rfl⟩ := hk
    rw [iat_some hd hn, iat_some hd' ((h n).1 hn)]
  · rw [iat_none (fun n hn e => hk ⟨n, hn, e⟩), iat_none (fun n hn e => hk ⟨n, (h n).2 hn, e⟩)]
theorem iat_split {N : List iNd} {k : Int} {b : Nat} (h : iat N k = some b) : ∃ A n B, N = A ++ n :: B ∧ n.k = k ∧ n.b = b := by
  unfold iat at h
  cases hf : N.find? (fun n => decide (n.k = k)) with
  | none => rw [hf] at h; cases h
  | some n =>
    rw [hf] at h
    obtain ⟨A, B, hN⟩ := List.append_of_mem (List.mem_of_find?_eq_some hf)
    exact ⟨A, n, B, hN, by simpa using List.find?_some hf, by simpa using h⟩
theorem iat_not {N : List iNd} {k : Int} (h : iat N k = none) : ∀ n ∈ N, n.k ≠ k := by
  unfold iat at h
  intro n hn e
  have := List.find?_eq_none.1 (Option.map_eq_none_iff.1 h) n hn
  simp [e] at this

/-- block m is a memo that New or Copy gave -/
structure iMm (w : World) (base m mb z most : Nat) (N : List iNd) (h mi g : Int) : Prop where
  lo : ∀ x ∈ m :: mb :: z :: ibs N, base ≤ x
  blk : w.heap[m]? = some (.cells #[.int .i64 most, .map (some mb), pt z, .int .i64 h, .int .i64 mi, .int .i64 g] 73 (0, 0))
  map : Mp Try.prog 3 ikL w mb (iat N) N.length
  ring : Rg 76 w z (ibs N)
  ents : ∀ n ∈ N, En 76 w n.b (ikV n.k) (.int .i64 n.v)
  kd : (N.map (·.k)).Nodup
  kok : ∀ n ∈ N, iKok n.k
  one : 1 ≤ most
  big : most ≤ 4096
  le : N.length ≤ 4096

section
variable {w w' : World} {base m mb z most : Nat} {N : List iNd} {h mi g : Int}
theorem iMm.lt (q : iMm w base m mb z most N h mi g) : m < w.heap.size := hp_lt q.blk
theorem iMm.lts (q : iMm w base m mb z most N h mi g) : ∀ x ∈ m :: mb :: z :: ibs N, x < w.heap.size := by
  intro x hx
  rcases List.mem_cons.1 hx with rfl | hx
  · exact q.lt
  · rcases List.mem_cons.1 hx with rfl | hx
    · exact q.map.lt
    · exact q.ring.lt x hx
theorem iMm.c0 (q : iMm w base m mb z most N h mi g) : w.cell? ⟨m, 0, none⟩ = some (.int .i64 most) := by simp [World.cell?, q.blk]
theorem iMm.c1 (q : iMm w base m mb z most N h mi g) : w.cell? ⟨m, 1, none⟩ = some (.map (some mb)) := by simp [World.cell?, q.blk]
theorem iMm.c2 (q : iMm w base m mb z most N h mi g) : w.cell? ⟨m, 2, none⟩ = some (pt z) := by simp [World.cell?, q.blk]
theorem iMm.c3 (q : iMm w base m mb z most N h mi g) : w.cell? ⟨m, 3, none⟩ = some (.int .i64 h) := by simp [World.cell?, q.blk]
theorem iMm.c4 (q : iMm w base m mb z most N h mi g) : w.cell? ⟨m, 4, none⟩ = some (.int .i64 mi) := by simp [World.cell?, q.blk]
theorem iMm.c5 (q : iMm w base m mb z most N h mi g) : w.cell? ⟨m, 5, none⟩ = some (.int .i64 g) := by simp [World.cell?, q.blk]
theorem iMm.fz (q : iMm w base m mb z most N h mi g) (i : Nat) : w.frozen? ⟨m, i, none⟩ = false := by simp [World.frozen?, q.blk]
theorem iMm.mOut (q : iMm w base m mb z most N h mi g) : m ∉ z :: ibs N := fun hx => by
  obtain ⟨k, v, e⟩ := q.ring.en m hx
  obtain ⟨cs, he⟩ := e.typ q.blk
  simp at he
theorem iMm.mMap (q : iMm w base m mb z most N h mi g) : m ≠ mb := q.map.notRow q.blk
theorem iMm.mapOut (q : iMm w base m mb z most N h mi g) : mb ∉ z :: ibs N := fun hx => by
  obtain ⟨k, v, p, q', e⟩ := q.ring.en mb hx
  exact q.map.notRow e rfl
theorem iMm.fr {F : List Nat} (q : iMm w base m mb z most N h mi g) (r : Fr w w' F) (hF : ∀ x ∈ m :: mb :: z :: ibs N, x ∉ F) : iMm w' base m mb z most N h mi g :=
  ⟨q.lo, r.blk q.blk (hF m (by simp)), q.map.fr r (hF mb (by simp)), q.ring.fr r (fun x hx => hF x (List.mem_cons_of_mem _ (List.mem_cons_of_mem _ hx))),
    fun n hn => (q.ents n hn).fr r (hF _ (by simp only [List.mem_cons]; exact Or.inr (Or.inr (Or.inr (List.mem_map.2 ⟨n, hn, rfl⟩))))), q.kd, q.kok, q.one, q.big, q.le⟩
theorem iMm.below (q : iMm w base m mb z most N h mi g) (r : Below w.heap.size w w') : iMm w' base m mb z most N h mi g := q.fr (Fr.of_below r []) (by simp)
theorem iMm.drewN (q : iMm w base m mb z most N h mi g) (n : Nat) : iMm (w.drewN n) base m mb z most N h mi g := q.below (below_drewN w n)
theorem iMm.base_le (q : iMm w base m mb z most N h mi g) : base ≤ w.heap.size := by have := q.lo m (by simp); have := q.lt; omega
theorem iMm.set (q : iMm w base m mb z most N h mi g) (i : Nat) (u : Value) {most' : Nat} {h' mi' g' : Int} (h1 : 1 ≤ most') (h2 : most' ≤ 4096)
    (hu : (#[.int .i64 most, .map (some mb), pt z, .int .i64 h, .int .i64 mi, .int .i64 g] : Array Value).setIfInBounds i u = #[.int .i64 most', .map (some mb), pt z, .int .i64 h', .int .i64 mi', .int .i64 g']) :
    iMm (w.setCell ⟨m, i, none⟩ u) base m mb z most' N h' mi' g' := by
  have r := Fr.set w m i u
  have o := q.mOut
  refine ⟨q.lo, by rw [blk_set q.blk, hu], q.map.fr r (by simpa using fun e => q.mMap e.symm), q.ring.fr r (fun x hx e => o (by simp at e; exact e ▸ hx)),
    fun n hn => (q.ents n hn).fr r (fun e => o ?_), q.kd, q.kok, h1, h2, q.le⟩
  simp at e
  rw [← e]
  exact List.mem_cons_of_mem _ (List.mem_map.2 ⟨n, hn, rfl⟩)
theorem iMm.setH (q : iMm w base m mb z most N h mi g) (x : Int) : iMm (w.setCell ⟨m, 3, none⟩ (.int .i64 x)) base m mb z most N x mi g := q.set 3 _ q.one q.big rfl
theorem iMm.setM (q : iMm w base m mb z most N h mi g) (x : Int) : iMm (w.setCell ⟨m, 4, none⟩ (.int .i64 x)) base m mb z most N h x g := q.set 4 _ q.one q.big rfl
theorem iMm.setG (q : iMm w base m mb z most N h mi g) (x : Int) : iMm (w.setCell ⟨m, 5, none⟩ (.int .i64 x)) base m mb z most N h mi x := q.set 5 _ q.one q.big rfl
/-- the entries stand in another order -/
theorem iMm.turn {N' : List iNd} (q : iMm w base m mb z most N h mi g) (hm : ∀ n, n ∈ N ↔ n ∈ N') (hd : (N'.map (·.k)).Nodup) (hl : N'.length = N.length) (r : Rg 76 w' z (ibs N')) (p : Rp 76 w w' (z :: ibs N)) : iMm w' base m mb z most N' h mi g := by
  have e0 : ∀ x, x ∈ ibs N' ↔ x ∈ ibs N := fun x => by
    simp only [ibs, List.mem_map]
    exact ⟨fun ⟨n, h1, h2⟩ => ⟨n, (hm n).2 h1, h2⟩, fun ⟨n, h1, h2⟩ => ⟨n, (hm n).1 h1, h2⟩⟩
  refine ⟨fun x hx => q.lo x ?_, p.fr.blk q.blk q.mOut, ?_, r, fun n hn => p.en (q.ents n ((hm n).2 hn)), hd, fun n hn => q.kok n ((hm n).2 hn), q.one, q.big, by rw [hl]; exact q.le⟩
  · simp only [List.mem_cons, e0] at hx ⊢
    exact hx
  · rw [← iat_eq q.kd hd hm, hl]
    exact q.map.fr p.fr q.mapOut
end

end Go.Proofs.Ytnbbebapfiocpaa

/- made, find, Get, Look, Len (keys of type int). -/
namespace Go.Proofs.Ytnbbebapfiocpaa
open Go.RowKit

section
variable {w : World} {base m mb z most : Nat} {N : List iNd} {h mi g : Int}

set_option maxHeartbeats 400000 in
theorem imade_any (q : iMm w base m mb z most N h mi g) :
    Calls Try.prog 29 #[pt m] w fun e w' => e = .returned (.bool true) ∧ w' = w := by
  have c0 := q.c0
  have h1 : 0 < most := q.one
  clear q
  go_enter Try.func29, Try.ntmps29
  go_wp2
  go_ret
  exact ⟨rfl, rfl⟩

set_option maxHeartbeats 400000 in
theorem ilen_any (q : iMm w base m mb z most N h mi g) :
    Calls Try.prog 18 #[pt m] w fun e w' => e = .returned (.int .i64 N.length) ∧ w' = w := by
  have c1 := q.c1
  have hl := q.map.len Try.underlying68
  have HM := hid (imade_any q)
  clear q
  go_enter Try.func18, Try.ntmps18
  go_wp2_with fail
  refine HM.out.mono ?_
  rintro e w1 ⟨rfl, hw⟩
  subst hw
  go_wp2
  go_ret
  exact ⟨rfl, rfl⟩

set_option maxHeartbeats 400000 in
theorem ifind_any (q : iMm w base m mb z most N h mi g) (k : Int) (hk : iKok k) :
    Calls Try.prog 42 #[pt m, ikV k] w fun e w' => e = .returned (ptO (iat N k)) ∧ Below w.heap.size w w' := by
  have HI := hid (iisItself_any w k)
  have HQ := hid q
  have HK := hid hk
  clear q hk
  obtain ⟨κ, hκ⟩ : ∃ κ, ikV k = κ := ⟨_, rfl⟩
  have HI2 : Hid (Calls Try.prog 39 #[κ] w fun e w' => e = .returned (.bool true) ∧ Below w.heap.size w w') := by rw [← hκ]; exact HI
  have HE := hid hκ
  rw [hκ]
  clear HI hκ
  go_enter Try.func42, Try.ntmps42
  go_wp2_with fail
  refine HI2.out.mono ?_
  rintro e w1 ⟨rfl, hb1⟩
  have HB1 := hid hb1
  have q1 := HQ.out.below hb1
  have c1 := q1.c1
  have hlook := q1.map.look ikeyed Try.underlying68 (izeroE w1) (ikey HK.out)
  rw [HE.out] at hlook
  clear q1 hb1
  obtain ⟨v, HV⟩ : ∃ v, Hid (ptO (iat N k) = v) := ⟨_, rfl⟩
  rw [HV.out] at hlook
  go_wp2
  go_ret
  exact ⟨by rw [HV.out]; rfl, HB1.out⟩


set_option maxHeartbeats 1000000 in
theorem iget_miss (q : iMm w base m mb z most N h mi g) (k : Int) (hk : iKok k) (hn : iat N k = none) :
    Calls Try.prog 16 #[pt m, ikV k] w fun e w' => e = .returned (.tuple #[.int .i64 0, .bool false]) ∧ iMm w' base m mb z most N h (wrap64 (mi + 1)) g ∧ Fr w w' [m] := by
  have HM := hid (imade_any q)
  have HF := hid (ifind_any q k hk)
  rw [hn, ptO_none] at HF
  have HQ := hid q
  clear q hn hk
  generalize ikV k = κ at HF ⊢
  go_enter Try.func16, Try.ntmps16
  go_wp2_with fail
  refine HM.out.mono ?_
  rintro e w1 ⟨rfl, hw⟩
  subst hw
  go_wp2_with fail
  refine HF.out.mono ?_
  rintro e w2 ⟨rfl, hb2⟩
  have HB2 := hid hb2
  have HQ2 := hid (HQ.out.below hb2)
  have c4 := HQ2.out.c4
  have f4 := HQ2.out.fz 4
  clear hb2
  go_wp2
  go_ret2
  exact ⟨rfl, HQ2.out.setM _, (Fr.of_below HB2.out [m]).trans (Fr.set _ _ _ _) (by simp)⟩

set_option maxHeartbeats 1000000 in
theorem ilook_miss (q : iMm w base m mb z most N h mi g) (k : Int) (hk : iKok k) (hn : iat N k = none) :
    Calls Try.prog 17 #[pt m, ikV k] w fun e w' => e = .returned (.tuple #[.int .i64 0, .bool false]) ∧ Below w.heap.size w w' := by
  have HM := hid (imade_any q)
  have HF := hid (ifind_any q k hk)
  rw [hn, ptO_none] at HF
  clear q hn hk
  generalize ikV k = κ at HF ⊢
  go_enter Try.func17, Try.ntmps17
  go_wp2_with fail
  refine HM.out.mono ?_
  rintro e w1 ⟨rfl, hw⟩
  subst hw
  go_wp2_with fail
  refine HF.out.mono ?_
  rintro e w2 ⟨rfl, hb2⟩
  have HB2 := hid hb2
  clear hb2
  go_wp2
  go_ret2
  exact ⟨rfl, HB2.out⟩

set_option maxHeartbeats 1000000 in
theorem ilook_hit (q : iMm w base m mb z most N h mi g) (n : iNd) (hn : n ∈ N) :
    Calls Try.prog 17 #[pt m, ikV n.k] w fun e w' => e = .returned (.tuple #[.int .i64 n.v, .bool true]) ∧ Below w.heap.size w w' := by
  have HM := hid (imade_any q)
  have HF := hid (ifind_any q n.k (q.kok n hn))
  rw [iat_some q.kd hn, ptO_some] at HF
  have HE := hid (q.ents n hn)
  clear q hn
  generalize ikV n.k = κ at HF HE ⊢
  generalize n.b = b at HF HE
  generalize n.v = v at HE ⊢
  go_enter Try.func17, Try.ntmps17
  go_wp2_with fail
  refine HM.out.mono ?_
  rintro e w1 ⟨rfl, hw⟩
  subst hw
  go_wp2_with fail
  refine HF.out.mono ?_
  rintro e w2 ⟨rfl, hb2⟩
  have HB2 := hid hb2
  have c1 := (HE.out.below hb2).c1
  clear hb2
  go_wp2
  go_ret2
  exact ⟨rfl, HB2.out⟩

set_option maxHeartbeats 1000000 in
theorem iget_hit (A B : List iNd) (n : iNd) (q : iMm w base m mb z most (A ++ n :: B) h mi g) :
    Calls Try.prog 16 #[pt m, ikV n.k] w fun e w' => e = .returned (.tuple #[.int .i64 n.v, .bool true]) ∧ iMm w' base m mb z most (n :: (A ++ B)) (wrap64 (h + 1)) mi g ∧ Fr w w' (m :: z :: ibs (A ++ n :: B)) := by
  have hn : n ∈ A ++ n :: B := by simp
  have HM := hid (imade_any q)
  have HF := hid (ifind_any q n.k (q.kok n hn))
  rw [iat_some q.kd hn, ptO_some] at HF
  have HQ := hid q
  clear q hn
  obtain ⟨κ, HK⟩ : ∃ κ, Hid (ikV n.k = κ) := ⟨_, rfl⟩
  rw [HK.out] at HF ⊢
  obtain ⟨b, HBb⟩ : ∃ b, Hid (n.b = b) := ⟨_, rfl⟩
  rw [HBb.out] at HF
  obtain ⟨v, HV⟩ : ∃ v, Hid (n.v = v) := ⟨_, rfl⟩
  rw [HV.out]
  go_enter Try.func16, Try.ntmps16
  go_wp2_with fail
  refine HM.out.mono ?_
  rintro e w1 ⟨rfl, hw⟩
  subst hw
  go_wp2_with fail
  refine HF.out.mono ?_
  rintro e w2 ⟨rfl, hb2⟩
  have HB2 := hid hb2
  have HQ2 := hid (HQ.out.below hb2)
  have c3 := HQ2.out.c3
  have f3 := HQ2.out.fz 3
  have HQ3 := hid (HQ2.out.setH (wrap64 (h + 1)))
  have d2 := HQ3.out.c2
  have HR : Hid (Rg 76 (w2.setCell ⟨m, 3, none⟩ (.int .i64 (wrap64 (h + 1)))) z (ibs A ++ b :: ibs B)) := by
    have := HQ3.out.ring
    rw [show ibs (A ++ n :: B) = ibs A ++ b :: ibs B by simp [ibs, HBb.out]] at this
    exact this
  have HRN := hid (irenew_any _ z b (ibs A) (ibs B) HR.out)
  clear hb2 HR
  go_wp2_with fail
  refine HRN.out.mono ?_
  rintro e w3 ⟨rfl, hr3, hp3⟩
  have HQ4 : Hid (iMm w3 base m mb z most (n :: (A ++ B)) (wrap64 (h + 1)) mi g) := by
    refine HQ3.out.turn (fun x => ?_) ?_ (by simp; omega) ?_ ?_
    · simp only [List.mem_append, List.mem_cons]
      exact ⟨fun h => by rcases h with h | h | h <;> simp [h], fun h => by rcases h with h | h | h <;> simp [h]⟩
    · have := HQ3.out.kd
      exact (List.Perm.nodup_iff (by simp)).1 this
    · rw [show ibs (n :: (A ++ B)) = b :: (ibs A ++ ibs B) by simp [ibs, HBb.out]]; exact hr3
    · rw [show ibs (A ++ n :: B) = ibs A ++ b :: ibs B by simp [ibs, HBb.out]]; exact hp3
  have HFR : Hid (Fr w1 w3 (m :: z :: ibs (A ++ n :: B))) := by
    refine ((Fr.of_below HB2.out _).trans (Fr.set w2 m 3 (.int .i64 (wrap64 (h + 1)))) (by simp)).trans hp3.fr (fun k hk => Or.inl ?_)
    rw [show ibs (A ++ n :: B) = ibs A ++ b :: ibs B by simp [ibs, HBb.out]]
    exact List.mem_cons_of_mem _ hk
  have e1 : w3.cell? ⟨b, 1, none⟩ = some (.int .i64 v) := by
    have := (HQ4.out.ents n (by simp)).c1
    rw [HBb.out, HV.out] at this
    exact this
  clear hr3 hp3
  go_wp2
  go_ret2
  exact ⟨rfl, HQ4.out, HFR.out⟩
end

end Go.Proofs.Ytnbbebapfiocpaa

/- empty, New, add, remove, forget, Put (keys of type int). -/
namespace Go.Proofs.Ytnbbebapfiocpaa
open Go.RowKit

theorem ibs_app (A B : List iNd) : ibs (A ++ B) = ibs A ++ ibs B := by simp [ibs]

theorem ibs_cons (n : iNd) (B : List iNd) : ibs (n :: B) = n.b :: ibs B := rfl

set_option maxHeartbeats 1000000 in
theorem iempty_any (w : World) (most : Nat) (h1 : 1 ≤ most) (h2 : most ≤ 4096) :
    Calls Try.prog 24 #[.int .i64 most] w fun e w' => ∃ m mb z, e = .returned (pt m) ∧ iMm w' w.heap.size m mb z most [] 0 0 0 ∧ Below w.heap.size w w' := by
  have HN := hid (inewRow_any (w.alloc (.map #[] 0)))
  have hmm := @run_makeMap Try.prog 68
  have HMP := hid (Mp.made w Try.prog 3 ikL)
  go_enter Try.func24, Try.ntmps24
  go_wp2_with fail
  refine HN.out.mono ?_
  rintro e w2 ⟨rfl, hr2, hb2⟩
  have HR2 := hid hr2
  have HB2 := hid hb2
  have HMP2 : Hid (Mp Try.prog 3 ikL w2 w.heap.size (fun _ => none) 0) := HMP.out.fr (Fr.of_below hb2 []) (by simp)
  have hs2 : w.heap.size + 1 ≤ w2.heap.size := by have := hb2.size; simpa using this
  have hz2 : w.heap.size + 1 + 1 < w2.heap.size := by have := hr2.lt (w.heap.size + 1 + 1) (by simp); simpa using this
  rw [World.size_alloc] at HR2
  clear hr2 hb2 hmm HMP HN
  go_wp2
  go_ret
  obtain ⟨M, hM⟩ : ∃ M : Obj, M = .cells #[.int .i64 most, .map (some w.heap.size), pt (w.heap.size + 1 + 1), .int .i64 0, .int .i64 0, .int .i64 0] 73 (0, 0) := ⟨_, rfl⟩
  refine ⟨w2.heap.size, w.heap.size, w.heap.size + 1 + 1, rfl, ⟨?_, hp_new w2 _, ?_, HR2.out.below (below_walk w2 _), by simp, by simp, by simp, h1, h2, by simp⟩, ?_⟩
  · intro x hx
    simp [ibs] at hx
    omega
  · exact HMP2.out.fr (Fr.of_below (below_walk w2 _) []) (by simp)
  · exact ((below_walk w _).trans (HB2.out.mono (by simp))).trans ((below_walk w2 _).mono (by omega))

set_option maxHeartbeats 1000000 in
theorem inew_ok (w : World) (most : Nat) (h1 : 1 ≤ most) (h2 : most ≤ 4096) :
    Calls Try.prog 9 #[.int .i64 most] w fun e w' => ∃ m mb z, e = .returned (.tuple #[pt m, .int .i64 0]) ∧ iMm w' w.heap.size m mb z most [] 0 0 0 ∧ Below w.heap.size w w' := by
  have HE := hid (iempty_any w most h1 h2)
  have k1 : (1 : Int) ≤ most := by omega
  have k2 : (most : Int) ≤ 4096 := by omega
  go_enter Try.func9, Try.ntmps9
  go_wp2_with (first | (go_at_call 23; go_in) | (go_at_call 24; refine HE.out.mono ?_; rintro e w2 ⟨m, mb, z, rfl, hq⟩))
  go_ret2
  exact ⟨m, mb, z, rfl, hq⟩

set_option maxHeartbeats 1000000 in
theorem inew_bad (w : World) (most : Int) (h : most < 1 ∨ 4096 < most) :
    Calls Try.prog 9 #[.int .i64 most] w fun e w' => e = .returned (.tuple #[.pointer none, .int .i64 1]) ∧ w' = w := by
  by_cases h1 : most < 1
  · have h1' : ¬ 1 ≤ most := by omega
    clear h
    go_enter Try.func9, Try.ntmps9
    go_wp2_with (go_at_call 23; go_in)
    go_ret2
    exact ⟨rfl, rfl⟩
  · have h1' : 1 ≤ most := by omega
    have h2' : ¬ most ≤ 4096 := by omega
    clear h h1
    go_enter Try.func9, Try.ntmps9
    go_wp2_with (go_at_call 23; go_in)
    go_ret2
    exact ⟨rfl, rfl⟩

section
variable {w : World} {base m mb z most : Nat} {N : List iNd} {h mi g : Int}

set_option maxHeartbeats 2000000 in
theorem iadd_any (q : iMm w base m mb z most N h mi g) (k : Int) (hk : iKok k) (hn : iat N k = none) (hl : N.length < most) (v : Int) :
    Calls Try.prog 31 #[pt m, ikV k, .int .i64 v] w fun e w' => e = .returned (.tuple #[]) ∧ iMm w' base m mb z most (⟨w.heap.size, k, v⟩ :: N) h mi g ∧ Fr w w' (m :: mb :: z :: ibs N) := by
  have HK : Hid (ikV k = (.int .i64 k)) := rfl
  rw [HK.out]
  have hb1 := below_walk w (.cells #[(.int .i64 k), .int .i64 v, .pointer none, .pointer none] 76)
  have HQ1 := hid (q.below hb1)
  have hnew := hp_new w (.cells #[(.int .i64 k), .int .i64 v, .pointer none, .pointer none] 76)
  have c1 := HQ1.out.c1
  have hkey := ikey hk
  rw [HK.out] at hkey
  obtain ⟨w2, hup, hmp2, hg2⟩ := HQ1.out.map.put ikeyed ikL_inj Try.underlying68 (by have := q.big; unfold maxLen; omega) hkey w.heap.size hn
  have HQ := hid q
  have HB1 := hid hb1
  have HMP := hid hmp2
  have HN := hid hn
  have HF2 := hid (Fr.of_grown hg2)
  have HNew := hid (En.fr (T := 76) ⟨none, none, hnew⟩ (Fr.of_grown hg2) (by simp only [List.mem_cons, List.not_mem_nil, or_false]; exact fun e => by have := q.map.lt; omega))
  have HR2 := hid (HQ1.out.ring.fr HF2.out (fun x hx e => by simp at e; exact HQ1.out.mapOut (e ▸ hx)))
  have c2 : w2.cell? ⟨m, 2, none⟩ = some (pt z) := by
    rw [World.cell?_of_block (HF2.out.block m HQ1.out.lt (by simpa using HQ1.out.mMap))]; exact HQ1.out.c2
  have hout : w.heap.size ∉ z :: ibs N := fun hx => by have := q.ring.lt _ hx; omega
  obtain ⟨d, id, hz3, hnext⟩ := HR2.out.lay HNew.out hout
  obtain ⟨kz, vz, ez⟩ := HR2.out.en z (by simp)
  obtain ⟨kd, vd, ed⟩ := HR2.out.en d id
  have HY := hid (ilay_any w2 z w.heap.size d HNew.out ez ed hz3 (fun q => hout (by simp [q])) (fun q => hout (q ▸ id)))
  have HNX := hid hnext
  have HID := hid id
  have HO := hid hout
  have HKK := hid hk
  have HL := hid hl
  clear hkey hmp2 hg2 hn q hb1 hnew hnext id hout ez ed hz3 hk hl
  go_enter Try.func31, Try.ntmps31
  go_wp2_with fail
  refine HY.out.mono ?_
  rintro e w3 ⟨rfl, hy⟩
  go_wp2_with fail
  go_end0
  have hfr : Fr w w3 (m :: mb :: z :: ibs N) := by
    refine ((Fr.of_below HB1.out _).trans HF2.out (by simp)).trans hy.rp.fr (fun x hx => ?_)
    simp only [List.mem_cons, List.not_mem_nil, or_false] at hx
    rcases hx with rfl | rfl | rfl
    · exact Or.inr (Nat.le_refl _)
    · exact Or.inl (by simp)
    · exact Or.inl (List.mem_cons_of_mem _ (List.mem_cons_of_mem _ HID.out))
  have hq := HQ.out
  have hat : iat (⟨w.heap.size, k, v⟩ :: N) = fun x => if x = k then some w.heap.size else iat N x := by
    funext x
    unfold iat
    by_cases hx : x = k
    · subst hx; simp
    · rw [if_neg hx, List.find?_cons_of_neg (by simpa using fun e => hx e.symm)]
  refine ⟨rfl, ⟨?_, ?_, ?_, HNX.out w3 hy, ?_, ?_, ?_, hq.one, hq.big, ?_⟩, hfr⟩
  · intro x hx
    simp only [ibs_cons, List.mem_cons] at hx
    rcases hx with rfl | rfl | rfl | rfl | hx
    · exact hq.lo _ (by simp)
    · exact hq.lo _ (by simp)
    · exact hq.lo _ (by simp)
    · exact hq.base_le
    · exact hq.lo _ (by simp [hx])
  · have hm := HQ1.out.mOut
    refine hy.rp.fr.blk (HF2.out.blk HQ1.out.blk (by simpa using HQ1.out.mMap)) (fun hx => ?_)
    simp only [List.mem_cons, List.not_mem_nil, or_false] at hx
    rcases hx with e | e | e
    · have := hq.lt; omega
    · exact hm (by simp [e])
    · exact hm (e ▸ HID.out)
  · rw [hat]
    refine HMP.out.fr hy.rp.fr (fun hx => ?_)
    have hm := HQ1.out.mapOut
    simp only [List.mem_cons, List.not_mem_nil, or_false] at hx
    rcases hx with e | e | e
    · have := hq.map.lt; omega
    · exact hm (by simp [e])
    · exact hm (e ▸ HID.out)
  · intro n hn
    rcases List.mem_cons.1 hn with rfl | hn
    · have := hy.rp.en HNew.out
      show En _ w3 w.heap.size (ikV k) (.int .i64 v)
      rw [HK.out]; exact this
    · exact hy.rp.en (((HQ1.out.ents n hn)).fr HF2.out (fun e => HQ1.out.mapOut (by
        simp at e; rw [← e]; exact List.mem_cons_of_mem _ (List.mem_map.2 ⟨n, hn, rfl⟩))))
  · simp only [List.map_cons, List.nodup_cons]
    exact ⟨fun hx => by obtain ⟨n, hn, e⟩ := List.mem_map.1 hx; exact iat_not HN.out n hn e, hq.kd⟩
  · intro n hn
    rcases List.mem_cons.1 hn with rfl | hn
    · exact HKK.out
    · exact hq.kok n hn
  · have := HL.out; have := hq.big; simp; omega

set_option maxHeartbeats 2000000 in
theorem iremove_any (A B : List iNd) (n : iNd) (q : iMm w base m mb z most (A ++ n :: B) h mi g) :
    Calls Try.prog 43 #[pt m, pt n.b] w fun e w' => e = .returned (.tuple #[]) ∧ iMm w' base m mb z most (A ++ B) h mi g ∧ Fr w w' (m :: mb :: z :: ibs (A ++ n :: B)) ∧ En 76 w' n.b (ikV n.k) (.int .i64 n.v) := by
  have hn : n ∈ A ++ n :: B := by simp
  obtain ⟨κ, HK⟩ : ∃ κ, Hid (ikV n.k = κ) := ⟨_, rfl⟩
  obtain ⟨b, HBb⟩ : ∃ b, Hid (n.b = b) := ⟨_, rfl⟩
  rw [HBb.out]
  have bd : Below w.heap.size w w.drew := ⟨rfl, rfl, rfl, Nat.le_refl _, fun _ _ => rfl⟩
  have HQ1 := hid (q.below bd)
  have c1 := HQ1.out.c1
  have ee := HQ1.out.ents n hn
  rw [HBb.out, HK.out] at ee
  have e0 := ee.c0
  have hkey := ikey (q.kok n hn)
  rw [HK.out] at hkey
  obtain ⟨w2, hdel, hmp2, hg2⟩ := HQ1.out.map.del ikeyed ikL_inj Try.underlying68 hkey (iat_some q.kd hn) 0
  have HQ := hid q
  have HMP := hid hmp2
  have HF2 := hid (Fr.of_grown hg2)
  have hbs : ibs (A ++ n :: B) = ibs A ++ b :: ibs B := by simp [ibs, HBb.out]
  have HR2 := hid (HQ1.out.ring.fr HF2.out (fun x hx e => by simp at e; exact HQ1.out.mapOut (e ▸ hx)))
  rw [hbs] at HR2
  have c2 : w2.cell? ⟨m, 2, none⟩ = some (pt z) := by
    rw [World.cell?_of_block (HF2.out.block m HQ1.out.lt (by simpa using HQ1.out.mMap))]; exact HQ1.out.c2
  obtain ⟨a, c, ia, ic, h2, h3, hnext⟩ := HR2.out.lift
  obtain ⟨ke, ve, e2⟩ := HR2.out.en b (by simp)
  obtain ⟨ka, va, ea⟩ := HR2.out.en a ia
  obtain ⟨kc, vc, ec⟩ := HR2.out.en c ic
  have HL := hid (ilift_any w2 z b a c e2 ea ec h2 h3)
  have HNX := hid hnext
  have HIA := hid ia
  have HIC := hid ic
  have HBS := hid hbs
  have HNN := hid hn
  clear hkey hmp2 hg2 q bd hnext ia ic e2 ea ec h2 h3 ee hbs hn
  go_enter Try.func43, Try.ntmps43
  go_upto_region 0 with fail
  go_region
  go_wp2_with fail
  refine HL.out.mono ?_
  rintro e w3 ⟨rfl, hy⟩
  go_wp2_with fail
  go_end0
  have hq := HQ.out
  have hbs := HBS.out
  have hfr : Fr w w3 (m :: mb :: z :: ibs (A ++ n :: B)) := by
    have f1 : Fr w w2 [mb] := ⟨HF2.out.os, HF2.out.tape, HF2.out.output, HF2.out.size, HF2.out.block⟩
    refine (f1.mono (G := m :: mb :: z :: ibs (A ++ n :: B)) (by simp)).trans hy.rp.fr (fun x hx => Or.inl ?_)
    simp only [List.mem_cons, List.not_mem_nil, or_false] at hx
    rw [hbs]
    rcases hx with rfl | rfl
    · exact List.mem_cons_of_mem _ (List.mem_cons_of_mem _ HIA.out)
    · exact List.mem_cons_of_mem _ (List.mem_cons_of_mem _ HIC.out)
  have hkd := hq.kd
  have hkd2 : ((A ++ B).map (·.k)).Nodup := hkd.sublist (by simp)
  have hne : ∀ x ∈ A ++ B, x.k ≠ n.k := by
    intro x hx e
    have hp : ((n :: (A ++ B)).map (·.k)).Nodup := (List.Perm.nodup_iff (by simp)).1 hkd
    simp only [List.map_cons, List.nodup_cons] at hp
    exact hp.1 (e ▸ List.mem_map.2 ⟨x, hx, rfl⟩)
  have hsub : ∀ x ∈ A ++ B, x ∈ A ++ n :: B := fun x hx => by
    rcases List.mem_append.1 hx with hx | hx <;> simp [hx]
  have hat : iat (A ++ B) = fun x => if x = n.k then none else iat (A ++ n :: B) x := by
    funext x
    by_cases hx : x = n.k
    · subst hx; rw [if_pos rfl]; exact iat_none hne
    · rw [if_neg hx]
      by_cases hk : ∃ y ∈ A ++ B, y.k = x
      · obtain ⟨y, hy, rfl⟩ := hk
        rw [iat_some hkd2 hy, iat_some hkd (hsub y hy)]
      · rw [iat_none (fun y hy e => hk ⟨y, hy, e⟩), iat_none (fun y hy e => ?_)]
        rcases List.mem_append.1 hy with hy | hy
        · exact hk ⟨y, by simp [hy], e⟩
        · rcases List.mem_cons.1 hy with rfl | hy
          · exact hx e.symm
          · exact hk ⟨y, by simp [hy], e⟩
  have hmo : ∀ x ∈ [a, c], x ∈ z :: ibs (A ++ n :: B) := by
    intro x hx
    simp only [List.mem_cons, List.not_mem_nil, or_false] at hx
    rw [hbs]
    rcases hx with rfl | rfl
    · exact HIA.out
    · exact HIC.out
  have hen : ∀ x ∈ A ++ n :: B, En 76 w3 x.b (ikV x.k) (.int .i64 x.v) := fun x hx =>
    hy.rp.en ((HQ1.out.ents x hx).fr HF2.out (fun e => HQ1.out.mapOut (by
        simp at e; rw [← e]; exact List.mem_cons_of_mem _ (List.mem_map.2 ⟨x, hx, rfl⟩))))
  refine ⟨rfl, ⟨?_, ?_, ?_, ?_, fun x hx => hen x (hsub x hx), hkd2, fun x hx => hq.kok x (hsub x hx), hq.one, hq.big, ?_⟩, hfr, ?_⟩
  · intro x hx
    refine hq.lo x ?_
    simp only [List.mem_cons, ibs_app, ibs_cons, List.mem_append] at hx ⊢
    rcases hx with h | h | h | h | h <;> simp [h]
  · exact hy.rp.fr.blk (HF2.out.blk HQ1.out.blk (by simpa using HQ1.out.mMap)) (fun hx => HQ1.out.mOut (hmo m hx))
  · rw [hat, show (A ++ B).length = (A ++ n :: B).length - 1 by simp]
    exact HMP.out.fr hy.rp.fr (fun hx => HQ1.out.mapOut (hmo mb hx))
  · rw [ibs_app]; exact HNX.out w3 hy
  · have := hq.le; simp at this ⊢; omega
  · have := hen n (by simp)
    rw [HBb.out] at this
    exact this

set_option maxHeartbeats 2000000 in
theorem iforget_any (A : List iNd) (n : iNd) (q : iMm w base m mb z most (A ++ [n]) h mi g) :
    Calls Try.prog 41 #[pt m] w fun e w' => e = .returned (ikV n.k) ∧ iMm w' base m mb z most A h mi (wrap64 (g + 1)) ∧ Fr w w' (m :: mb :: z :: ibs (A ++ [n])) := by
  have hb1 := below_walk w (.cells #[pt z] 71)
  have c2 := q.c2
  have hold := q.ring
  rw [ibs_app] at hold
  have HOL := hid (ioldest_any w z n.b hold.oldest (q.ring.lt z (by simp)))
  have HQ := hid q
  have HR := hid (iremove_any A [] n (q.below hb1))
  rw [List.append_nil] at HR
  have HB1 := hid hb1
  clear q hold hb1
  obtain ⟨b, HBb⟩ : ∃ b, Hid (n.b = b) := ⟨_, rfl⟩
  rw [HBb.out] at HOL HR
  go_enter Try.func41, Try.ntmps41
  go_wp2_with fail
  refine HOL.out.mono ?_
  rintro e w1 ⟨rfl, hw1⟩
  rw [← hw1] at HR HB1
  clear hw1 HOL
  go_wp2_with fail
  refine HR.out.mono ?_
  rintro e w2 ⟨rfl, hq2, hf2, he2⟩
  have c5 := hq2.c5
  have f5 := hq2.fz 5
  have HQ3 := hid (hq2.setG (wrap64 (g + 1)))
  have hmb : b ≠ m := by
    intro e
    subst e
    obtain ⟨cs, he⟩ := he2.typ hq2.blk
    simp at he
  have HE3 := hid (he2.fr (Fr.set w2 m 5 (.int .i64 (wrap64 (g + 1)))) (by simpa using hmb))
  have e0 := HE3.out.c0
  have HF3 : Hid (Fr w (w2.setCell ⟨m, 5, none⟩ (.int .i64 (wrap64 (g + 1)))) (m :: mb :: z :: ibs (A ++ [n]))) := ((Fr.of_below HB1.out _).trans hf2 (fun x hx => Or.inl hx)).trans (Fr.set _ _ _ _) (by simp)
  obtain ⟨κ, HK⟩ : ∃ κ, Hid (ikV n.k = κ) := ⟨_, rfl⟩
  rw [HK.out] at e0
  clear hq2 hf2 he2 HR
  go_wp2
  go_ret
  exact ⟨by rw [HK.out]; rfl, HQ3.out, HF3.out⟩
end

end Go.Proofs.Ytnbbebapfiocpaa

/- A memo as a list of keys and values, the newest first: what each call makes of it. -/
namespace Go.Proofs.Ytnbbebapfiocpaa

section
variable {κ : Type} [DecidableEq κ]
def findP (L : List (κ × Int)) (k : κ) : Option (κ × Int) := L.find? (fun x => decide (x.1 = k))
def lookP (L : List (κ × Int)) (k : κ) : Option Int := (findP L k).map (·.2)
def outP (L : List (κ × Int)) (k : κ) : List (κ × Int) := L.filter (fun x => !decide (x.1 = k))
def getP (L : List (κ × Int)) (k : κ) : List (κ × Int) :=
  match findP L k with
  | some x => x :: outP L k
  | none => L
def putP (most : Nat) (L : List (κ × Int)) (k : κ) (v : Int) : List (κ × Int) := ((k, v) :: outP L k).take most
def wentP (most : Nat) (L : List (κ × Int)) (k : κ) : Option κ := if most ≤ (outP L k).length then (outP L k).getLast?.map (·.1) else none

theorem findP_none {L : List (κ × Int)} {k : κ} (h : ∀ x ∈ L, x.1 ≠ k) : findP L k = none := List.find?_eq_none.2 (fun x hx => by simpa using h x hx)
theorem outP_none {L : List (κ × Int)} {k : κ} (h : ∀ x ∈ L, x.1 ≠ k) : outP L k = L := List.filter_eq_self.2 (fun x hx => by simpa using h x hx)
theorem findP_split {A B : List (κ × Int)} {k : κ} {v : Int} (h : ∀ x ∈ A, x.1 ≠ k) : findP (A ++ (k, v) :: B) k = some (k, v) := by
  unfold findP
  rw [List.find?_append, List.find?_eq_none.2 (fun x hx => by simpa using h x hx)]
  simp
theorem outP_split {A B : List (κ × Int)} {k : κ} {v : Int} (h : ∀ x ∈ A, x.1 ≠ k) (h2 : ∀ x ∈ B, x.1 ≠ k) : outP (A ++ (k, v) :: B) k = A ++ B := by
  unfold outP
  rw [List.filter_append, List.filter_cons_of_neg (by simp), List.filter_eq_self.2 (fun x hx => by simpa using h x hx), List.filter_eq_self.2 (fun x hx => by simpa using h2 x hx)]
end

end Go.Proofs.Ytnbbebapfiocpaa

/- Put, and the calls by the list of keys and values (keys of type int). -/
namespace Go.Proofs.Ytnbbebapfiocpaa
open Go.RowKit

theorem iMm.nodes {w : World} {base m mb z most : Nat} {A B : List iNd} {n : iNd} {h mi g : Int} (q : iMm w base m mb z most (A ++ n :: B) h mi g) : (∀ x ∈ A ++ B, x.b ≠ n.b) ∧ (∀ x ∈ A, x.k ≠ n.k) ∧ (∀ x ∈ B, x.k ≠ n.k) := by
  have h1 : (ibs (n :: (A ++ B))).Nodup := (List.Perm.nodup_iff (by simp [ibs])).1 (List.nodup_cons.1 q.ring.nd).2
  have h2 : ((n :: (A ++ B)).map (·.k)).Nodup := (List.Perm.nodup_iff (by simp)).1 q.kd
  simp only [ibs_cons, List.nodup_cons] at h1
  simp only [List.map_cons, List.nodup_cons] at h2
  refine ⟨fun x hx e => h1.1 (e ▸ List.mem_map.2 ⟨x, hx, rfl⟩), fun x hx e => h2.1 (e ▸ List.mem_map.2 ⟨x, by simp [hx], rfl⟩), fun x hx e => h2.1 (e ▸ List.mem_map.2 ⟨x, by simp [hx], rfl⟩)⟩

theorem iMm.setV {w : World} {base m mb z most : Nat} {A B : List iNd} {n : iNd} {h mi g : Int} (q : iMm w base m mb z most (A ++ n :: B) h mi g) (v : Int) :
    iMm (w.setCell ⟨n.b, 1, none⟩ (.int .i64 v)) base m mb z most (A ++ ⟨n.b, n.k, v⟩ :: B) h mi g := by
  have hbs : ibs (A ++ ⟨n.b, n.k, v⟩ :: B) = ibs (A ++ n :: B) := by simp [ibs]
  have hks : (A ++ ⟨n.b, n.k, v⟩ :: B).map (·.k) = (A ++ n :: B).map (·.k) := by simp
  have hmem : n.b ∈ z :: ibs (A ++ n :: B) := by simp [ibs]
  have r := Fr.set w n.b 1 (.int .i64 v)
  have nd := q.nodes
  have hat : iat (A ++ ⟨n.b, n.k, v⟩ :: B) = iat (A ++ n :: B) := by
    funext k
    simp only [iat, List.find?_append, List.find?_cons]
    by_cases hk : n.k = k
    · cases hA : A.find? (fun n => decide (n.k = k)) <;> simp [hk]
    · simp [hk]
  refine ⟨by rw [hbs]; exact q.lo, r.blk q.blk (fun e => q.mOut (by simp at e; rw [e]; exact hmem)), ?_, ?_, fun x hx => ?_, by rw [hks]; exact q.kd, fun x hx => ?_, q.one, q.big, by simpa using q.le⟩
  · rw [hat, show (A ++ ⟨n.b, n.k, v⟩ :: B).length = (A ++ n :: B).length by simp]
    exact q.map.fr r (fun e => q.mapOut (by simp at e; rw [e]; exact hmem))
  · rw [hbs]
    refine ⟨fun x hx => ?_, q.ring.lk.keep (fun x _ => cell_set_other (by omega)) (fun x _ => cell_set_other (by omega)), q.ring.nd⟩
    obtain ⟨k, u, e⟩ := q.ring.en x hx
    by_cases hxb : x = n.b
    · subst hxb; exact ⟨k, _, e.setV _⟩
    · exact ⟨k, u, e.fr r (by simpa using hxb)⟩
  · rcases List.mem_append.1 hx with hx | hx
    · exact (q.ents x (by simp [hx])).fr r (by simpa using nd.1 x (by simp [hx]))
    · rcases List.mem_cons.1 hx with rfl | hx
      · exact (q.ents n (by simp)).setV _
      · exact (q.ents x (by simp [hx])).fr r (by simpa using nd.1 x (by simp [hx]))
  · rcases List.mem_append.1 hx with hx | hx
    · exact q.kok x (by simp [hx])
    · rcases List.mem_cons.1 hx with rfl | hx
      · exact q.kok n (by simp)
      · exact q.kok x (by simp [hx])

section
variable {w : World} {base m mb z most : Nat} {N : List iNd} {h mi g : Int}

def ik0 : Int := 0

set_option maxHeartbeats 2000000 in
theorem iput_hit (A B : List iNd) (n : iNd) (q : iMm w base m mb z most (A ++ n :: B) h mi g) (v : Int) :
    Calls Try.prog 15 #[pt m, ikV n.k, .int .i64 v] w fun e w' => e = .returned (.tuple #[ikV ik0, .bool false]) ∧ iMm w' base m mb z most (⟨n.b, n.k, v⟩ :: (A ++ B)) h mi g ∧ Fr w w' (m :: mb :: z :: ibs (A ++ n :: B)) := by
  have hn : n ∈ A ++ n :: B := by simp
  have HM := hid (imade_any q)
  have HI := hid (iisItself_any w n.k)
  have HQ := hid q
  have HKK := hid (q.kok n hn)
  clear q hn
  have HI2 : Hid (Calls Try.prog 39 #[ikV n.k] w fun e w' => e = .returned (.bool true) ∧ Below w.heap.size w w') := HI
  clear HI
  obtain ⟨κ, HK⟩ : ∃ κ, Hid (ikV n.k = κ) := ⟨_, rfl⟩
  rw [HK.out] at HI2 ⊢
  obtain ⟨b, HBb⟩ : ∃ b, Hid (n.b = b) := ⟨_, rfl⟩
  go_enter Try.func15, Try.ntmps15
  go_wp2_with fail
  refine HM.out.mono ?_
  rintro e w1 ⟨rfl, hw⟩
  subst hw
  go_wp2_with fail
  refine HI2.out.mono ?_
  rintro e w2 ⟨rfl, hb2⟩
  have HB2 := hid hb2
  have HQ2 := hid (HQ.out.below hb2)
  have c1 := HQ2.out.c1
  have hlook := HQ2.out.map.look ikeyed Try.underlying68 (izeroE w2) (ikey HKK.out)
  rw [iat_some HQ2.out.kd (by simp), ptO_some, HK.out, HBb.out] at hlook
  have ee := HQ2.out.ents n (by simp)
  rw [HBb.out] at ee
  have e1 := ee.c1
  have f1 := ee.fz 1
  have HQ3 := hid (HQ2.out.setV v)
  rw [HBb.out] at HQ3
  have d2 := HQ3.out.c2
  have hbs : ibs (A ++ n :: B) = ibs A ++ b :: ibs B := by simp [ibs, HBb.out]
  have hbs2 : ibs (A ++ ⟨b, n.k, v⟩ :: B) = ibs A ++ b :: ibs B := by simp [ibs]
  have HR : Hid (Rg 76 (w2.setCell ⟨b, 1, none⟩ (.int .i64 v)) z (ibs A ++ b :: ibs B)) := by
    have := HQ3.out.ring
    rw [hbs2] at this
    exact this
  have HRN := hid (irenew_any _ z b (ibs A) (ibs B) HR.out)
  have HBS := hid hbs
  have HBS2 := hid hbs2
  clear hb2 HR ee hbs hbs2 HI2 HM
  go_wp2_with fail
  refine HRN.out.mono ?_
  rintro e w3 ⟨rfl, hr3, hp3⟩
  have HQ4 : Hid (iMm w3 base m mb z most (⟨b, n.k, v⟩ :: (A ++ B)) h mi g) := by
    refine HQ3.out.turn (fun x => ?_) ?_ (by simp; omega) ?_ ?_
    · simp only [List.mem_append, List.mem_cons]
      exact ⟨fun h => by rcases h with h | h | h <;> simp [h], fun h => by rcases h with h | h | h <;> simp [h]⟩
    · have := HQ3.out.kd
      exact (List.Perm.nodup_iff (by simp)).1 this
    · rw [ibs_cons, ibs_app]; exact hr3
    · rw [HBS2.out]; exact hp3
  have HFR : Hid (Fr w1 w3 (m :: mb :: z :: ibs (A ++ n :: B))) := by
    refine ((Fr.of_below HB2.out _).trans (Fr.set w2 b 1 (.int .i64 v)) (fun x hx => Or.inl ?_)).trans hp3.fr (fun k hk => Or.inl ?_)
    · simp at hx; subst hx; rw [HBS.out]; simp
    · rw [HBS.out]
      exact List.mem_cons_of_mem _ (List.mem_cons_of_mem _ hk)
  clear hr3 hp3 HRN
  go_wp2
  go_ret2
  exact ⟨rfl, by rw [HBb.out]; exact HQ4.out, HFR.out⟩

set_option maxHeartbeats 2000000 in
theorem iput_room (q : iMm w base m mb z most N h mi g) (k : Int) (hk : iKok k) (hn : iat N k = none) (hl : N.length < most) (v : Int) :
    Calls Try.prog 15 #[pt m, ikV k, .int .i64 v] w fun e w' => ∃ b, e = .returned (.tuple #[ikV ik0, .bool false]) ∧ iMm w' base m mb z most (⟨b, k, v⟩ :: N) h mi g ∧ Fr w w' (m :: mb :: z :: ibs N) ∧ w.heap.size ≤ b := by
  have HM := hid (imade_any q)
  have HI := hid (iisItself_any w k)
  have HQ := hid q
  have HKK := hid hk
  have HN := hid hn
  have HL := hid hl
  have hne : ((N.length : Int) == (most : Int)) = false := by simp; omega
  have hne2 : ¬ (N.length : Int) = (most : Int) := by omega
  clear q hn hk hl
  have HI2 : Hid (Calls Try.prog 39 #[ikV k] w fun e w' => e = .returned (.bool true) ∧ Below w.heap.size w w') := HI
  clear HI
  obtain ⟨κ, HK⟩ : ∃ κ, Hid (ikV k = κ) := ⟨_, rfl⟩
  rw [HK.out] at HI2 ⊢
  go_enter Try.func15, Try.ntmps15
  go_wp2_with fail
  refine HM.out.mono ?_
  rintro e w1 ⟨rfl, hw⟩
  subst hw
  go_wp2_with fail
  refine HI2.out.mono ?_
  rintro e w2 ⟨rfl, hb2⟩
  have HB2 := hid hb2
  have HQ2 := hid (HQ.out.below hb2)
  have c1 := HQ2.out.c1
  have hlook := HQ2.out.map.look ikeyed Try.underlying68 (izeroE w2) (ikey HKK.out)
  rw [HN.out, ptO_none, HK.out] at hlook
  have bd : Below w2.heap.size w2 w2.drew := ⟨rfl, rfl, rfl, Nat.le_refl _, fun _ _ => rfl⟩
  have HQ3 := hid (HQ2.out.below bd)
  have d1 := HQ3.out.c1
  have d0 := HQ3.out.c0
  have hlen := HQ3.out.map.len Try.underlying68
  have HA := hid (iadd_any HQ3.out k HKK.out HN.out HL.out v)
  rw [HK.out] at HA
  have HS := hid hb2.size
  clear hb2 HI2 HM bd
  go_upto_region 9 with fail
  go_region
  go_wp2_with fail
  refine HA.out.mono ?_
  rintro e w4 ⟨rfl, hq4, hf4⟩
  have HQ4 := hid hq4
  have HF4 := hid ((Fr.of_below HB2.out _).trans (⟨hf4.os, hf4.tape, hf4.output, hf4.size, hf4.block⟩ : Fr w2 w4 _) (fun x hx => Or.inl hx))
  clear hq4 hf4
  go_wp2
  go_ret2
  exact ⟨_, rfl, HQ4.out, HF4.out, HS.out⟩

set_option maxHeartbeats 2000000 in
theorem iput_full (A : List iNd) (o : iNd) (q : iMm w base m mb z most (A ++ [o]) h mi g) (k : Int) (hk : iKok k) (hn : iat (A ++ [o]) k = none) (hl : (A ++ [o]).length = most) (v : Int) :
    Calls Try.prog 15 #[pt m, ikV k, .int .i64 v] w fun e w' => ∃ b, e = .returned (.tuple #[ikV o.k, .bool true]) ∧ iMm w' base m mb z most (⟨b, k, v⟩ :: A) h mi (wrap64 (g + 1)) ∧ Fr w w' (m :: mb :: z :: ibs (A ++ [o])) ∧ w.heap.size ≤ b := by
  have HM := hid (imade_any q)
  have HI := hid (iisItself_any w k)
  have HQ := hid q
  have HKK := hid hk
  have HN := hid hn
  have HNA : Hid (iat A k = none) := iat_none (fun n hx => iat_not hn n (by simp [hx]))
  have HLA : Hid (A.length < most) := hid (by rw [← hl]; simp)
  obtain ⟨len, HLN⟩ : ∃ len, Hid ((A ++ [o]).length = len) := ⟨_, rfl⟩
  have heq : ((len : Int) == (most : Int)) = true := by rw [← HLN.out, hl]; simp
  have heq2 : (len : Int) = (most : Int) := by rw [← HLN.out, hl]
  have HHE := hid heq2
  clear q hn hk hl heq2
  have HI2 : Hid (Calls Try.prog 39 #[ikV k] w fun e w' => e = .returned (.bool true) ∧ Below w.heap.size w w') := HI
  clear HI
  obtain ⟨κ, HK⟩ : ∃ κ, Hid (ikV k = κ) := ⟨_, rfl⟩
  rw [HK.out] at HI2 ⊢
  go_enter Try.func15, Try.ntmps15
  go_wp2_with fail
  refine HM.out.mono ?_
  rintro e w1 ⟨rfl, hw⟩
  subst hw
  go_wp2_with fail
  refine HI2.out.mono ?_
  rintro e w2 ⟨rfl, hb2⟩
  have HB2 := hid hb2
  have HQ2 := hid (HQ.out.below hb2)
  have c1 := HQ2.out.c1
  have hlook := HQ2.out.map.look ikeyed Try.underlying68 (izeroE w2) (ikey HKK.out)
  rw [HN.out, ptO_none, HK.out] at hlook
  have bd : Below w2.heap.size w2 w2.drew := ⟨rfl, rfl, rfl, Nat.le_refl _, fun _ _ => rfl⟩
  have HQ3 := hid (HQ2.out.below bd)
  have d1 := HQ3.out.c1
  have d0 := HQ3.out.c0
  have hlen := HQ3.out.map.len Try.underlying68
  rw [HLN.out] at hlen
  have HFG := hid (iforget_any A o HQ3.out)
  obtain ⟨κo, HKO⟩ : ∃ κo, Hid (ikV o.k = κo) := ⟨_, rfl⟩
  rw [HKO.out] at HFG
  have HS := hid hb2.size
  clear hb2 HI2 HM bd
  go_upto_region 9 with fail
  go_region
  go_wp2_with fail
  refine HFG.out.mono ?_
  rintro e w3 ⟨rfl, hq3, hf3⟩
  have HF3 := hid ((Fr.of_below HB2.out _).trans (⟨hf3.os, hf3.tape, hf3.output, hf3.size, hf3.block⟩ : Fr w2 w3 _) (fun x hx => Or.inl hx))
  have HA := hid (iadd_any hq3 k HKK.out HNA.out HLA.out v)
  rw [HK.out] at HA
  have HS3 := hid (Nat.le_trans HS.out hf3.size)
  clear hq3 hf3
  go_wp2_with fail
  refine HA.out.mono ?_
  rintro e w4 ⟨rfl, hq4, hf4⟩
  have HQ4 := hid hq4
  have HF4 := hid (HF3.out.trans hf4 (fun x hx => Or.inl (by
    rw [ibs_app]
    simp only [List.mem_cons, List.mem_append] at hx ⊢
    rcases hx with h | h | h | h <;> simp [h])))
  clear hq4 hf4
  go_wp2
  go_ret2
  exact ⟨_, by rw [HKO.out]; rfl, HQ4.out, HF4.out, HS3.out⟩
end

end Go.Proofs.Ytnbbebapfiocpaa

/- A step of a memo: which blocks it changes, which it has behind it. -/
namespace Go.Proofs.Ytnbbebapfiocpaa
open Go.RowKit

/-- nothing but the blocks F changed, and the blocks F' are of these, or new -/
def St (w w' : World) (F F' : List Nat) : Prop := Fr w w' F ∧ ∀ x ∈ F', x ∈ F ∨ w.heap.size ≤ x
theorem St.refl (w : World) (F : List Nat) : St w w F F := ⟨Fr.refl w F, fun _ h => Or.inl h⟩
theorem St.trans {w w1 w2 : World} {F F1 F2 : List Nat} (h : St w w1 F F1) (g : St w1 w2 F1 F2) : St w w2 F F2 :=
  ⟨h.1.trans g.1 h.2, fun x hx => by
    rcases g.2 x hx with h1 | h1
    · exact h.2 x h1
    · exact Or.inr (Nat.le_trans h.1.size h1)⟩
theorem St.below {w w1 w2 : World} {F F1 : List Nat} (h : St w w1 F F1) (g : Below w1.heap.size w1 w2) : St w w2 F F1 := ⟨h.1.trans (Fr.of_below g []) (by simp), h.2⟩
theorem St.of_below {w w1 : World} (g : Below w.heap.size w w1) (F : List Nat) : St w w1 F F := ⟨Fr.of_below g F, fun _ h => Or.inl h⟩
/-- what has no block in F has none in F' -/
theorem St.apart {w w' : World} {F F' G : List Nat} (h : St w w' F F') (hG : ∀ x ∈ G, x < w.heap.size) (hd : ∀ x ∈ G, x ∉ F) : ∀ x ∈ G, x ∉ F' := fun x hx e => by
  rcases h.2 x e with h1 | h1
  · exact hd x hx h1
  · have := hG x hx; omega

end Go.Proofs.Ytnbbebapfiocpaa

/- The calls of a memo by the list of its keys and values (keys of type int). -/
namespace Go.Proofs.Ytnbbebapfiocpaa
open Go.RowKit

def ikv (n : iNd) : Int × Int := (n.k, n.v)

/-- block m is a memo with these keys and values, the newest first; its blocks are F -/
def iMo (w : World) (base m most : Nat) (L : List (Int × Int)) (h mi g : Int) (F : List Nat) : Prop :=
  ∃ mb z N, (iMm w base m mb z most N h mi g ∧ N.length ≤ most) ∧ L = N.map ikv ∧ F = m :: mb :: z :: ibs N

section
variable {w w' : World} {base m most : Nat} {L : List (Int × Int)} {h mi g : Int} {F : List Nat}
theorem iMo.fr {G : List Nat} (q : iMo w base m most L h mi g F) (r : Fr w w' G) (hF : ∀ x ∈ F, x ∉ G) : iMo w' base m most L h mi g F := by
  obtain ⟨mb, z, N, ⟨q, hle⟩, rfl, rfl⟩ := q
  exact ⟨mb, z, N, ⟨q.fr r hF, hle⟩, rfl, rfl⟩
theorem iMo.below (q : iMo w base m most L h mi g F) (r : Below w.heap.size w w') : iMo w' base m most L h mi g F := q.fr (Fr.of_below r []) (by simp)
theorem iMo.lo (q : iMo w base m most L h mi g F) : ∀ x ∈ F, base ≤ x := by obtain ⟨mb, z, N, ⟨q, hle⟩, rfl, rfl⟩ := q; exact q.lo
theorem iMo.lts (q : iMo w base m most L h mi g F) : ∀ x ∈ F, x < w.heap.size := by obtain ⟨mb, z, N, ⟨q, hle⟩, rfl, rfl⟩ := q; exact q.lts
theorem iMo.base_le (q : iMo w base m most L h mi g F) : base ≤ w.heap.size := by obtain ⟨mb, z, N, ⟨q, hle⟩, rfl, rfl⟩ := q; exact q.base_le
theorem iMo.lw {base' : Nat} (q : iMo w base m most L h mi g F) (hb : base' ≤ base) : iMo w base' m most L h mi g F := by
  obtain ⟨mb, z, N, ⟨q, hle⟩, rfl, rfl⟩ := q
  exact ⟨mb, z, N, ⟨⟨fun x hx => Nat.le_trans hb (q.lo x hx), q.blk, q.map, q.ring, q.ents, q.kd, q.kok, q.one, q.big, q.le⟩, hle⟩, rfl, rfl⟩
theorem iMo.one (q : iMo w base m most L h mi g F) : 1 ≤ most := by obtain ⟨mb, z, N, ⟨q, hle⟩, rfl, rfl⟩ := q; exact q.one
theorem iMo.big (q : iMo w base m most L h mi g F) : most ≤ 4096 := by obtain ⟨mb, z, N, ⟨q, hle⟩, rfl, rfl⟩ := q; exact q.big
theorem iMo.le (q : iMo w base m most L h mi g F) : L.length ≤ most := by obtain ⟨mb, z, N, ⟨q, hle⟩, rfl, rfl⟩ := q; simpa using hle
theorem iMo.kd (q : iMo w base m most L h mi g F) : (L.map (·.1)).Nodup := by
  obtain ⟨mb, z, N, ⟨q, hle⟩, rfl, rfl⟩ := q
  have := q.kd
  rw [List.map_map]
  exact this
theorem iMo.kok (q : iMo w base m most L h mi g F) : ∀ x ∈ L, iKok x.1 := by
  obtain ⟨mb, z, N, ⟨q, hle⟩, rfl, rfl⟩ := q
  intro x hx
  obtain ⟨n, hn, rfl⟩ := List.mem_map.1 hx
  exact q.kok n hn
theorem iMo.low {F' : List Nat} (q : iMo w base m most L h mi g F) (s : St w w' F F') : Below base w w' := s.1.below q.base_le q.lo

theorem ilen_mo (q : iMo w base m most L h mi g F) :
    Calls Try.prog 18 #[pt m] w fun e w' => e = .returned (.int .i64 L.length) ∧ w' = w := by
  obtain ⟨mb, z, N, ⟨q, hle⟩, rfl, rfl⟩ := q
  rw [List.length_map]
  exact ilen_any q

theorem ilook_mo (q : iMo w base m most L h mi g F) (k : Int) (hk : iKok k) :
    Calls Try.prog 17 #[pt m, ikV k] w fun e w' => e = .returned (.tuple #[.int .i64 ((lookP L k).getD 0), .bool (lookP L k).isSome]) ∧ Below w.heap.size w w' := by
  obtain ⟨mb, z, N, ⟨q, hle⟩, rfl, rfl⟩ := q
  cases hat : iat N k with
  | none =>
    have : lookP (N.map ikv) k = none := by
      unfold lookP; rw [findP_none (fun x hx => by obtain ⟨n, hn, rfl⟩ := List.mem_map.1 hx; exact iat_not hat n hn)]; rfl
    rw [this]
    exact ilook_miss q k hk hat
  | some b =>
    obtain ⟨A, n, B, rfl, rfl, rfl⟩ := iat_split hat
    have nd := q.nodes
    have : lookP ((A ++ n :: B).map ikv) n.k = some n.v := by
      unfold lookP
      rw [List.map_append, List.map_cons, show ikv n = (n.k, n.v) from rfl, findP_split (fun x hx => by obtain ⟨y, hy, rfl⟩ := List.mem_map.1 hx; exact nd.2.1 y hy)]
      rfl
    rw [this]
    exact ilook_hit q n (by simp)

theorem iget_mo (q : iMo w base m most L h mi g F) (k : Int) (hk : iKok k) :
    Calls Try.prog 16 #[pt m, ikV k] w fun e w' => e = .returned (.tuple #[.int .i64 ((lookP L k).getD 0), .bool (lookP L k).isSome]) ∧
      ∃ F', iMo w' base m most (getP L k) (if (lookP L k).isSome then wrap64 (h + 1) else h) (if (lookP L k).isSome then mi else wrap64 (mi + 1)) g F' ∧ St w w' F F' := by
  obtain ⟨mb, z, N, ⟨q, hle⟩, rfl, rfl⟩ := q
  cases hat : iat N k with
  | none =>
    have h0 : findP (N.map ikv) k = none := findP_none (fun x hx => by obtain ⟨n, hn, rfl⟩ := List.mem_map.1 hx; exact iat_not hat n hn)
    have h1 : lookP (N.map ikv) k = none := by unfold lookP; rw [h0]; rfl
    have h2 : getP (N.map ikv) k = N.map ikv := by unfold getP; rw [h0]
    rw [h1, h2]
    refine (iget_miss q k hk hat).mono ?_
    rintro e w' ⟨rfl, q', r⟩
    exact ⟨rfl, _, ⟨mb, z, N, ⟨q', hle⟩, rfl, rfl⟩, r.mono (by simp), fun x hx => Or.inl hx⟩
  | some b =>
    obtain ⟨A, n, B, rfl, rfl, rfl⟩ := iat_split hat
    have nd := q.nodes
    have nA : ∀ x ∈ A.map ikv, x.1 ≠ n.k := fun x hx => by obtain ⟨y, hy, rfl⟩ := List.mem_map.1 hx; exact nd.2.1 y hy
    have nB : ∀ x ∈ B.map ikv, x.1 ≠ n.k := fun x hx => by obtain ⟨y, hy, rfl⟩ := List.mem_map.1 hx; exact nd.2.2 y hy
    have h0 : findP ((A ++ n :: B).map ikv) n.k = some (n.k, n.v) := by
      rw [List.map_append, List.map_cons, show ikv n = (n.k, n.v) from rfl, findP_split nA]
    have h1 : lookP ((A ++ n :: B).map ikv) n.k = some n.v := by unfold lookP; rw [h0]; rfl
    have h2 : getP ((A ++ n :: B).map ikv) n.k = (n :: (A ++ B)).map ikv := by
      unfold getP
      rw [h0]
      show (n.k, n.v) :: outP _ _ = _
      rw [List.map_append, List.map_cons, show ikv n = (n.k, n.v) from rfl, outP_split nA nB, List.map_cons, List.map_append]
      rfl
    rw [h1, h2]
    refine (iget_hit A B n q).mono ?_
    rintro e w' ⟨rfl, q', r⟩
    refine ⟨rfl, _, ⟨mb, z, _, ⟨q', by simp at hle ⊢; omega⟩, rfl, rfl⟩, r.mono (fun x hx => Or.inl ?_), fun x hx => Or.inl ?_⟩
    · simp only [List.mem_cons] at hx ⊢
      rcases hx with h | h | h <;> simp [h]
    · simp only [ibs_cons, ibs_app, List.mem_cons, List.mem_append] at hx ⊢
      rcases hx with h | h | h | h | h | h <;> simp [h]

theorem iput_mo (q : iMo w base m most L h mi g F) (k : Int) (hk : iKok k) (v : Int) :
    Calls Try.prog 15 #[pt m, ikV k, .int .i64 v] w fun e w' => e = .returned (.tuple #[ikV ((wentP most L k).getD ik0), .bool (wentP most L k).isSome]) ∧
      ∃ F', iMo w' base m most (putP most L k v) h mi (if (wentP most L k).isSome then wrap64 (g + 1) else g) F' ∧ St w w' F F' := by
  obtain ⟨mb, z, N, ⟨q, hle⟩, rfl, rfl⟩ := q
  cases hat : iat N k with
  | none =>
    have h0 : outP (N.map ikv) k = N.map ikv := outP_none (fun x hx => by obtain ⟨n, hn, rfl⟩ := List.mem_map.1 hx; exact iat_not hat n hn)
    by_cases hl : N.length < most
    · have h1 : wentP most (N.map ikv) k = none := by unfold wentP; rw [h0, List.length_map, if_neg (by omega)]
      rw [h1]
      refine (iput_room q k hk hat hl v).mono ?_
      rintro e w' ⟨b, rfl, q', r, hb⟩
      refine ⟨rfl, _, ⟨mb, z, _, ⟨q', by simp; omega⟩, ?_, rfl⟩, r, fun x hx => ?_⟩
      · unfold putP
        rw [h0, List.take_of_length_le (by simp; omega)]
        rfl
      · simp only [ibs_cons, List.mem_cons] at hx ⊢
        rcases hx with h | h | h | h | h
        · simp [h]
        · simp [h]
        · simp [h]
        · exact Or.inr (by rw [h]; exact hb)
        · simp [h]
    · rcases List.eq_nil_or_concat N with rfl | ⟨A, o, hN⟩
      · have := q.one; simp at hl; omega
      rw [List.concat_eq_append] at hN
      subst hN
      have hlm : (A ++ [o]).length = most := by omega
      have h1 : wentP most ((A ++ [o]).map ikv) k = some o.k := by
        unfold wentP; rw [h0, List.length_map, if_pos (by omega), List.map_append, List.map_cons, List.map_nil, List.getLast?_concat]; rfl
      rw [h1]
      refine (iput_full A o q k hk hat hlm v).mono ?_
      rintro e w' ⟨b, rfl, q', r, hb⟩
      refine ⟨rfl, _, ⟨mb, z, _, ⟨q', by simp at hlm ⊢; omega⟩, ?_, rfl⟩, r, fun x hx => ?_⟩
      · unfold putP
        have : most = (A.map ikv).length + 1 := by simp at hlm ⊢; omega
        rw [h0, this, List.take_succ_cons, List.map_append, List.take_left, List.map_cons]
        rfl
      · simp only [ibs_cons, ibs_app, List.mem_cons, List.mem_append] at hx ⊢
        rcases hx with h | h | h | h | h
        · simp [h]
        · simp [h]
        · simp [h]
        · exact Or.inr (by rw [h]; exact hb)
        · simp [h]
  | some b =>
    obtain ⟨A, n, B, rfl, rfl, rfl⟩ := iat_split hat
    have nd := q.nodes
    have nA : ∀ x ∈ A.map ikv, x.1 ≠ n.k := fun x hx => by obtain ⟨y, hy, rfl⟩ := List.mem_map.1 hx; exact nd.2.1 y hy
    have nB : ∀ x ∈ B.map ikv, x.1 ≠ n.k := fun x hx => by obtain ⟨y, hy, rfl⟩ := List.mem_map.1 hx; exact nd.2.2 y hy
    have h0 : outP ((A ++ n :: B).map ikv) n.k = (A ++ B).map ikv := by
      rw [List.map_append, List.map_cons, show ikv n = (n.k, n.v) from rfl, outP_split nA nB, List.map_append]
    have hle' : (A ++ B).length + 1 ≤ most := by simp at hle ⊢; omega
    have h1 : wentP most ((A ++ n :: B).map ikv) n.k = none := by unfold wentP; rw [h0, List.length_map, if_neg (by omega)]
    rw [h1]
    refine (iput_hit A B n q v).mono ?_
    rintro e w' ⟨rfl, q', r⟩
    refine ⟨rfl, _, ⟨mb, z, _, ⟨q', by simp at hle' ⊢; omega⟩, ?_, rfl⟩, r, fun x hx => Or.inl ?_⟩
    · unfold putP
      rw [h0, List.take_of_length_le (by rw [List.length_cons, List.length_map]; exact hle')]
      rfl
    · simp only [ibs_cons, ibs_app, List.mem_cons, List.mem_append] at hx ⊢
      rcases hx with h | h | h | h | h | h <;> simp [h]

theorem inew_mo (w : World) (most : Nat) (h1 : 1 ≤ most) (h2 : most ≤ 4096) :
    Calls Try.prog 9 #[.int .i64 most] w fun e w' => ∃ m F, e = .returned (.tuple #[pt m, .int .i64 0]) ∧ iMo w' w.heap.size m most [] 0 0 0 F ∧ Below w.heap.size w w' := by
  refine (inew_ok w most h1 h2).mono ?_
  rintro e w' ⟨m, mb, z, rfl, q, r⟩
  exact ⟨m, _, rfl, ⟨mb, z, [], ⟨q, by simp⟩, rfl, rfl⟩, r⟩
end

end Go.Proofs.Ytnbbebapfiocpaa

/- A script of calls in memory; a slice of numbers. -/
namespace Go.Proofs.Ytnbbebapfiocpaa
open Go.RowKit

/-- v is a slice of these numbers -/
def Ints (w : World) (v : Value) (ks : List Int) : Prop :=
  ks.length ≤ 140737488355327 ∧ (∀ k ∈ ks, iKok k) ∧ ((∃ ao c, v = .slice ao 0 c ∧ ks = []) ∨ ∃ g o c, v = .slice (some ⟨g, o, none⟩) ks.length c ∧ g < w.heap.size ∧ ∀ j, j < ks.length → w.cell? ⟨g, o + j, none⟩ = some (.int .i64 (ks.getD j 0)))
theorem Ints.shape {w : World} {v : Value} {ks : List Int} (h : Ints w v ks) : ∃ ao c, v = .slice ao ks.length c := by
  rcases h.2.2 with ⟨ao, c, rfl, rfl⟩ | ⟨g, o, c, rfl, _⟩
  · exact ⟨_, _, rfl⟩
  · exact ⟨_, _, rfl⟩
theorem Ints.one {w : World} {v : Value} {ks : List Int} (h : Ints w v ks) : v.oneCell' = true := by obtain ⟨_, _, rfl⟩ := h.shape; rfl
theorem Ints.below {w w' : World} {v : Value} {ks : List Int} (h : Ints w v ks) (hb : Below w.heap.size w w') : Ints w' v ks := by
  refine ⟨h.1, h.2.1, ?_⟩
  rcases h.2.2 with h | ⟨g, o, c, hv, hlt, hc⟩
  · exact Or.inl h
  · exact Or.inr ⟨g, o, c, hv, Nat.lt_of_lt_of_le hlt hb.size, fun j hj => by rw [hb.cell (p := ⟨g, o + j, none⟩) hlt]; exact hc j hj⟩
theorem Ints.at {w : World} {ao : Option Addr} {n c : Nat} {ks : List Int} (h : Ints w (.slice ao n c) ks) (j : Nat) (hj : j < n) :
    ∃ g o, ao = some ⟨g, o, none⟩ ∧ iKok (ks.getD j 0) ∧ j < ks.length ∧ ∀ W, Below w.heap.size w W → W.cell? ⟨g, o + j, none⟩ = some (.int .i64 (ks.getD j 0)) := by
  rcases h.2.2 with ⟨ao, c, hv, rfl⟩ | ⟨g, o, c, hv, hlt, hc⟩
  · injection hv with _ h1 _; omega
  · injection hv with h1 h2 _
    have hj' : j < ks.length := by omega
    refine ⟨g, o, h1, h.2.1 _ ?_, hj', fun W hb => by rw [hb.cell (p := ⟨g, o + j, none⟩) hlt]; exact hc j hj'⟩
    rw [List.getD_eq_getElem?_getD, List.getElem?_eq_getElem hj']
    exact List.getElem_mem hj'

/-- v is a slice of n calls -/
def Acts (w : World) (v : Value) (n : Nat) : Prop :=
  (∃ ao c, v = .slice ao 0 c ∧ n = 0) ∨ ∃ g o c, v = .slice (some ⟨g, o, none⟩) n c ∧ g < w.heap.size ∧ n ≤ 140737488355327 ∧
    ∀ j, j < n → ∃ (d k x : Int) (vp : Value) (ks : List Int), w.rangeAt g (o + j * 4) [.int .i64 d, .int .i64 k, .int .i64 x, vp] ∧ Ints w vp ks ∧ iKok k ∧ iKok x
theorem Acts.shape {w : World} {v : Value} {n : Nat} (h : Acts w v n) : ∃ ao c, v = .slice ao n c := by
  rcases h with ⟨ao, c, rfl, rfl⟩ | ⟨g, o, c, rfl, _⟩
  · exact ⟨_, _, rfl⟩
  · exact ⟨_, _, rfl⟩
theorem Acts.len {w : World} {v : Value} {n : Nat} (h : Acts w v n) : n ≤ 140737488355327 := by
  rcases h with ⟨ao, c, _, rfl⟩ | ⟨g, o, c, _, _, h, _⟩
  · omega
  · exact h
theorem Acts.below {w w' : World} {v : Value} {n : Nat} (h : Acts w v n) (hb : Below w.heap.size w w') : Acts w' v n := by
  rcases h with h | ⟨g, o, c, hv, hlt, hn, hc⟩
  · exact Or.inl h
  · refine Or.inr ⟨g, o, c, hv, Nat.lt_of_lt_of_le hlt hb.size, hn, fun j hj => ?_⟩
    obtain ⟨d, k, x, vp, ks, h1, h2, h3⟩ := hc j hj
    exact ⟨d, k, x, vp, ks, fun i u hu => by rw [hb.cell (p := ⟨g, o + j * 4 + i, none⟩) hlt]; exact h1 i u hu, h2.below hb, h3⟩
theorem Acts.at {w : World} {ao : Option Addr} {n c : Nat} (h : Acts w (.slice ao n c) n) (j : Nat) (hj : j < n) :
    ∃ g o, ao = some ⟨g, o, none⟩ ∧ ∃ (d k x : Int) (vp : Value) (ks : List Int), (∀ W, Below w.heap.size w W → W.rangeAt g (o + j * 4) [.int .i64 d, .int .i64 k, .int .i64 x, vp]) ∧ (∀ W, Below w.heap.size w W → Ints W vp ks) ∧ iKok k ∧ iKok x ∧ ∀ u ∈ [Value.int .i64 d, .int .i64 k, .int .i64 x, vp], u.oneCell' = true := by
  rcases h with ⟨ao, c, _, rfl⟩ | ⟨g, o, c, hv, hlt, hn, hc⟩
  · omega
  · injection hv with h1 _ _
    obtain ⟨d, k, x, vp, ks, h2, h3, h4, h5⟩ := hc j hj
    refine ⟨g, o, h1, d, k, x, vp, ks, fun W hb i u hu => ?_, fun W hb => h3.below hb, h4, h5, fun u hu => ?_⟩
    · rw [hb.cell (p := ⟨g, o + j * 4 + i, none⟩) hlt]; exact h2 i u hu
    · simp only [List.mem_cons, List.not_mem_nil, or_false] at hu
      rcases hu with rfl | rfl | rfl | rfl
      · rfl
      · rfl
      · rfl
      · exact h3.one

theorem zero_of_info {P : Program} {t : TypeId} {v : Value} {n : Nat} (h : (P.info? t).map (fun i => (i.zero, i.size)) = some (some v, n)) :
    (∀ w, (zeroValue t).run P w = .ok v w) ∧ (P.info? t).map (·.size) = some n := by
  cases hi : P.info? t with
  | none => rw [hi] at h; cases h
  | some i =>
    rw [hi] at h
    simp only [Option.map_some, Option.some.injEq, Prod.mk.injEq] at h
    refine ⟨fun w => ?_, by simp [h.2]⟩
    simp [zeroValue, typeInfo, hi, h.1]

theorem row_cell {w : World} {b : Nat} {cs : List Value} {T : TypeId} (h : w.heap[b]? = some (.cells cs.toArray T (0, 0))) (i : Nat) (hi : i < cs.length) : w.cell? ⟨b, i, none⟩ = some cs[i] := by
  rw [cell_of_row w b i cs.toArray T (0, 0) h]
  simp [hi]

/-- which call -/
theorem kind3 (k : Int) : (wrap64 (k.tmod 3 + 3)).tmod 3 = 0 ∨ (wrap64 (k.tmod 3 + 3)).tmod 3 = 1 ∨ (wrap64 (k.tmod 3 + 3)).tmod 3 = 2 := by
  have h1 := Int.tmod_lt_of_pos k (show (0 : Int) < 3 by omega)
  have h2 := Int.lt_tmod_of_pos k (show (0 : Int) < 3 by omega)
  have e : wrap64 (k.tmod 3 + 3) = k.tmod 3 + 3 := by unfold wrap64; omega
  rw [e, Int.tmod_eq_emod_of_nonneg (by omega)]
  omega
theorem kind6 (k : Int) : (wrap64 (k.tmod 6 + 6)).tmod 6 = 0 ∨ (wrap64 (k.tmod 6 + 6)).tmod 6 = 1 ∨ (wrap64 (k.tmod 6 + 6)).tmod 6 = 2 ∨ (wrap64 (k.tmod 6 + 6)).tmod 6 = 3 ∨ (wrap64 (k.tmod 6 + 6)).tmod 6 = 4 ∨ (wrap64 (k.tmod 6 + 6)).tmod 6 = 5 := by
  have h1 := Int.tmod_lt_of_pos k (show (0 : Int) < 6 by omega)
  have h2 := Int.lt_tmod_of_pos k (show (0 : Int) < 6 by omega)
  have e : wrap64 (k.tmod 6 + 6) = k.tmod 6 + 6 := by unfold wrap64; omega
  rw [e, Int.tmod_eq_emod_of_nonneg (by omega)]
  omega

end Go.Proofs.Ytnbbebapfiocpaa

/- From what the rows say of the arguments to what the walks want: numbers, slices of numbers, calls. -/
namespace Go.Proofs.Ytnbbebapfiocpaa
open Go.ChangeShapes Go.WideShapes Go.ChangeAt Go.RowKit

theorem own : ownKnob Try.prog.godebug = none := by kernel_rfl
theorem laidOut : laidOutB Try.prog = true := by kernel_rfl
theorem wf_i64 {n : Int} (h : (Lit.int .i64 n).wf = true) : -9223372036854775808 ≤ n ∧ n ≤ 9223372036854775807 := by
  simpa [Lit.wf, IntKind.min, IntKind.max, IntKind.signed, IntKind.bits] using h
theorem addr_plain {w : World} {a : Addr} {v : Value} (h : w.cell? a = some v) : a = ⟨a.block, a.off, none⟩ := by
  obtain ⟨b, o, sp⟩ := a
  cases sp with
  | none => rfl
  | some s =>
    unfold World.cell? at h
    split at h <;> simp at h
theorem add_plain (b o j : Nat) : (⟨b, o, none⟩ : Addr).add j = ⟨b, o + j, none⟩ := by
  by_cases h : j = 0
  · subst h; simp [Addr.add]
  · simp [Addr.add, h]
theorem list_of {α : Type} {P : Nat → α → Prop} : ∀ {n : Nat}, (∀ i, i < n → ∃ x, P i x) → ∃ l : List α, l.length = n ∧ ∀ j x, l[j]? = some x → P j x
  | 0, _ => ⟨[], rfl, by intro j x h; simp at h⟩
  | n + 1, h => by
    obtain ⟨l, hl, hp⟩ := list_of (n := n) (fun i hi => h i (by omega))
    obtain ⟨x, hx⟩ := h n (by omega)
    refine ⟨l ++ [x], by simp [hl], fun j y hj => ?_⟩
    rcases Nat.lt_or_ge j n with hjn | hjn
    · rw [List.getElem?_append_left (by omega)] at hj
      exact hp j y hj
    · rw [List.getElem?_append_right (by omega)] at hj
      have : j - l.length = 0 := by
        rcases Nat.eq_zero_or_pos (j - l.length) with h0 | h0
        · exact h0
        · rw [List.getElem?_eq_none (by simp; omega)] at hj; cases hj
      rw [this] at hj
      simp at hj
      subst hj
      obtain rfl : j = n := by omega
      exact hx
theorem weightsAll_mem {H : Type} {P : Program} {e : TypeId} : ∀ {l : List (DataW H)} {d : DataW H}, d ∈ l → ∀ n ∈ d.weights P e, n ∈ DataW.weightsAll P e l
  | d' :: r, d, hd, n, hn => by
    simp only [DataW.weightsAll, List.mem_append]
    rcases List.mem_cons.1 hd with rfl | h
    · exact Or.inl hn
    · exact Or.inr (weightsAll_mem h n hn)

theorem cellsAct : Try.prog.cellsOf 37 = 4 := by kernel_rfl
theorem bytesAct : Try.prog.bytesOf 37 = 48 := by kernel_rfl
theorem cellsInt : Try.prog.cellsOf 3 = 1 := by kernel_rfl
theorem bytesInt : Try.prog.bytesOf 3 = 8 := by kernel_rfl
theorem cellsIs : Try.prog.cellsOf 35 = 1 := by kernel_rfl
theorem four_of {α : Type} {l : List α} (h : l.length = 4) : ∃ a b c d, l = [a, b, c, d] := by
  match l, h with
  | [a, b, c, d], _ => exact ⟨a, b, c, d, rfl⟩

section
variable {H : Type} {enc : TypeId × Value → H} {W : World} {spare : Nat → Bool} {held : Bool}
theorem sized_at {ts : List TypeId} {ds : List (DataW H)} (h : ((DataW.weightsEach Try.prog ts ds).all fun x => decide (x ≤ reachBytes)) = true) {j : Nat} {t : TypeId} {d : DataW H} (ht : ts[j]? = some t) (hd : ds[j]? = some d) : ∀ x ∈ d.weights Try.prog t, x ≤ reachBytes :=
  fun x hx => of_decide_eq_true (List.all_eq_true.1 h _ (DataW.weights_mem_each ht hd x hx))

theorem ints_w {ao : Option Addr} {n c : Nat} {d : DataW H} {pl : List MemPlace} (h : DataW.Trod enc Try.prog W 0 spare held 35 (.slice ao n c) d pl) (hk : ∀ x ∈ d.weights Try.prog 35, x ≤ reachBytes) :
    ∃ ks : List Int, Ints W (.slice ao n c) ks ∧ ks.length = n := by
  have hr : reachBytes < 2 ^ 47 := reachBytes_lt
  obtain ⟨fuel, hf⟩ := h
  rcases open_ints Try.underlying35 Try.underlying3 cellsInt hf with ⟨hcs, _⟩ | ⟨a, len, cap, zs, hcs, _, hl, hm, hz, hx, hcell, hwz⟩
  · simp [Value.cells] at hcs
    obtain ⟨rfl, rfl, rfl⟩ := hcs
    exact ⟨[], ⟨by simp, by simp, Or.inl ⟨_, _, rfl, rfl⟩⟩, rfl⟩
  · simp [Value.cells] at hcs
    obtain ⟨rfl, rfl, rfl⟩ := hcs
    have hlz : n ≤ zs.length := by rw [hz]; split <;> omega
    simp only [Prod.mk.injEq] at hx
    have hn : n ≤ 140737488355327 := by
      obtain ⟨hd, _⟩ := hx
      subst hd
      have := hk (((lits (H := H) .i64 (zs.take n)).length + (lits (H := H) .i64 (zs.drop n)).length) * Try.prog.bytesOf 3) (by simp [DataW.weights, Try.underlying35])
      rw [bytesInt] at this
      simp [lits] at this
      omega
    rcases Nat.eq_zero_or_pos n with rfl | hpos
    · exact ⟨[], ⟨by simp, by simp, Or.inl ⟨_, _, rfl, rfl⟩⟩, rfl⟩
    · have h0 := hcell 0 (by omega)
      have ha : a = ⟨a.block, a.off, none⟩ := addr_plain (v := .int .i64 (zs.getD 0 0)) (by simpa [Addr.add] using h0)
      have hlt : a.block < W.heap.size := World.block_lt_of_cell? W a (u := .int .i64 (zs.getD 0 0)) (by simpa [Addr.add] using h0)
      generalize a.block = g at ha hlt
      generalize a.off = o at ha
      subst ha
      refine ⟨zs.take n, ⟨by simp; omega, fun k hk => hwz k (List.mem_of_mem_take hk), Or.inr ⟨g, o, c, by simp; omega, hlt, fun j hj => ?_⟩⟩, by simp; omega⟩
      have hj' : j < n ∧ j < zs.length := by simp at hj; omega
      have := hcell j hj'.2
      rw [add_plain] at this
      rw [this]
      simp [List.getD_eq_getElem?_getD, hj'.1]

set_option maxRecDepth 100000 in
theorem act_w {fuel : Nat} {cs : List Value} {x : DataW H × List MemPlace} (h : DataW.trod enc Try.prog W 0 spare held fuel 37 cs = some x) (hk : ∀ n ∈ x.1.weights Try.prog 37, n ≤ reachBytes) :
    ∃ (d k v : Int) (vp : Value) (ks : List Int), cs = [.int .i64 d, .int .i64 k, .int .i64 v, vp] ∧ Ints W vp ks ∧ iKok k ∧ iKok v := by
  obtain ⟨⟨d0, q0⟩, ⟨d1, q1⟩, ⟨d2, q2⟩, ⟨d3, q3⟩, m, hxx, hlen, t0, t1, t2, t3⟩ := Go.Joins.trod_struct4 Try.underlying37 h
  subst hxx
  rw [cellsAct] at hlen
  obtain ⟨x0, x1, x2, x3, rfl⟩ := four_of hlen
  obtain ⟨K, e0, _⟩ := DataW.trod_int Try.underlying3 t0
  simp [cellsInt] at e0
  obtain ⟨A, e1, _, wA⟩ := DataW.trod_int Try.underlying3 t1
  simp [cellsInt] at e1
  obtain ⟨B, e2, _, wB⟩ := DataW.trod_int Try.underlying3 t2
  simp [cellsInt] at e2
  subst e0 e1 e2
  obtain ⟨ai, ki, ci, hV⟩ : ∃ ai ni ci, x3 = .slice ai ni ci := by
    rcases DataW.trod_slice Try.underlying35 t3 with ⟨hc1, _⟩ | ⟨a', len', cap', _, _, _, _, hc1, _⟩
    · simp [cellsIs] at hc1; exact ⟨_, _, _, hc1⟩
    · simp [cellsIs] at hc1; exact ⟨_, _, _, hc1⟩
  subst hV
  obtain ⟨ks, h1, h2⟩ := ints_w (W := W) (pl := q3) (d := d3) (ao := ai) (n := ki) (c := ci) ⟨m, by simpa [Value.cells, cellsInt, cellsIs] using t3⟩ (fun n hn => hk n (by
    simp only [DataW.weights, Try.underlying37]
    exact DataW.weights_mem_each (P := Try.prog) (ts := [3, 3, 3, 35]) (ds := [d0, d1, d2, d3]) (j := 3) rfl rfl n hn))
  exact ⟨K, A, B, _, ks, rfl, h1, wA, wB⟩

set_option maxRecDepth 100000 in
theorem acts_w {ao : Option Addr} {n c : Nat} {d : DataW H} {pl : List MemPlace} (h : DataW.Trod enc Try.prog W 0 spare held 22 (.slice ao n c) d pl) (hk : ∀ x ∈ d.weights Try.prog 22, x ≤ reachBytes) :
    Acts W (.slice ao n c) n := by
  have hr : reachBytes < 2 ^ 47 := reachBytes_lt
  obtain ⟨fuel, hf⟩ := h
  rcases Go.Deep.open_slice Try.underlying22 hf with ⟨hcs, _⟩ | ⟨a, len, cap, m, n', D, Pl, hcs, _, hl, hm, hmm, hx, hel⟩
  · simp [Value.cells] at hcs
    obtain ⟨rfl, rfl, rfl⟩ := hcs
    exact Or.inl ⟨_, _, rfl, rfl⟩
  · simp [Value.cells] at hcs
    obtain ⟨rfl, rfl, rfl⟩ := hcs
    have hlm : n ≤ m := by rw [hmm]; split <;> omega
    rw [cellsAct] at hel
    simp only [Prod.mk.injEq] at hx
    obtain ⟨rfl, _⟩ := hx
    have hn : n ≤ 140737488355327 := by
      have := hk (((List.range n).map D).length * Try.prog.bytesOf 37 + ((List.range (m - n)).map fun j => D (n + j)).length * Try.prog.bytesOf 37) (by simp [DataW.weights, Try.underlying22, Nat.add_mul])
      rw [bytesAct] at this
      simp at this
      omega
    have hw : ∀ i, i < n → ∀ x ∈ (D i).weights Try.prog 37, x ≤ reachBytes := fun i hi x hxm => hk x (by
      simp only [DataW.weights, Try.underlying22, List.mem_cons, List.mem_append]
      exact Or.inr (Or.inl (weightsAll_mem (List.mem_map.2 ⟨i, List.mem_range.2 hi, rfl⟩) x hxm)))
    have hone : ∀ i, i < n → ∃ (d k x : Int) (vp : Value) (ks : List Int), W.cell? (a.add (i * 4)) = some (.int .i64 d) ∧ W.cell? ((a.add (i * 4)).add 1) = some (.int .i64 k) ∧ W.cell? ((a.add (i * 4)).add 2) = some (.int .i64 x) ∧ W.cell? ((a.add (i * 4)).add 3) = some vp ∧ Ints W vp ks ∧ iKok k ∧ iKok x := by
      intro i hi
      obtain ⟨cs', hc, ht⟩ := hel i (by omega)
      obtain ⟨d, k, x, vp, ks, rfl, h2⟩ := act_w ht (hw i hi)
      have hh := World.cells?_some hc
      exact ⟨d, k, x, vp, ks, by simpa [Addr.add] using hh.2.2 0 (by omega), by simpa using hh.2.2 1 (by omega), by simpa using hh.2.2 2 (by omega), by simpa using hh.2.2 3 (by omega), h2⟩
    rcases Nat.eq_zero_or_pos n with rfl | hpos
    · exact Or.inl ⟨_, _, rfl, rfl⟩
    · obtain ⟨x, _, _, _, _, h0, _⟩ := hone 0 hpos
      have ha : a = ⟨a.block, a.off, none⟩ := addr_plain (v := .int .i64 x) (by simpa [Addr.add] using h0)
      have hlt : a.block < W.heap.size := World.block_lt_of_cell? W a (u := .int .i64 x) (by simpa [Addr.add] using h0)
      generalize a.block = g at ha hlt
      generalize a.off = o at ha
      subst ha
      refine Or.inr ⟨g, o, c, rfl, hlt, hn, fun j hj => ?_⟩
      obtain ⟨d, k, x, vp, ks, h0, h1, h2, h3, h4, h5, h6⟩ := hone j hj
      simp only [add_plain] at h0 h1 h2 h3
      refine ⟨d, k, x, vp, ks, fun i v hv => ?_, h4, h5, h6⟩
      match i, hv with
      | 0, hv => simp only [List.getElem?_cons_zero, Option.some.injEq] at hv; subst hv; exact h0
      | 1, hv => simp only [List.getElem?_cons_succ, List.getElem?_cons_zero, Option.some.injEq] at hv; subst hv; exact h1
      | 2, hv => simp only [List.getElem?_cons_succ, List.getElem?_cons_zero, Option.some.injEq] at hv; subst hv; exact h2
      | 3, hv => simp only [List.getElem?_cons_succ, List.getElem?_cons_zero, Option.some.injEq] at hv; subst hv; exact h3
      | i + 4, hv => simp at hv
end

end Go.Proofs.Ytnbbebapfiocpaa

/- A struct of six, out of its reading. -/
namespace Go.Proofs.Ytnbbebapfiocpaa
open Go.ChangeShapes Go.WideShapes Go.ChangeAt Go.RowKit

theorem array6 {α : Type} {cs : Array α} (h : cs.size = 6) : ∃ c0 c1 c2 c3 c4 c5, cs = #[c0, c1, c2, c3, c4, c5] := by
  obtain ⟨l⟩ := cs
  match l, h with
  | [c0, c1, c2, c3, c4, c5], _ => exact ⟨c0, c1, c2, c3, c4, c5, rfl⟩

section
variable {H : Type} {enc : TypeId × Value → H} {P : Program} {w : World} {base : Nat} {spare : Nat → Bool} {held : Bool}
theorem open_agg6 {r : Reach} {b0 : Nat} {t : TypeId} {f0 f1 f2 f3 f4 f5 : Field} {v : Value} {d : DataW H} {p : List MemPlace} (hs : P.underlying t = some (.struct #[f0, f1, f2, f3, f4, f5])) (hone : Go.Deep.oneCellFields P #[f0, f1, f2, f3, f4, f5] = true) (hC : P.cellsOf t = 6)
    (hv : Value.okWide P w r b0 t v) (h : DataW.Trod enc P w base spare held t v d p) :
    ∃ (v0 v1 v2 v3 v4 v5 : Value) (y0 y1 y2 y3 y4 y5 : DataW H × List MemPlace) (n : Nat), v = .agg #[v0, v1, v2, v3, v4, v5] ∧ d = .agg [y0.1, y1.1, y2.1, y3.1, y4.1, y5.1] ∧
      DataW.trod enc P w base spare held n f0.type [v0] = some y0 ∧ DataW.trod enc P w base spare held n f1.type [v1] = some y1 ∧ DataW.trod enc P w base spare held n f2.type [v2] = some y2 ∧ DataW.trod enc P w base spare held n f3.type [v3] = some y3 ∧ DataW.trod enc P w base spare held n f4.type [v4] = some y4 ∧ DataW.trod enc P w base spare held n f5.type [v5] = some y5 := by
  obtain ⟨cs, rfl, hsz⟩ := okWide_struct hs hv
  obtain ⟨c0, c1, c2, c3, c4, c5, rfl⟩ := array6 (hsz.trans hC)
  obtain ⟨fuel, hf⟩ := h
  obtain ⟨xs, n, _, hx, hl, hlen, hff⟩ := DataW.trod_struct hs hf
  obtain ⟨o0, k0⟩ := Go.Deep.hone_of hone 0 f0 rfl
  obtain ⟨o1, k1⟩ := Go.Deep.hone_of hone 1 f1 rfl
  obtain ⟨o2, k2⟩ := Go.Deep.hone_of hone 2 f2 rfl
  obtain ⟨o3, k3⟩ := Go.Deep.hone_of hone 3 f3 rfl
  obtain ⟨o4, k4⟩ := Go.Deep.hone_of hone 4 f4 rfl
  obtain ⟨o5, k5⟩ := Go.Deep.hone_of hone 5 f5 rfl
  match xs, hlen with
  | [y0, y1, y2, y3, y4, y5], _ =>
    have h0 := hff 0 f0 rfl
    have h1 := hff 1 f1 rfl
    have h2 := hff 2 f2 rfl
    have h3 := hff 3 f3 rfl
    have h4 := hff 4 f4 rfl
    have h5 := hff 5 f5 rfl
    simp only [Prod.mk.injEq] at hx
    exact ⟨c0, c1, c2, c3, c4, c5, y0, y1, y2, y3, y4, y5, n, rfl, by simpa using hx.1, by simpa [Value.cells, o0, k0] using h0, by simpa [Value.cells, o1, k1] using h1, by simpa [Value.cells, o2, k2] using h2, by simpa [Value.cells, o3, k3] using h3, by simpa [Value.cells, o4, k4] using h4, by simpa [Value.cells, o5, k5] using h5⟩
end

end Go.Proofs.Ytnbbebapfiocpaa

/- A slice of numbers of one's own, beside a memo. -/
namespace Go.Proofs.Ytnbbebapfiocpaa
open Go.RowKit

theorem Try.infoInt : (Try.prog.info? 3).map (fun i => (i.zero, i.size, i.bytes)) = some (some (.int .i64 0), 1, 8) := by kernel_rfl

def OwnI (w : World) (base : Nat) (v : Value) (xs : List Int) : Prop := w.ownsRow base 3 1 v xs.length (xs.map fun x => Value.int .i64 x)
theorem OwnI.nil (w : World) (base : Nat) : OwnI w base (.slice none 0 0) [] := World.ownsRow_nil _ _ _ _
theorem OwnI.shape {w : World} {base : Nat} {v : Value} {xs : List Int} (h : OwnI w base v xs) : ∃ a cap, v = .slice a xs.length cap := by
  rcases h.2 with ⟨rfl, h0⟩ | ⟨g, cap, cur, rfl, _⟩
  · exact ⟨none, 0, by rw [h0]⟩
  · exact ⟨_, _, rfl⟩
theorem OwnI.fr {w w' : World} {base : Nat} {v : Value} {xs : List Int} {F : List Nat} (h : OwnI w base v xs) (g : Fr w w' F) (hF : ∀ k, v.ownBlock = some k → k ∉ F) : OwnI w' base v xs := by
  refine ⟨h.1, ?_⟩
  rcases h.2 with h0 | ⟨b, cap, cur, rfl, h1, h2, r⟩
  · exact Or.inl h0
  · exact Or.inr ⟨b, cap, cur, rfl, h1, g.blk h2 (hF b rfl), r⟩
theorem OwnI.below {w w' : World} {base : Nat} {v : Value} {xs : List Int} (h : OwnI w base v xs) (g : Below w.heap.size w w') : OwnI w' base v xs := h.fr (Fr.of_below g []) (by simp)
theorem OwnI.typ {w : World} {base : Nat} {v : Value} {xs : List Int} (h : OwnI w base v xs) {k : Nat} (hk : v.ownBlock = some k) : ∃ cur, w.heap[k]? = some (.cells cur 3 (0, 0)) ∧ base ≤ k := by
  rcases h.2 with ⟨rfl, _⟩ | ⟨b, cap, cur, rfl, h1, h2, r⟩
  · cases hk
  · cases hk; exact ⟨cur, h2, h1⟩
theorem OwnI.at {w : World} {base n c : Nat} {ao : Option Addr} {xs : List Int} (h : OwnI w base (.slice ao n c) xs) (j : Nat) (hj : j < n) : ∃ g, ao = some ⟨g, 0, none⟩ ∧ j < xs.length ∧ w.cell? ⟨g, j, none⟩ = some (.int .i64 (xs.getD j 0)) := by
  have hh := h
  rcases h.2 with ⟨e, h0⟩ | ⟨b, cap, cur, e, h1, h2, r⟩
  · injection e with _ e2 _; omega
  · injection e with e1 e2 e3
    have hj' : j < xs.length := by omega
    refine ⟨b, e1, hj', ?_⟩
    subst e1
    have := World.ownsRow.cells hh (g := b) rfl j (.int .i64 (xs.getD j 0)) (by simp [List.getElem?_eq_getElem hj', List.getD_eq_getElem?_getD])
    by_cases h0 : j = 0
    · subst h0; simpa [Addr.add] using this
    · simpa [Addr.add, h0] using this

/-- a memo's blocks are of two types -/
theorem iMo.typ {w : World} {base m most : Nat} {L : List (Int × Int)} {h mi g : Int} {F : List Nat} (q : iMo w base m most L h mi g F) {k : Nat} {cs : Array Value} {T : TypeId} {fz : Nat × Nat} (hk : w.heap[k]? = some (.cells cs T fz)) (n1 : T ≠ 73) (n2 : T ≠ 76) : k ∉ F := by
  obtain ⟨mb, z, N, ⟨q, _⟩, _, rfl⟩ := q
  intro hx
  rcases List.mem_cons.1 hx with rfl | hx
  · rw [q.blk] at hk; injection hk with hk; injection hk with _ e _; exact n1 e.symm
  · rcases List.mem_cons.1 hx with rfl | hx
    · exact q.map.notRow hk rfl
    · obtain ⟨a, b, p, r, e⟩ := q.ring.en k hx
      rw [e] at hk; injection hk with hk; injection hk with _ e _; exact n2 e.symm
theorem iMo.own {w : World} {base base' m most : Nat} {L : List (Int × Int)} {h mi g : Int} {F : List Nat} {v : Value} {xs : List Int} (q : iMo w base m most L h mi g F) (o : OwnI w base' v xs) : ∀ k, v.ownBlock = some k → k ∉ F := fun k hk => by
  obtain ⟨cur, h1, _⟩ := o.typ hk
  exact q.typ h1 (by decide) (by decide)

/-- the blocks of a slice -/
def ownL (v : Value) : List Nat := match v.ownBlock with | some q => [q] | none => []
theorem fr_own {w w' : World} {v : Value} (h : w.grownBy w' v.ownBlock) : Fr w w' (ownL v) :=
  ⟨h.os, h.tape, h.output, h.size, fun k hk hn => h.block k hk (fun e => hn (by unfold ownL; rw [← e]; simp))⟩
theorem own_far {v : Value} {F : List Nat} (h : ∀ k, v.ownBlock = some k → k ∉ F) : ∀ x ∈ F, x ∉ ownL v := fun x hx e => by
  unfold ownL at e
  cases hv : v.ownBlock with
  | none => rw [hv] at e; cases e
  | some q => rw [hv] at e; simp at e; exact h q hv (e ▸ hx)
theorem own_low {w : World} {base : Nat} {v : Value} {xs : List Int} (h : OwnI w base v xs) : ∀ x ∈ ownL v, base ≤ x := fun x hx => by
  unfold ownL at hx
  cases hv : v.ownBlock with
  | none => rw [hv] at hx; cases hx
  | some q => rw [hv] at hx; simp at hx; obtain ⟨_, _, h2⟩ := h.typ hv; omega

/-- append of one number -/
theorem app_one {w : World} {ops : Array Oper} {rest : List Oper} {o : Oper} {a : Act} {Q : Exit → Act → World → Prop} (hgd : o.guard = none) (s x : Operand)
    (ho : o.op = .call { callee := .builtin .append, args := #[s, x], argTypes := #[35, 35] })
    (base : Nat) (v : Value) (xs : List Int) (hs : a.eval s = v) (hown : OwnI w base v xs) (b : Nat) (y : Int) (hx : a.eval x = .slice (some ⟨b, 0, none⟩) 1 1) (hb : w.cell? ⟨b, 0, none⟩ = some (.int .i64 y))
    (hlen : xs.length ≤ 1000000000000) (hbase : base ≤ w.heap.size)
    (h : ∀ v' w', OwnI w' base v' (xs ++ [y]) → w.grownBy w' v.ownBlock → wpList Try.prog ops Q rest (a.put o.dst v') w') : wpList Try.prog ops Q (o :: rest) a w := by
  obtain ⟨i0, hi, hz0, hz1, hz2⟩ := info_parts Try.infoInt
  refine wpList_append_own w hgd s x 35 ho base 3 i0 (.int .i64 0) 1 8 Try.underlying35 hi hz0 hz1 hz2 rfl (by decide) v xs.length _ hs hown ⟨b, 0, none⟩ 1 1 [.int .i64 y] hx rfl ?_ ?_ (by unfold maxLen; omega) (by omega) hbase ?_
  · intro j u hu
    cases j with
    | zero => simp at hu; subst hu; simpa [Addr.add] using hb
    | succ j => simp at hu
  · intro u hu; simp at hu; subst hu; rfl
  · intro v' w' h1 h2 _
    exact h v' w' (by unfold OwnI; simpa using h1) h2

end Go.Proofs.Ytnbbebapfiocpaa

/- A memo with more room has whatever one with less room has. -/
namespace Go.Proofs.Ytnbbebapfiocpaa

section
variable {κ : Type} [DecidableEq κ]

theorem lookP_mem {L : List (κ × Int)} (hd : (L.map (·.1)).Nodup) {k : κ} {v : Int} : lookP L k = some v ↔ (k, v) ∈ L := by
  induction L with
  | nil => simp [lookP, findP]
  | cons x r ih =>
    simp only [List.map_cons, List.nodup_cons] at hd
    unfold lookP findP at ih ⊢
    by_cases hx : x.1 = k
    · rw [List.find?_cons_of_pos (by simpa using hx)]
      simp only [Option.map_some, Option.some.injEq, List.mem_cons]
      constructor
      · intro h; left; rw [← h, ← hx]
      · rintro (h | h)
        · rw [← h]
        · exact absurd (List.mem_map.2 ⟨_, h, rfl⟩) (hx ▸ hd.1)
    · rw [List.find?_cons_of_neg (by simpa using hx), ih hd.2]
      simp only [List.mem_cons]
      constructor
      · exact Or.inr
      · rintro (h | h)
        · exact absurd (by rw [← h]) hx
        · exact h
theorem findP_look {L : List (κ × Int)} {k : κ} {v : Int} (h : lookP L k = some v) : findP L k = some (k, v) := by
  unfold lookP at h
  cases hf : findP L k with
  | none => rw [hf] at h; cases h
  | some x =>
    rw [hf] at h
    simp only [Option.map_some, Option.some.injEq] at h
    have := List.find?_some hf
    simp only [decide_eq_true_eq] at this
    rw [← h, ← this]
theorem findP_not {L : List (κ × Int)} {k : κ} (h : lookP L k = none) : findP L k = none := by
  unfold lookP at h
  exact Option.map_eq_none_iff.1 h
theorem lookP_none {L : List (κ × Int)} {k : κ} : lookP L k = none ↔ ∀ x ∈ L, x.1 ≠ k := by
  constructor
  · intro h x hx
    have := List.find?_eq_none.1 (findP_not h) x hx
    simpa using this
  · intro h
    unfold lookP
    rw [findP_none h]
    rfl
theorem outP_keys {L : List (κ × Int)} {k : κ} : ∀ x ∈ outP L k, x.1 ≠ k := fun x hx => by
  have := (List.mem_filter.1 hx).2
  simpa using this
theorem outP_sub (L : List (κ × Int)) (k : κ) : (outP L k).Sublist L := List.filter_sublist
theorem outP_length {L : List (κ × Int)} (hd : (L.map (·.1)).Nodup) (k : κ) : (outP L k).length + (if (lookP L k).isSome then 1 else 0) = L.length := by
  induction L with
  | nil => simp [outP, lookP, findP]
  | cons x r ih =>
    simp only [List.map_cons, List.nodup_cons] at hd
    have := ih hd.2
    unfold outP lookP findP at this ⊢
    by_cases hx : x.1 = k
    · have h0 : lookP r k = none := lookP_none.2 (fun y hy e => hd.1 (List.mem_map.2 ⟨y, hy, e.trans hx.symm⟩))
      unfold lookP findP at h0
      rw [h0] at this
      rw [List.filter_cons_of_neg (by simpa using hx), List.find?_cons_of_pos (by simpa using hx)]
      simp at this ⊢
      exact this
    · rw [List.filter_cons_of_pos (by simpa using hx), List.find?_cons_of_neg (by simpa using hx)]
      simp only [List.length_cons]
      omega

/-- what the two hold of one another -/
structure Inc (m n : Nat) (A B : List (κ × Int)) : Prop where
  sub : A.Sublist B
  eq : A.length < m → A = B
  mn : m ≤ n
  one : 1 ≤ m
  la : A.length ≤ m
  lb : B.length ≤ n
  kd : (B.map (·.1)).Nodup

variable {m n : Nat} {A B : List (κ × Int)}
theorem Inc.ka {κ : Type} {m n : Nat} {A B : List (κ × Int)} (h : Inc m n A B) : (A.map (·.1)).Nodup := h.kd.sublist (h.sub.map _)
theorem Inc.look (h : Inc m n A B) {k : κ} {v : Int} (hl : lookP A k = some v) : lookP B k = some v :=
  (lookP_mem h.kd).2 (h.sub.subset ((lookP_mem h.ka).1 hl))
theorem out_kd {L : List (κ × Int)} (hd : (L.map (·.1)).Nodup) (k : κ) (v : Int) : (((k, v) :: outP L k).map (·.1)).Nodup := by
  simp only [List.map_cons, List.nodup_cons]
  refine ⟨fun h => ?_, hd.sublist ((outP_sub L k).map _)⟩
  obtain ⟨x, hx, e⟩ := List.mem_map.1 h
  exact outP_keys x hx e
theorem Inc.get (h : Inc m n A B) (k : κ) : Inc m n (getP A k) (getP B k) := by
  cases ha : lookP A k with
  | some v =>
    have hb := h.look ha
    have ea : getP A k = (k, v) :: outP A k := by unfold getP; rw [findP_look ha]
    have eb : getP B k = (k, v) :: outP B k := by unfold getP; rw [findP_look hb]
    have la := outP_length h.ka k
    have lb := outP_length h.kd k
    rw [ha] at la
    rw [hb] at lb
    simp at la lb
    rw [ea, eb]
    refine ⟨(h.sub.filter _).cons_cons _, fun hl => ?_, h.mn, h.one, by simp; have := h.la; omega, by simp; have := h.lb; omega, out_kd h.kd k v⟩
    rw [h.eq (by simp at hl; omega)]
  | none =>
    have ea : getP A k = A := by unfold getP; rw [findP_not ha]
    rw [ea]
    cases hb : lookP B k with
    | none =>
      have eb : getP B k = B := by unfold getP; rw [findP_not hb]
      rw [eb]; exact h
    | some v =>
      have eb : getP B k = (k, v) :: outP B k := by unfold getP; rw [findP_look hb]
      have lb := outP_length h.kd k
      rw [hb] at lb
      simp at lb
      rw [eb]
      have hAo : outP A k = A := outP_none (lookP_none.1 ha)
      refine ⟨?_, fun hl => ?_, h.mn, h.one, h.la, by simp; have := h.lb; omega, out_kd h.kd k v⟩
      · rw [← hAo]; exact (h.sub.filter _).cons _
      · have := h.eq hl
        rw [this, hb] at ha
        cases ha
theorem Inc.put (h : Inc m n A B) (k : κ) (v : Int) : Inc m n (putP m A k v) (putP n B k v) := by
  have ha := h.la
  have hb := h.lb
  have hmn := h.mn
  have la := outP_length h.ka k
  have lb := outP_length h.kd k
  have hsub : (outP A k).Sublist (outP B k) := h.sub.filter _
  unfold putP
  obtain ⟨m', rfl⟩ : ∃ m', m = m' + 1 := ⟨m - 1, by have := h.one; omega⟩
  obtain ⟨n', rfl⟩ : ∃ n', n = n' + 1 := ⟨n - 1, by omega⟩
  rw [List.take_succ_cons, List.take_succ_cons]
  have hkd : (((k, v) :: (outP B k).take n').map (·.1)).Nodup := (out_kd h.kd k v).sublist (((List.take_sublist _ _).cons_cons _).map _)
  refine ⟨List.Sublist.cons_cons _ ?_, fun hl => ?_, hmn, by omega, by simp; omega, by simp; omega, hkd⟩
  · by_cases hB : (outP B k).length ≤ n'
    · rw [List.take_of_length_le hB]
      exact (List.take_sublist _ _).trans hsub
    · have hkB : lookP B k = none := by
        cases hq : lookP B k with
        | none => rfl
        | some x => rw [hq] at lb; simp at lb; omega
      have hBo : outP B k = B := outP_none (lookP_none.1 hkB)
      have hkA : lookP A k = none := by
        cases hq : lookP A k with
        | none => rfl
        | some x => rw [h.look hq] at hkB; cases hkB
      have hAo : outP A k = A := outP_none (lookP_none.1 hkA)
      rw [hBo] at hB ⊢
      rw [hAo]
      have hBl : B.length = n' + 1 := by omega
      have hAl : A.length = m' + 1 := by
        rcases Nat.lt_or_ge A.length (m' + 1) with h1 | h1
        · have := h.eq h1; rw [this] at h1; omega
        · omega
      rcases List.eq_nil_or_concat A with rfl | ⟨A', a, hA⟩
      · simp at hAl
      rw [List.concat_eq_append] at hA
      rcases List.eq_nil_or_concat B with rfl | ⟨B', b, hB'⟩
      · simp at hBl
      rw [List.concat_eq_append] at hB'
      have hs := h.sub
      subst hA hB'
      have e1 : A'.length = m' := by simp at hAl; exact hAl
      have e2 : B'.length = n' := by simp at hBl; exact hBl
      rw [← e1, ← e2, List.take_left, List.take_left]
      rcases List.sublist_append_iff.1 hs with ⟨X, Y, hXY, hX, hY⟩
      rcases Y with _ | ⟨y, Y⟩
      · rw [List.append_nil] at hXY
        exact (hXY ▸ List.sublist_append_left A' [a]).trans hX
      · have : Y = [] := by have := hY.length_le; simp at this; exact this
        subst this
        have h2 := List.append_inj_left' hXY rfl
        rw [h2]; exact hX
  · simp only [List.length_cons, List.length_take] at hl
    have hAm : (outP A k).length < m' := by omega
    have hAe : A = B := h.eq (by
      have := la
      split at this <;> omega)
    subst hAe
    rw [List.take_of_length_le (by omega), List.take_of_length_le (by omega)]

end

end Go.Proofs.Ytnbbebapfiocpaa

/- Keys that go; how many. -/
namespace Go.Proofs.Ytnbbebapfiocpaa

def dropP (L : List (Int × Int)) (ks : List Int) : List (Int × Int) := ks.foldl outP L
theorem dropP_nil (L : List (Int × Int)) : dropP L [] = L := rfl
theorem dropP_snoc (L : List (Int × Int)) (ks : List Int) (k : Int) : dropP L (ks ++ [k]) = outP (dropP L ks) k := by simp [dropP]
theorem dropP_step (L : List (Int × Int)) (ks : List Int) (j : Nat) (hj : j < ks.length) : dropP L (ks.take (j + 1)) = outP (dropP L (ks.take j)) (ks.getD j 0) := by
  rw [List.take_add_one, List.getElem?_eq_getElem hj, List.getD_eq_getElem?_getD, List.getElem?_eq_getElem hj]
  exact dropP_snoc _ _ _
theorem dropP_sub (ks : List Int) : ∀ (L : List (Int × Int)), (dropP L ks).Sublist L := by
  induction ks with
  | nil => exact fun L => List.Sublist.refl _
  | cons k ks ih => exact fun L => (ih (outP L k)).trans (outP_sub L k)
theorem dropP_len (L : List (Int × Int)) (ks : List Int) : (dropP L ks).length ≤ L.length := (dropP_sub ks L).length_le

end Go.Proofs.Ytnbbebapfiocpaa

/- Drop, Resize, Most, Uses. -/
namespace Go.Proofs.Ytnbbebapfiocpaa
open Go.RowKit

section
variable {P : Program}
/-- the world behind a whole row's store -/
structure RowSet (w w' : World) (g : Nat) (cs : List Value) (t : TypeId) : Prop where
  blk : w'.heap[g]? = some (.cells cs.toArray t (0, 0))
  grown : w.grownBy w' (some g)
  size : w'.heap.size = w.heap.size

theorem rowSet (w : World) (g : Nat) (cs : List Value) (t : TypeId) (old : Array Value) (hg : w.heap[g]? = some (.cells old t (0, 0))) : RowSet w (w.setRow g cs.toArray) g cs t := by
  refine ⟨?_, ⟨rfl, rfl, rfl, ?_, ?_⟩, ?_⟩
  · simp [World.setRow, Array.getElem?_modify, hg]
  · simp [World.setRow]
  · intro i hi hne
    have : g ≠ i := fun e => hne (by rw [e])
    simp [World.setRow, Array.getElem?_modify, this]
  · simp [World.setRow]

/-- a whole row is written -/
theorem st_row {w : World} {ops : Array Oper} {rest : List Oper} {o : Oper} {a : Act} {Q : Exit → Act → World → Prop} (hgd : o.guard = none) (ty : TypeId) (x y : Operand) (ho : o.op = .store ty x y)
    (g : Nat) (cs : List Value) (hx : a.eval x = .pointer (some ⟨g, 0, none⟩)) (hy : a.eval y = .agg cs.toArray)
    (t : TypeId) (old : Array Value) (hg : w.heap[g]? = some (.cells old t (0, 0))) (hi : (P.info? ty).map (·.size) = some cs.length)
    (hold : old.size = cs.length) (h1 : ∀ v ∈ cs, v.oneCell' = true)
    (h : ∀ w', RowSet w w' g cs t → wpList P ops Q rest (a.put o.dst undef) w') : wpList P ops Q (o :: rest) a w :=
  wpList_store_row hgd ty x y ho g cs.toArray hx hy t old hg (by simpa using hi) (by simpa using hold) (all_oneCell_toArray h1) (h _ (rowSet w g cs t old hg))

end

section
variable {w : World} {base m most : Nat} {L : List (Int × Int)} {h mi g : Int} {F : List Nat}

set_option maxHeartbeats 400000 in
theorem imost_mo (q : iMo w base m most L h mi g F) :
    Calls Try.prog 38 #[pt m] w fun e w' => e = .returned (.int .i64 most) ∧ w' = w := by
  obtain ⟨mb, z, N, ⟨q, _⟩, rfl, rfl⟩ := q
  have c0 := q.c0
  have HM := hid (imade_any q)
  clear q
  go_enter Try.func38, Try.ntmps38
  go_wp2_with fail
  refine HM.out.mono ?_
  rintro e w1 ⟨rfl, hw⟩
  subst hw
  go_wp2
  go_ret
  exact ⟨rfl, rfl⟩

set_option maxHeartbeats 1000000 in
theorem iuses_mo (q : iMo w base m most L h mi g F) :
    Calls Try.prog 21 #[pt m] w fun e w' => e = .returned (.agg #[.int .i64 h, .int .i64 mi, .int .i64 g]) ∧ Below w.heap.size w w' := by
  obtain ⟨mb, z, N, ⟨q, _⟩, rfl, rfl⟩ := q
  have hb := below_walk w (.cells #[.int .i64 0, .int .i64 0, .int .i64 0] 29)
  have HM := hid (imade_any (q.below hb))
  have HQ := hid (q.below hb)
  have HB := hid hb
  have HN := hid (hp_new w (.cells #[.int .i64 0, .int .i64 0, .int .i64 0] 29))
  obtain ⟨z3, s3⟩ := zero_of_info (P := Try.prog) (t := 29) (v := .agg #[.int .i64 0, .int .i64 0, .int .i64 0]) (n := 3) (by kernel_rfl)
  have HS := hid s3
  have HZ := hid z3
  have hlt := q.lt
  clear q hb s3 z3
  go_enter Try.func21, Try.ntmps21
  go_wp2_with (first | (refine al_row rfl 29 rfl _ HZ.out ?_))
  refine HM.out.mono ?_
  rintro e w1 ⟨rfl, hw⟩
  rw [← hw] at HQ HB HN
  clear hw HM
  have HU : Hid (w1.rangeAt m 3 [.int .i64 h, .int .i64 mi, .int .i64 g]) := hid (fun i u hu => by
    match i, hu with
    | 0, hu => simp at hu; subst hu; exact HQ.out.c3
    | 1, hu => simp at hu; subst hu; exact HQ.out.c4
    | 2, hu => simp at hu; subst hu; exact HQ.out.c5
    | i + 3, hu => simp at hu)
  go_wp2_with (first
    | (refine wpList_load_mid rfl 29 (.tmp 9) rfl m 3 rfl [.int .i64 h, .int .i64 mi, .int .i64 g] _ HU.out Try.underlying29 rfl HS.out ?_)
    | (refine st_row rfl 29 (.tmp 2) (.tmp 10) rfl w.heap.size [.int .i64 h, .int .i64 mi, .int .i64 g] rfl rfl 29 _ HN.out HS.out rfl (by simp [Value.oneCell']) ?_; intro w2 hw2))
  have HB2 := hid (HB.out.trans ((Fr.of_grown hw2.grown).below HB.out.size (by simp)))
  have HN2 := hid hw2.blk
  clear hw2
  go_wp2_with fail
  refine ret_row 2 29 rfl w.heap.size rfl [.int .i64 h, .int .i64 mi, .int .i64 g] 29 HN2.out _ Try.underlying29 rfl HS.out rfl ?_
  exact ⟨rfl, HB2.out⟩

set_option maxRecDepth 100000 in
set_option maxHeartbeats 4000000 in
theorem idrop_st (q : iMo w base m most L h mi g F) (v : Value) (ks : List Int) (hv : ∀ W F', St w W F F' → Ints W v ks) :
    Calls Try.prog 19 #[pt m, v] w fun e w' => e = .returned (.int .i64 ((L.length - (dropP L ks).length : Nat) : Int)) ∧
      ∃ F', iMo w' base m most (dropP L ks) h mi g F' ∧ St w w' F F' := by
  have hks := (hv w F (St.refl _ _)).1
  obtain ⟨ao, cv, rfl⟩ := (hv w F (St.refl _ _)).shape
  have HV := hid hv
  have HQ := hid q
  obtain ⟨mb, z, N, ⟨q, _⟩, hL, hF⟩ := q
  have HM := hid (imade_any q)
  have hlm : L.length ≤ 4096 := by have := HQ.out.le; have := HQ.out.big; omega
  clear q hv
  go_enter Try.func19, Try.ntmps19
  go_wp2_with fail
  refine HM.out.mono ?_
  rintro e w1 ⟨rfl, hw⟩
  subst hw
  clear HM hL hF
  go_wp2
  go_loopw [14, 5] (fun vi vn wr => ∃ (j : Nat) (F' : List Nat), j ≤ ks.length ∧ vi = .int .i64 j ∧ vn = .int .i64 ((L.length - (dropP L (ks.take j)).length : Nat) : Int) ∧ Hid (iMo wr base m most (dropP L (ks.take j)) h mi g F') ∧ Hid (St w1 wr F F')) (fun vi _ _ => ks.length - (intOf vi).toNat)
  case atStart => exact ⟨0, F, by omega, rfl, by simp [dropP_nil], HQ, St.refl _ _⟩
  case round =>
    obtain ⟨j, F', hj, rfl, rfl, HQ', HST⟩ := hrel
    by_cases hlt : j < ks.length
    · have HB := hid (HQ.out.low HST.out)
      obtain ⟨gk, ok, rfl, hkk, hj2, hc⟩ := (HV.out wr F' HST.out).at j hlt
      have hck := hc wr (Below.refl _ _)
      have HKK := hid hkk
      have HSTEP := hid (dropP_step L ks j hlt)
      have HLE := hid (dropP_len L (ks.take j))
      obtain ⟨k, HK⟩ : ∃ k, Hid (ks.getD j 0 = k) := ⟨_, rfl⟩
      rw [HK.out] at hck HKK HSTEP
      obtain ⟨D, HD⟩ : ∃ D, Hid (dropP L (ks.take j) = D) := ⟨_, rfl⟩
      rw [HD.out] at HQ' HSTEP HLE ⊢
      obtain ⟨mb, z, N, ⟨q, hND⟩, hDN, hF'⟩ := HQ'.out
      have HND := hid hND
      have HFI := hid (ifind_any q k HKK.out)
      have HQM := hid q
      have HDN := hid hDN
      have HF' := hid hF'
      clear q hDN hF' hc hkk hND
      obtain ⟨cn, HCN⟩ : ∃ cn : Nat, Hid (L.length - D.length = cn) := ⟨_, rfl⟩
      rw [HCN.out]
      have hcn : cn ≤ 4096 := by rw [← HCN.out]; omega
      cases hat : iat N k with
      | none =>
        as_aux_lemma =>
          rw [hat, ptO_none] at HFI
          have HE : Hid (outP D k = D) := by
            rw [HDN.out]
            exact outP_none (fun x hx => by obtain ⟨n, hn, rfl⟩ := List.mem_map.1 hx; exact iat_not hat n hn)
          go_wp2_with fail
          refine HFI.out.mono ?_
          rintro e w3 ⟨rfl, b3⟩
          have HQ3 := hid (HQ'.out.below b3)
          have HS3 := hid (HST.out.below b3)
          clear b3
          go_wp2
          exact ⟨⟨j + 1, F', hlt, by simp, by rw [HSTEP.out, HE.out, HCN.out], by rw [HSTEP.out, HE.out]; exact HQ3, HS3⟩, by simp [intOf]; omega⟩
      | some b =>
        as_aux_lemma =>
          rw [hat, ptO_some] at HFI
          obtain ⟨A, n, B, rfl, rfl, rfl⟩ := iat_split hat
          have nd := HQM.out.nodes
          have HE : Hid (outP D n.k = (A ++ B).map ikv) := by
            rw [HDN.out, List.map_append, List.map_cons, show ikv n = (n.k, n.v) from rfl, outP_split (fun x hx => by obtain ⟨y, hy, rfl⟩ := List.mem_map.1 hx; exact nd.2.1 y hy) (fun x hx => by obtain ⟨y, hy, rfl⟩ := List.mem_map.1 hx; exact nd.2.2 y hy), List.map_append]; exact hid rfl
          have HLN : Hid (D.length = ((A ++ B).map ikv).length + 1) := hid (by rw [HDN.out]; simp; omega)
          clear nd hat
          obtain ⟨kb, HKB⟩ : ∃ kb, Hid (n.b = kb) := ⟨_, rfl⟩
          obtain ⟨kk, HKK2⟩ : ∃ kk, Hid (n.k = kk) := ⟨_, rfl⟩
          rw [HKB.out] at HFI
          rw [HKK2.out] at HFI hck HKK
          go_wp2_with fail
          refine HFI.out.mono ?_
          rintro e w3 ⟨rfl, b3⟩
          have HR := hid (iremove_any A B n (HQM.out.below b3))
          rw [HKB.out] at HR
          have HS3 := hid (HST.out.below b3)
          clear b3
          go_wp2_with fail
          refine HR.out.mono ?_
          rintro e w4 ⟨rfl, q4, f4, _⟩
          have HQ4 : Hid (iMo w4 base m most (outP D n.k) h mi g (m :: mb :: z :: ibs (A ++ B))) := ⟨mb, z, A ++ B, ⟨q4, by have := HND.out; simp at this ⊢; omega⟩, HE.out, rfl⟩
          have HS4 : Hid (St w1 w4 F (m :: mb :: z :: ibs (A ++ B))) := HS3.out.trans ⟨by rw [HF'.out]; exact f4, fun x hx => Or.inl (by
            rw [HF'.out]
            simp only [ibs_cons, ibs_app, List.mem_cons, List.mem_append] at hx ⊢
            rcases hx with h | h | h | h | h <;> simp [h])⟩
          clear q4 f4 HR HFI
          go_wp2
          exact ⟨⟨j + 1, _, hlt, by simp, by rw [HSTEP.out, HE.out]; have := HLN.out; have := HCN.out; have := HLE.out; simp only [Value.int.injEq, true_and]; omega, by rw [HSTEP.out]; exact HQ4, HS4⟩, by simp [intOf]; omega⟩
    · have hje : j = ks.length := by omega
      subst hje
      rw [List.take_length] at HQ' ⊢
      obtain ⟨cn, HCN⟩ : ∃ cn : Nat, Hid (L.length - (dropP L ks).length = cn) := ⟨_, rfl⟩
      rw [HCN.out]
      go_wp2
      go_ret
      exact ⟨by rw [HCN.out]; rfl, F', HQ'.out, HST.out⟩

theorem idrop_mo (q : iMo w base m most L h mi g F) (v : Value) (ks : List Int) (hv : ∀ W, Below base w W → Ints W v ks) :
    Calls Try.prog 19 #[pt m, v] w fun e w' => e = .returned (.int .i64 ((L.length - (dropP L ks).length : Nat) : Int)) ∧
      ∃ F', iMo w' base m most (dropP L ks) h mi g F' ∧ St w w' F F' := idrop_st q v ks (fun W _ s => hv W (q.low s))

end

end Go.Proofs.Ytnbbebapfiocpaa

/- Copy. -/
namespace Go.Proofs.Ytnbbebapfiocpaa
open Go.RowKit

/-- how many entries a map's block has -/
def mapLen (w : World) (mb : Nat) : Nat :=
  match w.heap[mb]? with
  | some (.map es _) => es.size
  | _ => 0
theorem Mp.mapLen {P : Program} {kt : TypeId} {κ : Type} {kL : κ → Lit} {w : World} {mb n : Nat} {f : κ → Option Nat} (q : Mp P kt kL w mb f n) : mapLen w mb = n := by
  obtain ⟨D, ⟨es, cl, hb, F, hs, rfl⟩, h1, _⟩ := q
  unfold Go.Proofs.Ytnbbebapfiocpaa.mapLen
  rw [hb]
  simpa [Maps.size, length_sorted] using h1

theorem ptr_same (W : World) (z : Nat) : (binOp .neq 69 (pt z) (pt z)).run Try.prog W = .ok (.bool false) W := by
  cases hj : Try.prog.info? 76 with
  | none => have : (Try.prog.info? 76).isSome = true := by kernel_rfl
            rw [hj] at this; cases this
  | some j =>
    have h : ∀ d : Nat, (Op.equalIn (d + 1) 69 (pt z) (pt z)).run Try.prog W = .ok true W := fun d => by
      simp [Op.equalIn, run_underlying Try.underlying69, sizeOf, typeInfo, hj, run_sameAddr_same]
    simp only [binOp]
    simp [Op.equal, Op.maxDepth, h 9999]
theorem ptr_other {W : World} {x z : Nat} {k1 v1 k2 v2 : Value} (hx : En 76 W x k1 v1) (hz : En 76 W z k2 v2) (hne : x ≠ z) : (binOp .neq 69 (pt x) (pt z)).run Try.prog W = .ok (.bool true) W := by
  obtain ⟨p1, q1, h1⟩ := hx
  obtain ⟨p2, q2, h2⟩ := hz
  have hs : (Try.prog.info? 76).map (·.size) = some 4 := by kernel_rfl
  cases hj : Try.prog.info? 76 with
  | none => rw [hj] at hs; cases hs
  | some j =>
    rw [hj] at hs
    have hsz : j.size ≠ 0 := by simp at hs; omega
    have h : ∀ d : Nat, (Op.equalIn (d + 1) 69 (pt x) (pt z)).run Try.prog W = .ok false W := fun d => by
      simp [Op.equalIn, run_underlying Try.underlying69, sizeOf, typeInfo, hj, hsz, run_sameAddr_other W (a := ⟨x, 0, none⟩) (b := ⟨z, 0, none⟩) (fun e => hne (by injection e)) h1 h2]
    simp only [binOp]
    simp [Op.equal, Op.maxDepth, h 9999]

section
variable {w : World} {base m most : Nat} {L : List (Int × Int)} {hh mi g : Int} {F : List Nat}

set_option maxRecDepth 100000 in
set_option maxHeartbeats 4000000 in
theorem icopy_mo (q : iMo w base m most L hh mi g F) :
    Calls Try.prog 12 #[pt m] w fun e w' => ∃ c F', e = .returned (pt c) ∧ iMo w' w.heap.size c most L hh mi g F' ∧ Below w.heap.size w w' := by
  obtain ⟨mb, z, N, ⟨q, hle⟩, rfl, rfl⟩ := q
  have HM := hid (imade_any q)
  have HE := hid (iempty_any w most q.one q.big)
  have c0 := q.c0
  have HQ := hid q
  obtain ⟨z3, s3⟩ := zero_of_info (P := Try.prog) (t := 29) (v := .agg #[.int .i64 0, .int .i64 0, .int .i64 0]) (n := 3) (by kernel_rfl)
  have HS := hid s3
  clear q s3 z3
  go_enter Try.func12, Try.ntmps12
  go_wp2_with fail
  refine HM.out.mono ?_
  rintro e w1 ⟨rfl, hw⟩
  have hws := hw.symm
  subst hws
  go_wp2_with fail
  refine HE.out.mono ?_
  rintro e w2 ⟨c, mc, zc, rfl, qc, b2⟩
  have HQ2 := hid (HQ.out.below b2)
  have HC2 := hid qc
  have HB2 := hid b2
  have HU : Hid (w2.rangeAt m 3 [.int .i64 hh, .int .i64 mi, .int .i64 g]) := hid (fun i u hu => by
    match i, hu with
    | 0, hu => simp at hu; subst hu; exact HQ2.out.c3
    | 1, hu => simp at hu; subst hu; exact HQ2.out.c4
    | 2, hu => simp at hu; subst hu; exact HQ2.out.c5
    | i + 3, hu => simp at hu)
  clear qc b2 HM HE c0
  have HT : Hid (w2.there c 3 3) := hid (fun j hj => by
    match j, hj with
    | 0, _ => exact ⟨by rw [HC2.out.c3]; rfl, HC2.out.fz 3⟩
    | 1, _ => exact ⟨by rw [HC2.out.c4]; rfl, HC2.out.fz 4⟩
    | 2, _ => exact ⟨by rw [HC2.out.c5]; rfl, HC2.out.fz 5⟩)
  go_upto_region 5 with (first
    | (refine wpList_load_mid rfl 29 (.tmp 16) rfl m 3 rfl [.int .i64 hh, .int .i64 mi, .int .i64 g] _ HU.out Try.underlying29 rfl HS.out ?_)
    | (refine wpList_store_mid rfl 29 (.tmp 19) (.tmp 17) rfl c 3 [.int .i64 hh, .int .i64 mi, .int .i64 g].toArray rfl rfl HT.out HS.out (all_oneCell_toArray (by simp [Value.oneCell'])) ?_))
  try simp only [Act.put]
  have HC3 : Hid (iMm (w2.setCells c 3 [.int .i64 hh, .int .i64 mi, .int .i64 g]) w.heap.size c mc zc most [] hh mi g) := hid (((HC2.out.setH hh).setM mi).setG g)
  have HF3 : Hid (Fr w2 (w2.setCells c 3 [.int .i64 hh, .int .i64 mi, .int .i64 g]) [c]) := hid (((Fr.set w2 c 3 (.int .i64 hh)).trans (Fr.set _ c 4 (.int .i64 mi)) (by simp)).trans (Fr.set _ c 5 (.int .i64 g)) (by simp))
  have HLW : Hid (∀ x ∈ m :: mb :: z :: ibs N, x < w.heap.size) := hid HQ.out.lts
  have HCB : Hid (∀ x ∈ m :: mb :: z :: ibs N, x ≠ c) := hid (fun x hx e => by have h1 := HQ.out.lts x hx; have h2 := HC2.out.lo c (by simp); omega)
  have HQ3 := hid (HQ2.out.fr HF3.out (fun x hx e => HCB.out x hx (by simpa using e)))
  have HB3 : Hid (Below w.heap.size w (w2.setCells c 3 [.int .i64 hh, .int .i64 mi, .int .i64 g])) := hid (HB2.out.trans (HF3.out.below HB2.out.size (fun x hx => by simp at hx; subst hx; exact HC2.out.lo _ (by simp))))
  generalize w2.setCells c 3 [.int .i64 hh, .int .i64 mi, .int .i64 g] = w3 at HC3 HF3 HQ3 HB3 ⊢
  clear HT HU HQ2 HC2 HB2 HF3
  have hold : w3.cell? ⟨z, 2, none⟩ = some (pt (((ibs N).getLast?).getD z)) := by
    have hr := HQ3.out.ring
    rcases List.eq_nil_or_concat N with hn | ⟨A, x, hn⟩
    · rw [hn] at hr ⊢; exact hr.oldest0
    · rw [hn, List.concat_eq_append, ibs_app] at hr ⊢
      rw [show ibs [x] = [x.b] from rfl] at hr ⊢
      rw [List.getLast?_concat]; exact hr.oldest
  have HOL := hid (ioldest_any w3 z _ hold (HQ3.out.ring.lt z (by simp)))
  have d2 := HQ3.out.c2
  clear hold
  go_wp2_with fail
  refine HOL.out.mono ?_
  rintro e w4 ⟨rfl, hw4⟩
  have b4 : Below w3.heap.size w3 w4 := by rw [hw4]; exact below_walk _ _
  have HQ4 := hid (HQ3.out.below b4)
  have HC4 := hid (HC3.out.below b4)
  have HB4 := hid (HB3.out.trans (b4.mono HB3.out.size))
  clear hw4 b4 HOL HQ3 HC3 HB3 d2
  go_wp2
  go_loopw [4] (fun ve wr => ∃ (A R : List iNd) (R' : List iNd), Hid (N = A ++ R) ∧ ve = pt (((ibs A).getLast?).getD z) ∧ Hid (R'.map ikv = R.map ikv) ∧ Hid (iMm wr base m mb z most N hh mi g) ∧ Hid (iMm wr w.heap.size c mc zc most R' hh mi g) ∧ Hid (Below w.heap.size w wr)) (fun _ wr => N.length - mapLen wr mc)
  case atStart => exact ⟨N, [], [], hid (by simp), rfl, hid rfl, HQ4, HC4, HB4⟩
  case round =>
    clear HQ4 HC4 HB4
    obtain ⟨A, R, R', HN, rfl, HR, HQ', HC', HW⟩ := hrel
    have d2 := HQ'.out.c2
    rcases List.eq_nil_or_concat A with hA | ⟨A', x, hA⟩
    · subst hA
      have hl : (((ibs []).getLast?).getD z) = z := rfl
      rw [hl]
      have hps := ptr_same wr z
      go_wp2
      go_ret
      have hnl := HN.out
      simp at hnl
      subst hnl
      exact ⟨c, _, rfl, ⟨mc, zc, R', ⟨HC'.out, by have := congrArg List.length HR.out; simp at this; omega⟩, HR.out.symm, rfl⟩, HW.out⟩
    · rw [List.concat_eq_append] at hA
      subst hA
      have hNe : N = A' ++ x :: R := by rw [HN.out]; simp
      have hxN : x ∈ N := by rw [hNe]; simp
      have hv : (((ibs (A' ++ [x])).getLast?).getD z) = x.b := by rw [ibs_app]; simp [ibs]
      rw [hv]
      obtain ⟨xb, HXB⟩ : ∃ xb, Hid (x.b = xb) := ⟨_, rfl⟩
      obtain ⟨xk, HXK⟩ : ∃ xk, Hid (x.k = xk) := ⟨_, rfl⟩
      obtain ⟨xv, HXV⟩ : ∃ xv, Hid (x.v = xv) := ⟨_, rfl⟩
      rw [HXB.out]
      have he := HQ'.out.ents x hxN
      rw [HXB.out, HXV.out, show ikV x.k = .int .i64 xk by rw [← HXK.out]; rfl] at he
      obtain ⟨kz, vz, hz⟩ := HQ'.out.ring.en z (by simp)
      have hxz : xb ≠ z := fun e => (List.nodup_cons.1 HQ'.out.ring.nd).1 (by rw [← e, ← HXB.out]; exact List.mem_map.2 ⟨x, hxN, rfl⟩)
      have hps := ptr_other he hz hxz
      have bd : Below wr.heap.size wr wr.drew := ⟨rfl, rfl, rfl, Nat.le_refl _, fun _ _ => rfl⟩
      have e0 := (he.below bd).c0
      have e1 := (he.below bd).c1
      have hRk : ∀ y ∈ R', y.k ≠ x.k := by
        intro y hy e
        have hm : ikv y ∈ R.map ikv := by rw [← HR.out]; exact List.mem_map.2 ⟨y, hy, rfl⟩
        obtain ⟨u, hu, hue⟩ := List.mem_map.1 hm
        have huk : u.k = x.k := by rw [← e]; exact congrArg Prod.fst hue
        have hq := HQ'.out
        rw [hNe] at hq
        exact hq.nodes.2.2 u hu huk
      have hlen : R'.length < most := by
        have h1 := congrArg List.length HR.out
        have h2 := congrArg List.length hNe
        simp at h1 h2
        omega
      have HADD := hid (iadd_any (HC'.out.below bd) x.k (HQ'.out.kok x hxN) (iat_none hRk) hlen x.v)
      rw [HXV.out, show ikV x.k = .int .i64 xk by rw [← HXK.out]; rfl] at HADD
      have hnew := HQ'.out.ring
      rw [hNe, ibs_app, ibs_cons] at hnew
      have HNEW := hid hnew.newer
      rw [HXB.out] at HNEW
      have HNE := hid hNe
      have HBD := hid bd
      have HXN := hid hxN
      have HLN := hid hlen
      clear he hz hxz bd hRk hlen hnew hNe hv hxN
      go_upto_region 8 with fail
      go_region_with (go_at_call 31; refine HADD.out.mono ?_; rintro e w5 ⟨rfl, q5, f5⟩; have HC5 := hid q5; have HF5 := hid ((Fr.of_below HBD.out (c :: mc :: zc :: ibs R')).trans f5 (fun y hy => Or.inl hy)); clear q5 f5)
      all_goals
        have HQ5 := hid (HQ'.out.fr HF5.out (fun y hy e => by have h1 := HLW.out y hy; have h2 := HC'.out.lo y e; omega))
        have HB5 := hid (HW.out.trans (HF5.out.below HW.out.size (fun y hy => HC'.out.lo y hy)))
        have e2 : w5.cell? ⟨xb, 2, none⟩ = some (pt ((ibs A').getLastD z)) := by
          have hr := HQ5.out.ring
          rw [HNE.out, ibs_app, ibs_cons] at hr
          have := hr.newer
          rw [HXB.out] at this
          exact this
        have HML5 := hid HC5.out.map.mapLen
        have HML := hid HC'.out.map.mapLen
        go_wp2
        refine ⟨⟨A', x :: R, _, hid HNE.out, ?_, ?_, HQ5, HC5, HB5⟩, ?_⟩
        · rfl
        · simp only [List.map_cons, HR.out]
          rw [show ikv ⟨_, x.k, xv⟩ = (x.k, xv) from rfl, ← HXV.out]; rfl
        · have h2 := congrArg List.length HNE.out
          have h1 := congrArg List.length HR.out
          rw [HML5.out, HML.out]
          simp at h1 h2 ⊢
          omega
end

end Go.Proofs.Ytnbbebapfiocpaa

/- Slices of pairs: of one's own, and lying somewhere; cut; appended. -/
namespace Go.Proofs.Ytnbbebapfiocpaa
open Go.RowKit

theorem Try.infoPair : (Try.prog.info? 59).map (fun i => (i.zero, i.size, i.bytes)) = some (some (.agg #[.int .i64 0, .int .i64 0]), 2, 16) := by kernel_rfl

def pv (L : List (Int × Int)) : List Value := L.flatMap fun x => [Value.int .i64 x.1, Value.int .i64 x.2]
theorem pv_app (A B : List (Int × Int)) : pv (A ++ B) = pv A ++ pv B := by simp [pv]
theorem pv_cons (x : Int × Int) (B : List (Int × Int)) : pv (x :: B) = .int .i64 x.1 :: .int .i64 x.2 :: pv B := rfl
theorem pv_len (L : List (Int × Int)) : (pv L).length = L.length * 2 := by
  induction L with
  | nil => rfl
  | cons x r ih => rw [pv_cons]; simp [ih]; omega
theorem pv_one (L : List (Int × Int)) : ∀ u ∈ pv L, u.oneCell' = true := by
  intro u hu
  simp only [pv, List.mem_flatMap] at hu
  obtain ⟨x, _, hu⟩ := hu
  simp at hu
  rcases hu with rfl | rfl <;> rfl
theorem pv_get (L : List (Int × Int)) : ∀ (j : Nat), j < L.length → (pv L)[2 * j]? = some (.int .i64 (L.getD j (0, 0)).1) ∧ (pv L)[2 * j + 1]? = some (.int .i64 (L.getD j (0, 0)).2) := by
  induction L with
  | nil => intro j hj; simp at hj
  | cons x r ih =>
    intro j hj
    cases j with
    | zero => simp [pv_cons]
    | succ j =>
      have := ih j (by simpa using hj)
      rw [pv_cons, show 2 * (j + 1) = 2 * j + 1 + 1 by omega]
      simpa using this

def OwnP (w : World) (base : Nat) (v : Value) (L : List (Int × Int)) : Prop := w.ownsRow base 59 2 v L.length (pv L)
theorem OwnP.nil (w : World) (base : Nat) : OwnP w base (.slice none 0 0) [] := World.ownsRow_nil _ _ _ _
theorem OwnP.fr {w w' : World} {base : Nat} {v : Value} {L : List (Int × Int)} {F : List Nat} (h : OwnP w base v L) (g : Fr w w' F) (hF : ∀ k, v.ownBlock = some k → k ∉ F) : OwnP w' base v L := by
  refine ⟨h.1, ?_⟩
  rcases h.2 with h0 | ⟨b, cap, cur, rfl, h1, h2, r⟩
  · exact Or.inl h0
  · exact Or.inr ⟨b, cap, cur, rfl, h1, g.blk h2 (hF b rfl), r⟩
theorem OwnP.below {w w' : World} {base : Nat} {v : Value} {L : List (Int × Int)} (h : OwnP w base v L) (g : Below w.heap.size w w') : OwnP w' base v L := h.fr (Fr.of_below g []) (by simp)
theorem OwnP.lw {w : World} {base base' : Nat} {v : Value} {L : List (Int × Int)} (h : OwnP w base v L) (hb : base' ≤ base) : OwnP w base' v L :=
  ⟨h.1, h.2.elim Or.inl (fun ⟨g, cap, cur, hv, hg, r⟩ => Or.inr ⟨g, cap, cur, hv, Nat.le_trans hb hg, r⟩)⟩
theorem OwnP.typ {w : World} {base : Nat} {v : Value} {L : List (Int × Int)} (h : OwnP w base v L) {k : Nat} (hk : v.ownBlock = some k) : ∃ cur, w.heap[k]? = some (.cells cur 59 (0, 0)) ∧ base ≤ k := by
  rcases h.2 with ⟨rfl, _⟩ | ⟨b, cap, cur, rfl, h1, h2, r⟩
  · cases hk
  · cases hk; exact ⟨cur, h2, h1⟩
theorem OwnP.shape {w : World} {base : Nat} {v : Value} {L : List (Int × Int)} (h : OwnP w base v L) : ∃ a cap, v = .slice a L.length cap := by
  rcases h.2 with ⟨rfl, h0⟩ | ⟨g, cap, cur, rfl, _⟩
  · exact ⟨none, 0, by rw [h0]⟩
  · exact ⟨_, _, rfl⟩

theorem ownP_low {w : World} {base : Nat} {v : Value} {xs : List (Int × Int)} (h : OwnP w base v xs) : ∀ x ∈ ownL v, base ≤ x := fun x hx => by
  unfold ownL at hx
  cases hv : v.ownBlock with
  | none => rw [hv] at hx; cases hx
  | some q => rw [hv] at hx; simp at hx; obtain ⟨_, _, h2⟩ := h.typ hv; omega
theorem gb_none {w w' : World} (h : w.grownBy w' none) : Below w.heap.size w w' := ⟨h.os, h.tape, h.output, h.size, fun k hk => h.block k hk (by simp)⟩

/-- pairs that lie somewhere -/
def SrcP (w : World) (v : Value) (L : List (Int × Int)) : Prop :=
  (v = .slice none 0 0 ∧ L = []) ∨ ∃ g o c, v = .slice (some ⟨g, o, none⟩) L.length c ∧ L.length ≤ c ∧ g < w.heap.size ∧ ∀ j u, (pv L)[j]? = some u → w.cell? ⟨g, o + j, none⟩ = some u
theorem ad_off (g o j : Nat) : (⟨g, o, none⟩ : Addr).add j = ⟨g, o + j, none⟩ := by
  by_cases h0 : j = 0 <;> simp [Addr.add, h0]
theorem SrcP.shape {w : World} {v : Value} {L : List (Int × Int)} (h : SrcP w v L) : ∃ a cap, v = .slice a L.length cap := by
  rcases h with ⟨rfl, rfl⟩ | ⟨g, o, c, rfl, _⟩
  · exact ⟨_, _, rfl⟩
  · exact ⟨_, _, rfl⟩
theorem SrcP.below {w w' : World} {v : Value} {L : List (Int × Int)} (h : SrcP w v L) (hb : Below w.heap.size w w') : SrcP w' v L := by
  rcases h with h | ⟨g, o, c, hv, hl, hlt, hc⟩
  · exact Or.inl h
  · exact Or.inr ⟨g, o, c, hv, hl, Nat.lt_of_lt_of_le hlt hb.size, fun j u hu => by rw [hb.cell (p := ⟨g, o + j, none⟩) hlt]; exact hc j u hu⟩
theorem OwnP.src {w : World} {base : Nat} {v : Value} {L : List (Int × Int)} (h : OwnP w base v L) : SrcP w v L := by
  have hh := h
  rcases h.2 with ⟨h0, h1⟩ | ⟨g, cap, cur, hv, hb, hk, h1, _⟩
  · exact Or.inl ⟨h0, List.length_eq_zero_iff.1 h1⟩
  · refine Or.inr ⟨g, 0, cap, hv, h1, hp_lt hk, fun j u hu => ?_⟩
    have := World.ownsRow.cells hh (g := g) (by rw [hv]; rfl) j u hu
    rw [ad_off] at this
    exact this
theorem pv_take (L : List (Int × Int)) (k : Nat) : pv (L.take k) = (pv L).take (2 * k) := by
  induction L generalizing k with
  | nil => simp [pv]
  | cons x r ih =>
    cases k with
    | zero => simp [pv]
    | succ k => rw [List.take_succ_cons, pv_cons, pv_cons, show 2 * (k + 1) = 2 * k + 1 + 1 by omega, List.take_succ_cons, List.take_succ_cons, ih]
theorem pv_drop (L : List (Int × Int)) (k : Nat) : pv (L.drop k) = (pv L).drop (2 * k) := by
  induction L generalizing k with
  | nil => simp [pv]
  | cons x r ih =>
    cases k with
    | zero => rfl
    | succ k => rw [List.drop_succ_cons, pv_cons, show 2 * (k + 1) = 2 * k + 1 + 1 by omega, List.drop_succ_cons, List.drop_succ_cons, ih]
/-- the first ones -/
theorem cutP_to {w : World} {v : Value} {L : List (Int × Int)} (h : SrcP w v L) (k : Nat) (hk : k ≤ L.length) :
    ∃ vx, SrcP w vx (L.take k) ∧ (∀ W, (Instr.slice 27 v none (some (.int .i64 (k : Int))) none).run Try.prog W = .ok vx W) := by
  rcases h with ⟨rfl, rfl⟩ | ⟨g, o, c, rfl, hl, hlt, hc⟩
  · simp at hk
    subst hk
    exact ⟨.slice none 0 0, Or.inl ⟨rfl, rfl⟩, fun W => by go_simp⟩
  · have hlen : (L.take k).length = k := by simp; omega
    have hk2 : (k : Int) ≤ (c : Int) := by omega
    refine ⟨.slice (some ⟨g, o, none⟩) k c, Or.inr ⟨g, o, c, by rw [hlen], by omega, hlt, fun j u hu => ?_⟩, fun W => by go_simp⟩
    rw [pv_take] at hu
    rw [List.getElem?_take] at hu
    split at hu
    · exact hc j u hu
    · cases hu
/-- what comes behind the first ones -/
theorem cutP_from {w : World} {v : Value} {L : List (Int × Int)} (h : SrcP w v L) (k : Nat) (hk : k ≤ L.length) :
    ∃ vx, SrcP w vx (L.drop k) ∧ (∀ W, (Instr.slice 27 v (some (.int .i64 (k : Int))) none none).run Try.prog W = .ok vx W) := by
  rcases h with ⟨rfl, rfl⟩ | ⟨g, o, c, rfl, hl, hlt, hc⟩
  · simp at hk
    subst hk
    exact ⟨.slice none 0 0, Or.inl ⟨rfl, rfl⟩, fun W => by go_simp⟩
  · have hlen : (L.drop k).length = L.length - k := by simp
    have hk2 : (k : Int) ≤ (L.length : Int) := by omega
    refine ⟨.slice (if c = k then some ⟨g, o, none⟩ else some ((⟨g, o, none⟩ : Addr).add (k * 2))) (L.length - k) (c - k), ?_, fun W => by go_simp⟩
    by_cases hck : c = k
    · rw [if_pos hck]
      have e0 : L.drop k = [] := List.drop_eq_nil_of_le (by omega)
      rw [e0]
      exact Or.inr ⟨g, o, c - k, by simp; omega, by simp, hlt, fun j u hu => by simp [pv] at hu⟩
    · rw [if_neg hck, ad_off]
      refine Or.inr ⟨g, o + k * 2, c - k, by rw [hlen], by omega, hlt, fun j u hu => ?_⟩
      rw [pv_drop, List.getElem?_drop] at hu
      have := hc _ u hu
      rw [show o + k * 2 + j = o + (2 * k + j) by omega]
      exact this

/-- what append does -/
theorem run_app_pairs (w : World) (ty : TypeId) (base : Nat) (v : Value) (L : List (Int × Int)) (hown : OwnP w base v L) (vx : Value) (M : List (Int × Int)) (hsrc : SrcP w vx M) (hlen : L.length + M.length ≤ 1000000000000) (hbase : base ≤ w.heap.size) :
    ∃ v' w', (Builtin.append_ #[27, 27] ty #[v, vx]).run Try.prog w = .ok v' w' ∧ OwnP w' base v' (L ++ M) ∧ w.grownBy w' v.ownBlock := by
  obtain ⟨i0, hi, hz0, hz1, hz2⟩ := info_parts Try.infoPair
  rcases hsrc with ⟨rfl, rfl⟩ | ⟨g, o, c, rfl, hl, hlt, hc⟩
  · exact ⟨v, w, run_append_owned_none (P := Try.prog) (w := w) base 27 ty 59 i0 2 Try.underlying27 hi v L.length (pv L) hown, by simpa using hown, gb_refl _ _⟩
  · obtain ⟨v', w', hr, ho, hg, _⟩ := run_append_own (P := Try.prog) w base 27 ty 59 i0 (.agg #[.int .i64 0, .int .i64 0]) 2 16 Try.underlying27 hi hz0 hz1 hz2 rfl (by decide) v L.length (pv L) hown ⟨g, o, none⟩ M.length c (pv M) (pv_len M) (fun j u hu => by rw [ad_off]; exact hc j u hu) (pv_one M) (by unfold maxLen; omega) (by omega) hbase
    exact ⟨v', w', hr, by unfold OwnP; rw [pv_app, List.length_append]; exact ho, hg⟩
/-- append(own, pairs...) in the walk -/
theorem app_pairs {w : World} {ops : Array Oper} {rest : List Oper} {o : Oper} {a : Act} {Q : Exit → Act → World → Prop} (hgd : o.guard = none) (s x : Operand)
    (ho : o.op = .call { callee := .builtin .append, args := #[s, x], argTypes := #[27, 27] })
    (base : Nat) (v : Value) (L : List (Int × Int)) (hs : a.eval s = v) (hown : OwnP w base v L) (vx : Value) (M : List (Int × Int)) (hx : a.eval x = vx) (hsrc : SrcP w vx M) (hlen : L.length + M.length ≤ 1000000000000) (hbase : base ≤ w.heap.size)
    (h : ∀ v' w', OwnP w' base v' (L ++ M) → w.grownBy w' v.ownBlock → wpList Try.prog ops Q rest (a.put o.dst v') w') : wpList Try.prog ops Q (o :: rest) a w := by
  refine wpList_plain hgd fun K hK => ?_
  obtain ⟨v', w', hr, h1, h2⟩ := run_app_pairs w o.type base v L hown vx M hsrc hlen hbase
  unfold Oper.wp
  simp [execOp, ho, resolve, invoke, builtin, hs, hx, hr, Result.andThen]
  exact hK _ _ (h v' w' h1 h2)
/-- append(own, pairs...), as one step of a region that draws its order -/
theorem step_app_pairs {ops : Array Oper} {o : Oper} {act : Act} {w : World} {K : Act → World → Prop} {Q : Exit → Act → World → Prop} {E : Prop} (hgd : o.guard = none) (s x : Operand)
    (ho : o.op = .call { callee := .builtin .append, args := #[s, x], argTypes := #[27, 27] })
    (base : Nat) (v : Value) (L : List (Int × Int)) (hs : act.eval s = v) (hown : OwnP w base v L) (vx : Value) (M : List (Int × Int)) (hx : act.eval x = vx) (hsrc : SrcP w vx M) (hlen : L.length + M.length ≤ 1000000000000) (hbase : base ≤ w.heap.size)
    (h : ∀ v' w', OwnP w' base v' (L ++ M) → w.grownBy w' v.ownBlock → K (act.put o.dst v') w') :
    if Region.wanted o (yielded ops act.tmps) = true then Oper.wp Try.prog o act w K Q else E := by
  have hw : Region.wanted o (yielded ops act.tmps) = true := by simp [Region.wanted, hgd]
  rw [if_pos hw]
  obtain ⟨v', w', hr, h1, h2⟩ := run_app_pairs w o.type base v L hown vx M hsrc hlen hbase
  unfold Oper.wp
  simp [execOp, ho, resolve, invoke, builtin, hs, hx, hr, Result.andThen]
  exact h v' w' h1 h2

end Go.Proofs.Ytnbbebapfiocpaa

/- Resize. -/
namespace Go.Proofs.Ytnbbebapfiocpaa
open Go.RowKit

theorem iMm.own {w : World} {base base' m mb z most : Nat} {N : List iNd} {h mi g : Int} {v : Value} {xs : List Int} (q : iMm w base m mb z most N h mi g) (o : OwnI w base' v xs) : ∀ k, v.ownBlock = some k → k ∉ m :: mb :: z :: ibs N := by
  intro k hk hx
  obtain ⟨cur, h1, _⟩ := o.typ hk
  rcases List.mem_cons.1 hx with rfl | hx
  · rw [q.blk] at h1; injection h1 with h1; injection h1 with _ e _; exact absurd e (by decide)
  · rcases List.mem_cons.1 hx with rfl | hx
    · exact q.map.notRow h1 rfl
    · obtain ⟨a, b, p, r, e⟩ := q.ring.en k hx
      rw [e] at h1; injection h1 with h1; injection h1 with _ e _; exact absurd e (by decide)

def incN (g : Int) : Nat → Int
  | 0 => g
  | n + 1 => wrap64 (incN g n + 1)
/-- the keys that go, the oldest first -/
def wentL (L : List (Int × Int)) (p : Nat) : List Int := ((L.drop p).reverse).map (·.1)

def lenOf : Value → Nat
  | .slice _ n _ => n
  | _ => 0

theorem take_last {α : Type} (l : List α) (i : Nat) (h1 : 1 ≤ i) (h2 : i ≤ l.length) : ∃ x, l.take i = l.take (i - 1) ++ [x] ∧ l.drop (i - 1) = x :: l.drop i := by
  obtain ⟨j, rfl⟩ : ∃ j, i = j + 1 := ⟨i - 1, by omega⟩
  refine ⟨l[j], ?_, ?_⟩
  · rw [Nat.add_sub_cancel, List.take_add_one, List.getElem?_eq_getElem (by omega)]; rfl
  · rw [Nat.add_sub_cancel]; exact List.drop_eq_getElem_cons (by omega)

section
variable {w : World} {base m most : Nat} {L : List (Int × Int)} {h mi g : Int} {F : List Nat}

set_option maxHeartbeats 1000000 in
theorem mayBe_ok (w : World) (p : Nat) (p1 : 1 ≤ p) (p2 : p ≤ 4096) : Calls Try.prog 23 #[.int .i64 p] w fun e w' => e = .returned (.bool true) ∧ w' = w := by
  have k1 : (1 : Int) ≤ p := by omega
  have k2 : (p : Int) ≤ 4096 := by omega
  go_enter Try.func23, Try.ntmps23
  go_wp2
  go_ret
  exact ⟨rfl, rfl⟩

set_option maxHeartbeats 1000000 in
theorem iresize_bad (q : iMo w base m most L h mi g F) (p : Int) (hp : p < 1 ∨ 4096 < p) :
    Calls Try.prog 20 #[pt m, .int .i64 p] w fun e w' => e = .returned (.tuple #[.slice none 0 0, .int .i64 1]) ∧ w' = w := by
  obtain ⟨mb, z, N, ⟨q, _⟩, rfl, rfl⟩ := q
  have HM := hid (imade_any q)
  clear q
  by_cases h1 : p < 1
  · have h1' : ¬ 1 ≤ p := by omega
    clear hp
    go_enter Try.func20, Try.ntmps20
    go_wp2_with fail
    refine HM.out.mono ?_
    rintro e w1 ⟨rfl, hw⟩
    subst hw
    go_wp2_with (go_at_call 23; go_in)
    go_ret2
    exact ⟨rfl, rfl⟩
  · have h1' : 1 ≤ p := by omega
    have h2' : ¬ p ≤ 4096 := by omega
    have h3' : 4096 < p := by omega
    have hd := decide_eq_false h2'
    clear hp h1
    go_enter Try.func20, Try.ntmps20
    go_wp2_with fail
    refine HM.out.mono ?_
    rintro e w1 ⟨rfl, hw⟩
    subst hw
    go_wp2_with (go_at_call 23; go_in)
    go_ret2
    exact ⟨rfl, rfl⟩

set_option maxRecDepth 100000 in
set_option maxHeartbeats 4000000 in
theorem iresize_mo (q : iMo w base m most L h mi g F) (p : Nat) (p1 : 1 ≤ p) (p2 : p ≤ 4096) :
    Calls Try.prog 20 #[pt m, .int .i64 p] w fun e w' => ∃ v, e = .returned (.tuple #[v, .int .i64 0]) ∧ OwnI w' w.heap.size v (wentL L p) ∧
      ∃ F', iMo w' base m p (L.take p) h mi (incN g (L.length - p)) F' ∧ St w w' F F' := by
  obtain ⟨mb, z, N, ⟨q, hle⟩, rfl, rfl⟩ := q
  have HM := hid (imade_any q)
  have k1 : (1 : Int) ≤ p := by omega
  have k2 : (p : Int) ≤ 4096 := by omega
  have c0 := q.c0
  have f0 := q.fz 0
  have HQ0 := hid (q.set 0 (.int .i64 p) p1 p2 rfl)
  have HQ := hid q
  have hN : N.length ≤ 4096 := q.le
  clear q
  go_enter Try.func20, Try.ntmps20
  go_wp2_with fail
  refine HM.out.mono ?_
  rintro e w1 ⟨rfl, hw⟩
  subst hw
  clear HM
  go_wp2_with fail
  refine (mayBe_ok _ p p1 p2).mono ?_
  rintro e w1 ⟨rfl, hw⟩
  subst hw
  go_wp2
  have HF0 := hid ((Fr.set w1 m 0 (.int .i64 p)).mono (G := m :: mb :: z :: ibs N) (by simp))
  go_loopw [6] (fun vg wr => ∃ (i : Nat), i ≤ N.length ∧ (p ≤ i ∨ i = N.length) ∧ Hid (iMm wr base m mb z p (N.take i) h mi (incN g (N.length - i))) ∧ Hid (OwnI wr w1.heap.size vg (((N.drop i).reverse).map (·.k))) ∧ Hid (Fr w1 wr (m :: mb :: z :: ibs N))) (fun vg _ => N.length - lenOf vg)
  case atStart => exact ⟨N.length, Nat.le_refl _, Or.inr rfl, by rw [List.take_length, Nat.sub_self]; exact HQ0, by rw [List.drop_length]; exact OwnI.nil _ _, HF0⟩
  case round =>
    clear HQ0 HF0 c0 f0
    obtain ⟨i, hi, hpi, HQ', HO, HFR⟩ := hrel
    have c1 := HQ'.out.c1
    have hlen := HQ'.out.map.len Try.underlying68
    rw [List.length_take_of_le hi] at hlen
    by_cases hlt : p < i
    · obtain ⟨x, hx1, hx2⟩ := take_last N i (by omega) hi
      have hq := HQ'.out
      rw [hx1] at hq
      have HFG := hid (iforget_any (N.take (i - 1)) x hq)
      rw [← hx1] at HFG
      have hlo := HO.out.shape
      obtain ⟨OS, HOS⟩ : ∃ OS, Hid (((N.drop i).reverse).map (·.k) = OS) := ⟨_, rfl⟩
      rw [HOS.out] at HO hlo
      obtain ⟨ao, co, rfl⟩ := hlo
      have HOL : Hid (OS.length = N.length - i) := hid (by rw [← HOS.out]; simp)
      have HX2 := hid hx2
      obtain ⟨κ, HK⟩ : ∃ κ, Hid (x.k = κ) := ⟨_, rfl⟩
      rw [show ikV x.k = .int .i64 κ by rw [HK.out]; rfl] at HFG
      have hlti : (p : Int) < (i : Int) := by omega
      clear hq hx1 hx2
      go_wp2_with (first
        | (go_at_call 41; refine HFG.out.mono ?_; rintro e w3 ⟨rfl, q3, f3⟩; have HO3 := hid (HO.out.fr f3 (HQ'.out.own HO.out)); have HQ3 := hid q3; have HF3 := hid f3; have HSZ := hid (Nat.le_trans HFR.out.size f3.size); have HNW := hid (below_walk w3 (.cells #[.int .i64 κ] 3)); have HCA : Hid ((w3.alloc (.cells #[.int .i64 κ] 3)).cell? ⟨w3.heap.size, 0, none⟩ = some (.int .i64 κ)) := hid (by unfold World.cell?; rw [hp_new]; rfl); clear q3 f3)
        | (at_builtin; refine app_one (by rfl) _ _ rfl w1.heap.size _ OS rfl (HO3.out.below HNW.out) w3.heap.size κ rfl HCA.out (by have := HOL.out; omega) (Nat.le_trans HSZ.out HNW.out.size) ?_; intro v6 w6 ho6 hg6; go_frame))
      obtain ⟨a6, c6, e6⟩ := ho6.shape
      have HQA := HQ3.out.below HNW.out
      have HOA := HO3.out.below HNW.out
      have hinc : incN g (N.length - (i - 1)) = wrap64 (incN g (N.length - i) + 1) := by
        rw [show N.length - (i - 1) = (N.length - i) + 1 by omega]; rfl
      have hsub : ∀ y ∈ m :: mb :: z :: ibs (N.take i), y ∈ m :: mb :: z :: ibs N := by
        intro y hy
        simp only [List.mem_cons, ibs, List.map_take] at hy ⊢
        rcases hy with h | h | h | h
        · simp [h]
        · simp [h]
        · simp [h]
        · exact Or.inr (Or.inr (Or.inr (List.mem_of_mem_take h)))
      have hfin : Fr w1 w6 (m :: mb :: z :: ibs N) := ((HFR.out.trans HF3.out (fun y hy => Or.inl (hsub y hy))).trans (Fr.of_below HNW.out []) (by simp)).trans (fr_own hg6) (fun y hy => Or.inr (own_low HOA y hy))
      have hnew : OS ++ [κ] = ((N.drop (i - 1)).reverse).map (·.k) := by
        rw [HX2.out, ← HOS.out, ← HK.out]; simp
      subst e6
      refine ⟨⟨i - 1, by omega, Or.inl (by omega), ?_, ?_, hfin⟩, ?_⟩
      · rw [hinc]; exact HQA.fr (fr_own hg6) (own_far (HQA.own HOA))
      · rw [← hnew]; exact ho6
      · have := HOL.out; simp [lenOf]; omega
    · have hlt' : ¬ (p : Int) < (i : Int) := by omega
      obtain ⟨ao, co, rfl⟩ := HO.out.shape
      have HO2 := HO
      have e1 : N.take i = N.take p := by
        rcases hpi with h | h
        · rw [show i = p by omega]
        · rw [List.take_of_length_le (by omega), List.take_of_length_le (by omega)]
      have e2 : N.drop i = N.drop p := by
        rcases hpi with h | h
        · rw [show i = p by omega]
        · rw [List.drop_eq_nil_of_le (by omega), List.drop_eq_nil_of_le (by omega)]
      have e3 : N.length - i = N.length - p := by omega
      obtain ⟨OL, HOL⟩ : ∃ OL, Hid ((List.map (fun x : iNd => x.k) (List.drop i N).reverse).length = OL) := ⟨_, rfl⟩
      rw [HOL.out] at HO ⊢
      have HE1 := hid e1
      have HE2 := hid e2
      have HE3 := hid e3
      clear e1 e2 e3 HO2
      go_wp2
      go_ret2
      refine ⟨_, rfl, ?_, m :: mb :: z :: ibs (N.take p), ⟨mb, z, N.take p, ⟨?_, by simp; omega⟩, by rw [List.map_take], rfl⟩, HFR.out, fun y hy => Or.inl ?_⟩
      · have := HO.out
        rw [HE2.out] at this
        unfold wentL
        rw [← List.map_drop, ← List.map_reverse, List.map_map]
        exact this
      · have := HQ'.out
        rw [HE1.out, HE3.out] at this
        exact this
      · simp only [List.mem_cons, ibs, List.map_take] at hy ⊢
        rcases hy with h | h | h | h
        · simp [h]
        · simp [h]
        · simp [h]
        · exact Or.inr (Or.inr (Or.inr (List.mem_of_mem_take h)))
end

end Go.Proofs.Ytnbbebapfiocpaa

/- pairs, All. -/
namespace Go.Proofs.Ytnbbebapfiocpaa
open Go.RowKit

theorem Try.infoPr : (Try.prog.info? 88).map (fun i => (i.zero, i.size, i.bytes)) = some (some (.agg #[.int .i64 0, .int .i64 0]), 2, 16) := by kernel_rfl
def OwnQ (w : World) (base : Nat) (v : Value) (L : List (Int × Int)) : Prop := w.ownsRow base 88 2 v L.length (pv L)
theorem OwnQ.fr {w w' : World} {base : Nat} {v : Value} {L : List (Int × Int)} {F : List Nat} (h : OwnQ w base v L) (g : Fr w w' F) (hF : ∀ k, v.ownBlock = some k → k ∉ F) : OwnQ w' base v L := by
  refine ⟨h.1, ?_⟩
  rcases h.2 with h0 | ⟨b, cap, cur, rfl, h1, h2, r⟩
  · exact Or.inl h0
  · exact Or.inr ⟨b, cap, cur, rfl, h1, g.blk h2 (hF b rfl), r⟩
theorem OwnQ.below {w w' : World} {base : Nat} {v : Value} {L : List (Int × Int)} (h : OwnQ w base v L) (g : Below w.heap.size w w') : OwnQ w' base v L := h.fr (Fr.of_below g []) (by simp)
theorem OwnQ.shape {w : World} {base : Nat} {v : Value} {L : List (Int × Int)} (h : OwnQ w base v L) : ∃ a cap, v = .slice a L.length cap := by
  rcases h.2 with ⟨rfl, h0⟩ | ⟨g, cap, cur, rfl, _⟩
  · exact ⟨none, 0, by rw [h0]⟩
  · exact ⟨_, _, rfl⟩
theorem OwnQ.low {w : World} {base : Nat} {v : Value} {L : List (Int × Int)} (h : OwnQ w base v L) : ∀ x ∈ ownL v, base ≤ x := fun x hx => by
  unfold ownL at hx
  rcases h.2 with ⟨rfl, _⟩ | ⟨b, cap, cur, rfl, h1, h2, r⟩
  · cases hx
  · simp [Value.ownBlock] at hx; omega
theorem OwnQ.at {w : World} {base n c : Nat} {ao : Option Addr} {L : List (Int × Int)} (h : OwnQ w base (.slice ao n c) L) (j : Nat) (hj : j < n) :
    ∃ g, ao = some ⟨g, 0, none⟩ ∧ j < L.length ∧ g < w.heap.size ∧ w.rangeAt g (j * 2) [.int .i64 (L.getD j (0, 0)).1, .int .i64 (L.getD j (0, 0)).2] := by
  have hh := h
  rcases h.2 with ⟨e, h0⟩ | ⟨b, cap, cur, e, h1, h2, r⟩
  · injection e with _ e2 _; omega
  · injection e with e1 e2 e3
    have hj' : j < L.length := by omega
    refine ⟨b, e1, hj', hp_lt h2, fun i u hu => ?_⟩
    subst e1
    have hg := pv_get L j hj'
    match i, hu with
    | 0, hu =>
      simp at hu; subst hu
      have := World.ownsRow.cells hh (g := b) rfl (2 * j) _ hg.1
      rw [ad_off] at this
      rw [show j * 2 + 0 = 0 + 2 * j by omega]; exact this
    | 1, hu =>
      simp at hu; subst hu
      have := World.ownsRow.cells hh (g := b) rfl (2 * j + 1) _ hg.2
      rw [ad_off] at this
      rw [show j * 2 + 1 = 0 + (2 * j + 1) by omega]; exact this
    | i + 2, hu => simp at hu
/-- append of one pair, as one step of a region that draws its order -/
theorem step_app_pr {ops : Array Oper} {o : Oper} {act : Act} {w : World} {K : Act → World → Prop} {Q : Exit → Act → World → Prop} {E : Prop} (hgd : o.guard = none) (s x : Operand)
    (ho : o.op = .call { callee := .builtin .append, args := #[s, x], argTypes := #[85, 85] })
    (base : Nat) (v : Value) (L : List (Int × Int)) (hs : act.eval s = v) (hown : OwnQ w base v L) (b : Nat) (y : Int × Int) (hx : act.eval x = .slice (some ⟨b, 0, none⟩) 1 1) (hb : w.rangeAt b 0 [.int .i64 y.1, .int .i64 y.2])
    (hlen : L.length ≤ 1000000000000) (hbase : base ≤ w.heap.size)
    (h : ∀ v' w', OwnQ w' base v' (L ++ [y]) → w.grownBy w' v.ownBlock → K (act.put o.dst v') w') :
    if Region.wanted o (yielded ops act.tmps) = true then Oper.wp Try.prog o act w K Q else E := by
  have hw : Region.wanted o (yielded ops act.tmps) = true := by simp [Region.wanted, hgd]
  rw [if_pos hw]
  obtain ⟨i0, hi, hz0, hz1, hz2⟩ := info_parts Try.infoPr
  obtain ⟨v', w', hr, h1, h2, _⟩ := run_append_own (P := Try.prog) w base 85 o.type 88 i0 (.agg #[.int .i64 0, .int .i64 0]) 2 16 Try.underlying85 hi hz0 hz1 hz2 rfl (by decide) v L.length _ hown ⟨b, 0, none⟩ 1 1 (pv [y]) rfl (fun j u hu => by rw [ad_off]; exact hb j u hu) (pv_one [y]) (by unfold maxLen; omega) (by omega) hbase
  unfold Oper.wp
  simp [execOp, ho, resolve, invoke, builtin, hs, hx, hr, Result.andThen]
  exact h v' w' (by unfold OwnQ; rw [pv_app, List.length_append]; exact h1) h2

section
variable {w : World} {base m most : Nat} {L : List (Int × Int)} {hh mi g : Int} {F : List Nat}

set_option maxRecDepth 100000 in
set_option maxHeartbeats 4000000 in
theorem ipairs_mo (q : iMo w base m most L hh mi g F) :
    Calls Try.prog 45 #[pt m] w fun e w' => ∃ v, e = .returned v ∧ OwnQ w' w.heap.size v L ∧ Below w.heap.size w w' := by
  obtain ⟨mb, z, N, ⟨q, hle⟩, rfl, rfl⟩ := q
  have c1 := q.c1
  have hlen := q.map.len Try.underlying68
  have HQ := hid q
  have hb4 := q.le
  obtain ⟨i0, hi, hz0, hz1, hz2⟩ := info_parts Try.infoPr
  clear q
  go_enter Try.func45, Try.ntmps45
  go_upto_region 2 with (first
    | (at_make; refine wpList_make_own w rfl _ _ 85 rfl w.heap.size 88 i0 (.agg #[.int .i64 0, .int .i64 0]) 2 Try.underlying85 hi hz0 hz1 .i64 .i64 (N.length : Int) N.length rfl rfl rfl (by rw [hz2]; omega) (by unfold maxLen; omega) (Nat.le_refl _) ?_; intro w2 ho2 hg2))
  try simp only [Act.put, List.setIfInBounds_toArray, List.set_cons_succ, List.set_cons_zero]
  have b2 : Below w.heap.size w w2 := gb_none hg2
  have HO2 : Hid (OwnQ w2 w.heap.size (.slice (some ⟨w.heap.size, 0, none⟩) 0 N.length) []) := hid ho2
  have HQ2 := hid (HQ.out.below b2)
  have HB2 := hid b2
  have d2 := HQ2.out.c2
  have HNW := hid (inewest_any w2 z _ HQ2.out.ring.newest (HQ2.out.ring.lt z (by simp)))
  clear ho2 hg2 b2 c1 hlen hi hz0 hz1 hz2
  go_wp2_with fail
  refine HNW.out.mono ?_
  rintro e w4 ⟨rfl, hw4⟩
  have b4 : Below w2.heap.size w2 w4 := by rw [hw4]; exact below_walk _ _
  have HQ4 := hid (HQ2.out.below b4)
  have HO4 := hid (HO2.out.below b4)
  have HB4 := hid (HB2.out.trans (b4.mono HB2.out.size))
  clear hw4 b4 HNW HQ2 HO2 HB2 d2
  go_wp2
  go_loopw [4, 3] (fun ve vl wr => ∃ (A R : List iNd), Hid (N = A ++ R) ∧ ve = pt ((ibs R).head?.getD z) ∧ Hid (OwnQ wr w.heap.size vl (A.map ikv)) ∧ Hid (iMm wr base m mb z most N hh mi g) ∧ Hid (Below w.heap.size w wr)) (fun _ vl _ => N.length - lenOf vl)
  case atStart => exact ⟨[], N, hid rfl, rfl, HO4, HQ4, HB4⟩
  case round =>
    clear HQ4 HO4 HB4
    obtain ⟨A, R, HN, rfl, HO, HQ', HW⟩ := hrel
    have d2 := HQ'.out.c2
    cases R with
    | nil =>
      have hl : (ibs []).head?.getD z = z := rfl
      rw [hl]
      have hps := ptr_same wr z
      go_wp2
      go_ret
      have hnl := HN.out
      simp at hnl
      subst hnl
      exact ⟨_, rfl, HO.out, HW.out⟩
    | cons x R =>
      have hNe : N = A ++ x :: R := HN.out
      have hxN : x ∈ N := by rw [hNe]; simp
      have hv : (ibs (x :: R)).head?.getD z = x.b := rfl
      rw [hv]
      obtain ⟨xb, HXB⟩ : ∃ xb, Hid (x.b = xb) := ⟨_, rfl⟩
      obtain ⟨xk, HXK⟩ : ∃ xk, Hid (x.k = xk) := ⟨_, rfl⟩
      obtain ⟨xv, HXV⟩ : ∃ xv, Hid (x.v = xv) := ⟨_, rfl⟩
      rw [HXB.out]
      have he := HQ'.out.ents x hxN
      rw [HXB.out, HXV.out, show ikV x.k = .int .i64 xk by rw [← HXK.out]; rfl] at he
      obtain ⟨kz, vz, hz⟩ := HQ'.out.ring.en z (by simp)
      have hxz : xb ≠ z := fun e => (List.nodup_cons.1 HQ'.out.ring.nd).1 (by rw [← e, ← HXB.out]; exact List.mem_map.2 ⟨x, hxN, rfl⟩)
      have hps := ptr_other he hz hxz
      have bd : Below wr.heap.size wr wr.drew := ⟨rfl, rfl, rfl, Nat.le_refl _, fun _ _ => rfl⟩
      have e0 := (he.below bd).c0
      have e1 := (he.below bd).c1
      have ba : Below wr.heap.size wr (wr.alloc (.cells #[.int .i64 xk, .int .i64 xv] 88)).drew := by
        have h := below_walk wr (.cells #[.int .i64 xk, .int .i64 xv] 88)
        exact ⟨h.os, h.tape, h.output, h.size, h.block⟩
      have HBA := hid ba
      have HOA := hid (HO.out.below ba)
      have HRA : Hid ((wr.alloc (.cells #[.int .i64 xk, .int .i64 xv] 88)).drew.rangeAt wr.heap.size 0 [.int .i64 (xk, xv).1, .int .i64 (xk, xv).2]) := hid (fun i u hu => by
        show (wr.alloc (.cells #[.int .i64 xk, .int .i64 xv] 88)).cell? ⟨wr.heap.size, 0 + i, none⟩ = some u
        rw [cell_of_row _ _ _ _ _ _ (hp_new wr _), Nat.zero_add]
        simpa using hu)
      have HSZ := hid (Nat.le_trans HW.out.size ba.size)
      have hAl : (A.map ikv).length ≤ 8192 := by have := congrArg List.length hNe; simp at this ⊢; omega
      have hsh := HO.out.shape
      obtain ⟨AL, HAL⟩ : ∃ AL, Hid (A.map ikv = AL) := ⟨_, rfl⟩
      rw [HAL.out] at HO HOA hAl hsh
      obtain ⟨al, cl, rfl⟩ := hsh
      have HNE := hid hNe
      clear he hz hxz bd ba hNe hv hxN
      go_upto_region 5 with fail
      go_region_law ((refine step_app_pr (by rfl) (.tmp 27) (.tmp 37) (by rfl) w.heap.size (.slice al AL.length cl) AL (by rfl) (by exact HOA.out) wr.heap.size (xk, xv) (by rfl) (by exact HRA.out) (by omega) (by exact HSZ.out) ?_; intro v6 w6 ho6 hg6; obtain ⟨O6, HE6⟩ : ∃ O6, Hid (AL ++ [(xk, xv)] = O6) := ⟨_, rfl⟩; rw [HE6.out] at ho6; have HO6 := hid ho6; have HF6 := hid (((Fr.of_below HBA.out (ownL (.slice al AL.length cl))).trans ⟨hg6.os, hg6.tape, hg6.output, hg6.size, fun q hq hn => hg6.block q hq (fun e => hn (by unfold ownL; rw [← e]; simp))⟩ (fun q hq => Or.inl hq))); obtain ⟨a6, c6, hv6⟩ := ho6.shape; subst hv6; clear ho6 hg6))
      all_goals
        have HQ6 := hid (HQ'.out.fr HF6.out (fun y hy e => by have h1 := HQ.out.lts y hy; have h2 := HO.out.low y e; omega))
        have HB6 := hid (HW.out.trans (HF6.out.below HW.out.size (fun y hy => HO.out.low y hy)))
        have e3 : w6.cell? ⟨xb, 3, none⟩ = some (pt ((ibs R).head?.getD z)) := by
          have hr := HQ6.out.ring
          rw [HNE.out, ibs_app, ibs_cons] at hr
          have := hr.older
          rw [HXB.out, List.headD_eq_head?_getD] at this
          exact this
        clear e0 e1
        go_wp2
        refine ⟨⟨A ++ [x], R, hid (by rw [HNE.out]; simp), rfl, ?_, HQ6, HB6⟩, ?_⟩
        · rw [List.map_append, HAL.out, show [x].map ikv = [(xk, xv)] by rw [← HXK.out, ← HXV.out]; rfl, HE6.out]
          exact HO6
        · have h1 := congrArg List.length HNE.out
          have h2 := congrArg List.length HAL.out
          have h3 := congrArg List.length HE6.out
          simp at h1 h2 h3
          simp [lenOf]
          omega
end

end Go.Proofs.Ytnbbebapfiocpaa

/- All: its value, and how it goes. -/
namespace Go.Proofs.Ytnbbebapfiocpaa
open Go.RowKit Go.Shelf

attribute [local go_sem] Oper.semAt_some

set_option maxHeartbeats 1000000 in
/-- All boxes the pairs; its value captures the box -/
theorem iall_mo {w : World} {base m most : Nat} {L : List (Int × Int)} {hh mi g : Int} {F : List Nat} (q : iMo w base m most L hh mi g F) :
    Calls Try.prog 22 #[pt m] w fun e w' => ∃ v b, e = .returned (.func (.func 46) #[] #[pt b]) ∧ w.heap.size ≤ b ∧ w'.cell? ⟨b, 0, none⟩ = some v ∧ OwnQ w' w.heap.size v L ∧ Below w.heap.size w w' := by
  have hmf : ∀ (fn : Fn) (first cap : Array Value) (w : World), (Instr.makeFunc fn first cap).run Try.prog w = .ok (.func fn first cap) w := fun _ _ _ _ => rfl
  have HP := hid (ipairs_mo q)
  obtain ⟨mb, z, N, ⟨q, _⟩, hL, hF⟩ := q
  have HM := hid (imade_any q)
  clear q hL hF
  go_enter Try.func22, Try.ntmps22
  go_wp2_with fail
  refine HM.out.mono ?_
  rintro e w1 ⟨rfl, hw⟩
  have hws := hw.symm
  subst hws
  go_wp2_with fail
  refine HP.out.mono ?_
  rintro e w2 ⟨v, rfl, o2, b2⟩
  obtain ⟨av, cv, hv⟩ := o2.shape
  have HO2 := hid o2
  have HB2 := hid b2
  subst hv
  clear o2 b2
  go_wp2
  go_ret
  refine ⟨_, w2.heap.size, rfl, HB2.out.size, ?_, HO2.out.below (below_walk w2 _), HB2.out.alloc HB2.out.size _⟩
  unfold World.cell?
  rw [hp_new]
  rfl

/-- a round keeps the row of pairs -/
def KpB (b : Nat) (W W' : World) : Prop := W'.heap[b]? = W.heap[b]? ∧ W.heap.size ≤ W'.heap.size
theorem kpB_t {b : Nat} {A B C : World} (h : KpB b A B) (k : KpB b B C) : KpB b A C := ⟨k.1.trans h.1, Nat.le_trans h.2 k.2⟩
theorem kpB_b {b : Nat} {w : World} (hb : b < w.heap.size) (W : World) (l : Nat) (o o' : Obj) (hl : w.heap.size ≤ l) (_ : W.heap[l]? = some o) (_ : o.isCells = false) (_ : o.isWalk = false) : KpB b W (W.putObj l o') := by
  constructor
  · have hne : l ≠ b := by omega
    simp [World.putObj, hne]
  · simp [World.putObj]

set_option maxRecDepth 100000 in
set_option maxHeartbeats 2000000 in
theorem all2_in (F : Fence) (n : Nat) (h8 : F.fn 46) (hro : F.round = none) (hn : 1 ≤ n) (l Bs b cap : Nat) (L : List (Int × Int)) (hreach : L.length ≤ 8192) (J Jx : List (Int × Int) → World → Prop)
    (hY : ∀ pre x W, J pre W → pre.length < L.length → YieldAt F (n - 1) Try.prog l #[.int .i64 x.1, .int .i64 x.2] W fun e W' =>
      (e = .returned (.bool true) ∧ J (pre ++ [x]) W' ∧ KpB b W W') ∨ (e = .returned (.bool false) ∧ Jx (pre ++ [x]) W'))
    (W : World) (hbW : b < W.heap.size) (hJ : AbidesFrom W.heap.size J) (hBs : W.cell? ⟨Bs, 0, none⟩ = some (.slice (some ⟨b, 0, none⟩) L.length cap)) (hc : ∀ j, j < L.length → W.rangeAt b (j * 2) [.int .i64 (L.getD j (0, 0)).1, .int .i64 (L.getD j (0, 0)).2]) (h0 : J [] W) :
    CallsIn F n Try.prog 46 #[.func (.yield l) #[] #[], pt Bs] W fun e W' => (∃ v, e = .returned v) ∧
      ((∃ ys, ys = L ∧ J ys W') ∨ (∃ pre, (∃ k, k ≤ L.length ∧ pre = L.take k) ∧ Jx pre W')) := by
  refine callsIn_of_wp Try.func46 rfl h8 ?_ hro
  simp only [Try.ntmps46, List.size_toArray, List.length_cons, List.length_nil, Nat.reduceAdd, Nat.reduceSub, Array.replicate_succ, Array.replicate_zero, List.push_toArray, List.append_toArray, List.nil_append, List.cons_append]
  gi_wp2
  gi_loopw [7] (fun i wr => ∃ k : Nat, k ≤ L.length ∧ i = .int .i64 k ∧ J (L.take k) wr ∧ KpB b W wr) (fun i _ => L.length - (intOf i).toNat)
  case atStart => exact ⟨0, Nat.zero_le _, rfl, h0, rfl, Nat.le_refl _⟩
  case round =>
    obtain ⟨k, hk, rfl, hJs, hnx⟩ := hrel
    by_cases hlt : k < L.length
    · have hr := hc k hlt
      obtain ⟨a, c, hac⟩ : ∃ a c, L.getD k (0, 0) = (a, c) := ⟨_, _, rfl⟩
      rw [hac] at hr
      have c0 : wr.cell? ⟨b, k * 2, none⟩ = some (.int .i64 a) := (World.cell?_of_block hnx.1).trans (hr 0 _ rfl)
      have c1 : wr.cell? ⟨b, k * 2 + 1, none⟩ = some (.int .i64 c) := (World.cell?_of_block hnx.1).trans (hr 1 _ rfl)
      have htk : L.take (k + 1) = L.take k ++ [(a, c)] := by
        rw [List.take_add_one, List.getElem?_eq_getElem hlt, ← hac, List.getD_eq_getElem?_getD, List.getElem?_eq_getElem hlt]; rfl
      have hJ2 : J (L.take k) (wr.alloc (.cells #[.int .i64 a, .int .i64 c] 88)) := hJ _ _ _ none hJs (World.grownBy_alloc wr _ none) (by simp)
      obtain ⟨fn, tmps, assign, body, hy, hR⟩ := hY _ (a, c) _ hJ2 (by simp; omega)
      dsimp only at hy
      have hnx2 : KpB b W (wr.alloc (.cells #[.int .i64 a, .int .i64 c] 88)) := kpB_t hnx ⟨hp_old wr _ b (Nat.lt_of_lt_of_le hbW hnx.2), by simp⟩
      gi_wp2
      refine hR.mono ?_
      rintro e W3 (⟨rfl, hJ3, hk3⟩ | ⟨rfl, hJx3⟩)
      · gi_wp2
        go_roundw
        case rel => exact ⟨k + 1, by omega, by simp, by rw [htk]; exact hJ3, kpB_t hnx2 hk3⟩
        case measure => simp [intOf]; omega
      · gi_wp2
        refine bodyPost_ret (results_none rfl _ _ _) rfl ?_
        exact ⟨⟨_, rfl⟩, .inr ⟨_, ⟨k + 1, by omega, htk.symm⟩, hJx3⟩⟩
    · obtain rfl : k = L.length := by omega
      gi_wp2
      go_end0
      exact ⟨⟨_, rfl⟩, .inl ⟨_, rfl, by rw [List.take_length] at hJs; exact hJs⟩⟩

set_option maxRecDepth 100000 in
set_option maxHeartbeats 1000000 in
theorem all2_nil_in (F : Fence) (n : Nat) (h8 : F.fn 46) (hro : F.round = none) (l Bs : Nat) (J : List (Int × Int) → World → Prop) (W : World) (hBs : W.cell? ⟨Bs, 0, none⟩ = some (.slice none 0 0)) (h0 : J [] W) :
    CallsIn F n Try.prog 46 #[.func (.yield l) #[] #[], pt Bs] W fun e W' => (∃ v, e = .returned v) ∧ J [] W' := by
  refine callsIn_of_wp Try.func46 rfl h8 ?_ hro
  simp only [Try.ntmps46, List.size_toArray, List.length_cons, List.length_nil, Nat.reduceAdd, Nat.reduceSub, Array.replicate_succ, Array.replicate_zero, List.push_toArray, List.append_toArray, List.nil_append, List.cons_append]
  gi_wp2
  gi_loopw [7] (fun i wr => i = .int .i64 0 ∧ J [] wr) (fun _ _ => 0)
  case atStart => exact ⟨rfl, h0⟩
  case round =>
    obtain ⟨rfl, hJs⟩ := hrel
    gi_wp2
    go_end0
    exact ⟨⟨_, rfl⟩, hJs⟩

/-- All's value goes over the pairs in their order; it may be left -/
theorem all2_stops (F : Fence) (n : Nat) (h8 : F.fn 46) (hro : F.round = none) (hn : 1 ≤ n) (Bs base : Nat) (sv : Value) (b : Nat) (L : List (Int × Int)) (hreach : L.length ≤ 8192) (w : World) (hcell : w.cell? ⟨Bs, 0, none⟩ = some sv) (hBs : Bs < w.heap.size) (hQ : OwnQ w base sv L) (hsv : ∀ k, sv.ownBlock = some k → k = b) :
    SeqStopsK F n Try.prog 46 #[pt Bs] (fun x : Int × Int => #[.int .i64 x.1, .int .i64 x.2]) (KpB b) (fun ys => ys = L) (fun pre => ∃ k, k ≤ L.length ∧ pre = L.take k) L.length w := by
  intro l J Jx W hW hJ hJx hY h0
  have hc' : W.cell? ⟨Bs, 0, none⟩ = some sv := (hW.cell (p := ⟨Bs, 0, none⟩) hBs).trans hcell
  have hq := hQ.below hW
  rcases hq.2 with ⟨rfl, h1⟩ | ⟨g, cap, cur, rfl, h1, h2, r⟩
  · obtain rfl := List.length_eq_zero_iff.1 h1
    refine (all2_nil_in F n h8 hro l Bs J W hc' h0).mono ?_
    rintro e W' ⟨h1, h2⟩
    exact ⟨h1, .inl ⟨[], rfl, h2⟩⟩
  · obtain rfl : g = b := hsv g rfl
    exact all2_in F n h8 hro hn l Bs g cap L hreach J Jx hY W (hp_lt h2) hJ hc' (fun j hj => by
      obtain ⟨g', e, _, _, hr⟩ := hq.at j hj
      injection e with e; injection e with e; subst e; exact hr) h0

end Go.Proofs.Ytnbbebapfiocpaa

/- A region that draws its order and only reads, inside a round of a range over a function: walked once. -/
namespace Go.Proofs.Ytnbbebapfiocpaa
open Go.RowKit

/-- no operation of the region is a defer statement -/
def noDefer (l : List Oper) : Bool := l.all fun o => match o.op with | .defer _ => false | _ => true
theorem noDefer_at {l : List Oper} (h : noDefer l = true) {i : Nat} {o : Oper} (ho : l.toArray[i]? = some o) (c) : o.op ≠ .defer c := by
  intro e
  have hm : o ∈ l := by
    have : l[i]? = some o := by simpa using ho
    exact List.mem_of_getElem? this
  have := (List.all_eq_true.mp h) o hm
  rw [e] at this
  exact absurd this Bool.false_ne_true

variable {F : Fence} {n : Nat} {P : Program} {C : World → Prop}

/-- an operation that reads, in whatever fence -/
theorem quiet_any {o : Oper} {a : Act} {K : Act → Prop} {K' : Act → World → Prop} {Q : Exit → Act → World → Prop} {w : World} (hd : ∀ c, o.op ≠ .defer c) (hw : C w)
    (hk : ∀ a w', C w' → K a → K' a w') (ha : o.askedIn F P a C) (hq : o.quietIn F n P a C K) : o.wpIn F n P a w K' Q := by
  obtain ⟨v, hv, hn⟩ := hq
  refine ⟨ha w hw, ?_⟩
  rw [Oper.semAt_plain F _ _ hd]
  have hv := hv w hw
  unfold Oper.quietAtIn at hv
  revert hv
  cases (execOp a.eval o).run P w with
  | halt x w' => intro hv; exact hv.elim
  | ok x w' =>
    cases x with
    | value u => rintro ⟨rfl, rfl⟩; exact hk _ _ hw hn
    | skip => rintro ⟨rfl, rfl⟩; exact hk _ _ hw hn
    | enter f args =>
      rintro ⟨rfl, hr, hc⟩
      refine ⟨hr, hc.mono ?_⟩
      rintro e w'' ⟨rfl, hw''⟩
      exact hk _ _ hw'' hn
    | _ => intro hv; exact hv.elim

theorem quiet_orders {l : List Oper} (hd : noDefer l = true) {Q : Act → Prop} {Q' : Exit → Act → World → Prop} (hQ : ∀ a w, C w → Q a → Q' .normal a w) (fuel : Nat) :
    ∀ (listed : Array Bool) (a : Act) (w : World), C w → wpAnyQIn F n P .any l.toArray C Q fuel listed a → wpAnyIn F n P .any l.toArray Q' fuel listed a w := by
  induction fuel with
  | zero => intro _ _ _ hw h; exact ⟨h.1, hQ _ _ hw h.2⟩
  | succ k ih =>
    intro listed a w hw h
    refine ⟨fun h0 => hQ _ _ hw (h.1 h0), fun i hi => ?_⟩
    have hq := h.2 i hi
    unfold qOpIn at hq
    unfold wpOpIn
    cases ho : l.toArray[i]? with
    | none => simp only [ho] at hq ⊢; exact ih _ _ _ hw hq
    | some o =>
      simp only [ho] at hq ⊢
      by_cases hg : Region.wanted o (yielded l.toArray a.tmps) = true
      · rw [if_pos hg] at hq ⊢
        exact quiet_any (noDefer_at hd ho) hw (fun a' w' hw' h' => ih _ a' w' hw' h') hq.1 hq.2
      · rw [if_neg hg] at hq ⊢
        exact ⟨hq.1 w hw, ih _ _ _ hw hq.2⟩

/-- one walk of the text's order, in whatever fence: in a round too -/
theorem region_round {id : Nat} {Q : Exit → Act → World → Prop} {a : Act} {w : World} {l : List Oper} (hd : noDefer l = true) (hm : P.follows .mixedOrders = true) (hB : Region.lexB .any l.toArray = true)
    (h : wpQuietIn F n P l.toArray (fun w' => ∃ n, w' = w.drewN n) (fun a' => ∀ w', (∃ n, w' = w.drewN n) → Q .normal a' w') l a) : (Code.region id l.toArray true).wpIn F n P Q a w := by
  simp only [Region.lexB, Bool.and_eq_true] at hB
  refine wpIn_region_any hm (quiet_orders (C := fun w' => ∃ n, w' = w.drewN n) (Q := fun a' => ∀ w', (∃ n, w' = w.drewN n) → Q .normal a' w') hd (fun _ w' hw' h => h w' hw') _ _ _ _ ⟨1, rfl⟩ ?_)
  have := wpAnyQIn_lex (F := F) (n := n) (C := fun w' => ∃ n, w' = w.drewN n) (md := .any) hB.1 l 0 (Array.replicate l.toArray.size false) a (by simp) (by simpa using hB.2) h
  simpa using this

end Go.Proofs.Ytnbbebapfiocpaa
