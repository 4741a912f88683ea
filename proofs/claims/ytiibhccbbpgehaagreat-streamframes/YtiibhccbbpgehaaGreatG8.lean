/- Contracts and pure facts that the proof needs, joined. -/
import Derived.Test.YtiibhccbbpgehaaGreatG7
import Derived.StillTailTactics
import Derived.Test.YtiibhccbbpgehaaGreatG5
import Derived.Test.YtiibhccbbpgehaaGreatG6

/- The document's reader: Raw, Byte, Bool, Count. -/
namespace Go.Proofs.YtiibhccbbpgehaaGreat
open Go.RowKit

section

variable {w : World} {base b : Nat} {v : Value} {bs : List UInt8} {a : Nat} {why wat : Int}

end

end Go.Proofs.YtiibhccbbpgehaaGreat

/- The document's reader: Text. -/
namespace Go.Proofs.YtiibhccbbpgehaaGreat
open Go.RowKit

section
variable {w : World} {base b : Nat} {v : Value} {bs : List UInt8} {a : Nat} {why wat : Int}

end

end Go.Proofs.YtiibhccbbpgehaaGreat

/- The document's reader: List. -/
namespace Go.Proofs.YtiibhccbbpgehaaGreat
open Go.RowKit

theorem Qd.far {w w' : World} {base b : Nat} {v : Value} {bs : List UInt8} {a : Nat} {why wat : Int} {row : Option Nat} {B : Nat} (h : Qd w base b v bs a why wat) (hg : w.grownBy w' row) (hb : b < B) (hv : ∀ j, v.ownBlock = some j → j < B) (hr : ∀ j, row = some j → B ≤ j) : Qd w' base b v bs a why wat := by
  refine h.grown hg (fun e => by have := hr _ e; omega) ?_
  cases e : v.ownBlock with
  | none => exact Or.inl rfl
  | some j =>
    refine Or.inr (fun e2 => ?_)
    have h1 := hv j e
    have h2 := hr j e2.symm
    omega

section
variable {w : World} {base b : Nat} {v : Value} {bs : List UInt8} {a : Nat} {why wat : Int}

end

end Go.Proofs.YtiibhccbbpgehaaGreat

/- The document's some. -/
namespace Go.Proofs.YtiibhccbbpgehaaGreat
open Go.RowKit Go.BigFrame

/-- the document's reader, where it stands so -/
def Qs (w : World) (base b : Nat) (v : Value) (bs : List UInt8) (s : St) : Prop := Qd w base b v bs s.1 s.2.1 s.2.2
section
variable {w w' : World} {base b : Nat} {v : Value} {bs : List UInt8} {s : St}
theorem Qs.below (h : Qs w base b v bs s) (hb : Below w.heap.size w w') : Qs w' base b v bs s := Qd.below h hb
theorem Qs.lt (h : Qs w base b v bs s) : b < w.heap.size := Qd.lt h
theorem Qs.own (h : Qs w base b v bs s) : ∀ k, v.ownBlock = some k → k < w.heap.size := fun k hk => ((Qd.own h).lt k hk).2
theorem Qs.far {n : Nat} (h : Qs w base b v bs s) (hg : w.grownBy w' (some n)) (h1 : b < n) (h3 : ∀ k, v.ownBlock = some k → k < n) : Qs w' base b v bs s :=
  Qd.grown h hg (fun e => by injection e with e; omega) (by
    cases hv : v.ownBlock with
    | none => exact Or.inl rfl
    | some k => exact Or.inr (fun e => by injection e with e; have := h3 k hv; omega))
end

end Go.Proofs.YtiibhccbbpgehaaGreat

/- The document's fields, where the kind that is read is 0. -/
namespace Go.Proofs.YtiibhccbbpgehaaGreat
open Go.RowKit Go.BigFrame

end Go.Proofs.YtiibhccbbpgehaaGreat

/- The document's fields, where the kind that is read is 1. -/
namespace Go.Proofs.YtiibhccbbpgehaaGreat
open Go.RowKit Go.BigFrame

end Go.Proofs.YtiibhccbbpgehaaGreat

/- The document's fields, where the kind that is read is 2. -/
namespace Go.Proofs.YtiibhccbbpgehaaGreat
open Go.RowKit Go.BigFrame

end Go.Proofs.YtiibhccbbpgehaaGreat

/- The document's fields, where the kind that is read is 3. -/
namespace Go.Proofs.YtiibhccbbpgehaaGreat
open Go.RowKit Go.BigFrame

end Go.Proofs.YtiibhccbbpgehaaGreat

/- The document's fields, where the kind that is read is 4. -/
namespace Go.Proofs.YtiibhccbbpgehaaGreat
open Go.RowKit Go.BigFrame

end Go.Proofs.YtiibhccbbpgehaaGreat

/- The document's fields, where the kind that is read is 5. -/
namespace Go.Proofs.YtiibhccbbpgehaaGreat
open Go.RowKit Go.BigFrame

end Go.Proofs.YtiibhccbbpgehaaGreat

/- The document's fields, where the kind that is read is 6. -/
namespace Go.Proofs.YtiibhccbbpgehaaGreat
open Go.RowKit Go.BigFrame

end Go.Proofs.YtiibhccbbpgehaaGreat

/- What may be, of fields that were read without a fault, plainly. -/
namespace Go.Proofs.YtiibhccbbpgehaaGreat
open Go.RowKit

end Go.Proofs.YtiibhccbbpgehaaGreat

/- Toward the document's Decode. -/
namespace Go.Proofs.YtiibhccbbpgehaaGreat
open Go.RowKit Go.BigFrame

end Go.Proofs.YtiibhccbbpgehaaGreat

/- The document's Decode. -/
namespace Go.Proofs.YtiibhccbbpgehaaGreat
open Go.RowKit Go.BigFrame

end Go.Proofs.YtiibhccbbpgehaaGreat

/- The document's decoder: its state, how many bytes are needed, one byte taken. -/
namespace Go.Proofs.YtiibhccbbpgehaaGreat
open Go.RowKit Go.BigFrame

def sxC (M : Nat) (vr vs : Value) (s : Sx) : List Value := [.int .i64 M, vr, .int .i64 s.came, .int .i64 s.whole, .int .i64 s.why, .int .i64 s.wat, vs]
def intsV8 (l : List Nat) : List Value := l.map fun (n : Nat) => Value.int .i64 (n : Int)
/-- v owns the numbers l -/
def OwnI (w : World) (base : Nat) (v : Value) (l : List Nat) : Prop := w.ownsRow base 3 1 v l.length (intsV8 l)
theorem OwnI.nil (w : World) (base : Nat) : OwnI w base (.slice none 0 0) [] := World.ownsRow_nil _ _ _ _
theorem OwnI.shape {w : World} {base : Nat} {v : Value} {l : List Nat} (h : OwnI w base v l) : ∃ a c, v = .slice a l.length c := by
  rcases h.2 with ⟨rfl, h0⟩ | ⟨g, cap, cur, rfl, _⟩
  · exact ⟨none, 0, by rw [h0]⟩
  · exact ⟨_, _, rfl⟩
theorem Tryz.infoI64 : (Tryz.prog.info? 3).map (fun i => (i.zero, i.size, i.bytes)) = some (some (.int .i64 0), 1, 8) := by kernel_rfl
theorem sxC_one {M : Nat} {vr vs : Value} {s : Sx} (h1 : vr.oneCell' = true) (h2 : vs.oneCell' = true) : ∀ u ∈ sxC M vr vs s, u.oneCell' = true := by
  intro u hu
  simp only [sxC, List.mem_cons, List.not_mem_nil, or_false] at hu
  rcases hu with rfl | rfl | rfl | rfl | rfl | rfl | rfl
  all_goals first | assumption | rfl

/-- the document's state in a block of its own -/
structure Sb (w : World) (base b : Nat) (M : Nat) (vr vs : Value) (s : Sx) : Prop where
  lo : base ≤ b
  blk : w.heap[b]? = some (.cells (sxC M vr vs s).toArray 47 (0, 0))
  own : OwnB w base vr s.r
  szs : OwnI w base vs s.szs
section
variable {w w' : World} {base b M : Nat} {vr vs : Value} {s : Sx}
theorem Sb.lt (h : Sb w base b M vr vs s) : b < w.heap.size := hp_lt h.blk
theorem Sb.c0 (h : Sb w base b M vr vs s) : w.cell? ⟨b, 0, none⟩ = some (.int .i64 M) := by simp [World.cell?, h.blk, sxC]
theorem Sb.c1 (h : Sb w base b M vr vs s) : w.cell? ⟨b, 1, none⟩ = some vr := by simp [World.cell?, h.blk, sxC]
theorem Sb.c2 (h : Sb w base b M vr vs s) : w.cell? ⟨b, 2, none⟩ = some (.int .i64 s.came) := by simp [World.cell?, h.blk, sxC]
theorem Sb.c3 (h : Sb w base b M vr vs s) : w.cell? ⟨b, 3, none⟩ = some (.int .i64 s.whole) := by simp [World.cell?, h.blk, sxC]
theorem Sb.c4 (h : Sb w base b M vr vs s) : w.cell? ⟨b, 4, none⟩ = some (.int .i64 s.why) := by simp [World.cell?, h.blk, sxC]
theorem Sb.c5 (h : Sb w base b M vr vs s) : w.cell? ⟨b, 5, none⟩ = some (.int .i64 s.wat) := by simp [World.cell?, h.blk, sxC]
theorem Sb.c6 (h : Sb w base b M vr vs s) : w.cell? ⟨b, 6, none⟩ = some vs := by simp [World.cell?, h.blk, sxC]
theorem Sb.fz (h : Sb w base b M vr vs s) (i : Nat) : w.frozen? ⟨b, i, none⟩ = false := by simp [World.frozen?, h.blk]
theorem Sb.ner (h : Sb w base b M vr vs s) : vr.ownBlock ≠ some b := own_block h.own h.blk (by decide)
theorem Sb.nes (h : Sb w base b M vr vs s) : vs.ownBlock ≠ some b := own_block h.szs h.blk (by decide)
theorem Sb.below (h : Sb w base b M vr vs s) (hb : Below w.heap.size w w') : Sb w' base b M vr vs s :=
  ⟨h.lo, (hb.block b h.lt).trans h.blk, h.own.below hb, own_below h.szs hb⟩
theorem Sb.one (h : Sb w base b M vr vs s) : ∀ u ∈ sxC M vr vs s, u.oneCell' = true := by
  obtain ⟨a, c, e⟩ := h.own.shape
  obtain ⟨a2, c2, e2⟩ := h.szs.shape
  exact sxC_one (by rw [e]; rfl) (by rw [e2]; rfl)
theorem Sb.setCame (h : Sb w base b M vr vs s) (n : Nat) : Sb (w.setCell ⟨b, 2, none⟩ (.int .i64 n)) base b M vr vs { s with came := n } :=
  ⟨h.lo, by rw [blk_set h.blk]; rfl, h.own.kept (gb_set w _ _) (Or.inr (by simpa using h.ner)), World.ownsRow.kept h.szs (gb_set w _ _) (Or.inr (by simpa using h.nes))⟩
theorem Sb.setWhole (h : Sb w base b M vr vs s) (n : Nat) : Sb (w.setCell ⟨b, 3, none⟩ (.int .i64 n)) base b M vr vs { s with whole := n } :=
  ⟨h.lo, by rw [blk_set h.blk]; rfl, h.own.kept (gb_set w _ _) (Or.inr (by simpa using h.ner)), World.ownsRow.kept h.szs (gb_set w _ _) (Or.inr (by simpa using h.nes))⟩
theorem Sb.setFault (h : Sb w base b M vr vs s) (y t : Int) : Sb (w.setCells b 4 [.int .i64 y, .int .i64 t]) base b M vr vs { s with why := y, wat := t } := by
  have e : w.setCells b 4 [.int .i64 y, .int .i64 t] = (w.setCell ⟨b, 4, none⟩ (.int .i64 y)).setCell ⟨b, 5, none⟩ (.int .i64 t) := rfl
  rw [e]
  have h1 : Sb (w.setCell ⟨b, 4, none⟩ (.int .i64 y)) base b M vr vs { s with why := y } :=
    ⟨h.lo, by rw [blk_set h.blk]; rfl, h.own.kept (gb_set w _ _) (Or.inr (by simpa using h.ner)), World.ownsRow.kept h.szs (gb_set w _ _) (Or.inr (by simpa using h.nes))⟩
  exact ⟨h.lo, by rw [blk_set h1.blk]; rfl, h1.own.kept (gb_set _ _ _) (Or.inr (by simpa using h1.ner)), World.ownsRow.kept h1.szs (gb_set _ _ _) (Or.inr (by simpa using h1.nes))⟩
theorem Sb.far {n : Nat} (h : Sb w base b M vr vs s) (hg : w.grownBy w' (some n)) (hb : b ≠ n) (hr : vr.ownBlock ≠ some n) (hs : vs.ownBlock ≠ some n) : Sb w' base b M vr vs s :=
  ⟨h.lo, gb_blk h.blk hg (fun e => hb (by injection e with e; exact e.symm)), h.own.kept hg (Or.inr hr), World.ownsRow.kept h.szs hg (Or.inr hs)⟩
theorem Sb.there (h : Sb w base b M vr vs s) : w.there b 4 2 := by
  intro j hj
  match j, hj with
  | 0, _ => exact ⟨by rw [h.c4]; rfl, h.fz _⟩
  | 1, _ => exact ⟨by rw [h.c5]; rfl, h.fz _⟩
theorem Sb.fault (h : Sb w base b M vr vs s) : w.rangeAt b 4 [.int .i64 s.why, .int .i64 s.wat] := by
  intro j u hu
  match j, hu with
  | 0, hu => simp at hu; subst hu; exact h.c4
  | 1, hu => simp at hu; subst hu; exact h.c5
end

/-- what the document's calls keep: all that lay below, frames wherever they lie, blocks that are no bytes and no numbers -/
structure Tk (w X : World) (base : Nat) : Prop where
  bl : Below base w X
  fr : ∀ lo vo gs, OFs w lo vo gs → OFs X lo vo gs
  bk : ∀ (b : Nat) (cs : Array Value) (ty : TypeId), w.heap[b]? = some (.cells cs ty (0, 0)) → ty ≠ 5 → ty ≠ 3 → X.heap[b]? = some (.cells cs ty (0, 0))
theorem Tk.refl (w : World) (base : Nat) : Tk w w base := ⟨Below.refl _ _, fun _ _ _ h => h, fun _ _ _ h _ _ => h⟩
theorem Tk.below {w X Y : World} {base : Nat} (h : Tk w X base) (hb : base ≤ w.heap.size) (g : Below X.heap.size X Y) : Tk w Y base :=
  ⟨h.bl.trans (g.mono (Nat.le_trans hb h.bl.size)), fun _ _ _ k => (h.fr _ _ _ k).below g, fun _ _ _ k h1 h2 => bel_keep g (h.bk _ _ _ k h1 h2)⟩
theorem Tk.grown {w X Y : World} {base : Nat} {row : Option Nat} (h : Tk w X base) (hb : base ≤ w.heap.size) (g : X.grownBy Y row) (hr : ∀ k, row = some k → base ≤ k) (hf : ∀ lo vo gs, OFs X lo vo gs → OFs Y lo vo gs) (hk : ∀ (b : Nat) (cs : Array Value) (ty : TypeId), w.heap[b]? = some (.cells cs ty (0, 0)) → X.heap[b]? = some (.cells cs ty (0, 0)) → ty ≠ 5 → ty ≠ 3 → row ≠ some b) : Tk w Y base :=
  ⟨⟨g.os.trans h.bl.os, g.tape.trans h.bl.tape, g.output.trans h.bl.output, Nat.le_trans h.bl.size g.size, fun k hk => (g.block k (Nat.lt_of_lt_of_le (Nat.lt_of_lt_of_le hk hb) h.bl.size) (fun e => by have := hr k e.symm; omega)).trans (h.bl.block k hk)⟩, fun _ _ _ k => hf _ _ _ (h.fr _ _ _ k), fun b cs ty k h1 h2 => gb_blk (h.bk b cs ty k h1 h2) g (hk b cs ty k (h.bk b cs ty k h1 h2) h1 h2)⟩
theorem Tk.row {w X Y : World} {base base2 n : Nat} {e : TypeId} {size : Nat} {v : Value} {xs : List Value} (h : Tk w X base) (hb : base ≤ w.heap.size) (hv : X.ownsRow base2 e size v n xs) (hb2 : base ≤ base2) (g : X.grownBy Y v.ownBlock) (h1 : 30 ≠ e) (h2 : 9 ≠ e) (h3 : e = 5 ∨ e = 3) : Tk w Y base :=
  h.grown hb g (fun k e9 => Nat.le_trans hb2 (World.ownsRow.lt hv k e9).1) (fun _ _ _ k => k.grown hv g h1 h2) (fun _ _ _ _ hx n1 n2 => own_block hv hx (fun e4 => by rcases h3 with h3 | h3 <;> rw [h3] at e4 <;> simp_all))
theorem Tk.blk {w X Y : World} {base b : Nat} {cs : Array Value} {ty : TypeId} (h : Tk w X base) (hb : base ≤ w.heap.size) (hB : X.heap[b]? = some (.cells cs ty (0, 0))) (hlo : w.heap.size ≤ b) (g : X.grownBy Y (some b)) (h1 : 30 ≠ ty) (h2 : 9 ≠ ty) : Tk w Y base :=
  h.grown hb g (fun k e9 => by injection e9 with e9; omega) (fun _ _ _ k => k.gone g hB h1 h2) (fun _ _ _ hw _ _ _ e4 => by injection e4 with e4; have := hp_lt hw; omega)
theorem Tk.cell {w X : World} {base b i : Nat} {u : Value} {cs : Array Value} {ty : TypeId} (h : Tk w X base) (hb : base ≤ w.heap.size) (hB : X.heap[b]? = some (.cells cs ty (0, 0))) (hlo : w.heap.size ≤ b) (h1 : 30 ≠ ty) (h2 : 9 ≠ ty) : Tk w (X.setCell ⟨b, i, none⟩ u) base :=
  h.blk hb hB hlo (gb_set X _ _) h1 h2
theorem Tk.two {w X : World} {base b : Nat} {u u' : Value} {cs : Array Value} {ty : TypeId} (h : Tk w X base) (hb : base ≤ w.heap.size) (hB : X.heap[b]? = some (.cells cs ty (0, 0))) (hlo : w.heap.size ≤ b) (h1 : 30 ≠ ty) (h2 : 9 ≠ ty) : Tk w (X.setCells b 4 [u, u']) base := by
  have e : X.setCells b 4 [u, u'] = (X.setCell ⟨b, 4, none⟩ u).setCell ⟨b, 5, none⟩ u' := rfl
  rw [e]
  exact (h.cell hb hB hlo h1 h2).cell hb (blk_set hB u) hlo h1 h2

end Go.Proofs.YtiibhccbbpgehaaGreat

/- The document's decoder takes one byte. -/
namespace Go.Proofs.YtiibhccbbpgehaaGreat
open Go.RowKit Go.BigFrame

/-- append(own, numbers...) -/
theorem app_ints {w : World} {ops : Array Oper} {rest : List Oper} {o : Oper} {a : Act} {Q : Exit → Act → World → Prop} (hgd : o.guard = none) (s x : Operand)
    (ho : o.op = .call { callee := .builtin .append, args := #[s, x], argTypes := #[45, 45] })
    (base : Nat) (v : Value) (bs : List Nat) (hs : a.eval s = v) (hown : OwnI w base v bs) (vx : Value) (cs : List Nat) (hx : a.eval x = vx) (hsrc : ∃ b2, OwnI w b2 vx cs)
    (hlen : bs.length + cs.length ≤ 1000000000000) (hbase : base ≤ w.heap.size)
    (h : ∀ v' w', OwnI w' base v' (bs ++ cs) → w.grownBy w' v.ownBlock → (v'.ownBlock = v.ownBlock ∨ v'.ownBlock = some w.heap.size) → wpList Tryz.prog ops Q rest (a.put o.dst v') w') : wpList Tryz.prog ops Q (o :: rest) a w := by
  obtain ⟨i0, hi, hz0, hz1, hz2⟩ := info_parts Tryz.infoI64
  obtain ⟨b2, hsrc⟩ := hsrc
  have hi1 : ∀ u ∈ intsV8 cs, u.oneCell' = true := fun u hu => by simp only [intsV8, List.mem_map] at hu; obtain ⟨n, _, rfl⟩ := hu; rfl
  have hl1 : (intsV8 cs).length = cs.length * 1 := by simp [intsV8]
  rcases hsrc.2 with ⟨rfl, h0⟩ | ⟨g, cap, cur, rfl, _⟩
  · obtain rfl : cs = [] := List.length_eq_zero_iff.1 h0
    refine wpList_append_own_none hgd s x 45 ho base 3 i0 1 Tryz.underlying45 hi v bs.length (intsV8 bs) hs hown hx ?_
    exact h v w (by simpa using hown) (gb_refl _ _) (Or.inl rfl)
  · refine wpList_plain hgd fun K hK => ?_
    have hcl : ∀ j u, (intsV8 cs)[j]? = some u → w.cell? ((⟨g, 0, none⟩ : Addr).add j) = some u := fun j u hu => World.ownsRow.cells hsrc (g := g) rfl j u hu
    obtain ⟨v', w', hr, h5, h6, _⟩ := run_append_own (P := Tryz.prog) w base 45 o.type 3 i0 (.int .i64 0) 1 8 Tryz.underlying45 hi hz0 hz1 hz2 rfl (by decide) v bs.length (intsV8 bs) hown ⟨g, 0, none⟩ cs.length cap (intsV8 cs) hl1 hcl hi1 (by unfold maxLen; omega) (by omega) hbase
    have hp := app_place (P := Tryz.prog) w base 45 o.type 3 i0 (.int .i64 0) 1 8 Tryz.underlying45 hi hz0 hz1 hz2 v bs.length (intsV8 bs) hown ⟨g, 0, none⟩ cs.length cap (intsV8 cs) hl1 hcl hi1 (by unfold maxLen; omega) (by omega) v' w' hr
    unfold Oper.wp execOp
    simp only [ho, resolve, invoke, builtin, Sem.run_bind, Sem.run_pure, Result.andThen_ok, List.map_toArray, List.map_cons, List.map_nil, hs, hx, hr]
    exact hK _ _ (h v' w' (by unfold OwnI; rw [show intsV8 (bs ++ cs) = intsV8 bs ++ intsV8 cs by simp [intsV8], List.length_append]; exact h5) h6 hp)

theorem own_far2 {w w' : World} {base : Nat} {row : Option Nat} {e : TypeId} {size : Nat} {vo : Value} {n : Nat} {xs : List Value} (h : w.ownsRow base e size vo n xs) (g : w.grownBy w' row) (hm : ∀ k, vo.ownBlock = some k → row ≠ some k) : w'.ownsRow base e size vo n xs := by
  refine World.ownsRow.kept h g ?_
  cases hk : vo.ownBlock with
  | none => exact Or.inl rfl
  | some k => exact Or.inr (fun h9 => hm k hk h9.symm)
end Go.Proofs.YtiibhccbbpgehaaGreat
