/- Contracts and pure facts that the proof needs, joined. -/
import Derived.Test.YtiibhccbbpgehabGreatG7
import Derived.Deep.CutRange

/- The document's decoder: its state, how many bytes are needed, one byte taken. -/
namespace Go.Proofs.YtiibhccbbpgehabGreat
open Go.RowKit Go.BigFrame

def sxC (M : Nat) (vr vs : Value) (s : Sx) : List Value := [.int .i64 M, vr, .int .i64 s.came, .int .i64 s.whole, .int .i64 s.why, .int .i64 s.wat, vs]
def intsV8 (l : List Nat) : List Value := l.map fun (n : Nat) => Value.int .i64 (n : Int)
/-- v owns the numbers l -/
def OwnI (w : World) (base : Nat) (v : Value) (l : List Nat) : Prop := w.ownsRow base 3 1 v l.length (intsV8 l)
theorem OwnI.nil (w : World) (base : Nat) : OwnI w base (.slice none 0 0) [] := World.ownsRow_nil _ _ _ _
theorem OwnI.shape {w : World} {base : Nat} {v : Value} {l : List Nat} (h : OwnI w base v l) : ∃ a c, v = .slice a l.length c := by
  rcases h.2 with ⟨rfl, h0⟩ | ⟨g, cap, cur, rfl, _⟩
  · exact ⟨none, 0, by rw [h0]⟩
  · exact ⟨_, _, rfl⟩
theorem Tryz.infoI64 : (Tryz.prog.info? 3).map (fun i => (i.zero, i.size, i.bytes)) = some (some (.int .i64 0), 1, 8) := by kernel_rfl
theorem strmSize : (Tryz.prog.info? 52).map (·.size) = some 7 := by kernel_rfl
theorem zeroStrm (W : World) : (zeroValue 52).run Tryz.prog W = .ok (.agg #[.int .i64 0, .slice none 0 0, .int .i64 0, .int .i64 0, .int .i64 0, .int .i64 0, .slice none 0 0]) W := by kernel_rfl
theorem sxC_one {M : Nat} {vr vs : Value} {s : Sx} (h1 : vr.oneCell' = true) (h2 : vs.oneCell' = true) : ∀ u ∈ sxC M vr vs s, u.oneCell' = true := by
  intro u hu
  simp only [sxC, List.mem_cons, List.not_mem_nil, or_false] at hu
  rcases hu with rfl | rfl | rfl | rfl | rfl | rfl | rfl
  all_goals first | assumption | rfl

/-- the document's state in a block of its own -/
structure Sb (w : World) (base b : Nat) (M : Nat) (vr vs : Value) (s : Sx) : Prop where
  lo : base ≤ b
  blk : w.heap[b]? = some (.cells (sxC M vr vs s).toArray 52 (0, 0))
  own : OwnB w base vr s.r
  szs : OwnI w base vs s.szs
section
variable {w w' : World} {base b M : Nat} {vr vs : Value} {s : Sx}
theorem Sb.lt (h : Sb w base b M vr vs s) : b < w.heap.size := hp_lt h.blk
theorem Sb.c0 (h : Sb w base b M vr vs s) : w.cell? ⟨b, 0, none⟩ = some (.int .i64 M) := by simp [World.cell?, h.blk, sxC]
theorem Sb.c1 (h : Sb w base b M vr vs s) : w.cell? ⟨b, 1, none⟩ = some vr := by simp [World.cell?, h.blk, sxC]
theorem Sb.c2 (h : Sb w base b M vr vs s) : w.cell? ⟨b, 2, none⟩ = some (.int .i64 s.came) := by simp [World.cell?, h.blk, sxC]
theorem Sb.c3 (h : Sb w base b M vr vs s) : w.cell? ⟨b, 3, none⟩ = some (.int .i64 s.whole) := by simp [World.cell?, h.blk, sxC]
theorem Sb.c4 (h : Sb w base b M vr vs s) : w.cell? ⟨b, 4, none⟩ = some (.int .i64 s.why) := by simp [World.cell?, h.blk, sxC]
theorem Sb.c5 (h : Sb w base b M vr vs s) : w.cell? ⟨b, 5, none⟩ = some (.int .i64 s.wat) := by simp [World.cell?, h.blk, sxC]
theorem Sb.c6 (h : Sb w base b M vr vs s) : w.cell? ⟨b, 6, none⟩ = some vs := by simp [World.cell?, h.blk, sxC]
theorem Sb.fz (h : Sb w base b M vr vs s) (i : Nat) : w.frozen? ⟨b, i, none⟩ = false := by simp [World.frozen?, h.blk]
theorem Sb.ner (h : Sb w base b M vr vs s) : vr.ownBlock ≠ some b := own_block h.own h.blk (by decide)
theorem Sb.nes (h : Sb w base b M vr vs s) : vs.ownBlock ≠ some b := own_block h.szs h.blk (by decide)
theorem Sb.below (h : Sb w base b M vr vs s) (hb : Below w.heap.size w w') : Sb w' base b M vr vs s :=
  ⟨h.lo, (hb.block b h.lt).trans h.blk, h.own.below hb, own_below h.szs hb⟩
theorem Sb.one (h : Sb w base b M vr vs s) : ∀ u ∈ sxC M vr vs s, u.oneCell' = true := by
  obtain ⟨a, c, e⟩ := h.own.shape
  obtain ⟨a2, c2, e2⟩ := h.szs.shape
  exact sxC_one (by rw [e]; rfl) (by rw [e2]; rfl)
/-- the bytes grew -/
theorem Sb.setRest (h : Sb w base b M vr vs s) {vr' : Value} {r' : List UInt8} (hg : w.grownBy w' vr.ownBlock) (ho : OwnB w' base vr' r') : Sb (w'.setCell ⟨b, 1, none⟩ vr') base b M vr' vs { s with r := r' } := by
  have hb := gb_blk h.blk hg h.ner
  refine ⟨h.lo, by rw [blk_set hb]; rfl, ho.kept (gb_set w' _ _) (Or.inr (by simpa using own_block ho hb (by decide))), World.ownsRow.kept (World.ownsRow.kept h.szs hg ?_) (gb_set w' _ _) (Or.inr (by simpa using h.nes))⟩
  cases e : vs.ownBlock with
  | none => exact Or.inl rfl
  | some k => exact Or.inr (fun e2 => own_apart h.szs h.own (by decide) e e2.symm)
theorem Sb.setSizes (h : Sb w base b M vr vs s) {vs' : Value} {l : List Nat} (hg : w.grownBy w' vs.ownBlock) (ho : OwnI w' base vs' l) : Sb (w'.setCell ⟨b, 6, none⟩ vs') base b M vr vs' { s with szs := l } := by
  have hb := gb_blk h.blk hg h.nes
  refine ⟨h.lo, by rw [blk_set hb]; rfl, (h.own.kept hg ?_).kept (gb_set w' _ _) (Or.inr (by simpa using h.ner)), World.ownsRow.kept ho (gb_set w' _ _) (Or.inr (by simpa using own_block ho hb (by decide)))⟩
  cases e : vr.ownBlock with
  | none => exact Or.inl rfl
  | some k => exact Or.inr (fun e2 => own_apart h.own h.szs (by decide) e e2.symm)
theorem Sb.setCame (h : Sb w base b M vr vs s) (n : Nat) : Sb (w.setCell ⟨b, 2, none⟩ (.int .i64 n)) base b M vr vs { s with came := n } :=
  ⟨h.lo, by rw [blk_set h.blk]; rfl, h.own.kept (gb_set w _ _) (Or.inr (by simpa using h.ner)), World.ownsRow.kept h.szs (gb_set w _ _) (Or.inr (by simpa using h.nes))⟩
theorem Sb.setWhole (h : Sb w base b M vr vs s) (n : Nat) : Sb (w.setCell ⟨b, 3, none⟩ (.int .i64 n)) base b M vr vs { s with whole := n } :=
  ⟨h.lo, by rw [blk_set h.blk]; rfl, h.own.kept (gb_set w _ _) (Or.inr (by simpa using h.ner)), World.ownsRow.kept h.szs (gb_set w _ _) (Or.inr (by simpa using h.nes))⟩
theorem Sb.setNone (h : Sb w base b M vr vs s) : Sb (w.setCell ⟨b, 1, none⟩ (.slice none 0 0)) base b M (.slice none 0 0) vs { s with r := [] } :=
  ⟨h.lo, by rw [blk_set h.blk]; rfl, World.ownsRow_nil _ _ _ _, World.ownsRow.kept h.szs (gb_set w _ _) (Or.inr (by simpa using h.nes))⟩
theorem Sb.setFault (h : Sb w base b M vr vs s) (y t : Int) : Sb (w.setCells b 4 [.int .i64 y, .int .i64 t]) base b M vr vs { s with why := y, wat := t } := by
  have e : w.setCells b 4 [.int .i64 y, .int .i64 t] = (w.setCell ⟨b, 4, none⟩ (.int .i64 y)).setCell ⟨b, 5, none⟩ (.int .i64 t) := rfl
  rw [e]
  have h1 : Sb (w.setCell ⟨b, 4, none⟩ (.int .i64 y)) base b M vr vs { s with why := y } :=
    ⟨h.lo, by rw [blk_set h.blk]; rfl, h.own.kept (gb_set w _ _) (Or.inr (by simpa using h.ner)), World.ownsRow.kept h.szs (gb_set w _ _) (Or.inr (by simpa using h.nes))⟩
  exact ⟨h.lo, by rw [blk_set h1.blk]; rfl, h1.own.kept (gb_set _ _ _) (Or.inr (by simpa using h1.ner)), World.ownsRow.kept h1.szs (gb_set _ _ _) (Or.inr (by simpa using h1.nes))⟩
theorem Sb.far {n : Nat} (h : Sb w base b M vr vs s) (hg : w.grownBy w' (some n)) (hb : b ≠ n) (hr : vr.ownBlock ≠ some n) (hs : vs.ownBlock ≠ some n) : Sb w' base b M vr vs s :=
  ⟨h.lo, gb_blk h.blk hg (fun e => hb (by injection e with e; exact e.symm)), h.own.kept hg (Or.inr hr), World.ownsRow.kept h.szs hg (Or.inr hs)⟩
theorem Sb.there (h : Sb w base b M vr vs s) : w.there b 4 2 := by
  intro j hj
  match j, hj with
  | 0, _ => exact ⟨by rw [h.c4]; rfl, h.fz _⟩
  | 1, _ => exact ⟨by rw [h.c5]; rfl, h.fz _⟩
theorem Sb.fault (h : Sb w base b M vr vs s) : w.rangeAt b 4 [.int .i64 s.why, .int .i64 s.wat] := by
  intro j u hu
  match j, hu with
  | 0, hu => simp at hu; subst hu; exact h.c4
  | 1, hu => simp at hu; subst hu; exact h.c5
end

/-- what the document's calls keep: all that lay below, frames wherever they lie, blocks that are no bytes and no numbers -/
structure Tk (w X : World) (base : Nat) : Prop where
  bl : Below base w X
  fr : ∀ lo vo gs, OFs w lo vo gs → OFs X lo vo gs
  bk : ∀ (b : Nat) (cs : Array Value) (ty : TypeId), w.heap[b]? = some (.cells cs ty (0, 0)) → ty ≠ 5 → ty ≠ 3 → X.heap[b]? = some (.cells cs ty (0, 0))
theorem Tk.refl (w : World) (base : Nat) : Tk w w base := ⟨Below.refl _ _, fun _ _ _ h => h, fun _ _ _ h _ _ => h⟩
theorem Tk.below {w X Y : World} {base : Nat} (h : Tk w X base) (hb : base ≤ w.heap.size) (g : Below X.heap.size X Y) : Tk w Y base :=
  ⟨h.bl.trans (g.mono (Nat.le_trans hb h.bl.size)), fun _ _ _ k => (h.fr _ _ _ k).below g, fun _ _ _ k h1 h2 => bel_keep g (h.bk _ _ _ k h1 h2)⟩
theorem Tk.grown {w X Y : World} {base : Nat} {row : Option Nat} (h : Tk w X base) (hb : base ≤ w.heap.size) (g : X.grownBy Y row) (hr : ∀ k, row = some k → base ≤ k) (hf : ∀ lo vo gs, OFs X lo vo gs → OFs Y lo vo gs) (hk : ∀ (b : Nat) (cs : Array Value) (ty : TypeId), w.heap[b]? = some (.cells cs ty (0, 0)) → X.heap[b]? = some (.cells cs ty (0, 0)) → ty ≠ 5 → ty ≠ 3 → row ≠ some b) : Tk w Y base :=
  ⟨⟨g.os.trans h.bl.os, g.tape.trans h.bl.tape, g.output.trans h.bl.output, Nat.le_trans h.bl.size g.size, fun k hk => (g.block k (Nat.lt_of_lt_of_le (Nat.lt_of_lt_of_le hk hb) h.bl.size) (fun e => by have := hr k e.symm; omega)).trans (h.bl.block k hk)⟩, fun _ _ _ k => hf _ _ _ (h.fr _ _ _ k), fun b cs ty k h1 h2 => gb_blk (h.bk b cs ty k h1 h2) g (hk b cs ty k (h.bk b cs ty k h1 h2) h1 h2)⟩
theorem Tk.row {w X Y : World} {base base2 n : Nat} {e : TypeId} {size : Nat} {v : Value} {xs : List Value} (h : Tk w X base) (hb : base ≤ w.heap.size) (hv : X.ownsRow base2 e size v n xs) (hb2 : base ≤ base2) (g : X.grownBy Y v.ownBlock) (h1 : 65 ≠ e) (h2 : 9 ≠ e) (h3 : e = 5 ∨ e = 3) : Tk w Y base :=
  h.grown hb g (fun k e9 => Nat.le_trans hb2 (World.ownsRow.lt hv k e9).1) (fun _ _ _ k => k.grown hv g h1 h2) (fun _ _ _ _ hx n1 n2 => own_block hv hx (fun e4 => by rcases h3 with h3 | h3 <;> rw [h3] at e4 <;> simp_all))
theorem Tk.blk {w X Y : World} {base b : Nat} {cs : Array Value} {ty : TypeId} (h : Tk w X base) (hb : base ≤ w.heap.size) (hB : X.heap[b]? = some (.cells cs ty (0, 0))) (hlo : w.heap.size ≤ b) (g : X.grownBy Y (some b)) (h1 : 65 ≠ ty) (h2 : 9 ≠ ty) : Tk w Y base :=
  h.grown hb g (fun k e9 => by injection e9 with e9; omega) (fun _ _ _ k => k.gone g hB h1 h2) (fun _ _ _ hw _ _ _ e4 => by injection e4 with e4; have := hp_lt hw; omega)
theorem Tk.cell {w X : World} {base b i : Nat} {u : Value} {cs : Array Value} {ty : TypeId} (h : Tk w X base) (hb : base ≤ w.heap.size) (hB : X.heap[b]? = some (.cells cs ty (0, 0))) (hlo : w.heap.size ≤ b) (h1 : 65 ≠ ty) (h2 : 9 ≠ ty) : Tk w (X.setCell ⟨b, i, none⟩ u) base :=
  h.blk hb hB hlo (gb_set X _ _) h1 h2
theorem Tk.two {w X : World} {base b : Nat} {u u' : Value} {cs : Array Value} {ty : TypeId} (h : Tk w X base) (hb : base ≤ w.heap.size) (hB : X.heap[b]? = some (.cells cs ty (0, 0))) (hlo : w.heap.size ≤ b) (h1 : 65 ≠ ty) (h2 : 9 ≠ ty) : Tk w (X.setCells b 4 [u, u']) base := by
  have e : X.setCells b 4 [u, u'] = (X.setCell ⟨b, 4, none⟩ u).setCell ⟨b, 5, none⟩ u' := rfl
  rw [e]
  exact (h.cell hb hB hlo h1 h2).cell hb (blk_set hB u) hlo h1 h2

theorem need_eleven (r : List UInt8) : needP (r.take (min r.length 11)) = needP r := by
  have h1 := dec_head (r.take (min r.length 11))
  have h2 := dec_head r
  have e : (r.take (min r.length 11)).take (min (r.take (min r.length 11)).length 10) = r.take (min r.length 10) := by
    rw [List.take_take, List.length_take]
    congr 1
    omega
  rw [e, h2] at h1
  unfold needP
  rw [h1]

set_option maxRecDepth 100000 in
set_option maxHeartbeats 2000000 in
theorem rneed8_any (M : Nat) (s : Sx) (vr vs : Value) (w : World) (hs : Src w vr s.r) :
    Calls Tryz.prog 51 #[.agg (sxC M vr vs s).toArray] w fun e w' => e = .returned (.tuple #[.int .i64 ((needM M s.r).1 : Nat), .int .i64 (needM M s.r).2]) ∧ Below w.heap.size w w' := by
  obtain ⟨ar, cr, rfl⟩ := src_shape hs
  have HB1 := hid (below_walk w (.cells (sxC M (.slice ar s.r.length cr) vs s).toArray 52))
  have hn := hp_new w (.cells (sxC M (.slice ar s.r.length cr) vs s).toArray 52)
  obtain ⟨k, hk⟩ : ∃ k, min s.r.length 11 = k := ⟨_, rfl⟩
  have hm : min (s.r.length : Int) 11 = (k : Int) := by omega
  obtain ⟨vk, hk1, hk2⟩ := cut_at (hs.below HB1.out) k (by omega)
  have HNE := hid (rneed_any vk _ _ hk1)
  rw [← hk, need_eleven] at HNE
  have HK := hid hk
  obtain ⟨n, Hn⟩ : ∃ n, Hid ((needP s.r).1 = n) := ⟨_, rfl⟩
  obtain ⟨hd, Hhd⟩ : ∃ n, Hid ((needP s.r).2.1 = n) := ⟨_, rfl⟩
  obtain ⟨er, Her⟩ : ∃ n, Hid ((needP s.r).2.2 = n) := ⟨_, rfl⟩
  rw [Hn.out, Hhd.out, Her.out] at HNE
  have HOK := hid (show er = 0 → n ≠ 0 → ∃ N : Nat, n = hd + N + 4 ∧ N ≤ 2097152 ∧ hd ≤ 20 from fun h1 h2 => by
    obtain ⟨N, hd2, hN1, hN2, hn2⟩ := need_ok (b := s.r) (by rw [Her.out]; exact h1) (by rw [Hn.out]; exact h2)
    rw [Hn.out, Hhd.out] at hn2
    have h3 := dec_ok_len hd2
    rw [Hhd.out] at h3
    have := sn_length_le N
    exact ⟨N, hn2, hN2, by omega⟩)
  have HND := hid (show needM M s.r = if er ≠ 0 then (0, (er : Int)) else if n ≠ 0 ∧ M < n - hd - 4 then (0, 3) else (n, 0) by unfold needM; rw [Hn.out, Hhd.out, Her.out])
  clear hs hk1
  obtain ⟨B, HB⟩ : ∃ n, Hid (w.heap.size = n) := ⟨_, rfl⟩
  rw [HB.out] at hn
  go_enter Tryz.func51, Tryz.ntmps51
  go_upto_region 1 with (refine bx_row (by rfl) 52 _ (by rfl) _ (by rfl) ?_)
  rw [HB.out]
  generalize w.alloc (.cells (sxC M (.slice ar s.r.length cr) vs s).toArray 52) = w1 at HB1 hn HNE ⊢
  have HN0 := hid hn
  have c1 : w1.cell? ⟨B, 1, none⟩ = some (.slice ar s.r.length cr) := by simp [World.cell?, hn, sxC]
  clear hn
  go_wp2_with fail
  refine HNE.out.mono ?_
  rintro e w2 ⟨rfl, hb2⟩
  have HB2 := hid (below_then HB1.out hb2)
  have HN2 := hid (bel_keep hb2 HN0.out)
  have c0 : w2.cell? ⟨B, 0, none⟩ = some (.int .i64 (M : Int)) := by simp [World.cell?, HN2.out, sxC]
  clear hb2 c1 HNE hm
  by_cases he : er = 0
  · subst he
    by_cases h0 : n = 0
    · subst h0
      go_wp2
      refine bodyPost_ret (results_tmp2 rfl _ _ _) rfl ?_
      exact ⟨by rw [HND.out]; rfl, HB2.out⟩
    · obtain ⟨N, e1, e2, e3⟩ := HOK.out rfl h0
      have hp : (0 : Int) < (n : Int) := by omega
      have s1 : IntKind.i64.wrap ((n : Int) - (hd : Int)) = ((N + 4 : Nat) : Int) := by rw [IntKind.wrap_i64]; omega
      have s2 : IntKind.i64.wrap (((N + 4 : Nat) : Int) - 4) = (N : Int) := by rw [IntKind.wrap_i64]; omega
      obtain ⟨N4, HN4⟩ : ∃ m, Hid (N + 4 = m) := ⟨_, rfl⟩
      rw [HN4.out] at s1 s2
      have HE1 := hid e1
      clear e1
      by_cases hM : M < N
      · have hM2 : (M : Int) < (N : Int) := by omega
        have HE := hid (show needM M s.r = (0, 3) by rw [HND.out, if_neg (by simp), if_pos ⟨h0, by have := HE1.out; omega⟩])
        clear h0
        go_wp2
        refine bodyPost_ret (results_tmp2 rfl _ _ _) rfl ?_
        exact ⟨by rw [HE.out]; rfl, HB2.out⟩
      · have hM2 : ¬ (M : Int) < (N : Int) := by omega
        have HE := hid (show needM M s.r = (n, 0) by rw [HND.out, if_neg (by simp), if_neg (fun h => by have := h.2; have := HE1.out; omega)])
        clear h0
        go_wp2
        refine bodyPost_ret (results_tmp2 rfl _ _ _) rfl ?_
        exact ⟨by rw [HE.out]; rfl, HB2.out⟩
  · have q1 : ((er : Int) != 0) = true := by simp; omega
    have q2 : ¬ ((er : Int) = 0) := by omega
    have HE := hid (show needM M s.r = (0, (er : Int)) by rw [HND.out, if_pos he])
    clear he
    go_wp2
    refine bodyPost_ret (results_tmp2 rfl _ _ _) rfl ?_
    exact ⟨by rw [HE.out]; rfl, HB2.out⟩
end Go.Proofs.YtiibhccbbpgehabGreat

/- The document's decoder takes one byte. -/
namespace Go.Proofs.YtiibhccbbpgehabGreat
open Go.RowKit Go.BigFrame

/-- what was wrong is written into the document's state -/
theorem st_fault8 {w : World} {base b M : Nat} {vr vs : Value} {s : Sx} {ops : Array Oper} {rest : List Oper} {o : Oper} {a : Act} {Q : Exit → Act → World → Prop} (hgd : o.guard = none) (x z : Operand) (ho : o.op = .store 30 x z)
    (hk : Sb w base b M vr vs s) (y1 t1 : Int) (hx : a.eval x = .pointer (some ⟨b, 4, none⟩)) (hz : a.eval z = .agg [Value.int .i64 y1, .int .i64 t1].toArray)
    (h : ∀ w', Sb w' base b M vr vs { s with why := y1, wat := t1 } → w' = w.setCells b 4 [.int .i64 y1, .int .i64 t1] → wpList Tryz.prog ops Q rest (a.put o.dst undef) w') : wpList Tryz.prog ops Q (o :: rest) a w :=
  wpList_store_mid hgd 30 x z ho b 4 #[.int .i64 y1, .int .i64 t1] hx hz hk.there faultSize (all_oneCell_toArray (fault_one y1 t1)) (h _ (hk.setFault y1 t1) rfl)
theorem blk_two {w : World} {b r : Nat} {u u' : Value} {ob : Obj} (hB : w.heap[r]? = some ob) (hn : b ≠ r) : (w.setCells b 4 [u, u']).heap[r]? = some ob := by
  have e : w.setCells b 4 [u, u'] = (w.setCell ⟨b, 4, none⟩ u).setCell ⟨b, 5, none⟩ u' := rfl
  rw [e]
  exact gb_blk (gb_blk hB (gb_set w ⟨b, 4, none⟩ u) (by simpa using hn)) (gb_set _ ⟨b, 5, none⟩ u') (by simpa using hn)
/-- append(own, numbers...) -/
theorem app_ints {w : World} {ops : Array Oper} {rest : List Oper} {o : Oper} {a : Act} {Q : Exit → Act → World → Prop} (hgd : o.guard = none) (s x : Operand)
    (ho : o.op = .call { callee := .builtin .append, args := #[s, x], argTypes := #[50, 50] })
    (base : Nat) (v : Value) (bs : List Nat) (hs : a.eval s = v) (hown : OwnI w base v bs) (vx : Value) (cs : List Nat) (hx : a.eval x = vx) (hsrc : ∃ b2, OwnI w b2 vx cs)
    (hlen : bs.length + cs.length ≤ 1000000000000) (hbase : base ≤ w.heap.size)
    (h : ∀ v' w', OwnI w' base v' (bs ++ cs) → w.grownBy w' v.ownBlock → (v'.ownBlock = v.ownBlock ∨ v'.ownBlock = some w.heap.size) → wpList Tryz.prog ops Q rest (a.put o.dst v') w') : wpList Tryz.prog ops Q (o :: rest) a w := by
  obtain ⟨i0, hi, hz0, hz1, hz2⟩ := info_parts Tryz.infoI64
  obtain ⟨b2, hsrc⟩ := hsrc
  have hi1 : ∀ u ∈ intsV8 cs, u.oneCell' = true := fun u hu => by simp only [intsV8, List.mem_map] at hu; obtain ⟨n, _, rfl⟩ := hu; rfl
  have hl1 : (intsV8 cs).length = cs.length * 1 := by simp [intsV8]
  rcases hsrc.2 with ⟨rfl, h0⟩ | ⟨g, cap, cur, rfl, _⟩
  · obtain rfl : cs = [] := List.length_eq_zero_iff.1 h0
    refine wpList_append_own_none hgd s x 50 ho base 3 i0 1 Tryz.underlying50 hi v bs.length (intsV8 bs) hs hown hx ?_
    exact h v w (by simpa using hown) (gb_refl _ _) (Or.inl rfl)
  · refine wpList_plain hgd fun K hK => ?_
    have hcl : ∀ j u, (intsV8 cs)[j]? = some u → w.cell? ((⟨g, 0, none⟩ : Addr).add j) = some u := fun j u hu => World.ownsRow.cells hsrc (g := g) rfl j u hu
    obtain ⟨v', w', hr, h5, h6, _⟩ := run_append_own (P := Tryz.prog) w base 50 o.type 3 i0 (.int .i64 0) 1 8 Tryz.underlying50 hi hz0 hz1 hz2 rfl (by decide) v bs.length (intsV8 bs) hown ⟨g, 0, none⟩ cs.length cap (intsV8 cs) hl1 hcl hi1 (by unfold maxLen; omega) (by omega) hbase
    have hp := app_place (P := Tryz.prog) w base 50 o.type 3 i0 (.int .i64 0) 1 8 Tryz.underlying50 hi hz0 hz1 hz2 v bs.length (intsV8 bs) hown ⟨g, 0, none⟩ cs.length cap (intsV8 cs) hl1 hcl hi1 (by unfold maxLen; omega) (by omega) v' w' hr
    unfold Oper.wp execOp
    simp only [ho, resolve, invoke, builtin, Sem.run_bind, Sem.run_pure, Result.andThen_ok, List.map_toArray, List.map_cons, List.map_nil, hs, hx, hr]
    exact hK _ _ (h v' w' (by unfold OwnI; rw [show intsV8 (bs ++ cs) = intsV8 bs ++ intsV8 cs by simp [intsV8], List.length_append]; exact h5) h6 hp)

theorem own_far2 {w w' : World} {base : Nat} {row : Option Nat} {e : TypeId} {size : Nat} {vo : Value} {n : Nat} {xs : List Value} (h : w.ownsRow base e size vo n xs) (g : w.grownBy w' row) (hm : ∀ k, vo.ownBlock = some k → row ≠ some k) : w'.ownsRow base e size vo n xs := by
  refine World.ownsRow.kept h g ?_
  cases hk : vo.ownBlock with
  | none => exact Or.inl rfl
  | some k => exact Or.inr (fun h9 => hm k hk h9.symm)
theorem step_bs_frame {ops : Array Oper} {o : Oper} {a : Act} {w : World} {K : Act → World → Prop} {Q : Exit → Act → World → Prop} {E : Prop} (hgd : o.guard = none) (x : Operand) (ho : o.op = .buildSlice 28 1 #[(0, x)])
    (cs : List Value) (hx : a.eval x = .agg cs.toArray) (hl : cs.length = 42) (g : Nat) (hg2 : w.heap.size = g)
    (h : K (a.put o.dst (.slice (some ⟨g, 0, none⟩) 1 1)) (w.alloc (.cells cs.toArray 65))) : if Region.wanted o (yielded ops a.tmps) = true then Oper.wp Tryz.prog o a w K Q else E := by
  rw [if_pos (by simp [Region.wanted, hgd])]
  subst hg2
  obtain ⟨i0, hi, hz0, hz1, hz2⟩ := info_parts Tryz.infoFrame
  refine wp_buildSlice 28 65 1 #[(0, x)] ho cs.toArray i0 _ Tryz.underlying28 hi hz0 (by rw [hz1]; decide) (by rw [hz1]; decide) ?_ h
  rw [hz1]
  have e : (#[(0, x)].map fun (i, x) => (i, a.eval x)).toList = (([Value.agg cs.toArray]).zipIdx 0).map fun x => (x.2, x.1) := by simp [hx]
  rw [e, Great.fill_whole (s := 42) (by decide) [Value.agg cs.toArray] _ (by intro v hv; simp at hv; subst hv; simpa [Value.cells] using hl) (by simp)]
  simp [Value.cells]
theorem ofs_one (w : World) (lo : Nat) (f : Fr) (va : Value) (hb : lo ≤ w.heap.size) (hr : Rng f) (ha : WOwnS w lo va f.args) : OFs (w.alloc (.cells (fcells f va).toArray 65)) lo (.slice (some ⟨w.heap.size, 0, none⟩) 1 1) [(f, va)] := by
  refine ⟨?_, fun g hg => by simp at hg; subst hg; exact ⟨own_below ha (below_walk w _), hr⟩⟩
  have h := World.ownsRow_lit (base := lo) (e := 65) (size := 42) w (fcells f va).toArray 1 hb (by decide) (by rw [List.size_toArray, fcells_length _ _ hr.tool])
  simpa [frsV] using h
/-- what take answers -/
def TakP (w : World) (base : Nat) (M : Nat) (T : Sx × List Fr) (e : Ending) (w' : World) : Prop :=
  ∃ vr vs vl fs, e = .returned (.tuple #[.agg (sxC M vr vs T.1).toArray, vl]) ∧ OwnB w' base vr T.1.r ∧ OwnI w' base vs T.1.szs ∧ OFs w' w.heap.size vl fs ∧ fs.map (·.1) = T.2 ∧ Tk w w' base

set_option maxRecDepth 100000 in
set_option maxHeartbeats 4000000 in
theorem rtake8_any (s : Sx) (vr vs : Value) (c : UInt8) (w : World) (base M : Nat) (ho : OwnB w base vr s.r) (hz : OwnI w base vs s.szs) (hb : base ≤ w.heap.size) (hl : s.r.length ≤ 4000000) (hc : s.came ≤ 4611686018427387904) (hw : s.whole ≤ 4611686018427387904) (hsz : s.szs.length ≤ 100000000000) (h0 : s.why = 0) (h1 : s.wat = 0) (hle : s.r.length ≤ s.came) :
    Calls Tryz.prog 49 #[.agg (sxC M vr vs s).toArray, .int .u8 (c.toNat : Int)] w (TakP w base M (takeC M s [c])) := by
  obtain ⟨X, HX⟩ : ∃ X, Hid (s.r ++ [c] = X) := ⟨_, rfl⟩
  have HXL := hid (show X.length = s.r.length + 1 by rw [← HX.out]; simp)
  obtain ⟨CA, HCA⟩ : ∃ n, Hid (s.came + 1 = n) := ⟨_, rfl⟩
  obtain ⟨FI, HFI⟩ : ∃ n, Hid ((s.came : Int) - (s.r.length : Int) = n) := ⟨_, rfl⟩
  obtain ⟨n5, Hn5⟩ : ∃ n, Hid ((needM M X).1 = n) := ⟨_, rfl⟩
  obtain ⟨e5, He5⟩ : ∃ n, Hid ((needM M X).2 = n) := ⟨_, rfl⟩
  obtain ⟨F, HF⟩ : ∃ n, Hid ((decP X).1 = n) := ⟨_, rfl⟩
  obtain ⟨d1, Hd1⟩ : ∃ n, Hid ((decP X).2.1 = n) := ⟨_, rfl⟩
  obtain ⟨d2, Hd2⟩ : ∃ n, Hid ((decP X).2.2 = n) := ⟨_, rfl⟩
  have HTK := hid (show takeC M s [c] = if e5 ≠ 0 then (⟨X, CA, s.whole, e5, FI, s.szs⟩, []) else if n5 = 0 ∨ X.length < n5 then (⟨X, CA, s.whole, 0, 0, s.szs⟩, []) else if d1 ≠ 0 then (⟨X, CA, s.whole, d1, IntKind.i64.wrap (FI + d2), s.szs⟩, []) else (⟨[], CA, s.whole + 1, 0, 0, s.szs ++ [X.length]⟩, [F]) by
    unfold takeC
    simp only [HX.out, Hn5.out, He5.out, HF.out, Hd1.out, Hd2.out, HFI.out, List.length_cons, List.length_nil, Nat.zero_add, HCA.out])
  have HRNG := hid (fun hm => dec_rng X (by have := HXL.out; omega) hm)
  rw [HF.out] at HRNG
  have HT32 := hid (dec_tool X)
  rw [HF.out] at HT32
  obtain ⟨ar, cr, er⟩ := ho.shape
  subst er
  have HW1 := hid (below_walk2 w (.cells (sxC M (.slice ar s.r.length cr) vs s).toArray 52) (.cells (sxC 0 (.slice none 0 0) (.slice none 0 0) zS).toArray 52))
  have HNN := hid (hp_two w (.cells (sxC M (.slice ar s.r.length cr) vs s).toArray 52) (.cells (sxC 0 (.slice none 0 0) (.slice none 0 0) zS).toArray 52))
  have HZ : Hid ((w.alloc (.cells (sxC M (.slice ar s.r.length cr) vs s).toArray 52)).heap.size = w.heap.size + 1) := hid (by simp)
  have HB := hid hb
  have HO := hid ho
  have HI := hid hz
  have HLE := hid hle
  clear ho hz hb hle
  go_enter Tryz.func49, Tryz.ntmps49
  go_upto_region 1 with (first
    | (refine bx_row (by rfl) 52 _ (by rfl) _ (by rfl) ?_)
    | (refine al_row (by rfl) 52 (by rfl) _ zeroStrm ?_))
  try rw [HZ.out]
  obtain ⟨B, HBe⟩ : ∃ n, Hid (w.heap.size = n) := ⟨_, rfl⟩
  obtain ⟨R, HRe⟩ : ∃ n, Hid (B + 1 = n) := ⟨_, rfl⟩
  have HBR := hid (show R = B + 1 from HRe.out.symm)
  have HLO := hid (show base ≤ B by have := HB.out; have := HBe.out; omega)
  have HLW := hid (show w.heap.size ≤ B by have := HBe.out; omega)
  have HRW := hid (show w.heap.size ≤ R by have := HBe.out; have := HBR.out; omega)
  have HRL := hid (show base ≤ R by have := HLO.out; have := HBR.out; omega)
  rw [HBe.out, HRe.out] at HNN ⊢
  have HW1' := hid (show Below w.heap.size w ((w.alloc (.cells (sxC M (.slice ar s.r.length cr) vs s).toArray 52)).alloc (.cells #[.int .i64 0, .slice none 0 0, .int .i64 0, .int .i64 0, .int .i64 0, .int .i64 0, .slice none 0 0] 52)) from HW1.out)
  have HNN' := hid (show ((w.alloc (.cells (sxC M (.slice ar s.r.length cr) vs s).toArray 52)).alloc (.cells #[.int .i64 0, .slice none 0 0, .int .i64 0, .int .i64 0, .int .i64 0, .int .i64 0, .slice none 0 0] 52)).heap[B]? = some (.cells (sxC M (.slice ar s.r.length cr) vs s).toArray 52 (0, 0)) ∧ ((w.alloc (.cells (sxC M (.slice ar s.r.length cr) vs s).toArray 52)).alloc (.cells #[.int .i64 0, .slice none 0 0, .int .i64 0, .int .i64 0, .int .i64 0, .int .i64 0, .slice none 0 0] 52)).heap[R]? = some (.cells (sxC 0 (.slice none 0 0) (.slice none 0 0) zS).toArray 52 (0, 0)) from HNN.out)
  clear HW1 HNN
  generalize (w.alloc (.cells (sxC M (.slice ar s.r.length cr) vs s).toArray 52)).alloc (.cells #[.int .i64 0, .slice none 0 0, .int .i64 0, .int .i64 0, .int .i64 0, .int .i64 0, .slice none 0 0] 52) = w1 at HW1' HNN' ⊢
  have HS1 := hid (show Sb w1 base B M (.slice ar s.r.length cr) vs s from ⟨HLO.out, HNN'.out.1, HO.out.below HW1'.out, own_below HI.out HW1'.out⟩)
  have HR1 := hid HNN'.out.2
  have HT1 := hid ((Tk.refl w base).below HB.out HW1'.out)
  clear HNN' HW1' HZ HO HI
  -- the byte is put behind
  have HW2 := hid (below_walk w1 (.cells #[.int .u8 (c.toNat : Int)] 5))
  have HS2 := hid (HS1.out.below HW2.out)
  have HR2 := hid (bel_keep HW2.out HR1.out)
  have HT2 := hid (HT1.out.below HB.out HW2.out)
  have HX2 := hid (src_one w1 c _ rfl)
  have HBS := hid (Nat.le_trans HB.out HT2.out.bl.size)
  have c1 := HS1.out.c1
  clear HS1 HR1 HT1
  go_wp2_with (first | (at_builtin; refine app_bytes (by rfl) _ _ rfl base _ _ rfl HS2.out.own _ _ rfl HX2.out (by simp; omega) HBS.out ?_))
  intro v2 w2 ho2 hg2 hp2
  rw [HX.out] at ho2
  have HS3 := hid (HS2.out.setRest hg2 ho2)
  have HR3 := hid (gb_blk (gb_blk HR2.out hg2 (own_block HS2.out.own HR2.out (by decide))) (gb_set w2 ⟨B, 1, none⟩ v2) (by have := HBR.out; simp; omega))
  have HK2 := hid (gb_blk HS2.out.blk hg2 HS2.out.ner)
  have HT3 := hid ((HT2.out.row HB.out HS2.out.own (Nat.le_refl _) hg2 (by decide) (by decide) (Or.inl rfl)).cell (i := 1) (u := v2) HB.out HK2.out HLW.out (by decide) (by decide))
  have k0 : w2.cell? ⟨B, 1, none⟩ = some (.slice ar s.r.length cr) := by simp [World.cell?, HK2.out, sxC]
  have k1 : w2.frozen? ⟨B, 1, none⟩ = false := by simp [World.frozen?, HK2.out]
  obtain ⟨a2, c2, e2⟩ := ho2.shape
  subst e2
  clear ho2 hg2 hp2 c1 HS2 HR2 HT2 HK2 HX2 HW2
  go_upto_region 2 with fail
  generalize w2.setCell ⟨B, 1, none⟩ (.slice a2 X.length c2) = w3 at HS3 HR3 HT3 ⊢
  clear k0 k1
  -- the counts
  have k2 : w3.cell? ⟨B, 2, none⟩ = some (.int .i64 (s.came : Int)) := HS3.out.c2
  have k3 := HS3.out.fz 2
  have hca : IntKind.i64.wrap ((s.came : Int) + 1) = (CA : Int) := by rw [IntKind.wrap_i64]; have := HCA.out; omega
  have HS4 := hid (HS3.out.setCame CA)
  have HR4 := hid (gb_blk HR3.out (gb_set w3 ⟨B, 2, none⟩ (.int .i64 (CA : Int))) (by have := HBR.out; simp; omega))
  have HT4 := hid (HT3.out.cell (i := 2) (u := .int .i64 (CA : Int)) HB.out HS3.out.blk HLW.out (by decide) (by decide))
  go_upto_region 3 with fail
  generalize w3.setCell ⟨B, 2, none⟩ (.int .i64 (CA : Int)) = w4 at HS4 HR4 HT4 ⊢
  clear k2 k3 HS3 HR3 HT3 hca
  have HSX := hid (show Sb w4 base B M (.slice a2 X.length c2) vs ⟨X, CA, s.whole, s.why, s.wat, s.szs⟩ from HS4.out)
  clear HS4
  have HS4 := hid HSX.out
  clear HSX
  have k1 := HS4.out.c1
  have k2 : w4.cell? ⟨B, 2, none⟩ = some (.int .i64 (CA : Int)) := HS4.out.c2
  have hfi : IntKind.i64.wrap ((CA : Int) - (X.length : Int)) = FI := by rw [IntKind.wrap_i64]; have := HCA.out; have := HXL.out; have := HFI.out; have := HLE.out; omega
  go_upto_region 4 with fail
  clear k1 k2 hfi
  have HSZ4 := hid (show (Tryz.prog.info? 52).map (·.size) = some (sxC M (.slice a2 X.length c2) vs ⟨X, CA, s.whole, s.why, s.wat, s.szs⟩).length from strmSize)
  have HBK4 := hid HS4.out.blk
  have HNE := hid (rneed8_any M ⟨X, CA, s.whole, s.why, s.wat, s.szs⟩ (.slice a2 X.length c2) vs w4 (HS4.out.own.src (by show X.length ≤ _; have := HXL.out; omega)))
  obtain ⟨SD, HSD⟩ : ∃ l, Hid (sxC M (.slice a2 X.length c2) vs ⟨X, CA, s.whole, s.why, s.wat, s.szs⟩ = l) := ⟨_, rfl⟩
  rw [HSD.out] at HSZ4 HBK4 HNE
  go_wp2_with (first | (refine ld_row (by rfl) 52 (.tmp 2) (by rfl) B (by rfl) SD 52 HBK4.out _ Tryz.underlying52 rfl HSZ4.out ?_))
  refine HNE.out.mono ?_
  rintro e w5 ⟨rfl, hb5⟩
  have e9 : needM M (⟨X, CA, s.whole, s.why, s.wat, s.szs⟩ : Sx).r = needM M X := rfl
  rw [e9, Hn5.out, He5.out]
  have HS5 := hid (HS4.out.below hb5)
  have HR5 := hid (bel_keep hb5 HR4.out)
  have HT5 := hid (HT4.out.below HB.out hb5)
  clear hb5 HNE HS4 HR4 HT4 HSZ4 HBK4 HSD e9
  by_cases he : e5 = 0
  · subst he
    by_cases hn : n5 = 0 ∨ X.length < n5
    · have HEQ := hid (show takeC M s [c] = (⟨X, CA, s.whole, s.why, s.wat, s.szs⟩, []) by rw [HTK.out, if_neg (by simp), if_pos hn, h0, h1])
      rcases hn with hn | hn
      · as_aux_lemma =>
          subst hn
          clear h0 h1
          have HSZ5 := hid (show (Tryz.prog.info? 52).map (·.size) = some (sxC M (.slice a2 X.length c2) vs ⟨X, CA, s.whole, s.why, s.wat, s.szs⟩).length from strmSize)
          have HON5 := hid HS5.out.one
          have HBK5 := hid HS5.out.blk
          obtain ⟨SC, HSC⟩ : ∃ l, Hid (sxC M (.slice a2 X.length c2) vs ⟨X, CA, s.whole, s.why, s.wat, s.szs⟩ = l) := ⟨_, rfl⟩
          have HOL := hid (show (sxC 0 (.slice none 0 0) (.slice none 0 0) zS).toArray.size = SC.length by rw [← HSC.out]; rfl)
          rw [HSC.out] at HSZ5 HON5 HBK5
          go_wp2_with (first
            | (refine ld_row (by rfl) 52 (.tmp 2) (by rfl) B (by rfl) SC 52 HBK5.out _ Tryz.underlying52 rfl HSZ5.out ?_)
            | (refine st_row (by rfl) 52 _ _ (by rfl) R SC (by rfl) (by rfl) 52 _ HR5.out HSZ5.out HOL.out HON5.out ?_; intro w9 hw9))
          refine ret_row2 4 5 52 rfl R rfl SC 52 hw9.blk _ Tryz.underlying52 rfl HSZ5.out _ rfl rfl ?_
          have HS9 := HS5.out.far hw9.grown (by have := HBR.out; omega) (own_block HS5.out.own HR5.out (by decide)) (own_block HS5.out.szs HR5.out (by decide))
          have HT9 := HT5.out.blk HB.out HR5.out HRW.out hw9.grown (by decide) (by decide)
          rw [← HSC.out, HEQ.out]
          exact ⟨_, _, .slice none 0 0, [], rfl, HS9.own, HS9.szs, OFs.nil _ _, rfl, HT9⟩
      · as_aux_lemma =>
          have hn2 : (X.length : Int) < (n5 : Int) := by omega
          have q0 : ¬ n5 = 0 := by omega
          have q1 : ((n5 : Int) == 0) = false := by simp; omega
          have k1 := HS5.out.c1
          clear hn h0 h1
          have HSZ5 := hid (show (Tryz.prog.info? 52).map (·.size) = some (sxC M (.slice a2 X.length c2) vs ⟨X, CA, s.whole, s.why, s.wat, s.szs⟩).length from strmSize)
          have HON5 := hid HS5.out.one
          have HBK5 := hid HS5.out.blk
          obtain ⟨SC, HSC⟩ : ∃ l, Hid (sxC M (.slice a2 X.length c2) vs ⟨X, CA, s.whole, s.why, s.wat, s.szs⟩ = l) := ⟨_, rfl⟩
          have HOL := hid (show (sxC 0 (.slice none 0 0) (.slice none 0 0) zS).toArray.size = SC.length by rw [← HSC.out]; rfl)
          rw [HSC.out] at HSZ5 HON5 HBK5
          go_wp2_with (first
            | (refine ld_row (by rfl) 52 (.tmp 2) (by rfl) B (by rfl) SC 52 HBK5.out _ Tryz.underlying52 rfl HSZ5.out ?_)
            | (refine st_row (by rfl) 52 _ _ (by rfl) R SC (by rfl) (by rfl) 52 _ HR5.out HSZ5.out HOL.out HON5.out ?_; intro w9 hw9))
          refine ret_row2 4 5 52 rfl R rfl SC 52 hw9.blk _ Tryz.underlying52 rfl HSZ5.out _ rfl rfl ?_
          have HS9 := HS5.out.far hw9.grown (by have := HBR.out; omega) (own_block HS5.out.own HR5.out (by decide)) (own_block HS5.out.szs HR5.out (by decide))
          have HT9 := HT5.out.blk HB.out HR5.out HRW.out hw9.grown (by decide) (by decide)
          rw [← HSC.out, HEQ.out]
          exact ⟨_, _, .slice none 0 0, [], rfl, HS9.own, HS9.szs, OFs.nil _ _, rfl, HT9⟩
    · have q0 : ¬ n5 = 0 := fun h => hn (Or.inl h)
      have q1 : ((n5 : Int) == 0) = false := by simp; omega
      have q2 : ¬ (X.length : Int) < (n5 : Int) := fun h => hn (Or.inr (by omega))
      have k1 := HS5.out.c1
      have HDE := hid (rdecode_any (.slice a2 X.length c2) X w5 (HS5.out.own.src (by show X.length ≤ _; have := HXL.out; omega)))
      rw [HF.out, Hd1.out, Hd2.out] at HDE
      have HTK2 := hid (show takeC M s [c] = if d1 ≠ 0 then (⟨X, CA, s.whole, d1, IntKind.i64.wrap (FI + d2), s.szs⟩, []) else (⟨[], CA, s.whole + 1, 0, 0, s.szs ++ [X.length]⟩, [F]) by rw [HTK.out, if_neg (by simp), if_neg hn])
      clear hn HTK
      go_wp2_with fail
      refine HDE.out.mono ?_
      rintro e w6 ⟨va, rfl, hoa, hb6⟩
      have HRG := hid (HRNG.out (wowns_len hoa))
      have HSY := hid (frame_size F va HT32.out)
      obtain ⟨aV, cV, eV⟩ := wowns_shape hoa
      have HON := hid (fcells_one F va (by rw [eV]; rfl))
      have HOS := hid (show (fcells zF nS).toArray.size = (fcells F va).length by rw [fcells_length _ _ HT32.out]; rfl)
      have HW7 := hid (below_walk w6 (.cells (fcells F va).toArray 65))
      have HN7 := hid (hp_new w6 (.cells (fcells F va).toArray 65))
      have HS7 := hid ((HS5.out.below hb6).below HW7.out)
      have HR7 := hid (bel_keep HW7.out (bel_keep hb6 HR5.out))
      have HT7 := hid ((HT5.out.below HB.out hb6).below HB.out HW7.out)
      have HA7 := hid (own_below (own_le hoa (base' := w.heap.size) (HT5.out.bl.size)) HW7.out)
      have HFO := hid (fun W (hW : Strs W va F.args) => frs_one W F va HRG.out hW)
      have HF42 := hid (show (fcells F va).length = 42 from fcells_length _ _ HT32.out)
      obtain ⟨FF, HFF⟩ : ∃ L, Hid (fcells F va = L) := ⟨_, rfl⟩
      rw [HFF.out] at HSY HON HOS HW7 HN7 HS7 HR7 HT7 HA7 HFO HF42 ⊢
      clear hoa hb6 HDE HS5 HR5 HT5 k1 eV
      go_upto_region 11 with (first
        | (refine al_row (by rfl) 65 (by rfl) _ zeroFrame ?_)
        | (refine st_new (by rfl) 65 _ _ (by rfl) FF (by rfl) (by rfl) 65 _ HSY.out HOS.out HON.out ?_))
      obtain ⟨P, HPe⟩ : ∃ n, Hid (w6.heap.size = n) := ⟨_, rfl⟩
      rw [HPe.out] at HN7 ⊢
      generalize w6.alloc (.cells FF.toArray 65) = w7 at HW7 HN7 HS7 HR7 HT7 HA7 ⊢
      clear HW7
      by_cases hd : d1 = 0
      · subst hd
        have HEQ := hid (show takeC M s [c] = (⟨[], CA, s.whole + 1, s.why, s.wat, s.szs ++ [X.length]⟩, [F]) by rw [HTK2.out, if_neg (by simp), h0, h1])
        clear HTK2 h0 h1
        -- the sizes
        have k1 := HS7.out.c1
        have k6 : w7.cell? ⟨B, 6, none⟩ = some vs := HS7.out.c6
        have HW8 := hid (below_walk w7 (.cells #[.int .i64 (X.length : Int)] 3))
        have HS8 := hid (HS7.out.below HW8.out)
        have HR8 := hid (bel_keep HW8.out HR7.out)
        have HN8 := hid (bel_keep HW8.out HN7.out)
        have HT8 := hid (HT7.out.below HB.out HW8.out)
        have HA8 := hid (own_below HA7.out HW8.out)
        have HI8 := hid (show ∃ b2, OwnI (w7.alloc (.cells #[.int .i64 (X.length : Int)] 3)) b2 (.slice (some ⟨w7.heap.size, 0, none⟩) 1 1) [X.length] from ⟨w7.heap.size, World.ownsRow_lit w7 #[.int .i64 (X.length : Int)] 1 (Nat.le_refl _) (by decide) rfl⟩)
        have HBS8 := hid (Nat.le_trans HB.out HT8.out.bl.size)
        obtain ⟨az, cz, ez⟩ := HS7.out.szs.shape
        have ez' : vs = .slice az s.szs.length cz := ez
        subst ez'
        clear HS7 HR7 HT7 HN7 HA7
        go_wp2_with (first | (at_builtin; refine app_ints (by rfl) _ _ rfl base _ s.szs rfl HS8.out.szs _ [X.length] rfl HI8.out (by simp; omega) HBS8.out ?_))
        intro v9 w9 ho9 hg9 hp9
        obtain ⟨ZL, HZL⟩ : ∃ l, Hid (s.szs ++ [X.length] = l) := ⟨_, rfl⟩
        rw [HZL.out] at ho9 HEQ
        have HS9 := hid (HS8.out.setSizes hg9 ho9)
        have HK9 := hid (gb_blk HS8.out.blk hg9 HS8.out.nes)
        have HR9 := hid (gb_blk (gb_blk HR8.out hg9 (own_block HS8.out.szs HR8.out (by decide))) (gb_set w9 ⟨B, 6, none⟩ v9) (by have := HBR.out; simp; omega))
        have HPB := hid (own_blk HN8.out HS8.out.blk (by decide))
        have HN9 := hid (gb_blk (gb_blk HN8.out hg9 (own_block HS8.out.szs HN8.out (by decide))) (gb_set w9 ⟨B, 6, none⟩ v9) (by have := HPB.out; simpa using this))
        have HT9 := hid ((HT8.out.row HB.out HS8.out.szs (Nat.le_refl _) hg9 (by decide) (by decide) (Or.inr rfl)).cell (i := 6) (u := v9) HB.out HK9.out HLW.out (by decide) (by decide))
        have HA9 := hid (own_far2 (own_far2 HA8.out hg9 (fun k e => own_apart HA8.out HS8.out.szs (by decide) e)) (gb_set w9 ⟨B, 6, none⟩ v9) (fun k e => by have := own_block HA8.out HS8.out.blk (by decide); intro h; exact this (by simpa [← h] using e)))
        have k0 : w9.cell? ⟨B, 6, none⟩ = some (.slice az s.szs.length cz) := by simp [World.cell?, HK9.out, sxC]
        have k2 : w9.frozen? ⟨B, 6, none⟩ = false := by simp [World.frozen?, HK9.out]
        obtain ⟨a9, c9, e9⟩ := ho9.shape
        subst e9
        clear ho9 hg9 hp9 k1 k6 HS8 HR8 HT8 HK9 HW8 HN8 HA8 HI8
        go_upto_region 15 with fail
        have HS10 := hid (show Sb (w9.setCell ⟨B, 6, none⟩ (.slice a9 ZL.length c9)) base B M (.slice a2 X.length c2) (.slice a9 ZL.length c9) ⟨X, CA, s.whole, s.why, s.wat, ZL⟩ from HS9.out)
        clear HS9
        generalize w9.setCell ⟨B, 6, none⟩ (.slice a9 ZL.length c9) = w10 at HS10 HR9 HN9 HT9 HA9 ⊢
        clear k0 k2
        obtain ⟨VS, HVS⟩ : ∃ v, Hid (Value.slice a9 ZL.length c9 = v) := ⟨_, rfl⟩
        rw [HVS.out] at HS10
        have HPR := hid (own_blk HN9.out HR9.out (by decide))
        have k1 := HS10.out.c1
        have k2 := HS10.out.fz 1
        have HS11 := hid (show Sb (w10.setCell ⟨B, 1, none⟩ (.slice none 0 0)) base B M (.slice none 0 0) VS ⟨[], CA, s.whole, s.why, s.wat, ZL⟩ from HS10.out.setNone)
        have HR11 := hid (gb_blk HR9.out (gb_set w10 ⟨B, 1, none⟩ (.slice none 0 0)) (by have := HBR.out; simp; omega))
        have HN11 := hid (gb_blk HN9.out (gb_set w10 ⟨B, 1, none⟩ (.slice none 0 0)) (by have := HPB.out; simpa using this))
        have HT11 := hid (HT9.out.cell (i := 1) (u := .slice none 0 0) HB.out HS10.out.blk HLW.out (by decide) (by decide))
        have HA11 := hid (own_far2 HA9.out (gb_set w10 ⟨B, 1, none⟩ (.slice none 0 0)) (fun k e => by have := own_block HA9.out HS10.out.blk (by decide); intro h; exact this (by simpa [← h] using e)))
        go_upto_region 16 with fail
        generalize w10.setCell ⟨B, 1, none⟩ (.slice none 0 0) = w11 at HS11 HR11 HN11 HT11 HA11 ⊢
        clear k1 k2 HS10 HR9 HN9 HT9 HA9
        obtain ⟨WH, HWH⟩ : ∃ n, Hid (s.whole + 1 = n) := ⟨_, rfl⟩
        have hwh : IntKind.i64.wrap ((s.whole : Int) + 1) = (WH : Int) := by rw [IntKind.wrap_i64]; have := HWH.out; omega
        have k1 : w11.cell? ⟨B, 3, none⟩ = some (.int .i64 (s.whole : Int)) := HS11.out.c3
        have k2 := HS11.out.fz 3
        have HS12 := hid (show Sb (w11.setCell ⟨B, 3, none⟩ (.int .i64 (WH : Int))) base B M (.slice none 0 0) VS ⟨[], CA, WH, s.why, s.wat, ZL⟩ from HS11.out.setWhole WH)
        have HR12 := hid (gb_blk HR11.out (gb_set w11 ⟨B, 3, none⟩ (.int .i64 (WH : Int))) (by have := HBR.out; simp; omega))
        have HN12 := hid (gb_blk HN11.out (gb_set w11 ⟨B, 3, none⟩ (.int .i64 (WH : Int))) (by have := HPB.out; simpa using this))
        have HT12 := hid (HT11.out.cell (i := 3) (u := .int .i64 (WH : Int)) HB.out HS11.out.blk HLW.out (by decide) (by decide))
        have HA12 := hid (own_far2 HA11.out (gb_set w11 ⟨B, 3, none⟩ (.int .i64 (WH : Int))) (fun k e => by have := own_block HA11.out HS11.out.blk (by decide); intro h; exact this (by simpa [← h] using e)))
        go_upto_region 17 with fail
        generalize w11.setCell ⟨B, 3, none⟩ (.int .i64 (WH : Int)) = w12 at HS12 HR12 HN12 HT12 HA12 ⊢
        clear k1 k2 hwh HS11 HR11 HN11 HT11 HA11
        rw [HWH.out] at HEQ
        have HSZ := hid (show (Tryz.prog.info? 52).map (·.size) = some (sxC M (.slice none 0 0) VS ⟨[], CA, WH, s.why, s.wat, ZL⟩).length from strmSize)
        have HON2 := hid HS12.out.one
        have HBK := hid HS12.out.blk
        obtain ⟨SC, HSC⟩ : ∃ l, Hid (sxC M (.slice none 0 0) VS ⟨[], CA, WH, s.why, s.wat, ZL⟩ = l) := ⟨_, rfl⟩
        have HOL := hid (show (sxC 0 (.slice none 0 0) (.slice none 0 0) zS).toArray.size = SC.length by rw [← HSC.out]; rfl)
        rw [HSC.out] at HSZ HON2 HBK
        refine wp_noPanic (wp_region_held_drew (S := fun W => W.heap[B]? = some (.cells SC.toArray 52 (0, 0)) ∧ W.heap[P]? = some (.cells FF.toArray 65 (0, 0))) (by kernel_rfl) ⟨HBK.out, HN12.out⟩ ?_)
        intro hHeld
        refine wpAnyH_take (i := 0) (v := .agg SC.toArray) rfl (by kernel_rfl) (by kernel_rfl) (by kernel_rfl) (fun _ _ _ h => h) (yieldsIf_load_mid (by rfl) 52 (.tmp 2) rfl B 0 rfl SC _ (fun W hW => range_row hW.1) Tryz.underlying52 rfl HSZ.out) hHeld ?_
        simp only [Act.put, List.getElem_toArray, List.getElem_cons_zero, List.setIfInBounds_toArray, List.set_cons_succ, List.set_cons_zero]
        refine wpAnyH_take (i := 1) (v := .agg FF.toArray) rfl (by kernel_rfl) (by kernel_rfl) (by kernel_rfl) (fun _ _ _ h => h) (yieldsIf_load_mid (by rfl) 65 (.tmp 9) rfl P 0 rfl FF _ (fun W hW => range_row hW.2) Tryz.underlying65 rfl HSY.out) hHeld ?_
        simp only [Act.put, List.getElem_toArray, List.getElem_cons_zero, List.getElem_cons_succ, List.setIfInBounds_toArray, List.set_cons_succ, List.set_cons_zero]
        have HD1 := hid (bel_drw w12 1)
        have HSwq := hid (HS12.out.below HD1.out)
        have HRwq := hid (bel_keep HD1.out HR12.out)
        have HTwq := hid (HT12.out.below HB.out HD1.out)
        have HAwq := hid (own_below HA12.out HD1.out)
        have HNwq := hid (bel_keep HD1.out HN12.out)
        obtain ⟨wq, HWX⟩ : ∃ x, Hid (w12.drewN 1 = x) := ⟨_, rfl⟩
        have HWY := hid (show w12.drew = wq from HWX.out)
        rw [HWX.out] at HSwq HRwq HTwq HAwq HNwq
        rw [HWY.out]
        clear hHeld HS12 HR12 HT12 HA12 HN12 HD1
        refine wpAnyH_ready (rs := [2, 3]) (by kernel_rfl) (by simp) ?_
        refine AllReadyH.cons rfl (fun K hK => ?_) (AllReadyH.cons rfl (fun K hK => ?_) AllReadyH.nil)
        · as_aux_lemma =>
            obtain ⟨g, HGe⟩ : ∃ n, Hid (wq.heap.size = n) := ⟨_, rfl⟩
            have HWB := hid (below_walk wq (.cells FF.toArray 65))
            have HSwa := hid (HSwq.out.below HWB.out)
            have HRwa := hid (bel_keep HWB.out HRwq.out)
            have HNwa := hid (bel_keep HWB.out HNwq.out)
            have HTwa := hid (HTwq.out.below HB.out HWB.out)
            have HOwa := hid (show OFs (wq.alloc (.cells FF.toArray 65)) w.heap.size (.slice (some ⟨g, 0, none⟩) 1 1) [(F, va)] by rw [← HFF.out, ← HGe.out]; exact ofs_one wq w.heap.size F va HTwq.out.bl.size HRG.out HAwq.out)
            refine step_bs_frame (by rfl) (.tmp 80) (by rfl) FF (by rfl) HF42.out g HGe.out ?_
            refine hK.out _ _ ⟨by rw [← HSC.out]; exact HSwa.out.blk, HNwa.out⟩ (fun hHeld => ?_)
            clear hK K
            try simp only [Act.put, List.getElem_toArray, List.getElem_cons_zero, List.getElem_cons_succ, List.setIfInBounds_toArray, List.set_cons_succ, List.set_cons_zero]
            generalize wq.alloc (.cells FF.toArray 65) = wa at HSwa HRwa HNwa HTwa HOwa hHeld ⊢
            refine wpAnyH_ready (rs := [3]) (by kernel_rfl) (by simp) ?_
            refine AllReadyH.cons rfl (fun K hK => ?_) AllReadyH.nil
            refine step_store_row (by rfl) 52 _ _ (by rfl) R SC (by rfl) (by rfl) 52 _ HRwa.out HSZ.out HOL.out HON2.out ?_
            intro wb h9
            have HSwb := hid (HSwa.out.far h9.grown (by have := HBR.out; omega) (own_block HSwa.out.own HRwa.out (by decide)) (own_block HSwa.out.szs HRwa.out (by decide)))
            have HNwb := hid (gb_blk HNwa.out h9.grown (by have := HPR.out; simpa using this))
            have HRwb := hid h9.blk
            have HTwb := hid (HTwa.out.blk HB.out HRwa.out HRW.out h9.grown (by decide) (by decide))
            have HOwb := hid (HOwa.out.gone h9.grown HRwa.out (by decide) (by decide))
            refine hK.out _ _ ⟨by rw [← HSC.out]; exact HSwb.out.blk, HNwb.out⟩ (fun hHeld => ?_)
            clear hK K h9
            try simp only [Act.put, List.getElem_toArray, List.getElem_cons_zero, List.getElem_cons_succ]
            refine wpAnyH_take (i := 4) (v := .slice (some ⟨g, 0, none⟩) 1 1) rfl (by kernel_rfl) (by kernel_rfl) (by kernel_rfl) (fun _ _ _ h => h) (Or.inl ⟨by rfl, fun W _ => by go_simp⟩) hHeld ?_
            simp only [Act.put, List.getElem_toArray, List.getElem_cons_zero, List.getElem_cons_succ, List.setIfInBounds_toArray, List.set_cons_succ, List.set_cons_zero]
            refine wpAnyH_done (by kernel_rfl) ?_ _
            simp only [noPanic]
            clear hHeld
            go_wp2
            refine ret_row2 4 5 52 rfl R rfl SC 52 HRwb.out _ Tryz.underlying52 rfl HSZ.out _ rfl rfl ?_
            rw [← HSC.out, HEQ.out]
            exact ⟨_, _, _, [(F, va)], rfl, HSwb.out.own, HSwb.out.szs, HOwb.out, rfl, HTwb.out⟩
        · as_aux_lemma =>
            refine step_store_row (by rfl) 52 _ _ (by rfl) R SC (by rfl) (by rfl) 52 _ HRwq.out HSZ.out HOL.out HON2.out ?_
            intro wa h9
            have HSwa := hid (HSwq.out.far h9.grown (by have := HBR.out; omega) (own_block HSwq.out.own HRwq.out (by decide)) (own_block HSwq.out.szs HRwq.out (by decide)))
            have HNwa := hid (gb_blk HNwq.out h9.grown (by have := HPR.out; simpa using this))
            have HRwa := hid h9.blk
            have HTwa := hid (HTwq.out.blk HB.out HRwq.out HRW.out h9.grown (by decide) (by decide))
            have HAwa := hid (own_far2 HAwq.out h9.grown (fun k e => by have := own_block HAwq.out HRwq.out (by decide); intro h; injection h with h; exact this (h ▸ e)))
            refine hK.out _ _ ⟨by rw [← HSC.out]; exact HSwa.out.blk, HNwa.out⟩ (fun hHeld => ?_)
            clear hK K h9
            try simp only [Act.put, List.getElem_toArray, List.getElem_cons_zero, List.getElem_cons_succ]
            refine wpAnyH_ready (rs := [2]) (by kernel_rfl) (by simp) ?_
            refine AllReadyH.cons rfl (fun K hK => ?_) AllReadyH.nil
            obtain ⟨g, HGe⟩ : ∃ n, Hid (wa.heap.size = n) := ⟨_, rfl⟩
            have HWB := hid (below_walk wa (.cells FF.toArray 65))
            have HSwb := hid (HSwa.out.below HWB.out)
            have HRwb := hid (bel_keep HWB.out HRwa.out)
            have HNwb := hid (bel_keep HWB.out HNwa.out)
            have HTwb := hid (HTwa.out.below HB.out HWB.out)
            have HOwb := hid (show OFs (wa.alloc (.cells FF.toArray 65)) w.heap.size (.slice (some ⟨g, 0, none⟩) 1 1) [(F, va)] by rw [← HFF.out, ← HGe.out]; exact ofs_one wa w.heap.size F va HTwa.out.bl.size HRG.out HAwa.out)
            refine step_bs_frame (by rfl) (.tmp 80) (by rfl) FF (by rfl) HF42.out g HGe.out ?_
            refine hK.out _ _ ⟨by rw [← HSC.out]; exact HSwb.out.blk, HNwb.out⟩ (fun hHeld => ?_)
            clear hK K
            try simp only [Act.put, List.getElem_toArray, List.getElem_cons_zero, List.getElem_cons_succ, List.setIfInBounds_toArray, List.set_cons_succ, List.set_cons_zero]
            generalize wa.alloc (.cells FF.toArray 65) = wb at HSwb HRwb HNwb HTwb HOwb hHeld ⊢
            refine wpAnyH_take (i := 4) (v := .slice (some ⟨g, 0, none⟩) 1 1) rfl (by kernel_rfl) (by kernel_rfl) (by kernel_rfl) (fun _ _ _ h => h) (Or.inl ⟨by rfl, fun W _ => by go_simp⟩) hHeld ?_
            simp only [Act.put, List.getElem_toArray, List.getElem_cons_zero, List.getElem_cons_succ, List.setIfInBounds_toArray, List.set_cons_succ, List.set_cons_zero]
            refine wpAnyH_done (by kernel_rfl) ?_ _
            simp only [noPanic]
            clear hHeld
            go_wp2
            refine ret_row2 4 5 52 rfl R rfl SC 52 HRwb.out _ Tryz.underlying52 rfl HSZ.out _ rfl rfl ?_
            rw [← HSC.out, HEQ.out]
            exact ⟨_, _, _, [(F, va)], rfl, HSwb.out.own, HSwb.out.szs, HOwb.out, rfl, HTwb.out⟩
      · as_aux_lemma =>
          have q4 : ((d1 : Int) != 0) = true := by simpa using hd
          have HEQ := hid (show takeC M s [c] = (⟨X, CA, s.whole, d1, IntKind.i64.wrap (FI + d2), s.szs⟩, []) by rw [HTK2.out, if_pos hd])
          obtain ⟨WT, HWT⟩ : ∃ n, Hid (IntKind.i64.wrap (FI + d2) = n) := ⟨_, rfl⟩
          have hwt : IntKind.i64.wrap (FI + d2) = WT := HWT.out
          rw [HWT.out] at HEQ
          clear hd HTK2 h0 h1
          have k1 := HS7.out.c1
          go_upto_region 13 with (first
            | (refine bd_row (by rfl) 30 #[(0, .tmp 59), (1, .tmp 62)] (by rfl) _ (by simp [Act.eval]) _ (built_ft _ _) ?_)
            | (refine st_fault8 (by rfl) _ _ (by rfl) HS7.out d1 WT (by rfl) (by rfl) ?_; intro w8 hs8 hw8))
          have HS8 := hid (show Sb w8 base B M (.slice a2 X.length c2) vs ⟨X, CA, s.whole, d1, WT, s.szs⟩ from hs8)
          have HR8 := hid (show w8.heap[R]? = some (.cells (sxC 0 (.slice none 0 0) (.slice none 0 0) zS).toArray 52 (0, 0)) by rw [hw8]; exact blk_two HR7.out (by have := HBR.out; omega))
          have HT8 := hid (show Tk w w8 base by rw [hw8]; exact HT7.out.two HB.out HS7.out.blk HLW.out (by decide) (by decide))
          clear hs8 hw8 HS7 HR7 HT7 k1 hwt
          have HSZ8 := hid (show (Tryz.prog.info? 52).map (·.size) = some (sxC M (.slice a2 X.length c2) vs ⟨X, CA, s.whole, d1, WT, s.szs⟩).length from strmSize)
          have HON8 := hid HS8.out.one
          have HBK8 := hid HS8.out.blk
          obtain ⟨SC, HSC⟩ : ∃ l, Hid (sxC M (.slice a2 X.length c2) vs ⟨X, CA, s.whole, d1, WT, s.szs⟩ = l) := ⟨_, rfl⟩
          have HOL := hid (show (sxC 0 (.slice none 0 0) (.slice none 0 0) zS).toArray.size = SC.length by rw [← HSC.out]; rfl)
          rw [HSC.out] at HSZ8 HON8 HBK8
          go_wp2_with (first
            | (refine ld_row (by rfl) 52 (.tmp 2) (by rfl) B (by rfl) SC 52 HBK8.out _ Tryz.underlying52 rfl HSZ8.out ?_)
            | (refine st_row (by rfl) 52 _ _ (by rfl) R SC (by rfl) (by rfl) 52 _ HR8.out HSZ8.out HOL.out HON8.out ?_; intro w9 hw9))
          refine ret_row2 4 5 52 rfl R rfl SC 52 hw9.blk _ Tryz.underlying52 rfl HSZ8.out _ rfl rfl ?_
          have HS9 := HS8.out.far hw9.grown (by have := HBR.out; omega) (own_block HS8.out.own HR8.out (by decide)) (own_block HS8.out.szs HR8.out (by decide))
          have HT9 := HT8.out.blk HB.out HR8.out HRW.out hw9.grown (by decide) (by decide)
          rw [← HSC.out, HEQ.out]
          exact ⟨_, _, .slice none 0 0, [], rfl, HS9.own, HS9.szs, OFs.nil _ _, rfl, HT9⟩
  · as_aux_lemma =>
      have q4 : (e5 != 0) = true := by simpa using he
      have HEQ := hid (show takeC M s [c] = (⟨X, CA, s.whole, e5, FI, s.szs⟩, []) by rw [HTK.out, if_pos he])
      clear he HTK h0 h1
      go_upto_region 7 with (first
        | (refine bd_row (by rfl) 30 #[(0, .tmp 35), (1, .tmp 36)] (by rfl) _ (by simp [Act.eval]) _ (built_ft _ _) ?_)
        | (refine st_fault8 (by rfl) _ _ (by rfl) HS5.out e5 FI (by rfl) (by rfl) ?_; intro w8 hs8 hw8))
      have HS8 := hid (show Sb w8 base B M (.slice a2 X.length c2) vs ⟨X, CA, s.whole, e5, FI, s.szs⟩ from hs8)
      have HR8 := hid (show w8.heap[R]? = some (.cells (sxC 0 (.slice none 0 0) (.slice none 0 0) zS).toArray 52 (0, 0)) by rw [hw8]; exact blk_two HR5.out (by have := HBR.out; omega))
      have HT8 := hid (show Tk w w8 base by rw [hw8]; exact HT5.out.two HB.out HS5.out.blk HLW.out (by decide) (by decide))
      clear hs8 hw8 HS5 HR5 HT5
      have HSZ8 := hid (show (Tryz.prog.info? 52).map (·.size) = some (sxC M (.slice a2 X.length c2) vs ⟨X, CA, s.whole, e5, FI, s.szs⟩).length from strmSize)
      have HON8 := hid HS8.out.one
      have HBK8 := hid HS8.out.blk
      obtain ⟨SC, HSC⟩ : ∃ l, Hid (sxC M (.slice a2 X.length c2) vs ⟨X, CA, s.whole, e5, FI, s.szs⟩ = l) := ⟨_, rfl⟩
      have HOL := hid (show (sxC 0 (.slice none 0 0) (.slice none 0 0) zS).toArray.size = SC.length by rw [← HSC.out]; rfl)
      rw [HSC.out] at HSZ8 HON8 HBK8
      go_wp2_with (first
        | (refine ld_row (by rfl) 52 (.tmp 2) (by rfl) B (by rfl) SC 52 HBK8.out _ Tryz.underlying52 rfl HSZ8.out ?_)
        | (refine st_row (by rfl) 52 _ _ (by rfl) R SC (by rfl) (by rfl) 52 _ HR8.out HSZ8.out HOL.out HON8.out ?_; intro w9 hw9))
      refine ret_row2 4 5 52 rfl R rfl SC 52 hw9.blk _ Tryz.underlying52 rfl HSZ8.out _ rfl rfl ?_
      have HS9 := HS8.out.far hw9.grown (by have := HBR.out; omega) (own_block HS8.out.own HR8.out (by decide)) (own_block HS8.out.szs HR8.out (by decide))
      have HT9 := HT8.out.blk HB.out HR8.out HRW.out hw9.grown (by decide) (by decide)
      rw [← HSC.out, HEQ.out]
      exact ⟨_, _, .slice none 0 0, [], rfl, HS9.own, HS9.szs, OFs.nil _ _, rfl, HT9⟩
end Go.Proofs.YtiibhccbbpgehabGreat

/- The document's Copy, End and Want. -/
namespace Go.Proofs.YtiibhccbbpgehabGreat
open Go.RowKit Go.BigFrame

theorem own_grow {w w' : World} {base base2 n2 : Nat} {e e2 : TypeId} {size size2 : Nat} {v v2 : Value} {n : Nat} {xs xs2 : List Value} (h : w.ownsRow base e size v n xs) (g : w.grownBy w' v2.ownBlock) (h2 : w.ownsRow base2 e2 size2 v2 n2 xs2) (he : e ≠ e2) : w'.ownsRow base e size v n xs :=
  own_far2 h g (fun _ e1 e3 => own_apart h h2 he e1 e3)
theorem own_set {w : World} {base b i : Nat} {e ty : TypeId} {size : Nat} {v u : Value} {n : Nat} {xs : List Value} {cs : Array Value} (h : w.ownsRow base e size v n xs) (hb : w.heap[b]? = some (.cells cs ty (0, 0))) (he : e ≠ ty) : (w.setCell ⟨b, i, none⟩ u).ownsRow base e size v n xs :=
  own_far2 h (gb_set w ⟨b, i, none⟩ u) (fun _ e1 e3 => own_block h hb he (by simpa [← e3] using e1))

set_option maxRecDepth 100000 in
set_option maxHeartbeats 4000000 in
theorem rcopy8_any (s : Sx) (vr vs : Value) (w : World) (b2 M : Nat) (ho : OwnB w b2 vr s.r) (hz : OwnI w b2 vs s.szs) (hl : s.r.length ≤ 4000000) (hsz : s.szs.length ≤ 100000000000) :
    Calls Tryz.prog 48 #[.agg (sxC M vr vs s).toArray] w fun e w' => ∃ vr' vs', e = .returned (.agg (sxC M vr' vs' s).toArray) ∧ OwnB w' w.heap.size vr' s.r ∧ OwnI w' w.heap.size vs' s.szs ∧ Below w.heap.size w w' := by
  obtain ⟨ar, cr, er⟩ := ho.shape
  obtain ⟨az, cz, ez⟩ := hz.shape
  have HO := hid ho
  have HI := hid hz
  have HW1 := hid (show Below w.heap.size w ((w.alloc (.cells (sxC M vr vs s).toArray 52)).alloc (.cells #[.int .i64 0, .slice none 0 0, .int .i64 0, .int .i64 0, .int .i64 0, .int .i64 0, .slice none 0 0] 52)) from below_walk2 w _ _)
  have HNN := hid (show ((w.alloc (.cells (sxC M vr vs s).toArray 52)).alloc (.cells #[.int .i64 0, .slice none 0 0, .int .i64 0, .int .i64 0, .int .i64 0, .int .i64 0, .slice none 0 0] 52)).heap[w.heap.size]? = some (.cells (sxC M vr vs s).toArray 52 (0, 0)) ∧ ((w.alloc (.cells (sxC M vr vs s).toArray 52)).alloc (.cells #[.int .i64 0, .slice none 0 0, .int .i64 0, .int .i64 0, .int .i64 0, .int .i64 0, .slice none 0 0] 52)).heap[w.heap.size + 1]? = some (.cells (sxC 0 (.slice none 0 0) (.slice none 0 0) zS).toArray 52 (0, 0)) from hp_two w _ _)
  have HZ : Hid ((w.alloc (.cells (sxC M vr vs s).toArray 52)).heap.size = w.heap.size + 1) := hid (by simp)
  clear ho hz
  go_enter Tryz.func48, Tryz.ntmps48
  go_upto_region 1 with (first
    | (refine bx_row (by rfl) 52 _ (by rfl) _ (by rfl) ?_)
    | (refine al_row (by rfl) 52 (by rfl) _ zeroStrm ?_))
  try rw [HZ.out]
  obtain ⟨B, HBe⟩ : ∃ n, Hid (w.heap.size = n) := ⟨_, rfl⟩
  obtain ⟨R, HRe⟩ : ∃ n, Hid (B + 1 = n) := ⟨_, rfl⟩
  have HBR := hid (show R = B + 1 from HRe.out.symm)
  rw [HBe.out, HRe.out] at HNN ⊢
  generalize (w.alloc (.cells (sxC M vr vs s).toArray 52)).alloc (.cells #[.int .i64 0, .slice none 0 0, .int .i64 0, .int .i64 0, .int .i64 0, .int .i64 0, .slice none 0 0] 52) = w1 at HW1 HNN ⊢
  have HK1 := hid HNN.out.1
  have HR1 := hid HNN.out.2
  have HQ1 := hid HW1.out
  have HO1 := hid (HO.out.below HQ1.out)
  have HI1 := hid (own_below HI.out HQ1.out)
  clear HNN HW1 HZ HO HI
  have HW2 := hid (below_walk w1 (.cells #[] 5))
  have HK2 := hid (bel_keep HW2.out HK1.out)
  have HR2 := hid (bel_keep HW2.out HR1.out)
  have HQ2 := hid (below_then HQ1.out HW2.out)
  have HO2 := hid (HO1.out.below HW2.out)
  have HI2 := hid (own_below HI1.out HW2.out)
  have HE2 := hid (show OwnB (w1.alloc (.cells #[] 5)) w.heap.size (.slice (some ⟨w1.heap.size, 0, none⟩) 0 0) [] from World.ownsRow_lit w1 #[] 0 HQ1.out.size (by decide) rfl)
  have c1 : (w1.alloc (.cells #[] 5)).cell? ⟨B, 1, none⟩ = some vr := (cell_of_row _ B 1 _ _ _ HK2.out).trans rfl
  have HSZ9 := hid HQ2.out.size
  subst er
  go_wp2_with (first | (at_builtin; refine app_bytes (by rfl) _ _ rfl w.heap.size _ [] rfl HE2.out _ _ rfl (HO2.out.src (by omega)) (by simp; omega) HSZ9.out ?_))
  intro v2 w2 ho2 hg2 hp2
  try rw [List.nil_append] at ho2
  have HKb := hid (gb_blk HK2.out hg2 (own_block HE2.out HK2.out (by decide)))
  have HK3 := hid (show (w2.setCell ⟨B, 1, none⟩ v2).heap[B]? = some (.cells (sxC M v2 vs s).toArray 52 (0, 0)) by rw [blk_set HKb.out]; rfl)
  have HR3 := hid (gb_blk (gb_blk HR2.out hg2 (own_block HE2.out HR2.out (by decide))) (gb_set w2 ⟨B, 1, none⟩ v2) (by have := HBR.out; simp; omega))
  have HO3 := hid (show OwnB (w2.setCell ⟨B, 1, none⟩ v2) w.heap.size v2 s.r from own_set ho2 HKb.out (by decide))
  have HI3 := hid (show OwnI (w2.setCell ⟨B, 1, none⟩ v2) b2 vs s.szs from own_set (own_grow HI2.out hg2 HE2.out (by decide)) HKb.out (by decide))
  have HQ3 := hid (Below.of_gb (Below.of_gbo HQ2.out hg2 (fun k e => (World.ownsRow.lt HE2.out k e).1)) (gb_set w2 ⟨B, 1, none⟩ v2) (by have := HBe.out; show w.heap.size ≤ B; omega))
  have k0 : w2.cell? ⟨B, 1, none⟩ = some (.slice ar s.r.length cr) := (cell_of_row _ B 1 _ _ _ HKb.out).trans rfl
  have k1 : w2.frozen? ⟨B, 1, none⟩ = false := by simp [World.frozen?, HKb.out]
  obtain ⟨a2, c2, e2⟩ := ho2.shape
  subst e2
  clear ho2 hg2 hp2 c1 HK1 HK2 HR1 HR2 HQ1 HQ2 HO1 HO2 HI1 HI2 HE2 HW2 HKb HSZ9
  go_upto_region 2 with fail
  generalize w2.setCell ⟨B, 1, none⟩ (.slice a2 s.r.length c2) = w3 at HK3 HR3 HO3 HI3 HQ3 ⊢
  clear k0 k1
  have HW4 := hid (below_walk w3 (.cells #[] 3))
  have HK4 := hid (bel_keep HW4.out HK3.out)
  have HR4 := hid (bel_keep HW4.out HR3.out)
  have HQ4 := hid (below_then HQ3.out HW4.out)
  have HO4 := hid (HO3.out.below HW4.out)
  have HI4 := hid (own_below HI3.out HW4.out)
  have HE4 := hid (show OwnI (w3.alloc (.cells #[] 3)) w.heap.size (.slice (some ⟨w3.heap.size, 0, none⟩) 0 0) [] from World.ownsRow_lit w3 #[] 0 HQ3.out.size (by decide) rfl)
  have c1 : (w3.alloc (.cells #[] 3)).cell? ⟨B, 6, none⟩ = some vs := (cell_of_row _ B 6 _ _ _ HK4.out).trans rfl
  have HSZ9 := hid HQ4.out.size
  subst ez
  go_wp2_with (first | (at_builtin; refine app_ints (by rfl) _ _ rfl w.heap.size _ [] rfl HE4.out _ s.szs rfl ⟨b2, HI4.out⟩ (by simp; omega) HSZ9.out ?_))
  intro v5 w5 ho5 hg5 hp5
  try rw [List.nil_append] at ho5
  have HKb := hid (gb_blk HK4.out hg5 (own_block HE4.out HK4.out (by decide)))
  have HK6 := hid (show (w5.setCell ⟨B, 6, none⟩ v5).heap[B]? = some (.cells (sxC M (.slice a2 s.r.length c2) v5 s).toArray 52 (0, 0)) by rw [blk_set HKb.out]; rfl)
  have HR6 := hid (gb_blk (gb_blk HR4.out hg5 (own_block HE4.out HR4.out (by decide))) (gb_set w5 ⟨B, 6, none⟩ v5) (by have := HBR.out; simp; omega))
  have HO6 := hid (show OwnB (w5.setCell ⟨B, 6, none⟩ v5) w.heap.size (.slice a2 s.r.length c2) s.r from own_set (own_grow HO4.out hg5 HE4.out (by decide)) HKb.out (by decide))
  have HI6 := hid (show OwnI (w5.setCell ⟨B, 6, none⟩ v5) w.heap.size v5 s.szs from own_set ho5 HKb.out (by decide))
  have HQ6 := hid (Below.of_gb (Below.of_gbo HQ4.out hg5 (fun k e => (World.ownsRow.lt HE4.out k e).1)) (gb_set w5 ⟨B, 6, none⟩ v5) (by have := HBe.out; show w.heap.size ≤ B; omega))
  have k0 : w5.cell? ⟨B, 6, none⟩ = some (.slice az s.szs.length cz) := (cell_of_row _ B 6 _ _ _ HKb.out).trans rfl
  have k1 : w5.frozen? ⟨B, 6, none⟩ = false := by simp [World.frozen?, HKb.out]
  obtain ⟨a5, c5, e5⟩ := ho5.shape
  subst e5
  clear ho5 hg5 hp5 c1 HK3 HK4 HR3 HR4 HQ3 HQ4 HO3 HO4 HI3 HI4 HE4 HW4 HKb HSZ9
  go_upto_region 3 with fail
  generalize w5.setCell ⟨B, 6, none⟩ (.slice a5 s.szs.length c5) = w6 at HK6 HR6 HO6 HI6 HQ6 ⊢
  clear k0 k1
  have HSZ := hid (show (Tryz.prog.info? 52).map (·.size) = some (sxC M (.slice a2 s.r.length c2) (.slice a5 s.szs.length c5) s).length from strmSize)
  have HON := hid (sxC_one (M := M) (vr := .slice a2 s.r.length c2) (vs := .slice a5 s.szs.length c5) (s := s) rfl rfl)
  obtain ⟨SC, HSC⟩ : ∃ l, Hid (sxC M (.slice a2 s.r.length c2) (.slice a5 s.szs.length c5) s = l) := ⟨_, rfl⟩
  have HOL := hid (show (sxC 0 (.slice none 0 0) (.slice none 0 0) zS).toArray.size = SC.length by rw [← HSC.out]; rfl)
  rw [HSC.out] at HSZ HON HK6
  go_wp2_with (first
    | (refine ld_row (by rfl) 52 (.tmp 1) (by rfl) B (by rfl) SC 52 HK6.out _ Tryz.underlying52 rfl HSZ.out ?_)
    | (refine st_row (by rfl) 52 _ _ (by rfl) R SC (by rfl) (by rfl) 52 _ HR6.out HSZ.out HOL.out HON.out ?_; intro w9 hw9))
  refine ret_row 2 52 rfl R rfl SC 52 hw9.blk _ Tryz.underlying52 rfl HSZ.out rfl ?_
  exact ⟨_, _, by rw [HSC.out], own_far2 HO6.out hw9.grown (fun _ e h => own_block HO6.out HR6.out (by decide) (h ▸ e)), own_far2 HI6.out hw9.grown (fun _ e h => own_block HI6.out HR6.out (by decide) (h ▸ e)), Below.of_gb HQ6.out hw9.grown (by have := HBe.out; have := HBR.out; omega)⟩

set_option maxRecDepth 100000 in
set_option maxHeartbeats 2000000 in
theorem rend8_any (M : Nat) (s : Sx) (vr vs : Value) (w : World) (hs : Src w vr s.r) (hg : s.why = 0 → s.wat = 0) :
    Calls Tryz.prog 35 #[.agg (sxC M vr vs s).toArray] w fun e w' => e = .returned (.agg #[.int .i64 (stopP s).1, .int .i64 (stopP s).2]) ∧ Below w.heap.size w w' := by
  obtain ⟨ar, cr, rfl⟩ := src_shape hs
  have HQ := hid (show Below w.heap.size w ((w.alloc (.cells (sxC M (.slice ar s.r.length cr) vs s).toArray 52)).alloc (.cells #[.int .i64 0, .int .i64 0] 30)) from below_walk2 w _ _)
  have HNN := hid (show ((w.alloc (.cells (sxC M (.slice ar s.r.length cr) vs s).toArray 52)).alloc (.cells #[.int .i64 0, .int .i64 0] 30)).heap[w.heap.size]? = some (.cells (sxC M (.slice ar s.r.length cr) vs s).toArray 52 (0, 0)) ∧ ((w.alloc (.cells (sxC M (.slice ar s.r.length cr) vs s).toArray 52)).alloc (.cells #[.int .i64 0, .int .i64 0] 30)).heap[w.heap.size + 1]? = some (.cells #[.int .i64 0, .int .i64 0] 30 (0, 0)) from hp_two w _ _)
  have HZ : Hid ((w.alloc (.cells (sxC M (.slice ar s.r.length cr) vs s).toArray 52)).heap.size = w.heap.size + 1) := hid (by simp)
  have HGW := hid hg
  clear hs hg
  go_enter Tryz.func35, Tryz.ntmps35
  go_upto_region 1 with (first
    | (refine bx_row (by rfl) 52 _ (by rfl) _ (by rfl) ?_)
    | (refine al_row (by rfl) 30 (by rfl) _ zeroFault ?_))
  try rw [HZ.out]
  obtain ⟨B, HBe⟩ : ∃ n, Hid (w.heap.size = n) := ⟨_, rfl⟩
  obtain ⟨R, HRe⟩ : ∃ n, Hid (B + 1 = n) := ⟨_, rfl⟩
  have HRL := hid (show w.heap.size ≤ R by have := HRe.out; have := HBe.out; omega)
  rw [HBe.out, HRe.out] at HNN ⊢
  generalize (w.alloc (.cells (sxC M (.slice ar s.r.length cr) vs s).toArray 52)).alloc (.cells #[.int .i64 0, .int .i64 0] 30) = w1 at HQ HNN ⊢
  have HK1 := hid HNN.out.1
  have HR1 := hid HNN.out.2
  have c1 : w1.cell? ⟨B, 1, none⟩ = some (.slice ar s.r.length cr) := (cell_of_row _ B 1 _ _ _ HK1.out).trans rfl
  have c2 : w1.cell? ⟨B, 2, none⟩ = some (.int .i64 (s.came : Int)) := (cell_of_row _ B 2 _ _ _ HK1.out).trans rfl
  have c4 : w1.cell? ⟨B, 4, none⟩ = some (.int .i64 s.why) := (cell_of_row _ B 4 _ _ _ HK1.out).trans rfl
  have c5 : w1.cell? ⟨B, 5, none⟩ = some (.int .i64 s.wat) := (cell_of_row _ B 5 _ _ _ HK1.out).trans rfl
  clear HNN HZ
  obtain ⟨y, HY⟩ : ∃ y, Hid (s.why = y) := ⟨_, rfl⟩
  obtain ⟨t, HTt⟩ : ∃ y, Hid (s.wat = y) := ⟨_, rfl⟩
  obtain ⟨ca, HCa⟩ : ∃ n, Hid (s.came = n) := ⟨_, rfl⟩
  obtain ⟨L, HL⟩ : ∃ n, Hid (s.r.length = n) := ⟨_, rfl⟩
  have HSP := hid (show stopP s = if y ≠ 0 then (y, t) else if 0 < L then (4, (ca : Int)) else (0, 0) by unfold stopP; rw [HY.out, HTt.out, HCa.out, HL.out])
  rw [HY.out] at c4
  rw [HTt.out] at c5
  rw [HCa.out] at c2
  rw [HL.out] at c1
  have HG := hid (show y = 0 → t = 0 from fun h => by rw [← HTt.out]; exact HGW.out (HY.out.trans h))
  clear HGW
  by_cases hy : y = 0
  · have ht := HG.out hy
    subst hy ht
    have n1 : ∀ W, (binOp .eql 30 (.agg #[.int .i64 0, .int .i64 0]) (.agg #[.int .i64 0, .int .i64 0])).run Tryz.prog W = .ok (.bool true) W := fun W => fault_eql 0 0 0 0 W
    by_cases hl : 0 < L
    · have hl2 : (0 : Int) < (L : Int) := by omega
      have HE := hid (show stopP s = (4, (ca : Int)) by rw [HSP.out, if_neg (by simp), if_pos hl])
      clear hl
      go_wp2_with (first
        | (refine bd_row (by rfl) 30 #[] (by rfl) _ (by simp) _ built_fz ?_)
        | (refine bd_row (by rfl) 30 #[(0, .const (.int .i64 4)), (1, .tmp 14)] (by rfl) _ (by simp [Act.eval]) _ (built_ft _ _) ?_)
        | (refine st_row (by rfl) 30 _ _ (by rfl) R [Value.int .i64 4, .int .i64 (ca : Int)] (by rfl) (by rfl) 30 _ HR1.out faultSize rfl (fault_one _ _) ?_; intro w9 hw9))
      refine ret_row 2 30 rfl R rfl [Value.int .i64 4, .int .i64 (ca : Int)] 30 hw9.blk _ Tryz.underlying30 rfl faultSize rfl ?_
      exact ⟨by rw [HE.out], Below.of_gb HQ.out hw9.grown HRL.out⟩
    · have hl0 : L = 0 := by omega
      subst hl0
      have HE := hid (show stopP s = (0, 0) by rw [HSP.out, if_neg (by simp), if_neg hl])
      clear hl
      go_wp2_with (first
        | (refine bd_row (by rfl) 30 #[] (by rfl) _ (by simp) _ built_fz ?_)
        | (refine st_row (by rfl) 30 _ _ (by rfl) R [Value.int .i64 0, .int .i64 0] (by rfl) (by rfl) 30 _ HR1.out faultSize rfl (fault_one _ _) ?_; intro w9 hw9))
      refine ret_row 2 30 rfl R rfl [Value.int .i64 0, .int .i64 0] 30 hw9.blk _ Tryz.underlying30 rfl faultSize rfl ?_
      exact ⟨by rw [HE.out], Below.of_gb HQ.out hw9.grown HRL.out⟩
  · have n1 : ∀ W, (binOp .eql 30 (.agg #[.int .i64 y, .int .i64 t]) (.agg #[.int .i64 0, .int .i64 0])).run Tryz.prog W = .ok (.bool false) W := fun W => by rw [fault_eql]; simp [hy]
    have HE := hid (show stopP s = (y, t) by rw [HSP.out, if_pos hy])
    clear hy
    go_wp2_with (first
      | (refine bd_row (by rfl) 30 #[] (by rfl) _ (by simp) _ built_fz ?_)
      | (refine st_row (by rfl) 30 _ _ (by rfl) R [Value.int .i64 y, .int .i64 t] (by rfl) (by rfl) 30 _ HR1.out faultSize rfl (fault_one _ _) ?_; intro w9 hw9))
    refine ret_row 2 30 rfl R rfl [Value.int .i64 y, .int .i64 t] 30 hw9.blk _ Tryz.underlying30 rfl faultSize rfl ?_
    exact ⟨by rw [HE.out], Below.of_gb HQ.out hw9.grown HRL.out⟩

set_option maxRecDepth 100000 in
set_option maxHeartbeats 2000000 in
theorem rwant8_any (M : Nat) (s : Sx) (vr vs : Value) (w : World) (hs : Src w vr s.r) (hg : Gs M s) (hM : M ≤ 2097152) :
    Calls Tryz.prog 34 #[.agg (sxC M vr vs s).toArray] w fun e w' => e = .returned (.int .i64 (wantP s : Nat)) ∧ Below w.heap.size w w' := by
  obtain ⟨ar, cr, rfl⟩ := src_shape hs
  have HQ := hid (below_walk w (.cells (sxC M (.slice ar s.r.length cr) vs s).toArray 52))
  have HK1 := hid (hp_new w (.cells (sxC M (.slice ar s.r.length cr) vs s).toArray 52))
  have HNE := hid (rneed8_any M s (.slice ar s.r.length cr) vs (w.alloc (.cells (sxC M (.slice ar s.r.length cr) vs s).toArray 52)) (hs.below HQ.out))
  have HSZ := hid (show (Tryz.prog.info? 52).map (·.size) = some (sxC M (.slice ar s.r.length cr) vs s).length from strmSize)
  have HGG := hid hg
  clear hs hg
  go_enter Tryz.func34, Tryz.ntmps34
  go_upto_region 1 with (first | (refine bx_row (by rfl) 52 _ (by rfl) _ (by rfl) ?_))
  obtain ⟨B, HBe⟩ : ∃ n, Hid (w.heap.size = n) := ⟨_, rfl⟩
  rw [HBe.out] at HK1 ⊢
  generalize w.alloc (.cells (sxC M (.slice ar s.r.length cr) vs s).toArray 52) = w1 at HQ HK1 HNE ⊢
  have c4 : w1.cell? ⟨B, 4, none⟩ = some (.int .i64 s.why) := (cell_of_row _ B 4 _ _ _ HK1.out).trans rfl
  have c5 : w1.cell? ⟨B, 5, none⟩ = some (.int .i64 s.wat) := (cell_of_row _ B 5 _ _ _ HK1.out).trans rfl
  obtain ⟨y, HY⟩ : ∃ y, Hid (s.why = y) := ⟨_, rfl⟩
  obtain ⟨t, HTt⟩ : ∃ y, Hid (s.wat = y) := ⟨_, rfl⟩
  rw [HY.out] at c4
  rw [HTt.out] at c5
  by_cases hy : y = 0
  · obtain ⟨h1, h2, h3⟩ := HGG.out.ok (HY.out.trans hy)
    have ht : t = 0 := HTt.out.symm.trans h1
    have h4 := needM_ok h2
    have HWP := hid (show wantP s = if (needP s.r).1 = 0 then 1 else (needP s.r).1 - s.r.length by unfold wantP lackP; rw [if_neg (by rw [HY.out, hy]; simp)])
    have HLT := hid (show (needP s.r).1 ≠ 0 → s.r.length < (needP s.r).1 ∧ (needP s.r).1 ≤ 3000000 from fun h => ⟨by rcases h3 with h3 | h3 <;> omega, by have := h4.2.2 h; omega⟩)
    rw [h2, h4.1] at HNE
    obtain ⟨n, Hn⟩ : ∃ n, Hid ((needP s.r).1 = n) := ⟨_, rfl⟩
    obtain ⟨L, HL⟩ : ∃ n, Hid (s.r.length = n) := ⟨_, rfl⟩
    rw [Hn.out] at HNE HWP HLT
    rw [HL.out] at HWP HLT
    subst hy ht
    clear h1 h2 h3 h4
    have n1 : ∀ W, (binOp .neq 30 (.agg #[.int .i64 0, .int .i64 0]) (.agg #[.int .i64 0, .int .i64 0])).run Tryz.prog W = .ok (.bool false) W := fun W => by rw [fault_neq]; simp
    obtain ⟨SC, HSC⟩ : ∃ l, Hid (sxC M (.slice ar s.r.length cr) vs s = l) := ⟨_, rfl⟩
    have c1 : ∀ W : World, W.heap[B]? = some (.cells SC.toArray 52 (0, 0)) → W.cell? ⟨B, 1, none⟩ = some (.slice ar L cr) := fun W h => by rw [← HSC.out] at h; rw [← HL.out]; exact (cell_of_row _ B 1 _ _ _ h).trans rfl
    have HC1 := hid c1
    clear c1
    rw [HSC.out] at HNE HSZ HK1 ⊢
    go_wp2_with (first
      | (refine bd_row (by rfl) 30 #[] (by rfl) _ (by simp) _ built_fz ?_)
      | (refine ld_row (by rfl) 52 (.tmp 1) (by rfl) B (by rfl) SC 52 HK1.out _ Tryz.underlying52 rfl HSZ.out ?_))
    refine HNE.out.mono ?_
    rintro e w2 ⟨rfl, hb2⟩
    have HQ2 := hid (below_then HQ.out hb2)
    have c1 := HC1.out w2 (bel_keep hb2 HK1.out)
    clear hb2 HNE n1 c4 c5
    by_cases hn : n = 0
    · subst hn
      have HE := hid (show wantP s = 1 by rw [HWP.out, if_pos rfl])
      go_wp2
      go_ret
      exact ⟨by rw [HE.out]; rfl, HQ2.out⟩
    · obtain ⟨l1, l2⟩ := HLT.out hn
      have q1 : ((n : Int) == 0) = false := by simp; omega
      have q2 : ¬ (n : Int) = 0 := by omega
      obtain ⟨D, HD⟩ : ∃ d, Hid (n - L = d) := ⟨_, rfl⟩
      have hs : IntKind.i64.wrap ((n : Int) - (L : Int)) = (D : Int) := by rw [IntKind.wrap_i64]; have := HD.out; omega
      have HE := hid (show wantP s = D by rw [HWP.out, if_neg hn, HD.out])
      clear hn l1 l2
      go_wp2
      go_ret
      exact ⟨by rw [HE.out]; rfl, HQ2.out⟩
  · have n1 : ∀ W, (binOp .neq 30 (.agg #[.int .i64 y, .int .i64 t]) (.agg #[.int .i64 0, .int .i64 0])).run Tryz.prog W = .ok (.bool true) W := fun W => by rw [fault_neq]; simp [hy]
    have HE := hid (show wantP s = 0 by unfold wantP; rw [if_pos (by rw [HY.out]; exact hy)])
    clear hy
    go_wp2_with (first | (refine bd_row (by rfl) 30 #[] (by rfl) _ (by simp) _ built_fz ?_))
    go_ret
    exact ⟨by rw [HE.out]; rfl, HQ.out⟩
end Go.Proofs.YtiibhccbbpgehabGreat

/- The document's Some. -/
namespace Go.Proofs.YtiibhccbbpgehabGreat
open Go.RowKit Go.BigFrame

theorem results_cttc {fn : Func} {p r q z : Tmp} {ty ty2 : TypeId} (h : fn.results = #[.cell p ty, .tmp r, .tmp q, .cell z ty2]) (tmps : Array Value) (P : Program) (w : World) :
    (results fn tmps).run P w = ((asAddr (tmps.getD p undef)).run P w).andThen fun a w₁ => ((loadVar ty a).run P w₁).andThen fun v w₂ => ((asAddr (tmps.getD z undef)).run P w₂).andThen fun a2 w₃ => ((loadVar ty2 a2).run P w₃).andThen fun v2 w₄ => .ok (.tuple #[v, tmps.getD r undef, tmps.getD q undef, v2]) w₄ := by
  simp only [results, h]
  simp [Sem.run_bind, Result.andThen]
/-- the answers are a row in a variable, two slots, and a row in a variable -/
theorem ret_cttc {P : Program} {fn : Func} {R : Ending → World → Prop} {a : Act} {w : World} (p r q z : Tmp) (ty ty2 : TypeId) (h : fn.results = #[.cell p ty, .tmp r, .tmp q, .cell z ty2]) (g : Nat) (hp : a.tmps.getD p undef = .pointer (some ⟨g, 0, none⟩)) (g2 : Nat) (hq : a.tmps.getD z undef = .pointer (some ⟨g2, 0, none⟩))
    (cs : List Value) (t : TypeId) (hb : w.heap[g]? = some (.cells cs.toArray t (0, 0))) (d : TypeDesc) (hu : P.underlying ty = some d) (hd : d.isRow = true) (hi : (P.info? ty).map (·.size) = some cs.length)
    (cs2 : List Value) (t2 : TypeId) (hb2 : w.heap[g2]? = some (.cells cs2.toArray t2 (0, 0))) (d2 : TypeDesc) (hu2 : P.underlying ty2 = some d2) (hd2 : d2.isRow = true) (hi2 : (P.info? ty2).map (·.size) = some cs2.length)
    (v : Value) (hv : a.tmps.getD r undef = v) (u : Value) (hu9 : a.tmps.getD q undef = u)
    (hdf : a.defers = []) (hR : R (.returned (.tuple #[.agg cs.toArray, v, u, .agg cs2.toArray])) w) : bodyPost P fn R .ret a w := by
  refine bodyPost_ret (v := .tuple #[.agg cs.toArray, v, u, .agg cs2.toArray]) ?_ hdf hR
  rw [results_cttc h, hp, hq, hv, hu9]
  have h1 := run_loadVar_mid (P := P) w g 0 ty cs d (fun j v hv => by rw [Nat.zero_add, cell_of_row w g j cs.toArray t (0, 0) hb]; simpa using hv) hu hd hi
  have h2 := run_loadVar_mid (P := P) w g2 0 ty2 cs2 d2 (fun j v hv => by rw [Nat.zero_add, cell_of_row w g2 j cs2.toArray t2 (0, 0) hb2]; simpa using hv) hu2 hd2 hi2
  simp [asAddr, h1, h2]
theorem hp_three (w : World) (o p q : Obj) : (((w.alloc o).alloc p).alloc q).heap[w.heap.size]? = some o ∧ (((w.alloc o).alloc p).alloc q).heap[w.heap.size + 1]? = some p ∧ (((w.alloc o).alloc p).alloc q).heap[w.heap.size + 2]? = some q := by
  have h := hp_two w o p
  have hn := hp_new ((w.alloc o).alloc p) q
  refine ⟨?_, ?_, by simpa using hn⟩
  · rw [Below.heap_alloc _ q w.heap.size (by simp; omega)]; exact h.1
  · rw [Below.heap_alloc _ q (w.heap.size + 1) (by simp)]; exact h.2
theorem range_4 {W : World} {B M : Nat} {vr vs : Value} {s : Sx} (h : W.heap[B]? = some (.cells (sxC M vr vs s).toArray 52 (0, 0))) : W.rangeAt B 4 [.int .i64 s.why, .int .i64 s.wat] := by
  intro j u hu
  match j, hu with
  | 0, hu => simp at hu; subst hu; exact (cell_of_row _ B 4 _ _ _ h).trans rfl
  | 1, hu => simp at hu; subst hu; exact (cell_of_row _ B 5 _ _ _ h).trans rfl

/-- what Some answers -/
def RSmP (w : World) (lo M : Nat) (a : Ra) (y t : Int) (e : Ending) (w' : World) : Prop :=
  ∃ vr vs vl fs, e = .returned (.tuple #[.agg (sxC M vr vs a.1).toArray, vl, .int .i64 (a.2.2 : Nat), .agg #[.int .i64 y, .int .i64 t]]) ∧ OwnB w' lo vr a.1.r ∧ OwnI w' lo vs a.1.szs ∧ OFs w' w.heap.size vl fs ∧ fs.map (·.1) = a.2.1 ∧ Below w.heap.size w w'
def stopQ (n : Int) : Nat → Bool := fun j => decide (0 ≤ n ∧ n ≤ (j : Int))

set_option maxRecDepth 100000 in
set_option maxHeartbeats 8000000 in
theorem rsome8_any (s : Sx) (vr vs vb : Value) (n : Int) (bs : List UInt8) (w : World) (b2 M : Nat) (hM : M ≤ 2097152) (hg : Gs M s) (ho : OwnB w b2 vr s.r) (hz : OwnI w b2 vs s.szs) (hs : Src w vb bs) (h0 : s.why = 0) (hc : s.came + bs.length ≤ 4611686018427387904) (hsz : s.szs.length + bs.length ≤ 90000000000) :
    Calls Tryz.prog 32 #[.agg (sxC M vr vs s).toArray, .int .i64 n, vb] w (RSmP w w.heap.size M (runP M (stopQ n) (s, [], 0) bs) (runP M (stopQ n) (s, [], 0) bs).1.why (runP M (stopQ n) (s, [], 0) bs).1.wat) := by
  have h1 : s.wat = 0 := (hg.ok h0).1
  have hfew := hg.few
  have HCO := hid (fun W (hb : Below w.heap.size w W) => rcopy8_any s vr vs W b2 M (ho.below hb) (own_below hz hb) (by omega) (by omega))
  have HON := hid (sxC_one (M := M) (vr := vr) (vs := vs) (s := s) (by obtain ⟨a, c, e⟩ := ho.shape; rw [e]; rfl) (by obtain ⟨a, c, e⟩ := hz.shape; rw [e]; rfl))
  have HS := hid hs
  have HG := hid hg
  obtain ⟨ax, cx, ex⟩ := src_shape hs
  subst ex
  have HW1 := hid (show Below w.heap.size w (((w.alloc (.cells (sxC M vr vs s).toArray 52)).alloc (.cells #[.int .i64 0, .slice none 0 0, .int .i64 0, .int .i64 0, .int .i64 0, .int .i64 0, .slice none 0 0] 52)).alloc (.cells #[.int .i64 0, .int .i64 0] 30)) from (below_walk2 w _ _).alloc (by simp; omega) _)
  have HNN := hid (show (((w.alloc (.cells (sxC M vr vs s).toArray 52)).alloc (.cells #[.int .i64 0, .slice none 0 0, .int .i64 0, .int .i64 0, .int .i64 0, .int .i64 0, .slice none 0 0] 52)).alloc (.cells #[.int .i64 0, .int .i64 0] 30)).heap[w.heap.size]? = some (.cells (sxC M vr vs s).toArray 52 (0, 0)) ∧ (((w.alloc (.cells (sxC M vr vs s).toArray 52)).alloc (.cells #[.int .i64 0, .slice none 0 0, .int .i64 0, .int .i64 0, .int .i64 0, .int .i64 0, .slice none 0 0] 52)).alloc (.cells #[.int .i64 0, .int .i64 0] 30)).heap[w.heap.size + 1]? = some (.cells (sxC 0 (.slice none 0 0) (.slice none 0 0) zS).toArray 52 (0, 0)) ∧ (((w.alloc (.cells (sxC M vr vs s).toArray 52)).alloc (.cells #[.int .i64 0, .slice none 0 0, .int .i64 0, .int .i64 0, .int .i64 0, .int .i64 0, .slice none 0 0] 52)).alloc (.cells #[.int .i64 0, .int .i64 0] 30)).heap[w.heap.size + 2]? = some (.cells #[.int .i64 0, .int .i64 0] 30 (0, 0)) from hp_three w _ _ _)
  have HZ1 : Hid ((w.alloc (.cells (sxC M vr vs s).toArray 52)).heap.size = w.heap.size + 1) := hid (by simp)
  have HZ2 : Hid (((w.alloc (.cells (sxC M vr vs s).toArray 52)).alloc (.cells #[.int .i64 0, .slice none 0 0, .int .i64 0, .int .i64 0, .int .i64 0, .int .i64 0, .slice none 0 0] 52)).heap.size = w.heap.size + 2) := hid (by simp)
  clear ho hz hs hg hfew
  go_enter Tryz.func32, Tryz.ntmps32
  go_upto_region 1 with (first
    | (refine bx_row (by rfl) 52 _ (by rfl) _ (by rfl) ?_)
    | (refine al_row (by rfl) 52 (by rfl) _ zeroStrm ?_)
    | (refine al_row (by rfl) 30 (by rfl) _ zeroFault ?_))
  try rw [HZ2.out]
  try rw [HZ1.out]
  obtain ⟨B, HBe⟩ : ∃ n, Hid (w.heap.size = n) := ⟨_, rfl⟩
  obtain ⟨R, HRe⟩ : ∃ n, Hid (B + 1 = n) := ⟨_, rfl⟩
  obtain ⟨F, HFe⟩ : ∃ n, Hid (B + 2 = n) := ⟨_, rfl⟩
  have HBR := hid (show R = B + 1 ∧ F = B + 2 from ⟨HRe.out.symm, HFe.out.symm⟩)
  have HRF := hid (show R ≠ F by have := HBR.out; omega)
  have HLW := hid (show w.heap.size ≤ B ∧ w.heap.size ≤ R ∧ w.heap.size ≤ F by have := HBe.out; have := HBR.out; omega)
  rw [HBe.out, HRe.out, HFe.out] at HNN ⊢
  generalize ((w.alloc (.cells (sxC M vr vs s).toArray 52)).alloc (.cells #[.int .i64 0, .slice none 0 0, .int .i64 0, .int .i64 0, .int .i64 0, .int .i64 0, .slice none 0 0] 52)).alloc (.cells #[.int .i64 0, .int .i64 0] 30) = w1 at HW1 HNN ⊢
  have HK1 := hid HNN.out.1
  have HR1 := hid HNN.out.2.1
  have HF1 := hid HNN.out.2.2
  clear HNN HZ1 HZ2
  have c4 : w1.cell? ⟨B, 4, none⟩ = some (.int .i64 0) := (cell_of_row _ B 4 _ _ _ HK1.out).trans (by rw [show (sxC M vr vs s).toArray[4]? = some (.int .i64 s.why) from rfl, h0])
  have c5 : w1.cell? ⟨B, 5, none⟩ = some (.int .i64 0) := (cell_of_row _ B 5 _ _ _ HK1.out).trans (by rw [show (sxC M vr vs s).toArray[5]? = some (.int .i64 s.wat) from rfl, h1])
  have n1 : ∀ W, (binOp .neq 30 (.agg #[.int .i64 0, .int .i64 0]) (.agg #[.int .i64 0, .int .i64 0])).run Tryz.prog W = .ok (.bool false) W := fun W => by rw [fault_neq]; simp
  have HSZ0 := hid (show (Tryz.prog.info? 52).map (·.size) = some (sxC M vr vs s).length from strmSize)
  have HC1 := hid (HCO.out w1 HW1.out)
  clear HCO
  obtain ⟨S0, HS0⟩ : ∃ l, Hid (sxC M vr vs s = l) := ⟨_, rfl⟩
  rw [HS0.out] at HSZ0 HK1 HC1
  go_wp2_with (first
    | (refine bd_row (by rfl) 30 #[] (by rfl) _ (by simp) _ built_fz ?_)
    | (refine ld_row (by rfl) 52 (.tmp 3) (by rfl) B (by rfl) S0 52 HK1.out _ Tryz.underlying52 rfl HSZ0.out ?_))
  refine HC1.out.mono ?_
  rintro e w2 ⟨vr2, vs2, rfl, ho2, hz2, hb2⟩
  have HK2 := hid (bel_keep hb2 HK1.out)
  have HR2 := hid (bel_keep hb2 HR1.out)
  have HF2 := hid (bel_keep hb2 HF1.out)
  have HQ2 := hid (below_then HW1.out hb2)
  have HO2 := hid (show OwnB w2 w.heap.size vr2 s.r from own_le ho2 HW1.out.size)
  have HI2 := hid (show OwnI w2 w.heap.size vs2 s.szs from own_le hz2 HW1.out.size)
  have HSZ2 := hid (show (Tryz.prog.info? 52).map (·.size) = some (sxC M vr2 vs2 s).length from strmSize)
  have HON2 := hid (sxC_one (M := M) (vr := vr2) (vs := vs2) (s := s) (by obtain ⟨a, c, e⟩ := ho2.shape; rw [e]; rfl) (by obtain ⟨a, c, e⟩ := hz2.shape; rw [e]; rfl))
  have HOL2 := hid (show S0.toArray.size = (sxC M vr2 vs2 s).length by rw [← HS0.out]; rfl)
  clear ho2 hz2 hb2 HC1 HK1 HR1 HF1 c4 c5 n1 HSZ0 HON
  obtain ⟨S2, HS2⟩ : ∃ l, Hid (sxC M vr2 vs2 s = l) := ⟨_, rfl⟩
  rw [HS2.out] at HSZ2 HON2 HOL2 ⊢
  go_upto_region 4 with (first
    | (refine st_row (by rfl) 52 _ _ (by rfl) B S2 (by rfl) (by rfl) 52 _ HK2.out HSZ2.out HOL2.out HON2.out ?_; intro w3 hw3))
  have HSB3 := hid (show Sb w3 w.heap.size B M vr2 vs2 s from ⟨HLW.out.1, by rw [HS2.out]; exact hw3.blk, own_far2 HO2.out hw3.grown (fun _ e h => own_block HO2.out HK2.out (by decide) (h ▸ e)), own_far2 HI2.out hw3.grown (fun _ e h => own_block HI2.out HK2.out (by decide) (h ▸ e))⟩)
  have HR3 := hid (gb_blk HR2.out hw3.grown (by have := HBR.out; simp; omega))
  have HF3 := hid (gb_blk HF2.out hw3.grown (by have := HBR.out; simp; omega))
  have HQ3 := hid (Below.of_gb HQ2.out hw3.grown HLW.out.1)
  clear hw3 HK2 HR2 HF2 HQ2 HO2 HI2 HSZ2 HON2 HOL2 HS2 HS0 HW1
  obtain ⟨Z, HZZ⟩ : ∃ a, Hid (runP M (stopQ n) (s, [], 0) bs = a) := ⟨_, rfl⟩
  rw [HZZ.out]
  go_wp2
  go_loopw [10, 11] (fun vl vi wr => ∃ (K : Nat) (vr vs : Value) (fs : List FV) (a : Ra), K ≤ bs.length ∧ vi = .int .i64 K ∧ Hid (runP M (stopQ n) (s, [], 0) (bs.take K) = a) ∧ Hid (a.2.2 = K) ∧ Hid (a.1.why = 0) ∧ Hid (a.1.szs.length ≤ s.szs.length + K) ∧ Hid (fs.map (·.1) = a.2.1) ∧ Hid (OFs wr w.heap.size vl fs) ∧ Hid (Sb wr w.heap.size B M vr vs a.1) ∧ Hid (wr.heap[R]? = some (.cells (sxC 0 (.slice none 0 0) (.slice none 0 0) zS).toArray 52 (0, 0))) ∧ Hid (wr.heap[F]? = some (.cells #[.int .i64 0, .int .i64 0] 30 (0, 0))) ∧ Hid (Below w.heap.size w wr)) (fun _ vi _ => bs.length - (intOf vi).toNat)
  case atStart => exact ⟨0, vr2, vs2, [], (s, [], 0), by omega, rfl, by rw [List.take_zero]; exact runP_nil _ _ _, rfl, hid h0, hid (by show s.szs.length ≤ s.szs.length + 0; omega), rfl, OFs.nil _ _, HSB3.out, HR3.out, HF3.out, HQ3.out⟩
  case round =>
    obtain ⟨K, vr3, vs3, fs, a, hk, rfl, HR, HTK, HWY, HSL, HFS, HOF, HSB, HRr, HFr, HQ⟩ := hrel
    obtain ⟨alv, clv, rfl⟩ := HOF.out.shape
    have HFL := hid (show fs.length = a.2.1.length by rw [← HFS.out, List.length_map])
    have HGa := hid (show Gs M a.1 by have := run_good (M := M) (q := stopQ n) (bs.take K) (a := (s, [], 0)) HG.out; rw [HR.out] at this; exact this)
    have HWT := hid (HGa.out.ok HWY.out).1
    have HSZr := hid (show (Tryz.prog.info? 52).map (·.size) = some (sxC M vr3 vs3 a.1).length from strmSize)
    have HONr := hid HSB.out.one
    have HBKr := hid HSB.out.blk
    obtain ⟨SC, HSC⟩ : ∃ l, Hid (sxC M vr3 vs3 a.1 = l) := ⟨_, rfl⟩
    have HOL := hid (show (sxC 0 (.slice none 0 0) (.slice none 0 0) zS).toArray.size = SC.length by rw [← HSC.out]; rfl)
    rw [HSC.out] at HSZr HONr HBKr
    have FIN : Hid (∀ w8 w9, RowSet wr w8 R SC 52 → RowSet w8 w9 F [Value.int .i64 0, .int .i64 0] 30 → runP M (stopQ n) a (bs.drop K) = a → RSmP w w.heap.size M Z Z.1.why Z.1.wat (.returned (.tuple #[.agg SC.toArray, .slice alv fs.length clv, .int .i64 (K : Int), .agg #[.int .i64 0, .int .i64 0]])) w9) := hid (by
      intro w8 w9 h8 h9 he
      have e : Z = a := by
        rw [← HZZ.out]
        conv => lhs; rw [← List.take_append_drop K bs]
        rw [runP_app, HR.out, he]
      rw [e]
      have HF8 := gb_blk HFr.out h8.grown (by have := HRF.out; simpa using this)
      have s8 := HSB.out.far h8.grown (by have := HBR.out; omega) (own_block HSB.out.own HRr.out (by decide)) (own_block HSB.out.szs HRr.out (by decide))
      have s9 := s8.far h9.grown (by have := HBR.out; omega) (own_block s8.own HF8 (by decide)) (own_block s8.szs HF8 (by decide))
      exact ⟨vr3, vs3, _, fs, by rw [HSC.out, HTK.out, HWY.out, HWT.out], s9.own, s9.szs, (HOF.out.gone h8.grown HRr.out (by decide) (by decide)).gone h9.grown HF8 (by decide) (by decide), HFS.out, Below.of_gb (Below.of_gb HQ.out h8.grown HLW.out.2.1) h9.grown HLW.out.2.2⟩)
    by_cases hlt : K < bs.length
    · have q1 : (K : Int) < (bs.length : Int) := by omega
      by_cases hq : 0 ≤ n ∧ n ≤ (fs.length : Int)
      · as_aux_lemma =>
          obtain ⟨q2, q3⟩ := hq
          have HE := hid (runP_stop M (stopQ n) a (Or.inl (by rw [← HFL.out]; exact decide_eq_true ⟨q2, q3⟩)) (bs.drop K))
          go_wp2_with (first
            | (refine ld_row (by rfl) 52 (.tmp 3) (by rfl) B (by rfl) SC 52 HBKr.out _ Tryz.underlying52 rfl HSZr.out ?_)
            | (refine bd_row (by rfl) 30 #[] (by rfl) _ (by simp) _ built_fz ?_)
            | (refine st_row (by rfl) 52 _ _ (by rfl) R SC (by rfl) (by rfl) 52 _ HRr.out HSZr.out HOL.out HONr.out ?_; intro w8 hw8; have HF8 := hid (gb_blk HFr.out hw8.grown (by have := HRF.out; simpa using this)))
            | (refine st_row (by rfl) 30 _ _ (by rfl) F [Value.int .i64 0, .int .i64 0] (by rfl) (by rfl) 30 _ HF8.out faultSize rfl (fault_one _ _) ?_; intro w9 hw9))

          have HRz := hid (gb_blk hw8.blk hw9.grown (by have := HRF.out; simp; omega))
          refine ret_cttc 6 7 8 9 52 30 rfl R rfl F rfl SC 52 HRz.out _ Tryz.underlying52 rfl HSZr.out [Value.int .i64 0, .int .i64 0] 30 hw9.blk _ Tryz.underlying30 rfl faultSize (.slice alv fs.length clv) rfl (.int .i64 (K : Int)) rfl rfl ?_
          rw [HZZ.out]
          exact FIN.out w8 w9 hw8 hw9 HE.out
      · have HQF := hid (show stopQ n a.2.1.length = false by rw [← HFL.out]; exact decide_eq_false hq)
        clear FIN
        go_upto_region 8 with fail
        go_cut [37] from 24 to 64 (fun s37 wx => s37 = .bool false ∧ wx = wr)
        case first =>
          by_cases hn : 0 ≤ n
          · have q3 : ¬ n ≤ (fs.length : Int) := fun h => hq ⟨hn, h⟩
            go_wp2
            go_meet
            exact ⟨rfl, rfl⟩
          · go_wp2
            go_meet
            exact ⟨rfl, rfl⟩
        case rest =>
          obtain ⟨rfl, hwx⟩ := hcut
          have hwx9 := hwx.symm
          subst hwx9
          clear hq
          obtain ⟨adx, exx, hcc⟩ := src_at (HS.out.below HQ.out) K hlt
          subst exx
          have HCL := hid (World.block_lt_of_cell? wr (adx.add K) hcc)
          obtain ⟨c, HCc⟩ : ∃ c, Hid (bs.getD K 0 = c) := ⟨_, rfl⟩
          rw [HCc.out] at hcc
          have HTA := hid (fun W (hW : Below wr.heap.size wr W) => rtake8_any a.1 vr3 vs3 c W w.heap.size M (HSB.out.own.below hW) (own_below HSB.out.szs hW) (Nat.le_trans HQ.out.size hW.size) (by have := HGa.out.few; omega) (by
            have h1 := run_came (M := M) (q := stopQ n) (bs.take K) (s, [], 0)
            rw [HR.out, HTK.out] at h1
            have h2 : (s, ([] : List Fr), 0).1.came = s.came := rfl
            have h3 : (s, ([] : List Fr), 0).2.2 = 0 := rfl
            omega) (by
            have h1 := run_came (M := M) (q := stopQ n) (bs.take K) (s, [], 0)
            rw [HR.out, HTK.out] at h1
            have h2 : (s, ([] : List Fr), 0).1.came = s.came := rfl
            have h3 : (s, ([] : List Fr), 0).2.2 = 0 := rfl
            have := HGa.out.wl
            omega) (by have := HSL.out; omega) HWY.out HWT.out HGa.out.le)
          rw [HSC.out] at HTA
          have HST := hid (show runP M (stopQ n) (s, [], 0) (bs.take (K + 1)) = ((takeC M a.1 [c]).1, a.2.1 ++ (takeC M a.1 [c]).2, K + 1) by
            rw [runP_snoc _ _ _ _ K hlt, HR.out, HCc.out]
            unfold stepQ
            rw [if_neg (by rw [HQF.out, HWY.out]; simp), HTK.out])
          have HSL2 := hid (show (takeC M a.1 [c]).1.szs.length ≤ s.szs.length + (K + 1) by
            have h1 := HSL.out
            unfold takeC
            repeat' split
            all_goals first | (show a.1.szs.length ≤ _; omega) | (show (a.1.szs ++ [_]).length ≤ _; rw [List.length_append]; simp; omega))
          obtain ⟨TT, HTT⟩ : ∃ t, Hid (takeC M a.1 [c] = t) := ⟨_, rfl⟩
          rw [HTT.out] at HTA HST HSL2
          have HFT := hid (show ∀ fs3 : List FV, fs3.map (·.1) = TT.2 → fs.length + fs3.length ≤ 1000000000000 by
            intro fs3 h3
            have h1 := run_few (M := M) (q := stopQ n) (bs.take (K + 1)) (s, [], 0)
            rw [HST.out] at h1
            have h2 : (a.2.1 ++ TT.2).length ≤ 0 + (bs.take (K + 1)).length := h1
            rw [List.length_append, ← HFL.out, ← h3, List.length_map, List.length_take] at h2
            omega)
          clear HQF
          go_upto_region 10 with fail
          refine wp_noPanic (wp_region_held_drew (S := fun W => W.heap[B]? = some (.cells SC.toArray 52 (0, 0)) ∧ W.cell? (adx.add K) = some (.int .u8 (c.toNat : Int))) (by kernel_rfl) ⟨HBKr.out, hcc⟩ ?_)
          intro hHeld
          refine wpAnyH_take (i := 0) (v := .agg SC.toArray) rfl (by kernel_rfl) (by kernel_rfl) (by kernel_rfl) (fun _ _ _ h => h) (yieldsIf_load_mid (by rfl) 52 (.tmp 3) rfl B 0 rfl SC _ (fun W hW => range_row hW.1) Tryz.underlying52 rfl HSZr.out) hHeld ?_
          simp only [Act.put, List.getElem_toArray, List.getElem_cons_zero, List.setIfInBounds_toArray, List.set_cons_succ, List.set_cons_zero]
          refine wpAnyH_take (i := 1) (v := .slice (some adx) bs.length cx) rfl (by kernel_rfl) (by kernel_rfl) (by kernel_rfl) (fun _ _ _ h => h) (Or.inl ⟨by rfl, fun W _ => by go_simp⟩) hHeld ?_
          simp only [Act.put, List.getElem_toArray, List.getElem_cons_zero, List.getElem_cons_succ, List.setIfInBounds_toArray, List.set_cons_succ, List.set_cons_zero]
          refine wpAnyH_take (i := 2) (v := .int .i64 (K : Int)) rfl (by kernel_rfl) (by kernel_rfl) (by kernel_rfl) (fun _ _ _ h => h) (Or.inl ⟨by rfl, fun W _ => by go_simp⟩) hHeld ?_
          simp only [Act.put, List.getElem_toArray, List.getElem_cons_zero, List.getElem_cons_succ, List.setIfInBounds_toArray, List.set_cons_succ, List.set_cons_zero]
          refine wpAnyH_take (i := 3) (v := .pointer (some (adx.add K))) rfl (by kernel_rfl) (by kernel_rfl) (by kernel_rfl) (fun _ _ _ h => h) (Or.inl ⟨by rfl, fun W _ => by have hfact := hlt; go_simp; first | done | simp [hfact]⟩) hHeld ?_
          simp only [Act.put, List.getElem_toArray, List.getElem_cons_zero, List.getElem_cons_succ, List.setIfInBounds_toArray, List.set_cons_succ, List.set_cons_zero]
          refine wpAnyH_take (i := 4) (v := .int .u8 (c.toNat : Int)) rfl (by kernel_rfl) (by kernel_rfl) (by kernel_rfl) (fun _ _ _ h => h) (Or.inl ⟨by rfl, fun W hW => by have hcell := hW.2; clear hW; go_simp⟩) hHeld ?_
          simp only [Act.put, List.getElem_toArray, List.getElem_cons_zero, List.getElem_cons_succ, List.setIfInBounds_toArray, List.set_cons_succ, List.set_cons_zero]
          have HD1 := hid (bel_drw wr 1)
          have HSBwq := hid (HSB.out.below HD1.out)
          have HRwq := hid (bel_keep HD1.out HRr.out)
          have HFwq := hid (bel_keep HD1.out HFr.out)
          have HOFwq := hid (HOF.out.below HD1.out)
          have HQwq := hid (below_then HQ.out HD1.out)
          have HXwq := hid ((show Below wr.heap.size wr (wr.drewN 1) from HD1.out))
          obtain ⟨wq, HWX⟩ : ∃ x, Hid (wr.drewN 1 = x) := ⟨_, rfl⟩
          have HWYq := hid (show wr.drew = wq from HWX.out)
          rw [HWX.out] at HSBwq HRwq HFwq HOFwq HQwq HXwq
          rw [HWYq.out]
          clear hHeld HD1
          have HCB := hid (show (adx.add K).block < w.heap.size by rw [addr_block]; obtain ⟨_, ⟨e, _⟩ | ⟨ad, cap, e, _, _, hb9, _⟩⟩ := HS.out; cases e; injection e with e; injection e with e; subst e; exact hb9 (by omega))
          have HKwq := hid HSBwq.out.blk
          have HC5wq := hid (show wq.cell? (adx.add K) = some (.int .u8 (c.toNat : Int)) from (HXwq.out.cell HCL.out).trans hcc)
          refine wpAnyH_ready (rs := [5, 9]) (by kernel_rfl) (by simp) ?_
          refine AllReadyH.cons rfl (fun K9 hK => ?_) (AllReadyH.cons rfl (fun K9 hK => ?_) AllReadyH.nil)
          · as_aux_lemma =>
              go_simp
              refine (HTA.out wq HXwq.out).mono ?_
              rintro e wa ⟨vr5, vs5, vl5, fs5, rfl, ho5, hz5, hof5, hm5, htk5⟩
              have HKwa := hid (htk5.bk _ _ _ HSBwq.out.blk (by decide) (by decide))
              have HRwa := hid (htk5.bk _ _ _ HRwq.out (by decide) (by decide))
              have HFwa := hid (htk5.bk _ _ _ HFwq.out (by decide) (by decide))
              have HOFwa := hid (htk5.fr _ _ _ HOFwq.out)
              have HQwa := hid (HQwq.out.trans htk5.bl)
              have HO5wa := hid (hof5.le (HQwq.out.size))
              have HB5wa := hid ho5
              have HI5wa := hid hz5
              have HM5 := hid hm5
              have HC5wa := hid (show wa.cell? (adx.add K) = some (.int .u8 (c.toNat : Int)) from (World.cell?_of_block (htk5.bl.block _ (HCB.out))).trans HC5wq.out)
              obtain ⟨a5, c5, e5⟩ := hof5.shape
              subst e5
              clear ho5 hz5 hof5 hm5 htk5
              go_wp2_with fail
              refine hK.out _ _ ⟨by rw [← HSC.out]; exact HKwa.out, HC5wa.out⟩ (fun hHeld => ?_)
              clear hK K9
              try simp only [Act.put, List.getElem_toArray, List.getElem_cons_zero, List.getElem_cons_succ, List.setIfInBounds_toArray, List.set_cons_succ, List.set_cons_zero]
              refine wpAnyH_take (i := 6) (v := .tuple #[.agg (sxC M vr5 vs5 TT.1).toArray, .slice a5 fs5.length c5]) rfl (by kernel_rfl) (by kernel_rfl) (by kernel_rfl) (fun _ _ _ h => h) (Or.inl ⟨by rfl, fun W _ => by go_simp⟩) hHeld ?_
              simp only [Act.put, List.getElem_toArray, List.getElem_cons_zero, List.getElem_cons_succ, List.setIfInBounds_toArray, List.set_cons_succ, List.set_cons_zero]
              refine wpAnyH_take (i := 7) (v := .agg (sxC M vr5 vs5 TT.1).toArray) rfl (by kernel_rfl) (by kernel_rfl) (by kernel_rfl) (fun _ _ _ h => h) (Or.inl ⟨by rfl, fun W _ => by go_simp⟩) hHeld ?_
              simp only [Act.put, List.getElem_toArray, List.getElem_cons_zero, List.getElem_cons_succ, List.setIfInBounds_toArray, List.set_cons_succ, List.set_cons_zero]
              refine wpAnyH_take (i := 8) (v := .slice a5 fs5.length c5) rfl (by kernel_rfl) (by kernel_rfl) (by kernel_rfl) (fun _ _ _ h => h) (Or.inl ⟨by rfl, fun W _ => by go_simp⟩) hHeld ?_
              simp only [Act.put, List.getElem_toArray, List.getElem_cons_zero, List.getElem_cons_succ, List.setIfInBounds_toArray, List.set_cons_succ, List.set_cons_zero]
              refine wpAnyH_ready (rs := [9]) (by kernel_rfl) (by simp) ?_
              refine AllReadyH.cons rfl (fun K9 hK => ?_) AllReadyH.nil
              have HWF := hid (below_walk wa (.cells #[.int .i64 0, .slice none 0 0, .int .i64 0, .int .i64 0, .int .i64 0, .int .i64 0, .slice none 0 0] 52))
              have HEwb := hid (show (wa.alloc (.cells #[.int .i64 0, .slice none 0 0, .int .i64 0, .int .i64 0, .int .i64 0, .int .i64 0, .slice none 0 0] 52)).heap[wa.heap.size]? = some (.cells (sxC 0 (.slice none 0 0) (.slice none 0 0) zS).toArray 52 (0, 0)) from hp_new wa _)
              have HEl := hid (show w.heap.size ≤ wa.heap.size ∧ B < wa.heap.size ∧ R < wa.heap.size ∧ F < wa.heap.size from ⟨HQwa.out.size, hp_lt HKwa.out, hp_lt HRwa.out, hp_lt HFwa.out⟩)
              have HKwb := hid (bel_keep HWF.out HKwa.out)
              have HRwb := hid (bel_keep HWF.out HRwa.out)
              have HFwb := hid (bel_keep HWF.out HFwa.out)
              have HOFwb := hid (HOFwa.out.below HWF.out)
              have HQwb := hid (below_then HQwa.out HWF.out)
              have HC5wb := hid (show (wa.alloc (.cells #[.int .i64 0, .slice none 0 0, .int .i64 0, .int .i64 0, .int .i64 0, .int .i64 0, .slice none 0 0] 52)).cell? (adx.add K) = some (.int .u8 (c.toNat : Int)) from (HWF.out.cell (World.block_lt_of_cell? wa (adx.add K) HC5wa.out)).trans HC5wa.out)
              have HO5wb := hid (HO5wa.out.below HWF.out)
              have HB5wb := hid (HB5wa.out.below HWF.out)
              have HI5wb := hid (show OwnI (wa.alloc (.cells #[.int .i64 0, .slice none 0 0, .int .i64 0, .int .i64 0, .int .i64 0, .int .i64 0, .slice none 0 0] 52)) w.heap.size vs5 TT.1.szs from own_below HI5wa.out HWF.out)
              refine step_alloc_row8 (by rfl) 52 (by rfl) _ zeroStrm ?_
              refine hK.out _ _ ⟨by rw [← HSC.out]; exact HKwb.out, HC5wb.out⟩ (fun hHeld => ?_)
              clear hK K9
              try simp only [Act.put, List.getElem_toArray, List.getElem_cons_zero, List.getElem_cons_succ, List.setIfInBounds_toArray, List.set_cons_succ, List.set_cons_zero]
              obtain ⟨E, HEe⟩ : ∃ n, Hid (wa.heap.size = n) := ⟨_, rfl⟩
              rw [HEe.out] at HEwb HEl
              try rw [HEe.out]
              generalize wa.alloc (.cells #[.int .i64 0, .slice none 0 0, .int .i64 0, .int .i64 0, .int .i64 0, .int .i64 0, .slice none 0 0] 52) = wb at HKwb HRwb HFwb HOFwb HQwb HC5wb HEwb HO5wb HB5wb HI5wb hHeld ⊢
              have HSZ5 := hid (show (Tryz.prog.info? 52).map (·.size) = some (sxC M vr5 vs5 TT.1).length from strmSize)
              have HON5 := hid (sxC_one (M := M) (vr := vr5) (vs := vs5) (s := TT.1) (by obtain ⟨a, c, e⟩ := HB5wb.out.shape; rw [e]; rfl) (by obtain ⟨a, c, e⟩ := HI5wb.out.shape; rw [e]; rfl))
              have HOL5 := hid (show (sxC 0 (.slice none 0 0) (.slice none 0 0) zS).toArray.size = (sxC M vr5 vs5 TT.1).length from rfl)
              have HOB5 := hid (show SC.toArray.size = (sxC M vr5 vs5 TT.1).length by rw [← HSC.out]; rfl)
              obtain ⟨S5, HS5⟩ : ∃ l, Hid (sxC M vr5 vs5 TT.1 = l) := ⟨_, rfl⟩
              rw [HS5.out] at HSZ5 HON5 HOL5 HOB5
              try rw [HS5.out]
              refine wpAnyH_ready (rs := [10]) (by kernel_rfl) (by simp) ?_
              refine AllReadyH.cons rfl (fun K9 hK => ?_) AllReadyH.nil
              refine step_store_row (by rfl) 52 _ _ (by rfl) E S5 (by rfl) (by rfl) 52 _ HEwb.out HSZ5.out HOL5.out HON5.out ?_
              intro wz hwz
              have HKz := hid (gb_blk HKwb.out hwz.grown (by have := HEl.out; simp; omega))
              have HRz := hid (gb_blk HRwb.out hwz.grown (by have := HEl.out; simp; omega))
              have HFz := hid (gb_blk HFwb.out hwz.grown (by have := HEl.out; simp; omega))
              have HOFz := hid (HOFwb.out.gone hwz.grown HEwb.out (by decide) (by decide))
              have HO5z := hid (HO5wb.out.gone hwz.grown HEwb.out (by decide) (by decide))
              have HB5z := hid (show OwnB wz w.heap.size vr5 TT.1.r from own_far2 HB5wb.out hwz.grown (fun _ e h => own_block HB5wb.out HEwb.out (by decide) (h ▸ e)))
              have HI5z := hid (show OwnI wz w.heap.size vs5 TT.1.szs from own_far2 HI5wb.out hwz.grown (fun _ e h => own_block HI5wb.out HEwb.out (by decide) (h ▸ e)))
              have HQz := hid (Below.of_gb HQwb.out hwz.grown HEl.out.1)
              have HEz := hid hwz.blk
              have HCz := hid (show wz.cell? (adx.add K) = some (.int .u8 (c.toNat : Int)) from (World.cell?_of_block (hwz.grown.block _ (World.block_lt_of_cell? wb (adx.add K) HC5wb.out) (fun e => by have := HCB.out; have := HEl.out.1; simp at e; omega))).trans HC5wb.out)
              refine hK.out _ _ ⟨by rw [← HSC.out]; exact HKz.out, HCz.out⟩ (fun hHeld => ?_)
              clear hK K9
              try simp only [Act.put, List.getElem_toArray, List.getElem_cons_zero, List.getElem_cons_succ]
              refine wpAnyH_take (i := 11) (v := .slice a5 fs5.length c5) rfl (by kernel_rfl) (by kernel_rfl) (by kernel_rfl) (fun _ _ _ h => h) (Or.inl ⟨by rfl, fun W _ => by go_simp⟩) hHeld ?_
              simp only [Act.put, List.getElem_toArray, List.getElem_cons_zero, List.getElem_cons_succ, List.setIfInBounds_toArray, List.set_cons_succ, List.set_cons_zero]
              refine wpAnyH_done (by kernel_rfl) ?_ _
              simp only [noPanic]
              have HEB := hid (show E ≠ B ∧ E ≠ R ∧ E ≠ F by have := HEl.out; omega)
              have HTF := hid (HFT.out fs5 HM5.out)
              clear hHeld hwz
              go_upto_region 13 with (first
                | (refine ld_row (by rfl) 52 (.tmp 12) (by rfl) E (by rfl) S5 52 HEz.out _ Tryz.underlying52 rfl HSZ5.out ?_)
                | (refine st_row (by rfl) 52 _ _ (by rfl) B S5 (by rfl) (by rfl) 52 _ (by rw [← HSC.out]; exact HKz.out) HSZ5.out HOB5.out HON5.out ?_; intro w6 hw6; have HOF6 := hid (HOFz.out.gone hw6.grown HKz.out (by decide) (by decide)); have HO56 := hid (HO5z.out.gone hw6.grown HKz.out (by decide) (by decide)); have HZ6 := hid (Nat.le_trans HQz.out.size hw6.grown.size))
                | (at_builtin; refine app_frs (by rfl) _ _ rfl w.heap.size _ fs rfl HOF6.out fs5 _ rfl HO56.out.frs HO56.out.nilc (fun f hf => HO56.out.each f hf) HTF.out HZ6.out ?_; intro v7 w7 ho7 hg7 hp7; obtain ⟨a7, c7, e7⟩ := ho7.shape; rw [List.length_append] at e7; subst e7))
              have HSB6 := hid (show Sb w6 w.heap.size B M vr5 vs5 TT.1 from ⟨HLW.out.1, by rw [HS5.out]; exact hw6.blk, own_far2 HB5z.out hw6.grown (fun _ e h => own_block HB5z.out HKz.out (by decide) (h ▸ e)), own_far2 HI5z.out hw6.grown (fun _ e h => own_block HI5z.out HKz.out (by decide) (h ▸ e))⟩)
              have HR6 := hid (gb_blk HRz.out hw6.grown (by have := HBR.out; simp; omega))
              have HF6 := hid (gb_blk HFz.out hw6.grown (by have := HBR.out; simp; omega))
              have HQ6 := hid (Below.of_gb HQz.out hw6.grown HLW.out.1)
              have HSB7 := hid (show Sb w7 w.heap.size B M vr5 vs5 TT.1 from ⟨HLW.out.1, gb_blk HSB6.out.blk hg7 (own_block HOF6.out.own HSB6.out.blk (by decide)), own_grow HSB6.out.own hg7 HOF6.out.own (by decide), own_grow HSB6.out.szs hg7 HOF6.out.own (by decide)⟩)
              have HR7 := hid (gb_blk HR6.out hg7 (own_block HOF6.out.own HR6.out (by decide)))
              have HF7 := hid (gb_blk HF6.out hg7 (own_block HOF6.out.own HF6.out (by decide)))
              have HQ7 := hid (Below.of_gbo HQ6.out hg7 (fun k e => (World.ownsRow.lt HOF6.out.own k e).1))
              have HO7 := hid ho7
              clear ho7 hg7 hp7 hw6 HSB6 HR6 HF6 HQ6 HOF6 HO56 HZ6 HKz HRz HFz HOFz HO5z HB5z HI5z HQz HEz HCz
              have HG5 := hid (show Gs M TT.1 by have := run_good (M := M) (q := stopQ n) (bs.take (K + 1)) (a := (s, [], 0)) HG.out; rw [HST.out] at this; exact this)
              obtain ⟨y5, HY5⟩ : ∃ y, Hid (TT.1.why = y) := ⟨_, rfl⟩
              obtain ⟨t5, HT5⟩ : ∃ y, Hid (TT.1.wat = y) := ⟨_, rfl⟩
              have k4 : w7.cell? ⟨B, 4, none⟩ = some (.int .i64 y5) := by rw [← HY5.out]; exact HSB7.out.c4
              have k5 : w7.cell? ⟨B, 5, none⟩ = some (.int .i64 t5) := by rw [← HT5.out]; exact HSB7.out.c5
              have hwk : IntKind.i64.wrap ((K : Int) + 1) = ((K + 1 : Nat) : Int) := by rw [IntKind.wrap_i64]; omega
              by_cases hy5 : y5 = 0
              · as_aux_lemma =>
                  have ht5 : t5 = 0 := by rw [← HT5.out]; exact (HG5.out.ok (HY5.out.trans hy5)).1
                  have HY0 := hid (HY5.out.trans hy5)
                  subst hy5 ht5
                  have n1 : ∀ W, (binOp .neq 30 (.agg #[.int .i64 0, .int .i64 0]) (.agg #[.int .i64 0, .int .i64 0])).run Tryz.prog W = .ok (.bool false) W := fun W => by rw [fault_neq]; simp
                  go_wp2_with (first | (refine bd_row (by rfl) 30 #[] (by rfl) _ (by simp) _ built_fz ?_))
                  refine ⟨⟨K + 1, vr5, vs5, fs ++ fs5, _, hlt, by simp, HST.out, rfl, HY0.out, HSL2.out, ?_, HO7.out, HSB7.out, HR7.out, HF7.out, HQ7.out⟩, by simp [intOf]; omega⟩
                  rw [List.map_append, HFS.out, HM5.out]
                  exact hid rfl
              · as_aux_lemma =>
                  have n1 : ∀ W, (binOp .neq 30 (.agg #[.int .i64 y5, .int .i64 t5]) (.agg #[.int .i64 0, .int .i64 0])).run Tryz.prog W = .ok (.bool true) W := fun W => by rw [fault_neq]; simp [hy5]
                  have HZE := hid (show Z = (TT.1, a.2.1 ++ TT.2, K + 1) by
                    rw [← HZZ.out]
                    conv => lhs; rw [← List.take_append_drop (K + 1) bs]
                    rw [runP_app, HST.out]
                    exact runP_stop _ _ _ (Or.inr (by show TT.1.why ≠ 0; rw [HY5.out]; exact hy5)) _)
                  have HBK7 := hid HSB7.out.blk
                  have HRG4 := hid (fun (W : World) (h : W.heap[B]? = some (.cells S5.toArray 52 (0, 0))) => (show W.rangeAt B 4 [.int .i64 y5, .int .i64 t5] by rw [← HS5.out] at h; have := range_4 h; rw [HY5.out, HT5.out] at this; exact this))
                  rw [HS5.out] at HBK7
                  have HRZ := hid (show (sxC 0 (.slice none 0 0) (.slice none 0 0) zS).toArray.size = S5.length by rw [← HS5.out]; rfl)
                  clear hy5
                  go_upto_region 14 with (first | (refine bd_row (by rfl) 30 #[] (by rfl) _ (by simp) _ built_fz ?_))
                  refine wp_noPanic (wp_region_held_drew (S := fun W => W.heap[B]? = some (.cells S5.toArray 52 (0, 0))) (by kernel_rfl) HBK7.out ?_)
                  intro hHeld
                  refine wpAnyH_take (i := 0) (v := .agg S5.toArray) rfl (by kernel_rfl) (by kernel_rfl) (by kernel_rfl) (fun _ _ _ h => h) (yieldsIf_load_mid (by rfl) 52 (.tmp 3) rfl B 0 rfl S5 _ (fun W hW => range_row hW) Tryz.underlying52 rfl HSZ5.out) hHeld ?_
                  simp only [Act.put, List.getElem_toArray, List.getElem_cons_zero, List.setIfInBounds_toArray, List.set_cons_succ, List.set_cons_zero]
                  refine wpAnyH_take (i := 1) (v := .slice a7 (fs.length + fs5.length) c7) rfl (by kernel_rfl) (by kernel_rfl) (by kernel_rfl) (fun _ _ _ h => h) (Or.inl ⟨by rfl, fun W _ => by go_simp⟩) hHeld ?_
                  simp only [Act.put, List.getElem_toArray, List.getElem_cons_zero, List.getElem_cons_succ, List.setIfInBounds_toArray, List.set_cons_succ, List.set_cons_zero]
                  refine wpAnyH_take (i := 2) (v := .int .i64 (K : Int)) rfl (by kernel_rfl) (by kernel_rfl) (by kernel_rfl) (fun _ _ _ h => h) (Or.inl ⟨by rfl, fun W _ => by go_simp⟩) hHeld ?_
                  simp only [Act.put, List.getElem_toArray, List.getElem_cons_zero, List.getElem_cons_succ, List.setIfInBounds_toArray, List.set_cons_succ, List.set_cons_zero]
                  refine wpAnyH_take (i := 3) (v := .int .i64 ((K + 1 : Nat) : Int)) rfl (by kernel_rfl) (by kernel_rfl) (by kernel_rfl) (fun _ _ _ h => h) (Or.inl ⟨by rfl, fun W _ => by have hfact := hwk; go_simp; first | done | simp [hfact]⟩) hHeld ?_
                  simp only [Act.put, List.getElem_toArray, List.getElem_cons_zero, List.getElem_cons_succ, List.setIfInBounds_toArray, List.set_cons_succ, List.set_cons_zero]
                  refine wpAnyH_take (i := 4) (v := .pointer (some ⟨B, 4, none⟩)) rfl (by kernel_rfl) (by kernel_rfl) (by kernel_rfl) (fun _ _ _ h => h) (Or.inl ⟨by rfl, fun W _ => by go_simp⟩) hHeld ?_
                  simp only [Act.put, List.getElem_toArray, List.getElem_cons_zero, List.getElem_cons_succ, List.setIfInBounds_toArray, List.set_cons_succ, List.set_cons_zero]
                  refine wpAnyH_take (i := 5) (v := .agg [Value.int .i64 y5, .int .i64 t5].toArray) rfl (by kernel_rfl) (by kernel_rfl) (by kernel_rfl) (fun _ _ _ h => h) (yieldsIf_load_mid (by rfl) 30 (.tmp 63) rfl B 4 rfl [Value.int .i64 y5, .int .i64 t5] _ (fun W hW => HRG4.out W hW) Tryz.underlying30 rfl faultSize) hHeld ?_
                  simp only [Act.put, List.getElem_toArray, List.getElem_cons_zero, List.getElem_cons_succ, List.setIfInBounds_toArray, List.set_cons_succ, List.set_cons_zero]
                  have HD7 := hid (bel_drw w7 1)
                  have HSB8 := hid (HSB7.out.below HD7.out)
                  have HR8 := hid (bel_keep HD7.out HR7.out)
                  have HF8 := hid (bel_keep HD7.out HF7.out)
                  have HO8 := hid (HO7.out.below HD7.out)
                  have HQ8 := hid (below_then HQ7.out HD7.out)
                  obtain ⟨wp, HWX7⟩ : ∃ x, Hid (w7.drewN 1 = x) := ⟨_, rfl⟩
                  have HWY7 := hid (show w7.drew = wp from HWX7.out)
                  rw [HWX7.out] at HSB8 HR8 HF8 HO8 HQ8
                  rw [HWY7.out]
                  clear hHeld HD7
                  refine wpAnyH_ready (rs := [6]) (by kernel_rfl) (by simp) ?_
                  refine AllReadyH.cons rfl (fun K9 hK => ?_) AllReadyH.nil
                  refine step_store_row (by rfl) 52 _ _ (by rfl) R S5 (by rfl) (by rfl) 52 _ HR8.out HSZ5.out HRZ.out HON5.out ?_
                  intro w8 hw8
                  have HSB9 := hid (HSB8.out.far hw8.grown (by have := HBR.out; omega) (own_block HSB8.out.own HR8.out (by decide)) (own_block HSB8.out.szs HR8.out (by decide)))
                  have HF9 := hid (gb_blk HF8.out hw8.grown (by have := HRF.out; simpa using this))
                  have HO9 := hid (HO8.out.gone hw8.grown HR8.out (by decide) (by decide))
                  have HQ9 := hid (Below.of_gb HQ8.out hw8.grown HLW.out.2.1)
                  refine hK.out _ _ (by rw [← HS5.out]; exact HSB9.out.blk) (fun hHeld => ?_)
                  clear hK K9
                  try simp only [Act.put, List.getElem_toArray, List.getElem_cons_zero, List.getElem_cons_succ]
                  refine wpAnyH_take (i := 7) (v := .slice a7 (fs.length + fs5.length) c7) rfl (by kernel_rfl) (by kernel_rfl) (by kernel_rfl) (fun _ _ _ h => h) (Or.inl ⟨by rfl, fun W _ => by go_simp⟩) hHeld ?_
                  simp only [Act.put, List.getElem_toArray, List.getElem_cons_zero, List.getElem_cons_succ, List.setIfInBounds_toArray, List.set_cons_succ, List.set_cons_zero]
                  refine wpAnyH_take (i := 8) (v := .int .i64 ((K + 1 : Nat) : Int)) rfl (by kernel_rfl) (by kernel_rfl) (by kernel_rfl) (fun _ _ _ h => h) (Or.inl ⟨by rfl, fun W _ => by go_simp⟩) hHeld ?_
                  simp only [Act.put, List.getElem_toArray, List.getElem_cons_zero, List.getElem_cons_succ, List.setIfInBounds_toArray, List.set_cons_succ, List.set_cons_zero]
                  refine wpAnyH_ready (rs := [9]) (by kernel_rfl) (by simp) ?_
                  refine AllReadyH.cons rfl (fun K9 hK => ?_) AllReadyH.nil
                  refine step_store_row (by rfl) 30 _ _ (by rfl) F [Value.int .i64 y5, .int .i64 t5] (by rfl) (by rfl) 30 _ HF9.out faultSize rfl (fault_one _ _) ?_
                  intro w9 hw9
                  have HSBz := hid (HSB9.out.far hw9.grown (by have := HBR.out; omega) (own_block HSB9.out.own HF9.out (by decide)) (own_block HSB9.out.szs HF9.out (by decide)))
                  have HRz9 := hid (gb_blk hw8.blk hw9.grown (by have := HRF.out; simp; omega))
                  have HOz9 := hid (HO9.out.gone hw9.grown HF9.out (by decide) (by decide))
                  have HQz9 := hid (Below.of_gb HQ9.out hw9.grown HLW.out.2.2)
                  refine hK.out _ _ (by rw [← HS5.out]; exact HSBz.out.blk) (fun hHeld => ?_)
                  clear hK K9
                  try simp only [Act.put, List.getElem_toArray, List.getElem_cons_zero, List.getElem_cons_succ]
                  refine wpAnyH_done (by kernel_rfl) ?_ _
                  simp only [noPanic]
                  clear hHeld
                  go_wp2
                  refine ret_cttc 6 7 8 9 52 30 rfl R rfl F rfl S5 52 HRz9.out _ Tryz.underlying52 rfl HSZ5.out [Value.int .i64 y5, .int .i64 t5] 30 hw9.blk _ Tryz.underlying30 rfl faultSize (.slice a7 (fs.length + fs5.length) c7) rfl (.int .i64 ((K + 1 : Nat) : Int)) rfl rfl ?_
                  rw [HZZ.out, HZE.out]
                  exact ⟨vr5, vs5, _, fs ++ fs5, by rw [← HS5.out, HY5.out, HT5.out], HSBz.out.own, HSBz.out.szs, HOz9.out, by rw [List.map_append, HFS.out, HM5.out], HQz9.out⟩
          · as_aux_lemma =>
              have HWF := hid (below_walk wq (.cells #[.int .i64 0, .slice none 0 0, .int .i64 0, .int .i64 0, .int .i64 0, .int .i64 0, .slice none 0 0] 52))
              have HEwa := hid (show (wq.alloc (.cells #[.int .i64 0, .slice none 0 0, .int .i64 0, .int .i64 0, .int .i64 0, .int .i64 0, .slice none 0 0] 52)).heap[wq.heap.size]? = some (.cells (sxC 0 (.slice none 0 0) (.slice none 0 0) zS).toArray 52 (0, 0)) from hp_new wq _)
              have HEl := hid (show w.heap.size ≤ wq.heap.size ∧ B < wq.heap.size ∧ R < wq.heap.size ∧ F < wq.heap.size from ⟨HQwq.out.size, hp_lt HKwq.out, hp_lt HRwq.out, hp_lt HFwq.out⟩)
              have HKwa := hid (bel_keep HWF.out HKwq.out)
              have HRwa := hid (bel_keep HWF.out HRwq.out)
              have HFwa := hid (bel_keep HWF.out HFwq.out)
              have HOFwa := hid (HOFwq.out.below HWF.out)
              have HQwa := hid (below_then HQwq.out HWF.out)
              have HC5wa := hid (show (wq.alloc (.cells #[.int .i64 0, .slice none 0 0, .int .i64 0, .int .i64 0, .int .i64 0, .int .i64 0, .slice none 0 0] 52)).cell? (adx.add K) = some (.int .u8 (c.toNat : Int)) from (HWF.out.cell (World.block_lt_of_cell? wq (adx.add K) HC5wq.out)).trans HC5wq.out)
              have HSBwa := hid (HSBwq.out.below HWF.out)
              have HXwa := hid (below_then HXwq.out HWF.out)
              refine step_alloc_row8 (by rfl) 52 (by rfl) _ zeroStrm ?_
              refine hK.out _ _ ⟨by rw [← HSC.out]; exact HKwa.out, HC5wa.out⟩ (fun hHeld => ?_)
              clear hK K9
              try simp only [Act.put, List.getElem_toArray, List.getElem_cons_zero, List.getElem_cons_succ, List.setIfInBounds_toArray, List.set_cons_succ, List.set_cons_zero]
              obtain ⟨E, HEe⟩ : ∃ n, Hid (wq.heap.size = n) := ⟨_, rfl⟩
              rw [HEe.out] at HEwa HEl
              try rw [HEe.out]
              generalize wq.alloc (.cells #[.int .i64 0, .slice none 0 0, .int .i64 0, .int .i64 0, .int .i64 0, .int .i64 0, .slice none 0 0] 52) = wa at HKwa HRwa HFwa HOFwa HQwa HC5wa HEwa HSBwa HXwa hHeld ⊢
              refine wpAnyH_ready (rs := [5]) (by kernel_rfl) (by simp) ?_
              refine AllReadyH.cons rfl (fun K9 hK => ?_) AllReadyH.nil
              go_simp
              refine (HTA.out wa HXwa.out).mono ?_
              rintro e wb ⟨vr5, vs5, vl5, fs5, rfl, ho5, hz5, hof5, hm5, htk5⟩
              have HKwb := hid (htk5.bk _ _ _ HSBwa.out.blk (by decide) (by decide))
              have HRwb := hid (htk5.bk _ _ _ HRwa.out (by decide) (by decide))
              have HFwb := hid (htk5.bk _ _ _ HFwa.out (by decide) (by decide))
              have HOFwb := hid (htk5.fr _ _ _ HOFwa.out)
              have HQwb := hid (HQwa.out.trans htk5.bl)
              have HO5wb := hid (hof5.le (HQwa.out.size))
              have HB5wb := hid ho5
              have HI5wb := hid hz5
              have HM5 := hid hm5
              have HC5wb := hid (show wb.cell? (adx.add K) = some (.int .u8 (c.toNat : Int)) from (World.cell?_of_block (htk5.bl.block _ (HCB.out))).trans HC5wa.out)
              have HEwb := hid (htk5.bk _ _ _ HEwa.out (by decide) (by decide))
              obtain ⟨a5, c5, e5⟩ := hof5.shape
              subst e5
              clear ho5 hz5 hof5 hm5 htk5
              go_wp2_with fail
              refine hK.out _ _ ⟨by rw [← HSC.out]; exact HKwb.out, HC5wb.out⟩ (fun hHeld => ?_)
              clear hK K9
              try simp only [Act.put, List.getElem_toArray, List.getElem_cons_zero, List.getElem_cons_succ, List.setIfInBounds_toArray, List.set_cons_succ, List.set_cons_zero]
              refine wpAnyH_take (i := 6) (v := .tuple #[.agg (sxC M vr5 vs5 TT.1).toArray, .slice a5 fs5.length c5]) rfl (by kernel_rfl) (by kernel_rfl) (by kernel_rfl) (fun _ _ _ h => h) (Or.inl ⟨by rfl, fun W _ => by go_simp⟩) hHeld ?_
              simp only [Act.put, List.getElem_toArray, List.getElem_cons_zero, List.getElem_cons_succ, List.setIfInBounds_toArray, List.set_cons_succ, List.set_cons_zero]
              refine wpAnyH_take (i := 7) (v := .agg (sxC M vr5 vs5 TT.1).toArray) rfl (by kernel_rfl) (by kernel_rfl) (by kernel_rfl) (fun _ _ _ h => h) (Or.inl ⟨by rfl, fun W _ => by go_simp⟩) hHeld ?_
              simp only [Act.put, List.getElem_toArray, List.getElem_cons_zero, List.getElem_cons_succ, List.setIfInBounds_toArray, List.set_cons_succ, List.set_cons_zero]
              refine wpAnyH_take (i := 8) (v := .slice a5 fs5.length c5) rfl (by kernel_rfl) (by kernel_rfl) (by kernel_rfl) (fun _ _ _ h => h) (Or.inl ⟨by rfl, fun W _ => by go_simp⟩) hHeld ?_
              simp only [Act.put, List.getElem_toArray, List.getElem_cons_zero, List.getElem_cons_succ, List.setIfInBounds_toArray, List.set_cons_succ, List.set_cons_zero]
              have HSZ5 := hid (show (Tryz.prog.info? 52).map (·.size) = some (sxC M vr5 vs5 TT.1).length from strmSize)
              have HON5 := hid (sxC_one (M := M) (vr := vr5) (vs := vs5) (s := TT.1) (by obtain ⟨a, c, e⟩ := HB5wb.out.shape; rw [e]; rfl) (by obtain ⟨a, c, e⟩ := HI5wb.out.shape; rw [e]; rfl))
              have HOL5 := hid (show (sxC 0 (.slice none 0 0) (.slice none 0 0) zS).toArray.size = (sxC M vr5 vs5 TT.1).length from rfl)
              have HOB5 := hid (show SC.toArray.size = (sxC M vr5 vs5 TT.1).length by rw [← HSC.out]; rfl)
              obtain ⟨S5, HS5⟩ : ∃ l, Hid (sxC M vr5 vs5 TT.1 = l) := ⟨_, rfl⟩
              rw [HS5.out] at HSZ5 HON5 HOL5 HOB5
              try rw [HS5.out]
              refine wpAnyH_ready (rs := [10]) (by kernel_rfl) (by simp) ?_
              refine AllReadyH.cons rfl (fun K9 hK => ?_) AllReadyH.nil
              refine step_store_row (by rfl) 52 _ _ (by rfl) E S5 (by rfl) (by rfl) 52 _ HEwb.out HSZ5.out HOL5.out HON5.out ?_
              intro wz hwz
              have HKz := hid (gb_blk HKwb.out hwz.grown (by have := HEl.out; simp; omega))
              have HRz := hid (gb_blk HRwb.out hwz.grown (by have := HEl.out; simp; omega))
              have HFz := hid (gb_blk HFwb.out hwz.grown (by have := HEl.out; simp; omega))
              have HOFz := hid (HOFwb.out.gone hwz.grown HEwb.out (by decide) (by decide))
              have HO5z := hid (HO5wb.out.gone hwz.grown HEwb.out (by decide) (by decide))
              have HB5z := hid (show OwnB wz w.heap.size vr5 TT.1.r from own_far2 HB5wb.out hwz.grown (fun _ e h => own_block HB5wb.out HEwb.out (by decide) (h ▸ e)))
              have HI5z := hid (show OwnI wz w.heap.size vs5 TT.1.szs from own_far2 HI5wb.out hwz.grown (fun _ e h => own_block HI5wb.out HEwb.out (by decide) (h ▸ e)))
              have HQz := hid (Below.of_gb HQwb.out hwz.grown HEl.out.1)
              have HEz := hid hwz.blk
              have HCz := hid (show wz.cell? (adx.add K) = some (.int .u8 (c.toNat : Int)) from (World.cell?_of_block (hwz.grown.block _ (World.block_lt_of_cell? wb (adx.add K) HC5wb.out) (fun e => by have := HCB.out; have := HEl.out.1; simp at e; omega))).trans HC5wb.out)
              refine hK.out _ _ ⟨by rw [← HSC.out]; exact HKz.out, HCz.out⟩ (fun hHeld => ?_)
              clear hK K9
              try simp only [Act.put, List.getElem_toArray, List.getElem_cons_zero, List.getElem_cons_succ]
              refine wpAnyH_take (i := 11) (v := .slice a5 fs5.length c5) rfl (by kernel_rfl) (by kernel_rfl) (by kernel_rfl) (fun _ _ _ h => h) (Or.inl ⟨by rfl, fun W _ => by go_simp⟩) hHeld ?_
              simp only [Act.put, List.getElem_toArray, List.getElem_cons_zero, List.getElem_cons_succ, List.setIfInBounds_toArray, List.set_cons_succ, List.set_cons_zero]
              refine wpAnyH_done (by kernel_rfl) ?_ _
              simp only [noPanic]
              have HEB := hid (show E ≠ B ∧ E ≠ R ∧ E ≠ F by have := HEl.out; omega)
              have HTF := hid (HFT.out fs5 HM5.out)
              clear hHeld hwz
              go_upto_region 13 with (first
                | (refine ld_row (by rfl) 52 (.tmp 12) (by rfl) E (by rfl) S5 52 HEz.out _ Tryz.underlying52 rfl HSZ5.out ?_)
                | (refine st_row (by rfl) 52 _ _ (by rfl) B S5 (by rfl) (by rfl) 52 _ (by rw [← HSC.out]; exact HKz.out) HSZ5.out HOB5.out HON5.out ?_; intro w6 hw6; have HOF6 := hid (HOFz.out.gone hw6.grown HKz.out (by decide) (by decide)); have HO56 := hid (HO5z.out.gone hw6.grown HKz.out (by decide) (by decide)); have HZ6 := hid (Nat.le_trans HQz.out.size hw6.grown.size))
                | (at_builtin; refine app_frs (by rfl) _ _ rfl w.heap.size _ fs rfl HOF6.out fs5 _ rfl HO56.out.frs HO56.out.nilc (fun f hf => HO56.out.each f hf) HTF.out HZ6.out ?_; intro v7 w7 ho7 hg7 hp7; obtain ⟨a7, c7, e7⟩ := ho7.shape; rw [List.length_append] at e7; subst e7))
              have HSB6 := hid (show Sb w6 w.heap.size B M vr5 vs5 TT.1 from ⟨HLW.out.1, by rw [HS5.out]; exact hw6.blk, own_far2 HB5z.out hw6.grown (fun _ e h => own_block HB5z.out HKz.out (by decide) (h ▸ e)), own_far2 HI5z.out hw6.grown (fun _ e h => own_block HI5z.out HKz.out (by decide) (h ▸ e))⟩)
              have HR6 := hid (gb_blk HRz.out hw6.grown (by have := HBR.out; simp; omega))
              have HF6 := hid (gb_blk HFz.out hw6.grown (by have := HBR.out; simp; omega))
              have HQ6 := hid (Below.of_gb HQz.out hw6.grown HLW.out.1)
              have HSB7 := hid (show Sb w7 w.heap.size B M vr5 vs5 TT.1 from ⟨HLW.out.1, gb_blk HSB6.out.blk hg7 (own_block HOF6.out.own HSB6.out.blk (by decide)), own_grow HSB6.out.own hg7 HOF6.out.own (by decide), own_grow HSB6.out.szs hg7 HOF6.out.own (by decide)⟩)
              have HR7 := hid (gb_blk HR6.out hg7 (own_block HOF6.out.own HR6.out (by decide)))
              have HF7 := hid (gb_blk HF6.out hg7 (own_block HOF6.out.own HF6.out (by decide)))
              have HQ7 := hid (Below.of_gbo HQ6.out hg7 (fun k e => (World.ownsRow.lt HOF6.out.own k e).1))
              have HO7 := hid ho7
              clear ho7 hg7 hp7 hw6 HSB6 HR6 HF6 HQ6 HOF6 HO56 HZ6 HKz HRz HFz HOFz HO5z HB5z HI5z HQz HEz HCz
              have HG5 := hid (show Gs M TT.1 by have := run_good (M := M) (q := stopQ n) (bs.take (K + 1)) (a := (s, [], 0)) HG.out; rw [HST.out] at this; exact this)
              obtain ⟨y5, HY5⟩ : ∃ y, Hid (TT.1.why = y) := ⟨_, rfl⟩
              obtain ⟨t5, HT5⟩ : ∃ y, Hid (TT.1.wat = y) := ⟨_, rfl⟩
              have k4 : w7.cell? ⟨B, 4, none⟩ = some (.int .i64 y5) := by rw [← HY5.out]; exact HSB7.out.c4
              have k5 : w7.cell? ⟨B, 5, none⟩ = some (.int .i64 t5) := by rw [← HT5.out]; exact HSB7.out.c5
              have hwk : IntKind.i64.wrap ((K : Int) + 1) = ((K + 1 : Nat) : Int) := by rw [IntKind.wrap_i64]; omega
              by_cases hy5 : y5 = 0
              · as_aux_lemma =>
                  have ht5 : t5 = 0 := by rw [← HT5.out]; exact (HG5.out.ok (HY5.out.trans hy5)).1
                  have HY0 := hid (HY5.out.trans hy5)
                  subst hy5 ht5
                  have n1 : ∀ W, (binOp .neq 30 (.agg #[.int .i64 0, .int .i64 0]) (.agg #[.int .i64 0, .int .i64 0])).run Tryz.prog W = .ok (.bool false) W := fun W => by rw [fault_neq]; simp
                  go_wp2_with (first | (refine bd_row (by rfl) 30 #[] (by rfl) _ (by simp) _ built_fz ?_))
                  refine ⟨⟨K + 1, vr5, vs5, fs ++ fs5, _, hlt, by simp, HST.out, rfl, HY0.out, HSL2.out, ?_, HO7.out, HSB7.out, HR7.out, HF7.out, HQ7.out⟩, by simp [intOf]; omega⟩
                  rw [List.map_append, HFS.out, HM5.out]
                  exact hid rfl
              · as_aux_lemma =>
                  have n1 : ∀ W, (binOp .neq 30 (.agg #[.int .i64 y5, .int .i64 t5]) (.agg #[.int .i64 0, .int .i64 0])).run Tryz.prog W = .ok (.bool true) W := fun W => by rw [fault_neq]; simp [hy5]
                  have HZE := hid (show Z = (TT.1, a.2.1 ++ TT.2, K + 1) by
                    rw [← HZZ.out]
                    conv => lhs; rw [← List.take_append_drop (K + 1) bs]
                    rw [runP_app, HST.out]
                    exact runP_stop _ _ _ (Or.inr (by show TT.1.why ≠ 0; rw [HY5.out]; exact hy5)) _)
                  have HBK7 := hid HSB7.out.blk
                  have HRG4 := hid (fun (W : World) (h : W.heap[B]? = some (.cells S5.toArray 52 (0, 0))) => (show W.rangeAt B 4 [.int .i64 y5, .int .i64 t5] by rw [← HS5.out] at h; have := range_4 h; rw [HY5.out, HT5.out] at this; exact this))
                  rw [HS5.out] at HBK7
                  have HRZ := hid (show (sxC 0 (.slice none 0 0) (.slice none 0 0) zS).toArray.size = S5.length by rw [← HS5.out]; rfl)
                  clear hy5
                  go_upto_region 14 with (first | (refine bd_row (by rfl) 30 #[] (by rfl) _ (by simp) _ built_fz ?_))
                  refine wp_noPanic (wp_region_held_drew (S := fun W => W.heap[B]? = some (.cells S5.toArray 52 (0, 0))) (by kernel_rfl) HBK7.out ?_)
                  intro hHeld
                  refine wpAnyH_take (i := 0) (v := .agg S5.toArray) rfl (by kernel_rfl) (by kernel_rfl) (by kernel_rfl) (fun _ _ _ h => h) (yieldsIf_load_mid (by rfl) 52 (.tmp 3) rfl B 0 rfl S5 _ (fun W hW => range_row hW) Tryz.underlying52 rfl HSZ5.out) hHeld ?_
                  simp only [Act.put, List.getElem_toArray, List.getElem_cons_zero, List.setIfInBounds_toArray, List.set_cons_succ, List.set_cons_zero]
                  refine wpAnyH_take (i := 1) (v := .slice a7 (fs.length + fs5.length) c7) rfl (by kernel_rfl) (by kernel_rfl) (by kernel_rfl) (fun _ _ _ h => h) (Or.inl ⟨by rfl, fun W _ => by go_simp⟩) hHeld ?_
                  simp only [Act.put, List.getElem_toArray, List.getElem_cons_zero, List.getElem_cons_succ, List.setIfInBounds_toArray, List.set_cons_succ, List.set_cons_zero]
                  refine wpAnyH_take (i := 2) (v := .int .i64 (K : Int)) rfl (by kernel_rfl) (by kernel_rfl) (by kernel_rfl) (fun _ _ _ h => h) (Or.inl ⟨by rfl, fun W _ => by go_simp⟩) hHeld ?_
                  simp only [Act.put, List.getElem_toArray, List.getElem_cons_zero, List.getElem_cons_succ, List.setIfInBounds_toArray, List.set_cons_succ, List.set_cons_zero]
                  refine wpAnyH_take (i := 3) (v := .int .i64 ((K + 1 : Nat) : Int)) rfl (by kernel_rfl) (by kernel_rfl) (by kernel_rfl) (fun _ _ _ h => h) (Or.inl ⟨by rfl, fun W _ => by have hfact := hwk; go_simp; first | done | simp [hfact]⟩) hHeld ?_
                  simp only [Act.put, List.getElem_toArray, List.getElem_cons_zero, List.getElem_cons_succ, List.setIfInBounds_toArray, List.set_cons_succ, List.set_cons_zero]
                  refine wpAnyH_take (i := 4) (v := .pointer (some ⟨B, 4, none⟩)) rfl (by kernel_rfl) (by kernel_rfl) (by kernel_rfl) (fun _ _ _ h => h) (Or.inl ⟨by rfl, fun W _ => by go_simp⟩) hHeld ?_
                  simp only [Act.put, List.getElem_toArray, List.getElem_cons_zero, List.getElem_cons_succ, List.setIfInBounds_toArray, List.set_cons_succ, List.set_cons_zero]
                  refine wpAnyH_take (i := 5) (v := .agg [Value.int .i64 y5, .int .i64 t5].toArray) rfl (by kernel_rfl) (by kernel_rfl) (by kernel_rfl) (fun _ _ _ h => h) (yieldsIf_load_mid (by rfl) 30 (.tmp 63) rfl B 4 rfl [Value.int .i64 y5, .int .i64 t5] _ (fun W hW => HRG4.out W hW) Tryz.underlying30 rfl faultSize) hHeld ?_
                  simp only [Act.put, List.getElem_toArray, List.getElem_cons_zero, List.getElem_cons_succ, List.setIfInBounds_toArray, List.set_cons_succ, List.set_cons_zero]
                  have HD7 := hid (bel_drw w7 1)
                  have HSB8 := hid (HSB7.out.below HD7.out)
                  have HR8 := hid (bel_keep HD7.out HR7.out)
                  have HF8 := hid (bel_keep HD7.out HF7.out)
                  have HO8 := hid (HO7.out.below HD7.out)
                  have HQ8 := hid (below_then HQ7.out HD7.out)
                  obtain ⟨wp, HWX7⟩ : ∃ x, Hid (w7.drewN 1 = x) := ⟨_, rfl⟩
                  have HWY7 := hid (show w7.drew = wp from HWX7.out)
                  rw [HWX7.out] at HSB8 HR8 HF8 HO8 HQ8
                  rw [HWY7.out]
                  clear hHeld HD7
                  refine wpAnyH_ready (rs := [6]) (by kernel_rfl) (by simp) ?_
                  refine AllReadyH.cons rfl (fun K9 hK => ?_) AllReadyH.nil
                  refine step_store_row (by rfl) 52 _ _ (by rfl) R S5 (by rfl) (by rfl) 52 _ HR8.out HSZ5.out HRZ.out HON5.out ?_
                  intro w8 hw8
                  have HSB9 := hid (HSB8.out.far hw8.grown (by have := HBR.out; omega) (own_block HSB8.out.own HR8.out (by decide)) (own_block HSB8.out.szs HR8.out (by decide)))
                  have HF9 := hid (gb_blk HF8.out hw8.grown (by have := HRF.out; simpa using this))
                  have HO9 := hid (HO8.out.gone hw8.grown HR8.out (by decide) (by decide))
                  have HQ9 := hid (Below.of_gb HQ8.out hw8.grown HLW.out.2.1)
                  refine hK.out _ _ (by rw [← HS5.out]; exact HSB9.out.blk) (fun hHeld => ?_)
                  clear hK K9
                  try simp only [Act.put, List.getElem_toArray, List.getElem_cons_zero, List.getElem_cons_succ]
                  refine wpAnyH_take (i := 7) (v := .slice a7 (fs.length + fs5.length) c7) rfl (by kernel_rfl) (by kernel_rfl) (by kernel_rfl) (fun _ _ _ h => h) (Or.inl ⟨by rfl, fun W _ => by go_simp⟩) hHeld ?_
                  simp only [Act.put, List.getElem_toArray, List.getElem_cons_zero, List.getElem_cons_succ, List.setIfInBounds_toArray, List.set_cons_succ, List.set_cons_zero]
                  refine wpAnyH_take (i := 8) (v := .int .i64 ((K + 1 : Nat) : Int)) rfl (by kernel_rfl) (by kernel_rfl) (by kernel_rfl) (fun _ _ _ h => h) (Or.inl ⟨by rfl, fun W _ => by go_simp⟩) hHeld ?_
                  simp only [Act.put, List.getElem_toArray, List.getElem_cons_zero, List.getElem_cons_succ, List.setIfInBounds_toArray, List.set_cons_succ, List.set_cons_zero]
                  refine wpAnyH_ready (rs := [9]) (by kernel_rfl) (by simp) ?_
                  refine AllReadyH.cons rfl (fun K9 hK => ?_) AllReadyH.nil
                  refine step_store_row (by rfl) 30 _ _ (by rfl) F [Value.int .i64 y5, .int .i64 t5] (by rfl) (by rfl) 30 _ HF9.out faultSize rfl (fault_one _ _) ?_
                  intro w9 hw9
                  have HSBz := hid (HSB9.out.far hw9.grown (by have := HBR.out; omega) (own_block HSB9.out.own HF9.out (by decide)) (own_block HSB9.out.szs HF9.out (by decide)))
                  have HRz9 := hid (gb_blk hw8.blk hw9.grown (by have := HRF.out; simp; omega))
                  have HOz9 := hid (HO9.out.gone hw9.grown HF9.out (by decide) (by decide))
                  have HQz9 := hid (Below.of_gb HQ9.out hw9.grown HLW.out.2.2)
                  refine hK.out _ _ (by rw [← HS5.out]; exact HSBz.out.blk) (fun hHeld => ?_)
                  clear hK K9
                  try simp only [Act.put, List.getElem_toArray, List.getElem_cons_zero, List.getElem_cons_succ]
                  refine wpAnyH_done (by kernel_rfl) ?_ _
                  simp only [noPanic]
                  clear hHeld
                  go_wp2
                  refine ret_cttc 6 7 8 9 52 30 rfl R rfl F rfl S5 52 HRz9.out _ Tryz.underlying52 rfl HSZ5.out [Value.int .i64 y5, .int .i64 t5] 30 hw9.blk _ Tryz.underlying30 rfl faultSize (.slice a7 (fs.length + fs5.length) c7) rfl (.int .i64 ((K + 1 : Nat) : Int)) rfl rfl ?_
                  rw [HZZ.out, HZE.out]
                  exact ⟨vr5, vs5, _, fs ++ fs5, by rw [← HS5.out, HY5.out, HT5.out], HSBz.out.own, HSBz.out.szs, HOz9.out, by rw [List.map_append, HFS.out, HM5.out], HQz9.out⟩
    · obtain rfl : K = bs.length := by omega
      as_aux_lemma =>
        have HE := hid (show runP M (stopQ n) a (bs.drop bs.length) = a by rw [List.drop_length]; rfl)
        go_wp2_with (first
          | (refine ld_row (by rfl) 52 (.tmp 3) (by rfl) B (by rfl) SC 52 HBKr.out _ Tryz.underlying52 rfl HSZr.out ?_)
          | (refine bd_row (by rfl) 30 #[] (by rfl) _ (by simp) _ built_fz ?_)
          | (refine st_row (by rfl) 52 _ _ (by rfl) R SC (by rfl) (by rfl) 52 _ HRr.out HSZr.out HOL.out HONr.out ?_; intro w8 hw8; have HF8 := hid (gb_blk HFr.out hw8.grown (by have := HRF.out; simpa using this)))
          | (refine st_row (by rfl) 30 _ _ (by rfl) F [Value.int .i64 0, .int .i64 0] (by rfl) (by rfl) 30 _ HF8.out faultSize rfl (fault_one _ _) ?_; intro w9 hw9))

        have HRz := hid (gb_blk hw8.blk hw9.grown (by have := HRF.out; simp; omega))
        refine ret_cttc 6 7 8 9 52 30 rfl R rfl F rfl SC 52 HRz.out _ Tryz.underlying52 rfl HSZr.out [Value.int .i64 0, .int .i64 0] 30 hw9.blk _ Tryz.underlying30 rfl faultSize (.slice alv fs.length clv) rfl (.int .i64 ((bs.length : Nat) : Int)) rfl rfl ?_
        rw [HZZ.out]
        exact FIN.out w8 w9 hw8 hw9 HE.out
end Go.Proofs.YtiibhccbbpgehabGreat

/- The document's Some of a poisoned decoder; its Feed. -/
namespace Go.Proofs.YtiibhccbbpgehabGreat
open Go.RowKit Go.BigFrame

theorem results_ctc {fn : Func} {p r z : Tmp} {ty ty2 : TypeId} (h : fn.results = #[.cell p ty, .tmp r, .cell z ty2]) (tmps : Array Value) (P : Program) (w : World) :
    (results fn tmps).run P w = ((asAddr (tmps.getD p undef)).run P w).andThen fun a w₁ => ((loadVar ty a).run P w₁).andThen fun v w₂ => ((asAddr (tmps.getD z undef)).run P w₂).andThen fun a2 w₃ => ((loadVar ty2 a2).run P w₃).andThen fun v2 w₄ => .ok (.tuple #[v, tmps.getD r undef, v2]) w₄ := by
  simp only [results, h]
  simp [Sem.run_bind, Result.andThen]
theorem ret_ctc {P : Program} {fn : Func} {R : Ending → World → Prop} {a : Act} {w : World} (p r z : Tmp) (ty ty2 : TypeId) (h : fn.results = #[.cell p ty, .tmp r, .cell z ty2]) (g : Nat) (hp : a.tmps.getD p undef = .pointer (some ⟨g, 0, none⟩)) (g2 : Nat) (hq : a.tmps.getD z undef = .pointer (some ⟨g2, 0, none⟩))
    (cs : List Value) (t : TypeId) (hb : w.heap[g]? = some (.cells cs.toArray t (0, 0))) (d : TypeDesc) (hu : P.underlying ty = some d) (hd : d.isRow = true) (hi : (P.info? ty).map (·.size) = some cs.length)
    (cs2 : List Value) (t2 : TypeId) (hb2 : w.heap[g2]? = some (.cells cs2.toArray t2 (0, 0))) (d2 : TypeDesc) (hu2 : P.underlying ty2 = some d2) (hd2 : d2.isRow = true) (hi2 : (P.info? ty2).map (·.size) = some cs2.length)
    (v : Value) (hv : a.tmps.getD r undef = v)
    (hdf : a.defers = []) (hR : R (.returned (.tuple #[.agg cs.toArray, v, .agg cs2.toArray])) w) : bodyPost P fn R .ret a w := by
  refine bodyPost_ret (v := .tuple #[.agg cs.toArray, v, .agg cs2.toArray]) ?_ hdf hR
  rw [results_ctc h, hp, hq, hv]
  have h1 := run_loadVar_mid (P := P) w g 0 ty cs d (fun j v hv => by rw [Nat.zero_add, cell_of_row w g j cs.toArray t (0, 0) hb]; simpa using hv) hu hd hi
  have h2 := run_loadVar_mid (P := P) w g2 0 ty2 cs2 d2 (fun j v hv => by rw [Nat.zero_add, cell_of_row w g2 j cs2.toArray t2 (0, 0) hb2]; simpa using hv) hu2 hd2 hi2
  simp [asAddr, h1, h2]

set_option maxRecDepth 100000 in
set_option maxHeartbeats 4000000 in
theorem rsome8_bad (s : Sx) (vr vs vb : Value) (n : Int) (w : World) (b2 M : Nat) (ho : OwnB w b2 vr s.r) (hz : OwnI w b2 vs s.szs) (h0 : s.why ≠ 0) :
    Calls Tryz.prog 32 #[.agg (sxC M vr vs s).toArray, .int .i64 n, vb] w (RSmP w b2 M (s, [], 0) 80 (s.came : Int)) := by
  have HON := hid (sxC_one (M := M) (vr := vr) (vs := vs) (s := s) (by obtain ⟨a, c, e⟩ := ho.shape; rw [e]; rfl) (by obtain ⟨a, c, e⟩ := hz.shape; rw [e]; rfl))
  have HO := hid ho
  have HI := hid hz
  clear ho hz
  have HW1 := hid (show Below w.heap.size w (((w.alloc (.cells (sxC M vr vs s).toArray 52)).alloc (.cells #[.int .i64 0, .slice none 0 0, .int .i64 0, .int .i64 0, .int .i64 0, .int .i64 0, .slice none 0 0] 52)).alloc (.cells #[.int .i64 0, .int .i64 0] 30)) from (below_walk2 w _ _).alloc (by simp; omega) _)
  have HNN := hid (show (((w.alloc (.cells (sxC M vr vs s).toArray 52)).alloc (.cells #[.int .i64 0, .slice none 0 0, .int .i64 0, .int .i64 0, .int .i64 0, .int .i64 0, .slice none 0 0] 52)).alloc (.cells #[.int .i64 0, .int .i64 0] 30)).heap[w.heap.size]? = some (.cells (sxC M vr vs s).toArray 52 (0, 0)) ∧ (((w.alloc (.cells (sxC M vr vs s).toArray 52)).alloc (.cells #[.int .i64 0, .slice none 0 0, .int .i64 0, .int .i64 0, .int .i64 0, .int .i64 0, .slice none 0 0] 52)).alloc (.cells #[.int .i64 0, .int .i64 0] 30)).heap[w.heap.size + 1]? = some (.cells (sxC 0 (.slice none 0 0) (.slice none 0 0) zS).toArray 52 (0, 0)) ∧ (((w.alloc (.cells (sxC M vr vs s).toArray 52)).alloc (.cells #[.int .i64 0, .slice none 0 0, .int .i64 0, .int .i64 0, .int .i64 0, .int .i64 0, .slice none 0 0] 52)).alloc (.cells #[.int .i64 0, .int .i64 0] 30)).heap[w.heap.size + 2]? = some (.cells #[.int .i64 0, .int .i64 0] 30 (0, 0)) from hp_three w _ _ _)
  have HZ1 : Hid ((w.alloc (.cells (sxC M vr vs s).toArray 52)).heap.size = w.heap.size + 1) := hid (by simp)
  have HZ2 : Hid (((w.alloc (.cells (sxC M vr vs s).toArray 52)).alloc (.cells #[.int .i64 0, .slice none 0 0, .int .i64 0, .int .i64 0, .int .i64 0, .int .i64 0, .slice none 0 0] 52)).heap.size = w.heap.size + 2) := hid (by simp)
  go_enter Tryz.func32, Tryz.ntmps32
  go_upto_region 1 with (first
    | (refine bx_row (by rfl) 52 _ (by rfl) _ (by rfl) ?_)
    | (refine al_row (by rfl) 52 (by rfl) _ zeroStrm ?_)
    | (refine al_row (by rfl) 30 (by rfl) _ zeroFault ?_))
  try rw [HZ2.out]
  try rw [HZ1.out]
  obtain ⟨B, HBe⟩ : ∃ n, Hid (w.heap.size = n) := ⟨_, rfl⟩
  obtain ⟨R, HRe⟩ : ∃ n, Hid (B + 1 = n) := ⟨_, rfl⟩
  obtain ⟨F, HFe⟩ : ∃ n, Hid (B + 2 = n) := ⟨_, rfl⟩
  have HBR := hid (show R = B + 1 ∧ F = B + 2 from ⟨HRe.out.symm, HFe.out.symm⟩)
  have HRF := hid (show R ≠ F by have := HBR.out; omega)
  have HLW := hid (show w.heap.size ≤ B ∧ w.heap.size ≤ R ∧ w.heap.size ≤ F by have := HBe.out; have := HBR.out; omega)
  rw [HBe.out, HRe.out, HFe.out] at HNN ⊢
  generalize ((w.alloc (.cells (sxC M vr vs s).toArray 52)).alloc (.cells #[.int .i64 0, .slice none 0 0, .int .i64 0, .int .i64 0, .int .i64 0, .int .i64 0, .slice none 0 0] 52)).alloc (.cells #[.int .i64 0, .int .i64 0] 30) = w1 at HW1 HNN ⊢
  have HK1 := hid HNN.out.1
  have HR1 := hid HNN.out.2.1
  have HF1 := hid HNN.out.2.2
  clear HNN HZ1 HZ2
  obtain ⟨y, HY⟩ : ∃ y, Hid (s.why = y) := ⟨_, rfl⟩
  obtain ⟨t, HTt⟩ : ∃ y, Hid (s.wat = y) := ⟨_, rfl⟩
  obtain ⟨ca, HCA⟩ : ∃ y, Hid (s.came = y) := ⟨_, rfl⟩
  rw [HY.out] at h0
  have c4 : w1.cell? ⟨B, 4, none⟩ = some (.int .i64 y) := (cell_of_row _ B 4 _ _ _ HK1.out).trans (by rw [show (sxC M vr vs s).toArray[4]? = some (.int .i64 s.why) from rfl, HY.out])
  have c5 : w1.cell? ⟨B, 5, none⟩ = some (.int .i64 t) := (cell_of_row _ B 5 _ _ _ HK1.out).trans (by rw [show (sxC M vr vs s).toArray[5]? = some (.int .i64 s.wat) from rfl, HTt.out])
  have HC2 := hid (fun (W : World) (h : W.heap[B]? = some (.cells (sxC M vr vs s).toArray 52 (0, 0))) => (show W.cell? ⟨B, 2, none⟩ = some (.int .i64 (ca : Int)) from (cell_of_row _ B 2 _ _ _ h).trans (by rw [show (sxC M vr vs s).toArray[2]? = some (.int .i64 (s.came : Int)) from rfl, HCA.out])))
  have n1 : ∀ W, (binOp .neq 30 (.agg #[.int .i64 y, .int .i64 t]) (.agg #[.int .i64 0, .int .i64 0])).run Tryz.prog W = .ok (.bool true) W := fun W => by rw [fault_neq]; simp [h0]
  have HSZ := hid (show (Tryz.prog.info? 52).map (·.size) = some (sxC M vr vs s).length from strmSize)
  obtain ⟨SC, HSC⟩ : ∃ l, Hid (sxC M vr vs s = l) := ⟨_, rfl⟩
  have HOL := hid (show (sxC 0 (.slice none 0 0) (.slice none 0 0) zS).toArray.size = SC.length by rw [← HSC.out]; rfl)
  rw [HSC.out] at HSZ HK1 HON HC2
  clear h0
  go_upto_region 2 with (first | (refine bd_row (by rfl) 30 #[] (by rfl) _ (by simp) _ built_fz ?_))
  refine wp_noPanic (wp_region_held_drew (S := fun W => W.heap[B]? = some (.cells SC.toArray 52 (0, 0))) (by kernel_rfl) HK1.out ?_)
  intro hHeld
  refine wpAnyH_take (i := 0) (v := .agg SC.toArray) rfl (by kernel_rfl) (by kernel_rfl) (by kernel_rfl) (fun _ _ _ h => h) (yieldsIf_load_mid (by rfl) 52 (.tmp 3) rfl B 0 rfl SC _ (fun W hW => range_row hW) Tryz.underlying52 rfl HSZ.out) hHeld ?_
  simp only [Act.put, List.getElem_toArray, List.getElem_cons_zero, List.setIfInBounds_toArray, List.set_cons_succ, List.set_cons_zero]
  refine wpAnyH_take (i := 1) (v := .pointer (some ⟨B, 2, none⟩)) rfl (by kernel_rfl) (by kernel_rfl) (by kernel_rfl) (fun _ _ _ h => h) (Or.inl ⟨by rfl, fun W _ => by go_simp⟩) hHeld ?_
  simp only [Act.put, List.getElem_toArray, List.getElem_cons_zero, List.getElem_cons_succ, List.setIfInBounds_toArray, List.set_cons_succ, List.set_cons_zero]
  refine wpAnyH_take (i := 2) (v := .int .i64 (ca : Int)) rfl (by kernel_rfl) (by kernel_rfl) (by kernel_rfl) (fun _ _ _ h => h) (Or.inl ⟨by rfl, fun W hW => by have hcell := HC2.out W hW; clear hW; go_simp⟩) hHeld ?_
  simp only [Act.put, List.getElem_toArray, List.getElem_cons_zero, List.getElem_cons_succ, List.setIfInBounds_toArray, List.set_cons_succ, List.set_cons_zero]
  refine wpAnyH_take (i := 3) (v := .agg [Value.int .i64 80, .int .i64 (ca : Int)].toArray) rfl (by kernel_rfl) (by kernel_rfl) (by kernel_rfl) (fun _ _ _ h => h) (yields_build (by rfl) 30 #[(0, .const (.int .i64 80)), (1, .tmp 20)] (by rfl) _ (by simp [Act.eval]) _ (built_ft _ _)) hHeld ?_
  simp only [Act.put, List.getElem_toArray, List.getElem_cons_zero, List.getElem_cons_succ, List.setIfInBounds_toArray, List.set_cons_succ, List.set_cons_zero]
  have HD := hid (bel_drw w1 1)
  have HR2 := hid (bel_keep HD.out HR1.out)
  have HF2 := hid (bel_keep HD.out HF1.out)
  have HK2 := hid (bel_keep HD.out HK1.out)
  have HQ2 := hid (below_then HW1.out HD.out)
  obtain ⟨wq, HWX⟩ : ∃ x, Hid (w1.drewN 1 = x) := ⟨_, rfl⟩
  have HWYq := hid (show w1.drew = wq from HWX.out)
  rw [HWX.out] at HR2 HF2 HK2 HQ2
  rw [HWYq.out]
  clear hHeld HD
  refine wpAnyH_ready (rs := [4]) (by kernel_rfl) (by simp) ?_
  refine AllReadyH.cons rfl (fun K9 hK => ?_) AllReadyH.nil
  refine step_store_row (by rfl) 52 _ _ (by rfl) R SC (by rfl) (by rfl) 52 _ HR2.out HSZ.out HOL.out HON.out ?_
  intro w8 hw8
  have HK8 := hid (gb_blk HK2.out hw8.grown (by have := HBR.out; simp; omega))
  have HF8 := hid (gb_blk HF2.out hw8.grown (by have := HRF.out; simpa using this))
  have HQ8 := hid (Below.of_gb HQ2.out hw8.grown HLW.out.2.1)
  refine hK.out _ _ HK8.out (fun hHeld => ?_)
  clear hK K9
  try simp only [Act.put, List.getElem_toArray, List.getElem_cons_zero, List.getElem_cons_succ]
  refine wpAnyH_take (i := 5) (v := .slice none 0 0) rfl (by kernel_rfl) (by kernel_rfl) (by kernel_rfl) (fun _ _ _ h => h) (Or.inl ⟨by rfl, fun W _ => by go_simp⟩) hHeld ?_
  simp only [Act.put, List.getElem_toArray, List.getElem_cons_zero, List.getElem_cons_succ, List.setIfInBounds_toArray, List.set_cons_succ, List.set_cons_zero]
  refine wpAnyH_take (i := 6) (v := .int .i64 0) rfl (by kernel_rfl) (by kernel_rfl) (by kernel_rfl) (fun _ _ _ h => h) (Or.inl ⟨by rfl, fun W _ => by go_simp⟩) hHeld ?_
  simp only [Act.put, List.getElem_toArray, List.getElem_cons_zero, List.getElem_cons_succ, List.setIfInBounds_toArray, List.set_cons_succ, List.set_cons_zero]
  refine wpAnyH_ready (rs := [7]) (by kernel_rfl) (by simp) ?_
  refine AllReadyH.cons rfl (fun K9 hK => ?_) AllReadyH.nil
  refine step_store_row (by rfl) 30 _ _ (by rfl) F [Value.int .i64 80, .int .i64 (ca : Int)] (by rfl) (by rfl) 30 _ HF8.out faultSize rfl (fault_one _ _) ?_
  intro w9 hw9
  have HK9 := hid (gb_blk HK8.out hw9.grown (by have := HBR.out; simp; omega))
  have HRz := hid (gb_blk hw8.blk hw9.grown (by have := HRF.out; simp; omega))
  have HQ9 := hid (Below.of_gb HQ8.out hw9.grown HLW.out.2.2)
  refine hK.out _ _ HK9.out (fun hHeld => ?_)
  clear hK K9
  try simp only [Act.put, List.getElem_toArray, List.getElem_cons_zero, List.getElem_cons_succ]
  refine wpAnyH_done (by kernel_rfl) ?_ _
  simp only [noPanic]
  clear hHeld
  go_wp2
  refine ret_cttc 6 7 8 9 52 30 rfl R rfl F rfl SC 52 HRz.out _ Tryz.underlying52 rfl HSZ.out [Value.int .i64 80, .int .i64 (ca : Int)] 30 hw9.blk _ Tryz.underlying30 rfl faultSize (.slice none 0 0) rfl (.int .i64 0) rfl rfl ?_
  exact ⟨vr, vs, _, [], by rw [← HSC.out, ← HCA.out]; rfl, HO.out.below HQ9.out, own_below HI.out HQ9.out, OFs.nil _ _, rfl, HQ9.out⟩

/-- what Feed answers -/
def RFdP (w : World) (lo M : Nat) (a : Ra) (y t : Int) (e : Ending) (w' : World) : Prop :=
  ∃ vr vs vl fs, e = .returned (.tuple #[.agg (sxC M vr vs a.1).toArray, vl, .agg #[.int .i64 y, .int .i64 t]]) ∧ OwnB w' lo vr a.1.r ∧ OwnI w' lo vs a.1.szs ∧ OFs w' w.heap.size vl fs ∧ fs.map (·.1) = a.2.1 ∧ Below w.heap.size w w'

set_option maxRecDepth 100000 in
set_option maxHeartbeats 4000000 in
theorem rfeed8_of (s : Sx) (vr vs vp : Value) (us : List Value) (pss : List (List UInt8)) (w : World) (lo M : Nat) (a : Ra) (y t : Int) (hp : Lsts w vp us pss) (hn : pss.length ≤ 140737488355327) (hbl : (fl pss).length ≤ 140737488355327)
    (hso : ∀ W vb, Below w.heap.size w W → Src W vb (fl pss) → Calls Tryz.prog 32 #[.agg (sxC M vr vs s).toArray, .int .i64 (-1), vb] W (RSmP W (min lo W.heap.size) M a y t)) (hlo : lo ≤ w.heap.size) :
    Calls Tryz.prog 18 #[.agg (sxC M vr vs s).toArray, vp] w (RFdP w lo M a y t) := by
  have HP := hid hp
  have HSO := hid hso
  have HLO := hid hlo
  obtain ⟨ap, cp, rfl⟩ := hp.shape
  clear hp hso hlo
  have HW1 := hid (show Below w.heap.size w (((w.alloc (.cells (sxC M vr vs s).toArray 52)).alloc (.cells #[.int .i64 0, .slice none 0 0, .int .i64 0, .int .i64 0, .int .i64 0, .int .i64 0, .slice none 0 0] 52)).alloc (.cells #[.int .i64 0, .int .i64 0] 30)) from (below_walk2 w _ _).alloc (by simp; omega) _)
  have HNN := hid (show (((w.alloc (.cells (sxC M vr vs s).toArray 52)).alloc (.cells #[.int .i64 0, .slice none 0 0, .int .i64 0, .int .i64 0, .int .i64 0, .int .i64 0, .slice none 0 0] 52)).alloc (.cells #[.int .i64 0, .int .i64 0] 30)).heap[w.heap.size]? = some (.cells (sxC M vr vs s).toArray 52 (0, 0)) ∧ (((w.alloc (.cells (sxC M vr vs s).toArray 52)).alloc (.cells #[.int .i64 0, .slice none 0 0, .int .i64 0, .int .i64 0, .int .i64 0, .int .i64 0, .slice none 0 0] 52)).alloc (.cells #[.int .i64 0, .int .i64 0] 30)).heap[w.heap.size + 1]? = some (.cells (sxC 0 (.slice none 0 0) (.slice none 0 0) zS).toArray 52 (0, 0)) ∧ (((w.alloc (.cells (sxC M vr vs s).toArray 52)).alloc (.cells #[.int .i64 0, .slice none 0 0, .int .i64 0, .int .i64 0, .int .i64 0, .int .i64 0, .slice none 0 0] 52)).alloc (.cells #[.int .i64 0, .int .i64 0] 30)).heap[w.heap.size + 2]? = some (.cells #[.int .i64 0, .int .i64 0] 30 (0, 0)) from hp_three w _ _ _)
  have HZ1 : Hid ((w.alloc (.cells (sxC M vr vs s).toArray 52)).heap.size = w.heap.size + 1) := hid (by simp)
  have HZ2 : Hid (((w.alloc (.cells (sxC M vr vs s).toArray 52)).alloc (.cells #[.int .i64 0, .slice none 0 0, .int .i64 0, .int .i64 0, .int .i64 0, .int .i64 0, .slice none 0 0] 52)).heap.size = w.heap.size + 2) := hid (by simp)
  go_enter Tryz.func18, Tryz.ntmps18
  go_upto_region 1 with (first
    | (refine bx_row (by rfl) 52 _ (by rfl) _ (by rfl) ?_)
    | (refine al_row (by rfl) 52 (by rfl) _ zeroStrm ?_)
    | (refine al_row (by rfl) 30 (by rfl) _ zeroFault ?_))
  try rw [HZ2.out]
  try rw [HZ1.out]
  obtain ⟨B, HBe⟩ : ∃ n, Hid (w.heap.size = n) := ⟨_, rfl⟩
  obtain ⟨R, HRe⟩ : ∃ n, Hid (B + 1 = n) := ⟨_, rfl⟩
  obtain ⟨F, HFe⟩ : ∃ n, Hid (B + 2 = n) := ⟨_, rfl⟩
  have HBR := hid (show R = B + 1 ∧ F = B + 2 from ⟨HRe.out.symm, HFe.out.symm⟩)
  have HRF := hid (show R ≠ F by have := HBR.out; omega)
  have HLW := hid (show w.heap.size ≤ B ∧ w.heap.size ≤ R ∧ w.heap.size ≤ F by have := HBe.out; have := HBR.out; omega)
  rw [HBe.out, HRe.out, HFe.out] at HNN ⊢
  generalize ((w.alloc (.cells (sxC M vr vs s).toArray 52)).alloc (.cells #[.int .i64 0, .slice none 0 0, .int .i64 0, .int .i64 0, .int .i64 0, .int .i64 0, .slice none 0 0] 52)).alloc (.cells #[.int .i64 0, .int .i64 0] 30) = w1 at HW1 HNN ⊢
  have HK1 := hid HNN.out.1
  have HR1 := hid HNN.out.2.1
  have HF1 := hid HNN.out.2.2
  clear HNN HZ1 HZ2
  have HSZ := hid (show (Tryz.prog.info? 52).map (·.size) = some (sxC M vr vs s).length from strmSize)
  obtain ⟨SC, HSC⟩ : ∃ l, Hid (sxC M vr vs s = l) := ⟨_, rfl⟩
  rw [HSC.out] at HSZ HK1 HSO
  go_wp2
  go_loopw [7, 8] (fun vb vi wr => ∃ (k : Nat), k ≤ pss.length ∧ vi = .int .i64 k ∧ Hid (OwnB wr w.heap.size vb (fl (pss.take k))) ∧ Hid (wr.heap[B]? = some (.cells SC.toArray 52 (0, 0))) ∧ Hid (wr.heap[R]? = some (.cells (sxC 0 (.slice none 0 0) (.slice none 0 0) zS).toArray 52 (0, 0))) ∧ Hid (wr.heap[F]? = some (.cells #[.int .i64 0, .int .i64 0] 30 (0, 0))) ∧ Hid (Below w.heap.size w wr)) (fun _ vi _ => pss.length - (intOf vi).toNat)
  case atStart => exact ⟨0, by omega, rfl, World.ownsRow_nil _ _ _ _, HK1.out, HR1.out, HF1.out, HW1.out⟩
  case round =>
    obtain ⟨k, hk, rfl, HOB, HKr, HRr, HFr, HQ⟩ := hrel
    obtain ⟨ab, cb, eb⟩ := HOB.out.shape
    obtain ⟨L, HLe⟩ : ∃ n, Hid ((fl (pss.take k)).length = n) := ⟨_, rfl⟩
    rw [HLe.out] at eb
    subst eb
    by_cases hlt : k < pss.length
    · as_aux_lemma =>
        have hki : (k : Int) < (pss.length : Int) := by omega
        obtain ⟨g, o, rfl, hcl, hsr⟩ := (HP.out.below HQ.out).at k hlt
        obtain ⟨au, nu, cu, eu⟩ := src_named hsr
        rw [eu] at hcl hsr
        obtain ⟨X, HXk⟩ : ∃ X, Hid (pss.getD k [] = X) := ⟨_, rfl⟩
        rw [HXk.out] at hsr
        have HSR := hid hsr
        clear hsr
        have hwk : IntKind.i64.wrap ((k : Int) + 1) = (k : Int) + 1 := by rw [IntKind.wrap_i64]; omega
        have HLL := hid (show (fl (pss.take k)).length + (pss.getD k []).length ≤ 140737488355327 by
          have h1 : (fl (pss.take (k + 1))).length ≤ (fl pss).length := by
            have e : fl pss = fl (pss.take (k + 1)) ++ fl (pss.drop (k + 1)) := by unfold fl; rw [← List.flatten_append, List.take_append_drop]
            rw [e, List.length_append]; omega
          rw [fl_snoc pss k hlt, List.length_append] at h1
          omega)
        rw [HXk.out] at HLL
        have HZZ := hid HQ.out.size
        clear eu
        go_wp2_with (first | (at_builtin; refine app_bytes (by rfl) _ _ rfl w.heap.size _ _ rfl HOB.out _ _ rfl HSR.out HLL.out HZZ.out ?_))
        intro v2 w2 ho2 hg2 hp2
        rw [← HXk.out, ← fl_snoc pss k hlt] at ho2
        have HO2 := hid ho2
        have HK2 := hid (gb_blk HKr.out hg2 (own_block HOB.out HKr.out (by decide)))
        have HR2 := hid (gb_blk HRr.out hg2 (own_block HOB.out HRr.out (by decide)))
        have HF2 := hid (gb_blk HFr.out hg2 (own_block HOB.out HFr.out (by decide)))
        have HQ2 := hid (Below.of_gbo HQ.out hg2 (fun k e => (World.ownsRow.lt HOB.out k e).1))
        obtain ⟨a2, n2, c2, e2⟩ : ∃ a n c, v2 = .slice a n c := by obtain ⟨a, c, e⟩ := ho2.shape; exact ⟨_, _, _, e⟩
        subst e2
        clear ho2 hg2 hp2
        go_wp2
        exact ⟨⟨k + 1, hlt, by simp, HO2.out, HK2.out, HR2.out, HF2.out, HQ2.out⟩, by simp [intOf]; omega⟩
    · obtain rfl : k = pss.length := by omega
      as_aux_lemma =>
        have HOB2 := hid (show OwnB wr w.heap.size (.slice ab L cb) (fl pss) by have h := HOB.out; rw [fl_all] at h; exact h)
        have HCA := hid (HSO.out wr (.slice ab L cb) HQ.out (HOB2.out.src hbl))
        clear HSO HOB HOB2
        go_wp2_with (first | (refine ld_row (by rfl) 52 (.tmp 2) (by rfl) B (by rfl) SC 52 HKr.out _ Tryz.underlying52 rfl HSZ.out ?_))
        refine HCA.out.mono ?_
        rintro e w4 ⟨vr4, vs4, vl4, fs4, rfl, ho4, hz4, hof4, hm4, hb4⟩
        have HW4 := hid (show Below w4.heap.size w4 ((w4.alloc (.cells #[.int .i64 0, .slice none 0 0, .int .i64 0, .int .i64 0, .int .i64 0, .int .i64 0, .slice none 0 0] 52)).alloc (.cells #[.int .i64 0, .int .i64 0] 30)) from below_walk2 w4 _ _)
        have HN4 := hid (show ((w4.alloc (.cells #[.int .i64 0, .slice none 0 0, .int .i64 0, .int .i64 0, .int .i64 0, .int .i64 0, .slice none 0 0] 52)).alloc (.cells #[.int .i64 0, .int .i64 0] 30)).heap[w4.heap.size]? = some (.cells (sxC 0 (.slice none 0 0) (.slice none 0 0) zS).toArray 52 (0, 0)) ∧ ((w4.alloc (.cells #[.int .i64 0, .slice none 0 0, .int .i64 0, .int .i64 0, .int .i64 0, .int .i64 0, .slice none 0 0] 52)).alloc (.cells #[.int .i64 0, .int .i64 0] 30)).heap[w4.heap.size + 1]? = some (.cells #[.int .i64 0, .int .i64 0] 30 (0, 0)) from hp_two w4 _ _)
        have HZ4 : Hid ((w4.alloc (.cells #[.int .i64 0, .slice none 0 0, .int .i64 0, .int .i64 0, .int .i64 0, .int .i64 0, .slice none 0 0] 52)).heap.size = w4.heap.size + 1) := hid (by simp)
        have HR4 := hid (bel_keep HW4.out (bel_keep hb4 HRr.out))
        have HF4 := hid (bel_keep HW4.out (bel_keep hb4 HFr.out))
        have HRl := hid (show R < w4.heap.size ∧ F < w4.heap.size from ⟨hp_lt (bel_keep hb4 HRr.out), hp_lt (bel_keep hb4 HFr.out)⟩)
        have HQ4 := hid (below_then (below_then HQ.out hb4) HW4.out)
        have HQs := hid (below_then HQ.out hb4).size
        have hmn : lo ≤ min lo wr.heap.size := by have := HLO.out; have := HQ.out.size; omega
        have HO4 := hid (show OwnB _ lo vr4 a.1.r from (own_le (ho4.below HW4.out) hmn))
        have HI4 := hid (show OwnI _ lo vs4 a.1.szs from own_le (own_below hz4 HW4.out) hmn)
        have HOF4 := hid ((hof4.below HW4.out).le (HQ.out.size))
        have HM4 := hid hm4
        have HSZ4 := hid (show (Tryz.prog.info? 52).map (·.size) = some (sxC M vr4 vs4 a.1).length from strmSize)
        have HON4 := hid (sxC_one (M := M) (vr := vr4) (vs := vs4) (s := a.1) (by obtain ⟨a, c, e⟩ := ho4.shape; rw [e]; rfl) (by obtain ⟨a, c, e⟩ := hz4.shape; rw [e]; rfl))
        have HOL4 := hid (show (sxC 0 (.slice none 0 0) (.slice none 0 0) zS).toArray.size = (sxC M vr4 vs4 a.1).length from rfl)
        obtain ⟨al, nl, cl, el⟩ : ∃ a n c, vl4 = .slice a n c := by obtain ⟨a, c, e⟩ := hof4.shape; exact ⟨_, _, _, e⟩
        subst el
        clear ho4 hz4 hof4 hm4 hb4 HCA hmn
        obtain ⟨S4, HS4⟩ : ∃ l, Hid (sxC M vr4 vs4 a.1 = l) := ⟨_, rfl⟩
        rw [HS4.out] at HSZ4 HON4 HOL4 ⊢
        go_upto_region 7 with (first
          | (refine al_row (by rfl) 52 (by rfl) _ zeroStrm ?_)
          | (refine al_row (by rfl) 30 (by rfl) _ zeroFault ?_; rw [HZ4.out])
          | (refine st_row (by rfl) 52 _ _ (by rfl) w4.heap.size S4 (by rfl) (by rfl) 52 _ HN4.out.1 HSZ4.out HOL4.out HON4.out ?_; intro w5 hw5; have HD5 := hid (gb_blk HN4.out.2 hw5.grown (by simp)))
          | (refine st_row (by rfl) 30 _ _ (by rfl) (w4.heap.size + 1) [Value.int .i64 y, .int .i64 t] (by rfl) (by rfl) 30 _ HD5.out faultSize rfl (fault_one _ _) ?_; intro w6 hw6))
        obtain ⟨C, HCe⟩ : ∃ n, Hid (w4.heap.size = n) := ⟨_, rfl⟩
        obtain ⟨D, HDe⟩ : ∃ n, Hid (C + 1 = n) := ⟨_, rfl⟩
        rw [HCe.out] at hw5 hw6 HN4 HRl HQs ⊢
        rw [HCe.out] at HD5
        rw [HDe.out] at hw6 HN4 HD5 ⊢
        have HCD := hid (show D = C + 1 from HDe.out.symm)
        have HC6 := hid (gb_blk hw5.blk hw6.grown (by have := HCD.out; simp; omega))
        have HD6 := hid hw6.blk
        have HR6 := hid (gb_blk (gb_blk HR4.out hw5.grown (by have := HRl.out; simp; omega)) hw6.grown (by have := HRl.out; have := HCD.out; simp; omega))
        have HF6 := hid (gb_blk (gb_blk HF4.out hw5.grown (by have := HRl.out; simp; omega)) hw6.grown (by have := HRl.out; have := HCD.out; simp; omega))
        have HQ6 := hid (Below.of_gb (Below.of_gb HQ4.out hw5.grown HQs.out) hw6.grown (by have := HQs.out; have := HCD.out; omega))
        have HO5 := hid (own_far2 HO4.out hw5.grown (fun _ e h => own_block HO4.out HN4.out.1 (by decide) (h ▸ e)))
        have HI5 := hid (own_far2 HI4.out hw5.grown (fun _ e h => own_block HI4.out HN4.out.1 (by decide) (h ▸ e)))
        have HO6 := hid (own_far2 HO5.out hw6.grown (fun _ e h => own_block HO5.out HD5.out (by decide) (h ▸ e)))
        have HI6 := hid (own_far2 HI5.out hw6.grown (fun _ e h => own_block HI5.out HD5.out (by decide) (h ▸ e)))
        have HOF6 := hid ((HOF4.out.gone hw5.grown HN4.out.1 (by decide) (by decide)).gone hw6.grown HD5.out (by decide) (by decide))
        have HRC := hid (show R ≠ C ∧ R ≠ D ∧ F ≠ C ∧ F ≠ D by have := HRl.out; have := HCD.out; omega)
        clear hw5 hw6 HN4 HR4 HF4 HQ4 HO4 HI4 HO5 HI5 HOF4 HD5 HW4 HZ4
        refine wp_noPanic (wp_region_held_drew (S := fun W => W.heap[C]? = some (.cells S4.toArray 52 (0, 0)) ∧ W.heap[D]? = some (.cells [Value.int .i64 y, .int .i64 t].toArray 30 (0, 0))) (by kernel_rfl) ⟨HC6.out, HD6.out⟩ ?_)
        intro hHeld
        refine wpAnyH_take (i := 0) (v := .agg S4.toArray) rfl (by kernel_rfl) (by kernel_rfl) (by kernel_rfl) (fun _ _ _ h => h) (yieldsIf_load_mid (by rfl) 52 (.tmp 9) rfl C 0 rfl S4 _ (fun W hW => range_row hW.1) Tryz.underlying52 rfl HSZ4.out) hHeld ?_
        simp only [Act.put, List.getElem_toArray, List.getElem_cons_zero, List.setIfInBounds_toArray, List.set_cons_succ, List.set_cons_zero]
        refine wpAnyH_take (i := 1) (v := .slice al nl cl) rfl (by kernel_rfl) (by kernel_rfl) (by kernel_rfl) (fun _ _ _ h => h) (Or.inl ⟨by rfl, fun W _ => by go_simp⟩) hHeld ?_
        simp only [Act.put, List.getElem_toArray, List.getElem_cons_zero, List.getElem_cons_succ, List.setIfInBounds_toArray, List.set_cons_succ, List.set_cons_zero]
        refine wpAnyH_take (i := 2) (v := .agg [Value.int .i64 y, .int .i64 t].toArray) rfl (by kernel_rfl) (by kernel_rfl) (by kernel_rfl) (fun _ _ _ h => h) (yieldsIf_load_mid (by rfl) 30 (.tmp 12) rfl D 0 rfl [Value.int .i64 y, .int .i64 t] _ (fun W hW => range_row hW.2) Tryz.underlying30 rfl faultSize) hHeld ?_
        simp only [Act.put, List.getElem_toArray, List.getElem_cons_zero, List.getElem_cons_succ, List.setIfInBounds_toArray, List.set_cons_succ, List.set_cons_zero]
        have HD := hid (bel_drw w6 1)
        have HR7 := hid (bel_keep HD.out HR6.out)
        have HF7 := hid (bel_keep HD.out HF6.out)
        have HC7 := hid (bel_keep HD.out HC6.out)
        have HD7 := hid (bel_keep HD.out HD6.out)
        have HQ7 := hid (below_then HQ6.out HD.out)
        have HO7 := hid ((show OwnB (w6.drewN 1) lo vr4 a.1.r from own_below HO6.out HD.out))
        have HI7 := hid ((show OwnI (w6.drewN 1) lo vs4 a.1.szs from own_below HI6.out HD.out))
        have HOF7 := hid (HOF6.out.below HD.out)
        obtain ⟨wq, HWX⟩ : ∃ x, Hid (w6.drewN 1 = x) := ⟨_, rfl⟩
        have HWYq := hid (show w6.drew = wq from HWX.out)
        rw [HWX.out] at HR7 HF7 HC7 HD7 HQ7 HO7 HI7 HOF7
        rw [HWYq.out]
        clear hHeld HD
        refine wpAnyH_ready (rs := [3]) (by kernel_rfl) (by simp) ?_
        refine AllReadyH.cons rfl (fun K9 hK => ?_) AllReadyH.nil
        refine step_store_row (by rfl) 52 _ _ (by rfl) R S4 (by rfl) (by rfl) 52 _ HR7.out HSZ4.out HOL4.out HON4.out ?_
        intro w8 hw8
        have HC8 := hid (gb_blk HC7.out hw8.grown (by have := HRC.out; simp; omega))
        have HD8 := hid (gb_blk HD7.out hw8.grown (by have := HRC.out; simp; omega))
        have HF8 := hid (gb_blk HF7.out hw8.grown (by have := HRF.out; simpa using this))
        have HQ8 := hid (Below.of_gb HQ7.out hw8.grown HLW.out.2.1)
        have HO8 := hid (own_far2 HO7.out hw8.grown (fun _ e h => own_block HO7.out HR7.out (by decide) (h ▸ e)))
        have HI8 := hid (own_far2 HI7.out hw8.grown (fun _ e h => own_block HI7.out HR7.out (by decide) (h ▸ e)))
        have HOF8 := hid (HOF7.out.gone hw8.grown HR7.out (by decide) (by decide))
        refine hK.out _ _ ⟨HC8.out, HD8.out⟩ (fun hHeld => ?_)
        clear hK K9
        try simp only [Act.put, List.getElem_toArray, List.getElem_cons_zero, List.getElem_cons_succ]
        refine wpAnyH_take (i := 4) (v := .slice al nl cl) rfl (by kernel_rfl) (by kernel_rfl) (by kernel_rfl) (fun _ _ _ h => h) (Or.inl ⟨by rfl, fun W _ => by go_simp⟩) hHeld ?_
        simp only [Act.put, List.getElem_toArray, List.getElem_cons_zero, List.getElem_cons_succ, List.setIfInBounds_toArray, List.set_cons_succ, List.set_cons_zero]
        refine wpAnyH_ready (rs := [5]) (by kernel_rfl) (by simp) ?_
        refine AllReadyH.cons rfl (fun K9 hK => ?_) AllReadyH.nil
        refine step_store_row (by rfl) 30 _ _ (by rfl) F [Value.int .i64 y, .int .i64 t] (by rfl) (by rfl) 30 _ HF8.out faultSize rfl (fault_one _ _) ?_
        intro w9 hw9
        have HC9 := hid (gb_blk HC8.out hw9.grown (by have := HRC.out; simp; omega))
        have HD9 := hid (gb_blk HD8.out hw9.grown (by have := HRC.out; simp; omega))
        have HRz := hid (gb_blk hw8.blk hw9.grown (by have := HRF.out; simp; omega))
        have HQ9 := hid (Below.of_gb HQ8.out hw9.grown HLW.out.2.2)
        have HO9 := hid (own_far2 HO8.out hw9.grown (fun _ e h => own_block HO8.out HF8.out (by decide) (h ▸ e)))
        have HI9 := hid (own_far2 HI8.out hw9.grown (fun _ e h => own_block HI8.out HF8.out (by decide) (h ▸ e)))
        have HOF9 := hid (HOF8.out.gone hw9.grown HF8.out (by decide) (by decide))
        refine hK.out _ _ ⟨HC9.out, HD9.out⟩ (fun hHeld => ?_)
        clear hK K9
        try simp only [Act.put, List.getElem_toArray, List.getElem_cons_zero, List.getElem_cons_succ]
        refine wpAnyH_done (by kernel_rfl) ?_ _
        simp only [noPanic]
        clear hHeld
        go_wp2
        refine ret_ctc 4 5 6 52 30 rfl R rfl F rfl S4 52 HRz.out _ Tryz.underlying52 rfl HSZ4.out [Value.int .i64 y, .int .i64 t] 30 hw9.blk _ Tryz.underlying30 rfl faultSize (.slice al nl cl) rfl rfl ?_
        exact ⟨vr4, vs4, _, fs4, by rw [← HS4.out], HO9.out, HI9.out, HOF9.out, HM4.out, HQ9.out⟩
end Go.Proofs.YtiibhccbbpgehabGreat

/- The document's New; its Some and Feed of a poisoned decoder: the very answer. -/
namespace Go.Proofs.YtiibhccbbpgehabGreat
open Go.RowKit Go.BigFrame

theorem built_stm : Tryz.prog.built 52 [(0, .int .i64 2097152)] = some (sxC 2097152 (.slice none 0 0) (.slice none 0 0) zS).toArray := by kernel_rfl
set_option maxRecDepth 100000 in
set_option maxHeartbeats 2000000 in
theorem rnew8_max (w : World) : Calls Tryz.prog 17 #[.int .i64 2097152] w fun e w' => e = .returned (.tuple #[.agg (sxC 2097152 (.slice none 0 0) (.slice none 0 0) zS).toArray, .int .i64 0]) ∧ Below w.heap.size w w' := by
  have HW1 := hid (show Below w.heap.size w (w.alloc (.cells (sxC 2097152 (.slice none 0 0) (.slice none 0 0) zS).toArray 52)) from below_walk w _)
  have HN1 := hid (hp_new w (.cells (sxC 2097152 (.slice none 0 0) (.slice none 0 0) zS).toArray 52))
  have HSZ := hid (show (Tryz.prog.info? 52).map (·.size) = some (sxC 2097152 (.slice none 0 0) (.slice none 0 0) zS).length from strmSize)
  have HON := hid (sxC_one (M := 2097152) (vr := .slice none 0 0) (vs := .slice none 0 0) (s := zS) rfl rfl)
  have HBT := hid built_stm
  have HOL := hid (show (sxC 0 (.slice none 0 0) (.slice none 0 0) zS).toArray.size = (sxC 2097152 (.slice none 0 0) (.slice none 0 0) zS).length from rfl)
  obtain ⟨SC, HSC⟩ : ∃ l, Hid (sxC 2097152 (.slice none 0 0) (.slice none 0 0) zS = l) := ⟨_, rfl⟩
  rw [HSC.out] at HW1 HN1 HSZ HON HBT HOL ⊢
  go_enter Tryz.func17, Tryz.ntmps17
  go_wp2_with (first
    | (refine al_row (by rfl) 52 (by rfl) _ zeroStrm ?_)
    | (refine bd_row (by rfl) 52 #[(0, .tmp 11)] (by rfl) _ (by simp [Act.eval]) _ HBT.out ?_)
    | (refine st_new (by rfl) 52 _ _ (by rfl) SC (by rfl) (by rfl) 52 _ HSZ.out HOL.out HON.out ?_))
  refine ret_row2 2 3 52 rfl w.heap.size rfl SC 52 HN1.out _ Tryz.underlying52 rfl HSZ.out (.int .i64 0) rfl rfl ?_
  exact ⟨rfl, HW1.out⟩

set_option maxRecDepth 100000 in
set_option maxHeartbeats 4000000 in
theorem rsome8_ex (s : Sx) (vr vs vb : Value) (n : Int) (w : World) (b2 M : Nat) (ho : OwnB w b2 vr s.r) (hz : OwnI w b2 vs s.szs) (h0 : s.why ≠ 0) :
    Calls Tryz.prog 32 #[.agg (sxC M vr vs s).toArray, .int .i64 n, vb] w (fun e w' => e = .returned (.tuple #[.agg (sxC M vr vs s).toArray, .slice none 0 0, .int .i64 0, .agg #[.int .i64 80, .int .i64 (s.came : Int)]]) ∧ Below w.heap.size w w') := by
  have HON := hid (sxC_one (M := M) (vr := vr) (vs := vs) (s := s) (by obtain ⟨a, c, e⟩ := ho.shape; rw [e]; rfl) (by obtain ⟨a, c, e⟩ := hz.shape; rw [e]; rfl))
  clear ho hz
  have HW1 := hid (show Below w.heap.size w (((w.alloc (.cells (sxC M vr vs s).toArray 52)).alloc (.cells #[.int .i64 0, .slice none 0 0, .int .i64 0, .int .i64 0, .int .i64 0, .int .i64 0, .slice none 0 0] 52)).alloc (.cells #[.int .i64 0, .int .i64 0] 30)) from (below_walk2 w _ _).alloc (by simp; omega) _)
  have HNN := hid (show (((w.alloc (.cells (sxC M vr vs s).toArray 52)).alloc (.cells #[.int .i64 0, .slice none 0 0, .int .i64 0, .int .i64 0, .int .i64 0, .int .i64 0, .slice none 0 0] 52)).alloc (.cells #[.int .i64 0, .int .i64 0] 30)).heap[w.heap.size]? = some (.cells (sxC M vr vs s).toArray 52 (0, 0)) ∧ (((w.alloc (.cells (sxC M vr vs s).toArray 52)).alloc (.cells #[.int .i64 0, .slice none 0 0, .int .i64 0, .int .i64 0, .int .i64 0, .int .i64 0, .slice none 0 0] 52)).alloc (.cells #[.int .i64 0, .int .i64 0] 30)).heap[w.heap.size + 1]? = some (.cells (sxC 0 (.slice none 0 0) (.slice none 0 0) zS).toArray 52 (0, 0)) ∧ (((w.alloc (.cells (sxC M vr vs s).toArray 52)).alloc (.cells #[.int .i64 0, .slice none 0 0, .int .i64 0, .int .i64 0, .int .i64 0, .int .i64 0, .slice none 0 0] 52)).alloc (.cells #[.int .i64 0, .int .i64 0] 30)).heap[w.heap.size + 2]? = some (.cells #[.int .i64 0, .int .i64 0] 30 (0, 0)) from hp_three w _ _ _)
  have HZ1 : Hid ((w.alloc (.cells (sxC M vr vs s).toArray 52)).heap.size = w.heap.size + 1) := hid (by simp)
  have HZ2 : Hid (((w.alloc (.cells (sxC M vr vs s).toArray 52)).alloc (.cells #[.int .i64 0, .slice none 0 0, .int .i64 0, .int .i64 0, .int .i64 0, .int .i64 0, .slice none 0 0] 52)).heap.size = w.heap.size + 2) := hid (by simp)
  go_enter Tryz.func32, Tryz.ntmps32
  go_upto_region 1 with (first
    | (refine bx_row (by rfl) 52 _ (by rfl) _ (by rfl) ?_)
    | (refine al_row (by rfl) 52 (by rfl) _ zeroStrm ?_)
    | (refine al_row (by rfl) 30 (by rfl) _ zeroFault ?_))
  try rw [HZ2.out]
  try rw [HZ1.out]
  obtain ⟨B, HBe⟩ : ∃ n, Hid (w.heap.size = n) := ⟨_, rfl⟩
  obtain ⟨R, HRe⟩ : ∃ n, Hid (B + 1 = n) := ⟨_, rfl⟩
  obtain ⟨F, HFe⟩ : ∃ n, Hid (B + 2 = n) := ⟨_, rfl⟩
  have HBR := hid (show R = B + 1 ∧ F = B + 2 from ⟨HRe.out.symm, HFe.out.symm⟩)
  have HRF := hid (show R ≠ F by have := HBR.out; omega)
  have HLW := hid (show w.heap.size ≤ B ∧ w.heap.size ≤ R ∧ w.heap.size ≤ F by have := HBe.out; have := HBR.out; omega)
  rw [HBe.out, HRe.out, HFe.out] at HNN ⊢
  generalize ((w.alloc (.cells (sxC M vr vs s).toArray 52)).alloc (.cells #[.int .i64 0, .slice none 0 0, .int .i64 0, .int .i64 0, .int .i64 0, .int .i64 0, .slice none 0 0] 52)).alloc (.cells #[.int .i64 0, .int .i64 0] 30) = w1 at HW1 HNN ⊢
  have HK1 := hid HNN.out.1
  have HR1 := hid HNN.out.2.1
  have HF1 := hid HNN.out.2.2
  clear HNN HZ1 HZ2
  obtain ⟨y, HY⟩ : ∃ y, Hid (s.why = y) := ⟨_, rfl⟩
  obtain ⟨t, HTt⟩ : ∃ y, Hid (s.wat = y) := ⟨_, rfl⟩
  obtain ⟨ca, HCA⟩ : ∃ y, Hid (s.came = y) := ⟨_, rfl⟩
  rw [HY.out] at h0
  have c4 : w1.cell? ⟨B, 4, none⟩ = some (.int .i64 y) := (cell_of_row _ B 4 _ _ _ HK1.out).trans (by rw [show (sxC M vr vs s).toArray[4]? = some (.int .i64 s.why) from rfl, HY.out])
  have c5 : w1.cell? ⟨B, 5, none⟩ = some (.int .i64 t) := (cell_of_row _ B 5 _ _ _ HK1.out).trans (by rw [show (sxC M vr vs s).toArray[5]? = some (.int .i64 s.wat) from rfl, HTt.out])
  have HC2 := hid (fun (W : World) (h : W.heap[B]? = some (.cells (sxC M vr vs s).toArray 52 (0, 0))) => (show W.cell? ⟨B, 2, none⟩ = some (.int .i64 (ca : Int)) from (cell_of_row _ B 2 _ _ _ h).trans (by rw [show (sxC M vr vs s).toArray[2]? = some (.int .i64 (s.came : Int)) from rfl, HCA.out])))
  have n1 : ∀ W, (binOp .neq 30 (.agg #[.int .i64 y, .int .i64 t]) (.agg #[.int .i64 0, .int .i64 0])).run Tryz.prog W = .ok (.bool true) W := fun W => by rw [fault_neq]; simp [h0]
  have HSZ := hid (show (Tryz.prog.info? 52).map (·.size) = some (sxC M vr vs s).length from strmSize)
  obtain ⟨SC, HSC⟩ : ∃ l, Hid (sxC M vr vs s = l) := ⟨_, rfl⟩
  have HOL := hid (show (sxC 0 (.slice none 0 0) (.slice none 0 0) zS).toArray.size = SC.length by rw [← HSC.out]; rfl)
  rw [HSC.out] at HSZ HK1 HON HC2
  clear h0
  go_upto_region 2 with (first | (refine bd_row (by rfl) 30 #[] (by rfl) _ (by simp) _ built_fz ?_))
  refine wp_noPanic (wp_region_held_drew (S := fun W => W.heap[B]? = some (.cells SC.toArray 52 (0, 0))) (by kernel_rfl) HK1.out ?_)
  intro hHeld
  refine wpAnyH_take (i := 0) (v := .agg SC.toArray) rfl (by kernel_rfl) (by kernel_rfl) (by kernel_rfl) (fun _ _ _ h => h) (yieldsIf_load_mid (by rfl) 52 (.tmp 3) rfl B 0 rfl SC _ (fun W hW => range_row hW) Tryz.underlying52 rfl HSZ.out) hHeld ?_
  simp only [Act.put, List.getElem_toArray, List.getElem_cons_zero, List.setIfInBounds_toArray, List.set_cons_succ, List.set_cons_zero]
  refine wpAnyH_take (i := 1) (v := .pointer (some ⟨B, 2, none⟩)) rfl (by kernel_rfl) (by kernel_rfl) (by kernel_rfl) (fun _ _ _ h => h) (Or.inl ⟨by rfl, fun W _ => by go_simp⟩) hHeld ?_
  simp only [Act.put, List.getElem_toArray, List.getElem_cons_zero, List.getElem_cons_succ, List.setIfInBounds_toArray, List.set_cons_succ, List.set_cons_zero]
  refine wpAnyH_take (i := 2) (v := .int .i64 (ca : Int)) rfl (by kernel_rfl) (by kernel_rfl) (by kernel_rfl) (fun _ _ _ h => h) (Or.inl ⟨by rfl, fun W hW => by have hcell := HC2.out W hW; clear hW; go_simp⟩) hHeld ?_
  simp only [Act.put, List.getElem_toArray, List.getElem_cons_zero, List.getElem_cons_succ, List.setIfInBounds_toArray, List.set_cons_succ, List.set_cons_zero]
  refine wpAnyH_take (i := 3) (v := .agg [Value.int .i64 80, .int .i64 (ca : Int)].toArray) rfl (by kernel_rfl) (by kernel_rfl) (by kernel_rfl) (fun _ _ _ h => h) (yields_build (by rfl) 30 #[(0, .const (.int .i64 80)), (1, .tmp 20)] (by rfl) _ (by simp [Act.eval]) _ (built_ft _ _)) hHeld ?_
  simp only [Act.put, List.getElem_toArray, List.getElem_cons_zero, List.getElem_cons_succ, List.setIfInBounds_toArray, List.set_cons_succ, List.set_cons_zero]
  have HD := hid (bel_drw w1 1)
  have HR2 := hid (bel_keep HD.out HR1.out)
  have HF2 := hid (bel_keep HD.out HF1.out)
  have HK2 := hid (bel_keep HD.out HK1.out)
  have HQ2 := hid (below_then HW1.out HD.out)
  obtain ⟨wq, HWX⟩ : ∃ x, Hid (w1.drewN 1 = x) := ⟨_, rfl⟩
  have HWYq := hid (show w1.drew = wq from HWX.out)
  rw [HWX.out] at HR2 HF2 HK2 HQ2
  rw [HWYq.out]
  clear hHeld HD
  refine wpAnyH_ready (rs := [4]) (by kernel_rfl) (by simp) ?_
  refine AllReadyH.cons rfl (fun K9 hK => ?_) AllReadyH.nil
  refine step_store_row (by rfl) 52 _ _ (by rfl) R SC (by rfl) (by rfl) 52 _ HR2.out HSZ.out HOL.out HON.out ?_
  intro w8 hw8
  have HK8 := hid (gb_blk HK2.out hw8.grown (by have := HBR.out; simp; omega))
  have HF8 := hid (gb_blk HF2.out hw8.grown (by have := HRF.out; simpa using this))
  have HQ8 := hid (Below.of_gb HQ2.out hw8.grown HLW.out.2.1)
  refine hK.out _ _ HK8.out (fun hHeld => ?_)
  clear hK K9
  try simp only [Act.put, List.getElem_toArray, List.getElem_cons_zero, List.getElem_cons_succ]
  refine wpAnyH_take (i := 5) (v := .slice none 0 0) rfl (by kernel_rfl) (by kernel_rfl) (by kernel_rfl) (fun _ _ _ h => h) (Or.inl ⟨by rfl, fun W _ => by go_simp⟩) hHeld ?_
  simp only [Act.put, List.getElem_toArray, List.getElem_cons_zero, List.getElem_cons_succ, List.setIfInBounds_toArray, List.set_cons_succ, List.set_cons_zero]
  refine wpAnyH_take (i := 6) (v := .int .i64 0) rfl (by kernel_rfl) (by kernel_rfl) (by kernel_rfl) (fun _ _ _ h => h) (Or.inl ⟨by rfl, fun W _ => by go_simp⟩) hHeld ?_
  simp only [Act.put, List.getElem_toArray, List.getElem_cons_zero, List.getElem_cons_succ, List.setIfInBounds_toArray, List.set_cons_succ, List.set_cons_zero]
  refine wpAnyH_ready (rs := [7]) (by kernel_rfl) (by simp) ?_
  refine AllReadyH.cons rfl (fun K9 hK => ?_) AllReadyH.nil
  refine step_store_row (by rfl) 30 _ _ (by rfl) F [Value.int .i64 80, .int .i64 (ca : Int)] (by rfl) (by rfl) 30 _ HF8.out faultSize rfl (fault_one _ _) ?_
  intro w9 hw9
  have HK9 := hid (gb_blk HK8.out hw9.grown (by have := HBR.out; simp; omega))
  have HRz := hid (gb_blk hw8.blk hw9.grown (by have := HRF.out; simp; omega))
  have HQ9 := hid (Below.of_gb HQ8.out hw9.grown HLW.out.2.2)
  refine hK.out _ _ HK9.out (fun hHeld => ?_)
  clear hK K9
  try simp only [Act.put, List.getElem_toArray, List.getElem_cons_zero, List.getElem_cons_succ]
  refine wpAnyH_done (by kernel_rfl) ?_ _
  simp only [noPanic]
  clear hHeld
  go_wp2
  refine ret_cttc 6 7 8 9 52 30 rfl R rfl F rfl SC 52 HRz.out _ Tryz.underlying52 rfl HSZ.out [Value.int .i64 80, .int .i64 (ca : Int)] 30 hw9.blk _ Tryz.underlying30 rfl faultSize (.slice none 0 0) rfl (.int .i64 0) rfl rfl ?_
  exact ⟨by rw [← HSC.out, ← HCA.out], HQ9.out⟩


set_option maxRecDepth 100000 in
set_option maxHeartbeats 4000000 in
theorem rfeed8_ex (s : Sx) (vr vs vp : Value) (us : List Value) (pss : List (List UInt8)) (w : World) (b2 M : Nat) (hz9 : OwnB w b2 vr s.r) (hi9 : OwnI w b2 vs s.szs) (h0 : s.why ≠ 0) (hp : Lsts w vp us pss) (hn : pss.length ≤ 140737488355327) (hbl : (fl pss).length ≤ 140737488355327) :
    Calls Tryz.prog 18 #[.agg (sxC M vr vs s).toArray, vp] w fun e w' => e = .returned (.tuple #[.agg (sxC M vr vs s).toArray, .slice none 0 0, .agg #[.int .i64 80, .int .i64 (s.came : Int)]]) ∧ Below w.heap.size w w' := by
  have hso : ∀ (W : World) (vb : Value), Below w.heap.size w W → Src W vb (fl pss) → Calls Tryz.prog 32 #[.agg (sxC M vr vs s).toArray, .int .i64 (-1), vb] W (fun e w' => e = .returned (.tuple #[.agg (sxC M vr vs s).toArray, .slice none 0 0, .int .i64 0, .agg #[.int .i64 80, .int .i64 (s.came : Int)]]) ∧ Below W.heap.size W w') := fun W vb hW _ => rsome8_ex s vr vs vb (-1) W b2 M (hz9.below hW) (own_below hi9 hW) h0
  have HONs := hid (sxC_one (M := M) (vr := vr) (vs := vs) (s := s) (by obtain ⟨a, c, e⟩ := hz9.shape; rw [e]; rfl) (by obtain ⟨a, c, e⟩ := hi9.shape; rw [e]; rfl))
  obtain ⟨t, HTe⟩ : ∃ t : Int, Hid ((s.came : Int) = t) := ⟨_, rfl⟩
  rw [HTe.out] at hso ⊢
  obtain ⟨y, HYe⟩ : ∃ t : Int, Hid ((80 : Int) = t) := ⟨_, rfl⟩
  rw [HYe.out] at hso ⊢
  clear hz9 hi9 h0
  have HP := hid hp
  have HSO := hid hso
  obtain ⟨ap, cp, rfl⟩ := hp.shape
  clear hp hso
  have HW1 := hid (show Below w.heap.size w (((w.alloc (.cells (sxC M vr vs s).toArray 52)).alloc (.cells #[.int .i64 0, .slice none 0 0, .int .i64 0, .int .i64 0, .int .i64 0, .int .i64 0, .slice none 0 0] 52)).alloc (.cells #[.int .i64 0, .int .i64 0] 30)) from (below_walk2 w _ _).alloc (by simp; omega) _)
  have HNN := hid (show (((w.alloc (.cells (sxC M vr vs s).toArray 52)).alloc (.cells #[.int .i64 0, .slice none 0 0, .int .i64 0, .int .i64 0, .int .i64 0, .int .i64 0, .slice none 0 0] 52)).alloc (.cells #[.int .i64 0, .int .i64 0] 30)).heap[w.heap.size]? = some (.cells (sxC M vr vs s).toArray 52 (0, 0)) ∧ (((w.alloc (.cells (sxC M vr vs s).toArray 52)).alloc (.cells #[.int .i64 0, .slice none 0 0, .int .i64 0, .int .i64 0, .int .i64 0, .int .i64 0, .slice none 0 0] 52)).alloc (.cells #[.int .i64 0, .int .i64 0] 30)).heap[w.heap.size + 1]? = some (.cells (sxC 0 (.slice none 0 0) (.slice none 0 0) zS).toArray 52 (0, 0)) ∧ (((w.alloc (.cells (sxC M vr vs s).toArray 52)).alloc (.cells #[.int .i64 0, .slice none 0 0, .int .i64 0, .int .i64 0, .int .i64 0, .int .i64 0, .slice none 0 0] 52)).alloc (.cells #[.int .i64 0, .int .i64 0] 30)).heap[w.heap.size + 2]? = some (.cells #[.int .i64 0, .int .i64 0] 30 (0, 0)) from hp_three w _ _ _)
  have HZ1 : Hid ((w.alloc (.cells (sxC M vr vs s).toArray 52)).heap.size = w.heap.size + 1) := hid (by simp)
  have HZ2 : Hid (((w.alloc (.cells (sxC M vr vs s).toArray 52)).alloc (.cells #[.int .i64 0, .slice none 0 0, .int .i64 0, .int .i64 0, .int .i64 0, .int .i64 0, .slice none 0 0] 52)).heap.size = w.heap.size + 2) := hid (by simp)
  go_enter Tryz.func18, Tryz.ntmps18
  go_upto_region 1 with (first
    | (refine bx_row (by rfl) 52 _ (by rfl) _ (by rfl) ?_)
    | (refine al_row (by rfl) 52 (by rfl) _ zeroStrm ?_)
    | (refine al_row (by rfl) 30 (by rfl) _ zeroFault ?_))
  try rw [HZ2.out]
  try rw [HZ1.out]
  obtain ⟨B, HBe⟩ : ∃ n, Hid (w.heap.size = n) := ⟨_, rfl⟩
  obtain ⟨R, HRe⟩ : ∃ n, Hid (B + 1 = n) := ⟨_, rfl⟩
  obtain ⟨F, HFe⟩ : ∃ n, Hid (B + 2 = n) := ⟨_, rfl⟩
  have HBR := hid (show R = B + 1 ∧ F = B + 2 from ⟨HRe.out.symm, HFe.out.symm⟩)
  have HRF := hid (show R ≠ F by have := HBR.out; omega)
  have HLW := hid (show w.heap.size ≤ B ∧ w.heap.size ≤ R ∧ w.heap.size ≤ F by have := HBe.out; have := HBR.out; omega)
  rw [HBe.out, HRe.out, HFe.out] at HNN ⊢
  generalize ((w.alloc (.cells (sxC M vr vs s).toArray 52)).alloc (.cells #[.int .i64 0, .slice none 0 0, .int .i64 0, .int .i64 0, .int .i64 0, .int .i64 0, .slice none 0 0] 52)).alloc (.cells #[.int .i64 0, .int .i64 0] 30) = w1 at HW1 HNN ⊢
  have HK1 := hid HNN.out.1
  have HR1 := hid HNN.out.2.1
  have HF1 := hid HNN.out.2.2
  clear HNN HZ1 HZ2
  have HSZ := hid (show (Tryz.prog.info? 52).map (·.size) = some (sxC M vr vs s).length from strmSize)
  obtain ⟨SC, HSC⟩ : ∃ l, Hid (sxC M vr vs s = l) := ⟨_, rfl⟩
  have HOLs := hid (show (sxC 0 (.slice none 0 0) (.slice none 0 0) zS).toArray.size = SC.length by rw [← HSC.out]; rfl)
  rw [HSC.out] at HSZ HK1 HSO HONs
  go_wp2
  go_loopw [7, 8] (fun vb vi wr => ∃ (k : Nat), k ≤ pss.length ∧ vi = .int .i64 k ∧ Hid (OwnB wr w.heap.size vb (fl (pss.take k))) ∧ Hid (wr.heap[B]? = some (.cells SC.toArray 52 (0, 0))) ∧ Hid (wr.heap[R]? = some (.cells (sxC 0 (.slice none 0 0) (.slice none 0 0) zS).toArray 52 (0, 0))) ∧ Hid (wr.heap[F]? = some (.cells #[.int .i64 0, .int .i64 0] 30 (0, 0))) ∧ Hid (Below w.heap.size w wr)) (fun _ vi _ => pss.length - (intOf vi).toNat)
  case atStart => exact ⟨0, by omega, rfl, World.ownsRow_nil _ _ _ _, HK1.out, HR1.out, HF1.out, HW1.out⟩
  case round =>
    obtain ⟨k, hk, rfl, HOB, HKr, HRr, HFr, HQ⟩ := hrel
    obtain ⟨ab, cb, eb⟩ := HOB.out.shape
    obtain ⟨L, HLe⟩ : ∃ n, Hid ((fl (pss.take k)).length = n) := ⟨_, rfl⟩
    rw [HLe.out] at eb
    subst eb
    by_cases hlt : k < pss.length
    · as_aux_lemma =>
        have hki : (k : Int) < (pss.length : Int) := by omega
        obtain ⟨g, o, rfl, hcl, hsr⟩ := (HP.out.below HQ.out).at k hlt
        obtain ⟨au, nu, cu, eu⟩ := src_named hsr
        rw [eu] at hcl hsr
        obtain ⟨X, HXk⟩ : ∃ X, Hid (pss.getD k [] = X) := ⟨_, rfl⟩
        rw [HXk.out] at hsr
        have HSR := hid hsr
        clear hsr
        have hwk : IntKind.i64.wrap ((k : Int) + 1) = (k : Int) + 1 := by rw [IntKind.wrap_i64]; omega
        have HLL := hid (show (fl (pss.take k)).length + (pss.getD k []).length ≤ 140737488355327 by
          have h1 : (fl (pss.take (k + 1))).length ≤ (fl pss).length := by
            have e : fl pss = fl (pss.take (k + 1)) ++ fl (pss.drop (k + 1)) := by unfold fl; rw [← List.flatten_append, List.take_append_drop]
            rw [e, List.length_append]; omega
          rw [fl_snoc pss k hlt, List.length_append] at h1
          omega)
        rw [HXk.out] at HLL
        have HZZ := hid HQ.out.size
        clear eu
        go_wp2_with (first | (at_builtin; refine app_bytes (by rfl) _ _ rfl w.heap.size _ _ rfl HOB.out _ _ rfl HSR.out HLL.out HZZ.out ?_))
        intro v2 w2 ho2 hg2 hp2
        rw [← HXk.out, ← fl_snoc pss k hlt] at ho2
        have HO2 := hid ho2
        have HK2 := hid (gb_blk HKr.out hg2 (own_block HOB.out HKr.out (by decide)))
        have HR2 := hid (gb_blk HRr.out hg2 (own_block HOB.out HRr.out (by decide)))
        have HF2 := hid (gb_blk HFr.out hg2 (own_block HOB.out HFr.out (by decide)))
        have HQ2 := hid (Below.of_gbo HQ.out hg2 (fun k e => (World.ownsRow.lt HOB.out k e).1))
        obtain ⟨a2, n2, c2, e2⟩ : ∃ a n c, v2 = .slice a n c := by obtain ⟨a, c, e⟩ := ho2.shape; exact ⟨_, _, _, e⟩
        subst e2
        clear ho2 hg2 hp2
        go_wp2
        exact ⟨⟨k + 1, hlt, by simp, HO2.out, HK2.out, HR2.out, HF2.out, HQ2.out⟩, by simp [intOf]; omega⟩
    · obtain rfl : k = pss.length := by omega
      as_aux_lemma =>
        have HOB2 := hid (show OwnB wr w.heap.size (.slice ab L cb) (fl pss) by have h := HOB.out; rw [fl_all] at h; exact h)
        have HCA := hid (HSO.out wr (.slice ab L cb) HQ.out (HOB2.out.src hbl))
        clear HSO HOB HOB2
        go_wp2_with (first | (refine ld_row (by rfl) 52 (.tmp 2) (by rfl) B (by rfl) SC 52 HKr.out _ Tryz.underlying52 rfl HSZ.out ?_))
        refine HCA.out.mono ?_
        rintro e w4 ⟨rfl, hb4⟩
        have HW4 := hid (show Below w4.heap.size w4 ((w4.alloc (.cells #[.int .i64 0, .slice none 0 0, .int .i64 0, .int .i64 0, .int .i64 0, .int .i64 0, .slice none 0 0] 52)).alloc (.cells #[.int .i64 0, .int .i64 0] 30)) from below_walk2 w4 _ _)
        have HN4 := hid (show ((w4.alloc (.cells #[.int .i64 0, .slice none 0 0, .int .i64 0, .int .i64 0, .int .i64 0, .int .i64 0, .slice none 0 0] 52)).alloc (.cells #[.int .i64 0, .int .i64 0] 30)).heap[w4.heap.size]? = some (.cells (sxC 0 (.slice none 0 0) (.slice none 0 0) zS).toArray 52 (0, 0)) ∧ ((w4.alloc (.cells #[.int .i64 0, .slice none 0 0, .int .i64 0, .int .i64 0, .int .i64 0, .int .i64 0, .slice none 0 0] 52)).alloc (.cells #[.int .i64 0, .int .i64 0] 30)).heap[w4.heap.size + 1]? = some (.cells #[.int .i64 0, .int .i64 0] 30 (0, 0)) from hp_two w4 _ _)
        have HZ4 : Hid ((w4.alloc (.cells #[.int .i64 0, .slice none 0 0, .int .i64 0, .int .i64 0, .int .i64 0, .int .i64 0, .slice none 0 0] 52)).heap.size = w4.heap.size + 1) := hid (by simp)
        have HR4 := hid (bel_keep HW4.out (bel_keep hb4 HRr.out))
        have HF4 := hid (bel_keep HW4.out (bel_keep hb4 HFr.out))
        have HRl := hid (show R < w4.heap.size ∧ F < w4.heap.size from ⟨hp_lt (bel_keep hb4 HRr.out), hp_lt (bel_keep hb4 HFr.out)⟩)
        have HQ4 := hid (below_then (below_then HQ.out hb4) HW4.out)
        have HQs := hid (below_then HQ.out hb4).size
        have HSZ4 := hid HSZ.out
        have HON4 := hid HONs.out
        have HOL4 := hid HOLs.out
        clear hb4 HCA
        obtain ⟨S4, HS4⟩ : ∃ l, Hid (SC = l) := ⟨_, rfl⟩
        rw [HS4.out] at HSZ4 HON4 HOL4 ⊢
        go_upto_region 7 with (first
          | (refine al_row (by rfl) 52 (by rfl) _ zeroStrm ?_)
          | (refine al_row (by rfl) 30 (by rfl) _ zeroFault ?_; rw [HZ4.out])
          | (refine st_row (by rfl) 52 _ _ (by rfl) w4.heap.size S4 (by rfl) (by rfl) 52 _ HN4.out.1 HSZ4.out HOL4.out HON4.out ?_; intro w5 hw5; have HD5 := hid (gb_blk HN4.out.2 hw5.grown (by simp)))
          | (refine st_row (by rfl) 30 _ _ (by rfl) (w4.heap.size + 1) [Value.int .i64 y, .int .i64 t] (by rfl) (by rfl) 30 _ HD5.out faultSize rfl (fault_one _ _) ?_; intro w6 hw6))
        obtain ⟨C, HCe⟩ : ∃ n, Hid (w4.heap.size = n) := ⟨_, rfl⟩
        obtain ⟨D, HDe⟩ : ∃ n, Hid (C + 1 = n) := ⟨_, rfl⟩
        rw [HCe.out] at hw5 hw6 HN4 HRl HQs ⊢
        rw [HCe.out] at HD5
        rw [HDe.out] at hw6 HN4 HD5 ⊢
        have HCD := hid (show D = C + 1 from HDe.out.symm)
        have HC6 := hid (gb_blk hw5.blk hw6.grown (by have := HCD.out; simp; omega))
        have HD6 := hid hw6.blk
        have HR6 := hid (gb_blk (gb_blk HR4.out hw5.grown (by have := HRl.out; simp; omega)) hw6.grown (by have := HRl.out; have := HCD.out; simp; omega))
        have HF6 := hid (gb_blk (gb_blk HF4.out hw5.grown (by have := HRl.out; simp; omega)) hw6.grown (by have := HRl.out; have := HCD.out; simp; omega))
        have HQ6 := hid (Below.of_gb (Below.of_gb HQ4.out hw5.grown HQs.out) hw6.grown (by have := HQs.out; have := HCD.out; omega))
        have HRC := hid (show R ≠ C ∧ R ≠ D ∧ F ≠ C ∧ F ≠ D by have := HRl.out; have := HCD.out; omega)
        clear hw5 hw6 HN4 HR4 HF4 HQ4 HD5 HW4 HZ4
        refine wp_noPanic (wp_region_held_drew (S := fun W => W.heap[C]? = some (.cells S4.toArray 52 (0, 0)) ∧ W.heap[D]? = some (.cells [Value.int .i64 y, .int .i64 t].toArray 30 (0, 0))) (by kernel_rfl) ⟨HC6.out, HD6.out⟩ ?_)
        intro hHeld
        refine wpAnyH_take (i := 0) (v := .agg S4.toArray) rfl (by kernel_rfl) (by kernel_rfl) (by kernel_rfl) (fun _ _ _ h => h) (yieldsIf_load_mid (by rfl) 52 (.tmp 9) rfl C 0 rfl S4 _ (fun W hW => range_row hW.1) Tryz.underlying52 rfl HSZ4.out) hHeld ?_
        simp only [Act.put, List.getElem_toArray, List.getElem_cons_zero, List.setIfInBounds_toArray, List.set_cons_succ, List.set_cons_zero]
        refine wpAnyH_take (i := 1) (v := .slice none 0 0) rfl (by kernel_rfl) (by kernel_rfl) (by kernel_rfl) (fun _ _ _ h => h) (Or.inl ⟨by rfl, fun W _ => by go_simp⟩) hHeld ?_
        simp only [Act.put, List.getElem_toArray, List.getElem_cons_zero, List.getElem_cons_succ, List.setIfInBounds_toArray, List.set_cons_succ, List.set_cons_zero]
        refine wpAnyH_take (i := 2) (v := .agg [Value.int .i64 y, .int .i64 t].toArray) rfl (by kernel_rfl) (by kernel_rfl) (by kernel_rfl) (fun _ _ _ h => h) (yieldsIf_load_mid (by rfl) 30 (.tmp 12) rfl D 0 rfl [Value.int .i64 y, .int .i64 t] _ (fun W hW => range_row hW.2) Tryz.underlying30 rfl faultSize) hHeld ?_
        simp only [Act.put, List.getElem_toArray, List.getElem_cons_zero, List.getElem_cons_succ, List.setIfInBounds_toArray, List.set_cons_succ, List.set_cons_zero]
        have HD := hid (bel_drw w6 1)
        have HR7 := hid (bel_keep HD.out HR6.out)
        have HF7 := hid (bel_keep HD.out HF6.out)
        have HC7 := hid (bel_keep HD.out HC6.out)
        have HD7 := hid (bel_keep HD.out HD6.out)
        have HQ7 := hid (below_then HQ6.out HD.out)
        obtain ⟨wq, HWX⟩ : ∃ x, Hid (w6.drewN 1 = x) := ⟨_, rfl⟩
        have HWYq := hid (show w6.drew = wq from HWX.out)
        rw [HWX.out] at HR7 HF7 HC7 HD7 HQ7
        rw [HWYq.out]
        clear hHeld HD
        refine wpAnyH_ready (rs := [3]) (by kernel_rfl) (by simp) ?_
        refine AllReadyH.cons rfl (fun K9 hK => ?_) AllReadyH.nil
        refine step_store_row (by rfl) 52 _ _ (by rfl) R S4 (by rfl) (by rfl) 52 _ HR7.out HSZ4.out HOL4.out HON4.out ?_
        intro w8 hw8
        have HC8 := hid (gb_blk HC7.out hw8.grown (by have := HRC.out; simp; omega))
        have HD8 := hid (gb_blk HD7.out hw8.grown (by have := HRC.out; simp; omega))
        have HF8 := hid (gb_blk HF7.out hw8.grown (by have := HRF.out; simpa using this))
        have HQ8 := hid (Below.of_gb HQ7.out hw8.grown HLW.out.2.1)
        refine hK.out _ _ ⟨HC8.out, HD8.out⟩ (fun hHeld => ?_)
        clear hK K9
        try simp only [Act.put, List.getElem_toArray, List.getElem_cons_zero, List.getElem_cons_succ]
        refine wpAnyH_take (i := 4) (v := .slice none 0 0) rfl (by kernel_rfl) (by kernel_rfl) (by kernel_rfl) (fun _ _ _ h => h) (Or.inl ⟨by rfl, fun W _ => by go_simp⟩) hHeld ?_
        simp only [Act.put, List.getElem_toArray, List.getElem_cons_zero, List.getElem_cons_succ, List.setIfInBounds_toArray, List.set_cons_succ, List.set_cons_zero]
        refine wpAnyH_ready (rs := [5]) (by kernel_rfl) (by simp) ?_
        refine AllReadyH.cons rfl (fun K9 hK => ?_) AllReadyH.nil
        refine step_store_row (by rfl) 30 _ _ (by rfl) F [Value.int .i64 y, .int .i64 t] (by rfl) (by rfl) 30 _ HF8.out faultSize rfl (fault_one _ _) ?_
        intro w9 hw9
        have HC9 := hid (gb_blk HC8.out hw9.grown (by have := HRC.out; simp; omega))
        have HD9 := hid (gb_blk HD8.out hw9.grown (by have := HRC.out; simp; omega))
        have HRz := hid (gb_blk hw8.blk hw9.grown (by have := HRF.out; simp; omega))
        have HQ9 := hid (Below.of_gb HQ8.out hw9.grown HLW.out.2.2)
        refine hK.out _ _ ⟨HC9.out, HD9.out⟩ (fun hHeld => ?_)
        clear hK K9
        try simp only [Act.put, List.getElem_toArray, List.getElem_cons_zero, List.getElem_cons_succ]
        refine wpAnyH_done (by kernel_rfl) ?_ _
        simp only [noPanic]
        clear hHeld
        go_wp2
        refine ret_ctc 4 5 6 52 30 rfl R rfl F rfl S4 52 HRz.out _ Tryz.underlying52 rfl HSZ4.out [Value.int .i64 y, .int .i64 t] 30 hw9.blk _ Tryz.underlying30 rfl faultSize (.slice none 0 0) rfl rfl ?_
        exact ⟨by rw [← HS4.out, ← HSC.out], HQ9.out⟩

/-- what Feed of the program answers, in both cases -/
def PFd (w : World) (b : Nat) (v : Value) (M : Nat) (a : Ra) (y t : Int) (e : Ending) (w' : World) : Prop :=
  ∃ vl v' fs, e = .returned (.tuple #[vl, .agg #[.int .i64 y, .int .i64 t]]) ∧ OFs w' w.heap.size vl fs ∧ Sd w' b b v' M a.1 ∧ Gd w w' b v v' ∧ fs.map (·.1) = a.2.1
/-- what Feed of the document answers, in both cases: bytes and numbers of its own that are new, or the very ones that it was handed -/
def RFe (w : World) (lo : Nat) (vr vs : Value) (M : Nat) (a : Ra) (y t : Int) (e : Ending) (w' : World) : Prop :=
  ∃ vr' vs' vl fs, e = .returned (.tuple #[.agg (sxC M vr' vs' a.1).toArray, vl, .agg #[.int .i64 y, .int .i64 t]]) ∧ OwnB w' lo vr' a.1.r ∧ OwnI w' lo vs' a.1.szs ∧ ((vr' = vr ∧ vs' = vs) ∨ ∀ k, vr'.ownBlock = some k → w.heap.size ≤ k) ∧ OFs w' w.heap.size vl fs ∧ fs.map (·.1) = a.2.1 ∧ Below w.heap.size w w'
theorem run_szl {M : Nat} {q : Nat → Bool} : ∀ (X : List UInt8) (a : Ra), (runP M q a X).1.szs.length ≤ a.1.szs.length + X.length
  | [], _ => Nat.le_refl _
  | c :: X, a => by
    rw [runP_cons]
    have ih := run_szl (M := M) (q := q) X (stepQ M q a c)
    have : (stepQ M q a c).1.szs.length ≤ a.1.szs.length + 1 := by
      unfold stepQ
      split
      · omega
      · show (takeC M a.1 [c]).1.szs.length ≤ _
        unfold takeC
        repeat' split
        all_goals first | (show a.1.szs.length ≤ _; omega) | (show (a.1.szs ++ [_]).length ≤ _; rw [List.length_append]; simp)
    simp only [List.length_cons]
    omega
theorem stopN : stopQ (-1) = nev := by
  funext j
  show decide (0 ≤ (-1 : Int) ∧ (-1 : Int) ≤ (j : Int)) = false
  exact decide_eq_false (fun h => by omega)
theorem feed_both (w : World) (b lo : Nat) (vd vr vs : Value) (s : Sx) (P : List UInt8) (h : Sd w b b vd 2097152 s) (ho : OwnB w lo vr s.r) (hz : OwnI w lo vs s.szs) (hlo : lo ≤ w.heap.size) (hP : P.length ≤ 1048576) (hc : s.came ≤ 3000000) (hs : s.szs.length ≤ 3000000) :
    ∃ (a : Ra) (y t : Int), a.1.came ≤ s.came + P.length ∧ a.1.szs.length ≤ s.szs.length + P.length ∧ a.2.1.length ≤ P.length ∧
      (∀ W vp us, Below w.heap.size w W → Lsts W vp us [P] → Calls Tryz.prog 18 #[.agg (sxC 2097152 vr vs s).toArray, vp] W (RFe W lo vr vs 2097152 a y t)) ∧
      (∀ W vp us, Sd W b b vd 2097152 s → (∀ W' vd', Gd W W' b vd vd' → Lsts W' vp us [P]) → Calls Tryz.prog 7 #[.pointer (some ⟨b, 0, none⟩), vp] W (PFd W b vd 2097152 a y t)) := by
  have hf : fl [P] = P := by simp [fl]
  by_cases h0 : s.why = 0
  · refine ⟨runP 2097152 nev (s, [], 0) P, (runP 2097152 nev (s, [], 0) P).1.why, (runP 2097152 nev (s, [], 0) P).1.wat, ?_, run_szl P (s, [], 0), ?_, fun W vp us hW hp => ?_, fun W vp us hsd hp => ?_⟩
    · have h1 := run_came (M := 2097152) (q := nev) P (s, [], 0)
      have h2 := run_took (M := 2097152) (q := nev) P (s, [], 0)
      have h3 : (s, ([] : List Fr), 0).2.2 = 0 := rfl
      have h4 : (s, ([] : List Fr), 0).1.came = s.came := rfl
      omega
    · have := run_few (M := 2097152) (q := nev) P (s, [], 0)
      simpa using this
    · have h5 := rfeed8_of s vr vs vp us [P] W W.heap.size 2097152 (runP 2097152 nev (s, [], 0) P) (runP 2097152 nev (s, [], 0) P).1.why (runP 2097152 nev (s, [], 0) P).1.wat hp (by simp) (by rw [hf]; omega) (fun W2 vb hW2 hb => by
        have h6 := rsome8_any s vr vs vb (-1) (fl [P]) W2 lo 2097152 (Nat.le_refl _) h.good ((ho.below hW).below hW2) (own_below (own_below hz hW) hW2) hb h0 (by rw [hf]; omega) (by rw [hf]; omega)
        rw [stopN, hf] at h6
        refine h6.mono fun e w' h9 => ?_
        obtain ⟨vr', vs', vl, fs, g1, g2, g3, g4, g5, g6⟩ := h9
        have := hW2.size
        exact ⟨vr', vs', vl, fs, g1, own_le g2 (by omega), own_le g3 (by omega), g4, g5, g6⟩) (Nat.le_refl _)
      refine h5.mono fun e w' h9 => ?_
      obtain ⟨vr', vs', vl, fs, g1, g2, g3, g4, g5, g6⟩ := h9
      have hl2 : lo ≤ W.heap.size := Nat.le_trans hlo hW.size
      exact ⟨vr', vs', vl, fs, g1, own_le g2 hl2, own_le g3 hl2, Or.inr (fun k e => (World.ownsRow.lt g2 k e).1), g4, g5, g6⟩
    · have h5 := kfeed_any hsd h0 vp us [P] hp (by simp) (by rw [hf]; omega) (by rw [hf]; omega)
      rw [hf] at h5
      exact h5
  · refine ⟨(s, [], 0), 80, (s.came : Int), Nat.le_add_right _ _, Nat.le_add_right _ _, Nat.zero_le _, fun W vp us hW hp => ?_, fun W vp us hsd hp => ?_⟩
    · refine (rfeed8_ex s vr vs vp us [P] W lo 2097152 (ho.below hW) (own_below hz hW) h0 hp (by simp) (by rw [hf]; omega)).mono fun e w' h9 => ?_
      exact ⟨vr, vs, _, [], h9.1, (ho.below hW).below h9.2, own_below (own_below hz hW) h9.2, Or.inl ⟨rfl, rfl⟩, OFs.nil _ _, rfl, h9.2⟩
    · refine (kfeed_bad hsd h0 vp).mono fun e w' h9 => ?_
      exact ⟨_, vd, [], h9.1, OFs.nil _ _, hsd.below h9.2, (Gd.refl W b vd).below h9.2, rfl⟩
end Go.Proofs.YtiibhccbbpgehabGreat
