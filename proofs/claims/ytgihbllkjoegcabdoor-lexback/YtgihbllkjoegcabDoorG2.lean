/- Contracts and pure facts that the proof needs, joined. -/
import Derived.Test.YtgihbllkjoegcabDoorG1
import Derived.BigRegion
import Derived.Lib.LaidU8
import Derived.Lib.LaidTab

/- Slices of tokens: of one's own; appended. -/
namespace Go.Proofs.YtgihbllkjoegcabDoor
open Go.RowKit

theorem Tryd.infoTok3 : (Tryd.prog.info? 34).map (fun i => (i.zero, i.size, i.bytes)) = some (some (.agg #[.int .i64 0, .int .i64 0, .int .i64 0]), 3, 24) := by kernel_rfl

/-- tokens as cells -/
def tv (L : List (Nat × Nat × Nat)) : List Value := L.flatMap tkC
theorem tv_app (A B : List (Nat × Nat × Nat)) : tv (A ++ B) = tv A ++ tv B := by simp [tv]
theorem tv_cons (x : Nat × Nat × Nat) (B : List (Nat × Nat × Nat)) : tv (x :: B) = .int .i64 x.1 :: .int .i64 x.2.1 :: .int .i64 x.2.2 :: tv B := rfl
theorem tv_len (L : List (Nat × Nat × Nat)) : (tv L).length = L.length * 3 := by
  induction L with
  | nil => rfl
  | cons x r ih => rw [tv_cons]; simp [ih]; omega
theorem tv_one (L : List (Nat × Nat × Nat)) : ∀ u ∈ tv L, u.oneCell' = true := by
  intro u hu
  simp only [tv, List.mem_flatMap] at hu
  obtain ⟨x, _, hu⟩ := hu
  exact tkC_one x u hu
theorem tv_get (L : List (Nat × Nat × Nat)) : ∀ (j : Nat), j < L.length → (tv L)[3 * j]? = some (.int .i64 (L.getD j (0, 0, 0)).1) ∧ (tv L)[3 * j + 1]? = some (.int .i64 (L.getD j (0, 0, 0)).2.1) ∧ (tv L)[3 * j + 2]? = some (.int .i64 (L.getD j (0, 0, 0)).2.2) := by
  induction L with
  | nil => intro j hj; simp at hj
  | cons x r ih =>
    intro j hj
    cases j with
    | zero => simp [tv_cons]
    | succ j =>
      have := ih j (by simpa using hj)
      rw [tv_cons, show 3 * (j + 1) = 3 * j + 1 + 1 + 1 by omega]
      simpa using this

def OwnT (w : World) (base : Nat) (v : Value) (L : List (Nat × Nat × Nat)) : Prop := w.ownsRow base 34 3 v L.length (tv L)
theorem OwnT.nil (w : World) (base : Nat) : OwnT w base (.slice none 0 0) [] := World.ownsRow_nil _ _ _ _
theorem OwnT.kept {w w' : World} {base : Nat} {v : Value} {L : List (Nat × Nat × Nat)} {row : Option Nat} (h : OwnT w base v L) (hg : w.grownBy w' row) (hne : v.ownBlock = none ∨ v.ownBlock ≠ row) : OwnT w' base v L := World.ownsRow.kept h hg hne
theorem OwnT.below {w w' : World} {base : Nat} {v : Value} {L : List (Nat × Nat × Nat)} (h : OwnT w base v L) (hb : Below w.heap.size w w') : OwnT w' base v L :=
  World.ownsRow.kept h (below_gb hb none) (by cases e : v.ownBlock <;> simp)
theorem OwnT.lt {w : World} {base : Nat} {v : Value} {L : List (Nat × Nat × Nat)} (h : OwnT w base v L) : ∀ k, v.ownBlock = some k → base ≤ k ∧ k < w.heap.size := World.ownsRow.lt h
theorem OwnT.shape {w : World} {base : Nat} {v : Value} {L : List (Nat × Nat × Nat)} (h : OwnT w base v L) : ∃ a cap, v = .slice a L.length cap := by
  rcases h.2 with ⟨rfl, h0⟩ | ⟨g, cap, cur, rfl, _⟩
  · exact ⟨none, 0, by rw [h0]⟩
  · exact ⟨_, _, rfl⟩
theorem OwnT.le {w : World} {base base' : Nat} {v : Value} {L : List (Nat × Nat × Nat)} (h : OwnT w base v L) (hb : base' ≤ base) : OwnT w base' v L :=
  ⟨h.1, h.2.elim Or.inl (fun ⟨g, cap, cur, hv, hg, r⟩ => Or.inr ⟨g, cap, cur, hv, Nat.le_trans hb hg, r⟩)⟩
/-- a token of a row -/
theorem OwnT.at {w : World} {base : Nat} {ao : Option Addr} {n c : Nat} {L : List (Nat × Nat × Nat)} (h : OwnT w base (.slice ao n c) L) (k : Nat) (hk : k < L.length) :
    ∃ g, ao = some ⟨g, 0, none⟩ ∧ ∀ j v, (tkC (L.getD k (0, 0, 0)))[j]? = some v → w.cell? ⟨g, k * 3 + j, none⟩ = some v := by
  have hh := h
  rcases h.2 with ⟨h0, h1⟩ | ⟨g, cap, cur, hv, hb, hk2, h1, _⟩
  · omega
  · injection hv with e1 e2 e3
    refine ⟨g, e1, fun j v hj => ?_⟩
    have hj3 : j < 3 := by
      rcases Nat.lt_or_ge j 3 with h | h
      · exact h
      · rw [List.getElem?_eq_none (by simpa [tkC] using h)] at hj; cases hj
    have ht := tv_get L k hk
    have hget : (tv L)[3 * k + j]? = some v := by
      match j, hj3 with
      | 0, _ => rw [Nat.add_zero, ht.1]; exact hj
      | 1, _ => rw [ht.2.1]; exact hj
      | 2, _ => rw [ht.2.2]; exact hj
    have := World.ownsRow.cells hh (g := g) (by rw [e1]; rfl) _ _ hget
    rw [addr_add, Nat.mul_comm] at this
    exact this

/-- append(own, one token) -/
theorem app_tok {w : World} {ops : Array Oper} {rest : List Oper} {o : Oper} {a : Act} {Q : Exit → Act → World → Prop} (hgd : o.guard = none) (s x : Operand)
    (ho : o.op = .call { callee := .builtin .append, args := #[s, x], argTypes := #[25, 25] })
    (base : Nat) (v : Value) (L : List (Nat × Nat × Nat)) (hs : a.eval s = v) (hown : OwnT w base v L) (g c : Nat) (M : List (Nat × Nat × Nat)) (hx : a.eval x = .slice (some ⟨g, 0, none⟩) M.length c)
    (hsrc : ∀ j u, (tv M)[j]? = some u → w.cell? ⟨g, j, none⟩ = some u) (hlen : L.length + M.length ≤ 1000000000000) (hbase : base ≤ w.heap.size)
    (h : ∀ v' w', OwnT w' base v' (L ++ M) → w.grownBy w' v.ownBlock → wpList Tryd.prog ops Q rest (a.put o.dst v') w') : wpList Tryd.prog ops Q (o :: rest) a w := by
  refine wpList_plain hgd fun K hK => ?_
  obtain ⟨i0, hi, hz0, hz1, hz2⟩ := info_parts Tryd.infoTok3
  obtain ⟨v', w', hr, h1, h2, _⟩ := run_append_own (P := Tryd.prog) w base 25 o.type 34 i0 (.agg #[.int .i64 0, .int .i64 0, .int .i64 0]) 3 24 Tryd.underlying25 hi hz0 hz1 hz2 rfl (by decide) v L.length (tv L) hown ⟨g, 0, none⟩ M.length c (tv M) (tv_len M) (fun j u hj => by rw [addr_add]; exact hsrc j u hj) (tv_one M) (by unfold maxLen; omega) (by omega) hbase
  unfold Oper.wp
  simp [execOp, ho, resolve, invoke, builtin, hs, hx, hr, Result.andThen]
  refine hK _ _ (h v' w' ?_ h2)
  unfold OwnT
  rw [tv_app, List.length_append]
  exact h1

end Go.Proofs.YtgihbllkjoegcabDoor

/- The program's All. -/
namespace Go.Proofs.YtgihbllkjoegcabDoor
open Go.RowKit

theorem results_tc {fn : Func} {p q : Tmp} {ty : TypeId} (h : fn.results = #[.tmp p, .cell q ty]) (tmps : Array Value) (P : Program) (w : World) :
    (results fn tmps).run P w = ((asAddr (tmps.getD q undef)).run P w).andThen fun a w₁ => ((loadVar ty a).run P w₁).andThen fun v w₂ => .ok (.tuple #[tmps.getD p undef, v]) w₂ := by
  simp only [results, h]
  simp [Sem.run_bind, Result.andThen]
theorem ret_tc {P : Program} {fn : Func} {R : Ending → World → Prop} {a : Act} {w : World} (p q : Tmp) (ty : TypeId) (h : fn.results = #[.tmp p, .cell q ty]) (v : Value) (hv : a.tmps.getD p undef = v) (g : Nat) (hp : a.tmps.getD q undef = .pointer (some ⟨g, 0, none⟩))
    (cs : List Value) (t : TypeId) (hb : w.heap[g]? = some (.cells cs.toArray t (0, 0))) (d : TypeDesc) (hu : P.underlying ty = some d) (hd : d.isRow = true) (hi : (P.info? ty).map (·.size) = some cs.length)
    (hdf : a.defers = []) (hR : R (.returned (.tuple #[v, .agg cs.toArray])) w) : bodyPost P fn R .ret a w := by
  refine bodyPost_ret (v := .tuple #[v, .agg cs.toArray]) ?_ hdf hR
  rw [results_tc h, hp, hv]
  have := run_loadVar_mid (P := P) w g 0 ty cs d (fun j v hv => by rw [Nat.zero_add, cell_of_row w g j cs.toArray t (0, 0) hb]; simpa using hv) hu hd hi
  simp [asAddr, this]

/-- a token into a variable that was made last -/
theorem st_tok {w : World} {ops : Array Oper} {rest : List Oper} {o : Oper} {a : Act} {Q : Exit → Act → World → Prop} (hgd : o.guard = none) (x y : Operand) (ho : o.op = .store 34 x y)
    (t : Nat × Nat × Nat) (hx : a.eval x = .pointer (some ⟨w.heap.size, 0, none⟩)) (hy : a.eval y = .agg #[.int .i64 t.1, .int .i64 t.2.1, .int .i64 t.2.2])
    (old : Array Value) (hold : old.size = 3)
    (h : ∀ wz, wz.heap.size = w.heap.size + 1 → wz.heap[w.heap.size]? = some (.cells #[.int .i64 t.1, .int .i64 t.2.1, .int .i64 t.2.2] 34 (0, 0)) → Below w.heap.size w wz → wpList Tryd.prog ops Q rest (a.put o.dst undef) wz) :
    wpList Tryd.prog ops Q (o :: rest) a (w.alloc (.cells old 34)) :=
  st_new hgd 34 x y ho (tkC t) hx hy 34 old Tryd.infoTok hold (tkC_one t) (h _ (hp_size _ _) (hp_new _ _) (below_walk _ _))

theorem nx_view {l : List UInt8} {a : Nat} (ha : a ≤ l.length) :
    (65536 < l.length ∧ nxP l (a : Int) = ((0, 0, 0), 3)) ∨ (l.length ≤ 65536 ∧ ((frP l a = l.length ∧ tkP l a = (0, 0, 0) ∧ nxP l (a : Int) = ((0, frP l a, frP l a), 0)) ∨ (∃ e : Int, 120 ≤ e ∧ e ≤ 123 ∧ frP l a < l.length ∧ tkP l a = (0, 0, e) ∧ nxP l (a : Int) = ((0, frP l a, 0), e)) ∨
      ∃ k n : Nat, tkP l a = (k, n, 0) ∧ 1 ≤ k ∧ k ≤ 5 ∧ 1 ≤ n ∧ frP l a + n ≤ l.length ∧ nxP l (a : Int) = ((k, frP l a, frP l a + n), 0))) := by
  by_cases hl : 65536 < l.length
  · refine Or.inl ⟨hl, ?_⟩
    have : plN l (a : Int) = 3 := by unfold plN; rw [if_pos hl]
    unfold nxP
    rw [this, if_pos (by decide)]
  · refine Or.inr ⟨by omega, ?_⟩
    have hp : plN l (a : Int) = 0 := by unfold plN; rw [if_neg hl, if_neg (by omega)]
    have e0 : nxP l (a : Int) = if (tkP l a).2.2 ≠ 0 then ((0, frP l a, 0), (tkP l a).2.2) else (((tkP l a).1, frP l a, frP l a + (tkP l a).2.1), 0) := by
      unfold nxP
      rw [hp, if_neg (by simp)]
      simp only [Int.toNat_natCast]
    rcases tk_view ha with ⟨v1, v2⟩ | ⟨v1, e, v2, v3, v4⟩ | ⟨kk, n, v1, v2, v3, v4, v5⟩
    · refine Or.inl ⟨v1, v2, ?_⟩
      rw [e0, v2]; simp
    · refine Or.inr (Or.inl ⟨e, v2, v3, v1, v4, ?_⟩)
      rw [e0, v4, if_pos (by simp; omega)]
    · refine Or.inr (Or.inr ⟨kk, n, v1, v2, v3, v4, v5, ?_⟩)
      rw [e0, v1, if_neg (by simp)]

theorem src_tok (wz : World) (t : Nat × Nat × Nat) : ∀ j u, (tv [t])[j]? = some u → (wz.alloc (.cells #[.int .i64 t.1, .int .i64 t.2.1, .int .i64 t.2.2] 34)).cell? ⟨wz.heap.size, j, none⟩ = some u := by
  intro j u hj
  rw [cell_of_row _ _ _ _ _ _ (hp_new _ _)]
  rw [show tv [t] = [.int .i64 t.1, .int .i64 t.2.1, .int .i64 t.2.2] from rfl] at hj
  simpa using hj

/-- what All answers: the tokens, why, where -/
def alP (l : List UInt8) : List (Nat × Nat × Nat) × Int × Nat := if 65536 < l.length then ([], 3, 0) else if (allP l 0).2.1 = 0 then ((allP l 0).1, 0, 0) else ([], (allP l 0).2)
/-- tokens so far -/
def Lt (l : List UInt8) (a : Nat) (ts : List (Nat × Nat × Nat)) : Prop := a ≤ l.length ∧ ts.length ≤ a ∧ allP l 0 = (ts ++ (allP l a).1, (allP l a).2)
theorem Lt.zero (l : List UInt8) : Lt l 0 [] := ⟨Nat.zero_le _, Nat.le_refl _, rfl⟩
theorem Lt.more {l : List UInt8} {a k n : Nat} {ts : List (Nat × Nat × Nat)} (h : Lt l a ts) (ht : tkP l a = (k, n, 0)) (hk : k ≠ 0) : Lt l (frP l a + n) (ts ++ [(k, frP l a, frP l a + n)]) := by
  have hs := tok_size ht hk
  rw [List.length_drop] at hs
  have hf := frP_le h.1
  refine ⟨by omega, by rw [List.length_append]; have := h.2.1; simp; omega, ?_⟩
  rw [h.2.2, all_step ht hk h.1]
  simp
theorem Lt.bad {l : List UInt8} {a k n : Nat} {e : Int} {ts : List (Nat × Nat × Nat)} (h : Lt l a ts) (hl : l.length ≤ 65536) (ht : tkP l a = (k, n, e)) (he : e ≠ 0) : alP l = ([], e, frP l a) := by
  unfold alP
  rw [if_neg (by omega), h.2.2, all_bad ht he, if_neg he]
theorem Lt.last {l : List UInt8} {a n : Nat} {ts : List (Nat × Nat × Nat)} (h : Lt l a ts) (hl : l.length ≤ 65536) (ht : tkP l a = (0, n, 0)) : alP l = (ts ++ [(0, frP l a, frP l a)], 0, 0) := by
  unfold alP
  rw [if_neg (by omega), h.2.2, all_end ht, if_pos rfl]

set_option maxHeartbeats 4000000 in
theorem all_any (l : List UInt8) (hl : l.length ≤ 140737488355328) (w : World) (hT : Tabs w) :
    Calls Tryd.prog 9 #[.string (mk l)] w fun e w' => ∃ v, e = .returned (.tuple #[v, .agg #[.int .i64 (alP l).2.1, .int .i64 ((alP l).2.2 : Nat)]]) ∧ OwnT w' w.heap.size v (alP l).1 ∧ Below w.heap.size w w' := by
  have H0 := hid (Lt.zero l)
  have HT := hid hT
  clear hT
  go_enter Tryd.func9, Tryd.ntmps9
  go_wp2
  go_loopw [4, 5] (fun v i wr => ∃ (a : Nat) (ts : List (Nat × Nat × Nat)), i = .int .i64 a ∧ Lt l a ts ∧ OwnT wr (w.heap.size + 1) v ts ∧ Below (w.heap.size + 1) (w.alloc (.cells #[.int .i64 0, .int .i64 0] 28)) wr) (fun _ i _ => l.length - (intOf i).toNat)
  case atStart => exact ⟨0, [], rfl, H0.out, OwnT.nil _ _, Below.refl _ _⟩
  case round =>
    obtain ⟨a, ts, rfl, HL, HO, HB⟩ := hrel
    have HL : Hid (Lt l a ts) := HL
    have HO : Hid (OwnT wr (w.heap.size + 1) _ ts) := HO
    have HB : Hid (Below (w.heap.size + 1) (w.alloc (.cells #[.int .i64 0, .int .i64 0] 28)) wr) := HB
    have hsz : w.heap.size + 1 ≤ wr.heap.size := by have := HB.out.size; rw [hp_size] at this; exact this
    have HB0 : Hid (Below w.heap.size w wr) := ((below_walk w _).trans (HB.out.mono (by omega)))
    have hblk : wr.heap[w.heap.size]? = some (.cells #[.int .i64 0, .int .i64 0] 28 (0, 0)) := by
      rw [HB.out.block _ (by omega)]; exact hp_new _ _
    have HBK := hid hblk
    have HN := hid (next_any l hl (a : Int) wr (HT.out.below HB0.out))
    clear hblk
    obtain ⟨sa, sc, rfl⟩ := HO.out.shape
    have key : (∃ (e : Int) (f : Nat), e ≠ 0 ∧ nxP l (a : Int) = ((0, f, 0), e) ∧ alP l = ([], e, f)) ∨ (∃ f : Nat, l.length ≤ 65536 ∧ nxP l (a : Int) = ((0, f, f), 0) ∧ alP l = (ts ++ [(0, f, f)], 0, 0)) ∨
        (∃ k f n : Nat, l.length ≤ 65536 ∧ k ≠ 0 ∧ a < f + n ∧ f + n ≤ l.length ∧ nxP l (a : Int) = ((k, f, f + n), 0) ∧ Lt l (f + n) (ts ++ [(k, f, f + n)])) := by
      rcases nx_view HL.out.1 with ⟨v1, v2⟩ | ⟨v0, ⟨v1, v2, v3⟩ | ⟨e, v1, v2, v3, v4, v5⟩ | ⟨k, n, v1, v2, v3, v4, v5, v6⟩⟩
      · exact Or.inl ⟨3, 0, by decide, v2, by unfold alP; rw [if_pos v1]⟩
      · exact Or.inr (Or.inl ⟨_, v0, v3, HL.out.last v0 v2⟩)
      · exact Or.inl ⟨e, _, by omega, v5, HL.out.bad v0 v4 (by omega)⟩
      · exact Or.inr (Or.inr ⟨k, _, n, v0, by omega, by have := (frP_le HL.out.1).1; omega, v5, v6, HL.out.more v1 (by omega)⟩)
    rcases key with ⟨e, f, he, v5, hfin⟩ | ⟨f, v0, v5, hfin⟩ | ⟨k, f, n, v0, hk, hkn, hkl, v5, hfin⟩
    · have FIN := hid hfin
      rw [v5] at HN
      have he0 : ¬ e = 0 := he
      clear v5 he hfin
      have HN : Hid (Calls Tryd.prog 12 #[.string (mk l), .int .i64 (a : Int)] wr fun e1 w' => e1 = .returned (.tuple #[.agg #[.int .i64 0, .int .i64 (f : Int), .int .i64 0], .int .i64 e]) ∧ Below wr.heap.size wr w') := HN
      go_wp2_with first
        | (go_at_call 12; refine HN.out.mono ?_; rintro e1 w2 ⟨rfl, HB2⟩)
        | (refine st_tok (by rfl) (.tmp 6) (.tmp 12) (by rfl) (0, f, 0) (by rfl) (by rfl) _ (by rfl) ?_; intro wz hz1 hz2 hz3)
      have HBZ : Hid (wz.heap[w.heap.size]? = some (.cells #[.int .i64 0, .int .i64 0] 28 (0, 0))) := by
        show wz.heap[w.heap.size]? = _
        have e2 := HB2.size
        rw [hz3.block _ (by omega), HB2.block _ (by omega)]; exact HBK.out
      have c1 : wz.cell? ⟨w2.heap.size, 1, none⟩ = some (.int .i64 (f : Int)) := by rw [cell_of_row _ _ _ _ _ _ hz2]; rfl
      have d0 : wz.cell? ⟨w.heap.size, 0, none⟩ = some (.int .i64 0) := by rw [cell_of_row _ _ _ _ _ _ HBZ.out]; rfl
      have d1 : wz.cell? ⟨w.heap.size, 1, none⟩ = some (.int .i64 0) := by rw [cell_of_row _ _ _ _ _ _ HBZ.out]; rfl
      have f0 : wz.frozen? ⟨w.heap.size, 0, none⟩ = false := by simp [World.frozen?, HBZ.out]
      have f1 : wz.frozen? ⟨w.heap.size, 1, none⟩ = false := by simp [World.frozen?, HBZ.out]
      have HZ3 : Hid (Below w.heap.size w wz) := HB0.out.trans ((HB2.mono (by omega)).trans (hz3.mono (by have := HB2.size; omega)))
      clear hz2 hz3
      go_region
      have e3 : ((wz.setCell ⟨w.heap.size, 0, none⟩ (.int .i64 e)).setCell ⟨w.heap.size, 1, none⟩ (.int .i64 (f : Int))).drew.heap[w.heap.size]? = some (.cells [Value.int .i64 e, .int .i64 (f : Int)].toArray 28 (0, 0)) := blk_set (blk_set HBZ.out _) _
      have e4 : Below w.heap.size w ((wz.setCell ⟨w.heap.size, 0, none⟩ (.int .i64 e)).setCell ⟨w.heap.size, 1, none⟩ (.int .i64 (f : Int))).drew := ((HZ3.out.setCell (Nat.le_refl _) _).setCell (Nat.le_refl _) _).drew
      generalize ((wz.setCell ⟨w.heap.size, 0, none⟩ (.int .i64 e)).setCell ⟨w.heap.size, 1, none⟩ (.int .i64 (f : Int))).drew = w3 at *
      have E3 := hid e3
      have E4 := hid e4
      clear e3 e4 c1 d0 d1 f0 f1
      go_wp2
      refine ret_tc 2 3 28 rfl _ rfl _ rfl _ _ E3.out _ Tryd.underlying28 rfl (by kernel_rfl) rfl ⟨.slice none 0 0, ?_, ?_, E4.out⟩
      · rw [FIN.out]
        rfl
      · rw [FIN.out]
        exact OwnT.nil _ _
    · have FIN := hid hfin
      rw [v5] at HN
      clear v5 hfin
      have HN : Hid (Calls Tryd.prog 12 #[.string (mk l), .int .i64 (a : Int)] wr fun e1 w' => e1 = .returned (.tuple #[.agg #[.int .i64 (0 : Nat), .int .i64 (f : Nat), .int .i64 (f : Nat)], .int .i64 0]) ∧ Below wr.heap.size wr w') := HN
      go_wp2_with first
        | (go_at_call 12; refine HN.out.mono ?_; rintro e1 w2 ⟨rfl, HB2⟩)
        | (refine st_tok (by rfl) (.tmp 6) (.tmp 12) (by rfl) (0, f, f) (by rfl) (by rfl) _ (by rfl) ?_; intro wz hz1 hz2 hz3; have HZ2 := hid hz2; have HB2' := hid HB2; have HZ3 := hid hz3; have HZ1 := hid hz1; clear hz1 hz2 hz3 HB2)
        | (refine ld_row (by rfl) 34 (.tmp 6) (by rfl) w2.heap.size (by rfl) (tkC (0, f, f)) 34 HZ2.out _ Tryd.underlying34 rfl Tryd.infoTok ?_; unfold tkC)
        | (refine st_row (by rfl) 28 (.tmp 3) (.tmp 28) (by rfl) w.heap.size [.int .i64 0, .int .i64 0] (by rfl) (by rfl) 28 _ HBF.out (by kernel_rfl) (by rfl) (by intro v hv; simp at hv; rw [hv]; rfl) ?_; intro w5 hw5)
        | (refine app_tok (by rfl) (.tmp 20) (.tmp 22) (by rfl) (w.heap.size + 1) _ ts (by rfl) (((HO.out.below HB2'.out).below (HZ3.out.mono (Nat.le_refl _))).below (below_walk _ _)) wz.heap.size 1 [(0, f, f)] (by rfl) (src_tok wz _) (by have := HL.out.2.1; have := HL.out.1; simp; omega) (by rw [hp_size]; have := HB2'.out.size; have := HZ1.out; omega) ?_
           intro v' w4 ho hg
           have HO4 := hid ho
           have hne : ∀ q, (Value.slice sa ts.length sc).ownBlock = some q → q < wr.heap.size := fun q hq => (HO.out.lt q hq).2
           have HS2 := hid HB2'.out.size
           have hz4 : w4.heap[w2.heap.size]? = some (.cells #[.int .i64 (0 : Nat), .int .i64 (f : Nat), .int .i64 (f : Nat)] 34 (0, 0)) := by
             rw [hg.block w2.heap.size (by rw [hp_size]; have := HZ1.out; omega) (fun e => by have := hne _ e.symm; have := HS2.out; omega), hp_old _ _ _ (by have := HZ1.out; omega)]
             exact HZ2.out
           have HB4 : Hid (Below (w.heap.size + 1) (w.alloc (.cells #[.int .i64 0, .int .i64 0] 28)) w4) := by
             have b1 : Below (w.heap.size + 1) (w.alloc (.cells #[.int .i64 0, .int .i64 0] 28)) (wz.alloc (.cells #[.int .i64 (0 : Nat), .int .i64 (f : Nat), .int .i64 (f : Nat)] 34)) :=
               ((HB.out.trans (HB2'.out.mono (by omega))).trans (HZ3.out.mono (by have := HS2.out; omega))).trans ((below_walk _ _).mono (by have := HS2.out; have := HZ1.out; omega))
             exact b1.grown hg (by rw [hp_size]; have := HS2.out; have := HZ1.out; omega) (fun q hq => (HO.out.lt q hq).1)
           have HBF : Hid (w4.heap[w.heap.size]? = some (.cells #[.int .i64 0, .int .i64 0] 28 (0, 0))) := by
             show w4.heap[w.heap.size]? = _
             rw [HB4.out.block _ (by omega)]; exact hp_new _ _
           have c0 : w4.cell? ⟨w2.heap.size, 0, none⟩ = some (.int .i64 (0 : Nat)) := by rw [cell_of_row _ _ _ _ _ _ hz4]; rfl
           have c2 : w4.cell? ⟨w2.heap.size, 2, none⟩ = some (.int .i64 (f : Nat)) := by rw [cell_of_row _ _ _ _ _ _ hz4]; rfl
           obtain ⟨sa2, sc2, rfl⟩ := HO4.out.shape
           have HL4 : Hid ((ts ++ [(0, f, f)]).length = ts.length + 1) := by show _ = _; simp
           rw [HL4.out]
           rw [HL4.out] at HO4
           clear ho hg hne hz4 HN)
      refine ret_tc 2 3 28 rfl _ rfl _ rfl _ _ hw5.blk _ Tryd.underlying28 rfl (by kernel_rfl) rfl ⟨.slice sa2 (ts.length + 1) sc2, ?_, ?_, ?_⟩
      · rw [FIN.out]
        rfl
      · rw [FIN.out]
        exact (HO4.out.kept hw5.grown (Or.inr (fun e => by have := (HO4.out.lt _ e).1; omega))).le (by omega)
      · exact below_rs hw5 ((below_walk w _).trans (HB4.out.mono (by omega))) (Nat.le_refl _)
    · have FIN := hid hfin
      rw [v5] at HN
      have hk0 : ¬ (k : Int) = 0 := by omega
      obtain ⟨m, HM⟩ : ∃ m, Hid (f + n = m) := ⟨_, rfl⟩
      rw [HM.out] at HN FIN hkn hkl
      clear v5 hfin hk
      have HN : Hid (Calls Tryd.prog 12 #[.string (mk l), .int .i64 (a : Int)] wr fun e1 w' => e1 = .returned (.tuple #[.agg #[.int .i64 (k : Nat), .int .i64 (f : Nat), .int .i64 (m : Nat)], .int .i64 0]) ∧ Below wr.heap.size wr w') := HN
      go_wp2_with first
        | (go_at_call 12; refine HN.out.mono ?_; rintro e1 w2 ⟨rfl, HB2⟩)
        | (refine st_tok (by rfl) (.tmp 6) (.tmp 12) (by rfl) (k, f, m) (by rfl) (by rfl) _ (by rfl) ?_; intro wz hz1 hz2 hz3; have HZ2 := hid hz2; have HB2' := hid HB2; have HZ3 := hid hz3; have HZ1 := hid hz1; clear hz1 hz2 hz3 HB2)
        | (refine ld_row (by rfl) 34 (.tmp 6) (by rfl) w2.heap.size (by rfl) (tkC (k, f, m)) 34 HZ2.out _ Tryd.underlying34 rfl Tryd.infoTok ?_; unfold tkC)
        | (refine app_tok (by rfl) (.tmp 20) (.tmp 22) (by rfl) (w.heap.size + 1) _ ts (by rfl) (((HO.out.below HB2'.out).below (HZ3.out.mono (Nat.le_refl _))).below (below_walk _ _)) wz.heap.size 1 [(k, f, m)] (by rfl) (src_tok wz _) (by have := HL.out.2.1; have := HL.out.1; simp; omega) (by rw [hp_size]; have := HB2'.out.size; have := HZ1.out; omega) ?_
           intro v' w4 ho hg
           have HO4 := hid ho
           have hne : ∀ q, (Value.slice sa ts.length sc).ownBlock = some q → q < wr.heap.size := fun q hq => (HO.out.lt q hq).2
           have HS2 := hid HB2'.out.size
           have hz4 : w4.heap[w2.heap.size]? = some (.cells #[.int .i64 (k : Nat), .int .i64 (f : Nat), .int .i64 (m : Nat)] 34 (0, 0)) := by
             rw [hg.block w2.heap.size (by rw [hp_size]; have := HZ1.out; omega) (fun e => by have := hne _ e.symm; have := HS2.out; omega), hp_old _ _ _ (by have := HZ1.out; omega)]
             exact HZ2.out
           have HB4 : Hid (Below (w.heap.size + 1) (w.alloc (.cells #[.int .i64 0, .int .i64 0] 28)) w4) := by
             have b1 : Below (w.heap.size + 1) (w.alloc (.cells #[.int .i64 0, .int .i64 0] 28)) (wz.alloc (.cells #[.int .i64 (k : Nat), .int .i64 (f : Nat), .int .i64 (m : Nat)] 34)) :=
               ((HB.out.trans (HB2'.out.mono (by omega))).trans (HZ3.out.mono (by have := HS2.out; omega))).trans ((below_walk _ _).mono (by have := HS2.out; have := HZ1.out; omega))
             exact b1.grown hg (by rw [hp_size]; have := HS2.out; have := HZ1.out; omega) (fun q hq => (HO.out.lt q hq).1)
           have HBF : Hid (w4.heap[w.heap.size]? = some (.cells #[.int .i64 0, .int .i64 0] 28 (0, 0))) := by
             show w4.heap[w.heap.size]? = _
             rw [HB4.out.block _ (by omega)]; exact hp_new _ _
           have c0 : w4.cell? ⟨w2.heap.size, 0, none⟩ = some (.int .i64 (k : Nat)) := by rw [cell_of_row _ _ _ _ _ _ hz4]; rfl
           have c2 : w4.cell? ⟨w2.heap.size, 2, none⟩ = some (.int .i64 (m : Nat)) := by rw [cell_of_row _ _ _ _ _ _ hz4]; rfl
           obtain ⟨sa2, sc2, rfl⟩ := HO4.out.shape
           have HL4 : Hid ((ts ++ [(k, f, m)]).length = ts.length + 1) := by show _ = _; simp
           rw [HL4.out]
           rw [HL4.out] at HO4
           clear ho hg hne hz4 HN)
      exact ⟨⟨m, _, by simp, by rw [← HM.out]; exact (HM.out ▸ FIN.out), HO4.out, HB4.out⟩, by simp [intOf]; omega⟩

end Go.Proofs.YtgihbllkjoegcabDoor

/- Word and Key; what must come, whatever else is so. -/
namespace Go.Proofs.YtgihbllkjoegcabDoor
open Go.RowKit

/-- one token of a kind, and nothing else -/
def jsP (k : Nat) (l : List UInt8) : Bool := decide (tokP l = (k, l.length, 0))

set_option maxHeartbeats 1000000 in
theorem just_any (k : Nat) (l : List UInt8) (hl : l.length ≤ 140737488355328) (w : World) (hT : Tabs w) :
    Calls Tryd.prog 26 #[.int .i64 (k : Nat), .string (mk l)] w fun e w' => e = .returned (.bool (jsP k l)) ∧ ∃ n, w' = w.drewN n := by
  have hsz := mk_size l
  have H1 := hid (token_any l hl w hT)
  clear hT
  obtain ⟨⟨x, y, z⟩, HX⟩ : ∃ r, Hid (tokP l = r) := ⟨_, rfl⟩
  rw [HX.out] at H1
  unfold tokV at H1
  go_enter Tryd.func26, Tryd.ntmps26
  go_wp2_with (go_at_call 22; refine H1.out.mono ?_; rintro e w' ⟨rfl, m, rfl⟩)
  all_goals go_ret
  all_goals refine ⟨ret_b ?_, _, rfl⟩
  all_goals unfold jsP
  all_goals rw [HX.out]
  all_goals simp only [decide_eq_true_eq, Prod.mk.injEq, Bool.false_eq_true, false_iff]
  all_goals simp_all
  all_goals omega

set_option maxHeartbeats 1000000 in
theorem word_is (l : List UInt8) (hl : l.length ≤ 140737488355328) (w : World) (hT : Tabs w) :
    Calls Tryd.prog 19 #[.string (mk l)] w fun e w' => e = .returned (.bool (jsP 1 l)) ∧ ∃ n, w' = w.drewN n := by
  have H1 := hid (just_any 1 l hl w hT)
  clear hT
  go_enter Tryd.func19, Tryd.ntmps19
  go_wp2_with (go_at_call 26; refine H1.out.mono ?_; rintro e w' ⟨rfl, m, rfl⟩)
  go_ret
  exact ⟨rfl, _, rfl⟩

set_option maxHeartbeats 1000000 in
theorem key_is (l : List UInt8) (hl : l.length ≤ 140737488355328) (w : World) (hT : Tabs w) :
    Calls Tryd.prog 18 #[.string (mk l)] w fun e w' => e = .returned (.bool (jsP 4 l)) ∧ ∃ n, w' = w.drewN n := by
  have H1 := hid (just_any 4 l hl w hT)
  clear hT
  go_enter Tryd.func18, Tryd.ntmps18
  go_wp2_with (go_at_call 26; refine H1.out.mono ?_; rintro e w' ⟨rfl, m, rfl⟩)
  go_ret
  exact ⟨rfl, _, rfl⟩

theorem aw_all : alP [97, 60, 61, 98, 32, 47, 47, 32, 120] = ([(1, 0, 1), (5, 1, 3), (1, 3, 4), (0, 9, 9)], 0, 0) := by
  have t0 : tkP [97, 60, 61, 98, 32, 47, 47, 32, 120] 0 = (1, 1, 0) := by decide +kernel
  have t1 : tkP [97, 60, 61, 98, 32, 47, 47, 32, 120] 1 = (5, 2, 0) := by decide +kernel
  have t2 : tkP [97, 60, 61, 98, 32, 47, 47, 32, 120] 3 = (1, 1, 0) := by decide +kernel
  have t3 : tkP [97, 60, 61, 98, 32, 47, 47, 32, 120] 4 = (0, 0, 0) := by decide +kernel
  have f0 : frP [97, 60, 61, 98, 32, 47, 47, 32, 120] 0 = 0 := by decide +kernel
  have f1 : frP [97, 60, 61, 98, 32, 47, 47, 32, 120] 1 = 1 := by decide +kernel
  have f2 : frP [97, 60, 61, 98, 32, 47, 47, 32, 120] 3 = 3 := by decide +kernel
  have f3 : frP [97, 60, 61, 98, 32, 47, 47, 32, 120] 4 = 9 := by decide +kernel
  unfold alP
  rw [if_neg (by decide), all_step t0 (by decide) (by decide), f0, all_step t1 (by decide) (by decide), f1, all_step t2 (by decide) (by decide), f2, all_end t3, f3]
  rfl
theorem aw_if : jsP 4 [105, 102] = true := by decide +kernel
theorem aw_x1 : jsP 1 [120, 49] = true := by decide +kernel

set_option maxHeartbeats 2000000 in
theorem awake_any (w : World) (hT : Tabs w) :
    Calls Tryd.prog 10 #[] w fun e w' => e = .returned (.bool true) ∧ Below w.heap.size w w' := by
  have H1 := all_any [97, 60, 61, 98, 32, 47, 47, 32, 120] (by decide) w hT
  rw [aw_all] at H1
  have H1 : Hid (Calls Tryd.prog 9 #[.string ⟨#[97, 60, 61, 98, 32, 47, 47, 32, 120]⟩] w fun e w' => ∃ v, e = .returned (.tuple #[v, .agg #[.int .i64 0, .int .i64 0]]) ∧ OwnT w' w.heap.size v [(1, 0, 1), (5, 1, 3), (1, 3, 4), (0, 9, 9)] ∧ Below w.heap.size w w') := H1
  have H2 : Hid (∀ w, Tabs w → Calls Tryd.prog 18 #[.string ⟨#[105, 102]⟩] w fun e w' => e = .returned (.bool true) ∧ ∃ n, w' = w.drewN n) := fun w h => by
    have := key_is [105, 102] (by decide) w h
    rw [aw_if] at this
    exact this
  have H3 : Hid (∀ w, Tabs w → Calls Tryd.prog 19 #[.string ⟨#[120, 49]⟩] w fun e w' => e = .returned (.bool true) ∧ ∃ n, w' = w.drewN n) := fun w h => by
    have := word_is [120, 49] (by decide) w h
    rw [aw_x1] at this
    exact this
  have HT := hid hT
  clear hT
  go_enter Tryd.func10, Tryd.ntmps10
  go_wp2_with first
    | (go_at_call 9; refine H1.out.mono ?_; rintro e w2 ⟨v, rfl, ho, hb⟩
       obtain ⟨sa, sc, rfl⟩ := ho.shape
       obtain ⟨g, rfl, hc⟩ := ho.at 1 (by decide)
       have hlt := (ho.lt g rfl).2
       have HB := hid hb
       have HO := hid ho
       have c0 := hc 0 _ rfl
       have c1 := hc 1 _ rfl
       have c2 := hc 2 _ rfl
       clear ho hb hc)
    | (go_at_call 18; refine (H2.out _ (HT.out.below (HB.out.alloc HB.out.size _))).mono ?_; rintro e w' ⟨rfl, m, rfl⟩)
    | (go_at_call 19; refine (H3.out _ ((HT.out.below (HB.out.alloc HB.out.size _)).drewN _)).mono ?_; rintro e w' ⟨rfl, m2, rfl⟩)
  go_ret
  exact ⟨rfl, below_drewN (HB.out.alloc HB.out.size _) _⟩

end Go.Proofs.YtgihbllkjoegcabDoor

/- The program's Quote and Text. -/
namespace Go.Proofs.YtgihbllkjoegcabDoor
open Go.RowKit

theorem bq_new (w : World) : Bq (w.alloc (.cells #[.pointer none, .slice none 0 0] 52)) w.heap.size w.heap.size [] :=
  Or.inl ⟨Nat.le_refl _, _, hp_new _ _, World.ownsRow_nil _ _ _ _, by simp [Value.ownBlock]⟩

/-- String of a builder -/
theorem bstr_any (B b : Nat) (bs : List UInt8) (w : World) (h : Bq w B b bs) (hBw : B ≤ w.heap.size) :
    Calls Tryd.prog 25 #[.pointer (some ⟨b, 0, none⟩)] w fun e w' => e = .returned (.string (mk bs)) ∧ Below B w w' :=
  (Tryd.Builder_String_any_k B b bs w (Lib.IsBuilderF.of h) hBw).mono fun _ _ ⟨h1, _, h3, _⟩ => ⟨h1, h3⟩

set_option maxHeartbeats 2000000 in
theorem quote_long (v : List UInt8) (hv : 4096 < v.length) (w : World) :
    Calls Tryd.prog 13 #[.string (mk v)] w fun e w' => e = .returned (.tuple #[.string ⟨#[]⟩, .int .i64 3]) ∧ Below w.heap.size w w' := by
  have hsz := mk_size v
  have q1 : (4096 : Int) < (v.length : Int) := by omega
  go_enter Tryd.func13, Tryd.ntmps13
  go_wp2
  go_ret2
  exact ⟨rfl, Below.refl _ _⟩

set_option maxHeartbeats 2000000 in
theorem quote_any (v : List UInt8) (hv : v.length ≤ 4096) (w : World) :
    Calls Tryd.prog 13 #[.string (mk v)] w fun e w' => e = .returned (.tuple #[.string (mk (quP v)), .int .i64 0]) ∧ Below w.heap.size w w' := by
  have hsz := mk_size v
  have q1 : ¬ (4096 : Int) < (v.length : Int) := by omega
  have HW1 : Hid (∀ w' b, Bq w' w.heap.size b [] → w.heap.size ≤ w'.heap.size → Calls Tryd.prog 23 #[.pointer (some ⟨b, 0, none⟩), .int .u8 34] w' fun e w2 => e = .returned .nilIface ∧ Bq w2 w.heap.size b [34] ∧ Below w.heap.size w' w2) := fun w' b h hb => wbyte_any _ b [] 34 w' h (by simp) hb
  go_enter Tryd.func13, Tryd.ntmps13
  go_wp2_with (go_at_call 23; refine (HW1.out _ _ (bq_new w) (by rw [hp_size]; omega)).mono ?_; clear HW1; rintro e w2 ⟨rfl, hq, hb⟩; have HQ2 := hid hq; have HB2 := hid ((below_walk w _).trans hb); clear hq hb)
  go_loopw [12] (fun i wr => ∃ k : Nat, i = .int .i64 k ∧ k ≤ v.length ∧ Bq wr w.heap.size w.heap.size (34 :: (v.take k).flatMap qpP) ∧ Below w.heap.size w wr) (fun i _ => v.length - (intOf i).toNat)
  case atStart => exact ⟨0, rfl, Nat.zero_le _, HQ2.out, HB2.out⟩
  case round =>
    obtain ⟨k, rfl, hk, HQ, HB⟩ := hrel
    have HQ : Hid (Bq wr w.heap.size w.heap.size (34 :: (v.take k).flatMap qpP)) := HQ
    have HB : Hid (Below w.heap.size w wr) := HB
    have hfl := flat_len (v.take k)
    rw [List.length_take] at hfl
    by_cases hlt : k < v.length
    · have q2 : (k : Int) < (v.length : Int) := by omega
      have i1 := at_mk v k hlt
      obtain ⟨c, HC⟩ : ∃ c : UInt8, Hid (v.getD k 0 = c) := ⟨_, rfl⟩
      rw [HC.out] at i1
      have HP := hid (wpiece_any _ _ (34 :: (v.take k).flatMap qpP) c wr HQ.out (by simp only [List.length_cons]; omega) HB.out.size)
      have HE : Hid (34 :: (v.take k).flatMap qpP ++ qpP c = 34 :: (v.take (k + 1)).flatMap qpP) := by
        show _ = _
        rw [List.take_succ_eq_append_getElem hlt, List.flatMap_append]
        have : v[k] = c := by have := HC.out; simpa [List.getD_eq_getElem?_getD, hlt] using this
        rw [this]
        simp
      rw [HE.out] at HP
      clear hfl
      go_wp2_with (go_at_call 24; refine HP.out.mono ?_; rintro e w3 ⟨rfl, hq, hb⟩; have HQ3 := hid hq; have HB3 := hid (HB.out.trans hb); clear hq hb)
      exact ⟨⟨k + 1, by simp, by omega, HQ3.out, HB3.out⟩, by simp [intOf]; omega⟩
    · have q2 : ¬ (k : Int) < (v.length : Int) := by omega
      have hkv : v.take k = v := List.take_of_length_le (by omega)
      rw [hkv] at HQ hfl
      have HW : Hid (Calls Tryd.prog 23 #[.pointer (some ⟨w.heap.size, 0, none⟩), .int .u8 34] wr fun e w2 => e = .returned .nilIface ∧ Bq w2 w.heap.size w.heap.size (34 :: v.flatMap qpP ++ [34]) ∧ Below w.heap.size wr w2) := wbyte_any _ _ _ 34 wr HQ.out (by simp only [List.length_cons]; omega) HB.out.size
      have HS := hid (fun W h hb => bstr_any w.heap.size w.heap.size (34 :: v.flatMap qpP ++ [34]) W h hb)
      clear hfl hkv
      go_wp2_with first
        | (go_at_call 23; refine HW.out.mono ?_; clear HW; rintro e w3 ⟨rfl, hq, hb⟩; have HQ3 := hid hq; have HB3 := hid (HB.out.trans hb); clear hq hb)
        | (go_at_call 25; refine (HS.out _ HQ3.out HB3.out.size).mono ?_; rintro e w4 ⟨rfl, hb⟩)
      go_ret2
      exact ⟨rfl, HB3.out.trans hb⟩

/-- what Text answers -/
def txV (l : List UInt8) : Value :=
  match txP (l.drop 1) with
  | none => .tuple #[.string ⟨#[]⟩, .int .i64 122]
  | some r => if jsP 3 l = true then .tuple #[.string (mk r.1), .int .i64 0] else .tuple #[.string ⟨#[]⟩, .int .i64 122]
theorem js_text {l : List UInt8} (h : jsP 3 l = true) : ∃ v, txP (l.drop 1) = some (v, l.length - 1) ∧ v.length ≤ 4096 ∧ 2 ≤ l.length ∧ l.getD 0 0 = 34 := by
  have h := of_decide_eq_true h
  unfold tokP at h
  split at h
  · simp at h
  · rename_i hl
    split at h
    · unfold wdP at h; repeat' split at h
      all_goals simp at h
    · split at h
      · unfold nuP at h; repeat' split at h
        all_goals simp at h
      · split at h
        · rename_i h34
          unfold tqP at h
          cases htx : txP (l.drop 1) with
          | none => rw [htx] at h; simp at h
          | some r =>
            rw [htx] at h
            simp only at h
            split at h
            · rename_i h4
              simp only [Prod.mk.injEq, and_true, true_and] at h
              have hle := txP_le (v := r.1) (m := r.2) htx
              rw [List.length_drop] at hle
              refine ⟨r.1, ?_, h4, by omega, h34⟩
              have : r.2 = l.length - 1 := by omega
              rw [← this]
            · simp at h
        · unfold sqP at h; repeat' split at h
          all_goals simp at h

set_option maxHeartbeats 2000000 in
theorem text_bad (l : List UInt8) (hl : l.length ≤ 140737488355328) (h : jsP 3 l = false) (w : World) (hT : Tabs w) :
    Calls Tryd.prog 14 #[.string (mk l)] w fun e w' => e = .returned (.tuple #[.string ⟨#[]⟩, .int .i64 122]) ∧ Below w.heap.size w w' := by
  have H1 := hid (just_any 3 l hl w hT)
  rw [h] at H1
  clear hT h
  go_enter Tryd.func14, Tryd.ntmps14
  go_wp2_with (go_at_call 26; refine H1.out.mono ?_; rintro e w' ⟨rfl, m, rfl⟩)
  go_ret2
  exact ⟨rfl, below_drewN (Below.refl _ _) _⟩

set_option maxHeartbeats 2000000 in
theorem text_ok (l v : List UInt8) (hl : l.length ≤ 140737488355328) (h : jsP 3 l = true) (hv : txP (l.drop 1) = some (v, l.length - 1)) (w : World) (hT : Tabs w) :
    Calls Tryd.prog 14 #[.string (mk l)] w fun e w' => e = .returned (.tuple #[.string (mk v), .int .i64 0]) ∧ Below w.heap.size w w' := by
  have hsz := mk_size l
  have H1 := hid (just_any 3 l hl w hT)
  obtain ⟨_, hx, hv4, hl2, _⟩ := js_text h
  have hvl := txP_le hv
  rw [hv] at hx
  have hv4 : v.length ≤ 4096 := by injection hx with hx; injection hx with hx _; rw [hx]; exact hv4
  have H0 := hid (Tz.zero (l := l) (a := 0) (by omega))
  have HV : Hid (txP (l.drop (0 + 1)) = some (v, l.length - 1)) := hv
  rw [h] at H1
  clear hT h hx hv hvl
  go_enter Tryd.func14, Tryd.ntmps14
  go_wp2_with (go_at_call 26; refine H1.out.mono ?_; rintro e w' ⟨rfl, m, rfl⟩)
  go_loopw [5] (fun i wr => ∃ (k : Nat) (u : List UInt8), i = .int .i64 k ∧ Tz l 0 k u ∧ k ≤ l.length - 1 ∧ Bq wr w.heap.size w.heap.size u ∧ Below w.heap.size w wr) (fun i _ => l.length - (intOf i).toNat)
  case atStart => exact ⟨1, [], rfl, H0.out, by omega, bq_new (w.drewN m), below_drewN (Below.refl _ _) m |>.trans (below_walk (w.drewN m) _)⟩
  case round =>
    obtain ⟨k, u, rfl, HT, hk, HQ, HB⟩ := hrel
    have HT : Hid (Tz l 0 k u) := HT
    have HQ : Hid (Bq wr w.heap.size w.heap.size u) := HQ
    have HB : Hid (Below w.heap.size w wr) := HB
    obtain ⟨x, hx, hxu, hxk⟩ : ∃ x : List UInt8 × Nat, txP (l.drop k) = some x ∧ u ++ x.1 = v ∧ k + x.2 = l.length := by
      have e1 := HT.out.2.2.2
      rw [HV.out] at e1
      cases hc : txP (l.drop k) with
      | none => rw [hc] at e1; cases e1
      | some x =>
        rw [hc] at e1
        injection e1 with e1
        injection e1 with e1 e2
        have := HT.out.1
        exact ⟨x, rfl, e1.symm, by omega⟩
    have hul : u.length ≤ 4096 := by rw [← hxu] at hv4; rw [List.length_append] at hv4; omega
    by_cases hlt : k < l.length - 1
    · have q2 : (k : Int) < (l.length : Int) - 1 := by omega
      have hq34 : ¬ l.getD k 0 = 34 := by
        intro e
        rw [txP_quote (l := l.drop k) (by rw [drop_getD]; exact e)] at hx
        injection hx with hx
        rw [← hx] at hxk
        simp only at hxk
        omega
      have hpk : ¬ (pcP (l.drop k)).2 = 0 := by
        intro e
        rw [txP_bad (l := l.drop k) (by rw [drop_getD]; exact hq34) e] at hx
        cases hx
      obtain ⟨⟨c, n⟩, HP⟩ : ∃ r, Hid (pcP (l.drop k) = r) := ⟨_, rfl⟩
      rw [HP.out] at hpk
      have HM := hid (HT.out.more hq34 HP.out hpk)
      have hkn : k + n ≤ l.length - 1 := by
        have e1 := HM.out.2.2.2
        rw [HV.out] at e1
        cases hc : txP (l.drop (k + n)) with
        | none => rw [hc] at e1; cases e1
        | some y =>
          rw [hc] at e1
          injection e1 with e1
          injection e1 with e1 e2
          have := txP_le (v := y.1) (m := y.2) hc
          have := HM.out.1
          omega
      have hn1 : 1 ≤ n := by simp only at hpk; omega
      have s1 := sl_from l k (by omega)
      have H2 := hid (piece_any (l.drop k) (by rw [List.length_drop]; omega))
      rw [HP.out] at H2
      have HW := hid (fun W h hb => wbyte_any w.heap.size w.heap.size u c W h (by omega) hb)
      clear hx hxu hxk hq34 hpk
      go_wp2_with first
        | (go_at_call 27; refine (H2.out _).mono ?_; rintro e w' ⟨rfl, m2, rfl⟩)
        | (go_at_call 23; refine (HW.out (wr.drewN m2) HQ.out HB.out.size).mono ?_; rintro e w3 ⟨rfl, hq, hb⟩; have HQ3 := hid hq; have HB3 := hid ((below_drewN HB.out m2).trans hb); clear hq hb)
      exact ⟨⟨k + n, u ++ [c], by simp, HM.out, hkn, HQ3.out, HB3.out⟩, by simp [intOf]; omega⟩
    · have q2 : ¬ (k : Int) < (l.length : Int) - 1 := by omega
      have huv : u = v := by
        have hx2 := txP_le (v := x.1) (m := x.2) hx
        have : x.1 = [] := List.length_eq_zero_iff.1 (by omega)
        rw [this, List.append_nil] at hxu
        exact hxu
      subst huv
      have HS := hid (bstr_any w.heap.size w.heap.size u wr HQ.out HB.out.size)
      clear hx hxu hxk
      go_wp2_with (go_at_call 25; refine HS.out.mono ?_; rintro e w4 ⟨rfl, hb⟩)
      go_ret2
      exact ⟨rfl, HB.out.trans hb⟩

end Go.Proofs.YtgihbllkjoegcabDoor

/- What All answers, plainly: each token stands by itself. -/
namespace Go.Proofs.YtgihbllkjoegcabDoor
open Go.RowKit

theorem al_view (l : List UInt8) : (∃ (e : Int) (p : Nat), e ≠ 0 ∧ alP l = ([], e, p) ∧ (65536 < l.length ∧ e = 3 ∧ p = 0 ∨ l.length ≤ 65536 ∧ ∃ ts, Lb l 0 ts e p)) ∨ (∃ ts, l.length ≤ 65536 ∧ Lx l 0 ts ∧ alP l = (ts, 0, 0)) := by
  unfold alP
  by_cases hl : 65536 < l.length
  · rw [if_pos hl]
    exact Or.inl ⟨3, 0, by decide, rfl, Or.inl ⟨hl, rfl, rfl⟩⟩
  · rw [if_neg hl]
    rcases all_view (l := l) (Nat.zero_le _) with ⟨ts, h1, h2⟩ | ⟨ts, e, p, h1, h2⟩
    · rw [h2, if_pos rfl]
      exact Or.inr ⟨ts, by omega, h1, rfl⟩
    · have hn := h1.num
      rw [h2, if_neg (by simp only; omega)]
      exact Or.inl ⟨e, p, by omega, rfl, Or.inr ⟨by omega, ts, h1⟩⟩

/-- a token's variable -/
def Tk (w : World) (g : Nat) (t : Nat × Nat × Nat) : Prop := w.heap[g]? = some (.cells #[.int .i64 t.1, .int .i64 t.2.1, .int .i64 t.2.2] 34 (0, 0))
theorem Tk.below {w w' : World} {g B : Nat} {t : Nat × Nat × Nat} (h : Tk w g t) (hb : Below B w w') (hg : g < B) : Tk w' g t := by unfold Tk; rw [hb.block g hg]; exact h
theorem Tk.lt {w : World} {g : Nat} {t : Nat × Nat × Nat} (h : Tk w g t) : g < w.heap.size := hp_lt h
theorem Tk.c0 {w : World} {g k f m : Nat} (h : Tk w g (k, f, m)) : w.cell? ⟨g, 0, none⟩ = some (.int .i64 (k : Int)) := by rw [cell_of_row _ _ _ _ _ _ h]; rfl
theorem Tk.c1 {w : World} {g k f m : Nat} (h : Tk w g (k, f, m)) : w.cell? ⟨g, 1, none⟩ = some (.int .i64 (f : Int)) := by rw [cell_of_row _ _ _ _ _ _ h]; rfl
theorem Tk.c2 {w : World} {g k f m : Nat} (h : Tk w g (k, f, m)) : w.cell? ⟨g, 2, none⟩ = some (.int .i64 (m : Int)) := by rw [cell_of_row _ _ _ _ _ _ h]; rfl
/-- a token into a variable that was made last -/
theorem st_tk {w : World} {ops : Array Oper} {rest : List Oper} {o : Oper} {a : Act} {Q : Exit → Act → World → Prop} (hgd : o.guard = none) (x y : Operand) (ho : o.op = .store 34 x y)
    (t : Nat × Nat × Nat) (hx : a.eval x = .pointer (some ⟨w.heap.size, 0, none⟩)) (hy : a.eval y = .agg #[.int .i64 t.1, .int .i64 t.2.1, .int .i64 t.2.2])
    (old : Array Value) (hold : old.size = 3)
    (h : ∀ wz, Tk wz w.heap.size t → Below w.heap.size w wz → wpList Tryd.prog ops Q rest (a.put o.dst undef) wz) :
    wpList Tryd.prog ops Q (o :: rest) a (w.alloc (.cells old 34)) :=
  st_tok hgd x y ho t hx hy old hold (fun wz _ h2 h3 => h wz h2 h3)

/-- a token that stands by itself -/
def Sole (l : List UInt8) (t : Nat × Nat × Nat) : Prop := ∃ k f n, t = (k, f, f + n) ∧ 1 ≤ k ∧ k ≤ 5 ∧ 1 ≤ n ∧ f + n ≤ l.length ∧ tokP (l.drop f) = (k, n, 0) ∧ gapP (l.drop f) = 0
theorem Lx.mem {l : List UInt8} {a : Nat} {ts : List (Nat × Nat × Nat)} (h : Lx l a ts) : ∀ t ∈ ts, t = (0, l.length, l.length) ∨ Sole l t :=
  Lx.ind (M := fun _ ts => ∀ t ∈ ts, t = (0, l.length, l.length) ∨ Sole l t) (fun _ _ t ht => by simp at ht; exact Or.inl ht)
    (fun {a k n ts} _ h hk hk5 hn hl _ ih t hm => by
      rcases List.mem_cons.1 hm with rfl | hm
      · exact Or.inr ⟨k, frP l a, n, rfl, hk, hk5, hn, hl, h, frP_idle l a⟩
      · exact ih t hm) ts h
theorem getD_mem {ts : List (Nat × Nat × Nat)} {i : Nat} (h : i < ts.length) : ts.getD i (0, 0, 0) ∈ ts := by
  rw [List.getD_eq_getElem?_getD, List.getElem?_eq_getElem h]; exact List.getElem_mem h

theorem nx_of {X : List UInt8} {k n : Nat} (hl : X.length ≤ 65536) (hg : gapP X = 0) (ht : tokP X = (k, n, 0)) : nxP X 0 = ((k, 0, n), 0) := by
  have hf : frP X 0 = 0 := by unfold frP; rw [List.drop_zero, hg]
  have htk : tkP X 0 = (k, n, 0) := by unfold tkP; rw [hf, List.drop_zero, ht]
  have hp : plN X 0 = 0 := by unfold plN; rw [if_neg (by omega), if_neg (by omega)]
  unfold nxP
  rw [hp, if_neg (by simp)]
  simp only [Int.toNat_zero]
  rw [htk, hf, if_neg (by simp)]
  simp
/-- a token alone; with the byte behind it -/
theorem nx_alone {l : List UInt8} {k f n : Nat} (hl : l.length ≤ 65536) (hk : k ≠ 0) (ht : tokP (l.drop f) = (k, n, 0)) (hg : gapP (l.drop f) = 0) : nxP ((l.drop f).take n) 0 = ((k, 0, n), 0) := by
  refine nx_of (by rw [List.length_take, List.length_drop]; omega) ?_ ?_
  · rw [gapP_take (by omega), hg]
  · have := tok_cut (r := []) ht hk (Or.inl rfl)
    rwa [List.append_nil] at this
theorem nx_more {l : List UInt8} {k f n : Nat} (hl : l.length ≤ 65536) (hk : k ≠ 0) (ht : tokP (l.drop f) = (k, n, 0)) (hg : gapP (l.drop f) = 0) (hn : f + n < l.length) : nxP ((l.drop f).take (n + 1)) 0 = ((k, 0, n), 0) := by
  refine nx_of (by rw [List.length_take, List.length_drop]; omega) ?_ ?_
  · rw [gapP_take (by omega), hg]
  · have hlt : n < (l.drop f).length := by rw [List.length_drop]; omega
    have e : (l.drop f).take (n + 1) = (l.drop f).take n ++ [(l.drop f)[n]] := List.take_succ_eq_append_getElem hlt
    rw [e]
    refine tok_cut ht hk (Or.inr (Or.inl ?_))
    rw [head_drop, List.getElem?_eq_getElem hlt]
    rfl

end Go.Proofs.YtgihbllkjoegcabDoor

/- LexBack: values survive the way to text and back. -/
namespace Go.Proofs.YtgihbllkjoegcabDoor
open Go.RowKit

theorem hx_hex : ∀ q : Fin 16, hxN (hexQ q.val) = q.val := by decide +kernel
theorem pc_qp (c : UInt8) (r : List UInt8) : pcP (qpP c ++ r) = (c, (qpP c).length) ∧ ¬ (qpP c ++ r).getD 0 0 = 34 := by
  unfold qpP
  split
  · rename_i h; subst h
    exact ⟨by unfold pcP; simp, by simp⟩
  · split
    · rename_i h; subst h
      exact ⟨by unfold pcP; simp, by simp⟩
    · split
      · rename_i h1 h2 h
        rcases h with rfl | rfl
        · exact ⟨by unfold pcP; simp, by simp⟩
        · exact ⟨by unfold pcP; simp, by simp⟩
      · split
        · rename_i h1 h2 h3 h4
          refine ⟨pc_plain (by simp) (by simp) h4, ?_⟩
          simp only [List.singleton_append, List.getD_cons_zero]
          exact fun e => h3 (Or.inl e)
        · refine ⟨?_, by simp⟩
          have hc := c.toNat_lt
          have e1 := hx_hex ⟨c.toNat / 16, by omega⟩
          have e2 := hx_hex ⟨c.toNat % 16, by omega⟩
          simp only at e1 e2
          rw [pc_coded (by simp) (by simp) (by simp)]
          unfold cdQ
          simp only [List.cons_append, List.nil_append, List.getD_cons_succ, List.getD_cons_zero]
          rw [e1, e2, if_pos ⟨by omega, by omega⟩]
          have : UInt8.ofNat (16 * (c.toNat / 16) + c.toNat % 16) = c := by
            rw [show 16 * (c.toNat / 16) + c.toNat % 16 = c.toNat by omega]
            simp
          rw [this]
          rfl
theorem qp_pos (c : UInt8) : (qpP c).length ≠ 0 := by
  unfold qpP
  repeat' split
  all_goals simp
theorem tx_flat (v r : List UInt8) : txP (v.flatMap qpP ++ 34 :: r) = some (v, (v.flatMap qpP).length + 1) := by
  induction v with
  | nil => exact txP_quote rfl
  | cons c t ih =>
    rw [List.flatMap_cons, List.append_assoc]
    obtain ⟨h1, h2⟩ := pc_qp c (t.flatMap qpP ++ 34 :: r)
    rw [txP_step h2 (by rw [h1]; exact qp_pos c), h1, List.drop_left, ih]
    simp only [Option.map_some, List.length_append, Nat.add_assoc]
theorem qu_len (v : List UInt8) : (quP v).length = (v.flatMap qpP).length + 2 := by
  show (34 :: (v.flatMap qpP ++ [34])).length = _
  rw [List.length_cons, List.length_append]
  rfl
theorem js_quote {v : List UInt8} (hv : v.length ≤ 4096) : jsP 3 (quP v) = true ∧ txP ((quP v).drop 1) = some (v, (quP v).length - 1) := by
  have h1 : (quP v).drop 1 = v.flatMap qpP ++ 34 :: [] := rfl
  have h2 := tx_flat v []
  have hl := qu_len v
  refine ⟨?_, by rw [h1, h2, hl]; rfl⟩
  unfold jsP
  rw [decide_eq_true_eq]
  unfold tokP
  rw [if_neg (by omega), show (quP v).getD 0 0 = 34 from rfl, if_neg (by decide), if_neg (by decide), if_pos rfl]
  unfold tqP
  rw [h1, h2]
  simp only
  rw [if_pos hv, hl]
theorem qp_least {l : List UInt8} {c : UInt8} {k : Nat} (h : pcP l = (c, k)) (hk : k ≠ 0) : (qpP c).length ≤ k := by
  unfold pcP at h
  split at h
  · simp only [Prod.mk.injEq] at h; omega
  · split at h
    · split at h
      · rename_i hp
        simp only [Prod.mk.injEq] at h
        obtain ⟨h1, h2⟩ := h
        rw [h1] at hp
        have hq : qpP c = [c] := by
          unfold qpP
          have a1 : ¬ c = 10 := by rintro rfl; revert hp; decide
          have a2 : ¬ c = 9 := by rintro rfl; revert hp; decide
          have a3 : ¬ (c = 34 ∨ c = 92) := by rintro (rfl | rfl) <;> (revert hp; decide)
          rw [if_neg a1, if_neg a2, if_neg a3, if_pos hp]
        rw [hq, ← h2]
        simp
      · simp only [Prod.mk.injEq] at h; omega
    · split at h
      · simp only [Prod.mk.injEq] at h; omega
      · split at h
        · simp only [Prod.mk.injEq] at h; rw [← h.1, ← h.2]; decide
        · split at h
          · simp only [Prod.mk.injEq] at h; rw [← h.1, ← h.2]; decide
          · split at h
            · rename_i hq
              simp only [Prod.mk.injEq] at h
              rw [h.1] at hq
              rw [← h.2]
              rcases hq with rfl | rfl <;> decide
            · split at h
              · simp only [Prod.mk.injEq] at h
                rw [← h.2]; exact qp_len c
              · simp only [Prod.mk.injEq] at h; omega
theorem tx_least {l v : List UInt8} {m : Nat} (h : txP l = some (v, m)) : (v.flatMap qpP).length + 1 ≤ m := by
  induction hn : l.length using Nat.strongRecOn generalizing l v m with
  | _ n ih =>
    by_cases hq : l.getD 0 0 = 34
    · rw [txP_quote hq] at h
      injection h with h; injection h with h1 h2
      rw [← h1, ← h2]; simp
    · by_cases hp : (pcP l).2 = 0
      · rw [txP_bad hq hp] at h; cases h
      · rw [txP_step hq hp] at h
        cases e : txP (l.drop (pcP l).2) with
        | none => rw [e] at h; cases h
        | some r =>
          rw [e] at h
          injection h with h; injection h with h1 h2
          have hle := pcP_le l
          have i := ih (l.drop (pcP l).2).length (by rw [List.length_drop]; omega) (v := r.1) e rfl
          have j := qp_least (c := (pcP l).1) (k := (pcP l).2) rfl hp
          rw [← h1, ← h2, List.flatMap_cons, List.length_append]
          omega

set_option maxHeartbeats 4000000 in
theorem back_any (w : World) (v s : List UInt8) (hv : v.length ≤ 140737488355328) (hs : s.length ≤ 140737488355328) (hT : Tabs w) :
    Calls Tryd.prog 6 #[.string (mk v), .string (mk s)] w fun e w' => e = .returned (.bool true) ∧ Below w.heap.size w w' := by
  have hszv := mk_size v
  have hszs := mk_size s
  have HA := hid awake_any
  have HT := hid hT
  clear hT
  by_cases hlong : 4096 < v.length
  · have H1 := hid (quote_long v hlong w)
    have q1 : (4096 : Int) < (v.length : Int) := by omega
    as_aux_lemma =>
      go_enter Tryd.func6, Tryd.ntmps6
      go_wp2_with first
        | (go_at_call 13; refine H1.out.mono ?_; clear H1; rintro e w2 ⟨rfl, hb⟩; have HB := hid hb; clear hb)
        | (go_at_call 10; refine (HA.out _ (HT.out.below HB.out)).mono ?_; rintro e1 w3 ⟨rfl, hb3⟩)
      go_ret
      exact ⟨rfl, HB.out.trans (hb3.mono HB.out.size)⟩
  · have hvl : v.length ≤ 4096 := by omega
    have hfl := flat_len v
    have hqv : (quP v).length ≤ 20000 := by rw [qu_len]; omega
    have H1 := hid (quote_any v hvl w)
    have H2 := hid (fun W h => text_ok (quP v) v (by omega) (js_quote hvl).1 (js_quote hvl).2 W h)
    have f1 : ((mk v).toList == (mk v).toList) = true := by simp
    obtain ⟨Q, HQ⟩ : ∃ Q, Hid (quP v = Q) := ⟨_, rfl⟩
    rw [HQ.out] at H1 H2
    clear hfl hqv hlong
    cases hjs : jsP 3 s with
    | false =>
      have H3 := hid (fun W h => text_bad s hs hjs W h)
      clear hjs
      as_aux_lemma =>
        go_enter Tryd.func6, Tryd.ntmps6
        go_wp2_with first
          | (go_at_call 13; refine H1.out.mono ?_; clear H1; rintro e w2 ⟨rfl, hb⟩; have HB := hid hb; clear hb)
          | (go_at_call 14; with_reducible refine (H2.out _ (HT.out.below HB.out)).mono ?_; clear H2; rintro e w3 ⟨rfl, hb⟩; have HB3 := hid (HB.out.trans (hb.mono HB.out.size)); clear hb)
          | (go_at_call 14; with_reducible refine (H3.out _ (HT.out.below HB3.out)).mono ?_; clear H3; rintro e w4 ⟨rfl, hb⟩; have HB4 := hid (HB3.out.trans (hb.mono HB3.out.size)); clear hb)
          | (go_at_call 10; refine (HA.out _ (HT.out.below HB4.out)).mono ?_; rintro e1 w5 ⟨rfl, hb5⟩)
        go_ret
        exact ⟨rfl, HB4.out.trans (hb5.mono HB4.out.size)⟩
    | true =>
      obtain ⟨x, hx, hx4, hl2, _⟩ := js_text hjs
      have hle := tx_least hx
      have hflx := flat_len x
      have hqx : (quP x).length ≤ s.length := by rw [qu_len]; omega
      have hqx2 : (quP x).length ≤ 20000 := by rw [qu_len]; omega
      have H3 := hid (fun W h => text_ok s x hs hjs hx W h)
      have H4 := hid (fun W => quote_any x hx4 W)
      have H5 := hid (fun W h => text_ok (quP x) x (by omega) (js_quote hx4).1 (js_quote hx4).2 W h)
      have f2 : ((mk x).toList == (mk x).toList) = true := by simp
      obtain ⟨R, HR⟩ : ∃ R, Hid (quP x = R) := ⟨_, rfl⟩
      rw [HR.out] at H4 H5 hqx
      have hszr := mk_size R
      have q3 : (R.length : Int) ≤ (s.length : Int) := by omega
      clear hjs hx hle hflx hqx2 hl2
      as_aux_lemma =>
        go_enter Tryd.func6, Tryd.ntmps6
        go_wp2_with first
          | (go_at_call 13; with_reducible refine H1.out.mono ?_; clear H1; rintro e w2 ⟨rfl, hb⟩; have HB := hid hb; clear hb)
          | (go_at_call 14; with_reducible refine (H2.out _ (HT.out.below HB.out)).mono ?_; clear H2; rintro e w3 ⟨rfl, hb⟩; have HB3 := hid (HB.out.trans (hb.mono HB.out.size)); clear hb)
          | (go_at_call 14; with_reducible refine (H3.out _ (HT.out.below HB3.out)).mono ?_; clear H3; rintro e w4 ⟨rfl, hb⟩; have HB4 := hid (HB3.out.trans (hb.mono HB3.out.size)); clear hb)
          | (go_at_call 13; with_reducible refine (H4.out _).mono ?_; clear H4; rintro e w5 ⟨rfl, hb⟩; have HB5 := hid (HB4.out.trans (hb.mono HB4.out.size)); clear hb)
          | (go_at_call 14; with_reducible refine (H5.out _ (HT.out.below HB5.out)).mono ?_; clear H5; rintro e w6 ⟨rfl, hb⟩; have HB6 := hid (HB5.out.trans (hb.mono HB5.out.size)); clear hb)
          | (go_at_call 10; refine (HA.out _ (HT.out.below HB6.out)).mono ?_; rintro e1 w7 ⟨rfl, hb7⟩)
        go_ret
        exact ⟨rfl, HB6.out.trans (hb7.mono HB6.out.size)⟩

end Go.Proofs.YtgihbllkjoegcabDoor

/- From what the rows list of the program's tables of texts to what the walks ask of the world. -/
namespace Go.Proofs.YtgihbllkjoegcabDoor
open Go.RowKit

def strD {H : Type} (ts : List (List UInt8)) : DataW H := .agg (ts.map fun t => .lit (.string t))
theorem cells_of_strs {H : Type} {enc : TypeId × Value → H} {P : Program} {w : World} {base : Nat} {sp : Nat → Bool} {held : Bool} {fuel : Nat} {t e : TypeId} {n : Nat} {cs : List Value} {ts : List (List UInt8)} {p : List MemPlace}
    (ht : P.underlying t = some (.array n e)) (he : P.underlying e = some .string) (hce : P.cellsOf e = 1) (hct : P.cellsOf t = n)
    (h : DataW.trod enc P w base sp held fuel t cs = some (strD ts, p)) : cs = strV ts := by
  cases fuel with
  | zero => simp [DataW.trod] at h
  | succ fuel =>
    simp only [DataW.trod, ht, hce, hct, Nat.mul_one] at h
    split at h
    · rename_i hl
      obtain ⟨xs, hm, hx⟩ := Option.map_eq_some_iff.1 h
      have hxs : xs.map (·.1) = ts.map fun z => (DataW.lit (.string z) : DataW H) := by
        have := congrArg Prod.fst hx
        simpa [strD] using this
      have hxl : xs.length = n := by simpa using Lib.mapM_length hm
      have hzl : ts.length = n := by
        have := congrArg List.length hxs
        simp at this
        omega
      apply List.ext_getElem?
      intro i
      by_cases hi : i < n
      · obtain ⟨b, hb, hf⟩ := Lib.mapM_at hm i i (by simp [hi])
        obtain ⟨s, hc, rfl, _⟩ := DataW.trod_string he hf
        have h1 : cs[i]? = some (.string s) := by
          have := congrArg (·[0]?) hc
          simpa [List.getElem?_take, List.getElem?_drop] using this
        have h2 : (xs.map (·.1))[i]? = some (DataW.lit (.string s.data.toList) : DataW H) := by simp [hb]
        rw [hxs] at h2
        simp only [List.getElem?_map, Option.map_eq_some_iff, DataW.lit.injEq, Lit.string.injEq] at h2
        obtain ⟨z', hz', he'⟩ := h2
        rw [h1]
        simp only [strV, List.getElem?_map, hz', Option.map_some, Option.some.injEq, Value.string.injEq]
        rw [he', ← bl_eq, mk_bl]
      · rw [List.getElem?_eq_none (by omega), List.getElem?_eq_none (by rw [strV_length]; omega)]
    · cases h
theorem strs_of_reads {P : Program} {w : World} {name : String} {d : DataW Unit} (hr : Lib.VarReads P w name d) (ts : List (List UInt8)) (g0 : Nat) (t e : TypeId) (n : Nat) (hg : P.globalNamed name = some g0) (hty : (P.globals[g0]?).map (·.type) = some t)
    (ht : P.underlying t = some (.array n e)) (he : P.underlying e = some .string) (hce : P.cellsOf e = 1) (hct : P.cellsOf t = n) (hd : d = strD ts) : w.rangeAt g0 0 (strV ts) ∧ g0 < w.heap.size := by
  obtain ⟨g, t', cs, fuel, p, h1, h2, h3, h4⟩ := hr
  obtain rfl : g0 = g := by rw [hg] at h1; exact Option.some.inj h1
  obtain rfl : t = t' := by rw [hty] at h2; exact Option.some.inj h2
  subst hd
  have hcs := cells_of_strs ht he hce hct h4
  unfold World.var? at h3
  rw [hg] at h3
  simp only [Option.bind_some] at h3
  cases hb : w.heap[g0]? with
  | none => rw [hb] at h3; cases h3
  | some o =>
    rw [hb] at h3
    refine ⟨?_, hp_lt hb⟩
    intro j v hv
    rw [Nat.zero_add]
    cases o with
    | cells C ty fr =>
      simp only [Option.some.injEq] at h3
      subst h3
      rw [cell_of_row w g0 j _ _ _ hb]
      have : C.toList[j]? = some v := by rw [hcs]; exact hv
      simpa using this
    | _ => cases h3

end Go.Proofs.YtgihbllkjoegcabDoor
