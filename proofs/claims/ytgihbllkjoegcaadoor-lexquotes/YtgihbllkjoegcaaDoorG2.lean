/- Contracts and pure facts that the proof needs, joined. -/
import Derived.Test.YtgihbllkjoegcaaDoorG1
import Derived.BigRegion
import Derived.Deep.RegionLaw
import Derived.Lib.LaidU8
import Derived.Lib.LaidTab

/- Slices of tokens: of one's own; appended. -/
namespace Go.Proofs.YtgihbllkjoegcaaDoor
open Go.RowKit

theorem Tryd.infoTok3 : (Tryd.prog.info? 24).map (fun i => (i.zero, i.size, i.bytes)) = some (some (.agg #[.int .i64 0, .int .i64 0, .int .i64 0]), 3, 24) := by kernel_rfl

/-- tokens as cells -/
def tv (L : List (Nat × Nat × Nat)) : List Value := L.flatMap tkC
theorem tv_app (A B : List (Nat × Nat × Nat)) : tv (A ++ B) = tv A ++ tv B := by simp [tv]
theorem tv_cons (x : Nat × Nat × Nat) (B : List (Nat × Nat × Nat)) : tv (x :: B) = .int .i64 x.1 :: .int .i64 x.2.1 :: .int .i64 x.2.2 :: tv B := rfl
theorem tv_len (L : List (Nat × Nat × Nat)) : (tv L).length = L.length * 3 := by
  induction L with
  | nil => rfl
  | cons x r ih => rw [tv_cons]; simp [ih]; omega
theorem tv_one (L : List (Nat × Nat × Nat)) : ∀ u ∈ tv L, u.oneCell' = true := by
  intro u hu
  simp only [tv, List.mem_flatMap] at hu
  obtain ⟨x, _, hu⟩ := hu
  exact tkC_one x u hu
theorem tv_get (L : List (Nat × Nat × Nat)) : ∀ (j : Nat), j < L.length → (tv L)[3 * j]? = some (.int .i64 (L.getD j (0, 0, 0)).1) ∧ (tv L)[3 * j + 1]? = some (.int .i64 (L.getD j (0, 0, 0)).2.1) ∧ (tv L)[3 * j + 2]? = some (.int .i64 (L.getD j (0, 0, 0)).2.2) := by
  induction L with
  | nil => intro j hj; simp at hj
  | cons x r ih =>
    intro j hj
    cases j with
    | zero => simp [tv_cons]
    | succ j =>
      have := ih j (by simpa using hj)
      rw [tv_cons, show 3 * (j + 1) = 3 * j + 1 + 1 + 1 by omega]
      simpa using this

def OwnT (w : World) (base : Nat) (v : Value) (L : List (Nat × Nat × Nat)) : Prop := w.ownsRow base 24 3 v L.length (tv L)
theorem OwnT.nil (w : World) (base : Nat) : OwnT w base (.slice none 0 0) [] := World.ownsRow_nil _ _ _ _
theorem OwnT.kept {w w' : World} {base : Nat} {v : Value} {L : List (Nat × Nat × Nat)} {row : Option Nat} (h : OwnT w base v L) (hg : w.grownBy w' row) (hne : v.ownBlock = none ∨ v.ownBlock ≠ row) : OwnT w' base v L := World.ownsRow.kept h hg hne
theorem OwnT.below {w w' : World} {base : Nat} {v : Value} {L : List (Nat × Nat × Nat)} (h : OwnT w base v L) (hb : Below w.heap.size w w') : OwnT w' base v L :=
  World.ownsRow.kept h (below_gb hb none) (by cases e : v.ownBlock <;> simp)
theorem OwnT.lt {w : World} {base : Nat} {v : Value} {L : List (Nat × Nat × Nat)} (h : OwnT w base v L) : ∀ k, v.ownBlock = some k → base ≤ k ∧ k < w.heap.size := World.ownsRow.lt h
theorem OwnT.shape {w : World} {base : Nat} {v : Value} {L : List (Nat × Nat × Nat)} (h : OwnT w base v L) : ∃ a cap, v = .slice a L.length cap := by
  rcases h.2 with ⟨rfl, h0⟩ | ⟨g, cap, cur, rfl, _⟩
  · exact ⟨none, 0, by rw [h0]⟩
  · exact ⟨_, _, rfl⟩
theorem OwnT.le {w : World} {base base' : Nat} {v : Value} {L : List (Nat × Nat × Nat)} (h : OwnT w base v L) (hb : base' ≤ base) : OwnT w base' v L :=
  ⟨h.1, h.2.elim Or.inl (fun ⟨g, cap, cur, hv, hg, r⟩ => Or.inr ⟨g, cap, cur, hv, Nat.le_trans hb hg, r⟩)⟩
/-- a token of a row -/
theorem OwnT.at {w : World} {base : Nat} {ao : Option Addr} {n c : Nat} {L : List (Nat × Nat × Nat)} (h : OwnT w base (.slice ao n c) L) (k : Nat) (hk : k < L.length) :
    ∃ g, ao = some ⟨g, 0, none⟩ ∧ ∀ j v, (tkC (L.getD k (0, 0, 0)))[j]? = some v → w.cell? ⟨g, k * 3 + j, none⟩ = some v := by
  have hh := h
  rcases h.2 with ⟨h0, h1⟩ | ⟨g, cap, cur, hv, hb, hk2, h1, _⟩
  · omega
  · injection hv with e1 e2 e3
    refine ⟨g, e1, fun j v hj => ?_⟩
    have hj3 : j < 3 := by
      rcases Nat.lt_or_ge j 3 with h | h
      · exact h
      · rw [List.getElem?_eq_none (by simpa [tkC] using h)] at hj; cases hj
    have ht := tv_get L k hk
    have hget : (tv L)[3 * k + j]? = some v := by
      match j, hj3 with
      | 0, _ => rw [Nat.add_zero, ht.1]; exact hj
      | 1, _ => rw [ht.2.1]; exact hj
      | 2, _ => rw [ht.2.2]; exact hj
    have := World.ownsRow.cells hh (g := g) (by rw [e1]; rfl) _ _ hget
    rw [addr_add, Nat.mul_comm] at this
    exact this

/-- append(own, one token) -/
theorem app_tok {w : World} {ops : Array Oper} {rest : List Oper} {o : Oper} {a : Act} {Q : Exit → Act → World → Prop} (hgd : o.guard = none) (s x : Operand)
    (ho : o.op = .call { callee := .builtin .append, args := #[s, x], argTypes := #[30, 30] })
    (base : Nat) (v : Value) (L : List (Nat × Nat × Nat)) (hs : a.eval s = v) (hown : OwnT w base v L) (g c : Nat) (M : List (Nat × Nat × Nat)) (hx : a.eval x = .slice (some ⟨g, 0, none⟩) M.length c)
    (hsrc : ∀ j u, (tv M)[j]? = some u → w.cell? ⟨g, j, none⟩ = some u) (hlen : L.length + M.length ≤ 1000000000000) (hbase : base ≤ w.heap.size)
    (h : ∀ v' w', OwnT w' base v' (L ++ M) → w.grownBy w' v.ownBlock → wpList Tryd.prog ops Q rest (a.put o.dst v') w') : wpList Tryd.prog ops Q (o :: rest) a w := by
  refine wpList_plain hgd fun K hK => ?_
  obtain ⟨i0, hi, hz0, hz1, hz2⟩ := info_parts Tryd.infoTok3
  obtain ⟨v', w', hr, h1, h2, _⟩ := run_append_own (P := Tryd.prog) w base 30 o.type 24 i0 (.agg #[.int .i64 0, .int .i64 0, .int .i64 0]) 3 24 Tryd.underlying30 hi hz0 hz1 hz2 rfl (by decide) v L.length (tv L) hown ⟨g, 0, none⟩ M.length c (tv M) (tv_len M) (fun j u hj => by rw [addr_add]; exact hsrc j u hj) (tv_one M) (by unfold maxLen; omega) (by omega) hbase
  unfold Oper.wp
  simp [execOp, ho, resolve, invoke, builtin, hs, hx, hr, Result.andThen]
  refine hK _ _ (h v' w' ?_ h2)
  unfold OwnT
  rw [tv_app, List.length_append]
  exact h1

end Go.Proofs.YtgihbllkjoegcaaDoor

/- The program's All. -/
namespace Go.Proofs.YtgihbllkjoegcaaDoor
open Go.RowKit

theorem results_tc {fn : Func} {p q : Tmp} {ty : TypeId} (h : fn.results = #[.tmp p, .cell q ty]) (tmps : Array Value) (P : Program) (w : World) :
    (results fn tmps).run P w = ((asAddr (tmps.getD q undef)).run P w).andThen fun a w₁ => ((loadVar ty a).run P w₁).andThen fun v w₂ => .ok (.tuple #[tmps.getD p undef, v]) w₂ := by
  simp only [results, h]
  simp [Sem.run_bind, Result.andThen]
theorem ret_tc {P : Program} {fn : Func} {R : Ending → World → Prop} {a : Act} {w : World} (p q : Tmp) (ty : TypeId) (h : fn.results = #[.tmp p, .cell q ty]) (v : Value) (hv : a.tmps.getD p undef = v) (g : Nat) (hp : a.tmps.getD q undef = .pointer (some ⟨g, 0, none⟩))
    (cs : List Value) (t : TypeId) (hb : w.heap[g]? = some (.cells cs.toArray t (0, 0))) (d : TypeDesc) (hu : P.underlying ty = some d) (hd : d.isRow = true) (hi : (P.info? ty).map (·.size) = some cs.length)
    (hdf : a.defers = []) (hR : R (.returned (.tuple #[v, .agg cs.toArray])) w) : bodyPost P fn R .ret a w := by
  refine bodyPost_ret (v := .tuple #[v, .agg cs.toArray]) ?_ hdf hR
  rw [results_tc h, hp, hv]
  have := run_loadVar_mid (P := P) w g 0 ty cs d (fun j v hv => by rw [Nat.zero_add, cell_of_row w g j cs.toArray t (0, 0) hb]; simpa using hv) hu hd hi
  simp [asAddr, this]

/-- a token into a variable that was made last -/
theorem st_tok {w : World} {ops : Array Oper} {rest : List Oper} {o : Oper} {a : Act} {Q : Exit → Act → World → Prop} (hgd : o.guard = none) (x y : Operand) (ho : o.op = .store 24 x y)
    (t : Nat × Nat × Nat) (hx : a.eval x = .pointer (some ⟨w.heap.size, 0, none⟩)) (hy : a.eval y = .agg #[.int .i64 t.1, .int .i64 t.2.1, .int .i64 t.2.2])
    (old : Array Value) (hold : old.size = 3)
    (h : ∀ wz, wz.heap.size = w.heap.size + 1 → wz.heap[w.heap.size]? = some (.cells #[.int .i64 t.1, .int .i64 t.2.1, .int .i64 t.2.2] 24 (0, 0)) → Below w.heap.size w wz → wpList Tryd.prog ops Q rest (a.put o.dst undef) wz) :
    wpList Tryd.prog ops Q (o :: rest) a (w.alloc (.cells old 24)) :=
  st_new hgd 24 x y ho (tkC t) hx hy 24 old Tryd.infoTok hold (tkC_one t) (h _ (hp_size _ _) (hp_new _ _) (below_walk _ _))

theorem nx_view {l : List UInt8} {a : Nat} (ha : a ≤ l.length) :
    (65536 < l.length ∧ nxP l (a : Int) = ((0, 0, 0), 3)) ∨ (l.length ≤ 65536 ∧ ((frP l a = l.length ∧ tkP l a = (0, 0, 0) ∧ nxP l (a : Int) = ((0, frP l a, frP l a), 0)) ∨ (∃ e : Int, 120 ≤ e ∧ e ≤ 123 ∧ frP l a < l.length ∧ tkP l a = (0, 0, e) ∧ nxP l (a : Int) = ((0, frP l a, 0), e)) ∨
      ∃ k n : Nat, tkP l a = (k, n, 0) ∧ 1 ≤ k ∧ k ≤ 5 ∧ 1 ≤ n ∧ frP l a + n ≤ l.length ∧ nxP l (a : Int) = ((k, frP l a, frP l a + n), 0))) := by
  by_cases hl : 65536 < l.length
  · refine Or.inl ⟨hl, ?_⟩
    have : plN l (a : Int) = 3 := by unfold plN; rw [if_pos hl]
    unfold nxP
    rw [this, if_pos (by decide)]
  · refine Or.inr ⟨by omega, ?_⟩
    have hp : plN l (a : Int) = 0 := by unfold plN; rw [if_neg hl, if_neg (by omega)]
    have e0 : nxP l (a : Int) = if (tkP l a).2.2 ≠ 0 then ((0, frP l a, 0), (tkP l a).2.2) else (((tkP l a).1, frP l a, frP l a + (tkP l a).2.1), 0) := by
      unfold nxP
      rw [hp, if_neg (by simp)]
      simp only [Int.toNat_natCast]
    rcases tk_view ha with ⟨v1, v2⟩ | ⟨v1, e, v2, v3, v4⟩ | ⟨kk, n, v1, v2, v3, v4, v5⟩
    · refine Or.inl ⟨v1, v2, ?_⟩
      rw [e0, v2]; simp
    · refine Or.inr (Or.inl ⟨e, v2, v3, v1, v4, ?_⟩)
      rw [e0, v4, if_pos (by simp; omega)]
    · refine Or.inr (Or.inr ⟨kk, n, v1, v2, v3, v4, v5, ?_⟩)
      rw [e0, v1, if_neg (by simp)]

theorem src_tok (wz : World) (t : Nat × Nat × Nat) : ∀ j u, (tv [t])[j]? = some u → (wz.alloc (.cells #[.int .i64 t.1, .int .i64 t.2.1, .int .i64 t.2.2] 24)).cell? ⟨wz.heap.size, j, none⟩ = some u := by
  intro j u hj
  rw [cell_of_row _ _ _ _ _ _ (hp_new _ _)]
  rw [show tv [t] = [.int .i64 t.1, .int .i64 t.2.1, .int .i64 t.2.2] from rfl] at hj
  simpa using hj

/-- what All answers: the tokens, why, where -/
def alP (l : List UInt8) : List (Nat × Nat × Nat) × Int × Nat := if 65536 < l.length then ([], 3, 0) else if (allP l 0).2.1 = 0 then ((allP l 0).1, 0, 0) else ([], (allP l 0).2)
/-- tokens so far -/
def Lt (l : List UInt8) (a : Nat) (ts : List (Nat × Nat × Nat)) : Prop := a ≤ l.length ∧ ts.length ≤ a ∧ allP l 0 = (ts ++ (allP l a).1, (allP l a).2)
theorem Lt.zero (l : List UInt8) : Lt l 0 [] := ⟨Nat.zero_le _, Nat.le_refl _, rfl⟩
theorem Lt.more {l : List UInt8} {a k n : Nat} {ts : List (Nat × Nat × Nat)} (h : Lt l a ts) (ht : tkP l a = (k, n, 0)) (hk : k ≠ 0) : Lt l (frP l a + n) (ts ++ [(k, frP l a, frP l a + n)]) := by
  have hs := tok_size ht hk
  rw [List.length_drop] at hs
  have hf := frP_le h.1
  refine ⟨by omega, by rw [List.length_append]; have := h.2.1; simp; omega, ?_⟩
  rw [h.2.2, all_step ht hk h.1]
  simp
theorem Lt.bad {l : List UInt8} {a k n : Nat} {e : Int} {ts : List (Nat × Nat × Nat)} (h : Lt l a ts) (hl : l.length ≤ 65536) (ht : tkP l a = (k, n, e)) (he : e ≠ 0) : alP l = ([], e, frP l a) := by
  unfold alP
  rw [if_neg (by omega), h.2.2, all_bad ht he, if_neg he]
theorem Lt.last {l : List UInt8} {a n : Nat} {ts : List (Nat × Nat × Nat)} (h : Lt l a ts) (hl : l.length ≤ 65536) (ht : tkP l a = (0, n, 0)) : alP l = (ts ++ [(0, frP l a, frP l a)], 0, 0) := by
  unfold alP
  rw [if_neg (by omega), h.2.2, all_end ht, if_pos rfl]

set_option maxHeartbeats 4000000 in
theorem all_any (l : List UInt8) (hl : l.length ≤ 140737488355328) (w : World) (hT : Tabs w) :
    Calls Tryd.prog 12 #[.string (mk l)] w fun e w' => ∃ v, e = .returned (.tuple #[v, .agg #[.int .i64 (alP l).2.1, .int .i64 ((alP l).2.2 : Nat)]]) ∧ OwnT w' w.heap.size v (alP l).1 ∧ Below w.heap.size w w' := by
  have H0 := hid (Lt.zero l)
  have HT := hid hT
  clear hT
  go_enter Tryd.func12, Tryd.ntmps12
  go_wp2
  go_loopw [4, 5] (fun v i wr => ∃ (a : Nat) (ts : List (Nat × Nat × Nat)), i = .int .i64 a ∧ Lt l a ts ∧ OwnT wr (w.heap.size + 1) v ts ∧ Below (w.heap.size + 1) (w.alloc (.cells #[.int .i64 0, .int .i64 0] 32)) wr) (fun _ i _ => l.length - (intOf i).toNat)
  case atStart => exact ⟨0, [], rfl, H0.out, OwnT.nil _ _, Below.refl _ _⟩
  case round =>
    obtain ⟨a, ts, rfl, HL, HO, HB⟩ := hrel
    have HL : Hid (Lt l a ts) := HL
    have HO : Hid (OwnT wr (w.heap.size + 1) _ ts) := HO
    have HB : Hid (Below (w.heap.size + 1) (w.alloc (.cells #[.int .i64 0, .int .i64 0] 32)) wr) := HB
    have hsz : w.heap.size + 1 ≤ wr.heap.size := by have := HB.out.size; rw [hp_size] at this; exact this
    have HB0 : Hid (Below w.heap.size w wr) := ((below_walk w _).trans (HB.out.mono (by omega)))
    have hblk : wr.heap[w.heap.size]? = some (.cells #[.int .i64 0, .int .i64 0] 32 (0, 0)) := by
      rw [HB.out.block _ (by omega)]; exact hp_new _ _
    have HBK := hid hblk
    have HN := hid (next_any l hl (a : Int) wr (HT.out.below HB0.out))
    clear hblk
    obtain ⟨sa, sc, rfl⟩ := HO.out.shape
    have key : (∃ (e : Int) (f : Nat), e ≠ 0 ∧ nxP l (a : Int) = ((0, f, 0), e) ∧ alP l = ([], e, f)) ∨ (∃ f : Nat, l.length ≤ 65536 ∧ nxP l (a : Int) = ((0, f, f), 0) ∧ alP l = (ts ++ [(0, f, f)], 0, 0)) ∨
        (∃ k f n : Nat, l.length ≤ 65536 ∧ k ≠ 0 ∧ a < f + n ∧ f + n ≤ l.length ∧ nxP l (a : Int) = ((k, f, f + n), 0) ∧ Lt l (f + n) (ts ++ [(k, f, f + n)])) := by
      rcases nx_view HL.out.1 with ⟨v1, v2⟩ | ⟨v0, ⟨v1, v2, v3⟩ | ⟨e, v1, v2, v3, v4, v5⟩ | ⟨k, n, v1, v2, v3, v4, v5, v6⟩⟩
      · exact Or.inl ⟨3, 0, by decide, v2, by unfold alP; rw [if_pos v1]⟩
      · exact Or.inr (Or.inl ⟨_, v0, v3, HL.out.last v0 v2⟩)
      · exact Or.inl ⟨e, _, by omega, v5, HL.out.bad v0 v4 (by omega)⟩
      · exact Or.inr (Or.inr ⟨k, _, n, v0, by omega, by have := (frP_le HL.out.1).1; omega, v5, v6, HL.out.more v1 (by omega)⟩)
    rcases key with ⟨e, f, he, v5, hfin⟩ | ⟨f, v0, v5, hfin⟩ | ⟨k, f, n, v0, hk, hkn, hkl, v5, hfin⟩
    · have FIN := hid hfin
      rw [v5] at HN
      have he0 : ¬ e = 0 := he
      clear v5 he hfin
      have HN : Hid (Calls Tryd.prog 9 #[.string (mk l), .int .i64 (a : Int)] wr fun e1 w' => e1 = .returned (.tuple #[.agg #[.int .i64 0, .int .i64 (f : Int), .int .i64 0], .int .i64 e]) ∧ Below wr.heap.size wr w') := HN
      go_wp2_with first
        | (go_at_call 9; refine HN.out.mono ?_; rintro e1 w2 ⟨rfl, HB2⟩)
        | (refine st_tok (by rfl) (.tmp 6) (.tmp 12) (by rfl) (0, f, 0) (by rfl) (by rfl) _ (by rfl) ?_; intro wz hz1 hz2 hz3)
      have HBZ : Hid (wz.heap[w.heap.size]? = some (.cells #[.int .i64 0, .int .i64 0] 32 (0, 0))) := by
        show wz.heap[w.heap.size]? = _
        have e2 := HB2.size
        rw [hz3.block _ (by omega), HB2.block _ (by omega)]; exact HBK.out
      have c1 : wz.cell? ⟨w2.heap.size, 1, none⟩ = some (.int .i64 (f : Int)) := by rw [cell_of_row _ _ _ _ _ _ hz2]; rfl
      have d0 : wz.cell? ⟨w.heap.size, 0, none⟩ = some (.int .i64 0) := by rw [cell_of_row _ _ _ _ _ _ HBZ.out]; rfl
      have d1 : wz.cell? ⟨w.heap.size, 1, none⟩ = some (.int .i64 0) := by rw [cell_of_row _ _ _ _ _ _ HBZ.out]; rfl
      have f0 : wz.frozen? ⟨w.heap.size, 0, none⟩ = false := by simp [World.frozen?, HBZ.out]
      have f1 : wz.frozen? ⟨w.heap.size, 1, none⟩ = false := by simp [World.frozen?, HBZ.out]
      have HZ3 : Hid (Below w.heap.size w wz) := HB0.out.trans ((HB2.mono (by omega)).trans (hz3.mono (by have := HB2.size; omega)))
      clear hz2 hz3
      go_region
      have e3 : ((wz.setCell ⟨w.heap.size, 0, none⟩ (.int .i64 e)).setCell ⟨w.heap.size, 1, none⟩ (.int .i64 (f : Int))).drew.heap[w.heap.size]? = some (.cells [Value.int .i64 e, .int .i64 (f : Int)].toArray 32 (0, 0)) := blk_set (blk_set HBZ.out _) _
      have e4 : Below w.heap.size w ((wz.setCell ⟨w.heap.size, 0, none⟩ (.int .i64 e)).setCell ⟨w.heap.size, 1, none⟩ (.int .i64 (f : Int))).drew := ((HZ3.out.setCell (Nat.le_refl _) _).setCell (Nat.le_refl _) _).drew
      generalize ((wz.setCell ⟨w.heap.size, 0, none⟩ (.int .i64 e)).setCell ⟨w.heap.size, 1, none⟩ (.int .i64 (f : Int))).drew = w3 at *
      have E3 := hid e3
      have E4 := hid e4
      clear e3 e4 c1 d0 d1 f0 f1
      go_wp2
      refine ret_tc 2 3 32 rfl _ rfl _ rfl _ _ E3.out _ Tryd.underlying32 rfl (by kernel_rfl) rfl ⟨.slice none 0 0, ?_, ?_, E4.out⟩
      · rw [FIN.out]
        rfl
      · rw [FIN.out]
        exact OwnT.nil _ _
    · have FIN := hid hfin
      rw [v5] at HN
      clear v5 hfin
      have HN : Hid (Calls Tryd.prog 9 #[.string (mk l), .int .i64 (a : Int)] wr fun e1 w' => e1 = .returned (.tuple #[.agg #[.int .i64 (0 : Nat), .int .i64 (f : Nat), .int .i64 (f : Nat)], .int .i64 0]) ∧ Below wr.heap.size wr w') := HN
      go_wp2_with first
        | (go_at_call 9; refine HN.out.mono ?_; rintro e1 w2 ⟨rfl, HB2⟩)
        | (refine st_tok (by rfl) (.tmp 6) (.tmp 12) (by rfl) (0, f, f) (by rfl) (by rfl) _ (by rfl) ?_; intro wz hz1 hz2 hz3; have HZ2 := hid hz2; have HB2' := hid HB2; have HZ3 := hid hz3; have HZ1 := hid hz1; clear hz1 hz2 hz3 HB2)
        | (refine ld_row (by rfl) 24 (.tmp 6) (by rfl) w2.heap.size (by rfl) (tkC (0, f, f)) 24 HZ2.out _ Tryd.underlying24 rfl Tryd.infoTok ?_; unfold tkC)
        | (refine st_row (by rfl) 32 (.tmp 3) (.tmp 28) (by rfl) w.heap.size [.int .i64 0, .int .i64 0] (by rfl) (by rfl) 32 _ HBF.out (by kernel_rfl) (by rfl) (by intro v hv; simp at hv; rw [hv]; rfl) ?_; intro w5 hw5)
        | (refine app_tok (by rfl) (.tmp 20) (.tmp 22) (by rfl) (w.heap.size + 1) _ ts (by rfl) (((HO.out.below HB2'.out).below (HZ3.out.mono (Nat.le_refl _))).below (below_walk _ _)) wz.heap.size 1 [(0, f, f)] (by rfl) (src_tok wz _) (by have := HL.out.2.1; have := HL.out.1; simp; omega) (by rw [hp_size]; have := HB2'.out.size; have := HZ1.out; omega) ?_
           intro v' w4 ho hg
           have HO4 := hid ho
           have hne : ∀ q, (Value.slice sa ts.length sc).ownBlock = some q → q < wr.heap.size := fun q hq => (HO.out.lt q hq).2
           have HS2 := hid HB2'.out.size
           have hz4 : w4.heap[w2.heap.size]? = some (.cells #[.int .i64 (0 : Nat), .int .i64 (f : Nat), .int .i64 (f : Nat)] 24 (0, 0)) := by
             rw [hg.block w2.heap.size (by rw [hp_size]; have := HZ1.out; omega) (fun e => by have := hne _ e.symm; have := HS2.out; omega), hp_old _ _ _ (by have := HZ1.out; omega)]
             exact HZ2.out
           have HB4 : Hid (Below (w.heap.size + 1) (w.alloc (.cells #[.int .i64 0, .int .i64 0] 32)) w4) := by
             have b1 : Below (w.heap.size + 1) (w.alloc (.cells #[.int .i64 0, .int .i64 0] 32)) (wz.alloc (.cells #[.int .i64 (0 : Nat), .int .i64 (f : Nat), .int .i64 (f : Nat)] 24)) :=
               ((HB.out.trans (HB2'.out.mono (by omega))).trans (HZ3.out.mono (by have := HS2.out; omega))).trans ((below_walk _ _).mono (by have := HS2.out; have := HZ1.out; omega))
             exact b1.grown hg (by rw [hp_size]; have := HS2.out; have := HZ1.out; omega) (fun q hq => (HO.out.lt q hq).1)
           have HBF : Hid (w4.heap[w.heap.size]? = some (.cells #[.int .i64 0, .int .i64 0] 32 (0, 0))) := by
             show w4.heap[w.heap.size]? = _
             rw [HB4.out.block _ (by omega)]; exact hp_new _ _
           have c0 : w4.cell? ⟨w2.heap.size, 0, none⟩ = some (.int .i64 (0 : Nat)) := by rw [cell_of_row _ _ _ _ _ _ hz4]; rfl
           have c2 : w4.cell? ⟨w2.heap.size, 2, none⟩ = some (.int .i64 (f : Nat)) := by rw [cell_of_row _ _ _ _ _ _ hz4]; rfl
           obtain ⟨sa2, sc2, rfl⟩ := HO4.out.shape
           have HL4 : Hid ((ts ++ [(0, f, f)]).length = ts.length + 1) := by show _ = _; simp
           rw [HL4.out]
           rw [HL4.out] at HO4
           clear ho hg hne hz4 HN)
      refine ret_tc 2 3 32 rfl _ rfl _ rfl _ _ hw5.blk _ Tryd.underlying32 rfl (by kernel_rfl) rfl ⟨.slice sa2 (ts.length + 1) sc2, ?_, ?_, ?_⟩
      · rw [FIN.out]
        rfl
      · rw [FIN.out]
        exact (HO4.out.kept hw5.grown (Or.inr (fun e => by have := (HO4.out.lt _ e).1; omega))).le (by omega)
      · exact below_rs hw5 ((below_walk w _).trans (HB4.out.mono (by omega))) (Nat.le_refl _)
    · have FIN := hid hfin
      rw [v5] at HN
      have hk0 : ¬ (k : Int) = 0 := by omega
      obtain ⟨m, HM⟩ : ∃ m, Hid (f + n = m) := ⟨_, rfl⟩
      rw [HM.out] at HN FIN hkn hkl
      clear v5 hfin hk
      have HN : Hid (Calls Tryd.prog 9 #[.string (mk l), .int .i64 (a : Int)] wr fun e1 w' => e1 = .returned (.tuple #[.agg #[.int .i64 (k : Nat), .int .i64 (f : Nat), .int .i64 (m : Nat)], .int .i64 0]) ∧ Below wr.heap.size wr w') := HN
      go_wp2_with first
        | (go_at_call 9; refine HN.out.mono ?_; rintro e1 w2 ⟨rfl, HB2⟩)
        | (refine st_tok (by rfl) (.tmp 6) (.tmp 12) (by rfl) (k, f, m) (by rfl) (by rfl) _ (by rfl) ?_; intro wz hz1 hz2 hz3; have HZ2 := hid hz2; have HB2' := hid HB2; have HZ3 := hid hz3; have HZ1 := hid hz1; clear hz1 hz2 hz3 HB2)
        | (refine ld_row (by rfl) 24 (.tmp 6) (by rfl) w2.heap.size (by rfl) (tkC (k, f, m)) 24 HZ2.out _ Tryd.underlying24 rfl Tryd.infoTok ?_; unfold tkC)
        | (refine app_tok (by rfl) (.tmp 20) (.tmp 22) (by rfl) (w.heap.size + 1) _ ts (by rfl) (((HO.out.below HB2'.out).below (HZ3.out.mono (Nat.le_refl _))).below (below_walk _ _)) wz.heap.size 1 [(k, f, m)] (by rfl) (src_tok wz _) (by have := HL.out.2.1; have := HL.out.1; simp; omega) (by rw [hp_size]; have := HB2'.out.size; have := HZ1.out; omega) ?_
           intro v' w4 ho hg
           have HO4 := hid ho
           have hne : ∀ q, (Value.slice sa ts.length sc).ownBlock = some q → q < wr.heap.size := fun q hq => (HO.out.lt q hq).2
           have HS2 := hid HB2'.out.size
           have hz4 : w4.heap[w2.heap.size]? = some (.cells #[.int .i64 (k : Nat), .int .i64 (f : Nat), .int .i64 (m : Nat)] 24 (0, 0)) := by
             rw [hg.block w2.heap.size (by rw [hp_size]; have := HZ1.out; omega) (fun e => by have := hne _ e.symm; have := HS2.out; omega), hp_old _ _ _ (by have := HZ1.out; omega)]
             exact HZ2.out
           have HB4 : Hid (Below (w.heap.size + 1) (w.alloc (.cells #[.int .i64 0, .int .i64 0] 32)) w4) := by
             have b1 : Below (w.heap.size + 1) (w.alloc (.cells #[.int .i64 0, .int .i64 0] 32)) (wz.alloc (.cells #[.int .i64 (k : Nat), .int .i64 (f : Nat), .int .i64 (m : Nat)] 24)) :=
               ((HB.out.trans (HB2'.out.mono (by omega))).trans (HZ3.out.mono (by have := HS2.out; omega))).trans ((below_walk _ _).mono (by have := HS2.out; have := HZ1.out; omega))
             exact b1.grown hg (by rw [hp_size]; have := HS2.out; have := HZ1.out; omega) (fun q hq => (HO.out.lt q hq).1)
           have HBF : Hid (w4.heap[w.heap.size]? = some (.cells #[.int .i64 0, .int .i64 0] 32 (0, 0))) := by
             show w4.heap[w.heap.size]? = _
             rw [HB4.out.block _ (by omega)]; exact hp_new _ _
           have c0 : w4.cell? ⟨w2.heap.size, 0, none⟩ = some (.int .i64 (k : Nat)) := by rw [cell_of_row _ _ _ _ _ _ hz4]; rfl
           have c2 : w4.cell? ⟨w2.heap.size, 2, none⟩ = some (.int .i64 (m : Nat)) := by rw [cell_of_row _ _ _ _ _ _ hz4]; rfl
           obtain ⟨sa2, sc2, rfl⟩ := HO4.out.shape
           have HL4 : Hid ((ts ++ [(k, f, m)]).length = ts.length + 1) := by show _ = _; simp
           rw [HL4.out]
           rw [HL4.out] at HO4
           clear ho hg hne hz4 HN)
      exact ⟨⟨m, _, by simp, by rw [← HM.out]; exact (HM.out ▸ FIN.out), HO4.out, HB4.out⟩, by simp [intOf]; omega⟩

end Go.Proofs.YtgihbllkjoegcaaDoor

/- Word and Key; what must come, whatever else is so. -/
namespace Go.Proofs.YtgihbllkjoegcaaDoor
open Go.RowKit

/-- one token of a kind, and nothing else -/
def jsP (k : Nat) (l : List UInt8) : Bool := decide (tokP l = (k, l.length, 0))

set_option maxHeartbeats 1000000 in
theorem just_any (k : Nat) (l : List UInt8) (hl : l.length ≤ 140737488355328) (w : World) (hT : Tabs w) :
    Calls Tryd.prog 32 #[.int .i64 (k : Nat), .string (mk l)] w fun e w' => e = .returned (.bool (jsP k l)) ∧ ∃ n, w' = w.drewN n := by
  have hsz := mk_size l
  have H1 := hid (token_any l hl w hT)
  clear hT
  obtain ⟨⟨x, y, z⟩, HX⟩ : ∃ r, Hid (tokP l = r) := ⟨_, rfl⟩
  rw [HX.out] at H1
  unfold tokV at H1
  go_enter Tryd.func32, Tryd.ntmps32
  go_wp2_with (go_at_call 29; refine H1.out.mono ?_; rintro e w' ⟨rfl, m, rfl⟩)
  all_goals go_ret
  all_goals refine ⟨ret_b ?_, _, rfl⟩
  all_goals unfold jsP
  all_goals rw [HX.out]
  all_goals simp only [decide_eq_true_eq, Prod.mk.injEq, Bool.false_eq_true, false_iff]
  all_goals simp_all
  all_goals omega

set_option maxHeartbeats 1000000 in
theorem word_is (l : List UInt8) (hl : l.length ≤ 140737488355328) (w : World) (hT : Tabs w) :
    Calls Tryd.prog 19 #[.string (mk l)] w fun e w' => e = .returned (.bool (jsP 1 l)) ∧ ∃ n, w' = w.drewN n := by
  have H1 := hid (just_any 1 l hl w hT)
  clear hT
  go_enter Tryd.func19, Tryd.ntmps19
  go_wp2_with (go_at_call 32; refine H1.out.mono ?_; rintro e w' ⟨rfl, m, rfl⟩)
  go_ret
  exact ⟨rfl, _, rfl⟩

set_option maxHeartbeats 1000000 in
theorem key_is (l : List UInt8) (hl : l.length ≤ 140737488355328) (w : World) (hT : Tabs w) :
    Calls Tryd.prog 21 #[.string (mk l)] w fun e w' => e = .returned (.bool (jsP 4 l)) ∧ ∃ n, w' = w.drewN n := by
  have H1 := hid (just_any 4 l hl w hT)
  clear hT
  go_enter Tryd.func21, Tryd.ntmps21
  go_wp2_with (go_at_call 32; refine H1.out.mono ?_; rintro e w' ⟨rfl, m, rfl⟩)
  go_ret
  exact ⟨rfl, _, rfl⟩

theorem aw_all : alP [97, 60, 61, 98, 32, 47, 47, 32, 120] = ([(1, 0, 1), (5, 1, 3), (1, 3, 4), (0, 9, 9)], 0, 0) := by
  have t0 : tkP [97, 60, 61, 98, 32, 47, 47, 32, 120] 0 = (1, 1, 0) := by decide +kernel
  have t1 : tkP [97, 60, 61, 98, 32, 47, 47, 32, 120] 1 = (5, 2, 0) := by decide +kernel
  have t2 : tkP [97, 60, 61, 98, 32, 47, 47, 32, 120] 3 = (1, 1, 0) := by decide +kernel
  have t3 : tkP [97, 60, 61, 98, 32, 47, 47, 32, 120] 4 = (0, 0, 0) := by decide +kernel
  have f0 : frP [97, 60, 61, 98, 32, 47, 47, 32, 120] 0 = 0 := by decide +kernel
  have f1 : frP [97, 60, 61, 98, 32, 47, 47, 32, 120] 1 = 1 := by decide +kernel
  have f2 : frP [97, 60, 61, 98, 32, 47, 47, 32, 120] 3 = 3 := by decide +kernel
  have f3 : frP [97, 60, 61, 98, 32, 47, 47, 32, 120] 4 = 9 := by decide +kernel
  unfold alP
  rw [if_neg (by decide), all_step t0 (by decide) (by decide), f0, all_step t1 (by decide) (by decide), f1, all_step t2 (by decide) (by decide), f2, all_end t3, f3]
  rfl
theorem aw_if : jsP 4 [105, 102] = true := by decide +kernel
theorem aw_x1 : jsP 1 [120, 49] = true := by decide +kernel

set_option maxHeartbeats 2000000 in
theorem awake_any (w : World) (hT : Tabs w) :
    Calls Tryd.prog 11 #[] w fun e w' => e = .returned (.bool true) ∧ Below w.heap.size w w' := by
  have H1 := all_any [97, 60, 61, 98, 32, 47, 47, 32, 120] (by decide) w hT
  rw [aw_all] at H1
  have H1 : Hid (Calls Tryd.prog 12 #[.string ⟨#[97, 60, 61, 98, 32, 47, 47, 32, 120]⟩] w fun e w' => ∃ v, e = .returned (.tuple #[v, .agg #[.int .i64 0, .int .i64 0]]) ∧ OwnT w' w.heap.size v [(1, 0, 1), (5, 1, 3), (1, 3, 4), (0, 9, 9)] ∧ Below w.heap.size w w') := H1
  have H2 : Hid (∀ w, Tabs w → Calls Tryd.prog 21 #[.string ⟨#[105, 102]⟩] w fun e w' => e = .returned (.bool true) ∧ ∃ n, w' = w.drewN n) := fun w h => by
    have := key_is [105, 102] (by decide) w h
    rw [aw_if] at this
    exact this
  have H3 : Hid (∀ w, Tabs w → Calls Tryd.prog 19 #[.string ⟨#[120, 49]⟩] w fun e w' => e = .returned (.bool true) ∧ ∃ n, w' = w.drewN n) := fun w h => by
    have := word_is [120, 49] (by decide) w h
    rw [aw_x1] at this
    exact this
  have HT := hid hT
  clear hT
  go_enter Tryd.func11, Tryd.ntmps11
  go_wp2_with first
    | (go_at_call 12; refine H1.out.mono ?_; rintro e w2 ⟨v, rfl, ho, hb⟩
       obtain ⟨sa, sc, rfl⟩ := ho.shape
       obtain ⟨g, rfl, hc⟩ := ho.at 1 (by decide)
       have hlt := (ho.lt g rfl).2
       have HB := hid hb
       have HO := hid ho
       have c0 := hc 0 _ rfl
       have c1 := hc 1 _ rfl
       have c2 := hc 2 _ rfl
       clear ho hb hc)
    | (go_at_call 21; refine (H2.out _ (HT.out.below (HB.out.alloc HB.out.size _))).mono ?_; rintro e w' ⟨rfl, m, rfl⟩)
    | (go_at_call 19; refine (H3.out _ ((HT.out.below (HB.out.alloc HB.out.size _)).drewN _)).mono ?_; rintro e w' ⟨rfl, m2, rfl⟩)
  go_ret
  exact ⟨rfl, below_drewN (HB.out.alloc HB.out.size _) _⟩

end Go.Proofs.YtgihbllkjoegcaaDoor

/- The program's Quote and Text. -/
namespace Go.Proofs.YtgihbllkjoegcaaDoor
open Go.RowKit

theorem bq_new (w : World) : Bq (w.alloc (.cells #[.pointer none, .slice none 0 0] 56)) w.heap.size w.heap.size [] :=
  Or.inl ⟨Nat.le_refl _, _, hp_new _ _, World.ownsRow_nil _ _ _ _, by simp [Value.ownBlock]⟩

/-- String of a builder -/
theorem bstr_any (B b : Nat) (bs : List UInt8) (w : World) (h : Bq w B b bs) (hBw : B ≤ w.heap.size) :
    Calls Tryd.prog 37 #[.pointer (some ⟨b, 0, none⟩)] w fun e w' => e = .returned (.string (mk bs)) ∧ Below B w w' :=
  (Tryd.Builder_String_any_k B b bs w (Lib.IsBuilderF.of h) hBw).mono fun _ _ ⟨h1, _, h3, _⟩ => ⟨h1, h3⟩

set_option maxHeartbeats 2000000 in
theorem quote_long (v : List UInt8) (hv : 4096 < v.length) (w : World) :
    Calls Tryd.prog 23 #[.string (mk v)] w fun e w' => e = .returned (.tuple #[.string ⟨#[]⟩, .int .i64 3]) ∧ Below w.heap.size w w' := by
  have hsz := mk_size v
  have q1 : (4096 : Int) < (v.length : Int) := by omega
  go_enter Tryd.func23, Tryd.ntmps23
  go_wp2
  go_ret2
  exact ⟨rfl, Below.refl _ _⟩

set_option maxHeartbeats 2000000 in
theorem quote_any (v : List UInt8) (hv : v.length ≤ 4096) (w : World) :
    Calls Tryd.prog 23 #[.string (mk v)] w fun e w' => e = .returned (.tuple #[.string (mk (quP v)), .int .i64 0]) ∧ Below w.heap.size w w' := by
  have hsz := mk_size v
  have q1 : ¬ (4096 : Int) < (v.length : Int) := by omega
  have HW1 : Hid (∀ w' b, Bq w' w.heap.size b [] → w.heap.size ≤ w'.heap.size → Calls Tryd.prog 36 #[.pointer (some ⟨b, 0, none⟩), .int .u8 34] w' fun e w2 => e = .returned .nilIface ∧ Bq w2 w.heap.size b [34] ∧ Below w.heap.size w' w2) := fun w' b h hb => wbyte_any _ b [] 34 w' h (by simp) hb
  go_enter Tryd.func23, Tryd.ntmps23
  go_wp2_with (go_at_call 36; refine (HW1.out _ _ (bq_new w) (by rw [hp_size]; omega)).mono ?_; clear HW1; rintro e w2 ⟨rfl, hq, hb⟩; have HQ2 := hid hq; have HB2 := hid ((below_walk w _).trans hb); clear hq hb)
  go_loopw [12] (fun i wr => ∃ k : Nat, i = .int .i64 k ∧ k ≤ v.length ∧ Bq wr w.heap.size w.heap.size (34 :: (v.take k).flatMap qpP) ∧ Below w.heap.size w wr) (fun i _ => v.length - (intOf i).toNat)
  case atStart => exact ⟨0, rfl, Nat.zero_le _, HQ2.out, HB2.out⟩
  case round =>
    obtain ⟨k, rfl, hk, HQ, HB⟩ := hrel
    have HQ : Hid (Bq wr w.heap.size w.heap.size (34 :: (v.take k).flatMap qpP)) := HQ
    have HB : Hid (Below w.heap.size w wr) := HB
    have hfl := flat_len (v.take k)
    rw [List.length_take] at hfl
    by_cases hlt : k < v.length
    · have q2 : (k : Int) < (v.length : Int) := by omega
      have i1 := at_mk v k hlt
      obtain ⟨c, HC⟩ : ∃ c : UInt8, Hid (v.getD k 0 = c) := ⟨_, rfl⟩
      rw [HC.out] at i1
      have HP := hid (wpiece_any _ _ (34 :: (v.take k).flatMap qpP) c wr HQ.out (by simp only [List.length_cons]; omega) HB.out.size)
      have HE : Hid (34 :: (v.take k).flatMap qpP ++ qpP c = 34 :: (v.take (k + 1)).flatMap qpP) := by
        show _ = _
        rw [List.take_succ_eq_append_getElem hlt, List.flatMap_append]
        have : v[k] = c := by have := HC.out; simpa [List.getD_eq_getElem?_getD, hlt] using this
        rw [this]
        simp
      rw [HE.out] at HP
      clear hfl
      go_wp2_with (go_at_call 42; refine HP.out.mono ?_; rintro e w3 ⟨rfl, hq, hb⟩; have HQ3 := hid hq; have HB3 := hid (HB.out.trans hb); clear hq hb)
      exact ⟨⟨k + 1, by simp, by omega, HQ3.out, HB3.out⟩, by simp [intOf]; omega⟩
    · have q2 : ¬ (k : Int) < (v.length : Int) := by omega
      have hkv : v.take k = v := List.take_of_length_le (by omega)
      rw [hkv] at HQ hfl
      have HW : Hid (Calls Tryd.prog 36 #[.pointer (some ⟨w.heap.size, 0, none⟩), .int .u8 34] wr fun e w2 => e = .returned .nilIface ∧ Bq w2 w.heap.size w.heap.size (34 :: v.flatMap qpP ++ [34]) ∧ Below w.heap.size wr w2) := wbyte_any _ _ _ 34 wr HQ.out (by simp only [List.length_cons]; omega) HB.out.size
      have HS := hid (fun W h hb => bstr_any w.heap.size w.heap.size (34 :: v.flatMap qpP ++ [34]) W h hb)
      clear hfl hkv
      go_wp2_with first
        | (go_at_call 36; refine HW.out.mono ?_; clear HW; rintro e w3 ⟨rfl, hq, hb⟩; have HQ3 := hid hq; have HB3 := hid (HB.out.trans hb); clear hq hb)
        | (go_at_call 37; refine (HS.out _ HQ3.out HB3.out.size).mono ?_; rintro e w4 ⟨rfl, hb⟩)
      go_ret2
      exact ⟨rfl, HB3.out.trans hb⟩

/-- what Text answers -/
def txV (l : List UInt8) : Value :=
  match txP (l.drop 1) with
  | none => .tuple #[.string ⟨#[]⟩, .int .i64 122]
  | some r => if jsP 3 l = true then .tuple #[.string (mk r.1), .int .i64 0] else .tuple #[.string ⟨#[]⟩, .int .i64 122]
theorem js_text {l : List UInt8} (h : jsP 3 l = true) : ∃ v, txP (l.drop 1) = some (v, l.length - 1) ∧ v.length ≤ 4096 ∧ 2 ≤ l.length ∧ l.getD 0 0 = 34 := by
  have h := of_decide_eq_true h
  unfold tokP at h
  split at h
  · simp at h
  · rename_i hl
    split at h
    · unfold wdP at h; repeat' split at h
      all_goals simp at h
    · split at h
      · unfold nuP at h; repeat' split at h
        all_goals simp at h
      · split at h
        · rename_i h34
          unfold tqP at h
          cases htx : txP (l.drop 1) with
          | none => rw [htx] at h; simp at h
          | some r =>
            rw [htx] at h
            simp only at h
            split at h
            · rename_i h4
              simp only [Prod.mk.injEq, and_true, true_and] at h
              have hle := txP_le (v := r.1) (m := r.2) htx
              rw [List.length_drop] at hle
              refine ⟨r.1, ?_, h4, by omega, h34⟩
              have : r.2 = l.length - 1 := by omega
              rw [← this]
            · simp at h
        · unfold sqP at h; repeat' split at h
          all_goals simp at h

set_option maxHeartbeats 2000000 in
theorem text_bad (l : List UInt8) (hl : l.length ≤ 140737488355328) (h : jsP 3 l = false) (w : World) (hT : Tabs w) :
    Calls Tryd.prog 17 #[.string (mk l)] w fun e w' => e = .returned (.tuple #[.string ⟨#[]⟩, .int .i64 122]) ∧ Below w.heap.size w w' := by
  have H1 := hid (just_any 3 l hl w hT)
  rw [h] at H1
  clear hT h
  go_enter Tryd.func17, Tryd.ntmps17
  go_wp2_with (go_at_call 32; refine H1.out.mono ?_; rintro e w' ⟨rfl, m, rfl⟩)
  go_ret2
  exact ⟨rfl, below_drewN (Below.refl _ _) _⟩

set_option maxHeartbeats 2000000 in
theorem text_ok (l v : List UInt8) (hl : l.length ≤ 140737488355328) (h : jsP 3 l = true) (hv : txP (l.drop 1) = some (v, l.length - 1)) (w : World) (hT : Tabs w) :
    Calls Tryd.prog 17 #[.string (mk l)] w fun e w' => e = .returned (.tuple #[.string (mk v), .int .i64 0]) ∧ Below w.heap.size w w' := by
  have hsz := mk_size l
  have H1 := hid (just_any 3 l hl w hT)
  obtain ⟨_, hx, hv4, hl2, _⟩ := js_text h
  have hvl := txP_le hv
  rw [hv] at hx
  have hv4 : v.length ≤ 4096 := by injection hx with hx; injection hx with hx _; rw [hx]; exact hv4
  have H0 := hid (Tz.zero (l := l) (a := 0) (by omega))
  have HV : Hid (txP (l.drop (0 + 1)) = some (v, l.length - 1)) := hv
  rw [h] at H1
  clear hT h hx hv hvl
  go_enter Tryd.func17, Tryd.ntmps17
  go_wp2_with (go_at_call 32; refine H1.out.mono ?_; rintro e w' ⟨rfl, m, rfl⟩)
  go_loopw [5] (fun i wr => ∃ (k : Nat) (u : List UInt8), i = .int .i64 k ∧ Tz l 0 k u ∧ k ≤ l.length - 1 ∧ Bq wr w.heap.size w.heap.size u ∧ Below w.heap.size w wr) (fun i _ => l.length - (intOf i).toNat)
  case atStart => exact ⟨1, [], rfl, H0.out, by omega, bq_new (w.drewN m), below_drewN (Below.refl _ _) m |>.trans (below_walk (w.drewN m) _)⟩
  case round =>
    obtain ⟨k, u, rfl, HT, hk, HQ, HB⟩ := hrel
    have HT : Hid (Tz l 0 k u) := HT
    have HQ : Hid (Bq wr w.heap.size w.heap.size u) := HQ
    have HB : Hid (Below w.heap.size w wr) := HB
    obtain ⟨x, hx, hxu, hxk⟩ : ∃ x : List UInt8 × Nat, txP (l.drop k) = some x ∧ u ++ x.1 = v ∧ k + x.2 = l.length := by
      have e1 := HT.out.2.2.2
      rw [HV.out] at e1
      cases hc : txP (l.drop k) with
      | none => rw [hc] at e1; cases e1
      | some x =>
        rw [hc] at e1
        injection e1 with e1
        injection e1 with e1 e2
        have := HT.out.1
        exact ⟨x, rfl, e1.symm, by omega⟩
    have hul : u.length ≤ 4096 := by rw [← hxu] at hv4; rw [List.length_append] at hv4; omega
    by_cases hlt : k < l.length - 1
    · have q2 : (k : Int) < (l.length : Int) - 1 := by omega
      have hq34 : ¬ l.getD k 0 = 34 := by
        intro e
        rw [txP_quote (l := l.drop k) (by rw [drop_getD]; exact e)] at hx
        injection hx with hx
        rw [← hx] at hxk
        simp only at hxk
        omega
      have hpk : ¬ (pcP (l.drop k)).2 = 0 := by
        intro e
        rw [txP_bad (l := l.drop k) (by rw [drop_getD]; exact hq34) e] at hx
        cases hx
      obtain ⟨⟨c, n⟩, HP⟩ : ∃ r, Hid (pcP (l.drop k) = r) := ⟨_, rfl⟩
      rw [HP.out] at hpk
      have HM := hid (HT.out.more hq34 HP.out hpk)
      have hkn : k + n ≤ l.length - 1 := by
        have e1 := HM.out.2.2.2
        rw [HV.out] at e1
        cases hc : txP (l.drop (k + n)) with
        | none => rw [hc] at e1; cases e1
        | some y =>
          rw [hc] at e1
          injection e1 with e1
          injection e1 with e1 e2
          have := txP_le (v := y.1) (m := y.2) hc
          have := HM.out.1
          omega
      have hn1 : 1 ≤ n := by simp only at hpk; omega
      have s1 := sl_from l k (by omega)
      have H2 := hid (piece_any (l.drop k) (by rw [List.length_drop]; omega))
      rw [HP.out] at H2
      have HW := hid (fun W h hb => wbyte_any w.heap.size w.heap.size u c W h (by omega) hb)
      clear hx hxu hxk hq34 hpk
      go_wp2_with first
        | (go_at_call 35; refine (H2.out _).mono ?_; rintro e w' ⟨rfl, m2, rfl⟩)
        | (go_at_call 36; refine (HW.out (wr.drewN m2) HQ.out HB.out.size).mono ?_; rintro e w3 ⟨rfl, hq, hb⟩; have HQ3 := hid hq; have HB3 := hid ((below_drewN HB.out m2).trans hb); clear hq hb)
      exact ⟨⟨k + n, u ++ [c], by simp, HM.out, hkn, HQ3.out, HB3.out⟩, by simp [intOf]; omega⟩
    · have q2 : ¬ (k : Int) < (l.length : Int) - 1 := by omega
      have huv : u = v := by
        have hx2 := txP_le (v := x.1) (m := x.2) hx
        have : x.1 = [] := List.length_eq_zero_iff.1 (by omega)
        rw [this, List.append_nil] at hxu
        exact hxu
      subst huv
      have HS := hid (bstr_any w.heap.size w.heap.size u wr HQ.out HB.out.size)
      clear hx hxu hxk
      go_wp2_with (go_at_call 37; refine HS.out.mono ?_; rintro e w4 ⟨rfl, hb⟩)
      go_ret2
      exact ⟨rfl, HB.out.trans hb⟩

end Go.Proofs.YtgihbllkjoegcaaDoor

/- The document's Quote, and LexQuotes. -/
namespace Go.Proofs.YtgihbllkjoegcaaDoor
open Go.RowKit

/-- append(own, bytes...), as one step of a region that draws its order -/
theorem step_app_src {ops : Array Oper} {o : Oper} {act : Act} {w : World} {K : Act → World → Prop} {Q : Exit → Act → World → Prop} {E : Prop} (hgd : o.guard = none) (s x : Operand)
    (ho : o.op = .call { callee := .builtin .append, args := #[s, x], argTypes := #[54, 54] })
    (base : Nat) (v : Value) (bs : List UInt8) (hs : act.eval s = v) (hown : OwnB w base v bs) (vx : Value) (cs : List UInt8) (hx : act.eval x = vx) (hsrc : Src w vx cs)
    (hlen : bs.length + cs.length ≤ 140737488355327) (hbase : base ≤ w.heap.size)
    (h : ∀ v' w', OwnB w' base v' (bs ++ cs) → w.grownBy w' v.ownBlock → K (act.put o.dst v') w') :
    if Region.wanted o (yielded ops act.tmps) = true then Oper.wp Tryd.prog o act w K Q else E := by
  have hw : Region.wanted o (yielded ops act.tmps) = true := by simp [Region.wanted, hgd]
  rw [if_pos hw]
  obtain ⟨i0, hi, hz0, hz1, hz2⟩ := info_parts Tryd.infoU8
  obtain ⟨_, ⟨rfl, rfl⟩ | ⟨ad, cap, rfl, h1, h2, hlt, hc⟩⟩ := hsrc
  · have hrun := run_append_owned_none (P := Tryd.prog) (w := w) base 54 o.type 5 i0 1 Tryd.underlying54 hi v bs.length (bytesV bs) hown
    unfold Oper.wp
    simp [execOp, ho, resolve, invoke, builtin, hs, hx, hrun, Result.andThen]
    exact h v w (by simpa using hown) (gb_refl _ _)
  · obtain ⟨v', w', hrun, r1, r2, _⟩ := run_append_own (P := Tryd.prog) w base 54 o.type 5 i0 (.int .u8 0) 1 1 Tryd.underlying54 hi hz0 hz1 hz2 rfl (by decide) v bs.length (bytesV bs) hown ad cs.length cap (bytesV cs) (by simp [bytesV]) (src_cells hc) (bytesV_one cs) (by unfold maxLen; omega) (by omega) hbase
    unfold Oper.wp
    simp [execOp, ho, resolve, invoke, builtin, hs, hx, hrun, Result.andThen]
    exact h v' w' (by unfold OwnB; rw [bytesV_append, List.length_append]; exact r1) r2

set_option maxHeartbeats 1000000 in

theorem src_l2 (w : World) (x y : UInt8) : Src (w.alloc (.cells #[.int .u8 (x.toNat : Nat), .int .u8 (y.toNat : Nat)] 5)) (.slice (some ⟨w.heap.size, 0, none⟩) 2 2) [x, y] := src_made w [x, y] (by simp)
theorem src_nl (w : World) : Src (w.alloc (.cells #[.int .u8 92, .int .u8 110] 5)) (.slice (some ⟨w.heap.size, 0, none⟩) 2 2) [92, 110] := src_made w [92, 110] (by simp)
theorem src_tb (w : World) : Src (w.alloc (.cells #[.int .u8 92, .int .u8 116] 5)) (.slice (some ⟨w.heap.size, 0, none⟩) 2 2) [92, 116] := src_made w [92, 116] (by simp)
theorem src_qq (w : World) : Src (w.alloc (.cells #[.int .u8 92, .int .u8 34] 5)) (.slice (some ⟨w.heap.size, 0, none⟩) 2 2) [92, 34] := src_made w [92, 34] (by simp)
theorem src_bb (w : World) : Src (w.alloc (.cells #[.int .u8 92, .int .u8 92] 5)) (.slice (some ⟨w.heap.size, 0, none⟩) 2 2) [92, 92] := src_made w [92, 92] (by simp)
theorem src_q1 (w : World) : Src (w.alloc (.cells #[.int .u8 34] 5)) (.slice (some ⟨w.heap.size, 0, none⟩) 1 1) [34] := src_made w [34] (by simp)
theorem src_cd (w : World) (x y : UInt8) : Src (w.alloc (.cells #[.int .u8 92, .int .u8 120, .int .u8 (x.toNat : Nat), .int .u8 (y.toNat : Nat)] 5)) (.slice (some ⟨w.heap.size, 0, none⟩) 4 4) [92, 120, x, y] := src_made w [92, 120, x, y] (by simp)
theorem own_q1 (w : World) : OwnB (w.alloc (.cells #[.int .u8 34] 5)) w.heap.size (.slice (some ⟨w.heap.size, 0, none⟩) 1 1) [34] :=
  World.ownsRow_lit w #[.int .u8 34] 1 (Nat.le_refl _) (by decide) rfl

set_option maxHeartbeats 4000000 in
theorem rquote_any (v : List UInt8) (hv : v.length ≤ 4096) (w : World) :
    Calls Tryd.prog 24 #[.string (mk v)] w fun e w' => e = .returned (.tuple #[.string (mk (quP v)), .int .i64 0]) ∧ Below w.heap.size w w' := by
  have hsz := mk_size v
  have q1 : ¬ (4096 : Int) < (v.length : Int) := by omega
  go_enter Tryd.func24, Tryd.ntmps24
  go_wp2
  go_loopw [5, 6] (fun x i wr => ∃ k : Nat, i = .int .i64 k ∧ k ≤ v.length ∧ OwnB wr w.heap.size x (34 :: (v.take k).flatMap qpP) ∧ Below w.heap.size w wr) (fun _ i _ => v.length - (intOf i).toNat)
  case atStart => exact ⟨0, rfl, Nat.zero_le _, own_q1 w, below_walk _ _⟩
  case round =>
    obtain ⟨k, rfl, hk, HO, HB⟩ := hrel
    have HO : Hid (OwnB wr w.heap.size _ (34 :: (v.take k).flatMap qpP)) := HO
    have HB : Hid (Below w.heap.size w wr) := HB
    have hfl := flat_len (v.take k)
    rw [List.length_take] at hfl
    obtain ⟨sa, sc, hsh⟩ := HO.out.shape
    subst hsh
    obtain ⟨n0, HN0⟩ : ∃ n, Hid ((34 :: (v.take k).flatMap qpP).length = n) := ⟨_, rfl⟩
    by_cases hlt : k < v.length
    · have q2 : (k : Int) < (v.length : Int) := by omega
      have i1 := at_mk v k hlt
      obtain ⟨c, HC⟩ : ∃ c : UInt8, Hid (v.getD k 0 = c) := ⟨_, rfl⟩
      rw [HC.out] at i1
      have hE : 34 :: (v.take k).flatMap qpP ++ qpP c = 34 :: (v.take (k + 1)).flatMap qpP := by
        rw [List.take_succ_eq_append_getElem hlt, List.flatMap_append]
        have : v[k] = c := by have := HC.out; simpa [List.getD_eq_getElem?_getD, hlt] using this
        rw [this]
        simp
      by_cases h10 : c = 10
      · subst h10
        have HE : Hid (34 :: (v.take k).flatMap qpP ++ [92, 110] = 34 :: (v.take (k + 1)).flatMap qpP) := hE
        have i1 : ∀ W, (Instr.index 9 (.string (mk v)) (.int .i64 (k : Int))).run Tryd.prog W = .ok (.int .u8 10) W := i1
        clear hE
        rw [HN0.out]
        rw [HN0.out] at HO
        go_wp2_with (refine app_src (by rfl) (.tmp 35) (.tmp 36) (by rfl) w.heap.size _ (34 :: (v.take k).flatMap qpP) (by rfl) (HO.out.below (below_walk _ _)) _ [92, 110] (by rfl) (src_nl _) (by simp only [List.length_cons, List.length_nil]; omega) (by rw [hp_size]; have := HB.out.size; omega) ?_
                     intro v' w4 ho hg
                     rw [HE.out] at ho
                     have HO4 := hid ho
                     have HB4 : Hid (Below w.heap.size w w4) := Below.grown (HB.out.alloc HB.out.size _) hg (by rw [hp_size]; have := HB.out.size; omega) (fun q hq => (HO.out.lt q hq).1)
                     obtain ⟨sa2, sc2, hv2⟩ := ho.shape
                     subst hv2
                     obtain ⟨N, HN⟩ : ∃ N, Hid ((34 :: (v.take (k + 1)).flatMap qpP).length = N) := ⟨_, rfl⟩
                     rw [HN.out]
                     rw [HN.out] at HO4
                     clear ho hg)
        exact ⟨⟨k + 1, by simp, by omega, HO4.out, HB4.out⟩, by simp [intOf]; omega⟩
      · have n1 : ¬ (c.toNat : Int) = 10 := fun e => h10 ((u8_eq (n := 10) (by omega)).1 e)
        by_cases h9 : c = 9
        · subst h9
          have HE : Hid (34 :: (v.take k).flatMap qpP ++ [92, 116] = 34 :: (v.take (k + 1)).flatMap qpP) := hE
          have i1 : ∀ W, (Instr.index 9 (.string (mk v)) (.int .i64 (k : Int))).run Tryd.prog W = .ok (.int .u8 9) W := i1
          clear hE n1 h10
          rw [HN0.out]
          rw [HN0.out] at HO
          go_wp2_with (refine app_src (by rfl) (.tmp 41) (.tmp 42) (by rfl) w.heap.size _ (34 :: (v.take k).flatMap qpP) (by rfl) (HO.out.below (below_walk _ _)) _ [92, 116] (by rfl) (src_tb _) (by simp only [List.length_cons, List.length_nil]; omega) (by rw [hp_size]; have := HB.out.size; omega) ?_
                       intro v' w4 ho hg
                       rw [HE.out] at ho
                       have HO4 := hid ho
                       have HB4 : Hid (Below w.heap.size w w4) := Below.grown (HB.out.alloc HB.out.size _) hg (by rw [hp_size]; have := HB.out.size; omega) (fun q hq => (HO.out.lt q hq).1)
                       obtain ⟨sa2, sc2, hv2⟩ := ho.shape
                       subst hv2
                       obtain ⟨N, HN⟩ : ∃ N, Hid ((34 :: (v.take (k + 1)).flatMap qpP).length = N) := ⟨_, rfl⟩
                       rw [HN.out]
                       rw [HN.out] at HO4
                       clear ho hg)
          exact ⟨⟨k + 1, by simp, by omega, HO4.out, HB4.out⟩, by simp [intOf]; omega⟩
        · have n2 : ¬ (c.toNat : Int) = 9 := fun e => h9 ((u8_eq (n := 9) (by omega)).1 e)
          by_cases hq : c = 34
          · subst hq
            have HE : Hid (34 :: (v.take k).flatMap qpP ++ [92, 34] = 34 :: (v.take (k + 1)).flatMap qpP) := hE
            have i1 : ∀ W, (Instr.index 9 (.string (mk v)) (.int .i64 (k : Int))).run Tryd.prog W = .ok (.int .u8 34) W := i1
            clear hE n1 n2 h10 h9
            rw [HN0.out]
            rw [HN0.out] at HO
            go_wp2_with (refine app_src (by rfl) (.tmp 51) (.tmp 53) (by rfl) w.heap.size _ (34 :: (v.take k).flatMap qpP) (by rfl) (HO.out.below (below_walk _ _)) _ [92, 34] (by rfl) (src_qq _) (by simp only [List.length_cons, List.length_nil]; omega) (by rw [hp_size]; have := HB.out.size; omega) ?_
                         intro v' w4 ho hg
                         rw [HE.out] at ho
                         have HO4 := hid ho
                         have HB4 : Hid (Below w.heap.size w w4) := Below.grown (HB.out.alloc HB.out.size _) hg (by rw [hp_size]; have := HB.out.size; omega) (fun q hq => (HO.out.lt q hq).1)
                         obtain ⟨sa2, sc2, hv2⟩ := ho.shape
                         subst hv2
                         obtain ⟨N, HN⟩ : ∃ N, Hid ((34 :: (v.take (k + 1)).flatMap qpP).length = N) := ⟨_, rfl⟩
                         rw [HN.out]
                         rw [HN.out] at HO4
                         clear ho hg)
            exact ⟨⟨k + 1, by simp, by omega, HO4.out, HB4.out⟩, by simp [intOf]; omega⟩
          · by_cases hb : c = 92
            · subst hb
              have HE : Hid (34 :: (v.take k).flatMap qpP ++ [92, 92] = 34 :: (v.take (k + 1)).flatMap qpP) := hE
              have i1 : ∀ W, (Instr.index 9 (.string (mk v)) (.int .i64 (k : Int))).run Tryd.prog W = .ok (.int .u8 92) W := i1
              clear hE n1 n2 h10 h9 hq
              rw [HN0.out]
              rw [HN0.out] at HO
              go_wp2_with (refine app_src (by rfl) (.tmp 51) (.tmp 53) (by rfl) w.heap.size _ (34 :: (v.take k).flatMap qpP) (by rfl) (HO.out.below (below_walk _ _)) _ [92, 92] (by rfl) (src_bb _) (by simp only [List.length_cons, List.length_nil]; omega) (by rw [hp_size]; have := HB.out.size; omega) ?_
                           intro v' w4 ho hg
                           rw [HE.out] at ho
                           have HO4 := hid ho
                           have HB4 : Hid (Below w.heap.size w w4) := Below.grown (HB.out.alloc HB.out.size _) hg (by rw [hp_size]; have := HB.out.size; omega) (fun q hq => (HO.out.lt q hq).1)
                           obtain ⟨sa2, sc2, hv2⟩ := ho.shape
                           subst hv2
                           obtain ⟨N, HN⟩ : ∃ N, Hid ((34 :: (v.take (k + 1)).flatMap qpP).length = N) := ⟨_, rfl⟩
                           rw [HN.out]
                           rw [HN.out] at HO4
                           clear ho hg)
              exact ⟨⟨k + 1, by simp, by omega, HO4.out, HB4.out⟩, by simp [intOf]; omega⟩
            · have n3 : ((c.toNat : Int) == 34) = false := by simp only [beq_eq_false_iff_ne, ne_eq]; exact fun e => hq ((u8_eq (n := 34) (by omega)).1 e)
              have n4 : ((c.toNat : Int) == 92) = false := by simp only [beq_eq_false_iff_ne, ne_eq]; exact fun e => hb ((u8_eq (n := 92) (by omega)).1 e)
              cases hp : plB c with
              | true =>
                have hQ : qpP c = [c] := by unfold qpP; rw [if_neg h10, if_neg h9, if_neg (by rintro (e | e); exact hq e; exact hb e), if_pos hp]
                rw [hQ] at hE
                have HE := hid hE
                have hpz : 32 ≤ (c.toNat : Int) ∧ (c.toNat : Int) ≤ 126 := by
                  unfold plB plI at hp
                  have := of_decide_eq_true hp
                  omega
                obtain ⟨p1, p2⟩ := hpz
                clear hE hQ hp h10 h9 hq hb
                rw [HN0.out]
                rw [HN0.out] at HO
                go_wp2_with (refine app_src (by rfl) (.tmp 62) (.tmp 64) (by rfl) w.heap.size _ (34 :: (v.take k).flatMap qpP) (by rfl) (HO.out.below (below_walk _ _)) _ [c] (by rfl) (src_made _ [c] (by simp)) (by simp only [List.length_cons, List.length_nil]; omega) (by rw [hp_size]; have := HB.out.size; omega) ?_
                             intro v' w4 ho hg
                             rw [HE.out] at ho
                             have HO4 := hid ho
                             have HB4 : Hid (Below w.heap.size w w4) := Below.grown (HB.out.alloc HB.out.size _) hg (by rw [hp_size]; have := HB.out.size; omega) (fun q hq => (HO.out.lt q hq).1)
                             obtain ⟨sa2, sc2, hv2⟩ := ho.shape
                             subst hv2
                             obtain ⟨N, HN⟩ : ∃ N, Hid ((34 :: (v.take (k + 1)).flatMap qpP).length = N) := ⟨_, rfl⟩
                             rw [HN.out]
                             rw [HN.out] at HO4
                             clear ho hg)
                exact ⟨⟨k + 1, by simp, by omega, HO4.out, HB4.out⟩, by simp [intOf]; omega⟩
              | false =>
                have hQ : qpP c = [92, 120, hexQ (c.toNat / 16), hexQ (c.toNat % 16)] := by unfold qpP; rw [if_neg h10, if_neg h9, if_neg (by rintro (e | e); exact hq e; exact hb e), if_neg (by rw [hp]; decide)]
                have hpz : ¬ 32 ≤ (c.toNat : Int) ∨ (32 ≤ (c.toNat : Int) ∧ ¬ (c.toNat : Int) ≤ 126) := by
                  unfold plB plI at hp
                  have h0 := of_decide_eq_false hp
                  have a1 : ¬ (c.toNat : Int) = 34 := by simpa using n3
                  have a2 : ¬ (c.toNat : Int) = 92 := by simpa using n4
                  omega
                rw [hQ] at hE
                obtain ⟨q, HQ1⟩ : ∃ q, Hid (q = c.toNat / 16) := ⟨_, rfl⟩
                obtain ⟨r, HR1⟩ : ∃ r, Hid (r = c.toNat % 16) := ⟨_, rfl⟩
                rw [← HQ1.out, ← HR1.out] at hE
                have HE := hid hE
                have hc := c.toNat_lt
                have hq16 : q < 16 := by rw [HQ1.out]; omega
                have hr16 : r < 16 := by rw [HR1.out]; omega
                have e1 : ((c.toNat : Nat) : Int) / 2 ^ 4 = (q : Int) := by rw [HQ1.out]; omega
                have e1' : ((c.toNat : Nat) : Int) / 16 = (q : Int) := by rw [HQ1.out]; omega
                have e2 : bits .and .u8 ((c.toNat : Nat) : Int) 15 = (r : Int) := by
                  have := u8_and_nat c.toNat 15 (by omega) (by omega)
                  rw [show (15 : Nat) = 2 ^ 4 - 1 from rfl, Nat.and_two_pow_sub_one_eq_mod, ← show (15 : Nat) = 2 ^ 4 - 1 from rfl] at this
                  rw [HR1.out]
                  exact this
                have j1 := fun W => index_dq W q hq16
                have j2 := fun W => index_dq W r hr16
                have HLN := hid (show (34 :: (v.take k).flatMap qpP).length + [92, 120, hexQ q, hexQ r].length ≤ 140737488355327 by simp only [List.length_cons, List.length_nil]; omega)
                have HOX := hid (fun (W : World) (o : Obj) (hW : W.heap = wr.heap) => ((show OwnB W w.heap.size (.slice sa n0 sc) (34 :: (v.take k).flatMap qpP) by have := HO.out; rw [HN0.out] at this; unfold OwnB World.ownsRow at this ⊢; rw [hW]; exact this).below (below_walk W o) : OwnB (W.alloc o) w.heap.size (.slice sa n0 sc) (34 :: (v.take k).flatMap qpP)))
                have HSZ2 := hid (show w.heap.size ≤ wr.heap.size + 1 from Nat.le_succ_of_le HB.out.size)
                clear hE hQ hp h10 h9 hq hb hc hfl
                rw [HN0.out]
                rw [HN0.out] at HO
                rcases hpz with p1 | ⟨p1, p2⟩
                all_goals go_wp2_with fail
                all_goals go_region_law ((refine step_app_src (by rfl) (.tmp 21) (.tmp 30) (by rfl) w.heap.size _ (34 :: (v.take k).flatMap qpP) (by rfl) (by exact HOX.out _ _ rfl) _ [92, 120, hexQ q, hexQ r] (by rfl) (by exact src_cd _ _ _) HLN.out (by show w.heap.size ≤ (wr.alloc _).heap.size; rw [hp_size]; exact HSZ2.out) ?_; intro v5 w5 ho5 hg5; have HO5 := hid ho5; have HG5 := hid hg5; clear ho5 hg5))
                all_goals
                  have HB5 : Hid (Below w.heap.size w w5) := by
                    have hb := HB.out
                    exact ((show Below w.heap.size w wr.drew from ⟨hb.os, hb.tape, hb.output, hb.size, hb.block⟩).alloc hb.size _).grown HG5.out (by rw [hp_size]; exact HSZ2.out) (fun j hj => (HO.out.lt j hj).1)
                  rw [HE.out] at HO5
                  clear HG5
                  obtain ⟨sa2, sc2, hv2⟩ := HO5.out.shape
                  subst hv2
                  obtain ⟨N, HN⟩ : ∃ N, Hid ((34 :: (v.take (k + 1)).flatMap qpP).length = N) := ⟨_, rfl⟩
                  rw [HN.out]
                  rw [HN.out] at HO5
                  go_wp2
                  exact ⟨⟨k + 1, by simp, by omega, HO5.out, HB5.out⟩, by simp [intOf]; omega⟩
    · have q2 : ¬ (k : Int) < (v.length : Int) := by omega
      have hkv : v.take k = v := List.take_of_length_le (by omega)
      rw [hkv] at HN0 HO hfl
      rw [hkv]
      rw [HN0.out]
      rw [HN0.out] at HO
      clear hkv
      go_wp2_with (refine app_src (by rfl) (.tmp 66) (.tmp 67) (by rfl) w.heap.size _ (34 :: v.flatMap qpP) (by rfl) (HO.out.below (below_walk _ _)) _ [34] (by rfl) (src_q1 _) (by simp only [List.length_cons, List.length_nil]; omega) (by rw [hp_size]; have := HB.out.size; omega) ?_
                   intro v' w4 ho hg
                   have HB4 : Hid (Below w.heap.size w w4) := Below.grown (HB.out.alloc HB.out.size _) hg (by rw [hp_size]; have := HB.out.size; omega) (fun q hq => (HO.out.lt q hq).1)
                   have ho : OwnB w4 w.heap.size v' (quP v) := ho
                   have hql : (quP v).length ≤ 140737488355327 := by unfold quP; rw [List.length_cons, List.length_append]; simp only [List.length_cons, List.length_nil]; omega
                   have r1 := run_str (ho.src hql)
                   have r1 : (convert 54 9 v').run Tryd.prog w4 = .ok (.string (mk (quP v))) w4 := r1
                   obtain ⟨sa2, sc2, hv2⟩ := ho.shape
                   obtain ⟨N, HN⟩ : ∃ N, Hid ((quP v).length = N) := ⟨_, rfl⟩
                   rw [HN.out] at hv2
                   subst hv2
                   clear ho hg hql)
      go_ret2
      exact ⟨rfl, HB4.out⟩

set_option maxHeartbeats 2000000 in
theorem rquote_long (v : List UInt8) (hv : 4096 < v.length) (w : World) :
    Calls Tryd.prog 24 #[.string (mk v)] w fun e w' => e = .returned (.tuple #[.string ⟨#[]⟩, .int .i64 3]) ∧ Below w.heap.size w w' := by
  have hsz := mk_size v
  have q1 : (4096 : Int) < (v.length : Int) := by omega
  go_enter Tryd.func24, Tryd.ntmps24
  go_wp2
  go_ret2
  exact ⟨rfl, Below.refl _ _⟩

set_option maxHeartbeats 2000000 in
theorem quotes_any (w : World) (v : List UInt8) (hT : Tabs w) :
    Calls Tryd.prog 6 #[.string (mk v)] w fun e w' => e = .returned (.bool true) ∧ Below w.heap.size w w' := by
  have key : ∃ (s : ByteArray) (e0 : Int), (∀ w, Calls Tryd.prog 23 #[.string (mk v)] w fun e w' => e = .returned (.tuple #[.string s, .int .i64 e0]) ∧ Below w.heap.size w w') ∧ (∀ w, Calls Tryd.prog 24 #[.string (mk v)] w fun e w' => e = .returned (.tuple #[.string s, .int .i64 e0]) ∧ Below w.heap.size w w') := by
    by_cases hv : 4096 < v.length
    · exact ⟨_, _, quote_long v hv, rquote_long v hv⟩
    · exact ⟨_, _, quote_any v (by omega), rquote_any v (by omega)⟩
  obtain ⟨s, e0, h1, h2⟩ := key
  have H1 := hid h1
  have H2 := hid h2
  have HA := hid awake_any
  have HT := hid hT
  have f1 : (s.toList == s.toList) = true := by simp
  clear h1 h2 hT
  go_enter Tryd.func6, Tryd.ntmps6
  go_wp2_with first
    | (go_at_call 23; refine (H1.out _).mono ?_; rintro e w2 ⟨rfl, hb⟩; have HB2 := hid hb; clear hb)
    | (go_at_call 24; refine (H2.out _).mono ?_; rintro e w3 ⟨rfl, hb⟩; have HB3 := hid (HB2.out.trans (hb.mono HB2.out.size)); clear hb)
    | (go_at_call 11; refine (HA.out _ (HT.out.below HB3.out)).mono ?_; rintro e1 w4 ⟨rfl, hb4⟩)
  go_ret
  exact ⟨rfl, HB3.out.trans (hb4.mono HB3.out.size)⟩

end Go.Proofs.YtgihbllkjoegcaaDoor

/- From what the rows list of the program's tables of texts to what the walks ask of the world. -/
namespace Go.Proofs.YtgihbllkjoegcaaDoor
open Go.RowKit

def strD {H : Type} (ts : List (List UInt8)) : DataW H := .agg (ts.map fun t => .lit (.string t))
theorem cells_of_strs {H : Type} {enc : TypeId × Value → H} {P : Program} {w : World} {base : Nat} {sp : Nat → Bool} {held : Bool} {fuel : Nat} {t e : TypeId} {n : Nat} {cs : List Value} {ts : List (List UInt8)} {p : List MemPlace}
    (ht : P.underlying t = some (.array n e)) (he : P.underlying e = some .string) (hce : P.cellsOf e = 1) (hct : P.cellsOf t = n)
    (h : DataW.trod enc P w base sp held fuel t cs = some (strD ts, p)) : cs = strV ts := by
  cases fuel with
  | zero => simp [DataW.trod] at h
  | succ fuel =>
    simp only [DataW.trod, ht, hce, hct, Nat.mul_one] at h
    split at h
    · rename_i hl
      obtain ⟨xs, hm, hx⟩ := Option.map_eq_some_iff.1 h
      have hxs : xs.map (·.1) = ts.map fun z => (DataW.lit (.string z) : DataW H) := by
        have := congrArg Prod.fst hx
        simpa [strD] using this
      have hxl : xs.length = n := by simpa using Lib.mapM_length hm
      have hzl : ts.length = n := by
        have := congrArg List.length hxs
        simp at this
        omega
      apply List.ext_getElem?
      intro i
      by_cases hi : i < n
      · obtain ⟨b, hb, hf⟩ := Lib.mapM_at hm i i (by simp [hi])
        obtain ⟨s, hc, rfl, _⟩ := DataW.trod_string he hf
        have h1 : cs[i]? = some (.string s) := by
          have := congrArg (·[0]?) hc
          simpa [List.getElem?_take, List.getElem?_drop] using this
        have h2 : (xs.map (·.1))[i]? = some (DataW.lit (.string s.data.toList) : DataW H) := by simp [hb]
        rw [hxs] at h2
        simp only [List.getElem?_map, Option.map_eq_some_iff, DataW.lit.injEq, Lit.string.injEq] at h2
        obtain ⟨z', hz', he'⟩ := h2
        rw [h1]
        simp only [strV, List.getElem?_map, hz', Option.map_some, Option.some.injEq, Value.string.injEq]
        rw [he', ← bl_eq, mk_bl]
      · rw [List.getElem?_eq_none (by omega), List.getElem?_eq_none (by rw [strV_length]; omega)]
    · cases h
theorem strs_of_reads {P : Program} {w : World} {name : String} {d : DataW Unit} (hr : Lib.VarReads P w name d) (ts : List (List UInt8)) (g0 : Nat) (t e : TypeId) (n : Nat) (hg : P.globalNamed name = some g0) (hty : (P.globals[g0]?).map (·.type) = some t)
    (ht : P.underlying t = some (.array n e)) (he : P.underlying e = some .string) (hce : P.cellsOf e = 1) (hct : P.cellsOf t = n) (hd : d = strD ts) : w.rangeAt g0 0 (strV ts) ∧ g0 < w.heap.size := by
  obtain ⟨g, t', cs, fuel, p, h1, h2, h3, h4⟩ := hr
  obtain rfl : g0 = g := by rw [hg] at h1; exact Option.some.inj h1
  obtain rfl : t = t' := by rw [hty] at h2; exact Option.some.inj h2
  subst hd
  have hcs := cells_of_strs ht he hce hct h4
  unfold World.var? at h3
  rw [hg] at h3
  simp only [Option.bind_some] at h3
  cases hb : w.heap[g0]? with
  | none => rw [hb] at h3; cases h3
  | some o =>
    rw [hb] at h3
    refine ⟨?_, hp_lt hb⟩
    intro j v hv
    rw [Nat.zero_add]
    cases o with
    | cells C ty fr =>
      simp only [Option.some.injEq] at h3
      subst h3
      rw [cell_of_row w g0 j _ _ _ hb]
      have : C.toList[j]? = some v := by rw [hcs]; exact hv
      simpa using this
    | _ => cases h3

end Go.Proofs.YtgihbllkjoegcaaDoor
