/- Contracts and pure facts that the proof needs, joined. -/
import Derived.Test.YtjjajfipfeigiabDoorG1
import Derived.Shelf.Strings.Builder1
import Derived.Laws.BitsAllLaws
import Derived.BigRegion
import Derived.Deep.QuietTactic
import Derived.BigQuiet
import Derived.WalkLawsBesides
import Derived.Deep.Cut
import Derived.Deep.RegionHeld3
import Derived.Test.YtjjajfipfeigiabDoorShelf3
import Derived.Great.BuildSlice
import Derived.Great.FillDense
import Derived.StillTailTactics
import Derived.OrdersHeld
import Derived.Deep.MidRow

/- A builder of the program's, byte by byte. -/
namespace Go.Proofs.YtjjajfipfeigiabDoor
open Go.RowKit

/-- a builder's block: the bytes bs -/
def Bq (w : World) (B b : Nat) (bs : List UInt8) : Prop := Lib.IsBuilder 115 5 B b (bytesV bs) w
theorem bq_size : (Tryd.prog.info? 115).map (·.size) = some 2 := by kernel_rfl

set_option maxHeartbeats 1000000 in
set_option maxRecDepth 100000 in
theorem cc_used (b : Nat) (w : World) (h0 : w.cell? ⟨b, 0, none⟩ = some (.pointer (some ⟨b, 0, none⟩))) :
    Calls Tryd.prog 82 #[.pointer (some ⟨b, 0, none⟩)] w fun e w' => e = .returned (.tuple #[]) ∧ w' = w := by
  obtain ⟨j, hj, _⟩ := Option.map_eq_some_iff.1 bq_size
  go_enter Tryd.func82, Tryd.ntmps82
  go_wp2
  rw [Lib.run_neq_ptr_same w _ Tryd.underlying113 hj]
  go_wp2
  go_end0
  exact ⟨rfl, rfl⟩

set_option maxHeartbeats 1000000 in
set_option maxRecDepth 100000 in
theorem cc_fresh (b : Nat) (w : World) (h0 : w.cell? ⟨b, 0, none⟩ = some (.pointer none)) (hsh : w.shape? b = some (115, 2)) (hfz : w.frozen? ⟨b, 0, none⟩ = false) :
    Calls Tryd.prog 82 #[.pointer (some ⟨b, 0, none⟩)] w fun e w' => e = .returned (.tuple #[]) ∧ w' = w.setCell ⟨b, 0, none⟩ (.pointer (some ⟨b, 0, none⟩)) := by
  obtain ⟨j, hj, hjs⟩ := Option.map_eq_some_iff.1 bq_size
  go_enter Tryd.func82, Tryd.ntmps82
  go_wp2
  rw [Lib.run_to_unsafe w ⟨b, 0, none⟩ Tryd.underlying113 Tryd.underlying137 hj (by rw [hjs]; decide) hsh (Nat.zero_lt_succ 1)]
  simp only [Result.andThen]
  rw [Oper.upon_value]
  go_wp2
  rw [run_callFunc_extern Tryd.func96 (by kernel_rfl) (by kernel_rfl) (by kernel_rfl) (e := Extern.AbiNoEscape.same) (by kernel_rfl)]
  rw [Lib.run_noEscape]
  simp only [Result.andThen]
  rw [Oper.upon_value]
  go_wp2
  rw [Lib.run_from_unsafe w ⟨b, 0, none⟩ Tryd.underlying137 Tryd.underlying113 hj hsh (by kernel_rfl)]
  simp only [Result.andThen]
  rw [Oper.upon_value]
  go_wp2
  go_end0
  exact ⟨rfl, rfl⟩

theorem cc_any (B b : Nat) (bs : List UInt8) (w : World) (h : Bq w B b bs) :
    Calls Tryd.prog 82 #[.pointer (some ⟨b, 0, none⟩)] w fun e w' => e = .returned (.tuple #[]) ∧ Lib.BuilderAt 115 5 B b (.pointer (some ⟨b, 0, none⟩)) (bytesV bs) w' ∧ Below B w w' := by
  rcases h with h | h
  · refine (cc_fresh b w h.cell0 h.shape h.frozen0).mono ?_
    rintro e w' ⟨rfl, rfl⟩
    exact ⟨rfl, h.used _, (Below.refl B w).setCell (p := ⟨b, 0, none⟩) h.1 _⟩
  · refine (cc_used b w h.cell0).mono ?_
    rintro e w' ⟨rfl, rfl⟩
    exact ⟨rfl, h, Below.refl B _⟩

/-- behind an append: the builder holds more -/
theorem bq_put {w1 w2 : World} {B b : Nat} {v v' : Value} {bs cs : List UInt8} (hB : B ≤ b) (hb : w1.heap[b]? = some (.cells #[.pointer (some ⟨b, 0, none⟩), v] 115 (0, 0))) (hne : v.ownBlock ≠ some b)
    (hg : w1.grownBy w2 v.ownBlock) (ho : OwnB w2 B v' (bs ++ cs)) : w2.heap[b]? = some (.cells #[.pointer (some ⟨b, 0, none⟩), v] 115 (0, 0)) ∧ Bq (w2.setCell ⟨b, 1, none⟩ v') B b (bs ++ cs) := by
  have h2 : w2.heap[b]? = some (.cells #[.pointer (some ⟨b, 0, none⟩), v] 115 (0, 0)) := by
    rw [hg.block b (hp_lt hb) (fun e => hne e.symm)]; exact hb
  refine ⟨h2, Or.inr (Lib.BuilderAt.put hB h2 ?_ (by decide))⟩
  rw [bytesV_length]
  exact ho

set_option maxHeartbeats 2000000 in
set_option maxRecDepth 100000 in
theorem wbyte_any (B b : Nat) (bs : List UInt8) (c : UInt8) (w : World) (h : Bq w B b bs) (hlen : bs.length ≤ 1000000) (hBw : B ≤ w.heap.size) :
    Calls Tryd.prog 63 #[.pointer (some ⟨b, 0, none⟩), .int .u8 (c.toNat : Nat)] w fun e w' => e = .returned .nilIface ∧ Bq w' B b (bs ++ [c]) ∧ Below B w w' := by
  have H1 := hid (cc_any B b bs w h)
  clear h
  go_enter Tryd.func63, Tryd.ntmps63
  go_wp2_with first
    | (go_at_call 82; refine H1.out.mono ?_; clear H1; rintro e w1 ⟨rfl, hbu, hb1⟩
       obtain ⟨hB, v, hbk, hown, hne⟩ := hbu
       rw [bytesV_length] at hown
       have HO : Hid (OwnB w1 B v bs) := hown
       obtain ⟨sa, sc, rfl⟩ := HO.out.shape
       have HBK := hid hbk
       have HNE := hid hne
       have HB1 := hid hb1
       have hblt : b < w1.heap.size := hp_lt hbk
       have c0 : w1.cell? ⟨b, 0, none⟩ = some (.pointer (some ⟨b, 0, none⟩)) := by rw [cell_of_row _ _ _ _ _ _ hbk]; rfl
       have c1 : w1.cell? ⟨b, 1, none⟩ = some (.slice sa bs.length sc) := by rw [cell_of_row _ _ _ _ _ _ hbk]; rfl
       clear hbk hown hne hb1)
    | (refine app_src (by rfl) (.tmp 11) (.tmp 13) (by rfl) B _ bs (by rfl) (HO.out.below (below_walk _ _)) _ [c] (by rfl) (src_made _ [c] (by simp)) (by simp; omega) (by rw [hp_size]; have := HB1.out.size; omega) ?_
       intro v' w2 ho hg
       obtain ⟨sa2, sc2, hv2⟩ := ho.shape
       rw [show (bs ++ [c]).length = bs.length + 1 by simp] at hv2
       subst hv2
       have hp := bq_put hB (by rw [hp_old _ _ _ hblt]; exact HBK.out) HNE.out hg ho
       have HQ := hid hp.2
       have hbg : Below B w w2 := ((HB1.out.trans ((below_walk w1 (.cells #[.int .u8 (c.toNat : Nat)] 5)).mono (by have := HB1.out.size; omega)))).grown hg (by rw [hp_size]; have := HB1.out.size; omega) (fun q hq => (HO.out.lt q hq).1)
       have HBG := hid (hbg.setCell (p := ⟨b, 1, none⟩) hB (.slice sa2 (bs.length + 1) sc2))
       have d0 : w2.cell? ⟨b, 0, none⟩ = some (.pointer (some ⟨b, 0, none⟩)) := by rw [cell_of_row _ _ _ _ _ _ hp.1]; rfl
       have d1 : w2.cell? ⟨b, 1, none⟩ = some (.slice sa bs.length sc) := by rw [cell_of_row _ _ _ _ _ _ hp.1]; rfl
       have fz : w2.frozen? ⟨b, 1, none⟩ = false := by simp [World.frozen?, hp.1]
       clear hp ho hg hbg)
  go_ret
  exact ⟨rfl, HQ.out, HBG.out⟩

end Go.Proofs.YtjjajfipfeigiabDoor

/- A value's text, piece by piece. -/
namespace Go.Proofs.YtjjajfipfeigiabDoor
open Go.RowKit

/-- a digit of a coded byte -/
def hexQ (q : Nat) : UInt8 := if q < 10 then UInt8.ofNat (48 + q) else UInt8.ofNat (87 + q)
theorem index_dq (W : World) : ∀ q : Nat, q < 16 → (Instr.index 9 (.string ⟨#[48, 49, 50, 51, 52, 53, 54, 55, 56, 57, 97, 98, 99, 100, 101, 102]⟩) (.int .u8 (q : Int))).run Tryd.prog W = .ok (.int .u8 ((hexQ q).toNat : Nat)) W
  | 0, _ => by kernel_rfl
  | 1, _ => by kernel_rfl
  | 2, _ => by kernel_rfl
  | 3, _ => by kernel_rfl
  | 4, _ => by kernel_rfl
  | 5, _ => by kernel_rfl
  | 6, _ => by kernel_rfl
  | 7, _ => by kernel_rfl
  | 8, _ => by kernel_rfl
  | 9, _ => by kernel_rfl
  | 10, _ => by kernel_rfl
  | 11, _ => by kernel_rfl
  | 12, _ => by kernel_rfl
  | 13, _ => by kernel_rfl
  | 14, _ => by kernel_rfl
  | 15, _ => by kernel_rfl
  | n + 16, h => absurd h (by omega)
/-- a value's piece in its one form -/
def qpP (c : UInt8) : List UInt8 :=
  if c = 10 then [92, 110] else if c = 9 then [92, 116] else if c = 34 ∨ c = 92 then [92, c] else if plB c = true then [c]
  else [92, 120, hexQ (c.toNat / 16), hexQ (c.toNat % 16)]
/-- a value's text -/
def quP (v : List UInt8) : List UInt8 := 34 :: (v.flatMap qpP ++ [34])
theorem qp_len (c : UInt8) : (qpP c).length ≤ 4 := by
  unfold qpP
  repeat' split
  all_goals simp
theorem flat_len (v : List UInt8) : (v.flatMap qpP).length ≤ 4 * v.length := by
  induction v with
  | nil => simp
  | cons c t ih => rw [List.flatMap_cons, List.length_append, List.length_cons]; have := qp_len c; omega

end Go.Proofs.YtjjajfipfeigiabDoor

/- Slices of tokens: of one's own; appended. -/
namespace Go.Proofs.YtjjajfipfeigiabDoor
open Go.RowKit

theorem Tryd.infoTok3 : (Tryd.prog.info? 34).map (fun i => (i.zero, i.size, i.bytes)) = some (some (.agg #[.int .i64 0, .int .i64 0, .int .i64 0]), 3, 24) := by kernel_rfl

/-- tokens as cells -/
def tv (L : List (Nat × Nat × Nat)) : List Value := L.flatMap tkC
theorem tv_app (A B : List (Nat × Nat × Nat)) : tv (A ++ B) = tv A ++ tv B := by simp [tv]
theorem tv_cons (x : Nat × Nat × Nat) (B : List (Nat × Nat × Nat)) : tv (x :: B) = .int .i64 x.1 :: .int .i64 x.2.1 :: .int .i64 x.2.2 :: tv B := rfl
theorem tv_len (L : List (Nat × Nat × Nat)) : (tv L).length = L.length * 3 := by
  induction L with
  | nil => rfl
  | cons x r ih => rw [tv_cons]; simp [ih]; omega
theorem tv_one (L : List (Nat × Nat × Nat)) : ∀ u ∈ tv L, u.oneCell' = true := by
  intro u hu
  simp only [tv, List.mem_flatMap] at hu
  obtain ⟨x, _, hu⟩ := hu
  exact tkC_one x u hu
theorem tv_get (L : List (Nat × Nat × Nat)) : ∀ (j : Nat), j < L.length → (tv L)[3 * j]? = some (.int .i64 (L.getD j (0, 0, 0)).1) ∧ (tv L)[3 * j + 1]? = some (.int .i64 (L.getD j (0, 0, 0)).2.1) ∧ (tv L)[3 * j + 2]? = some (.int .i64 (L.getD j (0, 0, 0)).2.2) := by
  induction L with
  | nil => intro j hj; simp at hj
  | cons x r ih =>
    intro j hj
    cases j with
    | zero => simp [tv_cons]
    | succ j =>
      have := ih j (by simpa using hj)
      rw [tv_cons, show 3 * (j + 1) = 3 * j + 1 + 1 + 1 by omega]
      simpa using this

def OwnT (w : World) (base : Nat) (v : Value) (L : List (Nat × Nat × Nat)) : Prop := w.ownsRow base 34 3 v L.length (tv L)
theorem OwnT.nil (w : World) (base : Nat) : OwnT w base (.slice none 0 0) [] := World.ownsRow_nil _ _ _ _
theorem OwnT.kept {w w' : World} {base : Nat} {v : Value} {L : List (Nat × Nat × Nat)} {row : Option Nat} (h : OwnT w base v L) (hg : w.grownBy w' row) (hne : v.ownBlock = none ∨ v.ownBlock ≠ row) : OwnT w' base v L := World.ownsRow.kept h hg hne
theorem OwnT.below {w w' : World} {base : Nat} {v : Value} {L : List (Nat × Nat × Nat)} (h : OwnT w base v L) (hb : Below w.heap.size w w') : OwnT w' base v L :=
  World.ownsRow.kept h (below_gb hb none) (by cases e : v.ownBlock <;> simp)
theorem OwnT.lt {w : World} {base : Nat} {v : Value} {L : List (Nat × Nat × Nat)} (h : OwnT w base v L) : ∀ k, v.ownBlock = some k → base ≤ k ∧ k < w.heap.size := World.ownsRow.lt h
theorem OwnT.shape {w : World} {base : Nat} {v : Value} {L : List (Nat × Nat × Nat)} (h : OwnT w base v L) : ∃ a cap, v = .slice a L.length cap := by
  rcases h.2 with ⟨rfl, h0⟩ | ⟨g, cap, cur, rfl, _⟩
  · exact ⟨none, 0, by rw [h0]⟩
  · exact ⟨_, _, rfl⟩
theorem OwnT.le {w : World} {base base' : Nat} {v : Value} {L : List (Nat × Nat × Nat)} (h : OwnT w base v L) (hb : base' ≤ base) : OwnT w base' v L :=
  ⟨h.1, h.2.elim Or.inl (fun ⟨g, cap, cur, hv, hg, r⟩ => Or.inr ⟨g, cap, cur, hv, Nat.le_trans hb hg, r⟩)⟩
/-- a token of a row -/
theorem OwnT.at {w : World} {base : Nat} {ao : Option Addr} {n c : Nat} {L : List (Nat × Nat × Nat)} (h : OwnT w base (.slice ao n c) L) (k : Nat) (hk : k < L.length) :
    ∃ g, ao = some ⟨g, 0, none⟩ ∧ ∀ j v, (tkC (L.getD k (0, 0, 0)))[j]? = some v → w.cell? ⟨g, k * 3 + j, none⟩ = some v := by
  have hh := h
  rcases h.2 with ⟨h0, h1⟩ | ⟨g, cap, cur, hv, hb, hk2, h1, _⟩
  · omega
  · injection hv with e1 e2 e3
    refine ⟨g, e1, fun j v hj => ?_⟩
    have hj3 : j < 3 := by
      rcases Nat.lt_or_ge j 3 with h | h
      · exact h
      · rw [List.getElem?_eq_none (by simpa [tkC] using h)] at hj; cases hj
    have ht := tv_get L k hk
    have hget : (tv L)[3 * k + j]? = some v := by
      match j, hj3 with
      | 0, _ => rw [Nat.add_zero, ht.1]; exact hj
      | 1, _ => rw [ht.2.1]; exact hj
      | 2, _ => rw [ht.2.2]; exact hj
    have := World.ownsRow.cells hh (g := g) (by rw [e1]; rfl) _ _ hget
    rw [addr_add, Nat.mul_comm] at this
    exact this

end Go.Proofs.YtjjajfipfeigiabDoor

/- The program's All. -/
namespace Go.Proofs.YtjjajfipfeigiabDoor
open Go.RowKit

theorem results_tc {fn : Func} {p q : Tmp} {ty : TypeId} (h : fn.results = #[.tmp p, .cell q ty]) (tmps : Array Value) (P : Program) (w : World) :
    (results fn tmps).run P w = ((asAddr (tmps.getD q undef)).run P w).andThen fun a w₁ => ((loadVar ty a).run P w₁).andThen fun v w₂ => .ok (.tuple #[tmps.getD p undef, v]) w₂ := by
  simp only [results, h]
  simp [Sem.run_bind, Result.andThen]
theorem ret_tc {P : Program} {fn : Func} {R : Ending → World → Prop} {a : Act} {w : World} (p q : Tmp) (ty : TypeId) (h : fn.results = #[.tmp p, .cell q ty]) (v : Value) (hv : a.tmps.getD p undef = v) (g : Nat) (hp : a.tmps.getD q undef = .pointer (some ⟨g, 0, none⟩))
    (cs : List Value) (t : TypeId) (hb : w.heap[g]? = some (.cells cs.toArray t (0, 0))) (d : TypeDesc) (hu : P.underlying ty = some d) (hd : d.isRow = true) (hi : (P.info? ty).map (·.size) = some cs.length)
    (hdf : a.defers = []) (hR : R (.returned (.tuple #[v, .agg cs.toArray])) w) : bodyPost P fn R .ret a w := by
  refine bodyPost_ret (v := .tuple #[v, .agg cs.toArray]) ?_ hdf hR
  rw [results_tc h, hp, hv]
  have := run_loadVar_mid (P := P) w g 0 ty cs d (fun j v hv => by rw [Nat.zero_add, cell_of_row w g j cs.toArray t (0, 0) hb]; simpa using hv) hu hd hi
  simp [asAddr, this]

/-- a token into a variable that was made last -/
theorem st_tok {w : World} {ops : Array Oper} {rest : List Oper} {o : Oper} {a : Act} {Q : Exit → Act → World → Prop} (hgd : o.guard = none) (x y : Operand) (ho : o.op = .store 34 x y)
    (t : Nat × Nat × Nat) (hx : a.eval x = .pointer (some ⟨w.heap.size, 0, none⟩)) (hy : a.eval y = .agg #[.int .i64 t.1, .int .i64 t.2.1, .int .i64 t.2.2])
    (old : Array Value) (hold : old.size = 3)
    (h : ∀ wz, wz.heap.size = w.heap.size + 1 → wz.heap[w.heap.size]? = some (.cells #[.int .i64 t.1, .int .i64 t.2.1, .int .i64 t.2.2] 34 (0, 0)) → Below w.heap.size w wz → wpList Tryd.prog ops Q rest (a.put o.dst undef) wz) :
    wpList Tryd.prog ops Q (o :: rest) a (w.alloc (.cells old 34)) :=
  st_new hgd 34 x y ho (tkC t) hx hy 34 old Tryd.infoTok hold (tkC_one t) (h _ (hp_size _ _) (hp_new _ _) (below_walk _ _))

theorem nx_view {l : List UInt8} {a : Nat} (ha : a ≤ l.length) :
    (65536 < l.length ∧ nxP l (a : Int) = ((0, 0, 0), 3)) ∨ (l.length ≤ 65536 ∧ ((frP l a = l.length ∧ tkP l a = (0, 0, 0) ∧ nxP l (a : Int) = ((0, frP l a, frP l a), 0)) ∨ (∃ e : Int, 120 ≤ e ∧ e ≤ 123 ∧ frP l a < l.length ∧ tkP l a = (0, 0, e) ∧ nxP l (a : Int) = ((0, frP l a, 0), e)) ∨
      ∃ k n : Nat, tkP l a = (k, n, 0) ∧ 1 ≤ k ∧ k ≤ 5 ∧ 1 ≤ n ∧ frP l a + n ≤ l.length ∧ nxP l (a : Int) = ((k, frP l a, frP l a + n), 0))) := by
  by_cases hl : 65536 < l.length
  · refine Or.inl ⟨hl, ?_⟩
    have : plN l (a : Int) = 3 := by unfold plN; rw [if_pos hl]
    unfold nxP
    rw [this, if_pos (by decide)]
  · refine Or.inr ⟨by omega, ?_⟩
    have hp : plN l (a : Int) = 0 := by unfold plN; rw [if_neg hl, if_neg (by omega)]
    have e0 : nxP l (a : Int) = if (tkP l a).2.2 ≠ 0 then ((0, frP l a, 0), (tkP l a).2.2) else (((tkP l a).1, frP l a, frP l a + (tkP l a).2.1), 0) := by
      unfold nxP
      rw [hp, if_neg (by simp)]
      simp only [Int.toNat_natCast]
    rcases tk_view ha with ⟨v1, v2⟩ | ⟨v1, e, v2, v3, v4⟩ | ⟨kk, n, v1, v2, v3, v4, v5⟩
    · refine Or.inl ⟨v1, v2, ?_⟩
      rw [e0, v2]; simp
    · refine Or.inr (Or.inl ⟨e, v2, v3, v1, v4, ?_⟩)
      rw [e0, v4, if_pos (by simp; omega)]
    · refine Or.inr (Or.inr ⟨kk, n, v1, v2, v3, v4, v5, ?_⟩)
      rw [e0, v1, if_neg (by simp)]

theorem src_tok (wz : World) (t : Nat × Nat × Nat) : ∀ j u, (tv [t])[j]? = some u → (wz.alloc (.cells #[.int .i64 t.1, .int .i64 t.2.1, .int .i64 t.2.2] 34)).cell? ⟨wz.heap.size, j, none⟩ = some u := by
  intro j u hj
  rw [cell_of_row _ _ _ _ _ _ (hp_new _ _)]
  rw [show tv [t] = [.int .i64 t.1, .int .i64 t.2.1, .int .i64 t.2.2] from rfl] at hj
  simpa using hj

/-- what All answers: the tokens, why, where -/
def alP (l : List UInt8) : List (Nat × Nat × Nat) × Int × Nat := if 65536 < l.length then ([], 3, 0) else if (allP l 0).2.1 = 0 then ((allP l 0).1, 0, 0) else ([], (allP l 0).2)
/-- tokens so far -/
def Lt (l : List UInt8) (a : Nat) (ts : List (Nat × Nat × Nat)) : Prop := a ≤ l.length ∧ ts.length ≤ a ∧ allP l 0 = (ts ++ (allP l a).1, (allP l a).2)
theorem Lt.zero (l : List UInt8) : Lt l 0 [] := ⟨Nat.zero_le _, Nat.le_refl _, rfl⟩
theorem Lt.more {l : List UInt8} {a k n : Nat} {ts : List (Nat × Nat × Nat)} (h : Lt l a ts) (ht : tkP l a = (k, n, 0)) (hk : k ≠ 0) : Lt l (frP l a + n) (ts ++ [(k, frP l a, frP l a + n)]) := by
  have hs := tok_size ht hk
  rw [List.length_drop] at hs
  have hf := frP_le h.1
  refine ⟨by omega, by rw [List.length_append]; have := h.2.1; simp; omega, ?_⟩
  rw [h.2.2, all_step ht hk h.1]
  simp
theorem Lt.bad {l : List UInt8} {a k n : Nat} {e : Int} {ts : List (Nat × Nat × Nat)} (h : Lt l a ts) (hl : l.length ≤ 65536) (ht : tkP l a = (k, n, e)) (he : e ≠ 0) : alP l = ([], e, frP l a) := by
  unfold alP
  rw [if_neg (by omega), h.2.2, all_bad ht he, if_neg he]
theorem Lt.last {l : List UInt8} {a n : Nat} {ts : List (Nat × Nat × Nat)} (h : Lt l a ts) (hl : l.length ≤ 65536) (ht : tkP l a = (0, n, 0)) : alP l = (ts ++ [(0, frP l a, frP l a)], 0, 0) := by
  unfold alP
  rw [if_neg (by omega), h.2.2, all_end ht, if_pos rfl]

end Go.Proofs.YtjjajfipfeigiabDoor

/- Word and Key; what must come, whatever else is so. -/
namespace Go.Proofs.YtjjajfipfeigiabDoor
open Go.RowKit

/-- one token of a kind, and nothing else -/
def jsP (k : Nat) (l : List UInt8) : Bool := decide (tokP l = (k, l.length, 0))

set_option maxHeartbeats 1000000 in
theorem just_any (k : Nat) (l : List UInt8) (hl : l.length ≤ 140737488355328) (w : World) (hT : Tabs w) :
    Calls Tryd.prog 57 #[.int .i64 (k : Nat), .string (mk l)] w fun e w' => e = .returned (.bool (jsP k l)) ∧ ∃ n, w' = w.drewN n := by
  have hsz := mk_size l
  have H1 := hid (token_any l hl w hT)
  clear hT
  obtain ⟨⟨x, y, z⟩, HX⟩ : ∃ r, Hid (tokP l = r) := ⟨_, rfl⟩
  rw [HX.out] at H1
  unfold tokV at H1
  go_enter Tryd.func57, Tryd.ntmps57
  go_wp2_with (go_at_call 60; refine H1.out.mono ?_; rintro e w' ⟨rfl, m, rfl⟩)
  all_goals go_ret
  all_goals refine ⟨ret_b ?_, _, rfl⟩
  all_goals unfold jsP
  all_goals rw [HX.out]
  all_goals simp only [decide_eq_true_eq, Prod.mk.injEq, Bool.false_eq_true, false_iff]
  all_goals simp_all
  all_goals omega

set_option maxHeartbeats 1000000 in
theorem word_is (l : List UInt8) (hl : l.length ≤ 140737488355328) (w : World) (hT : Tabs w) :
    Calls Tryd.prog 39 #[.string (mk l)] w fun e w' => e = .returned (.bool (jsP 1 l)) ∧ ∃ n, w' = w.drewN n := by
  have H1 := hid (just_any 1 l hl w hT)
  clear hT
  go_enter Tryd.func39, Tryd.ntmps39
  go_wp2_with (go_at_call 57; refine H1.out.mono ?_; rintro e w' ⟨rfl, m, rfl⟩)
  go_ret
  exact ⟨rfl, _, rfl⟩

theorem aw_all : alP [97, 60, 61, 98, 32, 47, 47, 32, 120] = ([(1, 0, 1), (5, 1, 3), (1, 3, 4), (0, 9, 9)], 0, 0) := by
  have t0 : tkP [97, 60, 61, 98, 32, 47, 47, 32, 120] 0 = (1, 1, 0) := by decide +kernel
  have t1 : tkP [97, 60, 61, 98, 32, 47, 47, 32, 120] 1 = (5, 2, 0) := by decide +kernel
  have t2 : tkP [97, 60, 61, 98, 32, 47, 47, 32, 120] 3 = (1, 1, 0) := by decide +kernel
  have t3 : tkP [97, 60, 61, 98, 32, 47, 47, 32, 120] 4 = (0, 0, 0) := by decide +kernel
  have f0 : frP [97, 60, 61, 98, 32, 47, 47, 32, 120] 0 = 0 := by decide +kernel
  have f1 : frP [97, 60, 61, 98, 32, 47, 47, 32, 120] 1 = 1 := by decide +kernel
  have f2 : frP [97, 60, 61, 98, 32, 47, 47, 32, 120] 3 = 3 := by decide +kernel
  have f3 : frP [97, 60, 61, 98, 32, 47, 47, 32, 120] 4 = 9 := by decide +kernel
  unfold alP
  rw [if_neg (by decide), all_step t0 (by decide) (by decide), f0, all_step t1 (by decide) (by decide), f1, all_step t2 (by decide) (by decide), f2, all_end t3, f3]
  rfl
theorem aw_if : jsP 4 [105, 102] = true := by decide +kernel
theorem aw_x1 : jsP 1 [120, 49] = true := by decide +kernel

end Go.Proofs.YtjjajfipfeigiabDoor

/- The program's Quote and Text. -/
namespace Go.Proofs.YtjjajfipfeigiabDoor
open Go.RowKit

theorem bq_new (w : World) : Bq (w.alloc (.cells #[.pointer none, .slice none 0 0] 115)) w.heap.size w.heap.size [] :=
  Or.inl ⟨Nat.le_refl _, _, hp_new _ _, World.ownsRow_nil _ _ _ _, by simp [Value.ownBlock]⟩

/-- String of a builder -/
theorem bstr_any (B b : Nat) (bs : List UInt8) (w : World) (h : Bq w B b bs) (hBw : B ≤ w.heap.size) :
    Calls Tryd.prog 64 #[.pointer (some ⟨b, 0, none⟩)] w fun e w' => e = .returned (.string (mk bs)) ∧ Below B w w' :=
  (Tryd.Builder_String_any_k B b bs w (Lib.IsBuilderF.of h) hBw).mono fun _ _ ⟨h1, _, h3, _⟩ => ⟨h1, h3⟩

/-- what Text answers -/
def txV (l : List UInt8) : Value :=
  match txP (l.drop 1) with
  | none => .tuple #[.string ⟨#[]⟩, .int .i64 122]
  | some r => if jsP 3 l = true then .tuple #[.string (mk r.1), .int .i64 0] else .tuple #[.string ⟨#[]⟩, .int .i64 122]
theorem js_text {l : List UInt8} (h : jsP 3 l = true) : ∃ v, txP (l.drop 1) = some (v, l.length - 1) ∧ v.length ≤ 4096 ∧ 2 ≤ l.length ∧ l.getD 0 0 = 34 := by
  have h := of_decide_eq_true h
  unfold tokP at h
  split at h
  · simp at h
  · rename_i hl
    split at h
    · unfold wdP at h; repeat' split at h
      all_goals simp at h
    · split at h
      · unfold nuP at h; repeat' split at h
        all_goals simp at h
      · split at h
        · rename_i h34
          unfold tqP at h
          cases htx : txP (l.drop 1) with
          | none => rw [htx] at h; simp at h
          | some r =>
            rw [htx] at h
            simp only at h
            split at h
            · rename_i h4
              simp only [Prod.mk.injEq, and_true, true_and] at h
              have hle := txP_le (v := r.1) (m := r.2) htx
              rw [List.length_drop] at hle
              refine ⟨r.1, ?_, h4, by omega, h34⟩
              have : r.2 = l.length - 1 := by omega
              rw [← this]
            · simp at h
        · unfold sqP at h; repeat' split at h
          all_goals simp at h

set_option maxHeartbeats 2000000 in
theorem text_bad (l : List UInt8) (hl : l.length ≤ 140737488355328) (h : jsP 3 l = false) (w : World) (hT : Tabs w) :
    Calls Tryd.prog 45 #[.string (mk l)] w fun e w' => e = .returned (.tuple #[.string ⟨#[]⟩, .int .i64 122]) ∧ Below w.heap.size w w' := by
  have H1 := hid (just_any 3 l hl w hT)
  rw [h] at H1
  clear hT h
  go_enter Tryd.func45, Tryd.ntmps45
  go_wp2_with (go_at_call 57; refine H1.out.mono ?_; rintro e w' ⟨rfl, m, rfl⟩)
  go_ret2
  exact ⟨rfl, below_drewN (Below.refl _ _) _⟩

set_option maxHeartbeats 2000000 in
theorem text_ok (l v : List UInt8) (hl : l.length ≤ 140737488355328) (h : jsP 3 l = true) (hv : txP (l.drop 1) = some (v, l.length - 1)) (w : World) (hT : Tabs w) :
    Calls Tryd.prog 45 #[.string (mk l)] w fun e w' => e = .returned (.tuple #[.string (mk v), .int .i64 0]) ∧ Below w.heap.size w w' := by
  have hsz := mk_size l
  have H1 := hid (just_any 3 l hl w hT)
  obtain ⟨_, hx, hv4, hl2, _⟩ := js_text h
  have hvl := txP_le hv
  rw [hv] at hx
  have hv4 : v.length ≤ 4096 := by injection hx with hx; injection hx with hx _; rw [hx]; exact hv4
  have H0 := hid (Tz.zero (l := l) (a := 0) (by omega))
  have HV : Hid (txP (l.drop (0 + 1)) = some (v, l.length - 1)) := hv
  rw [h] at H1
  clear hT h hx hv hvl
  go_enter Tryd.func45, Tryd.ntmps45
  go_wp2_with (go_at_call 57; refine H1.out.mono ?_; rintro e w' ⟨rfl, m, rfl⟩)
  go_loopw [5] (fun i wr => ∃ (k : Nat) (u : List UInt8), i = .int .i64 k ∧ Tz l 0 k u ∧ k ≤ l.length - 1 ∧ Bq wr w.heap.size w.heap.size u ∧ Below w.heap.size w wr) (fun i _ => l.length - (intOf i).toNat)
  case atStart => exact ⟨1, [], rfl, H0.out, by omega, bq_new (w.drewN m), below_drewN (Below.refl _ _) m |>.trans (below_walk (w.drewN m) _)⟩
  case round =>
    obtain ⟨k, u, rfl, HT, hk, HQ, HB⟩ := hrel
    have HT : Hid (Tz l 0 k u) := HT
    have HQ : Hid (Bq wr w.heap.size w.heap.size u) := HQ
    have HB : Hid (Below w.heap.size w wr) := HB
    obtain ⟨x, hx, hxu, hxk⟩ : ∃ x : List UInt8 × Nat, txP (l.drop k) = some x ∧ u ++ x.1 = v ∧ k + x.2 = l.length := by
      have e1 := HT.out.2.2.2
      rw [HV.out] at e1
      cases hc : txP (l.drop k) with
      | none => rw [hc] at e1; cases e1
      | some x =>
        rw [hc] at e1
        injection e1 with e1
        injection e1 with e1 e2
        have := HT.out.1
        exact ⟨x, rfl, e1.symm, by omega⟩
    have hul : u.length ≤ 4096 := by rw [← hxu] at hv4; rw [List.length_append] at hv4; omega
    by_cases hlt : k < l.length - 1
    · have q2 : (k : Int) < (l.length : Int) - 1 := by omega
      have hq34 : ¬ l.getD k 0 = 34 := by
        intro e
        rw [txP_quote (l := l.drop k) (by rw [drop_getD]; exact e)] at hx
        injection hx with hx
        rw [← hx] at hxk
        simp only at hxk
        omega
      have hpk : ¬ (pcP (l.drop k)).2 = 0 := by
        intro e
        rw [txP_bad (l := l.drop k) (by rw [drop_getD]; exact hq34) e] at hx
        cases hx
      obtain ⟨⟨c, n⟩, HP⟩ : ∃ r, Hid (pcP (l.drop k) = r) := ⟨_, rfl⟩
      rw [HP.out] at hpk
      have HM := hid (HT.out.more hq34 HP.out hpk)
      have hkn : k + n ≤ l.length - 1 := by
        have e1 := HM.out.2.2.2
        rw [HV.out] at e1
        cases hc : txP (l.drop (k + n)) with
        | none => rw [hc] at e1; cases e1
        | some y =>
          rw [hc] at e1
          injection e1 with e1
          injection e1 with e1 e2
          have := txP_le (v := y.1) (m := y.2) hc
          have := HM.out.1
          omega
      have hn1 : 1 ≤ n := by simp only at hpk; omega
      have s1 := sl_from l k (by omega)
      have H2 := hid (piece_any (l.drop k) (by rw [List.length_drop]; omega))
      rw [HP.out] at H2
      have HW := hid (fun W h hb => wbyte_any w.heap.size w.heap.size u c W h (by omega) hb)
      clear hx hxu hxk hq34 hpk
      go_wp2_with first
        | (go_at_call 62; refine (H2.out _).mono ?_; rintro e w' ⟨rfl, m2, rfl⟩)
        | (go_at_call 63; refine (HW.out (wr.drewN m2) HQ.out HB.out.size).mono ?_; rintro e w3 ⟨rfl, hq, hb⟩; have HQ3 := hid hq; have HB3 := hid ((below_drewN HB.out m2).trans hb); clear hq hb)
      exact ⟨⟨k + n, u ++ [c], by simp, HM.out, hkn, HQ3.out, HB3.out⟩, by simp [intOf]; omega⟩
    · have q2 : ¬ (k : Int) < (l.length : Int) - 1 := by omega
      have huv : u = v := by
        have hx2 := txP_le (v := x.1) (m := x.2) hx
        have : x.1 = [] := List.length_eq_zero_iff.1 (by omega)
        rw [this, List.append_nil] at hxu
        exact hxu
      subst huv
      have HS := hid (bstr_any w.heap.size w.heap.size u wr HQ.out HB.out.size)
      clear hx hxu hxk
      go_wp2_with (go_at_call 64; refine HS.out.mono ?_; rintro e w4 ⟨rfl, hb⟩)
      go_ret2
      exact ⟨rfl, HB.out.trans hb⟩

end Go.Proofs.YtjjajfipfeigiabDoor

/- The document's numbers, signs, pieces. -/
namespace Go.Proofs.YtjjajfipfeigiabDoor
open Go.RowKit

/-- a text is a number's -/
def NuOk (l : List UInt8) : Prop := 0 < l.length ∧ ¬ (1 < l.length ∧ l.getD 0 0 = 48) ∧ Dgs l ∧ valP l ≤ 9223372036854775807
def nuB (l : List UInt8) : Bool := decide (0 < l.length ∧ ¬ (1 < l.length ∧ l.getD 0 0 = 48) ∧ twN dgB l = l.length ∧ valP l ≤ 9223372036854775807)
theorem nu_iff (l : List UInt8) : nuB l = true ↔ NuOk l := by
  unfold nuB NuOk Dgs
  rw [decide_eq_true_eq]
  exact ⟨fun ⟨a, b, c, d⟩ => ⟨a, b, fun j hj => twN_in (by omega), d⟩, fun ⟨a, b, c, d⟩ => ⟨a, b, twN_eq (Nat.le_refl _) c (fun h => by omega), d⟩⟩
def rnV (l : List UInt8) : Value := if nuB l = true then .tuple #[.int .i64 (valP l : Nat), .int .i64 0] else .tuple #[.int .i64 0, .int .i64 121]
theorem rn_ok {l : List UInt8} (h : NuOk l) : rnV l = .tuple #[.int .i64 (valP l : Nat), .int .i64 0] := by unfold rnV; rw [if_pos ((nu_iff l).2 h)]
theorem rn_bad {l : List UInt8} (h : ¬ NuOk l) : rnV l = .tuple #[.int .i64 0, .int .i64 121] := by unfold rnV; rw [if_neg (fun x => h ((nu_iff l).1 x))]

set_option maxHeartbeats 2000000 in
theorem rnumber_any (l : List UInt8) (hl : l.length ≤ 140737488355328) (w : World) :
    Calls Tryd.prog 33 #[.string (mk l)] w fun e w' => e = .returned (rnV l) ∧ w' = w := by
  have hsz := mk_size l
  by_cases h0 : l.length = 0
  · have HR := hid (rn_bad (l := l) (fun h => by have := h.1; omega))
    have q0 : (l.length : Int) = 0 := by omega
    clear h0
    go_enter Tryd.func33, Tryd.ntmps33
    go_wp2
    go_ret2
    exact ⟨by rw [HR.out]; rfl, rfl⟩
  · have q0 : ((l.length : Int) == 0) = false := by simp; intro e; exact h0 (by rw [e]; rfl)
    have hp0 : 0 < l.length := by omega
    have i0 := at_mk l 0 hp0
    obtain ⟨z, HZ⟩ : ∃ z : UInt8, Hid (l.getD 0 0 = z) := ⟨_, rfl⟩
    rw [HZ.out] at i0
    have i0 : ∀ W, (Instr.index 9 (.string (mk l)) (.int .i64 0)).run Tryd.prog W = .ok (.int .u8 (z.toNat : Nat)) W := i0
    by_cases hz : 1 < l.length ∧ z = 48
    · have HR := hid (rn_bad (l := l) (fun h => h.2.1 ⟨hz.1, by rw [HZ.out]; exact hz.2⟩))
      obtain ⟨hz1, rfl⟩ := hz
      have q1 : (1 : Int) < (l.length : Int) := by omega
      have i0 : ∀ W, (Instr.index 9 (.string (mk l)) (.int .i64 0)).run Tryd.prog W = .ok (.int .u8 48) W := i0
      clear h0
      go_enter Tryd.func33, Tryd.ntmps33
      go_wp2
      go_ret2
      exact ⟨by rw [HR.out]; rfl, rfl⟩
    · have HNZ : Hid (¬ (1 < l.length ∧ l.getD 0 0 = 48)) := (fun h => hz ⟨h.1, by rw [← HZ.out]; exact h.2⟩ : ¬ (1 < l.length ∧ l.getD 0 0 = 48))
      have hq : ¬ (1 : Int) < (l.length : Int) ∨ ((1 : Int) < (l.length : Int) ∧ ((z.toNat : Int) == 48) = false) := by
        by_cases h1 : (1 : Int) < (l.length : Int)
        · exact Or.inr ⟨h1, by simp only [beq_eq_false_iff_ne, ne_eq]; exact fun e => hz ⟨by omega, (u8_eq (n := 48) (by omega)).1 e⟩⟩
        · exact Or.inl h1
      clear hz h0
      go_enter Tryd.func33, Tryd.ntmps33
      rcases hq with q1 | ⟨q1, q2⟩
      all_goals go_wp2
      all_goals go_loop [4, 5] (fun n i => ∃ k : Nat, i = .int .i64 k ∧ Tw dgB l k ∧ n = .int .u64 (valP (l.take k) : Nat) ∧ valP (l.take k) ≤ 9223372036854775807) (fun n i => l.length - (intOf i).toNat)
      all_goals try (case atStart => exact ⟨0, rfl, Tw.zero _ _, rfl, by simp [valP]⟩)
      all_goals
        obtain ⟨k, rfl, HT, rfl, hv⟩ := hrel
        have HT : Hid (Tw dgB l k) := HT
        have hk := HT.out.1
        by_cases hlt : k < l.length
        · have q3 : (k : Int) < (l.length : Int) := by omega
          have i1 := at_mk l k hlt
          obtain ⟨c, HC⟩ : ∃ c : UInt8, Hid (l.getD k 0 = c) := ⟨_, rfl⟩
          have hs := valP_succ hlt
          have ht := valP_take l (k + 1)
          rw [HC.out] at i1 hs
          have H1 := hid (rdigit_any (c.toNat : Nat))
          obtain ⟨v, HV⟩ : ∃ v, Hid (valP (l.take k) = v) := ⟨_, rfl⟩
          rw [HV.out] at hs hv ⊢
          cases hd : dgI (c.toNat : Nat) with
          | true =>
            rw [hd] at H1
            have HD : Hid (dgB c = true) := hd
            have hc := dg_num (show dgB c = true from hd)
            clear hd
            have hc1 : (48 : Int) ≤ (c.toNat : Int) := by omega
            have hc2 : (c.toNat : Int) ≤ 57 := by omega
            by_cases hb : 10 * v + (c.toNat - 48) ≤ 9223372036854775807
            · have hbI : 10 * (v : Int) + ((c.toNat : Int) - 48) ≤ 9223372036854775807 := by omega
              have hq : ¬ (9223372036854775807 - ((c.toNat : Int) - 48)) / 10 < (v : Int) := by omega
              have HS := hid hs
              clear hs ht
              go_wp2_with (go_at_call 31; refine (H1.out _).mono ?_; rintro e w' ⟨rfl, rfl⟩)
              exact ⟨⟨k + 1, by simp, HT.out.more hlt HC.out HD.out, by rw [HS.out]; congr 1; omega, by rw [HS.out]; omega⟩, by simp [intOf]; omega⟩
            · have hq : (9223372036854775807 - ((c.toNat : Int) - 48)) / 10 < (v : Int) := by omega
              have HR := hid (rn_bad (l := l) (fun h => by have := h.2.2.2; omega))
              clear hs ht
              go_wp2_with (go_at_call 31; refine (H1.out _).mono ?_; rintro e w' ⟨rfl, rfl⟩)
              go_ret2
              exact ⟨by rw [HR.out]; rfl, rfl⟩
          | false =>
            rw [hd] at H1
            have HR := hid (rn_bad (l := l) (fun h => by
              have := h.2.2.1 k hlt
              rw [HC.out] at this
              unfold dgB at this
              rw [hd] at this
              cases this))
            clear hd hs ht
            go_wp2_with (go_at_call 31; refine (H1.out _).mono ?_; rintro e w' ⟨rfl, rfl⟩)
            go_ret2
            exact ⟨by rw [HR.out]; rfl, rfl⟩
        · have q3 : ¬ (k : Int) < (l.length : Int) := by omega
          have hkl : l.length = k := by omega
          have HTA := HT.out
          rw [← hkl] at HTA
          rw [← hkl, List.take_length] at hv ⊢
          have HR := hid (rn_ok (l := l) ⟨hp0, HNZ.out, fun j hj => HTA.2 j hj, hv⟩)
          obtain ⟨v, HV⟩ : ∃ v, Hid (valP l = v) := ⟨_, rfl⟩
          rw [HV.out] at HR hv ⊢
          have HKL := hid hkl
          have hvI : (v : Int) ≤ 9223372036854775807 := by omega
          clear hkl HTA
          go_wp2
          go_ret2
          exact ⟨by rw [HR.out]; rfl, rfl⟩

end Go.Proofs.YtjjajfipfeigiabDoor

/- What All answers, plainly: each token stands by itself. -/
namespace Go.Proofs.YtjjajfipfeigiabDoor
open Go.RowKit

theorem al_view (l : List UInt8) : (∃ (e : Int) (p : Nat), e ≠ 0 ∧ alP l = ([], e, p) ∧ (65536 < l.length ∧ e = 3 ∧ p = 0 ∨ l.length ≤ 65536 ∧ ∃ ts, Lb l 0 ts e p)) ∨ (∃ ts, l.length ≤ 65536 ∧ Lx l 0 ts ∧ alP l = (ts, 0, 0)) := by
  unfold alP
  by_cases hl : 65536 < l.length
  · rw [if_pos hl]
    exact Or.inl ⟨3, 0, by decide, rfl, Or.inl ⟨hl, rfl, rfl⟩⟩
  · rw [if_neg hl]
    rcases all_view (l := l) (Nat.zero_le _) with ⟨ts, h1, h2⟩ | ⟨ts, e, p, h1, h2⟩
    · rw [h2, if_pos rfl]
      exact Or.inr ⟨ts, by omega, h1, rfl⟩
    · have hn := h1.num
      rw [h2, if_neg (by simp only; omega)]
      exact Or.inl ⟨e, p, by omega, rfl, Or.inr ⟨by omega, ts, h1⟩⟩

/-- a token's variable -/
def Tk (w : World) (g : Nat) (t : Nat × Nat × Nat) : Prop := w.heap[g]? = some (.cells #[.int .i64 t.1, .int .i64 t.2.1, .int .i64 t.2.2] 34 (0, 0))
theorem Tk.below {w w' : World} {g B : Nat} {t : Nat × Nat × Nat} (h : Tk w g t) (hb : Below B w w') (hg : g < B) : Tk w' g t := by unfold Tk; rw [hb.block g hg]; exact h
theorem Tk.lt {w : World} {g : Nat} {t : Nat × Nat × Nat} (h : Tk w g t) : g < w.heap.size := hp_lt h
theorem Tk.c0 {w : World} {g k f m : Nat} (h : Tk w g (k, f, m)) : w.cell? ⟨g, 0, none⟩ = some (.int .i64 (k : Int)) := by rw [cell_of_row _ _ _ _ _ _ h]; rfl
theorem Tk.c1 {w : World} {g k f m : Nat} (h : Tk w g (k, f, m)) : w.cell? ⟨g, 1, none⟩ = some (.int .i64 (f : Int)) := by rw [cell_of_row _ _ _ _ _ _ h]; rfl
theorem Tk.c2 {w : World} {g k f m : Nat} (h : Tk w g (k, f, m)) : w.cell? ⟨g, 2, none⟩ = some (.int .i64 (m : Int)) := by rw [cell_of_row _ _ _ _ _ _ h]; rfl
/-- a token into a variable that was made last -/
theorem st_tk {w : World} {ops : Array Oper} {rest : List Oper} {o : Oper} {a : Act} {Q : Exit → Act → World → Prop} (hgd : o.guard = none) (x y : Operand) (ho : o.op = .store 34 x y)
    (t : Nat × Nat × Nat) (hx : a.eval x = .pointer (some ⟨w.heap.size, 0, none⟩)) (hy : a.eval y = .agg #[.int .i64 t.1, .int .i64 t.2.1, .int .i64 t.2.2])
    (old : Array Value) (hold : old.size = 3)
    (h : ∀ wz, Tk wz w.heap.size t → Below w.heap.size w wz → wpList Tryd.prog ops Q rest (a.put o.dst undef) wz) :
    wpList Tryd.prog ops Q (o :: rest) a (w.alloc (.cells old 34)) :=
  st_tok hgd x y ho t hx hy old hold (fun wz _ h2 h3 => h wz h2 h3)

/-- a token that stands by itself -/
def Sole (l : List UInt8) (t : Nat × Nat × Nat) : Prop := ∃ k f n, t = (k, f, f + n) ∧ 1 ≤ k ∧ k ≤ 5 ∧ 1 ≤ n ∧ f + n ≤ l.length ∧ tokP (l.drop f) = (k, n, 0) ∧ gapP (l.drop f) = 0
theorem Lx.mem {l : List UInt8} {a : Nat} {ts : List (Nat × Nat × Nat)} (h : Lx l a ts) : ∀ t ∈ ts, t = (0, l.length, l.length) ∨ Sole l t :=
  Lx.ind (M := fun _ ts => ∀ t ∈ ts, t = (0, l.length, l.length) ∨ Sole l t) (fun _ _ t ht => by simp at ht; exact Or.inl ht)
    (fun {a k n ts} _ h hk hk5 hn hl _ ih t hm => by
      rcases List.mem_cons.1 hm with rfl | hm
      · exact Or.inr ⟨k, frP l a, n, rfl, hk, hk5, hn, hl, h, frP_idle l a⟩
      · exact ih t hm) ts h
theorem getD_mem {ts : List (Nat × Nat × Nat)} {i : Nat} (h : i < ts.length) : ts.getD i (0, 0, 0) ∈ ts := by
  rw [List.getD_eq_getElem?_getD, List.getElem?_eq_getElem h]; exact List.getElem_mem h

theorem nx_of {X : List UInt8} {k n : Nat} (hl : X.length ≤ 65536) (hg : gapP X = 0) (ht : tokP X = (k, n, 0)) : nxP X 0 = ((k, 0, n), 0) := by
  have hf : frP X 0 = 0 := by unfold frP; rw [List.drop_zero, hg]
  have htk : tkP X 0 = (k, n, 0) := by unfold tkP; rw [hf, List.drop_zero, ht]
  have hp : plN X 0 = 0 := by unfold plN; rw [if_neg (by omega), if_neg (by omega)]
  unfold nxP
  rw [hp, if_neg (by simp)]
  simp only [Int.toNat_zero]
  rw [htk, hf, if_neg (by simp)]
  simp
/-- a token alone; with the byte behind it -/
theorem nx_alone {l : List UInt8} {k f n : Nat} (hl : l.length ≤ 65536) (hk : k ≠ 0) (ht : tokP (l.drop f) = (k, n, 0)) (hg : gapP (l.drop f) = 0) : nxP ((l.drop f).take n) 0 = ((k, 0, n), 0) := by
  refine nx_of (by rw [List.length_take, List.length_drop]; omega) ?_ ?_
  · rw [gapP_take (by omega), hg]
  · have := tok_cut (r := []) ht hk (Or.inl rfl)
    rwa [List.append_nil] at this
theorem nx_more {l : List UInt8} {k f n : Nat} (hl : l.length ≤ 65536) (hk : k ≠ 0) (ht : tokP (l.drop f) = (k, n, 0)) (hg : gapP (l.drop f) = 0) (hn : f + n < l.length) : nxP ((l.drop f).take (n + 1)) 0 = ((k, 0, n), 0) := by
  refine nx_of (by rw [List.length_take, List.length_drop]; omega) ?_ ?_
  · rw [gapP_take (by omega), hg]
  · have hlt : n < (l.drop f).length := by rw [List.length_drop]; omega
    have e : (l.drop f).take (n + 1) = (l.drop f).take n ++ [(l.drop f)[n]] := List.take_succ_eq_append_getElem hlt
    rw [e]
    refine tok_cut ht hk (Or.inr (Or.inl ?_))
    rw [head_drop, List.getElem?_eq_getElem hlt]
    rfl

end Go.Proofs.YtjjajfipfeigiabDoor

/- Numbers, texts, words and keys: both sides. -/
namespace Go.Proofs.YtjjajfipfeigiabDoor
open Go.RowKit

/-- all bytes of a kind -/
theorem tw_all {p : UInt8 → Bool} {l : List UInt8} (h : ∀ j, j < l.length → p (l.getD j 0) = true) : twN p l = l.length := twN_eq (Nat.le_refl _) h (fun h => by omega)
theorem tw_full {p : UInt8 → Bool} {l : List UInt8} (h : twN p l = l.length) : ∀ j, j < l.length → p (l.getD j 0) = true := fun j hj => twN_in (by omega)
theorem js_num (l : List UInt8) : jsP 2 l = true ↔ NuOk l := by
  unfold jsP
  rw [decide_eq_true_eq]
  constructor
  · intro h
    unfold tokP at h
    split at h
    · simp at h
    · rename_i hl
      split at h
      · unfold wdP at h; repeat' split at h
        all_goals simp at h
      · split at h
        · rename_i h1 h2
          unfold nuP at h
          split at h
          · simp at h
          · rename_i h3
            simp only [Prod.mk.injEq, and_true, true_and] at h
            rw [h, List.take_length] at h3
            refine ⟨by omega, fun x => h3 (Or.inl ⟨x.2, x.1⟩), tw_full h, ?_⟩
            have : ¬ 9223372036854775807 < valP l := fun x => h3 (Or.inr (Or.inr x))
            omega
        · split at h
          · unfold tqP at h; repeat' split at h
            all_goals simp at h
          · unfold sqP at h; repeat' split at h
            all_goals simp at h
  · rintro ⟨a, b, c, d⟩
    have hd := c 0 a
    have h1 : ltB (l.getD 0 0) = false := by
      have := dg_num hd
      unfold ltB ltI
      rw [decide_eq_false_iff_not]
      omega
    have ht := tw_all (p := dgB) c
    unfold tokP
    rw [if_neg (by omega), if_neg (by rw [h1]; decide), if_pos hd]
    unfold nuP
    have hz : l.getD l.length 0 = 0 := by rw [List.getD_eq_getElem?_getD, List.getElem?_eq_none (Nat.le_refl _)]; rfl
    rw [ht, List.take_length, hz, if_neg]
    rintro (x | x | x)
    · exact b ⟨x.2, x.1⟩
    · revert x; decide
    · omega
/-- a name: letters and digits, a letter first, not too many -/
def nmT (l : List UInt8) : Bool := decide (0 < l.length ∧ l.length ≤ 32 ∧ ltB (l.getD 0 0) = true ∧ ∀ j, j < l.length → wdB (l.getD j 0) = true)
theorem ky_name {l : List UInt8} (h : l ∈ kyL) : nmT l = true := by
  have : kyL.all nmT = true := by decide +kernel
  exact List.all_eq_true.1 this l h
theorem js_word (l : List UInt8) : (jsP 1 l = true ↔ (nmT l = true ∧ ¬ l ∈ kyL)) ∧ (jsP 4 l = true ↔ l ∈ kyL) := by
  have key : nmT l = true → tokP l = if l ∈ kyL then (4, l.length, 0) else (1, l.length, 0) := fun h => by
    obtain ⟨a, b, c, d⟩ := of_decide_eq_true h
    have ht := tw_all (p := wdB) d
    unfold tokP
    rw [if_neg (by omega), if_pos c]
    unfold wdP
    rw [ht, List.take_length, if_neg (by omega)]
  have back : ∀ k, (k = 1 ∨ k = 4) → tokP l = (k, l.length, 0) → nmT l = true := fun k hk h => by
    unfold tokP at h
    split at h
    · simp only [Prod.mk.injEq] at h; omega
    · rename_i hl
      split at h
      · rename_i h1
        unfold wdP at h
        split at h
        · simp only [Prod.mk.injEq] at h; omega
        · rename_i h2
          have ht : twN wdB l = l.length := by
            split at h
            · simp only [Prod.mk.injEq] at h; exact h.2.1
            · simp only [Prod.mk.injEq] at h; exact h.2.1
          rw [ht] at h2
          exact decide_eq_true ⟨by omega, by omega, h1, tw_full ht⟩
      · split at h
        · unfold nuP at h; repeat' split at h
          all_goals (simp only [Prod.mk.injEq] at h; omega)
        · split at h
          · unfold tqP at h; repeat' split at h
            all_goals (simp only [Prod.mk.injEq] at h; omega)
          · unfold sqP at h; repeat' split at h
            all_goals (simp only [Prod.mk.injEq] at h; omega)
  unfold jsP
  rw [decide_eq_true_eq, decide_eq_true_eq]
  refine ⟨⟨fun h => ?_, fun ⟨h1, h2⟩ => by rw [key h1, if_neg h2]⟩, ⟨fun h => ?_, fun h => by rw [key (ky_name h), if_pos h]⟩⟩
  · have hn := back 1 (Or.inl rfl) h
    refine ⟨hn, fun hm => ?_⟩
    rw [key hn, if_pos hm] at h
    simp only [Prod.mk.injEq] at h; omega
  · have hn := back 4 (Or.inr rfl) h
    rw [key hn] at h
    split at h
    · assumption
    · simp only [Prod.mk.injEq] at h; omega

end Go.Proofs.YtjjajfipfeigiabDoor

/- The includes of a source, plainly. -/
namespace Go.Proofs.YtjjajfipfeigiabDoor
open Go.RowKit

def kInc : List UInt8 := [105, 110, 99, 108, 117, 100, 101]
def kAs : List UInt8 := [97, 115]
def kEnd : List UInt8 := [59]
/-- a token's bytes -/
def ttP (l : List UInt8) (f m : Nat) : List UInt8 := (l.drop f).take (m - f)
/-- is a token what stands at a place (0: the key include; 1 to 4: what stands behind it)? -/
def fitP (p k : Nat) (s : List UInt8) : Bool :=
  if p = 0 then decide (s = kInc) else if p = 1 then decide (k = 3) else if p = 2 then decide (s = kAs) else if p = 3 then decide (k = 1) else decide (s = kEnd)
/-- the token at a place, and why it is none -/
def plP (l : List UInt8) (p a : Nat) : (Nat × Nat × Nat) × Int :=
  if (nxP l (a : Int)).2 ≠ 0 then nxP l (a : Int)
  else if fitP p (nxP l (a : Int)).1.1 (ttP l (nxP l (a : Int)).1.2.1 (nxP l (a : Int)).1.2.2) = true then ((nxP l (a : Int)).1, 0) else ((nxP l (a : Int)).1, 130)

theorem fit_none (p : Nat) : fitP p 0 [] = false := by
  unfold fitP
  repeat' split
  all_goals decide
/-- a token that fits stands by itself -/
theorem pl_view {l : List UInt8} {a : Nat} (p : Nat) (hl : l.length ≤ 65536) (ha : a ≤ l.length) :
    (∃ (e : Int) (f : Nat), e ≠ 0 ∧ 120 ≤ e ∧ e ≤ 123 ∧ a ≤ f ∧ f ≤ l.length ∧ nxP l (a : Int) = ((0, f, 0), e) ∧ plP l p a = ((0, f, 0), e)) ∨
    (∃ k f m : Nat, a ≤ f ∧ f ≤ m ∧ m ≤ l.length ∧ nxP l (a : Int) = ((k, f, m), 0) ∧ fitP p k (ttP l f m) = false ∧ plP l p a = ((k, f, m), 130)) ∨
    (∃ k f m : Nat, a ≤ f ∧ f < m ∧ m ≤ l.length ∧ nxP l (a : Int) = ((k, f, m), 0) ∧ fitP p k (ttP l f m) = true ∧ plP l p a = ((k, f, m), 0) ∧ 1 ≤ k ∧ k ≤ 5 ∧ tokP (l.drop f) = (k, m - f, 0) ∧ gapP (l.drop f) = 0) := by
  have hf := frP_le ha
  rcases nx_view ha with ⟨v1, _⟩ | ⟨v0, ⟨v1, v2, v3⟩ | ⟨e, v1, v2, v3, v4, v5⟩ | ⟨k, n, v1, v2, v3, v4, v5, v6⟩⟩
  · omega
  · refine Or.inr (Or.inl ⟨0, frP l a, frP l a, hf.1, Nat.le_refl _, hf.2, v3, ?_, ?_⟩)
    · have : ttP l (frP l a) (frP l a) = [] := by unfold ttP; simp
      rw [this]; exact fit_none p
    · have : ttP l (frP l a) (frP l a) = [] := by unfold ttP; simp
      unfold plP
      rw [v3, if_neg (by simp)]
      simp only
      rw [this, fit_none, if_neg (by simp)]
  · refine Or.inl ⟨e, frP l a, by omega, v1, v2, hf.1, hf.2, v5, ?_⟩
    unfold plP
    rw [v5, if_pos (by simp only; omega)]
  · cases hb : fitP p k (ttP l (frP l a) (frP l a + n)) with
    | false =>
      refine Or.inr (Or.inl ⟨k, frP l a, frP l a + n, hf.1, by omega, v5, v6, hb, ?_⟩)
      unfold plP
      rw [v6, if_neg (by simp)]
      simp only
      rw [hb, if_neg (by simp)]
    | true =>
      refine Or.inr (Or.inr ⟨k, frP l a, frP l a + n, hf.1, by omega, v5, v6, hb, ?_, v2, v3, ?_, frP_idle l a⟩)
      · unfold plP
        rw [v6, if_neg (by simp)]
        simp only
        rw [hb, if_pos rfl]
      · rw [Nat.add_sub_cancel_left]; exact v1

/-- a token's own bytes are that token -/
theorem tok_own {l : List UInt8} {k f n : Nat} (ht : tokP (l.drop f) = (k, n, 0)) (hk : k ≠ 0) : tokP (ttP l f (f + n)) = (k, n, 0) ∧ (ttP l f (f + n)).length = n := by
  obtain ⟨s1, s2, _⟩ := tok_size ht hk
  unfold ttP
  rw [Nat.add_sub_cancel_left]
  have := tok_cut (r := []) ht hk (Or.inl rfl)
  rw [List.append_nil] at this
  exact ⟨this, by rw [List.length_take]; omega⟩
theorem js_own {l : List UInt8} {k f m : Nat} (hm : f < m) (ht : tokP (l.drop f) = (k, m - f, 0)) (hk : 1 ≤ k) (j : Nat) : jsP j (ttP l f m) = decide (k = j) := by
  have h := tok_own ht (by omega)
  rw [show f + (m - f) = m by omega] at h
  unfold jsP
  rw [h.1, h.2]
  by_cases hj : k = j
  · subst hj; simp
  · rw [decide_eq_false hj, decide_eq_false_iff_not]
    simp only [Prod.mk.injEq]
    exact fun x => hj x.1

/-- a text's value -/
def vlP (s : List UInt8) : List UInt8 := ((txP (s.drop 1)).getD ([], 0)).1
theorem vl_text {s : List UInt8} (h : jsP 3 s = true) : txP (s.drop 1) = some (vlP s, s.length - 1) := by
  obtain ⟨v, h1, _⟩ := js_text h
  unfold vlP
  rw [h1]
  rfl

/-- what stands behind the key include, from a place on: the error and where; the path, the name, the end -/
def in4 (l v n : List UInt8) (a : Nat) : Int × Nat × List UInt8 × List UInt8 × Nat :=
  if (plP l 4 a).2 ≠ 0 then ((plP l 4 a).2, (plP l 4 a).1.2.1, [], [], 0) else (0, 0, v, n, (plP l 4 a).1.2.2)
def in3 (l v : List UInt8) (a : Nat) : Int × Nat × List UInt8 × List UInt8 × Nat :=
  if (plP l 3 a).2 ≠ 0 then ((plP l 3 a).2, (plP l 3 a).1.2.1, [], [], 0) else in4 l v (ttP l (plP l 3 a).1.2.1 (plP l 3 a).1.2.2) (plP l 3 a).1.2.2
def in2 (l v : List UInt8) (a : Nat) : Int × Nat × List UInt8 × List UInt8 × Nat :=
  if (plP l 2 a).2 ≠ 0 then ((plP l 2 a).2, (plP l 2 a).1.2.1, [], [], 0) else in3 l v (plP l 2 a).1.2.2
def in1 (l : List UInt8) (a : Nat) : Int × Nat × List UInt8 × List UInt8 × Nat :=
  if (plP l 1 a).2 ≠ 0 then ((plP l 1 a).2, (plP l 1 a).1.2.1, [], [], 0) else in2 l (vlP (ttP l (plP l 1 a).1.2.1 (plP l 1 a).1.2.2)) (plP l 1 a).1.2.2

/-- the four tokens behind the key include: all there, or the first one that is not -/
theorem in_view {l : List UInt8} {a : Nat} (hl : l.length ≤ 65536) (ha : a ≤ l.length) :
    (∃ (e : Int) (f : Nat), e ≠ 0 ∧ f ≤ l.length ∧ in1 l a = (e, f, [], [], 0)) ∨
    (∃ (f1 m1 k2 f2 m2 f3 m3 k4 f4 m4 : Nat), a ≤ f1 ∧ f1 < m1 ∧ m1 ≤ f2 ∧ f2 < m2 ∧ m2 ≤ f3 ∧ f3 < m3 ∧ m3 ≤ f4 ∧ f4 < m4 ∧ m4 ≤ l.length ∧
      plP l 1 a = ((3, f1, m1), 0) ∧ plP l 2 m1 = ((k2, f2, m2), 0) ∧ plP l 3 m2 = ((1, f3, m3), 0) ∧ plP l 4 m3 = ((k4, f4, m4), 0) ∧
      jsP 3 (ttP l f1 m1) = true ∧ jsP 1 (ttP l f3 m3) = true ∧
      in1 l a = (0, 0, vlP (ttP l f1 m1), ttP l f3 m3, m4)) := by
  have e1 : ∀ e : Int, (e ≠ 0 ∧ True) → e ≠ 0 := fun e h => h.1
  rcases pl_view 1 hl ha with ⟨e, f, h0, _, _, _, hf, _, hp⟩ | ⟨k, f, m, _, hfm, hm, _, _, hp⟩ | ⟨k1, f1, m1, a1, b1, c1, _, hk1, p1, g1, _, t1, _⟩
  · exact Or.inl ⟨e, f, h0, hf, by unfold in1; rw [hp, if_pos h0]⟩
  · exact Or.inl ⟨130, f, by decide, by omega, by unfold in1; rw [hp, if_pos (by simp)]⟩
  have hk1 : k1 = 3 := by simpa [fitP] using hk1
  subst hk1
  rcases pl_view (a := m1) 2 hl (by omega) with ⟨e, f, h0, _, _, _, hf, _, hp⟩ | ⟨k, f, m, _, hfm, hm, _, _, hp⟩ | ⟨k2, f2, m2, a2, b2, c2, _, hk2, p2, g2, _, t2, _⟩
  · exact Or.inl ⟨e, f, h0, hf, by unfold in1; rw [p1, if_neg (by simp)]; unfold in2; simp only; rw [hp, if_pos h0]⟩
  · exact Or.inl ⟨130, f, by decide, by omega, by unfold in1; rw [p1, if_neg (by simp)]; unfold in2; simp only; rw [hp, if_pos (by simp)]⟩
  rcases pl_view (a := m2) 3 hl (by omega) with ⟨e, f, h0, _, _, _, hf, _, hp⟩ | ⟨k, f, m, _, hfm, hm, _, _, hp⟩ | ⟨k3, f3, m3, a3, b3, c3, _, hk3, p3, g3, _, t3, _⟩
  · exact Or.inl ⟨e, f, h0, hf, by unfold in1; rw [p1, if_neg (by simp)]; unfold in2; simp only; rw [p2, if_neg (by simp)]; unfold in3; simp only; rw [hp, if_pos h0]⟩
  · exact Or.inl ⟨130, f, by decide, by omega, by unfold in1; rw [p1, if_neg (by simp)]; unfold in2; simp only; rw [p2, if_neg (by simp)]; unfold in3; simp only; rw [hp, if_pos (by simp)]⟩
  have hk3 : k3 = 1 := by simpa [fitP] using hk3
  subst hk3
  rcases pl_view (a := m3) 4 hl (by omega) with ⟨e, f, h0, _, _, _, hf, _, hp⟩ | ⟨k, f, m, _, hfm, hm, _, _, hp⟩ | ⟨k4, f4, m4, a4, b4, c4, _, hk4, p4, g4, _, t4, _⟩
  · exact Or.inl ⟨e, f, h0, hf, by unfold in1; rw [p1, if_neg (by simp)]; unfold in2; simp only; rw [p2, if_neg (by simp)]; unfold in3; simp only; rw [p3, if_neg (by simp)]; unfold in4; simp only; rw [hp, if_pos h0]⟩
  · exact Or.inl ⟨130, f, by decide, by omega, by unfold in1; rw [p1, if_neg (by simp)]; unfold in2; simp only; rw [p2, if_neg (by simp)]; unfold in3; simp only; rw [p3, if_neg (by simp)]; unfold in4; simp only; rw [hp, if_pos (by simp)]⟩
  refine Or.inr ⟨f1, m1, k2, f2, m2, f3, m3, k4, f4, m4, a1, b1, a2, b2, a3, b3, a4, b4, c4, p1, p2, p3, p4, ?_, ?_, ?_⟩
  · rw [js_own b1 t1 (by omega)]; rfl
  · rw [js_own b3 t3 (by omega)]; rfl
  · unfold in1; rw [p1, if_neg (by simp)]; unfold in2; simp only; rw [p2, if_neg (by simp)]; unfold in3; simp only; rw [p3, if_neg (by simp)]; unfold in4; simp only; rw [p4, if_neg (by simp)]

/-- the includes from a place on: their list, the end, the error, where; so many at most -/
def jnP (L : List (List UInt8 × List UInt8 × Nat)) (q : List (List UInt8 × List UInt8 × Nat) × Nat × Int × Nat) : List (List UInt8 × List UInt8 × Nat) × Nat × Int × Nat :=
  if q.2.2.1 ≠ 0 then ([], 0, q.2.2) else (L ++ q.1, q.2.1, 0, 0)
def scF : Nat → List UInt8 → Nat → List (List UInt8 × List UInt8 × Nat) × Nat × Int × Nat
  | 0, _, a => ([], a, 0, 0)
  | n + 1, l, a => if (plP l 0 a).2 ≠ 0 then ([], a, 0, 0)
    else if (in1 l (plP l 0 a).1.2.2).1 ≠ 0 then ([], 0, (in1 l (plP l 0 a).1.2.2).1, (in1 l (plP l 0 a).1.2.2).2.1)
    else jnP [((in1 l (plP l 0 a).1.2.2).2.2.1, (in1 l (plP l 0 a).1.2.2).2.2.2.1, (plP l 0 a).1.2.1)] (scF n l (in1 l (plP l 0 a).1.2.2).2.2.2.2)
def scP (l : List UInt8) (a : Nat) : List (List UInt8 × List UInt8 × Nat) × Nat × Int × Nat := scF (l.length + 1) l a

theorem sc_view {l : List UInt8} {a : Nat} (hl : l.length ≤ 65536) (ha : a ≤ l.length) :
    (∃ t e, e ≠ 0 ∧ plP l 0 a = (t, e)) ∨
    (∃ k f m : Nat, a ≤ f ∧ f < m ∧ m ≤ l.length ∧ plP l 0 a = ((k, f, m), 0) ∧ ∃ (e : Int) (g : Nat), e ≠ 0 ∧ g ≤ l.length ∧ in1 l m = (e, g, [], [], 0)) ∨
    (∃ (k f m : Nat) (v n : List UInt8) (to : Nat), a ≤ f ∧ f < m ∧ m < to ∧ to ≤ l.length ∧ plP l 0 a = ((k, f, m), 0) ∧ in1 l m = (0, 0, v, n, to)) := by
  rcases pl_view 0 hl ha with ⟨e, f, h0, _, _, _, hf, _, hp⟩ | ⟨k, f, m, _, hfm, hm, _, _, hp⟩ | ⟨k, f, m, a1, b1, c1, _, _, p1, _⟩
  · exact Or.inl ⟨_, e, h0, hp⟩
  · exact Or.inl ⟨_, 130, by decide, hp⟩
  · rcases in_view hl (a := m) c1 with ⟨e, g, h0, hg, hi⟩ | ⟨f1, m1, k2, f2, m2, f3, m3, k4, f4, m4, i1, i2, i3, i4, i5, i6, i7, i8, i9, _, _, _, _, _, _, hi⟩
    · exact Or.inr (Or.inl ⟨k, f, m, a1, b1, c1, p1, e, g, h0, hg, hi⟩)
    · exact Or.inr (Or.inr ⟨k, f, m, _, _, m4, a1, b1, by omega, i9, p1, hi⟩)
theorem scF_more : ∀ (n m : Nat) (l : List UInt8) (a : Nat), l.length ≤ 65536 → a ≤ l.length → l.length - a < n → l.length - a < m → scF n l a = scF m l a
  | 0, _, l, a, _, _, h, _ => by omega
  | _ + 1, 0, l, a, _, _, _, h => by omega
  | n + 1, m + 1, l, a, hl, ha, h1, h2 => by
    unfold scF
    rcases sc_view hl ha with ⟨t, e, h0, hp⟩ | ⟨k, f, x, _, _, _, hp, e, g, h0, _, hi⟩ | ⟨k, f, x, v, s, to, _, _, _, _, hp, hi⟩
    · rw [hp, if_pos h0, if_pos h0]
    · have z : ¬ ((0 : Int) ≠ 0) := by simp
      rw [hp]; simp only; rw [hi]; simp only; rw [if_neg z, if_pos h0, if_neg z, if_pos h0]
    · have z : ¬ ((0 : Int) ≠ 0) := by simp
      rw [hp]; simp only; rw [hi]; simp only; rw [if_neg z, if_neg z, if_neg z, if_neg z, scF_more n m l to hl (by omega) (by omega) (by omega)]
theorem sc_end {l : List UInt8} {a : Nat} {t : Nat × Nat × Nat} {e : Int} (h : plP l 0 a = (t, e)) (he : e ≠ 0) : scP l a = ([], a, 0, 0) := by
  unfold scP; rw [scF, h, if_pos he]
theorem sc_bad {l : List UInt8} {a k f m g : Nat} {e : Int} {x y : List UInt8} {z : Nat} (h : plP l 0 a = ((k, f, m), 0)) (hi : in1 l m = (e, g, x, y, z)) (he : e ≠ 0) : scP l a = ([], 0, e, g) := by
  unfold scP; rw [scF, h, if_neg (by simp)]; simp only; rw [hi, if_pos he]
theorem sc_step {l : List UInt8} {a k f m to : Nat} {v n : List UInt8} (hl : l.length ≤ 65536) (ha : a < to) (hto : to ≤ l.length) (h : plP l 0 a = ((k, f, m), 0)) (hi : in1 l m = (0, 0, v, n, to)) : scP l a = jnP [(v, n, f)] (scP l to) := by
  unfold scP
  rw [scF, h, if_neg (by simp)]
  simp only
  rw [hi, if_neg (by simp), scF_more l.length (l.length + 1) l to hl hto (by omega) (by omega)]
theorem jn_jn (A B : List (List UInt8 × List UInt8 × Nat)) (q : List (List UInt8 × List UInt8 × Nat) × Nat × Int × Nat) : jnP A (jnP B q) = jnP (A ++ B) q := by
  unfold jnP
  by_cases h : q.2.2.1 ≠ 0
  · rw [if_pos h, if_pos h, if_pos h]
  · rw [if_neg h, if_neg h, if_neg (by simp), List.append_assoc]
theorem sc_form {l : List UInt8} {a : Nat} (hl : l.length ≤ 65536) (ha : a ≤ l.length) : scP l a = jnP [] (scP l a) := by
  rcases sc_view hl ha with ⟨t, e, h0, hp⟩ | ⟨k, f, x, _, _, _, hp, e, g, h0, _, hi⟩ | ⟨k, f, x, v, s, to, _, _, _, _, hp, hi⟩
  · rw [sc_end hp h0]; rfl
  · rw [sc_bad hp hi h0]; unfold jnP; rw [if_pos h0]
  · rw [sc_step hl (by omega) (by omega) hp hi, jn_jn]; rfl
/-- includes so far -/
def Sg (l : List UInt8) (a : Nat) (L : List (List UInt8 × List UInt8 × Nat)) : Prop := a ≤ l.length ∧ L.length ≤ a ∧ scP l 0 = jnP L (scP l a) ∧ (L = [] → a = 0)
theorem Sg.zero {l : List UInt8} (hl : l.length ≤ 65536) : Sg l 0 [] := ⟨Nat.zero_le _, Nat.le_refl _, sc_form hl (Nat.zero_le _), fun _ => rfl⟩
theorem Sg.more {l : List UInt8} {a k f m to : Nat} {v n : List UInt8} {L : List (List UInt8 × List UInt8 × Nat)} (h : Sg l a L) (hl : l.length ≤ 65536) (ha : a < to) (hto : to ≤ l.length) (hp : plP l 0 a = ((k, f, m), 0)) (hi : in1 l m = (0, 0, v, n, to)) : Sg l to (L ++ [(v, n, f)]) :=
  ⟨hto, by have := h.2.1; simp; omega, by rw [h.2.2.1, sc_step hl ha hto hp hi, jn_jn], fun x => by simp at x⟩
theorem Sg.last {l : List UInt8} {a : Nat} {t : Nat × Nat × Nat} {e : Int} {L : List (List UInt8 × List UInt8 × Nat)} (h : Sg l a L) (hp : plP l 0 a = (t, e)) (he : e ≠ 0) : scP l 0 = (L, a, 0, 0) := by
  rw [h.2.2.1, sc_end hp he]
  unfold jnP
  rw [if_neg (by simp), List.append_nil]
theorem Sg.bad {l : List UInt8} {a k f m g : Nat} {e : Int} {x y : List UInt8} {z : Nat} {L : List (List UInt8 × List UInt8 × Nat)} (h : Sg l a L) (hp : plP l 0 a = ((k, f, m), 0)) (hi : in1 l m = (e, g, x, y, z)) (he : e ≠ 0) : scP l 0 = ([], 0, e, g) := by
  rw [h.2.2.1, sc_bad hp hi he]
  unfold jnP
  rw [if_pos he]
/-- what Includes answers: the includes, their end, the error, where -/
def isP (l : List UInt8) : List (List UInt8 × List UInt8 × Nat) × Nat × Int × Nat := if 65536 < l.length then ([], 0, 3, 0) else scP l 0

/-- the last include stands where it says -/
def Lst (l : List UInt8) (x : List UInt8 × List UInt8 × Nat) (to : Nat) : Prop := ∃ k m, x.2.2 < m ∧ m < to ∧ to ≤ l.length ∧ plP l 0 x.2.2 = ((k, x.2.2, m), 0) ∧ in1 l m = (0, 0, x.1, x.2.1, to)
theorem pl_again {l : List UInt8} {p a k f m : Nat} (hl : l.length ≤ 65536) (ha : a ≤ l.length) (h : plP l p a = ((k, f, m), 0)) : plP l p f = ((k, f, m), 0) := by
  rcases pl_view p hl ha with ⟨e, f', h0, _, _, _, hf, _, hp⟩ | ⟨k', f', m', _, hfm, hm, _, _, hp⟩ | ⟨k', f', m', a1, b1, c1, hn, hb, p1, hk, hk5, ht, hg⟩
  · rw [hp] at h; simp only [Prod.mk.injEq] at h; omega
  · rw [hp] at h; simp only [Prod.mk.injEq] at h; omega
  · rw [p1] at h
    simp only [Prod.mk.injEq, and_true] at h
    obtain ⟨rfl, rfl, rfl⟩ := h
    have hf : frP l f' = f' := by unfold frP; rw [hg]; rfl
    have htk : tkP l f' = (k', m' - f', 0) := by unfold tkP; rw [hf]; exact ht
    rcases nx_view (l := l) (a := f') (by omega) with ⟨v1, _⟩ | ⟨v0, ⟨v1, v2, v3⟩ | ⟨e, v1, v2, v3, v4, v5⟩ | ⟨k, n, v1, v2, v3, v4, v5, v6⟩⟩
    · omega
    · rw [htk] at v2; simp only [Prod.mk.injEq] at v2; omega
    · rw [htk] at v4; simp only [Prod.mk.injEq] at v4; omega
    · rw [htk] at v1
      simp only [Prod.mk.injEq, and_true] at v1
      obtain ⟨rfl, rfl⟩ := v1
      rw [hf, show f' + (m' - f') = m' by omega] at v6
      unfold plP
      rw [v6, if_neg (by simp)]
      simp only
      rw [hb, if_pos rfl]
theorem sc_last {l : List UInt8} (hl : l.length ≤ 65536) {a : Nat} (ha : a ≤ l.length) : ∀ (L : List (List UInt8 × List UInt8 × Nat)) (to : Nat), scP l a = (L, to, 0, 0) → (L = [] ∧ to = a) ∨ ∃ L' x, L = L' ++ [x] ∧ Lst l x to := by
  induction hn : l.length - a using Nat.strongRecOn generalizing a with
  | _ m ih =>
    intro L to h
    rcases sc_view hl ha with ⟨t, e, h0, hp⟩ | ⟨k, f, x, _, _, _, hp, e, g, h0, _, hi⟩ | ⟨k, f, x, v, s, t2, h1, h2, h3, h4, hp, hi⟩
    · rw [sc_end hp h0] at h
      simp only [Prod.mk.injEq, and_true] at h
      exact Or.inl ⟨h.1.symm, h.2.symm⟩
    · rw [sc_bad hp hi h0] at h
      simp only [Prod.mk.injEq] at h
      exact absurd h.2.2.1 h0
    · rw [sc_step hl (by omega) (by omega) hp hi] at h
      obtain ⟨q1, q2, e2, g2, hq⟩ : ∃ L2 to2 e2 g2, scP l t2 = (L2, to2, e2, g2) := ⟨_, _, _, _, rfl⟩
      unfold jnP at h
      rw [hq] at h
      simp only at h
      split at h
      · rename_i h5
        simp only [Prod.mk.injEq] at h
        exact absurd h.2.2.1 h5
      · rename_i h5
        have h5 : e2 = 0 := Decidable.not_not.1 h5
        subst h5
        simp only [Prod.mk.injEq, and_true] at h
        obtain ⟨rfl, rfl⟩ := h
        have hq2 : scP l t2 = (q1, q2, 0, 0) := by
          have := sc_form hl (a := t2) h4
          rw [hq] at this
          unfold jnP at this
          simp only [ne_eq, not_true_eq_false, if_false, List.nil_append] at this
          rw [hq, this]
        rcases ih (l.length - t2) (by omega) (a := t2) h4 rfl q1 q2 hq2 with ⟨rfl, rfl⟩ | ⟨L', x, rfl, hx⟩
        · refine Or.inr ⟨[], (v, s, f), rfl, k, _, h2, h3, h4, pl_again hl ha hp, hi⟩
        · exact Or.inr ⟨[(v, s, f)] ++ L', x, by simp, hx⟩

end Go.Proofs.YtjjajfipfeigiabDoor

/- A source's tokens, one behind the other. -/
namespace Go.Proofs.YtjjajfipfeigiabDoor
open Go.RowKit

/-- all tokens of a source, and what begins behind them -/
def tokL (l : List UInt8) : List Tok × Int × Nat := if 65536 < l.length then ([], 3, 0) else allP l 0
def lkP (l : List UInt8) (fuel : Int) (i : Nat) : Except Ft Tok := match (tokL l).1[i]? with
  | none => .error ((tokL l).2.1, (tokL l).2.2, i)
  | some t => if t.1 ≠ 0 ∧ fuel ≤ (i : Int) then .error (142, t.2.1, i) else .ok t
/-- a token's text -/
def txA (l : List UInt8) (t : Tok) : List UInt8 := ttP l t.2.1 t.2.2
def srcP (l : List UInt8) (fuel : Int) : Sup := ⟨lkP l fuel, txA l⟩
/-- how much fuel was used when the i-th token t is looked at -/
def usA (i : Nat) (t : Tok) : Nat := if t.1 = 0 then i else i + 1
/-- the i-th token begins behind byte a -/
def Beg (l : List UInt8) (i a : Nat) : Prop := a ≤ l.length ∧ (l.length ≤ 65536 → allP l a = ((tokL l).1.drop i, (tokL l).2)) ∧ (65536 < l.length → i = 0)
theorem beg_0 (l : List UInt8) : Beg l 0 0 := ⟨Nat.zero_le _, fun h => by unfold tokL; rw [if_neg (by omega)]; rfl, fun _ => rfl⟩

/-- a token that stands where it says -/
structure TokOk (l : List UInt8) (t : Tok) : Prop where
  fm : t.2.1 ≤ t.2.2
  ml : t.2.2 ≤ l.length
  k5 : t.1 ≤ 5
  fin : t.1 = 0 → t.2.1 = t.2.2
  tok : t.1 ≠ 0 → t.2.1 < t.2.2 ∧ tokP (l.drop t.2.1) = (t.1, t.2.2 - t.2.1, 0)

theorem tokL_long {l : List UInt8} (h : 65536 < l.length) : tokL l = ([], 3, 0) := by unfold tokL; rw [if_pos h]

theorem nx_lk {l : List UInt8} {i a : Nat} (h : Beg l i a) :
    (∃ e f, e ≠ 0 ∧ nxP l (a : Int) = ((0, f, 0), e) ∧ (tokL l).1[i]? = none ∧ (tokL l).2 = (e, f) ∧ f ≤ l.length) ∨
    (∃ t : Tok, nxP l (a : Int) = (t, 0) ∧ (tokL l).1[i]? = some t ∧ TokOk l t ∧ (t.1 ≠ 0 → Beg l (i + 1) t.2.2)) := by
  obtain ⟨ha, h1, h2⟩ := h
  rcases nx_view ha with ⟨v1, v2⟩ | ⟨v0, ⟨v1, v2, v3⟩ | ⟨e, v1, v2, v3, v4, v5⟩ | ⟨k, n, v1, v2, v3, v4, v5, v6⟩⟩
  · refine Or.inl ⟨3, 0, by omega, v2, ?_, ?_, by omega⟩
    · unfold tokL; rw [if_pos v1]; rfl
    · unfold tokL; rw [if_pos v1]
  · have h1 := h1 v0
    rw [all_end v2] at h1
    refine Or.inr ⟨(0, frP l a, frP l a), v3, ?_, ⟨Nat.le_refl _, by show frP l a ≤ _; omega, by show 0 ≤ 5; omega, fun _ => rfl, fun h => absurd rfl h⟩, fun h => absurd rfl h⟩
    have := congrArg (fun x => x.1[0]?) h1
    simp only [List.getElem?_cons_zero, List.getElem?_drop, Nat.add_zero] at this
    exact this.symm
  · have h1 := h1 v0
    rw [all_bad v4 (by omega)] at h1
    refine Or.inl ⟨e, frP l a, by omega, v5, ?_, ?_, by omega⟩
    · have := congrArg (fun x => x.1[0]?) h1
      simp only [List.getElem?_nil, List.getElem?_drop, Nat.add_zero] at this
      exact this.symm
    · exact (congrArg Prod.snd h1).symm
  · have h1 := h1 v0
    rw [all_step v1 (by omega) ha] at h1
    refine Or.inr ⟨(k, frP l a, frP l a + n), v6, ?_, ⟨by show frP l a ≤ frP l a + n; omega, v5, v3, fun h => absurd h (by show k ≠ 0; omega), fun _ => ⟨by show frP l a < frP l a + n; omega, ?_⟩⟩, fun _ => ⟨v5, fun _ => ?_, fun h => absurd h (by omega)⟩⟩
    · have := congrArg (fun x => x.1[0]?) h1
      simp only [List.getElem?_cons_zero, List.getElem?_drop, Nat.add_zero] at this
      exact this.symm
    · show tokP (l.drop (frP l a)) = (k, frP l a + n - frP l a, 0)
      rw [Nat.add_sub_cancel_left]; exact v1
    · have e1 := congrArg Prod.fst h1
      have e2 := congrArg Prod.snd h1
      simp only at e1 e2
      have e3 : (tokL l).1.drop (i + 1) = (allP l (frP l a + n)).1 := by
        rw [← List.tail_drop, ← e1]; rfl
      show allP l (frP l a + n) = _
      rw [e3, ← e2]

theorem lk_ok {l : List UInt8} {fuel : Int} {i : Nat} {t : Tok} (h : lkP l fuel i = .ok t) : (tokL l).1[i]? = some t ∧ (t.1 ≠ 0 → (i : Int) < fuel) := by
  unfold lkP at h
  cases hh : (tokL l).1[i]? with
  | none => rw [hh] at h; cases h
  | some u =>
    rw [hh] at h
    simp only at h
    split at h
    · cases h
    · rename_i hn
      cases h
      exact ⟨rfl, fun h0 => by rcases Int.lt_or_le (i : Int) fuel with h | h; exact h; exact absurd ⟨h0, h⟩ hn⟩
/-- every token stands where it says, and the next one begins behind it -/
theorem beg_all (l : List UInt8) : ∀ (i : Nat) (t : Tok), (tokL l).1[i]? = some t → (∃ a, Beg l i a ∧ nxP l (a : Int) = (t, 0)) ∧ TokOk l t ∧ (t.1 ≠ 0 → Beg l (i + 1) t.2.2)
  | 0, t, h => by
    rcases nx_lk (beg_0 l) with ⟨e, f, _, _, h2, _⟩ | ⟨u, h1, h2, h3, h4⟩
    · rw [h2] at h; cases h
    · rw [h2] at h; cases h; exact ⟨⟨0, beg_0 l, h1⟩, h3, h4⟩
  | i + 1, t, h => by
    have hi : i < (tokL l).1.length := by
      have := (List.getElem?_eq_some_iff.1 h).1
      omega
    obtain ⟨⟨a, hb, hn⟩, ho, hnx⟩ := beg_all l i _ (List.getElem?_eq_getElem hi)
    by_cases h0 : ((tokL l).1[i]).1 = 0
    · exfalso
      rcases nx_lk hb with ⟨e, f, _, h1, h2, _⟩ | ⟨u, h1, h2, h3, h4⟩
      · rw [h1] at hn; injection hn; contradiction
      · rw [h1] at hn
        injection hn with hn _
        subst hn
        have hl : l.length ≤ 65536 := by
          rcases Nat.lt_or_ge 65536 l.length with h5 | h5
          · rw [tokL_long h5] at h; cases h
          · exact h5
        have h5 := hb.2.1 hl
        rcases nx_view hb.1 with ⟨v1, v2⟩ | ⟨v0, ⟨v1, v2, v3⟩ | ⟨e, v1, v2, v3, v4, v5⟩ | ⟨k, n, v1, v2, v3, v4, v5, v6⟩⟩
        · omega
        · rw [all_end v2] at h5
          have e1 := congrArg (fun x => x.1[1]?) h5
          simp only [List.getElem?_drop] at e1
          rw [h] at e1
          simp at e1
        · rw [v5] at h1; injection h1 with _ h1; omega
        · rw [v6] at h1
          injection h1 with h1 _
          have := congrArg Prod.fst h1
          simp only at this
          omega
    · rcases nx_lk (hnx h0) with ⟨e, f, _, _, h2, _⟩ | ⟨u, h1, h2, h3, h4⟩
      · rw [h2] at h; cases h
      · rw [h2] at h; cases h; exact ⟨⟨_, hnx h0, h1⟩, h3, h4⟩
theorem lk_tok {l : List UInt8} {fuel : Int} {i : Nat} {t : Tok} (h : lkP l fuel i = .ok t) : TokOk l t ∧ (t.1 ≠ 0 → Beg l (i + 1) t.2.2) :=
  ⟨(beg_all l i t (lk_ok h).1).2.1, (beg_all l i t (lk_ok h).1).2.2⟩

end Go.Proofs.YtjjajfipfeigiabDoor

/- The parser in memory; its smallest functions. -/
namespace Go.Proofs.YtjjajfipfeigiabDoor
open Go.RowKit

/-- what must be shown where no step can panic -/
def noPanic (Q : Exit → Act → World → Prop) : Exit → Act → World → Prop := fun e a w => match e with
  | .panic _ => False
  | e => Q e a w
theorem wp_noPanic {P : Program} {c : Code} {Q : Exit → Act → World → Prop} {a : Act} {w : World} (h : c.wp P (noPanic Q) a w) : c.wp P Q a w :=
  Code.wp_mono (fun e a w h => by
    cases e
    all_goals first | exact h | exact h.elim) h
theorem step_store_row {P : Program} {ops : Array Oper} {o : Oper} {a : Act} {w : World} {K : Act → World → Prop} {Q : Exit → Act → World → Prop} {E : Prop} (hgd : o.guard = none) (ty : TypeId) (x y : Operand) (ho : o.op = .store ty x y)
    (g : Nat) (cs : List Value) (hx : a.eval x = .pointer (some ⟨g, 0, none⟩)) (hy : a.eval y = .agg cs.toArray)
    (t : TypeId) (old : Array Value) (hg : w.heap[g]? = some (.cells old t (0, 0))) (hi : (P.info? ty).map (·.size) = some cs.length) (hold : old.size = cs.length) (h1 : ∀ v ∈ cs, v.oneCell' = true)
    (h : ∀ w', RowSet w w' g cs t → K (a.put o.dst undef) w') : if Region.wanted o (yielded ops a.tmps) = true then Oper.wp P o a w K Q else E := by
  rw [if_pos (by simp [Region.wanted, hgd])]
  exact wp_store_row ty x y ho g cs.toArray hx hy t old hg (by rw [List.size_toArray]; exact hi) (by rw [List.size_toArray]; exact hold) (by simpa using h1) (h _ (rowSet w g cs t old hg))
theorem step_alloc_row {P : Program} {ops : Array Oper} {o : Oper} {a : Act} {w : World} {K : Act → World → Prop} {Q : Exit → Act → World → Prop} {E : Prop} (hgd : o.guard = none) (ty : TypeId) (ho : o.op = .alloc ty)
    (cs : Array Value) (hz : ∀ w, (zeroValue ty).run P w = .ok (.agg cs) w)
    (h : K (a.put o.dst (.pointer (some ⟨w.heap.size, 0, none⟩))) (w.alloc (.cells cs ty))) : if Region.wanted o (yielded ops a.tmps) = true then Oper.wp P o a w K Q else E := by
  rw [if_pos (by simp [Region.wanted, hgd])]
  unfold Oper.wp execOp
  simp only [ho, Instr.alloc, Sem.run_bind, hz, newVar, newRow, run_newObj_alloc, Sem.run_pure, Result.andThen_ok, Value.cells]
  exact h
theorem Tryd.zeroTok : ∀ w, (zeroValue 34).run Tryd.prog w = .ok (.agg #[.int .i64 0, .int .i64 0, .int .i64 0]) w :=
  (Go.zero_of_info (P := Tryd.prog) (t := 34) (v := .agg #[.int .i64 0, .int .i64 0, .int .i64 0]) (n := 3) (by kernel_rfl)).1
theorem gbz_below {w w' : World} {b B : Nat} (h : w.grownBy w' (some b)) (hb : B ≤ b) (hB : B ≤ w.heap.size) : Below B w w' := ⟨h.os, h.tape, h.output, h.size, fun k hk => h.block k (Nat.lt_of_lt_of_le hk hB) (by simp; omega)⟩
theorem gbz_drewN {w w' : World} {row : Option Nat} (h : w.grownBy w' row) (n : Nat) : w.grownBy (w'.drewN n) row := ⟨h.os, h.tape, h.output, h.size, h.block⟩
theorem gb_setc (w : World) (b i : Nat) (v : Value) : w.grownBy (w.setCell ⟨b, i, none⟩ v) (some b) := ⟨rfl, rfl, rfl, by simp [World.setCell], fun k hk hr => Below.heap_setCell w _ v k (by simpa using hr)⟩
theorem hp_put {w : World} {b : Nat} {cs : Array Value} {T : TypeId} {i : Nat} (hb : w.heap[b]? = some (.cells cs T (0, 0))) (u : Value) :
    (w.setCell ⟨b, i, none⟩ u).heap[b]? = some (.cells (cs.setIfInBounds i u) T (0, 0)) := blk_set hb u

/-- the parser's cells -/
def pC (l : List UInt8) (t : Tok) (fuel : Int) (u lv : Nat) : Array Value := #[.string (mk l), .int .i64 (t.1 : Int), .int .i64 (t.2.1 : Int), .int .i64 (t.2.2 : Int), .int .i64 fuel, .int .i64 (u : Int), .int .i64 (lv : Int)]
/-- the parser's block alone -/
def Pq (w : World) (b : Nat) (l : List UInt8) (t : Tok) (fuel : Int) (u lv : Nat) : Prop := w.heap[b]? = some (.cells (pC l t fuel u lv) 72 (0, 0))
/-- a parser that stands so, the tables beside it -/
structure Pz (w : World) (b : Nat) (l : List UInt8) (t : Tok) (fuel : Int) (u lv : Nat) : Prop where
  blk : Pq w b l t fuel u lv
  tab : Tabs w
  bin : w.rangeAt 0 0 (strV opT)
  low : 0 < w.heap.size

section
variable {w w' : World} {b : Nat} {l : List UInt8} {t : Tok} {fuel : Int} {u lv : Nat}
theorem Pz.lt (h : Pz w b l t fuel u lv) : b < w.heap.size := hp_lt h.blk
theorem Pq.c (h : Pq w b l t fuel u lv) (i : Nat) : w.cell? ⟨b, i, none⟩ = (pC l t fuel u lv)[i]? := by
  have h : w.heap[b]? = some (.cells (pC l t fuel u lv) 72 (0, 0)) := h
  simp [World.cell?, h]
theorem Pz.c0 (h : Pz w b l t fuel u lv) : w.cell? ⟨b, 0, none⟩ = some (.string (Go.Proofs.YtjjajfipfeigiabDoor.mk l)) := (h.blk.c 0).trans rfl
theorem Pz.c1 (h : Pz w b l t fuel u lv) : w.cell? ⟨b, 1, none⟩ = some (.int .i64 (t.1 : Int)) := (h.blk.c 1).trans rfl
theorem Pz.c2 (h : Pz w b l t fuel u lv) : w.cell? ⟨b, 2, none⟩ = some (.int .i64 (t.2.1 : Int)) := (h.blk.c 2).trans rfl
theorem Pz.c3 (h : Pz w b l t fuel u lv) : w.cell? ⟨b, 3, none⟩ = some (.int .i64 (t.2.2 : Int)) := (h.blk.c 3).trans rfl
theorem Pz.c4 (h : Pz w b l t fuel u lv) : w.cell? ⟨b, 4, none⟩ = some (.int .i64 fuel) := (h.blk.c 4).trans rfl
theorem Pz.c5 (h : Pz w b l t fuel u lv) : w.cell? ⟨b, 5, none⟩ = some (.int .i64 (u : Int)) := (h.blk.c 5).trans rfl
theorem Pz.c6 (h : Pz w b l t fuel u lv) : w.cell? ⟨b, 6, none⟩ = some (.int .i64 (lv : Int)) := (h.blk.c 6).trans rfl
theorem Pz.z (h : Pz w b l t fuel u lv) (j : Nat) : w.frozen? ⟨b, j, none⟩ = false := by
  have h : w.heap[b]? = some (.cells (pC l t fuel u lv) 72 (0, 0)) := h.blk
  simp [World.frozen?, h]
theorem Pz.below (h : Pz w b l t fuel u lv) (hb : Below w.heap.size w w') : Pz w' b l t fuel u lv :=
  ⟨(hb.block b h.lt).trans h.blk, h.tab.below hb, fun j v hv => by rw [hb.cell (p := ⟨0, 0 + j, none⟩) h.low]; exact h.bin j v hv, Nat.lt_of_lt_of_le h.low hb.size⟩
theorem Pz.drewN (h : Pz w b l t fuel u lv) (n : Nat) : Pz (w.drewN n) b l t fuel u lv := h.below ⟨rfl, rfl, rfl, Nat.le_refl _, fun _ _ => rfl⟩
theorem Pz.ne (h : Pz w b l t fuel u lv) : 1 ≠ b ∧ 2 ≠ b ∧ 0 ≠ b := by
  have c1 := h.c1
  refine ⟨fun e => ?_, fun e => ?_, fun e => ?_⟩
  · subst e
    have := h.tab.signs 1 _ rfl
    rw [show (0 + 1 : Nat) = 1 from rfl, c1] at this
    cases this
  · subst e
    have := h.tab.keys 1 _ rfl
    rw [show (0 + 1 : Nat) = 1 from rfl, c1] at this
    cases this
  · subst e
    have := h.bin 1 _ rfl
    rw [show (0 + 1 : Nat) = 1 from rfl, c1] at this
    cases this
theorem cell_gb {w w' : World} {row : Option Nat} {k j : Nat} (hg : w.grownBy w' row) (hk : k < w.heap.size) (hne : row ≠ some k) : w'.cell? ⟨k, j, none⟩ = w.cell? ⟨k, j, none⟩ :=
  World.cell?_of_block (hg.block k hk (fun e => hne e.symm))
/-- the parser's own block changes, and others come -/
theorem Pz.gb {t' : Tok} {u' lv' : Nat} (h : Pz w b l t fuel u lv) (hg : w.grownBy w' (some b)) (hk : Pq w' b l t' fuel u' lv') : Pz w' b l t' fuel u' lv' := by
  obtain ⟨n1, n2, n3⟩ := h.ne
  exact ⟨hk, ⟨fun j v hv => by rw [cell_gb hg h.tab.low.1 (fun e => n1 (Option.some.inj e).symm)]; exact h.tab.signs j v hv, fun j v hv => by rw [cell_gb hg h.tab.low.2 (fun e => n2 (Option.some.inj e).symm)]; exact h.tab.keys j v hv, ⟨Nat.lt_of_lt_of_le h.tab.low.1 hg.size, Nat.lt_of_lt_of_le h.tab.low.2 hg.size⟩⟩,
    fun j v hv => by rw [cell_gb hg h.low (fun e => n3 (Option.some.inj e).symm)]; exact h.bin j v hv, Nat.lt_of_lt_of_le h.low hg.size⟩
theorem Pz.setu (h : Pz w b l t fuel u lv) (n : Nat) : Pz (w.setCell ⟨b, 5, none⟩ (.int .i64 (n : Int))) b l t fuel n lv := h.gb (gb_setc _ _ _ _) (hp_put h.blk _)
theorem Pz.setl (h : Pz w b l t fuel u lv) (n : Nat) : Pz (w.setCell ⟨b, 6, none⟩ (.int .i64 (n : Int))) b l t fuel u n := h.gb (gb_setc _ _ _ _) (hp_put h.blk _)
end

/-- what the parser gives up with -/
def wrV (e : Int) (a : Nat) : List PanicEntry := [{ v := .iface 73 (.agg #[.int .i64 e, .int .i64 (a : Int)]), recovered := false }]

section
variable {b : Nat} {l : List UInt8} {t : Tok} {fuel : Int} {u lv : Nat}
set_option maxRecDepth 20000 in
theorem giveUp_any (e : Int) (w : World) (h : Pz w b l t fuel u lv) :
    Calls Tryd.prog 41 #[.pointer (some ⟨b, 0, none⟩), .int .i64 e] w fun r w' => r = .panicked (wrV e t.2.1) ∧ w' = w := by
  have c2 := h.c2
  clear h
  go_enter Tryd.func41, Tryd.ntmps41
  go_wp2
  exact ⟨rfl, rfl, rfl⟩

set_option maxRecDepth 20000 in
theorem refuse_any (w : World) (h : Pz w b l t fuel u lv) :
    Calls Tryd.prog 24 #[.pointer (some ⟨b, 0, none⟩)] w fun r w' => r = .panicked (wrV 140 t.2.1) ∧ w' = w := by
  have HG := hid (giveUp_any 140 w h)
  clear h
  go_enter Tryd.func24, Tryd.ntmps24
  go_wp2_with (go_at_call 41; refine HG.out.mono ?_; rintro e w' ⟨rfl, rfl⟩)
  exact ⟨rfl, rfl, rfl⟩

set_option maxRecDepth 20000 in
set_option maxHeartbeats 1000000 in
theorem ptext_any (ht : TokOk l t) (w : World) (h : Pz w b l t fuel u lv) :
    Calls Tryd.prog 43 #[.pointer (some ⟨b, 0, none⟩)] w fun r w' => r = .returned (.string (mk (ttP l t.2.1 t.2.2))) ∧ ∃ n, w' = w.drewN n := by
  obtain ⟨k, f, m⟩ := t
  have s1 := sl_mid l f m ht.fm ht.ml
  have c0 := h.c0
  have c2 := h.c2
  have c3 := h.c3
  clear h ht
  dsimp only at c2 c3 ⊢
  go_enter Tryd.func43, Tryd.ntmps43
  go_upto_region 1 with fail
  go_quiet (fail)
  go_wp2
  go_ret
  exact ⟨rfl, _, rfl⟩

set_option maxHeartbeats 1000000 in
theorem sindex_any (ts : List (List UInt8)) (s : List UInt8) (v : Value) (w : World) (hv : Strs w v ts) (hn : ts.length ≤ 1000) :
    Calls Tryd.prog 61 #[v, .string (mk s)] w fun r w' => (∃ k : Int, r = .returned (.int .i64 k) ∧ (0 ≤ k ↔ s ∈ ts)) ∧ w' = w := by
  obtain ⟨ao, c, hs⟩ := hv.shape
  subst hs
  obtain ⟨N, HL⟩ : ∃ N, Hid (ts.length = N) := ⟨_, rfl⟩
  have HV := hid hv
  rw [HL.out] at hn ⊢
  clear hv
  go_enter Tryd.func61, Tryd.ntmps61
  go_wp2
  go_loop [8] (fun i => ∃ k : Nat, i = .int .i64 k ∧ k ≤ N ∧ Nay ts s k) (fun i => N - (intOf i).toNat)
  case atStart => exact ⟨0, rfl, by omega, fun j hj => by omega⟩
  case round =>
    obtain ⟨k, rfl, hk, HN⟩ := hrel
    have HN : Hid (Nay ts s k) := HN
    by_cases hlt : k < N
    · have q1 : (k : Int) < (N : Int) := by omega
      obtain ⟨g, o, rfl, hc⟩ := HV.out.at k (by rw [HL.out]; exact hlt)
      obtain ⟨x, HX⟩ : ∃ x, Hid (ts.getD k [] = x) := ⟨_, rfl⟩
      rw [HX.out] at hc
      by_cases he : s = x
      · have e1 := eq_mk he
        have HE := hid he
        clear he
        go_wp2
        go_ret
        exact ⟨⟨_, rfl, ⟨fun _ => of_decide_eq_true (yea (by rw [HL.out]; exact hlt) HX.out HE.out), fun _ => by omega⟩⟩, rfl⟩
      · have e1 := ne_mk he
        have HE := hid he
        clear he
        go_wp2
        exact ⟨⟨k + 1, by simp, by omega, HN.out.more HX.out HE.out⟩, by simp [intOf]; omega⟩
    · have q1 : ¬ (k : Int) < (N : Int) := by omega
      go_wp2
      go_ret
      exact ⟨⟨_, rfl, ⟨fun h => by omega, fun h => absurd h (of_decide_eq_false (Nay.all HN.out (by rw [HL.out]; omega)))⟩⟩, rfl⟩

set_option maxHeartbeats 1000000 in
theorem scontains_any (ts : List (List UInt8)) (s : List UInt8) (v : Value) (w : World) (hv : Strs w v ts) (hn : ts.length ≤ 1000) :
    Calls Tryd.prog 42 #[v, .string (mk s)] w fun r w' => r = .returned (.bool (decide (s ∈ ts))) ∧ w' = w := by
  have H := hid (sindex_any ts s v w hv hn)
  clear hv
  go_enter Tryd.func42, Tryd.ntmps42
  go_wp2_with (go_at_call 61; refine H.out.mono ?_; rintro e w' ⟨⟨k, rfl, hk⟩, hw⟩; have hw := hw.symm; subst hw; have HK := hid hk; clear hk)
  go_ret
  exact ⟨congrArg (fun x => Ending.returned (.bool x)) (decide_eq_decide.2 HK.out), rfl⟩

set_option maxHeartbeats 1000000 in
theorem is_any (ts : List (List UInt8)) (v : Value) (ht : TokOk l t) (w : World) (h : Pz w b l t fuel u lv) (hv : Strs w v ts) (hn : ts.length ≤ 1000) :
    Calls Tryd.prog 25 #[.pointer (some ⟨b, 0, none⟩), v] w fun r w' => r = .returned (.bool (decide (ttP l t.2.1 t.2.2 ∈ ts))) ∧ ∃ n, w' = w.drewN n := by
  have H1 := hid (ptext_any ht w h)
  obtain ⟨s, HS⟩ : ∃ s, Hid (ttP l t.2.1 t.2.2 = s) := ⟨_, rfl⟩
  rw [HS.out] at H1 ⊢
  have H2 := hid (fun n => scontains_any ts s v (w.drewN n) (hv.below ⟨rfl, rfl, rfl, Nat.le_refl _, fun _ _ => rfl⟩) hn)
  clear h hv ht
  go_enter Tryd.func25, Tryd.ntmps25
  go_wp2_with (first
    | (go_at_call 43; refine H1.out.mono ?_; rintro e w' ⟨rfl, n, rfl⟩)
    | (go_at_call 42; refine (H2.out _).mono ?_; rintro e w' ⟨rfl, rfl⟩))
  go_ret
  exact ⟨rfl, _, rfl⟩
end

end Go.Proofs.YtjjajfipfeigiabDoor

/- The parser's next (written by zread.py). -/
namespace Go.Proofs.YtjjajfipfeigiabDoor
open Go.RowKit

theorem Pz.sets {w : World} {b : Nat} {l : List UInt8} {t : Tok} {fuel : Int} {u lv : Nat} (h : Pz w b l t fuel u lv) (k f m : Nat) : Pz (w.setCells b 1 [.int .i64 (k : Int), .int .i64 (f : Int), .int .i64 (m : Int)]) b l (k, f, m) fuel u lv :=
  h.gb (gb_trans (gb_trans (gb_setc _ _ _ _) (gb_setc _ _ _ _)) (gb_setc _ _ _ _)) (hp_put (hp_put (hp_put h.blk _) _) _)
theorem gb_sets (w : World) (b : Nat) (x y z : Value) : w.grownBy (w.setCells b 1 [x, y, z]) (some b) := gb_trans (gb_trans (gb_setc _ _ _ _) (gb_setc _ _ _ _)) (gb_setc _ _ _ _)

/-- what a call of the parser comes to: given up, or an answer, the i-th token looked at -/
def Out {α : Type} (l : List UInt8) (fuel : Int) (b lv : Nat) (T : World → Value → α → Prop) (w : World) (r : Except Ft (α × Nat)) (e : Ending) (w' : World) : Prop :=
  w.grownBy w' (some b) ∧ match r with
    | .error f => e = .panicked (wrV f.1 f.2.1) ∧ ∃ t lv', Pz w' b l t fuel f.2.2 lv'
    | .ok (a, i) => ∃ v t, e = .returned v ∧ T w' v a ∧ lkP l fuel i = .ok t ∧ Pz w' b l t fuel (usA i t) lv
/-- the token behind is looked at, too -/
def aft {α : Type} (l : List UInt8) (fuel : Int) (r : Except Ft (α × Nat)) : Except Ft (α × Nat) := match r with
  | .error f => .error f
  | .ok (a, i) => match lkP l fuel i with
    | .error f => .error f
    | .ok _ => .ok (a, i)
/-- no answer -/
def tU : World → Value → Unit → Prop := fun _ v _ => v = .tuple #[]

set_option maxRecDepth 20000 in
set_option maxHeartbeats 4000000 in
theorem next_any2 {b i lv : Nat} {l : List UInt8} {t0 : Tok} {fuel : Int} (hlen : l.length ≤ 140737488355328) (hi : i ≤ 65537) (hb : Beg l i t0.2.2) (w : World) (h : Pz w b l t0 fuel i lv) :
    Calls Tryd.prog 23 #[.pointer (some ⟨b, 0, none⟩)] w (Out l fuel b lv tU w (aft l fuel (.ok ((), i)))) := by
  obtain ⟨k, f, m, e, HNX, HWAY⟩ : ∃ (k f m : Nat) (e : Int), Hid (nxP l (t0.2.2 : Int) = ((k, f, m), e)) ∧ Hid ((e ≠ 0 ∧ aft l fuel (.ok ((), i)) = .error (e, f, i)) ∨ (e = 0 ∧ k = 0 ∧ aft l fuel (.ok ((), i)) = .ok ((), i) ∧ lkP l fuel i = .ok (k, f, m)) ∨ (e = 0 ∧ k ≠ 0 ∧ fuel ≤ (i : Int) ∧ aft l fuel (.ok ((), i)) = .error (142, f, i)) ∨ (e = 0 ∧ k ≠ 0 ∧ ¬ fuel ≤ (i : Int) ∧ aft l fuel (.ok ((), i)) = .ok ((), i) ∧ lkP l fuel i = .ok (k, f, m))) := by
    rcases nx_lk hb with ⟨e, f, h0, h1, h2, h3, _⟩ | ⟨⟨k, f, m⟩, h1, h2, h3, _⟩
    · refine ⟨0, f, 0, e, h1, Or.inl ⟨h0, ?_⟩⟩
      simp only [aft, lkP, h2, h3]
    · by_cases hk : k = 0
      · subst hk
        have : lkP l fuel i = .ok (0, f, m) := by simp only [lkP, h2]; rfl
        exact ⟨0, f, m, 0, h1, Or.inr (Or.inl ⟨rfl, rfl, by simp only [aft, this], this⟩)⟩
      · by_cases hf : fuel ≤ (i : Int)
        · have : lkP l fuel i = .error (142, f, i) := by simp only [lkP, h2]; rw [if_pos ⟨hk, hf⟩]
          exact ⟨k, f, m, 0, h1, Or.inr (Or.inr (Or.inl ⟨rfl, hk, hf, by simp only [aft, this]⟩))⟩
        · have : lkP l fuel i = .ok (k, f, m) := by simp only [lkP, h2]; rw [if_neg (fun hh => hf hh.2)]
          exact ⟨k, f, m, 0, h1, Or.inr (Or.inr (Or.inr ⟨rfl, hk, hf, by simp only [aft, this], this⟩))⟩
  have HN : Hid (∀ W, Tabs W → Calls Tryd.prog 40 #[.string (mk l), .int .i64 (t0.2.2 : Int)] W fun r w' => r = .returned (.tuple #[.agg #[.int .i64 (k : Int), .int .i64 (f : Int), .int .i64 (m : Int)], .int .i64 e]) ∧ Below W.heap.size W w') := fun W hW => by
    have := next_any l hlen (t0.2.2 : Int) W hW
    rw [HNX.out] at this
    exact this
  have HR := hid h
  have HLT := hid h.lt
  obtain ⟨z, s⟩ := zero_of_info (P := Tryd.prog) (t := 34) (v := .agg #[.int .i64 0, .int .i64 0, .int .i64 0]) (n := 3) (by kernel_rfl)
  have HS := hid s
  clear h hb HNX z s
  go_enter Tryd.func23, Tryd.ntmps23
  go_upto_region 0 with fail
  refine wp_noPanic (wp_region_held_drew (S := fun W => Pz W b l t0 fuel i lv) (by kernel_rfl) (HR.out.below (Below.refl _ _).drew) ?_)
  intro hHeld
  refine wpAnyH_take (i := 0) (v := .pointer (some ⟨b, 0, none⟩)) rfl (by kernel_rfl) (by kernel_rfl) (by kernel_rfl) (fun _ _ _ h => h) (Or.inl ⟨by rfl, fun W _ => by go_simp⟩) hHeld ?_
  simp only [Act.put, List.getElem_toArray, List.getElem_cons_zero, List.setIfInBounds_toArray, List.set_cons_succ, List.set_cons_zero]
  refine wpAnyH_take (i := 1) (v := .pointer (some ⟨b, 0, none⟩)) rfl (by kernel_rfl) (by kernel_rfl) (by kernel_rfl) (fun _ _ _ h => h) (Or.inl ⟨by rfl, fun W _ => by go_simp⟩) hHeld ?_
  simp only [Act.put, List.getElem_toArray, List.getElem_cons_zero, List.getElem_cons_succ, List.setIfInBounds_toArray, List.set_cons_succ, List.set_cons_zero]
  refine wpAnyH_take (i := 2) (v := .pointer (some ⟨b, 0, none⟩)) rfl (by kernel_rfl) (by kernel_rfl) (by kernel_rfl) (fun _ _ _ h => h) (Or.inl ⟨by rfl, fun W _ => by go_simp⟩) hHeld ?_
  simp only [Act.put, List.getElem_toArray, List.getElem_cons_zero, List.getElem_cons_succ, List.setIfInBounds_toArray, List.set_cons_succ, List.set_cons_zero]
  refine wpAnyH_take (i := 3) (v := .string (mk l)) rfl (by kernel_rfl) (by kernel_rfl) (by kernel_rfl) (fun _ _ _ h => h) (Or.inl ⟨by rfl, fun W hW => by have hcell := Pz.c0 hW; clear hW; go_simp⟩) hHeld ?_
  simp only [Act.put, List.getElem_toArray, List.getElem_cons_zero, List.getElem_cons_succ, List.setIfInBounds_toArray, List.set_cons_succ, List.set_cons_zero]
  refine wpAnyH_take (i := 4) (v := .pointer (some ⟨b, 0, none⟩)) rfl (by kernel_rfl) (by kernel_rfl) (by kernel_rfl) (fun _ _ _ h => h) (Or.inl ⟨by rfl, fun W _ => by go_simp⟩) hHeld ?_
  simp only [Act.put, List.getElem_toArray, List.getElem_cons_zero, List.getElem_cons_succ, List.setIfInBounds_toArray, List.set_cons_succ, List.set_cons_zero]
  refine wpAnyH_take (i := 5) (v := .pointer (some ⟨b, 0, none⟩)) rfl (by kernel_rfl) (by kernel_rfl) (by kernel_rfl) (fun _ _ _ h => h) (Or.inl ⟨by rfl, fun W _ => by go_simp⟩) hHeld ?_
  simp only [Act.put, List.getElem_toArray, List.getElem_cons_zero, List.getElem_cons_succ, List.setIfInBounds_toArray, List.set_cons_succ, List.set_cons_zero]
  refine wpAnyH_take (i := 6) (v := .pointer (some ⟨b, 1, none⟩)) rfl (by kernel_rfl) (by kernel_rfl) (by kernel_rfl) (fun _ _ _ h => h) (Or.inl ⟨by rfl, fun W _ => by go_simp⟩) hHeld ?_
  simp only [Act.put, List.getElem_toArray, List.getElem_cons_zero, List.getElem_cons_succ, List.setIfInBounds_toArray, List.set_cons_succ, List.set_cons_zero]
  refine wpAnyH_take (i := 7) (v := .pointer (some ⟨b, 3, none⟩)) rfl (by kernel_rfl) (by kernel_rfl) (by kernel_rfl) (fun _ _ _ h => h) (Or.inl ⟨by rfl, fun W _ => by go_simp⟩) hHeld ?_
  simp only [Act.put, List.getElem_toArray, List.getElem_cons_zero, List.getElem_cons_succ, List.setIfInBounds_toArray, List.set_cons_succ, List.set_cons_zero]
  refine wpAnyH_take (i := 8) (v := .int .i64 (t0.2.2 : Int)) rfl (by kernel_rfl) (by kernel_rfl) (by kernel_rfl) (fun _ _ _ h => h) (Or.inl ⟨by rfl, fun W hW => by have hcell := Pz.c3 hW; clear hW; go_simp⟩) hHeld ?_
  simp only [Act.put, List.getElem_toArray, List.getElem_cons_zero, List.getElem_cons_succ, List.setIfInBounds_toArray, List.set_cons_succ, List.set_cons_zero]
  refine wpAnyH_ready (rs := [9, 13]) (by kernel_rfl) (by simp) ?_
  refine AllReadyH.cons rfl (fun K hK => ?_) (AllReadyH.cons rfl (fun K hK => ?_) AllReadyH.nil)
  · skip
    have HTC := hid (HR.out.tab.below (Below.refl w.heap.size w).drew)
    go_simp
    refine (HN.out _ HTC.out).mono ?_
    rintro r w2 ⟨rfl, hb2⟩
    have HC2 := hid hb2
    clear hb2 HTC
    go_wp2_with fail
    have HB2 : Hid (Below w.heap.size w w2) := ((Below.refl w.heap.size w).drew.trans HC2.out)
    have HR2 := hid (HR.out.below HB2.out)
    refine hK.out _ _ HR2.out (fun hHeld => ?_)
    clear hK K
    try simp only [Act.put, List.getElem_toArray, List.getElem_cons_zero, List.getElem_cons_succ, List.setIfInBounds_toArray, List.set_cons_succ, List.set_cons_zero]
    refine wpAnyH_take (i := 10) (v := .tuple #[.agg #[.int .i64 (k : Int), .int .i64 (f : Int), .int .i64 (m : Int)], .int .i64 e]) rfl (by kernel_rfl) (by kernel_rfl) (by kernel_rfl) (fun _ _ _ h => h) (Or.inl ⟨by rfl, fun W _ => by go_simp⟩) hHeld ?_
    simp only [Act.put, List.getElem_toArray, List.getElem_cons_zero, List.getElem_cons_succ, List.setIfInBounds_toArray, List.set_cons_succ, List.set_cons_zero]
    refine wpAnyH_take (i := 11) (v := .agg #[.int .i64 (k : Int), .int .i64 (f : Int), .int .i64 (m : Int)]) rfl (by kernel_rfl) (by kernel_rfl) (by kernel_rfl) (fun _ _ _ h => h) (Or.inl ⟨by rfl, fun W _ => by go_simp⟩) hHeld ?_
    simp only [Act.put, List.getElem_toArray, List.getElem_cons_zero, List.getElem_cons_succ, List.setIfInBounds_toArray, List.set_cons_succ, List.set_cons_zero]
    refine wpAnyH_take (i := 12) (v := .int .i64 e) rfl (by kernel_rfl) (by kernel_rfl) (by kernel_rfl) (fun _ _ _ h => h) (Or.inl ⟨by rfl, fun W _ => by go_simp⟩) hHeld ?_
    simp only [Act.put, List.getElem_toArray, List.getElem_cons_zero, List.getElem_cons_succ, List.setIfInBounds_toArray, List.set_cons_succ, List.set_cons_zero]
    refine wpAnyH_ready (rs := [13]) (by kernel_rfl) (by simp) ?_
    refine AllReadyH.cons rfl (fun K hK => ?_) AllReadyH.nil
    refine step_alloc_row (by rfl) 34 (by rfl) _ Tryd.zeroTok ?_
    have HR3 := hid (HR2.out.below (below_walk w2 (.cells #[.int .i64 0, .int .i64 0, .int .i64 0] 34)))
    have HNW := hid (hp_new w2 (.cells #[.int .i64 0, .int .i64 0, .int .i64 0] 34))
    have HB3 := hid (HB2.out.trans ((below_walk w2 (.cells #[.int .i64 0, .int .i64 0, .int .i64 0] 34)).mono HB2.out.size))
    have hgl : w.heap.size ≤ w2.heap.size := HB2.out.size
    refine hK.out _ _ HR3.out (fun hHeld => ?_)
    clear hK K
    try simp only [Act.put, List.getElem_toArray, List.getElem_cons_zero, List.getElem_cons_succ, List.setIfInBounds_toArray, List.set_cons_succ, List.set_cons_zero]
    obtain ⟨g, HGE⟩ : ∃ g, Hid (w2.heap.size = g) := ⟨_, rfl⟩
    rw [HGE.out] at HNW hgl
    rw [HGE.out]
    generalize w2.alloc (.cells #[.int .i64 0, .int .i64 0, .int .i64 0] 34) = w4 at *
    clear HGE
    refine wpAnyH_ready (rs := [14]) (by kernel_rfl) (by simp) ?_
    refine AllReadyH.cons rfl (fun K hK => ?_) AllReadyH.nil
    refine step_store_row (by rfl) 34 (.tmp 2) (.tmp 15) (by rfl) g [.int .i64 (k : Int), .int .i64 (f : Int), .int .i64 (m : Int)] (by rfl) (by rfl) 34 _ HNW.out (by exact Tryd.infoTok) (by rfl) (tkC_one (k, f, m)) ?_
    intro w3 hs3
    have HTK : Hid (Tk w3 g (k, f, m)) := hs3.blk
    have hgb : b ≠ g := fun e => by have := HR.out.lt; omega
    have HB5 := hid (HB3.out.grown hs3.grown HB3.out.size (fun q hq => by injection hq with hq; omega))
    have HR5 : Hid (Pz w3 b l t0 fuel i lv) := hid (HR.out.below HB5.out)
    refine hK.out _ _ HR5.out (fun hHeld => ?_)
    clear hK K hs3
    try simp only [Act.put]
    refine wpAnyH_take (i := 15) (v := .int .i64 e) rfl (by kernel_rfl) (by kernel_rfl) (by kernel_rfl) (fun _ _ _ h => h) (Or.inl ⟨by rfl, fun W _ => by go_simp⟩) hHeld ?_
    simp only [Act.put, List.getElem_toArray, List.getElem_cons_zero, List.getElem_cons_succ, List.setIfInBounds_toArray, List.set_cons_succ, List.set_cons_zero]
    refine wpAnyH_done (by kernel_rfl) ?_ _
    simp only [noPanic]
    clear hHeld
    have HC : Hid (Pz (((w3.setCell ⟨b, 1, none⟩ (.int .i64 (k : Int))).setCell ⟨b, 2, none⟩ (.int .i64 (f : Int))).setCell ⟨b, 3, none⟩ (.int .i64 (m : Int))) b l (k, f, m) fuel i lv) := hid (HR5.out.sets k f m)
    have HG6 : Hid (w.grownBy (((w3.setCell ⟨b, 1, none⟩ (.int .i64 (k : Int))).setCell ⟨b, 2, none⟩ (.int .i64 (f : Int))).setCell ⟨b, 3, none⟩ (.int .i64 (m : Int))) (some b)) := hid (gb_trans (below_gb HB5.out _) (gb_sets w3 b _ _ _))
    have HTK6 : Hid (Tk (((w3.setCell ⟨b, 1, none⟩ (.int .i64 (k : Int))).setCell ⟨b, 2, none⟩ (.int .i64 (f : Int))).setCell ⟨b, 3, none⟩ (.int .i64 (m : Int))) g (k, f, m)) := hid (((gb_sets w3 b (.int .i64 (k : Int)) (.int .i64 (f : Int)) (.int .i64 (m : Int))).block g (hp_lt HTK.out) (by simpa using fun e => hgb e.symm)).trans HTK.out)
    have z1 := HR5.out.z 1
    have z2 := HR5.out.z 2
    have z3 := HR5.out.z 3
    have c1 := HR5.out.c1
    have c2 := HR5.out.c2
    have c3 := HR5.out.c3
    go_upto_region 2 with (refine ld_row rfl 34 (.tmp 2) rfl g rfl [.int .i64 (k : Int), .int .i64 (f : Int), .int .i64 (m : Int)] 34 HTK.out _ Tryd.underlying34 rfl HS.out ?_)
    generalize (((w3.setCell ⟨b, 1, none⟩ (.int .i64 (k : Int))).setCell ⟨b, 2, none⟩ (.int .i64 (f : Int))).setCell ⟨b, 3, none⟩ (.int .i64 (m : Int))) = w6 at *
    clear z1 z2 z3 c1 c2 c3 HR5 HB5 HTK
    rcases HWAY.out with ⟨he, ha⟩ | ⟨he, hk, ha, hx⟩ | ⟨he, hk, hf, ha⟩ | ⟨he, hk, hf, ha, hx⟩
    · have HA := hid ha
      have HGU := hid (giveUp_any e w6 HC.out)
      clear ha
      go_wp2_with (go_at_call 41; refine HGU.out.mono ?_; rintro r w7 ⟨rfl, h7⟩; have h7 := h7.symm; subst h7)
      refine ⟨rfl, ?_⟩
      rw [HA.out]
      exact ⟨HG6.out, rfl, _, _, HC.out⟩
    · subst he hk
      have HA := hid ha
      have HX := hid hx
      have t1 := HTK6.out.c0
      clear ha hx
      go_wp2
      first
        | go_end0
        | (refine bodyPost_ret (results_none rfl _ _ _) rfl ?_)
      rw [HA.out]
      exact ⟨HG6.out, _, _, rfl, rfl, HX.out, HC.out⟩
    · subst he
      have HA := hid ha
      have HGU := hid (giveUp_any 142 w6 HC.out)
      have t1 := HTK6.out.c0
      have c4 := HC.out.c4
      have c5 := HC.out.c5
      have hk2 : ¬ (k : Int) = 0 := by omega
      clear ha
      go_upto_region 5 with fail
      go_quiet (fail)
      have HGU := hid (giveUp_any 142 (w6.drewN nq) (HC.out.drewN nq))
      have HC := hid (HC.out.drewN nq)
      have HG6 := hid (gbz_drewN HG6.out nq)
      clear c4 c5 t1
      go_wp2_with (go_at_call 41; refine HGU.out.mono ?_; rintro r w7 ⟨rfl, h7⟩; have h7 := h7.symm; subst h7)
      refine ⟨rfl, ?_⟩
      rw [HA.out]
      exact ⟨HG6.out, rfl, _, _, HC.out⟩
    · subst he
      have HA := hid ha
      have HX := hid hx
      have t1 := HTK6.out.c0
      have c4 := HC.out.c4
      have c5 := HC.out.c5
      have hk2 : ¬ (k : Int) = 0 := by omega
      clear ha hx
      go_upto_region 5 with fail
      go_quiet (fail)
      have HC := hid (HC.out.drewN nq)
      have HG6 := hid (gbz_drewN HG6.out nq)
      clear c4 c5 t1
      generalize w6.drewN nq = w8 at HC HG6 ⊢
      have c5 := HC.out.c5
      have z5 := HC.out.z 5
      have hwr : wrap64 ((i : Int) + 1) = ((i + 1 : Nat) : Int) := by unfold wrap64; omega
      have HC9 := hid (HC.out.setu (i + 1))
      have HG9 := hid (gb_trans HG6.out (gb_setc w8 b 5 (.int .i64 ((i + 1 : Nat) : Int))))
      go_wp2
      first
        | go_end0
        | (refine bodyPost_ret (results_none rfl _ _ _) rfl ?_)
      rw [HA.out]
      exact ⟨HG9.out, _, _, rfl, rfl, HX.out, by unfold usA; rw [if_neg hk]; exact HC9.out⟩
  · skip
    refine step_alloc_row (by rfl) 34 (by rfl) _ Tryd.zeroTok ?_
    have HNW0 := hid (hp_new w.drew (.cells #[.int .i64 0, .int .i64 0, .int .i64 0] 34))
    have HB0 := hid (((Below.refl w.heap.size w).drew).alloc (Nat.le_refl _) (.cells #[.int .i64 0, .int .i64 0, .int .i64 0] 34))
    have hgl : w.heap.size ≤ w.drew.heap.size := Nat.le_refl _
    have hgu : w.drew.heap.size < (w.drew.alloc (.cells #[.int .i64 0, .int .i64 0, .int .i64 0] 34)).heap.size := by rw [hp_size]; omega
    have HR2 := hid (HR.out.below HB0.out)
    refine hK.out _ _ HR2.out (fun hHeld => ?_)
    clear hK K
    try simp only [Act.put, List.getElem_toArray, List.getElem_cons_zero, List.getElem_cons_succ, List.setIfInBounds_toArray, List.set_cons_succ, List.set_cons_zero]
    obtain ⟨g, HGE⟩ : ∃ g, Hid (w.drew.heap.size = g) := ⟨_, rfl⟩
    rw [HGE.out] at HNW0 hgl hgu
    rw [HGE.out]
    generalize w.drew.alloc (.cells #[.int .i64 0, .int .i64 0, .int .i64 0] 34) = w2 at *
    clear HGE
    refine wpAnyH_ready (rs := [9]) (by kernel_rfl) (by simp) ?_
    refine AllReadyH.cons rfl (fun K hK => ?_) AllReadyH.nil
    have HTC := hid (HR.out.tab.below HB0.out)
    go_simp
    refine (HN.out _ HTC.out).mono ?_
    rintro r w4 ⟨rfl, hb2⟩
    have HC2 := hid hb2
    clear hb2 HTC
    go_wp2_with fail
    have HB3 := hid (HB0.out.trans (HC2.out.mono HB0.out.size))
    have HR3 := hid (HR2.out.below HC2.out)
    have HNW := hid ((HC2.out.block g hgu).trans HNW0.out)
    refine hK.out _ _ HR3.out (fun hHeld => ?_)
    clear hK K
    try simp only [Act.put, List.getElem_toArray, List.getElem_cons_zero, List.getElem_cons_succ, List.setIfInBounds_toArray, List.set_cons_succ, List.set_cons_zero]
    refine wpAnyH_take (i := 10) (v := .tuple #[.agg #[.int .i64 (k : Int), .int .i64 (f : Int), .int .i64 (m : Int)], .int .i64 e]) rfl (by kernel_rfl) (by kernel_rfl) (by kernel_rfl) (fun _ _ _ h => h) (Or.inl ⟨by rfl, fun W _ => by go_simp⟩) hHeld ?_
    simp only [Act.put, List.getElem_toArray, List.getElem_cons_zero, List.getElem_cons_succ, List.setIfInBounds_toArray, List.set_cons_succ, List.set_cons_zero]
    refine wpAnyH_take (i := 11) (v := .agg #[.int .i64 (k : Int), .int .i64 (f : Int), .int .i64 (m : Int)]) rfl (by kernel_rfl) (by kernel_rfl) (by kernel_rfl) (fun _ _ _ h => h) (Or.inl ⟨by rfl, fun W _ => by go_simp⟩) hHeld ?_
    simp only [Act.put, List.getElem_toArray, List.getElem_cons_zero, List.getElem_cons_succ, List.setIfInBounds_toArray, List.set_cons_succ, List.set_cons_zero]
    refine wpAnyH_take (i := 12) (v := .int .i64 e) rfl (by kernel_rfl) (by kernel_rfl) (by kernel_rfl) (fun _ _ _ h => h) (Or.inl ⟨by rfl, fun W _ => by go_simp⟩) hHeld ?_
    simp only [Act.put, List.getElem_toArray, List.getElem_cons_zero, List.getElem_cons_succ, List.setIfInBounds_toArray, List.set_cons_succ, List.set_cons_zero]
    refine wpAnyH_ready (rs := [14]) (by kernel_rfl) (by simp) ?_
    refine AllReadyH.cons rfl (fun K hK => ?_) AllReadyH.nil
    refine step_store_row (by rfl) 34 (.tmp 2) (.tmp 15) (by rfl) g [.int .i64 (k : Int), .int .i64 (f : Int), .int .i64 (m : Int)] (by rfl) (by rfl) 34 _ HNW.out (by exact Tryd.infoTok) (by rfl) (tkC_one (k, f, m)) ?_
    intro w3 hs3
    have HTK : Hid (Tk w3 g (k, f, m)) := hs3.blk
    have hgb : b ≠ g := fun e => by have := HR.out.lt; omega
    have HB5 := hid (HB3.out.grown hs3.grown HB3.out.size (fun q hq => by injection hq with hq; omega))
    have HR5 : Hid (Pz w3 b l t0 fuel i lv) := hid (HR.out.below HB5.out)
    refine hK.out _ _ HR5.out (fun hHeld => ?_)
    clear hK K hs3
    try simp only [Act.put]
    refine wpAnyH_take (i := 15) (v := .int .i64 e) rfl (by kernel_rfl) (by kernel_rfl) (by kernel_rfl) (fun _ _ _ h => h) (Or.inl ⟨by rfl, fun W _ => by go_simp⟩) hHeld ?_
    simp only [Act.put, List.getElem_toArray, List.getElem_cons_zero, List.getElem_cons_succ, List.setIfInBounds_toArray, List.set_cons_succ, List.set_cons_zero]
    refine wpAnyH_done (by kernel_rfl) ?_ _
    simp only [noPanic]
    clear hHeld
    have HC : Hid (Pz (((w3.setCell ⟨b, 1, none⟩ (.int .i64 (k : Int))).setCell ⟨b, 2, none⟩ (.int .i64 (f : Int))).setCell ⟨b, 3, none⟩ (.int .i64 (m : Int))) b l (k, f, m) fuel i lv) := hid (HR5.out.sets k f m)
    have HG6 : Hid (w.grownBy (((w3.setCell ⟨b, 1, none⟩ (.int .i64 (k : Int))).setCell ⟨b, 2, none⟩ (.int .i64 (f : Int))).setCell ⟨b, 3, none⟩ (.int .i64 (m : Int))) (some b)) := hid (gb_trans (below_gb HB5.out _) (gb_sets w3 b _ _ _))
    have HTK6 : Hid (Tk (((w3.setCell ⟨b, 1, none⟩ (.int .i64 (k : Int))).setCell ⟨b, 2, none⟩ (.int .i64 (f : Int))).setCell ⟨b, 3, none⟩ (.int .i64 (m : Int))) g (k, f, m)) := hid (((gb_sets w3 b (.int .i64 (k : Int)) (.int .i64 (f : Int)) (.int .i64 (m : Int))).block g (hp_lt HTK.out) (by simpa using fun e => hgb e.symm)).trans HTK.out)
    have z1 := HR5.out.z 1
    have z2 := HR5.out.z 2
    have z3 := HR5.out.z 3
    have c1 := HR5.out.c1
    have c2 := HR5.out.c2
    have c3 := HR5.out.c3
    go_upto_region 2 with (refine ld_row rfl 34 (.tmp 2) rfl g rfl [.int .i64 (k : Int), .int .i64 (f : Int), .int .i64 (m : Int)] 34 HTK.out _ Tryd.underlying34 rfl HS.out ?_)
    generalize (((w3.setCell ⟨b, 1, none⟩ (.int .i64 (k : Int))).setCell ⟨b, 2, none⟩ (.int .i64 (f : Int))).setCell ⟨b, 3, none⟩ (.int .i64 (m : Int))) = w6 at *
    clear z1 z2 z3 c1 c2 c3 HR5 HB5 HTK
    rcases HWAY.out with ⟨he, ha⟩ | ⟨he, hk, ha, hx⟩ | ⟨he, hk, hf, ha⟩ | ⟨he, hk, hf, ha, hx⟩
    · have HA := hid ha
      have HGU := hid (giveUp_any e w6 HC.out)
      clear ha
      go_wp2_with (go_at_call 41; refine HGU.out.mono ?_; rintro r w7 ⟨rfl, h7⟩; have h7 := h7.symm; subst h7)
      refine ⟨rfl, ?_⟩
      rw [HA.out]
      exact ⟨HG6.out, rfl, _, _, HC.out⟩
    · subst he hk
      have HA := hid ha
      have HX := hid hx
      have t1 := HTK6.out.c0
      clear ha hx
      go_wp2
      first
        | go_end0
        | (refine bodyPost_ret (results_none rfl _ _ _) rfl ?_)
      rw [HA.out]
      exact ⟨HG6.out, _, _, rfl, rfl, HX.out, HC.out⟩
    · subst he
      have HA := hid ha
      have HGU := hid (giveUp_any 142 w6 HC.out)
      have t1 := HTK6.out.c0
      have c4 := HC.out.c4
      have c5 := HC.out.c5
      have hk2 : ¬ (k : Int) = 0 := by omega
      clear ha
      go_upto_region 5 with fail
      go_quiet (fail)
      have HGU := hid (giveUp_any 142 (w6.drewN nq) (HC.out.drewN nq))
      have HC := hid (HC.out.drewN nq)
      have HG6 := hid (gbz_drewN HG6.out nq)
      clear c4 c5 t1
      go_wp2_with (go_at_call 41; refine HGU.out.mono ?_; rintro r w7 ⟨rfl, h7⟩; have h7 := h7.symm; subst h7)
      refine ⟨rfl, ?_⟩
      rw [HA.out]
      exact ⟨HG6.out, rfl, _, _, HC.out⟩
    · subst he
      have HA := hid ha
      have HX := hid hx
      have t1 := HTK6.out.c0
      have c4 := HC.out.c4
      have c5 := HC.out.c5
      have hk2 : ¬ (k : Int) = 0 := by omega
      clear ha hx
      go_upto_region 5 with fail
      go_quiet (fail)
      have HC := hid (HC.out.drewN nq)
      have HG6 := hid (gbz_drewN HG6.out nq)
      clear c4 c5 t1
      generalize w6.drewN nq = w8 at HC HG6 ⊢
      have c5 := HC.out.c5
      have z5 := HC.out.z 5
      have hwr : wrap64 ((i : Int) + 1) = ((i + 1 : Nat) : Int) := by unfold wrap64; omega
      have HC9 := hid (HC.out.setu (i + 1))
      have HG9 := hid (gb_trans HG6.out (gb_setc w8 b 5 (.int .i64 ((i + 1 : Nat) : Int))))
      go_wp2
      first
        | go_end0
        | (refine bodyPost_ret (results_none rfl _ _ _) rfl ?_)
      rw [HA.out]
      exact ⟨HG9.out, _, _, rfl, rfl, HX.out, by unfold usA; rw [if_neg hk]; exact HC9.out⟩

end Go.Proofs.YtjjajfipfeigiabDoor

/- Keys, signs and words, taken or refused. -/
namespace Go.Proofs.YtjjajfipfeigiabDoor
open Go.RowKit

theorem tok_from (l : List UInt8) : ∀ (i : Nat) (t : Tok), (tokL l).1[i]? = some t → i ≤ t.2.1 ∧ l.length ≤ 65536
  | 0, t, h => by
    refine ⟨Nat.zero_le _, ?_⟩
    rcases Nat.lt_or_ge 65536 l.length with h5 | h5
    · rw [tokL_long h5] at h; cases h
    · exact h5
  | i + 1, t, h => by
    have hi : i < (tokL l).1.length := by
      have := (List.getElem?_eq_some_iff.1 h).1
      omega
    obtain ⟨h1, h2⟩ := tok_from l i _ (List.getElem?_eq_getElem hi)
    obtain ⟨⟨a, hb, hn⟩, _, _⟩ := beg_all l (i + 1) t h
    obtain ⟨⟨a0, hb0, hn0⟩, ho, hnx⟩ := beg_all l i _ (List.getElem?_eq_getElem hi)
    refine ⟨?_, h2⟩
    by_cases h0 : ((tokL l).1[i]).1 = 0
    · exfalso
      rcases nx_view hb0.1 with ⟨v1, v2⟩ | ⟨v0, ⟨v1, v2, v3⟩ | ⟨e, v1, v2, v3, v4, v5⟩ | ⟨k, n, v1, v2, v3, v4, v5, v6⟩⟩
      · omega
      · have h5 := hb0.2.1 v0
        rw [all_end v2] at h5
        have e1 := congrArg (fun x => x.1[1]?) h5
        simp only [List.getElem?_drop] at e1
        rw [h] at e1
        simp at e1
      · rw [v5] at hn0; injection hn0 with _ hn0; omega
      · rw [v6] at hn0
        injection hn0 with hn0 _
        rw [← hn0] at h0
        simp only at h0
        omega
    · have hb2 := hnx h0
      rcases nx_lk hb2 with ⟨e, f, _, _, h6, _⟩ | ⟨u, h5, h6, _, _⟩
      · rw [h6] at h; cases h
      · rw [h6] at h
        cases h
        have h7 := (ho.tok h0).1
        have h8 : (tokL l).1[i].2.2 ≤ t.2.1 := by
          rcases nx_view hb2.1 with ⟨v1, v2⟩ | ⟨v0, ⟨v1, v2, v3⟩ | ⟨e, v1, v2, v3, v4, v5⟩ | ⟨k, n, v1, v2, v3, v4, v5, v6⟩⟩
          · omega
          · rw [v3] at h5; injection h5 with h5 _; rw [← h5]; exact (frP_le hb2.1).1
          · rw [v5] at h5; injection h5 with _ h5; omega
          · rw [v6] at h5; injection h5 with h5 _; rw [← h5]; exact (frP_le hb2.1).1
        omega
theorem lk_lt {l : List UInt8} {fuel : Int} {i : Nat} {t : Tok} (h : lkP l fuel i = .ok t) : i ≤ 65536 ∧ l.length ≤ 65536 := by
  have h1 := (lk_ok h).1
  obtain ⟨h2, h3⟩ := tok_from l i t h1
  have h4 := (beg_all l i t h1).2.1
  have := h4.fm
  have := h4.ml
  omega

/-- the parser looks at the i-th token, t -/
structure Sz (w : World) (b : Nat) (l : List UInt8) (fuel : Int) (i lv : Nat) (t : Tok) : Prop where
  lk : lkP l fuel i = .ok t
  pz : Pz w b l t fuel (usA i t) lv
section
variable {w w' : World} {b : Nat} {l : List UInt8} {fuel : Int} {i lv : Nat} {t : Tok}
theorem Sz.ok (h : Sz w b l fuel i lv t) : TokOk l t := (lk_tok h.lk).1
theorem Sz.below (h : Sz w b l fuel i lv t) (hb : Below w.heap.size w w') : Sz w' b l fuel i lv t := ⟨h.lk, h.pz.below hb⟩
theorem Sz.drewN (h : Sz w b l fuel i lv t) (n : Nat) : Sz (w.drewN n) b l fuel i lv t := ⟨h.lk, h.pz.drewN n⟩
end

/-- a key's or sign's token is no end -/
theorem tx_some {l : List UInt8} {t : Tok} (h : TokOk l t) {s : List UInt8} (hs : s ≠ []) (e : txA l t = s) : t.1 ≠ 0 := fun h0 => by
  have := h.fin h0
  rw [← e] at hs
  unfold txA ttP at hs
  rw [this] at hs
  simp at hs
theorem strs_1 (w : World) (s : List UInt8) : Strs (w.alloc (.cells #[.string (mk s)] 9)) (.slice (some ⟨w.heap.size, 0, none⟩) 1 1) [s] :=
  Or.inr ⟨w.heap.size, 0, 1, rfl, by rw [hp_size]; omega, by simp, fun j hj => by
    obtain rfl : j = 0 := by simp at hj; omega
    rw [cell_of_row _ _ _ _ _ _ (hp_new w (.cells #[.string (mk s)] 9))]; rfl⟩

section
variable {w w' : World} {b : Nat} {l : List UInt8} {fuel : Int} {i lv : Nat} {t : Tok}
theorem next_sz (w : World) (h : Sz w b l fuel i lv t) (h0 : t.1 ≠ 0) :
    Calls Tryd.prog 23 #[.pointer (some ⟨b, 0, none⟩)] w (Out l fuel b lv tU w (aft l fuel (.ok ((), i + 1)))) := by
  have hi := lk_lt h.lk
  have hp := h.pz
  have : usA i t = i + 1 := by unfold usA; rw [if_neg h0]
  rw [this] at hp
  exact next_any2 (by omega) (by omega) ((lk_tok h.lk).2 h0) w hp

/-- a Boolean, a number, a text -/
def tB : World → Value → Bool → Prop := fun _ v a => v = .bool a
def tN : World → Value → Nat → Prop := fun _ v a => v = .int .i64 (a : Int)
def tS : World → Value → List UInt8 → Prop := fun _ v a => v = .string (mk a)

/-- what skip answers -/
def skpP (l : List UInt8) (s : List UInt8) (i : Nat) (t : Tok) : Except Ft (Bool × Nat) := if txA l t = s then .ok (true, i + 1) else .ok (false, i)
def takP (l : List UInt8) (s : List UInt8) (i : Nat) (t : Tok) : Except Ft (Nat × Nat) := if txA l t = s then .ok (t.2.1, i + 1) else .error (badF 140 i t)
def opeP (l : List UInt8) (s : List UInt8) (lv i : Nat) (t : Tok) : Except Ft (Nat × Nat) := if txA l t = s then (if lv = 64 then .error (badF 141 i t) else .ok (t.2.1, i + 1)) else .error (badF 140 i t)
def worP (l : List UInt8) (i : Nat) (t : Tok) : Except Ft (List UInt8 × Nat) := if t.1 = 1 then .ok (txA l t, i + 1) else .error (badF 140 i t)

theorem out_mono {α β : Type} {lv lv' : Nat} {T : World → Value → α → Prop} {T' : World → Value → β → Prop} {w1 w2 : World} {r : Except Ft (α × Nat)} {r' : Except Ft (β × Nat)} {e : Ending} (hg : w.grownBy w1 (some b)) (h : Out l fuel b lv T w1 r e w2)
    (he : ∀ f, r = .error f → r' = .error f) : w.grownBy w2 (some b) ∧ ((∃ f, r = .error f ∧ r' = .error f ∧ e = .panicked (wrV f.1 f.2.1) ∧ Out l fuel b lv' T' w r' e w2) ∨ ∃ a j v u, r = .ok (a, j) ∧ e = .returned v ∧ T w2 v a ∧ Sz w2 b l fuel j lv u) := by
  have hg2 := gb_trans hg h.1
  refine ⟨hg2, ?_⟩
  obtain ⟨h1, h2⟩ := h
  cases r with
  | error f =>
    have := he f rfl
    subst this
    exact Or.inl ⟨f, rfl, rfl, h2.1, hg2, h2⟩
  | ok x =>
    obtain ⟨a, j⟩ := x
    obtain ⟨v, u, h3, h4, h5, h6⟩ := h2
    exact Or.inr ⟨a, j, v, u, rfl, h3, h4, h5, h6⟩
/-- an answer in the end -/
theorem out_ok {α : Type} {T : World → Value → α → Prop} {a : α} {v : Value} {r : Except Ft (α × Nat)} (hr : aft l fuel r = .ok (a, i)) (hg : w.grownBy w' (some b)) (hT : T w' v a) (h : Sz w' b l fuel i lv t) : Out l fuel b lv T w (aft l fuel r) (.returned v) w' := by
  rw [hr]
  exact ⟨hg, v, t, rfl, hT, h.lk, h.pz⟩
theorem aft_ok {α : Type} {a : α} (h : lkP l fuel i = .ok t) : aft l fuel (.ok (a, i)) = .ok (a, i) := by simp only [aft, h]
theorem aft_err {α β : Type} {a : α} {c : β} {f : Ft} (h : aft l fuel (.ok (a, i)) = .error f) : aft l fuel (.ok (c, i)) = .error f := by
  unfold aft at h ⊢
  simp only at h ⊢
  cases hh : lkP l fuel i with
  | error g => rw [hh] at h; simpa using h
  | ok u => rw [hh] at h; cases h
theorem aft_get {α : Type} {a c : α} {j : Nat} (h : aft l fuel (.ok (a, i)) = .ok (c, j)) : a = c ∧ i = j := by
  unfold aft at h
  simp only at h
  cases hh : lkP l fuel i with
  | error g => rw [hh] at h; cases h
  | ok u => rw [hh] at h; cases h; exact ⟨rfl, rfl⟩

set_option maxRecDepth 20000 in
set_option maxHeartbeats 1000000 in
theorem skip_any (s : List UInt8) (hs : s ≠ []) (w : World) (h : Sz w b l fuel i lv t) :
    Calls Tryd.prog 27 #[.pointer (some ⟨b, 0, none⟩), .string (mk s)] w (Out l fuel b lv tB w (aft l fuel (skpP l s i t))) := by
  have hb := below_walk w (.cells #[.string (mk s)] 9)
  have HI := hid (is_any [s] _ h.ok _ (h.below hb).pz (strs_1 w s) (by simp))
  have HZ := hid (h.below hb)
  have HB := hid hb
  have ht : (ttP l t.2.1 t.2.2 ∈ [s]) = (txA l t = s) := by simp [txA]
  simp only [ht] at HI
  unfold skpP
  by_cases he : txA l t = s
  · have h0 := tx_some h.ok hs he
    rw [if_pos he]
    simp only [decide_eq_true he] at HI
    have HN : Hid (∀ n, Calls Tryd.prog 23 #[.pointer (some ⟨b, 0, none⟩)] ((w.alloc (.cells #[.string (mk s)] 9)).drewN n) (Out l fuel b lv tU ((w.alloc (.cells #[.string (mk s)] 9)).drewN n) (aft l fuel (.ok ((), i + 1))))) := hid (fun n => next_sz _ (HZ.out.drewN n) h0)
    clear he h ht hb hs
    go_enter Tryd.func27, Tryd.ntmps27
    go_wp2_with (go_at_call 25; refine HI.out.mono ?_; rintro e w2 ⟨rfl, n, rfl⟩)
    refine (HN.out n).mono ?_
    intro e w3 hO
    obtain ⟨hg, ⟨f, h1, h2, rfl, h4⟩ | ⟨a, j, v, u, h1, rfl, h3, h4⟩⟩ := out_mono (lv' := lv) (T' := tB) (r' := aft l fuel (.ok (true, i + 1))) (gbz_drewN (below_gb HB.out (some b)) n) hO (fun f hf => aft_err hf)
    · have H4 := hid h4
      clear h1 h2 h4 hg hO
      go_wp2_with fail
      exact ⟨rfl, H4.out⟩
    · obtain ⟨_, rfl⟩ := aft_get h1
      subst h3
      have H4 := hid h4
      have HG := hid hg
      clear h1 h4 hg hO
      go_wp2
      go_ret
      exact out_ok (aft_ok H4.out.lk) HG.out rfl H4.out
  · rw [if_neg he]
    simp only [decide_eq_false he] at HI
    clear he ht hb hs h
    go_enter Tryd.func27, Tryd.ntmps27
    go_wp2_with (go_at_call 25; refine HI.out.mono ?_; rintro e w2 ⟨rfl, n, rfl⟩)
    go_ret
    exact out_ok (aft_ok HZ.out.lk) (gbz_drewN (below_gb HB.out (some b)) n) rfl (HZ.out.drewN n)
end

end Go.Proofs.YtjjajfipfeigiabDoor

/- Keys, signs and words: take, open, shut, word. -/
namespace Go.Proofs.YtjjajfipfeigiabDoor
open Go.RowKit

section
variable {w w' : World} {b : Nat} {l : List UInt8} {fuel : Int} {i lv : Nat} {t : Tok}
theorem aft_er {α : Type} {r : Except Ft (α × Nat)} {f : Ft} (h : aft l fuel r = .error f) : r = .error f ∨ ∃ a j, r = .ok (a, j) ∧ lkP l fuel j = .error f := by
  cases r with
  | error g => simp only [aft] at h; exact Or.inl h
  | ok x =>
    obtain ⟨a, j⟩ := x
    refine Or.inr ⟨a, j, rfl, ?_⟩
    simp only [aft] at h
    cases hh : lkP l fuel j with
    | error g => rw [hh] at h; simpa using h
    | ok u => rw [hh] at h; cases h
theorem aft_in {α : Type} {r : Except Ft (α × Nat)} {a : α} {j : Nat} (h : aft l fuel r = .ok (a, j)) : r = .ok (a, j) := by
  cases r with
  | error g => simp only [aft] at h; cases h
  | ok x =>
    obtain ⟨c, k⟩ := x
    obtain ⟨rfl, rfl⟩ := aft_get h
    rfl
theorem skp_in {s : List UInt8} {a : Bool} {j : Nat} (h : aft l fuel (skpP l s i t) = .ok (a, j)) : (txA l t = s ∧ a = true ∧ j = i + 1) ∨ (txA l t ≠ s ∧ a = false ∧ j = i) := by
  unfold skpP at h
  by_cases he : txA l t = s
  · rw [if_pos he] at h
    obtain ⟨rfl, rfl⟩ := aft_get h
    exact Or.inl ⟨he, rfl, rfl⟩
  · rw [if_neg he] at h
    obtain ⟨rfl, rfl⟩ := aft_get h
    exact Or.inr ⟨he, rfl, rfl⟩
theorem skp_er {s : List UInt8} {f : Ft} (hlk : lkP l fuel i = .ok t) (h : aft l fuel (skpP l s i t) = .error f) : txA l t = s ∧ lkP l fuel (i + 1) = .error f := by
  unfold skpP at h
  by_cases he : txA l t = s
  · rw [if_pos he] at h
    rcases aft_er h with h | ⟨a, j, h, hl⟩
    · cases h
    · cases h; exact ⟨he, hl⟩
  · rw [if_neg he, aft_ok hlk] at h
    cases h
theorem tak_in {s : List UInt8} {a j : Nat} (h : aft l fuel (takP l s i t) = .ok (a, j)) : txA l t = s ∧ a = t.2.1 ∧ j = i + 1 := by
  have h := aft_in h
  unfold takP at h
  split at h
  · rename_i he; cases h; exact ⟨he, rfl, rfl⟩
  · cases h
theorem tak_er {s : List UInt8} {f : Ft} (h : aft l fuel (takP l s i t) = .error f) : (txA l t ≠ s ∧ f = badF 140 i t) ∨ (txA l t = s ∧ lkP l fuel (i + 1) = .error f) := by
  rcases aft_er h with h | ⟨a, j, h, hl⟩
  · unfold takP at h
    split at h
    · cases h
    · rename_i he; cases h; exact Or.inl ⟨he, rfl⟩
  · unfold takP at h
    split at h
    · rename_i he; cases h; exact Or.inr ⟨he, hl⟩
    · cases h
theorem ope_in {s : List UInt8} {a j : Nat} (h : aft l fuel (opeP l s lv i t) = .ok (a, j)) : txA l t = s ∧ lv ≠ 64 ∧ a = t.2.1 ∧ j = i + 1 := by
  have h := aft_in h
  unfold opeP at h
  split at h
  · rename_i he
    split at h
    · cases h
    · rename_i hl; cases h; exact ⟨he, hl, rfl, rfl⟩
  · cases h
theorem ope_er {s : List UInt8} {f : Ft} (h : aft l fuel (opeP l s lv i t) = .error f) : (txA l t ≠ s ∧ f = badF 140 i t) ∨ (txA l t = s ∧ lv = 64 ∧ f = badF 141 i t) ∨ (txA l t = s ∧ lv ≠ 64 ∧ lkP l fuel (i + 1) = .error f) := by
  rcases aft_er h with h | ⟨a, j, h, hl⟩
  · unfold opeP at h
    split at h
    · rename_i he
      split at h
      · rename_i h6; cases h; exact Or.inr (Or.inl ⟨he, h6, rfl⟩)
      · cases h
    · rename_i he; cases h; exact Or.inl ⟨he, rfl⟩
  · unfold opeP at h
    split at h
    · rename_i he
      split at h
      · cases h
      · rename_i h6; cases h; exact Or.inr (Or.inr ⟨he, h6, hl⟩)
    · cases h
theorem wor_in {a : List UInt8} {j : Nat} (h : aft l fuel (worP l i t) = .ok (a, j)) : t.1 = 1 ∧ a = txA l t ∧ j = i + 1 := by
  have h := aft_in h
  unfold worP at h
  split at h
  · rename_i he; cases h; exact ⟨he, rfl, rfl⟩
  · cases h
theorem wor_er {f : Ft} (h : aft l fuel (worP l i t) = .error f) : (t.1 ≠ 1 ∧ f = badF 140 i t) ∨ (t.1 = 1 ∧ lkP l fuel (i + 1) = .error f) := by
  rcases aft_er h with h | ⟨a, j, h, hl⟩
  · unfold worP at h
    split at h
    · cases h
    · rename_i he; cases h; exact Or.inl ⟨he, rfl⟩
  · unfold worP at h
    split at h
    · rename_i he; cases h; exact Or.inr ⟨he, hl⟩
    · cases h
/-- refused -/
theorem out_bad {α : Type} {T : World → Value → α → Prop} {lv' : Nat} {y : Int} {r : Except Ft (α × Nat)} (hr : aft l fuel r = .error (badF y i t)) (hg : w.grownBy w' (some b)) (h : Sz w' b l fuel i lv t) : Out l fuel b lv' T w (aft l fuel r) (.panicked (wrV y t.2.1)) w' := by
  rw [hr]
  exact ⟨hg, rfl, t, lv, h.pz⟩

set_option maxRecDepth 20000 in
set_option maxHeartbeats 1000000 in
theorem take_any (s : List UInt8) (hs : s ≠ []) (w : World) (h : Sz w b l fuel i lv t) :
    Calls Tryd.prog 44 #[.pointer (some ⟨b, 0, none⟩), .string (mk s)] w (Out l fuel b lv tN w (aft l fuel (takP l s i t))) := by
  have HK := hid (skip_any s hs w h)
  have HZ := hid h
  have c2 := h.pz.c2
  obtain ⟨R, HR⟩ : ∃ R, Hid (takP l s i t = R) := ⟨_, rfl⟩
  rw [HR.out]
  obtain ⟨k, fr, m⟩ := t
  dsimp only at c2
  clear h hs
  go_enter Tryd.func44, Tryd.ntmps44
  go_wp2_with fail
  refine HK.out.mono ?_
  intro e w3 hO
  obtain ⟨hg, ⟨f, h1, h2, rfl, h4⟩ | ⟨a, j, v, u, h1, rfl, h3, h4⟩⟩ := out_mono (lv' := lv) (T' := tN) (r' := aft l fuel R) (gb_refl w (some b)) hO (fun f hf => by obtain ⟨q1, q2⟩ := skp_er HZ.out.lk hf; rw [← HR.out]; simp only [takP, if_pos q1, aft, q2])
  · have H4 := hid h4
    clear h1 h2 h4 hg hO
    go_wp2_with fail
    exact ⟨rfl, H4.out⟩
  · subst h3
    have H4 := hid h4
    have HG := hid hg
    rcases skp_in h1 with ⟨q1, rfl, rfl⟩ | ⟨q1, rfl, rfl⟩
    · have HQ := hid q1
      clear h1 h4 hg hO q1 c2
      go_wp2
      go_ret
      exact out_ok (by rw [← HR.out]; simp only [takP, if_pos HQ.out]; exact aft_ok H4.out.lk) HG.out rfl H4.out
    · have HQ := hid q1
      have HF := hid (refuse_any w3 h4.pz)
      obtain rfl : u = (k, fr, m) := by have := h4.lk; rw [HZ.out.lk] at this; exact (Except.ok.inj this).symm
      clear h1 h4 hg hO q1 c2
      go_wp2_with (go_at_call 24; refine HF.out.mono ?_; rintro e w4 ⟨rfl, h5⟩; have h5 := h5.symm; subst h5)
      exact ⟨rfl, out_bad (by rw [← HR.out]; simp only [takP, if_neg HQ.out, aft]) HG.out H4.out⟩

set_option maxRecDepth 20000 in
set_option maxHeartbeats 1000000 in
theorem open_any (s : List UInt8) (hs : s ≠ []) (hlv : lv ≤ 1000000000) (w : World) (h : Sz w b l fuel i lv t) :
    Calls Tryd.prog 66 #[.pointer (some ⟨b, 0, none⟩), .string (mk s)] w (Out l fuel b (lv + 1) tN w (aft l fuel (opeP l s lv i t))) := by
  have hb := below_walk w (.cells #[.string (mk s)] 9)
  have HI := hid (is_any [s] _ h.ok _ (h.below hb).pz (strs_1 w s) (by simp))
  have HZ := hid (h.below hb)
  have HB := hid (below_gb hb (some b))
  have ht : (ttP l t.2.1 t.2.2 ∈ [s]) = (txA l t = s) := by simp [txA]
  simp only [ht] at HI
  obtain ⟨R, HR⟩ : ∃ R, Hid (opeP l s lv i t = R) := ⟨_, rfl⟩
  rw [HR.out]
  by_cases he : txA l t = s
  · simp only [decide_eq_true he] at HI
    have HE := hid he
    by_cases h6 : lv = 64
    · subst h6
      clear he h ht hb hs
      go_enter Tryd.func66, Tryd.ntmps66
      go_upto_region 3 with (go_at_call 25; refine HI.out.mono ?_; rintro e w2 ⟨rfl, n, rfl⟩)
      obtain ⟨w2, HW2⟩ : ∃ w2, Hid ((w.alloc (.cells #[.string (mk s)] 9)).drewN n = w2) := ⟨_, hid rfl⟩
      rw [HW2.out]
      have HZ2 : Hid (Sz w2 b l fuel i 64 t) := hid (HW2.out ▸ HZ.out.drewN n)
      have HG2 : Hid (w.grownBy w2 (some b)) := hid (HW2.out ▸ gbz_drewN HB.out n)
      have c6 := HZ2.out.pz.c6
      have HF := hid (giveUp_any 141 w2 HZ2.out.pz)
      clear HW2 HI HZ HB
      go_wp2_with (go_at_call 41; refine HF.out.mono ?_; rintro e w4 ⟨rfl, h5⟩; have h5 := h5.symm; subst h5)
      exact ⟨rfl, out_bad (by rw [← HR.out]; simp only [opeP, if_pos HE.out, aft]; rfl) HG2.out HZ2.out⟩
    · have HL : Hid (lv ≠ 64) := hid h6
      have q6 : ¬ (lv : Int) = 64 := by omega
      clear he h ht hb h6
      go_enter Tryd.func66, Tryd.ntmps66
      go_upto_region 3 with (go_at_call 25; refine HI.out.mono ?_; rintro e w2 ⟨rfl, n, rfl⟩)
      obtain ⟨w2, HW2⟩ : ∃ w2, Hid ((w.alloc (.cells #[.string (mk s)] 9)).drewN n = w2) := ⟨_, hid rfl⟩
      rw [HW2.out]
      have HZ2 : Hid (Sz w2 b l fuel i lv t) := hid (HW2.out ▸ HZ.out.drewN n)
      have HG2 : Hid (w.grownBy w2 (some b)) := hid (HW2.out ▸ gbz_drewN HB.out n)
      have c6 := HZ2.out.pz.c6
      have z6 := HZ2.out.pz.z 6
      clear HW2 HI HZ HB
      go_upto_region 6 with fail
      have HZ3 : Hid (Sz (w2.setCell ⟨b, 6, none⟩ (.int .i64 ((lv : Int) + 1))) b l fuel i (lv + 1) t) := hid ⟨HZ2.out.lk, HZ2.out.pz.setl (lv + 1)⟩
      have HG3 := hid (gb_trans HG2.out (gb_setc w2 b 6 (.int .i64 ((lv : Int) + 1))))
      generalize w2.setCell ⟨b, 6, none⟩ (.int .i64 ((lv : Int) + 1)) = w4 at *
      have HK := hid (take_any s hs w4 HZ3.out)
      clear c6 z6
      go_wp2_with fail
      refine HK.out.mono ?_
      intro e w3 hO
      obtain ⟨hg, ⟨f, h1, h2, rfl, h4⟩ | ⟨a, j, v, u, h1, rfl, h3, h4⟩⟩ := out_mono (lv' := lv + 1) (T' := tN) (r' := aft l fuel R) HG3.out hO (fun f hf => by rw [← HR.out]; simp only [opeP, if_pos HE.out, if_neg HL.out]; rw [← hf]; simp only [takP, if_pos HE.out])
      · have H4 := hid h4
        clear h1 h2 h4 hg hO
        go_wp2_with fail
        exact ⟨rfl, H4.out⟩
      · subst h3
        have H4 := hid h4
        have HG := hid hg
        obtain ⟨_, rfl, rfl⟩ := tak_in h1
        clear h1 h4 hg hO hs
        go_wp2
        go_ret
        exact out_ok (by rw [← HR.out]; simp only [opeP, if_pos HE.out, if_neg HL.out]; exact aft_ok H4.out.lk) HG.out rfl H4.out
  · simp only [decide_eq_false he] at HI
    have HE := hid he
    clear he h ht hb hs
    go_enter Tryd.func66, Tryd.ntmps66
    go_upto_region 2 with (go_at_call 25; refine HI.out.mono ?_; rintro e w2 ⟨rfl, n, rfl⟩)
    obtain ⟨w2, HW2⟩ : ∃ w2, Hid ((w.alloc (.cells #[.string (mk s)] 9)).drewN n = w2) := ⟨_, hid rfl⟩
    rw [HW2.out]
    have HZ2 : Hid (Sz w2 b l fuel i lv t) := hid (HW2.out ▸ HZ.out.drewN n)
    have HG2 : Hid (w.grownBy w2 (some b)) := hid (HW2.out ▸ gbz_drewN HB.out n)
    have HF := hid (refuse_any w2 HZ2.out.pz)
    clear HW2 HI HZ HB
    go_wp2_with (go_at_call 24; refine HF.out.mono ?_; rintro e w4 ⟨rfl, h5⟩; have h5 := h5.symm; subst h5)
    exact ⟨rfl, out_bad (by rw [← HR.out]; simp only [opeP, if_neg HE.out, aft]) HG2.out HZ2.out⟩

set_option maxRecDepth 20000 in
set_option maxHeartbeats 1000000 in
theorem shut_any (s : List UInt8) (hs : s ≠ []) (hlv : lv ≤ 1000000000) (w : World) (h : Sz w b l fuel i (lv + 1) t) :
    Calls Tryd.prog 67 #[.pointer (some ⟨b, 0, none⟩), .string (mk s)] w (Out l fuel b lv tU w (aft l fuel (match takP l s i t with | .error f => .error f | .ok (_, j) => .ok ((), j)))) := by
  have HK := hid (take_any s hs w h)
  obtain ⟨R, HR⟩ : ∃ R, Hid ((match takP l s i t with | .error f => Except.error f | .ok (_, j) => .ok ((), j)) = R) := ⟨_, hid rfl⟩
  rw [HR.out]
  clear h hs
  go_enter Tryd.func67, Tryd.ntmps67
  go_wp2_with fail
  refine HK.out.mono ?_
  intro e w3 hO
  obtain ⟨hg, ⟨f, h1, h2, rfl, h4⟩ | ⟨a, j, v, u, h1, rfl, h3, h4⟩⟩ := out_mono (lv' := lv) (T' := tU) (r' := aft l fuel R) (gb_refl w (some b)) hO (fun f hf => by rw [← HR.out]; rcases aft_er hf with q | ⟨a, j, q, ql⟩; simp only [q, aft]; simp only [q, aft, ql])
  · have H4 := hid h4
    clear h1 h2 h4 hg hO
    go_wp2_with fail
    exact ⟨rfl, H4.out⟩
  · subst h3
    have H4 := hid h4
    have HG := hid hg
    have HJ := hid (aft_in h1)
    have c6 := h4.pz.c6
    have z6 := h4.pz.z 6
    have hwr : wrap64 (((lv + 1 : Nat) : Int) - 1) = (lv : Int) := by unfold wrap64; omega
    have hwr2 : wrap64 ((lv : Int) + 1 - 1) = (lv : Int) := by unfold wrap64; omega
    clear h1 h4 hg hO
    go_wp2
    go_end0
    exact out_ok (by rw [← HR.out]; simp only [HJ.out]; exact aft_ok H4.out.lk) (gb_trans HG.out (gb_setc w3 b 6 (.int .i64 (lv : Int)))) rfl (⟨H4.out.lk, H4.out.pz.setl lv⟩ : Sz _ b l fuel _ lv u)

theorem sclone_any (s : ByteArray) (hs : s.size ≤ 281474976710656) (w : World) :
    Calls Tryd.prog 65 #[.string s] w fun e w' => e = .returned (.string s) ∧ Below w.heap.size w w' := by
  have H := hid (Tryd.stringslite_Clone s · hs)
  go_enter Tryd.func65, Tryd.ntmps65
  go_wp2_with (go_at_call 83; refine (H.out _).mono ?_; rintro e w' ⟨rfl, hb⟩)
  go_ret
  exact ⟨rfl, hb⟩

set_option maxRecDepth 20000 in
set_option maxHeartbeats 1000000 in
theorem pword_any (w : World) (h : Sz w b l fuel i lv t) :
    Calls Tryd.prog 46 #[.pointer (some ⟨b, 0, none⟩)] w (Out l fuel b lv tS w (aft l fuel (worP l i t))) := by
  obtain ⟨R, HR⟩ : ∃ R, Hid (worP l i t = R) := ⟨_, rfl⟩
  rw [HR.out]
  have c1 := h.pz.c1
  have HZ := hid h
  by_cases hk : t.1 = 1
  · have HX := hid (ptext_any h.ok w h.pz)
    have hsz : (mk (ttP l t.2.1 t.2.2)).size ≤ 281474976710656 := by
      rw [mk_size]
      have := (lk_lt h.lk).2
      unfold ttP
      simp
      omega
    have HC := hid (sclone_any (mk (ttP l t.2.1 t.2.2)) hsz)
    have HE := hid hk
    have q1 : (t.1 : Int) = 1 := by omega
    have HN : Hid (∀ n w2, Below (w.drewN n).heap.size (w.drewN n) w2 → Calls Tryd.prog 23 #[.pointer (some ⟨b, 0, none⟩)] w2 (Out l fuel b lv tU w2 (aft l fuel (.ok ((), i + 1))))) := hid (fun n w2 hb => next_sz _ ((h.drewN n).below hb) (by omega))
    obtain ⟨s, HS⟩ : ∃ s, Hid (mk (ttP l t.2.1 t.2.2) = s) := ⟨_, rfl⟩
    rw [HS.out] at HX HC
    clear h hsz hk
    rw [q1] at c1
    go_enter Tryd.func46, Tryd.ntmps46
    go_wp2_with (first
      | (go_at_call 43; refine HX.out.mono ?_; rintro e w2 ⟨rfl, n, rfl⟩)
      | (go_at_call 65; refine (HC.out _).mono ?_; rintro e w3 ⟨rfl, hb3⟩; have HB3 := hid hb3; clear hb3))
    refine (HN.out n w3 HB3.out).mono ?_
    intro e w4 hO
    obtain ⟨hg, ⟨f, h1, h2, rfl, h4⟩ | ⟨a, j, v, u, h1, rfl, h3, h4⟩⟩ := out_mono (lv' := lv) (T' := tS) (r' := aft l fuel R) (gb_trans (gbz_drewN (gb_refl w (some b)) n) (below_gb HB3.out (some b))) hO (fun f hf => by rw [← HR.out]; simp only [worP, if_pos HE.out]; exact aft_err hf)
    · have H4 := hid h4
      clear h1 h2 h4 hg hO
      go_wp2_with fail
      exact ⟨rfl, H4.out⟩
    · obtain ⟨_, rfl⟩ := aft_get h1
      subst h3
      have H4 := hid h4
      have HG := hid hg
      clear h1 h4 hg hO c1
      go_wp2
      go_ret
      exact out_ok (by rw [← HR.out]; simp only [worP, if_pos HE.out]; exact aft_ok H4.out.lk) HG.out (by rw [← HS.out]; rfl) H4.out
  · have q1 : ¬ (t.1 : Int) = 1 := by omega
    have HE := hid hk
    have HF := hid (refuse_any w h.pz)
    clear h hk
    go_enter Tryd.func46, Tryd.ntmps46
    go_wp2_with (go_at_call 24; refine HF.out.mono ?_; rintro e w4 ⟨rfl, h5⟩; have h5 := h5.symm; subst h5)
    exact ⟨rfl, out_bad (by rw [← HR.out]; simp only [worP, if_neg HE.out, aft]) (gb_refl w (some b)) HZ.out⟩
end

end Go.Proofs.YtjjajfipfeigiabDoor

/- Expressions in memory. -/
namespace Go.Proofs.YtjjajfipfeigiabDoor
open Go.RowKit

theorem Tryd.infoExpr : (Tryd.prog.info? 49).map (fun i => (i.zero, i.size, i.bytes)) = some (some (.agg #[.int .i64 0, .int .i64 0, .string ⟨#[]⟩, .string ⟨#[]⟩, .int .i64 0, .int .i64 0, .bool false, .string ⟨#[]⟩, .int .i64 0, .slice none 0 0]), 10, 120) := by kernel_rfl
theorem Tryd.rowExpr : (Tryd.prog.info? 49).map (·.size) = some 10 := by kernel_rfl
def zX : Array Value := #[.int .i64 0, .int .i64 0, .string ⟨#[]⟩, .string ⟨#[]⟩, .int .i64 0, .int .i64 0, .bool false, .string ⟨#[]⟩, .int .i64 0, .slice none 0 0]
theorem Tryd.zeroExpr : ∀ w, (zeroValue 49).run Tryd.prog w = .ok (.agg zX) w :=
  (Go.zero_of_info (P := Tryd.prog) (t := 49) (v := .agg zX) (n := 10) (by kernel_rfl)).1

/-- an expression's cells; kv: its operands -/
def exC (e : Ex) (kv : Value) : List Value := [.int .i64 (e.kind : Int), .int .i64 (e.pl : Int), .string (mk e.own), .string (mk e.nm), .int .i64 (e.vl.ty : Int), .int .i64 e.vl.nu, .bool e.vl.tr, .string (mk e.vl.te), .int .i64 (e.op : Int), kv]
theorem exC_length (e : Ex) (kv : Value) : (exC e kv).length = 10 := rfl
theorem exC_one (e : Ex) (kv : Value) (h : kv.oneCell' = true) : ∀ v ∈ exC e kv, v.oneCell' = true := by
  intro v hv
  simp only [exC, List.mem_cons, List.not_mem_nil, or_false] at hv
  rcases hv with rfl | rfl | rfl | rfl | rfl | rfl | rfl | rfl | rfl | rfl
  all_goals first | rfl | exact h

/-- kv is a slice of these expressions, which lie, as deep as d, in blocks of P -/
def ExS (P : Nat → Prop) (w : World) : Nat → Value → List Ex → Prop
  | 0, kv, ks => ks = [] ∧ ∃ a c, kv = .slice a 0 c
  | d + 1, kv, ks => (ks = [] ∧ ∃ a c, kv = .slice a 0 c) ∨ ∃ g o c, kv = .slice (some ⟨g, o, none⟩) ks.length c ∧ P g ∧ g < w.heap.size ∧ ∀ j e, ks[j]? = some e → ∃ kv', w.rangeAt g (o + 10 * j) (exC e kv') ∧ ExS P w d kv' e.kids
theorem ExS.up {P : Nat → Prop} {w : World} : ∀ {d : Nat} {kv : Value} {ks : List Ex}, ExS P w d kv ks → ExS P w (d + 1) kv ks
  | 0, _, _, h => Or.inl h
  | d + 1, _, _, h => by
    rcases h with h | ⟨g, o, c, h1, h2, h3, h4⟩
    · exact Or.inl h
    · refine Or.inr ⟨g, o, c, h1, h2, h3, fun j e he => ?_⟩
      obtain ⟨kv', h5, h6⟩ := h4 j e he
      exact ⟨kv', h5, h6.up⟩
theorem ExS.le {P : Nat → Prop} {w : World} {d d' : Nat} {kv : Value} {ks : List Ex} (h : ExS P w d kv ks) (hd : d ≤ d') : ExS P w d' kv ks := by
  obtain ⟨k, rfl⟩ := Nat.exists_eq_add_of_le hd
  clear hd
  induction k with
  | zero => exact h
  | succ k ih => exact ih.up
theorem ExS.keep {P Q : Nat → Prop} {w w' : World} (hp : ∀ g, P g → g < w.heap.size → w'.heap[g]? = w.heap[g]? ∧ Q g) (hs : w.heap.size ≤ w'.heap.size) : ∀ {d : Nat} {kv : Value} {ks : List Ex}, ExS P w d kv ks → ExS Q w' d kv ks
  | 0, _, _, h => h
  | d + 1, _, _, h => by
    rcases h with h | ⟨g, o, c, h1, h2, h3, h4⟩
    · exact Or.inl h
    · obtain ⟨q1, q2⟩ := hp g h2 h3
      refine Or.inr ⟨g, o, c, h1, q2, Nat.lt_of_lt_of_le h3 hs, fun j e he => ?_⟩
      obtain ⟨kv', h5, h6⟩ := h4 j e he
      exact ⟨kv', fun i v hv => by rw [World.cell?_of_block q1]; exact h5 i v hv, h6.keep hp hs⟩
theorem ExS.one {P : Nat → Prop} {w : World} {d : Nat} {kv : Value} {ks : List Ex} (h : ExS P w d kv ks) : ∃ a c, kv = .slice a ks.length c := by
  cases d with
  | zero => obtain ⟨rfl, a, c, rfl⟩ := h; exact ⟨a, c, rfl⟩
  | succ d =>
    rcases h with ⟨rfl, a, c, rfl⟩ | ⟨g, o, c, rfl, _⟩
    · exact ⟨a, c, rfl⟩
    · exact ⟨_, c, rfl⟩
theorem ExS.cell {P : Nat → Prop} {w : World} {d : Nat} {kv : Value} {ks : List Ex} (h : ExS P w d kv ks) : kv.oneCell' = true := by
  obtain ⟨a, c, rfl⟩ := h.one; rfl
theorem ExS.none (P : Nat → Prop) (w : World) : ExS P w 0 (.slice Option.none 0 0) [] := ⟨rfl, Option.none, 0, rfl⟩

/-- v is an expression that lies in blocks from B on -/
def tE (B : Nat) : World → Value → Ex → Prop := fun w v e => ∃ kv d, v = .agg (exC e kv).toArray ∧ ExS (fun g => B ≤ g) w d kv e.kids
/-- and a slice of them -/
def tL (B : Nat) : World → Value → List Ex → Prop := fun w v ks => ∃ d, ExS (fun g => B ≤ g) w d v ks
theorem ExS.gb {w w' : World} {b B d : Nat} {kv : Value} {ks : List Ex} (h : ExS (fun g => B ≤ g) w d kv ks) (hg : w.grownBy w' (some b)) (hb : b < B) : ExS (fun g => B ≤ g) w' d kv ks :=
  h.keep (fun g hB hl => ⟨hg.block g hl (by simp; omega), hB⟩) hg.size
theorem ExS.below {w w' : World} {B d : Nat} {kv : Value} {ks : List Ex} (h : ExS (fun g => B ≤ g) w d kv ks) (hb : Below w.heap.size w w') : ExS (fun g => B ≤ g) w' d kv ks :=
  h.keep (fun g hB hl => ⟨hb.block g hl, hB⟩) hb.size
theorem ExS.lw {w : World} {B B' d : Nat} {kv : Value} {ks : List Ex} (h : ExS (fun g => B ≤ g) w d kv ks) (hb : B' ≤ B) : ExS (fun g => B' ≤ g) w d kv ks :=
  h.keep (fun g hB _ => ⟨rfl, by omega⟩) (Nat.le_refl _)

/-- an expression in a block of its own -/
def Xb (w : World) (g : Nat) (e : Ex) (kv : Value) : Prop := w.heap[g]? = some (.cells (exC e kv).toArray 49 (0, 0))
theorem Xb.rng {w : World} {g : Nat} {e : Ex} {kv : Value} (h : Xb w g e kv) : w.rangeAt g 0 (exC e kv) := fun j v hv => by
  have h : w.heap[g]? = some (.cells (exC e kv).toArray 49 (0, 0)) := h
  rw [Nat.zero_add, cell_of_row w g j (exC e kv).toArray 49 (0, 0) h]; simpa using hv
theorem Xb.gb {w w' : World} {g b : Nat} {e : Ex} {kv : Value} (h : Xb w g e kv) (hg : w.grownBy w' (some b)) (hb : b ≠ g) : Xb w' g e kv := by
  unfold Xb; rw [hg.block g (hp_lt h) (by simpa using fun e => hb e.symm)]; exact h

end Go.Proofs.YtjjajfipfeigiabDoor

/- A name, and the end of a function that answers a row (written by zname.py). -/
namespace Go.Proofs.YtjjajfipfeigiabDoor
open Go.RowKit

section
variable {w w' : World} {b : Nat} {l : List UInt8} {fuel : Int} {i lv : Nat} {t : Tok}
theorem gb_new {W W' : World} {g : Nat} (h : w.grownBy W (some b)) (h2 : W.grownBy W' (some g)) (hl : w.heap.size ≤ g) : w.grownBy W' (some b) :=
  ⟨h2.os.trans h.os, h2.tape.trans h.tape, h2.output.trans h.output, Nat.le_trans h.size h2.size, fun k hk hr => (h2.block k (Nat.lt_of_lt_of_le hk h.size) (by simp; omega)).trans (h.block k hk hr)⟩
theorem Pz.new {W W' : World} {t0 t1 : Tok} {u0 u1 l0 l1 g : Nat} (h0 : Pz w b l t0 fuel u0 l0) (h : Pz W b l t1 fuel u1 l1) (hg : W.grownBy W' (some g)) (hl : w.heap.size ≤ g) : Pz W' b l t1 fuel u1 l1 := by
  have n0 := h0.lt
  have n1 := h0.tab.low.1
  have n2 := h0.tab.low.2
  have n3 := h0.low
  exact ⟨(hg.block b h.lt (by simp; omega)).trans h.blk, ⟨fun j v hv => by rw [cell_gb hg h.tab.low.1 (fun e => by have := Option.some.inj e; omega)]; exact h.tab.signs j v hv, fun j v hv => by rw [cell_gb hg h.tab.low.2 (fun e => by have := Option.some.inj e; omega)]; exact h.tab.keys j v hv, ⟨Nat.lt_of_lt_of_le h.tab.low.1 hg.size, Nat.lt_of_lt_of_le h.tab.low.2 hg.size⟩⟩,
    fun j v hv => by rw [cell_gb hg h.low (fun e => by have := Option.some.inj e; omega)]; exact h.bin j v hv, Nat.lt_of_lt_of_le h.low hg.size⟩
theorem Sz.new {W W' : World} {t0 t1 : Tok} {i0 i1 l0 l1 g : Nat} (h0 : Sz w b l fuel i0 l0 t0) (h : Sz W b l fuel i1 l1 t1) (hg : W.grownBy W' (some g)) (hl : w.heap.size ≤ g) : Sz W' b l fuel i1 l1 t1 := ⟨h.lk, h0.pz.new h.pz hg hl⟩
/-- the answer is a row that was written last -/
theorem out_row {α : Type} {T : World → Value → α → Prop} {a : α} {r : Except Ft (α × Nat)} {W W' : World} {t0 : Tok} {i0 l0 g : Nat} {cs : List Value} {ty : TypeId} (h0 : Sz w b l fuel i0 l0 t0) (hg : w.grownBy W (some b)) (h : Sz W b l fuel i lv t) (hs : RowSet W W' g cs ty) (hl : w.heap.size ≤ g)
    (hr : r = .ok (a, i)) (hT : T W' (.agg cs.toArray) a) : Out l fuel b lv T w (aft l fuel r) (.returned (.agg cs.toArray)) W' :=
  out_ok (by rw [hr]; exact aft_ok h.lk) (gb_new hg hs.grown hl) hT (h0.new h hs.grown hl)

set_option maxRecDepth 20000 in
set_option maxHeartbeats 2000000 in
theorem pnamed_any (p : Nat) (s : List UInt8) (w : World) (h : Sz w b l fuel i lv t) :
    Calls Tryd.prog 99 #[.pointer (some ⟨b, 0, none⟩), .int .i64 (p : Int), .string (mk s)] w (Out l fuel b lv (tE w.heap.size) w (aft l fuel (namP (srcP l fuel) p s i))) := by
  obtain ⟨R, HR⟩ : ∃ R, Hid (namP (srcP l fuel) p s i = R) := ⟨_, rfl⟩
  rw [HR.out]
  obtain ⟨g, HG⟩ : ∃ g, Hid (w.heap.size = g) := ⟨_, rfl⟩
  rw [HG.out]
  have H0 := hid h
  have HLK := hid h.lk
  have hb1 := below_walk w (.cells zX 49)
  have HK := hid (skip_any [46] (by decide) _ (h.below hb1))
  have HN := hid (hp_new w (.cells zX 49))
  have HG1 := hid (below_gb hb1 (some b))
  have HLT := hid h.pz.lt
  clear h hb1
  go_enter Tryd.func99, Tryd.ntmps99
  go_upto_region 1 with (refine al_row rfl 49 rfl zX Tryd.zeroExpr ?_)
  generalize w.alloc (.cells zX 49) = w1 at *
  rw [HG.out] at HN HLT ⊢
  go_wp2_with fail
  refine HK.out.mono ?_
  intro e w3 hO
  obtain ⟨hg, ⟨f, h1, h2, rfl, h4⟩ | ⟨a, j, v, u, h1, rfl, h3, h4⟩⟩ := out_mono (lv' := lv) (T' := tE g) (r' := aft l fuel R) HG1.out hO (fun f hf => by obtain ⟨q1, q2⟩ := skp_er HLK.out hf; rw [← HR.out]; simp only [namP, wordP, srcP, HLK.out, q1, if_true, q2, aft])
  · have H4 := hid h4
    clear h1 h2 h4 hg hO
    go_wp2_with fail
    exact ⟨rfl, H4.out⟩
  · have ho := hO.1
    clear hO
    subst h3
    have HZ := hid h4
    have HG4 := hid hg
    have HN4 := hid ((ho.block g (hp_lt HN.out) (by have := HLT.out; simp; omega)).trans HN.out)
    rcases skp_in h1 with ⟨q1, rfl, rfl⟩ | ⟨q1, rfl, rfl⟩
    · have HQ := hid q1
      have HW := hid (pword_any w3 h4)
      clear h1 h4 hg ho q1
      go_wp2_with fail
      refine HW.out.mono ?_
      intro e w5 hO
      obtain ⟨hgb, ⟨f, h1, h2, rfl, h4⟩ | ⟨ab, jb, vb, ub, h1b, rfl, h3b, h4b⟩⟩ := out_mono (lv' := lv) (T' := tE g) (r' := aft l fuel R) HG4.out hO (fun f hf => Or.elim (wor_er hf) (fun ⟨q1, q2⟩ => by rw [← HR.out]; simp only [namP, wordP, srcP, HLK.out, HQ.out, if_true, HZ.out.lk, q1, if_false, aft, q2]) (fun ⟨q1, q2⟩ => by rw [← HR.out]; simp only [namP, wordP, srcP, HLK.out, HQ.out, if_true, HZ.out.lk, q1, q2, aft]))
      · have H4 := hid h4
        clear h1 h2 h4 hgb hO
        go_wp2_with fail
        exact ⟨rfl, H4.out⟩
      · have hob := hO.1
        clear hO
        subst h3b
        obtain ⟨k1, rfl, rfl⟩ := wor_in h1b
        have HZ5 := hid h4b
        have HG5 := hid hgb
        have HN5 := hid ((hob.block g (hp_lt HN4.out) (by have := HLT.out; simp; omega)).trans HN4.out)
        have HK1 := hid k1
        clear h1b h4b hgb hob k1
        obtain ⟨r, HRR⟩ : ∃ r, Hid (txA l u = r) := ⟨_, rfl⟩
        rw [HRR.out]
        go_wp2_with (first
          | (refine bd_row rfl 49 _ rfl [(0, .int .i64 2), (1, .int .i64 (p : Int)), (2, .string (mk s)), (3, .string (mk r))] rfl (exC ⟨2, p, s, r, zVl, 0, []⟩ (.slice none 0 0)).toArray (by kernel_rfl) ?_)
          | (refine st_row rfl 49 (.tmp 6) (.tmp 13) rfl g (exC ⟨2, p, s, r, zVl, 0, []⟩ (.slice none 0 0)) rfl rfl 49 zX HN5.out Tryd.rowExpr rfl (exC_one _ _ rfl) ?_; intro w6 hs6; have HS6 := hid hs6; clear hs6))
        refine ret_row 6 49 rfl g rfl _ 49 HS6.out.blk _ Tryd.underlying49 rfl Tryd.rowExpr rfl ?_
        exact out_row H0.out HG5.out HZ5.out HS6.out (by rw [HG.out]; exact Nat.le_refl _) (by rw [← HR.out]; simp only [namP, wordP, srcP, HLK.out, HQ.out, if_true, HZ.out.lk, HK1.out, HRR.out]) ⟨_, 0, rfl, ExS.none _ _⟩
    · have HQ := hid q1
      clear h1 h4 hg ho q1
      go_wp2_with (first
        | (refine bd_row rfl 49 _ rfl [(0, .int .i64 2), (1, .int .i64 (p : Int)), (3, .string (mk s))] rfl (exC ⟨2, p, [], s, zVl, 0, []⟩ (.slice none 0 0)).toArray (by kernel_rfl) ?_)
        | (refine st_row rfl 49 (.tmp 6) (.tmp 16) rfl g (exC ⟨2, p, [], s, zVl, 0, []⟩ (.slice none 0 0)) rfl rfl 49 zX HN4.out Tryd.rowExpr rfl (exC_one _ _ rfl) ?_; intro w6 hs6; have HS6 := hid hs6; clear hs6))
      refine ret_row 6 49 rfl g rfl _ 49 HS6.out.blk _ Tryd.underlying49 rfl Tryd.rowExpr rfl ?_
      exact out_row H0.out HG4.out HZ.out HS6.out (by rw [HG.out]; exact Nat.le_refl _) (by rw [← HR.out]; simp only [namP, srcP, HLK.out, eq_false HQ.out, if_false]) ⟨_, 0, rfl, ExS.none _ _⟩
end

end Go.Proofs.YtjjajfipfeigiabDoor

/- A list of structs that grows: rows of one's own, what hangs on them apart from them. -/
namespace Go.Proofs.YtjjajfipfeigiabDoor
open Go.RowKit

/-- a kind of structs: its type, how many cells, the cells of one, and what hangs on one (in blocks of P) -/
structure Knd (β : Type) where
  ty : TypeId
  sl : TypeId
  size : Nat
  bytes : Nat
  zero : Value
  cells : β → List Value
  good : (Nat → Prop) → World → β → Prop
structure Knd.Ok {β : Type} (K : Knd β) (P : Program) : Prop where
  info : (P.info? K.ty).map (fun i => (i.zero, i.size, i.bytes)) = some (some K.zero, K.size, K.bytes)
  und : P.underlying K.sl = some (.slice K.ty)
  zs : K.zero.cells.size = K.size
  pos : 0 < K.size
  len : ∀ x, (K.cells x).length = K.size
  one : ∀ Q w x, K.good Q w x → ∀ u ∈ K.cells x, u.oneCell' = true
  keep : ∀ {Q Q' : Nat → Prop} {w w' : World}, (∀ g, Q g → g < w.heap.size → w'.heap[g]? = w.heap[g]? ∧ Q' g) → w.heap.size ≤ w'.heap.size → ∀ x, K.good Q w x → K.good Q' w' x
  small : K.bytes ≤ 1000
  sz : K.size ≤ 1000

section
variable {β : Type} {K : Knd β} {w w' : World} {B : Nat} {v : Value} {xs : List β}
/-- a list that this call made -/
structure Gro (K : Knd β) (w : World) (B : Nat) (v : Value) (xs : List β) : Prop where
  own : w.ownsRow B K.ty K.size v xs.length (xs.flatMap K.cells)
  all : ∀ x ∈ xs, K.good (fun g => B ≤ g ∧ v.ownBlock ≠ some g) w x
theorem Gro.nil (K : Knd β) (w : World) (B : Nat) : Gro K w B (.slice none 0 0) [] := ⟨World.ownsRow_nil _ _ _ _, fun x h => by cases h⟩
theorem own_lt (h : w.ownsRow B K.ty K.size v xs.length (xs.flatMap K.cells)) {k : Nat} (hk : v.ownBlock = some k) : k < w.heap.size ∧ B ≤ k := by
  rcases h.2 with ⟨rfl, _⟩ | ⟨g, cap, cur, rfl, h1, h2, _⟩
  · cases hk
  · cases hk; exact ⟨hp_lt h2, h1⟩
theorem Gro.gb {b : Nat} {P : Program} (hK : K.Ok P) (h : Gro K w B v xs) (hg : w.grownBy w' (some b)) (hb : b < B) : Gro K w' B v xs := by
  refine ⟨h.own.kept hg ?_, fun x hx => hK.keep (fun g hQ hl => ⟨hg.block g hl (by simp; omega), hQ⟩) hg.size x (h.all x hx)⟩
  cases hv : v.ownBlock with
  | none => exact Or.inl rfl
  | some k => exact Or.inr (fun e => by have := (own_lt h.own hv).2; cases e; omega)
theorem Gro.below {P : Program} (hK : K.Ok P) (h : Gro K w B v xs) (hb : Below w.heap.size w w') : Gro K w' B v xs := by
  refine ⟨h.own.kept (below_gb hb none) ?_, fun x hx => hK.keep (fun g hQ hl => ⟨hb.block g hl, hQ⟩) hb.size x (h.all x hx)⟩
  cases hv : v.ownBlock with
  | none => exact Or.inl rfl
  | some k => exact Or.inr (fun e => by cases e)
theorem Gro.shape (h : Gro K w B v xs) : ∃ a c, v = .slice a xs.length c := by
  rcases h.own.2 with ⟨rfl, h0⟩ | ⟨g, cap, cur, rfl, _⟩
  · exact ⟨none, 0, by rw [h0]⟩
  · exact ⟨_, _, rfl⟩

/-- one more: the list as it was in w, the new one as it is in w1, in a row of its own at r -/
theorem app_gro {P : Program} (hK : K.Ok P) {ops : Array Oper} {rest : List Oper} {o : Oper} {a : Act} {Q : Exit → Act → World → Prop} (hgd : o.guard = none) (s x : Operand)
    (ho : o.op = .call { callee := .builtin .append, args := #[s, x], argTypes := #[K.sl, K.sl] })
    (hs : a.eval s = v) (h : Gro K w B v xs) (r c : Nat) (y : β) (hx : a.eval x = .slice (some ⟨r, 0, none⟩) 1 c)
    (hr : w.heap[r]? = some (.cells (K.cells y).toArray K.ty (0, 0))) (hy : K.good (fun g => B ≤ g ∧ v.ownBlock ≠ some g) w y) (hlen : xs.length ≤ 1000000) (hB : B ≤ w.heap.size)
    (hn : ∀ v' w', Gro K w' B v' (xs ++ [y]) → (∀ k, k < B → w'.heap[k]? = w.heap[k]?) → w.grownBy w' v.ownBlock → wpList P ops Q rest (a.put o.dst v') w') : wpList P ops Q (o :: rest) a w := by
  refine wpList_plain hgd fun K0 hK0 => ?_
  obtain ⟨i0, hi, hz0, hz1, hz2⟩ := info_parts hK.info
  have hl : (K.cells y).length = 1 * K.size := by rw [hK.len]; omega
  have hcl : ∀ j u, (K.cells y)[j]? = some u → w.cell? ((⟨r, 0, none⟩ : Addr).add j) = some u := fun j u hj => by
    rw [addr_add, cell_of_row _ _ _ _ _ _ hr]; simpa using hj
  have h1 := hK.one _ _ _ hy
  have hbb := hK.small
  have hb2 : (xs.length + 1) * K.bytes ≤ 140737488355328 := Nat.le_trans (Nat.mul_le_mul (by omega : xs.length + 1 ≤ 1000001) hbb) (by decide)
  have hsm : xs.length + 1 ≤ maxLen := by unfold maxLen; omega
  obtain ⟨v', w', hrun, ho1, hg1, _⟩ := run_append_own (P := P) w B K.sl o.type K.ty i0 K.zero K.size K.bytes hK.und hi hz0 hz1 hz2 hK.zs hK.pos v xs.length (xs.flatMap K.cells) h.own ⟨r, 0, none⟩ 1 c (K.cells y) hl hcl h1 hsm hb2 hB
  have hp := app_place (P := P) w B K.sl o.type K.ty i0 K.zero K.size K.bytes hK.und hi hz0 hz1 hz2 v xs.length (xs.flatMap K.cells) h.own ⟨r, 0, none⟩ 1 c (K.cells y) hl hcl h1 hsm hb2 v' w' hrun
  unfold Oper.wp
  simp [execOp, ho, resolve, invoke, builtin, hs, hx, hrun, Result.andThen]
  have kp : ∀ g, (B ≤ g ∧ v.ownBlock ≠ some g) → g < w.heap.size → w'.heap[g]? = w.heap[g]? ∧ (B ≤ g ∧ v'.ownBlock ≠ some g) := fun g hq hlt => by
    refine ⟨hg1.block g hlt (fun e => hq.2 e.symm), hq.1, ?_⟩
    rcases hp with e | e
    · rw [e]; exact hq.2
    · rw [e]; intro e2; cases e2; omega
  refine hK0 _ _ (hn v' w' ⟨?_, fun z hz => ?_⟩ (fun k hk => ?_) hg1)
  · rw [List.length_append, List.length_singleton, List.flatMap_append]
    simpa using ho1
  · rcases List.mem_append.1 hz with hz | hz
    · exact hK.keep kp hg1.size z (h.all z hz)
    · simp at hz; subst hz; exact hK.keep kp hg1.size z hy
  · refine hg1.block k (by omega) (fun e => ?_)
    have := (own_lt h.own e.symm).2
    omega
/-- a slice literal of one -/
theorem bs_one {P : Program} (hK : K.Ok P) {ops : Array Oper} {rest : List Oper} {o : Oper} {a : Act} {Q : Exit → Act → World → Prop} (hg : o.guard = none) (x : Operand) (ho : o.op = .buildSlice K.sl 1 #[(0, x)])
    (y : β) (hx : a.eval x = .agg (K.cells y).toArray) (g : Nat) (hg2 : w.heap.size = g)
    (h : wpList P ops Q rest (a.put o.dst (.slice (some ⟨g, 0, none⟩) 1 1)) (w.alloc (.cells (K.cells y).toArray K.ty))) : wpList P ops Q (o :: rest) a w := by
  subst hg2
  obtain ⟨i0, hi, hz0, hz1, hz2⟩ := info_parts hK.info
  have hl := hK.len y
  refine wpList_buildSlice hg K.sl K.ty 1 #[(0, x)] ho (K.cells y).toArray i0 _ hK.und hi hz0 (by have := hK.sz; rw [hz1]; omega) (by have := hK.pos; rw [hz1]; omega) ?_ h
  rw [hz1]
  have e : (#[(0, x)].map fun (i, x) => (i, a.eval x)).toList = (([Value.agg (K.cells y).toArray]).zipIdx 0).map fun x => (x.2, x.1) := by simp [hx]
  rw [e, Great.fill_whole (s := K.size) hK.pos [Value.agg (K.cells y).toArray] _ (by intro v hv; simp at hv; subst hv; simpa [Value.cells] using hl) (by simp [hK.zs])]
  simp [Value.cells]
theorem bs_oneW {P : Program} (hK : K.Ok P) {ops : Array Oper} {rest : List Oper} {o : Oper} {a : Act} {Q : Exit → Act → World → Prop} (hg : o.guard = none) (x : Operand) (ho : o.op = .buildSlice K.sl 1 #[(0, x)])
    (y : β) (hx : a.eval x = .agg (K.cells y).toArray) (g : Nat) (hg2 : w.heap.size = g) (w6 : World) (hw : w.alloc (.cells (K.cells y).toArray K.ty) = w6)
    (h : wpList P ops Q rest (a.put o.dst (.slice (some ⟨g, 0, none⟩) 1 1)) w6) : wpList P ops Q (o :: rest) a w := by
  subst hw
  exact bs_one hK hg x ho y hx g hg2 h
end

end Go.Proofs.YtjjajfipfeigiabDoor

/- Arguments in brackets (written by zargs.py). -/
namespace Go.Proofs.YtjjajfipfeigiabDoor
open Go.RowKit

/-- how much fuel was used, in memory -/
def usW (b : Nat) (w : World) : Nat := match w.cell? ⟨b, 5, none⟩ with
  | some (.int _ x) => x.toNat
  | _ => 0
theorem Sz.us {w : World} {b : Nat} {l : List UInt8} {fuel : Int} {i lv : Nat} {t : Tok} (h : Sz w b l fuel i lv t) : usW b w = usA i t := by
  unfold usW
  rw [h.pz.c5]
  simp
theorem us_le (i : Nat) (t : Tok) : i ≤ usA i t ∧ usA i t ≤ i + 1 := by unfold usA; split <;> omega

/-- one for a true -/
def bN : Value → Nat
  | .bool true => 1
  | _ => 0
theorem Pz.lows {w W W' : World} {b B : Nat} {l : List UInt8} {fuel : Int} {t0 t1 : Tok} {u0 u1 l0 l1 : Nat} (h0 : Pz w b l t0 fuel u0 l0) (hB : w.heap.size = B) (h : Pz W b l t1 fuel u1 l1) (hl : ∀ k, k < B → W'.heap[k]? = W.heap[k]?) (hs : W.heap.size ≤ W'.heap.size) : Pz W' b l t1 fuel u1 l1 := by
  have n0 := h0.lt
  have n1 := h0.tab.low.1
  have n2 := h0.tab.low.2
  have n3 := h0.low
  subst hB
  exact ⟨(hl b n0).trans h.blk, ⟨fun j v hv => by rw [World.cell?_of_block (hl _ n1)]; exact h.tab.signs j v hv, fun j v hv => by rw [World.cell?_of_block (hl _ n2)]; exact h.tab.keys j v hv, ⟨Nat.lt_of_lt_of_le h.tab.low.1 hs, Nat.lt_of_lt_of_le h.tab.low.2 hs⟩⟩,
    fun j v hv => by rw [World.cell?_of_block (hl _ n3)]; exact h.bin j v hv, Nat.lt_of_lt_of_le h.low hs⟩
theorem gb_low {w W W' : World} {b B : Nat} {row : Option Nat} (hB : w.heap.size = B) (h : w.grownBy W (some b)) (h2 : W.grownBy W' row) (hl : ∀ k, k < B → W'.heap[k]? = W.heap[k]?) : w.grownBy W' (some b) :=
  ⟨h2.os.trans h.os, h2.tape.trans h.tape, h2.output.trans h.output, Nat.le_trans h.size h2.size, fun k hk hr => (hl k (hB ▸ hk)).trans (h.block k hk hr)⟩

/-- expressions, as a kind of structs -/
def kE : Knd (Ex × Value) := ⟨49, 47, 10, 120, .agg zX, fun p => exC p.1 p.2, fun Q w p => ∃ d, ExS Q w d p.2 p.1.kids⟩
theorem kE_ok : kE.Ok Tryd.prog := by
  refine ⟨Tryd.infoExpr, Tryd.underlying47, rfl, by decide, fun x => rfl, fun Q w x h => ?_, fun hp hs x h => ?_, by decide, by decide⟩
  · obtain ⟨d, h⟩ := h
    exact exC_one _ _ h.cell
  · obtain ⟨d, h⟩ := h
    exact ⟨d, h.keep hp hs⟩
theorem max_all {α : Type} {p : α → Nat → Prop} (hp : ∀ a d d', d ≤ d' → p a d → p a d') : ∀ l : List α, (∀ a ∈ l, ∃ d, p a d) → ∃ d, ∀ a ∈ l, p a d
  | [], _ => ⟨0, fun a h => by cases h⟩
  | a :: l, h => by
    obtain ⟨d1, h1⟩ := h a (List.mem_cons_self ..)
    obtain ⟨d2, h2⟩ := max_all hp l (fun a ha => h a (List.mem_cons_of_mem _ ha))
    refine ⟨max d1 d2, fun c hc => ?_⟩
    rcases List.mem_cons.1 hc with rfl | hc
    · exact hp _ _ _ (Nat.le_max_left ..) h1
    · exact hp _ _ _ (Nat.le_max_right ..) (h2 c hc)
theorem flat_get {β : Type} (c : β → List Value) (n : Nat) (hn : ∀ x, (c x).length = n) : ∀ (xs : List β) (j : Nat) (x : β) (i : Nat), xs[j]? = some x → i < n → (xs.flatMap c)[n * j + i]? = (c x)[i]?
  | [], j, x, i, h, _ => by simp at h
  | y :: ys, 0, x, i, h, hi => by
    simp at h
    subst h
    rw [List.flatMap_cons, List.getElem?_append_left (by rw [hn]; omega)]
    simp
  | y :: ys, j + 1, x, i, h, hi => by
    rw [List.flatMap_cons, List.getElem?_append_right (by rw [hn, Nat.mul_succ]; omega), hn]
    have := flat_get c n hn ys j x i (by simpa using h) hi
    rw [show n * (j + 1) + i - n = n * j + i by rw [Nat.mul_succ]; omega]
    exact this
/-- a grown list of expressions is one -/
theorem Gro.exs {w : World} {B : Nat} {v : Value} {xs : List (Ex × Value)} (h : Gro kE w B v xs) : tL B w v (xs.map (·.1)) := by
  obtain ⟨d, hd⟩ := max_all (p := fun (x : Ex × Value) d => ExS (fun g => B ≤ g ∧ v.ownBlock ≠ some g) w d x.2 x.1.kids) (fun a d d' hl h => h.le hl) xs h.all
  refine ⟨d + 1, ?_⟩
  rcases h.own.2 with ⟨rfl, h0⟩ | ⟨g, cap, cur, rfl, h1, h2, h3, h4, h5, h6⟩
  · obtain rfl : xs = [] := List.length_eq_zero_iff.1 h0
    exact Or.inl ⟨rfl, none, 0, rfl⟩
  · refine Or.inr ⟨g, 0, cap, by rw [List.length_map], h1, hp_lt h2, fun j e he => ?_⟩
    rw [List.getElem?_map] at he
    obtain ⟨x, hx, rfl⟩ := Option.map_eq_some_iff.1 he
    refine ⟨x.2, fun i u hu => ?_, (hd x (List.mem_of_getElem? hx)).keep (fun g hq _ => ⟨rfl, hq.1⟩) (Nat.le_refl _)⟩
    have hi : i < 10 := by
      rcases Nat.lt_or_ge i 10 with h | h
      · exact h
      · rw [List.getElem?_eq_none (by rw [exC_length]; exact h)] at hu; cases hu
    have hf := flat_get (fun p : Ex × Value => exC p.1 p.2) 10 (fun _ => rfl) xs j x i hx hi
    have hu' : (xs.flatMap kE.cells)[10 * j + i]? = some u := hf.trans hu
    rw [← h6] at hu'
    rw [cell_of_row _ _ _ _ _ _ h2]
    rw [List.getElem?_take] at hu'
    split at hu'
    · simpa using hu'
    · cases hu'

section
variable {w w' : World} {b : Nat} {l : List UInt8} {fuel : Int} {i lv : Nat} {t : Tok}
theorem arg_look {x : Nat → Except Ft (Ex × Nat)} (hx : ∀ i f, lkP l fuel i = .error f → x i = .error f ∨ x i = .error outF) {m j : Nat} {ys : List Ex} {f : Ft} (hl : lkP l fuel j = .error f) (hm : argL (srcP l fuel) x m ys j ≠ .error outF) : aft l fuel (argL (srcP l fuel) x m ys j) = .error f := by
  cases m with
  | zero => exact absurd rfl hm
  | succ m =>
    rcases hx j f hl with q | q
    · simp only [argL, q, aft]
    · exact absurd (by simp only [argL, q]) hm
/-- what one item's reading must keep -/
def Reads (l : List UInt8) (fuel : Int) (b lv : Nat) (fn : Nat) (x : Nat → Except Ft (Ex × Nat)) : Prop :=
  (∀ (W : World) (i : Nat) (t : Tok), Sz W b l fuel i lv t → x i ≠ .error outF → Calls Tryd.prog fn #[.pointer (some ⟨b, 0, none⟩)] W (Out l fuel b lv (tE W.heap.size) W (aft l fuel (x i)))) ∧ (∀ i e j, x i = .ok (e, j) → i < j) ∧ ∀ i f, lkP l fuel i = .error f → x i = .error f ∨ x i = .error outF

set_option maxRecDepth 20000 in
set_option maxHeartbeats 2000000 in
theorem brackE_any {n : Nat} {x : Nat → Except Ft (Ex × Nat)} (hx : Reads l fuel b (lv + 1) 18 x) (hlv : lv ≤ 1000000000) (w : World) (h : Sz w b l fuel i lv t) (hout : argP (srcP l fuel) x n lv i ≠ .error outF) :
    Calls Tryd.prog 103 #[.pointer (some ⟨b, 0, none⟩), .func (.func 18) #[] #[]] w (Out l fuel b lv (tL w.heap.size) w (aft l fuel (argP (srcP l fuel) x n lv i))) := by
  obtain ⟨R, HR⟩ : ∃ R, Hid (argP (srcP l fuel) x n lv i = R) := ⟨_, rfl⟩
  rw [HR.out] at hout ⊢
  obtain ⟨B, HB⟩ : ∃ B, Hid (w.heap.size = B) := ⟨_, rfl⟩
  rw [HB.out]
  have HOUT := hid hout
  have HLK := hid h.lk
  have HX := hid hx
  have HO := hid (open_any [40] (by decide) hlv w h)
  have H0 := hid h
  have HLT := hid h.pz.lt
  rw [HB.out] at HLT
  clear h hout hx
  go_enter Tryd.func103, Tryd.ntmps103
  go_wp2_with fail
  refine HO.out.mono ?_
  intro e w3 hO
  obtain ⟨hg, ⟨f, h1, h2, rfl, h4⟩ | ⟨a, j, v, u, h1, rfl, h3, h4⟩⟩ := out_mono (lv' := lv) (T' := tL B) (r' := aft l fuel R) (gb_refl w (some b)) hO (fun f hf => Or.elim (ope_er hf) (fun ⟨q1, q2⟩ => by rw [← HR.out]; simp only [argP, openP, srcP, HLK.out, q1, if_false, aft, q2]) (fun hf2 => Or.elim hf2 (fun ⟨q1, q2, q3⟩ => by rw [← HR.out]; simp only [argP, openP, srcP, HLK.out, q1, q2, if_true, aft, q3]) (fun ⟨q1, q2, q3⟩ => by rw [← HR.out]; simp only [argP, openP, srcP, HLK.out, q1, if_true, eq_false q2, if_false, q3, aft])))
  · have H4 := hid h4
    clear h1 h2 h4 hg hO
    go_wp2_with fail
    exact ⟨rfl, H4.out⟩
  · have ho := hO.1
    clear hO
    obtain ⟨k1, k2, rfl, rfl⟩ := ope_in h1
    subst h3
    have HZ := hid h4
    have HG3 := hid hg
    have HK1 := hid k1
    have HK2 := hid k2
    clear h1 h4 hg ho k1 k2
    have hb4 := below_walk w3 (.cells #[.string (mk [41])] 9)
    have HI := hid (is_any [[41]] _ HZ.out.ok _ (HZ.out.below hb4).pz (strs_1 w3 [41]) (by simp))
    have ht : (ttP l u.2.1 u.2.2 ∈ [[41]]) = (txA l u = [41]) := by simp [txA]
    simp only [ht] at HI
    have HZ4 := hid (HZ.out.below hb4)
    have HG4 := hid (gb_trans HG3.out (below_gb hb4 (some b)))
    clear hb4 ht
    obtain ⟨bo, HBO⟩ : ∃ bo, Hid (decide (txA l u = [41]) = bo) := ⟨_, rfl⟩
    rw [HBO.out] at HI
    go_wp2_with (first
      | (go_at_call 25; refine HI.out.mono ?_; rintro e w' ⟨rfl, n2, rfl⟩))
    go_loopw [5, 6] (fun v5 v6 wr => ∃ (m j : Nat) (u : Tok) (xs : List (Ex × Value)) (mo : Bool), v6 = .bool mo ∧ xs.length ≤ j ∧ Hid (Gro kE wr B v5 xs) ∧ Hid (Sz wr b l fuel j (lv + 1) u) ∧ Hid (w.grownBy wr (some b)) ∧ Hid (R = if mo = true then argL (srcP l fuel) x m (xs.map (·.1)) j else match takeP (srcP l fuel) [41] j with | .error f => .error f | .ok q => .ok (xs.map (·.1), q))) (fun _ v6 wr => 2 * (65540 - usW b wr) + bN v6)
    case atStart => exact ⟨n, i + 1, u, [], !bo, rfl, by simp, hid (Gro.nil _ _ _), hid (HZ4.out.drewN n2), hid (gbz_drewN HG4.out n2), hid (by
      rw [← HR.out]
      cases hbo : bo with
      | true =>
        have q : txA l u = [41] := of_decide_eq_true (HBO.out.trans hbo)
        simp only [argP, openP, srcP, HLK.out, HK1.out, if_true, eq_false HK2.out, if_false, HZ.out.lk, q, takeP, List.map_nil, Bool.not_true, Bool.false_eq_true]
      | false =>
        have q : ¬ txA l u = [41] := of_decide_eq_false (HBO.out.trans hbo)
        simp only [argP, openP, srcP, HLK.out, HK1.out, if_true, eq_false HK2.out, if_false, HZ.out.lk, eq_false q, List.map_nil, Bool.not_false])⟩
    case round =>
      clear HI HBO HZ HZ4 HG3 HG4 HK1 HK2 HO
      obtain ⟨m, j, u2, xs, mo, rfl, hj, HGR, HZ, HG, HEQ⟩ := hrel
      have hj6 := (lk_lt HZ.out.lk).1
      have hz5 := HZ.out.pz.lt
      obtain ⟨av, cv, hv5⟩ := HGR.out.shape
      subst hv5
      cases mo with
      | true =>
        have HEQ1 : Hid (R = argL (srcP l fuel) x m (xs.map (·.1)) j) := hid (by have := HEQ.out; simpa using this)
        clear HEQ
        have hxo : x j ≠ .error outF := fun e => HOUT.out (by rw [HEQ1.out]; cases m with | zero => rfl | succ m => simp only [argL, e])
        obtain ⟨m, rfl⟩ : ∃ k, m = k + 1 := by
          cases m with
          | zero => exact absurd HEQ1.out HOUT.out
          | succ m => exact ⟨m, rfl⟩
        have HC := hid (HX.out.1 wr j u2 HZ.out hxo)
        have HUS := hid HZ.out.us
        clear hxo
        obtain ⟨N, HN⟩ : ∃ N, Hid (xs.length = N) := ⟨_, rfl⟩
        rw [HN.out] at hj HGR ⊢
        go_wp2_with fail
        refine HC.out.mono ?_
        intro e w4 hO
        obtain ⟨hg, ⟨f, h1, h2, rfl, h4⟩ | ⟨a, j2, v, u2b, h1, rfl, h3, h4⟩⟩ := out_mono (lv' := lv) (T' := tL B) (r' := aft l fuel R) HG.out hO (fun f hf => by rw [HEQ1.out]; exact Or.elim (aft_er hf) (fun q => by simp only [argL, q, aft]) (fun ⟨_, _, q, ql⟩ => by simp only [argL, srcP, q, ql, aft]))
        · have H4 := hid h4
          clear h1 h2 h4 hg hO
          go_wp2_with fail
          exact ⟨rfl, H4.out⟩
        · have ho := hO.1
          clear hO
          obtain ⟨kv, dd, rfl, hex⟩ := h3
          have HA := hid (aft_in h1)
          have hjj := HX.out.2.1 _ _ _ HA.out
          have HZ4 := hid h4
          have HG4 := hid hg
          have hgr := HGR.out.gb kE_ok ho HLT.out
          have hb5 := below_walk w4 (.cells (kE.cells (a, kv)).toArray 49)
          have HGR5 := hid (hgr.below kE_ok hb5)
          have HZ5 := hid (HZ4.out.below hb5)
          have HG5 := hid (gb_trans HG4.out (below_gb hb5 (some b)))
          have HR5 := hid (hp_new w4 (.cells (kE.cells (a, kv)).toArray 49))
          have HY5 : Hid (kE.good (fun g => B ≤ g ∧ (Value.slice av N cv).ownBlock ≠ some g) (w4.alloc (.cells (kE.cells (a, kv)).toArray 49)) (a, kv)) := hid ⟨dd, (hex.below hb5).keep (fun g hq _ => ⟨rfl, by
            have h8 := HG.out.size
            rw [HB.out] at h8
            refine ⟨by omega, fun e => ?_⟩
            have := (own_lt HGR.out.own e).1
            omega⟩) (Nat.le_refl _)⟩
          have HS5 : Hid (B ≤ (w4.alloc (.cells (kE.cells (a, kv)).toArray 49)).heap.size) := hid (by have := HG5.out.size; rw [HB.out] at this; exact this)
          have hN6 : xs.length ≤ 1000000 := by rw [HN.out]; omega
          clear h1 h4 hg ho hex hgr hb5 HGR HC
          go_upto_region 5 with (first
            | (refine bs_one kE_ok rfl (.tmp 19) rfl (a, kv) rfl _ rfl ?_)
            | (refine app_gro kE_ok rfl (.tmp 16) (.tmp 20) rfl rfl HGR5.out _ 1 (a, kv) rfl HR5.out HY5.out hN6 HS5.out ?_; intro v6 w6 hg6 hl6 hw6))
          have HGR6 := hid hg6
          have HZ6 : Hid (Sz w6 b l fuel j2 (lv + 1) u2b) := hid ⟨HZ5.out.lk, H0.out.pz.lows HB.out HZ5.out.pz hl6 hw6.size⟩
          have HG6 := hid (gb_low HB.out HG5.out hw6 hl6)
          obtain ⟨av6, cv6, hv6⟩ := hg6.shape
          subst hv6
          rw [List.length_append, List.length_singleton, HN.out] at HGR6 ⊢
          clear hg6 hl6 hw6 HGR5 HZ5 HG5 HR5 HY5 HS5
          have HK := hid (skip_any [44] (by decide) w6 HZ6.out)
          go_wp2_with fail
          refine HK.out.mono ?_
          intro e w7 hO
          obtain ⟨hgc, ⟨f, h1, h2, rfl, h4⟩ | ⟨ac, j3, vc, u3, h1c, rfl, h3c, h4c⟩⟩ := out_mono (lv' := lv) (T' := tL B) (r' := aft l fuel R) HG6.out hO (fun f hf => by obtain ⟨q1, q2⟩ := skp_er HZ6.out.lk hf; rw [HEQ1.out]; have hm : R ≠ .error outF := HOUT.out; rw [HEQ1.out] at hm; simp only [argL, srcP, HA.out, HZ4.out.lk, q1, if_true] at hm ⊢; exact arg_look HX.out.2.2 q2 hm)
          · have H4 := hid h4
            clear h1 h2 h4 hgc hO
            go_wp2_with fail
            exact ⟨rfl, H4.out⟩
          · have hoc := hO.1
            clear hO
            subst h3c
            have HZ7 := hid h4c
            have HG7 := hid hgc
            have HGR7 := hid (HGR6.out.gb kE_ok hoc HLT.out)
            have HUS7 := hid h4c.us
            rcases skp_in h1c with ⟨q1, rfl, rfl⟩ | ⟨q1, rfl, rfl⟩
            · have HQ := hid q1
              clear h1c h4c hgc hoc q1
              go_wp2
              refine ⟨⟨m, j2 + 1, u3, xs ++ [(a, kv)], true, rfl, by rw [List.length_append, List.length_singleton, HN.out]; omega, HGR7, HZ7, HG7, hid ?_⟩, ?_⟩
              · rw [HEQ1.out]
                simp only [argL, srcP, HA.out, HZ4.out.lk, HQ.out, if_true, List.map_append, List.map_cons, List.map_nil]
              · rw [HUS7.out, HUS.out]
                have h7 := us_le (j2 + 1) u3
                have h8 := us_le j u2
                have h9 := (lk_lt HZ7.out.lk).1
                simp only [bN]
                omega
            · have HQ := hid q1
              obtain rfl : u3 = u2b := by have := h4c.lk; rw [HZ4.out.lk] at this; exact (Except.ok.inj this).symm
              clear h1c h4c hgc hoc q1
              go_wp2
              refine ⟨⟨m, j3, u3, xs ++ [(a, kv)], false, rfl, by rw [List.length_append, List.length_singleton, HN.out]; omega, HGR7, HZ7, HG7, hid ?_⟩, ?_⟩
              · rw [HEQ1.out]
                by_cases q41 : txA l u3 = [41]
                · simp only [argL, srcP, HA.out, HZ4.out.lk, List.map_append, List.map_cons, List.map_nil, takeP, q41]
                  rfl
                · simp only [argL, srcP, HA.out, HZ4.out.lk, eq_false HQ.out, if_false, List.map_append, List.map_cons, List.map_nil, takeP, eq_false q41, Bool.false_eq_true]
              · rw [HUS7.out, HUS.out]
                have h7 := us_le j3 u3
                have h8 := us_le j u2
                have h9 := (lk_lt HZ7.out.lk).1
                simp only [bN]
                omega
      | false =>
        have HEQ1 : Hid (R = match takeP (srcP l fuel) [41] j with | .error f => .error f | .ok q => .ok (xs.map (·.1), q)) := hid (by have := HEQ.out; simpa using this)
        clear HEQ
        have HK := hid (shut_any [41] (by decide) hlv wr HZ.out)
        go_wp2_with fail
        refine HK.out.mono ?_
        intro e w4 hO
        obtain ⟨hg, ⟨f, h1, h2, rfl, h4⟩ | ⟨a, j2, v, u3, h1, rfl, h3, h4⟩⟩ := out_mono (lv' := lv) (T' := tL B) (r' := aft l fuel R) HG.out hO (fun f hf => by rw [HEQ1.out]; rcases aft_er hf with q | ⟨_, _, q, ql⟩; (by_cases q41 : txA l u2 = [41]); (simp only [takP, q41, if_true] at q; cases q); (simp only [takP, eq_false q41, if_false] at q; simp only [takeP, srcP, HZ.out.lk, eq_false q41, if_false, aft]; cases q; rfl); (by_cases q41 : txA l u2 = [41]); (simp only [takP, q41, if_true] at q; cases q; simp only [takeP, srcP, HZ.out.lk, q41, if_true, aft, ql]); (simp only [takP, eq_false q41, if_false] at q; cases q))
        · have H4 := hid h4
          clear h1 h2 h4 hg hO
          go_wp2_with fail
          exact ⟨rfl, H4.out⟩
        · have ho := hO.1
          clear hO
          subst h3
          have HA := hid (aft_in h1)
          have HZ4 := hid h4
          have HG4 := hid hg
          have HGR4 := hid (HGR.out.gb kE_ok ho HLT.out)
          have HTK : Hid (txA l u2 = [41] ∧ j2 = j + 1) := hid (by
            have := HA.out
            unfold takP at this
            split at this
            · rename_i he; split at he <;> cases this
            · rename_i he
              cases this
              split at he
              · rename_i hq; cases he; exact ⟨hq, rfl⟩
              · cases he)
          clear h1 h4 hg ho
          go_wp2
          go_ret
          exact out_ok (by rw [HEQ1.out]; simp only [takeP, srcP, HZ.out.lk, HTK.out.1, if_true]; rw [HTK.out.2] at HZ4; exact aft_ok HZ4.out.lk) HG4.out HGR4.out.exs (by rw [HTK.out.2] at HZ4; exact HZ4.out)
end

end Go.Proofs.YtjjajfipfeigiabDoor

/- Operators. -/
namespace Go.Proofs.YtjjajfipfeigiabDoor
open Go.RowKit

theorem find_at {s : List UInt8} : ∀ (T : List (List UInt8)) (k : Nat), k < T.length → T.getD k [] = s → (∀ j, j < k → ¬ s = T.getD j []) → T.findIdx (fun x => x == s) = k
  | [], k, h, _, _ => by simp at h
  | x :: T, 0, _, h, _ => by
    have : x = s := by simpa using h
    simp [List.findIdx_cons, this]
  | x :: T, k + 1, hk, h, hn => by
    have h0 : ¬ s = x := by simpa using hn 0 (by omega)
    have h1 : (x == s) = false := by simpa using fun e => h0 e.symm
    rw [List.findIdx_cons, h1]
    simp only [cond_false, Nat.add_right_cancel_iff]
    exact find_at T k (by simpa using hk) (by simpa using h) (fun j hj => by simpa using hn (j + 1) (by omega))

section
variable {w w' : World} {b : Nat} {l : List UInt8} {fuel : Int} {i lv : Nat} {t : Tok}
set_option maxHeartbeats 2000000 in
theorem binop_any (s : List UInt8) (hs : s ∈ opT) (w : World) (hT : w.rangeAt 0 0 (strV opT)) :
    Calls Tryd.prog 55 #[.string (mk s)] w fun e w' => e = .returned (.int .i64 (opN s : Int)) ∧ w' = w := by
  have HT := hid hT
  have HS := hid hs
  unfold opN
  clear hT hs
  obtain ⟨T, HK⟩ : ∃ T, Hid (opT = T) := ⟨_, rfl⟩
  have HL : Hid (T.length = 15) := by rw [← HK.out]; rfl
  rw [HK.out] at HT HS ⊢
  go_enter Tryd.func55, Tryd.ntmps55
  go_wp2_with (refine wpList_load_mid rfl 128 (.global 0) rfl 0 0 rfl (strV T) (.array 15 9) (fun j v hv => HT.out j v hv) Tryd.underlying128 rfl (by rw [strV_length, HL.out]; kernel_rfl) ?_)
  go_loop [6] (fun i => ∃ k : Nat, i = .int .i64 k ∧ k ≤ 15 ∧ Nay T s k) (fun i => 15 - (intOf i).toNat)
  case atStart => exact ⟨0, rfl, by omega, fun j hj => by omega⟩
  case round =>
    obtain ⟨k, rfl, hk, HN⟩ := hrel
    have HN : Hid (Nay T s k) := HN
    by_cases hlt : k < 15
    · have q1 : (k : Int) < 15 := by omega
      have i1 := fun W => index_tab W 128 15 Tryd.underlying128 T HL.out k hlt
      obtain ⟨x, HX⟩ : ∃ x, Hid (T.getD k [] = x) := ⟨_, rfl⟩
      rw [HX.out] at i1
      by_cases he : x = s
      · have e1 := eq_mk he
        have HE := hid he
        clear he
        go_wp2
        go_ret
        exact ⟨by rw [find_at T k (by rw [HL.out]; exact hlt) (HX.out.trans HE.out) HN.out]; rfl, rfl⟩
      · have e1 := ne_mk he
        have HE := hid he
        clear he
        go_wp2
        exact ⟨⟨k + 1, by simp, by omega, HN.out.more HX.out (fun e => HE.out e.symm)⟩, by simp [intOf]; omega⟩
    · have q1 : ¬ (k : Int) < 15 := by omega
      have := HN.out.all (by rw [HL.out]; omega)
      exact absurd HS.out (of_decide_eq_false this)

set_option maxHeartbeats 2000000 in
theorem unop_any (s : List UInt8) (w : World) :
    Calls Tryd.prog 104 #[.string (mk s)] w fun e w' => e = .returned (.int .i64 (unN s : Int)) ∧ w' = w := by
  unfold unN
  by_cases h1 : s = [45]
  · have h2 : ¬ s = [33] := by rw [h1]; decide
    have h3 : ¬ s = [35] := by rw [h1]; decide
    have f0 : ((mk s).toList == [45]) = true := by rw [tl_mk]; simp [*]
    have E : Hid ((if s = [45] then 15 else if s = [33] then 16 else if s = [35] then 17 else 0) = 15) := hid (by simp [*])
    rw [E.out]
    clear h1 h2 h3
    go_enter Tryd.func104, Tryd.ntmps104
    go_wp2
    go_ret
    exact ⟨rfl, rfl⟩
  · by_cases h2 : s = [33]
    · have h3 : ¬ s = [35] := by rw [h2]; decide
      have f0 : ((mk s).toList == [45]) = false := by rw [tl_mk]; simp [*]
      have f1 : ((mk s).toList == [33]) = true := by rw [tl_mk]; simp [*]
      have E : Hid ((if s = [45] then 15 else if s = [33] then 16 else if s = [35] then 17 else 0) = 16) := hid (by simp [*])
      rw [E.out]
      clear h1 h2 h3
      go_enter Tryd.func104, Tryd.ntmps104
      go_wp2
      go_ret
      exact ⟨rfl, rfl⟩
    · by_cases h3 : s = [35]
      · skip
        have f0 : ((mk s).toList == [45]) = false := by rw [tl_mk]; simp [*]
        have f1 : ((mk s).toList == [33]) = false := by rw [tl_mk]; simp [*]
        have f2 : ((mk s).toList == [35]) = true := by rw [tl_mk]; simp [*]
        have E : Hid ((if s = [45] then 15 else if s = [33] then 16 else if s = [35] then 17 else 0) = 17) := hid (by simp [*])
        rw [E.out]
        clear h1 h2 h3
        go_enter Tryd.func104, Tryd.ntmps104
        go_wp2
        go_ret
        exact ⟨rfl, rfl⟩
      · skip
        have f0 : ((mk s).toList == [45]) = false := by rw [tl_mk]; simp [*]
        have f1 : ((mk s).toList == [33]) = false := by rw [tl_mk]; simp [*]
        have f2 : ((mk s).toList == [35]) = false := by rw [tl_mk]; simp [*]
        have E : Hid ((if s = [45] then 15 else if s = [33] then 16 else if s = [35] then 17 else 0) = 0) := hid (by simp [*])
        rw [E.out]
        clear h1 h2 h3
        go_enter Tryd.func104, Tryd.ntmps104
        go_wp2
        go_ret
        exact ⟨rfl, rfl⟩
end

end Go.Proofs.YtjjajfipfeigiabDoor

/- A region that draws its order, a call in it that may give up: pure steps first, then a load and the call in either order, then the rest in a row. -/
namespace Go.Proofs.YtjjajfipfeigiabDoor
open Go.RowKit
section
variable {P : Program} {ops : Array Oper} {Q : Exit → Act → World → Prop} {fuel : Nat} {listed : Array Bool} {a : Act} {w : World}
theorem wanted_plain {o : Oper} (h : o.guard = none) : Region.wanted o (yielded ops a.tmps) = true := by simp [Region.wanted, h]
theorem any_yieldQ (i : Nat) (oi : Oper) (v : Value) (hi : ops[i]? = some oi) (hg : oi.guard = none)
    (hs : Region.noSelect ops = true) (hf : Region.free .any ops listed i = true) (hr : (Region.ready .any ops listed).contains i = true)
    (hQ : ∀ c a w, Q (.panic c) (a.put oi.dst v) w → Q (.panic c) a w) (hy : ∀ w, (execOp a.eval oi).run P w = .ok (.value v) w)
    (h : wpAny P .any ops Q fuel (listed.setIfInBounds i true) (a.put oi.dst v) w) : wpAny P .any ops Q (fuel + 1) listed a w :=
  wpAny_take hi hs hf hr hQ (.inl ⟨wanted_plain hg, hy⟩) h
theorem op_ld {K : Act → World → Prop} {i : Nat} {o : Oper} (hi : ops[i]? = some o) (hg : o.guard = none) (ty : TypeId) (x : Operand) (ho : o.op = .load ty x)
    (b off : Nat) (hx : a.eval x = .pointer (some ⟨b, off, none⟩)) (cs : List Value) (d : TypeDesc) (hc : w.rangeAt b off cs) (hu : P.underlying ty = some d) (hd : d.isRow = true) (hz : (P.info? ty).map (·.size) = some cs.length)
    (h : K (a.put o.dst (.agg cs.toArray)) w) : wpOp P ops Q i K a w := by
  unfold wpOp
  simp only [hi, wanted_plain hg, if_true]
  exact Or.inl (wp_load_mid ty x ho b off hx cs d hc hu hd hz h)
/-- two may come up -/
theorem any_two (i j : Nat) (hr : Region.ready .any ops listed = [i, j]) (h1 : wpOp P ops Q i (wpAny P .any ops Q fuel (listed.setIfInBounds i true)) a w) (h2 : wpOp P ops Q j (wpAny P .any ops Q fuel (listed.setIfInBounds j true)) a w) : wpAny P .any ops Q (fuel + 1) listed a w := by
  refine wpAny_all hr (by simp) fun n hn => ?_
  simp only [List.mem_cons, List.not_mem_nil, or_false] at hn
  rcases hn with rfl | rfl
  · exact h1
  · exact h2
theorem any_oneQ (i : Nat) (hr : Region.ready .any ops listed = [i]) (h1 : wpOp P ops Q i (wpAny P .any ops Q fuel (listed.setIfInBounds i true)) a w) : wpAny P .any ops Q (fuel + 1) listed a w := by
  refine wpAny_all hr (by simp) fun n hn => ?_
  simp only [List.mem_cons, List.not_mem_nil, or_false] at hn
  subst hn
  exact h1
theorem op_go {i : Nat} {o : Oper} {W : Act → World → Prop} (ho : ops[i]? = some o)
    (h : ∀ K' : Act → World → Prop, Shut (∀ a w, W a w → K' a w) → if Region.wanted o (yielded ops a.tmps) = true then Oper.wp P o a w K' Q else K' (a.put o.dst undef) w) : wpOp P ops Q i W a w :=
  wpOp_step ho (fun K' hK => h K' hK)
theorem any_tailQ {L : List Oper} (k : Nat) (hf : fuel = L.length - k) (hs : Region.seqB .any L.toArray fuel k listed = true)
    (h : wpList P L.toArray Q (L.drop k) a w) : wpAny P .any L.toArray Q fuel listed a w := by
  have := wpAny_of_seq (md := .any) (Q' := Q) (L.drop k) k listed a w (fun j => by simp [List.getElem?_drop]) (by simpa [hf] using hs) h
  simpa [hf] using this
end
/-- a slice literal of two -/
theorem bs_two {β : Type} {K : Knd β} {P : Program} (hK : K.Ok P) {w : World} {ops : Array Oper} {rest : List Oper} {o : Oper} {a : Act} {Q : Exit → Act → World → Prop} (hg : o.guard = none) (x z : Operand) (ho : o.op = .buildSlice K.sl 2 #[(0, x), (1, z)])
    (y1 y2 : β) (hx : a.eval x = .agg (K.cells y1).toArray) (hx2 : a.eval z = .agg (K.cells y2).toArray)
    (h : wpList P ops Q rest (a.put o.dst (.slice (some ⟨w.heap.size, 0, none⟩) 2 2)) (w.alloc (.cells ([y1, y2].flatMap K.cells).toArray K.ty))) : wpList P ops Q (o :: rest) a w := by
  obtain ⟨i0, hi, hz0, hz1, hz2⟩ := info_parts hK.info
  have hl := hK.len
  refine wpList_buildSlice hg K.sl K.ty 2 #[(0, x), (1, z)] ho ([y1, y2].flatMap K.cells).toArray i0 _ hK.und hi hz0 (by have := hK.sz; rw [hz1]; omega) (by have := hK.pos; rw [hz1]; omega) ?_ h
  rw [hz1]
  have e : (#[(0, x), (1, z)].map fun (i, x) => (i, a.eval x)).toList = (([Value.agg (K.cells y1).toArray, Value.agg (K.cells y2).toArray]).zipIdx 0).map fun x => (x.2, x.1) := by simp [hx, hx2]
  rw [e, Great.fill_whole (s := K.size) hK.pos [Value.agg (K.cells y1).toArray, Value.agg (K.cells y2).toArray] _ (by intro v hv; simp at hv; rcases hv with rfl | rfl; (simpa [Value.cells] using hl y1); (simpa [Value.cells] using hl y2)) (by simp [hK.zs])]
  simp [Value.cells]

end Go.Proofs.YtjjajfipfeigiabDoor

/- Operands with operators between (written by zline.py). -/
namespace Go.Proofs.YtjjajfipfeigiabDoor
open Go.RowKit

/-- a line of the grammar: x reads an operand -/
def lineP (S : Sup) (x : Nat → Except Ft (Ex × Nat)) (k n i : Nat) : Except Ft (Ex × Nat) := match x i with
  | .error f => .error f
  | .ok (e, j) => binL S x k n e j
theorem drewN_add2 (w : World) (n m : Nat) : (w.drewN n).drewN m = w.drewN (n + m) := by
  simp [World.drewN, Nat.add_assoc]
theorem sgn_all : ∀ k, k < 5 → ∀ s ∈ sgnL k, s ∈ opT := by decide
theorem sgn_op (k : Nat) (hk : k < 5) {s : List UInt8} (h : s ∈ sgnL k) : s ∈ opT := sgn_all k hk s h

section
variable {w w' : World} {b : Nat} {l : List UInt8} {fuel : Int} {i lv : Nat} {t : Tok}
theorem exs_two (w6 : World) (e a3 : Ex) (kv kv3 : Value) {B g9 d d3 : Nat} (h1 : ExS (fun g => B < g ∧ g ≠ g9) w6 d kv e.kids) (h2 : ExS (fun g => B < g ∧ g ≠ g9) w6 d3 kv3 a3.kids) (hB : B < w6.heap.size) (hg : g9 < w6.heap.size) :
    ExS (fun g => B < g ∧ g ≠ g9) (w6.alloc (.cells ([(e, kv), (a3, kv3)].flatMap kE.cells).toArray 49)) (max d d3 + 1) (.slice (some ⟨w6.heap.size, 0, none⟩) 2 2) [e, a3] := by
  have hb := below_walk w6 (.cells ([(e, kv), (a3, kv3)].flatMap kE.cells).toArray 49)
  have hn := hp_new w6 (.cells ([(e, kv), (a3, kv3)].flatMap kE.cells).toArray 49)
  refine Or.inr ⟨w6.heap.size, 0, 2, rfl, ⟨hB, by omega⟩, by rw [hp_size]; omega, fun j y hy => ?_⟩
  have k1 := (h1.keep (fun g hq hl => ⟨hb.block g hl, hq⟩) hb.size).le (Nat.le_max_left d d3)
  have k2 := (h2.keep (fun g hq hl => ⟨hb.block g hl, hq⟩) hb.size).le (Nat.le_max_right d d3)
  have hf := flat_get (fun p : Ex × Value => exC p.1 p.2) 10 (fun _ => rfl) [(e, kv), (a3, kv3)]
  match j, hy with
  | 0, hy =>
    cases hy
    exact ⟨kv, fun i u hu => by
      have hi : i < 10 := by
        rcases Nat.lt_or_ge i 10 with h | h
        · exact h
        · rw [List.getElem?_eq_none (by rw [exC_length]; exact h)] at hu; cases hu
      rw [cell_of_row _ _ _ _ _ _ hn]
      have := (hf 0 (e, kv) i rfl hi).trans hu
      simpa [kE] using this, k1⟩
  | 1, hy =>
    cases hy
    exact ⟨kv3, fun i u hu => by
      have hi : i < 10 := by
        rcases Nat.lt_or_ge i 10 with h | h
        · exact h
        · rw [List.getElem?_eq_none (by rw [exC_length]; exact h)] at hu; cases hu
      rw [cell_of_row _ _ _ _ _ _ hn]
      have := (hf 1 (a3, kv3) i rfl hi).trans hu
      simpa [kE] using this, k2⟩
theorem bin_look {x : Nat → Except Ft (Ex × Nat)} {k m j : Nat} {e : Ex} {f : Ft} (hl : lkP l fuel j = .error f) (hm : binL (srcP l fuel) x k m e j ≠ .error outF) : aft l fuel (binL (srcP l fuel) x k m e j) = .error f := by
  cases m with
  | zero => exact absurd rfl hm
  | succ m => simp only [binL, srcP, hl, aft]

end

end Go.Proofs.YtjjajfipfeigiabDoor
