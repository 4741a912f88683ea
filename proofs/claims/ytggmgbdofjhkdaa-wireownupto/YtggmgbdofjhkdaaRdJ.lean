/- list over a reader that NewReader gave, and the call List. -/
import Derived.Test.YtggmgbdofjhkdaaRdI
namespace Go.Proofs.Ytggmgbdofjhkdaa
open Go.RowKit

/-- so many texts, each of at most so many bytes: the error, the texts, how many bytes were passed -/
def lstR : Nat → List UInt8 → Nat → Nat × List (List UInt8) × Nat
  | 0, _, _ => (0, [], 0)
  | n + 1, l, each => if (txt l each).1 ≠ 0 then ((txt l each).1, [], 0) else if (lstR n (l.drop (txt l each).2.2) each).1 ≠ 0 then ((lstR n (l.drop (txt l each).2.2) each).1, [], (txt l each).2.2 + (lstR n (l.drop (txt l each).2.2) each).2.2) else (0, (txt l each).2.1 :: (lstR n (l.drop (txt l each).2.2) each).2.1, (txt l each).2.2 + (lstR n (l.drop (txt l each).2.2) each).2.2)
theorem lstR_succ (n : Nat) (l : List UInt8) (each : Nat) : lstR (n + 1) l each = if (txt l each).1 ≠ 0 then ((txt l each).1, [], 0) else if (lstR n (l.drop (txt l each).2.2) each).1 ≠ 0 then ((lstR n (l.drop (txt l each).2.2) each).1, [], (txt l each).2.2 + (lstR n (l.drop (txt l each).2.2) each).2.2) else (0, (txt l each).2.1 :: (lstR n (l.drop (txt l each).2.2) each).2.1, (txt l each).2.2 + (lstR n (l.drop (txt l each).2.2) each).2.2) := rfl

theorem lstR_err : ∀ (n : Nat) (l : List UInt8) (each : Nat), (lstR n l each).1 ≠ 0 → (lstR n l each).2.1 = []
  | 0, _, _, h => absurd rfl h
  | n + 1, l, each, h => by
    rw [lstR_succ] at h ⊢
    split
    · rfl
    · split
      · rfl
      · rename_i h1 h2
        rw [if_neg h1, if_neg h2] at h
        exact absurd rfl h

/-- what is left to be read of a list: the state of the loop -/
structure Going (R : Nat × List (List UInt8) × Nat) (bs : List UInt8) (each s a i m : Nat) (ts : List (List UInt8)) : Prop where
  er : R.1 = (lstR m (bs.drop a) each).1
  txs : (lstR m (bs.drop a) each).1 = 0 → R.2.1 = ts ++ (lstR m (bs.drop a) each).2.1
  non : (lstR m (bs.drop a) each).1 ≠ 0 → R.2.1 = []
  len : R.2.2 = (a - s) + (lstR m (bs.drop a) each).2.2
  le : s ≤ a ∧ a ≤ bs.length
  cnt : ts.length = i ∧ i ≤ a - s

theorem txt_pos {l : List UInt8} {most k : Nat} {s : List UInt8} (h : txt l most = (0, s, k)) : 0 < k := by
  unfold txt at h
  split at h
  · rename_i h1
    simp only [Prod.mk.injEq] at h
    exact absurd h.1 h1
  · rename_i h1
    split at h
    · simp at h
    · simp only [Prod.mk.injEq, true_and] at h
      have h2 : upTo l most 3 = (0, (upTo l most 3).2.1, (upTo l most 3).2.2) := by
        have : (upTo l most 3).1 = 0 := Classical.byContradiction fun e => h1 e
        rw [← this]
      have := upTo_pos (by omega) h2
      omega

theorem Going.stop {R : Nat × List (List UInt8) × Nat} {bs : List UInt8} {each s a i m er k : Nat} {ts : List (List UInt8)} {x : List UInt8} (h : Going R bs each s a i (m + 1) ts) (ht : txt (bs.drop a) each = (er, x, k)) (he : er ≠ 0) :
    R.1 = er ∧ R.2.1 = [] ∧ R.2.2 = a - s := by
  have e := lstR_succ m (bs.drop a) each
  rw [ht] at e
  simp only at e
  rw [if_pos he] at e
  have h1 := h.er
  have h2 := h.non
  have h3 := h.len
  rw [e] at h1 h2 h3
  exact ⟨h1, h2 he, by simpa using h3⟩

theorem Going.step {R : Nat × List (List UInt8) × Nat} {bs : List UInt8} {each s a i m k : Nat} {ts : List (List UInt8)} {x : List UInt8} (h : Going R bs each s a i (m + 1) ts) (ht : txt (bs.drop a) each = (0, x, k)) :
    Going R bs each s (a + k) (i + 1) m (ts ++ [x]) := by
  have e := lstR_succ m (bs.drop a) each
  rw [ht] at e
  simp only at e
  rw [if_neg (by simp)] at e
  have hd : (bs.drop a).drop k = bs.drop (a + k) := by simp
  rw [hd] at e
  have h1 := h.er
  have h2 := h.txs
  have h3 := h.non
  have h4 := h.len
  have hle := h.le
  have hc := h.cnt
  have hk := (txt_le ht).1
  have hkp := txt_pos ht
  have hlen : (bs.drop a).length = bs.length - a := by simp
  rw [hlen] at hk
  by_cases he : (lstR m (bs.drop (a + k)) each).1 = 0
  · rw [if_neg (by simpa using he)] at e
    rw [e] at h1 h2 h3 h4
    simp only at h1 h2 h3 h4
    exact ⟨by rw [h1, he], fun _ => by rw [h2 trivial]; simp, fun h' => absurd he h', by rw [h4]; omega, by omega, by simp; omega⟩
  · rw [if_pos he] at e
    rw [e] at h1 h2 h3 h4
    simp only at h1 h2 h3 h4
    exact ⟨h1, fun h' => absurd h' he, fun _ => h3 he, by rw [h4]; omega, by omega, by simp; omega⟩

theorem Going.done {R : Nat × List (List UInt8) × Nat} {bs : List UInt8} {each s a i : Nat} {ts : List (List UInt8)} (h : Going R bs each s a i 0 ts) : R.1 = 0 ∧ R.2.1 = ts ∧ R.2.2 = a - s := by
  have h1 := h.er
  have h2 := h.txs
  have h4 := h.len
  simp only [lstR] at h1 h2 h4
  exact ⟨h1, by simpa using h2 trivial, by simpa using h4⟩

theorem Try.infoStr : (Try.prog.info? 9).map (fun i => (i.zero, i.size, i.bytes)) = some (some (.string ⟨#[]⟩), 1, 16) := by kernel_rfl

/-- v owns the texts ts, in memory from block 'base' on -/
def OwnS (w : World) (base : Nat) (v : Value) (ts : List (List UInt8)) : Prop := w.ownsRow base 9 1 v ts.length (ts.map fun t => Value.string ⟨t.toArray⟩)
theorem OwnS.far {w w' : World} {base : Nat} {v : Value} {ts : List (List UInt8)} {row : Option Nat} (h : OwnS w base v ts) (hg : w.grownBy w' row) (hr : ∀ j, row = some j → j < base) : OwnS w' base v ts := by
  refine World.ownsRow.kept h hg ?_
  cases e : v.ownBlock with
  | none => exact Or.inl rfl
  | some j =>
    refine Or.inr (fun e2 => ?_)
    have h1 := (World.ownsRow.lt h j e).1
    have h2 := hr j e2.symm
    omega
theorem OwnS.nil (w : World) (base : Nat) : OwnS w base (.slice none 0 0) [] := World.ownsRow_nil _ _ _ _
theorem OwnS.none {w : World} {base : Nat} {ts : List (List UInt8)} (h : OwnS w base (.slice none 0 0) ts) : ts = [] := by
  rcases h.2 with ⟨_, h0⟩ | ⟨g, cap, _, hv, _⟩
  · exact List.length_eq_zero_iff.1 h0
  · simp at hv
theorem OwnS.alloc {w : World} {base : Nat} {v : Value} {ts : List (List UInt8)} (h : OwnS w base v ts) (o : Obj) : OwnS (w.alloc o) base v ts := World.ownsRow.alloc h o
theorem OwnS.lt {w : World} {base : Nat} {v : Value} {ts : List (List UInt8)} (h : OwnS w base v ts) : ∀ k, v.ownBlock = some k → base ≤ k ∧ k < w.heap.size := World.ownsRow.lt h

theorem Rd.far {w w' : World} {base b : Nat} {v : Value} {bs : List UInt8} {a : Nat} {why wat : Int} {row : Option Nat} {B : Nat} (h : Rd w base b v bs a why wat) (hg : w.grownBy w' row) (hb : b < B) (hv : ∀ j, v.ownBlock = some j → j < B) (hr : ∀ j, row = some j → B ≤ j) : Rd w' base b v bs a why wat := by
  refine h.grown hg (fun e => by have := hr _ e; omega) ?_
  cases e : v.ownBlock with
  | none => exact Or.inl rfl
  | some j =>
    refine Or.inr (fun e2 => ?_)
    have h1 := hv j e
    have h2 := hr j e2.symm
    omega

/-- append(own, text) -/
theorem app_text {w : World} {ops : Array Oper} {rest : List Oper} {o : Oper} {a : Act} {Q : Exit → Act → World → Prop} (hgd : o.guard = none) (s x : Operand)
    (ho : o.op = .call { callee := .builtin .append, args := #[s, x], argTypes := #[25, 25] })
    (base : Nat) (v : Value) (ts : List (List UInt8)) (hs : a.eval s = v) (hown : OwnS w base v ts) (t : List UInt8) (g : Nat) (hx : a.eval x = .slice (some ⟨g, 0, none⟩) 1 1) (hc : w.cell? ⟨g, 0, none⟩ = some (.string ⟨t.toArray⟩))
    (hlen : ts.length ≤ 1099511627776) (hbase : base ≤ w.heap.size)
    (h : ∀ v' w', OwnS w' base v' (ts ++ [t]) → w.grownBy w' v.ownBlock → wpList Try.prog ops Q rest (a.put o.dst v') w') : wpList Try.prog ops Q (o :: rest) a w := by
  obtain ⟨i0, hi, hz0, hz1, hz2⟩ := info_parts Try.infoStr
  refine wpList_append_own w hgd s x 25 ho base 9 i0 (.string ⟨#[]⟩) 1 16 Try.underlying25 hi hz0 hz1 hz2 rfl (by decide) v ts.length _ hs hown ⟨g, 0, none⟩ 1 1 [.string ⟨t.toArray⟩] hx rfl ?_ ?_ (by unfold maxLen; omega) (by omega) hbase ?_
  · intro j u hj
    match j, hj with
    | 0, hj => simp at hj; subst hj; simpa [Addr.add] using hc
  · intro u hu
    simp at hu
    subst hu
    rfl
  · intro v' w' h1 h2 _
    refine h v' w' ?_ h2
    unfold OwnS
    rw [List.map_append, List.length_append]
    exact h1

theorem ret_ve {x : Value} {e f : Int} (h2 : e = f) : Ending.returned (.tuple #[x, .int .i64 e]) = .returned (.tuple #[x, .int .i64 f]) := by rw [h2]

/-- a list: the error, the texts, how many bytes were passed -/
def lst (l : List UInt8) (most each : Nat) : Nat × List (List UInt8) × Nat :=
  if (upTo l most 11).1 ≠ 0 then ((upTo l most 11).1, [], 0) else ((lstR (upTo l most 11).2.1 (l.drop (upTo l most 11).2.2) each).1, (lstR (upTo l most 11).2.1 (l.drop (upTo l most 11).2.2) each).2.1, (upTo l most 11).2.2 + (lstR (upTo l most 11).2.1 (l.drop (upTo l most 11).2.2) each).2.2)

section
variable (base b : Nat) (v : Value) (bs : List UInt8) (a : Nat) (why wat : Int) (w : World)

set_option maxRecDepth 100000 in
set_option maxHeartbeats 1000000 in
theorem list_any (most each : Nat) (h : Rd w base b v bs a why wat) (hbl : bs.length ≤ 1099511627776) (hm : most ≤ 9223372036854775807) (hea : each ≤ 9223372036854775807) (er k : Nat) (ts : List (List UInt8)) (hl : lst (bs.drop a) most each = (er, ts, k)) :
    Calls Try.prog 65 #[.pointer (some ⟨b, 0, none⟩), .int .i64 most, .int .i64 each] w fun e w' => ∃ v', e = .returned (.tuple #[v', .int .i64 er]) ∧ OwnS w' w.heap.size v' ts ∧ (er ≠ 0 → v' = .slice none 0 0) ∧ Rd w' base b v bs (a + k) why wat ∧ w.grownBy w' (some b) := by
  obtain ⟨er0, n0, k0, hd⟩ : ∃ er0 n0 k0, upTo (bs.drop a) most 11 = (er0, n0, k0) := ⟨_, _, _, rfl⟩
  have HC := hid (numberUpTo_any base b v bs a why wat w most 11 h hm (by omega) er0 n0 k0 hd)
  have HR := hid h
  have hle := h.le
  have hblt := h.lt
  have HVB := hid (fun j e => (h.own.lt j e).2 : ∀ j, v.ownBlock = some j → j < w.heap.size)
  obtain ⟨d1, d2, d4⟩ := upTo_le hd
  have hdl : (bs.drop a).length = bs.length - a := by simp
  rw [hdl] at d1
  unfold lst at hl
  rw [hd] at hl
  simp only [List.drop_drop] at hl
  have HL := hid hl
  have HDL := hid d4
  clear hl d4 hd h hdl
  by_cases he : er0 = 0
  · subst he
    have hsimp := HL.out
    rw [if_neg (by simp)] at hsimp
    have HG0 := hid (⟨rfl, fun _ => by simp, fun h' => lstR_err _ _ _ h', by simp, by omega, by simp⟩ : Going (lstR n0 (bs.drop (a + k0)) each) bs each (a + k0) (a + k0) 0 n0 [])
    simp only [Prod.mk.injEq] at hsimp
    generalize lstR n0 (bs.drop (a + k0)) each = R at *
    have HE := hid hsimp
    clear hsimp HL
    have hn63 : n0 ≤ 9223372036854775807 := by omega
    go_enter Try.func65, Try.ntmps65
    go_wp2_with fail
    refine Calls.mono HC.out ?_
    rintro e w1 ⟨rfl, hR1, hg1⟩
    have HR1 := hid hR1
    have HG1 := hid hg1
    have hs1 := hg1.size
    clear hR1 hg1 HC
    go_wp2_with fail
    go_loopw [10, 23] (fun x i wr => ∃ (c a' : Nat) (us : List (List UInt8)), c ≤ n0 ∧ i = .int .i64 c ∧ Going R bs each (a + k0) a' c (n0 - c) us ∧ OwnS wr w.heap.size x us ∧ Rd wr base b v bs a' why wat ∧ w.grownBy wr (some b)) (fun _ i _ => n0 - (intOf i).toNat)
    case atStart => exact ⟨0, a + k0, [], by omega, rfl, by simpa using HG0.out, OwnS.nil _ _, HR1.out, HG1.out⟩
    case round =>
      obtain ⟨c, a', us, hc, rfl, hgo, hos, hRr, hgr⟩ := hrel
      have HGO := hid hgo
      have HOS := hid hos
      have HRR := hid hRr
      have HGR := hid hgr
      have hsr := hgr.size
      clear hgo hos hRr hgr HG0 HR1 HG1
      by_cases hcn : c < n0
      · obtain ⟨m, hm1⟩ : ∃ m, n0 - c = m + 1 := ⟨n0 - c - 1, by omega⟩
        rw [hm1] at HGO
        obtain ⟨er1, x1, k1, ht⟩ : ∃ er1 x1 k1, txt (bs.drop a') each = (er1, x1, k1) := ⟨_, _, _, rfl⟩
        have HT := hid ht
        have HK1 := hid ((txt_le ht).2.2)
        have HM := hid hm1
        clear ht hm1
        by_cases her : er1 = 0
        · subst her
          have HST := hid (HGO.out.step HT.out)
          have hcnt := HGO.out.cnt
          have hle2 := HGO.out.le
          go_wp2_with fail
          refine (text_any _ _ _ _ _ _ _ _ each HRR.out (by omega) hea _ _ _ HT.out).mono ?_
          rintro e w2 ⟨rfl, hR2, hg2⟩
          have HR2 := hid hR2
          have HG2 := hid hg2
          have hs2 := hg2.size
          have HOS2 := hid (HOS.out.far hg2 (fun j e => by cases e; omega))
          clear hR2 hg2
          go_wp2_with (at_builtin; refine app_text rfl _ _ rfl w.heap.size _ _ rfl (HOS2.out.alloc _) x1 w2.heap.size rfl ?c0 ?c1 ?c2 ?_)
          case c0 => simp
          case c1 => omega
          case c2 => simp; omega
          intro v3 w3 ho3 hg3
          have HO3 := hid ho3
          have hvlt : ∀ j, u10.ownBlock = some j → w.heap.size ≤ j := fun j e => (HOS.out.lt j e).1
          have HR3 := hid ((HR2.out.below (below_walk _ _)).far hg3 hblt HVB.out hvlt : Rd w3 base b v bs (a' + k1) why wat)
          have HG3 := hid (gb_then (gb_trans (gb_trans HGR.out HG2.out) (gb_alloc _ _ _)) hg3 (fun j e => Or.inl (hvlt j e)) : w.grownBy w3 (some b))
          clear ho3 hg3 hvlt
          go_wp2
          go_roundw
          case rel => exact ⟨c + 1, a' + k1, us ++ [x1], by omega, by go_num, by have := HM.out; rw [show n0 - (c + 1) = m by omega]; exact HST.out, HO3.out, HR3.out, HG3.out⟩
          case measure => simp [intOf]; omega
        · have HSP := hid (HGO.out.stop HT.out her)
          have heb : ((er1 : Int) != 0) = true := by simp; omega
          have HK0 := hid (HK1.out her)
          have hle2 := HGO.out.le
          go_wp2_with fail
          refine (text_any _ _ _ _ _ _ _ _ each HRR.out (by omega) hea _ _ _ HT.out).mono ?_
          rintro e w2 ⟨rfl, hR2, hg2⟩
          have HR2 := hid hR2
          have HG2 := hid hg2
          clear hR2 hg2
          go_wp2
          go_ret2
          obtain ⟨rfl, rfl, rfl⟩ := HE.out
          obtain ⟨e1, e2, e3⟩ := HSP.out
          have e4 := HK0.out.2
          subst e4
          refine ⟨_, ret_ve (by rw [e1]), by rw [e2]; exact OwnS.nil _ _, fun _ => rfl, ?_, gb_trans HGR.out HG2.out⟩
          rw [e3, show a + (k0 + (a' - (a + k0))) = a' + 0 by omega]
          exact HR2.out
      · have hc0 : n0 - c = 0 := by omega
        rw [hc0] at HGO
        have HDN := hid HGO.out.done
        have hle2 := HGO.out.le
        go_wp2_with fail
        go_ret2
        obtain ⟨rfl, rfl, rfl⟩ := HE.out
        obtain ⟨e1, e2, e3⟩ := HDN.out
        refine ⟨_, ret_ve (by rw [e1]; rfl), by rw [e2]; exact HOS.out, fun h' => absurd e1 h', ?_, HGR.out⟩
        rw [e3, show a + (k0 + (a' - (a + k0))) = a' by omega]
        exact HRR.out
  · have hsimp := HL.out
    rw [if_pos (by simpa using he)] at hsimp
    simp only [Prod.mk.injEq] at hsimp
    have HE := hid hsimp
    have HZ := hid (HDL.out he)
    clear hsimp
    have heb : ((er0 : Int) != 0) = true := by simp; omega
    go_enter Try.func65, Try.ntmps65
    go_wp2_with fail
    refine Calls.mono HC.out ?_
    rintro e w1 ⟨rfl, hR1, hg1⟩
    have HR1 := hid hR1
    have HG1 := hid hg1
    clear hR1 hg1 HC
    go_wp2
    go_ret2
    obtain ⟨rfl, rfl, rfl⟩ := HE.out
    obtain ⟨rfl, rfl⟩ := HZ.out
    exact ⟨_, rfl, OwnS.nil _ _, fun _ => rfl, HR1.out, HG1.out⟩

theorem two_bounds (w : World) (m n : Int) : ∀ i : Nat, i < 2 → (w.alloc (.cells #[.int .i64 m, .int .i64 n] 3)).cell? ⟨w.heap.size, i, none⟩ = some (.int .i64 ((fun i => if i = 0 then m else n) i)) := by
  intro i hi
  rcases (show i = 0 ∨ i = 1 by omega) with rfl | rfl <;> simp

set_option maxHeartbeats 400000 in
theorem listr_over (m n : Int) (h : Rd w base b v bs a why wat) (hw : why ≠ 0) :
    Calls Try.prog 25 #[.pointer (some ⟨b, 0, none⟩), .int .i64 m, .int .i64 n] w fun e w' => e = .returned (.slice none 0 0) ∧ Rd w' base b v bs a why wat ∧ w.grownBy w' (some b) := by
  have h4 := h.c4
  have HH := hid (h.below (below_walk w (.cells #[.int .i64 m, .int .i64 n] 3)))
  have HW := hid hw
  have hb : (why != 0) = true := by simpa using hw
  clear h hw
  go_enter Try.func25, Try.ntmps25
  go_wp2_with fail
  refine (own_made _ _ h4).mono ?_
  rintro e w' ⟨rfl, rfl⟩
  go_wp2_with fail
  refine (may_ok _ _ 2 why (fun i => if i = 0 then m else n) _ (by omega) HH.out.c2 (two_bounds _ _ _) (Or.inl HW.out)).mono ?_
  rintro e w1 ⟨rfl, rfl⟩
  go_wp2
  go_ret
  exact ⟨rfl, HH.out, gb_alloc _ _ _⟩

set_option maxHeartbeats 400000 in
theorem listr_arg (m n : Int) (h : Rd w base b v bs a 0 wat) (hm : m < 0 ∨ n < 0) :
    Calls Try.prog 25 #[.pointer (some ⟨b, 0, none⟩), .int .i64 m, .int .i64 n] w fun e w' => e = .returned (.slice none 0 0) ∧ Rd w' base b v bs a 1 a ∧ w.grownBy w' (some b) := by
  have h4 := h.c4
  have hlt := h.lt
  have H0 := hid h
  have HH := hid (h.below (below_walk w (.cells #[.int .i64 m, .int .i64 n] 3)))
  have HM := hid (hm.elim (fun h1 => ⟨0, by omega, by simpa using h1⟩) (fun h1 => ⟨1, by omega, by simpa using h1⟩) : ∃ i : Nat, i < 2 ∧ (fun i => if i = 0 then m else n) i < 0)
  clear h hm
  go_enter Try.func25, Try.ntmps25
  go_wp2_with fail
  refine (own_made _ _ h4).mono ?_
  rintro e w' ⟨rfl, rfl⟩
  go_wp2_with fail
  refine (may_bad _ _ 2 a (fun i => if i = 0 then m else n) _ _ (by omega) (by omega) HH.out.c1 HH.out.c2 HH.out.c3 (HH.out.fz _) (HH.out.fz _) (two_bounds _ _ _) HM.out).mono ?_
  rintro e w1 ⟨rfl, rfl⟩
  go_wp2
  go_ret
  exact ⟨rfl, (H0.out.setFault 1 a).below (below_walk _ _), gb_trans (gb_trans (gb_set _ _ _) (gb_set _ _ _)) (gb_alloc _ _ _)⟩

set_option maxHeartbeats 1000000 in
theorem listr_go (m n : Nat) (hm : m ≤ 9223372036854775807) (hn : n ≤ 9223372036854775807) (h : Rd w base b v bs a 0 wat) (hbl : bs.length ≤ 1099511627776) (er k : Nat) (ts : List (List UInt8)) (hl : lst (bs.drop a) m n = (er, ts, k)) :
    Calls Try.prog 25 #[.pointer (some ⟨b, 0, none⟩), .int .i64 m, .int .i64 n] w fun e w' => ∃ v', e = .returned v' ∧ OwnS w' w.heap.size v' ts ∧ (er ≠ 0 → v' = .slice none 0 0) ∧ (er = 0 → Rd w' base b v bs (a + k) 0 wat) ∧ (er ≠ 0 → Rd w' base b v bs a er ((a + k : Nat) : Int)) ∧ w.grownBy w' (some b) := by
  have h4 := h.c4
  have hlt := h.lt
  have hle := h.le
  have HL := hid hl
  have HH := hid (h.below (below_walk w (.cells #[.int .i64 (m : Int), .int .i64 (n : Int)] 3)))
  have g1 := HH.out.c1
  clear h hl
  by_cases he : er = 0
  · subst he
    go_enter Try.func25, Try.ntmps25
    go_wp2_with fail
    refine (own_made _ _ h4).mono ?_
    rintro e w' ⟨rfl, rfl⟩
    go_wp2_with fail
    refine (may_ok _ _ 2 0 (fun i => if i = 0 then (m : Int) else (n : Int)) _ (by omega) HH.out.c2 (two_bounds _ _ _) (Or.inr (fun i hi => by rcases (show i = 0 ∨ i = 1 by omega) with rfl | rfl <;> simp))).mono ?_
    rintro e w1 ⟨rfl, rfl⟩
    go_wp2_with fail
    refine (list_any _ _ _ _ _ _ _ _ m n HH.out hbl hm hn _ _ _ HL.out).mono ?_
    rintro e w2 ⟨v2, rfl, ho2, _, hR2, hg2⟩
    have HO2 := hid ho2
    have HR2 := hid hR2
    have HG2 := hid hg2
    clear ho2 hR2 hg2
    go_wp2_with fail
    refine (wfail_any _ _ _ _ _ _ _ _ _ HR2.out).mono ?_
    rintro e w3 ⟨rfl, hR3, hg3⟩
    have HR3 := hid (by simpa using hR3 : Rd w3 base b v bs (a + k) 0 wat)
    have HO3 := hid (HO2.out.far hg3 (fun j e => by cases e; simp; omega))
    have HG3 := hid (gb_trans (gb_trans (gb_alloc _ _ _) HG2.out) hg3)
    clear hR3 hg3
    go_wp2_with fail
    refine (over_any _ _ _ HR3.out.c2).mono ?_
    rintro e w4 ⟨rfl, rfl⟩
    go_wp2
    go_ret
    exact ⟨_, rfl, World.ownsRow.kept HO3.out (gb_refl _ none) (by cases h : v2.ownBlock <;> simp) |> fun (h : OwnS w4 _ v2 ts) => (⟨h.1, h.2.elim Or.inl (fun ⟨g, cap, cur, hv, hg, r⟩ => Or.inr ⟨g, cap, cur, hv, Nat.le_trans (by simp) hg, r⟩)⟩ : OwnS w4 _ v2 ts), fun h' => absurd rfl h', fun _ => HR3.out, fun h' => absurd rfl h', HG3.out⟩
  · have heb : ((er : Int) != 0) = true := by simp; omega
    go_enter Try.func25, Try.ntmps25
    go_wp2_with fail
    refine (own_made _ _ h4).mono ?_
    rintro e w' ⟨rfl, rfl⟩
    go_wp2_with fail
    refine (may_ok _ _ 2 0 (fun i => if i = 0 then (m : Int) else (n : Int)) _ (by omega) HH.out.c2 (two_bounds _ _ _) (Or.inr (fun i hi => by rcases (show i = 0 ∨ i = 1 by omega) with rfl | rfl <;> simp))).mono ?_
    rintro e w1 ⟨rfl, rfl⟩
    go_wp2_with fail
    refine (list_any _ _ _ _ _ _ _ _ m n HH.out hbl hm hn _ _ _ HL.out).mono ?_
    rintro e w2 ⟨v2, rfl, ho2, hnil, hR2, hg2⟩
    obtain rfl := hnil he
    have HO2 := hid ho2
    have HR2 := hid hR2
    have HG2 := hid hg2
    clear ho2 hR2 hg2 hnil
    go_wp2_with fail
    refine (wfail_any _ _ _ _ _ _ _ _ _ HR2.out).mono ?_
    rintro e w3 ⟨rfl, hR3, hg3⟩
    have HR3 := hid (by simpa [he] using hR3 : Rd w3 base b v bs (a + k) er ((a + k : Nat) : Int))
    have HG3 := hid (gb_trans (gb_trans (gb_alloc _ _ _) HG2.out) hg3)
    have HO3 := hid (HO2.out.far hg3 (fun j e => by cases e; simp; omega))
    clear hR3 hg3
    have q1 := HR3.out.c1
    have f1 := HR3.out.fz 1
    go_wp2_with fail
    refine (over_any _ _ _ HR3.out.c2).mono ?_
    rintro e w4 ⟨rfl, rfl⟩
    go_wp2
    go_ret
    refine ⟨_, rfl, ?_, fun _ => rfl, fun h' => absurd h' he, fun _ => HR3.out.setAt a hle, gb_trans HG3.out (gb_set _ _ _)⟩
    have e0 := HO3.out.none
    subst e0
    exact OwnS.nil _ _
end

end Go.Proofs.Ytggmgbdofjhkdaa
