/- Contracts and pure facts that the proof needs, joined. -/
import Derived.Test.YtgoalfiinfkldaaG1
import Derived.BigQuiet
import Derived.Deep.RegionHeld3
import Derived.Deep.RegionHeldLaw
import Derived.Deep.MidRow
import Derived.Laws.StructEq
import Derived.Deep.Cut
import Derived.StillTail
import Derived.Laws.CopyOwn
import Derived.Laws.MakeOwn
import Derived.Deep.RegionLaw

/- list over a reader that NewReader gave, and the call List. -/
namespace Go.Proofs.Ytgoalfiinfkldaa
open Go.RowKit

/-- so many texts, each of at most so many bytes: the error, the texts, how many bytes were passed -/
def lstR : Nat → List UInt8 → Nat → Nat × List (List UInt8) × Nat
  | 0, _, _ => (0, [], 0)
  | n + 1, l, each => if (wtxt l each).1 ≠ 0 then ((wtxt l each).1, [], 0) else if (lstR n (l.drop (wtxt l each).2.2) each).1 ≠ 0 then ((lstR n (l.drop (wtxt l each).2.2) each).1, [], (wtxt l each).2.2 + (lstR n (l.drop (wtxt l each).2.2) each).2.2) else (0, (wtxt l each).2.1 :: (lstR n (l.drop (wtxt l each).2.2) each).2.1, (wtxt l each).2.2 + (lstR n (l.drop (wtxt l each).2.2) each).2.2)
theorem lstR_succ (n : Nat) (l : List UInt8) (each : Nat) : lstR (n + 1) l each = if (wtxt l each).1 ≠ 0 then ((wtxt l each).1, [], 0) else if (lstR n (l.drop (wtxt l each).2.2) each).1 ≠ 0 then ((lstR n (l.drop (wtxt l each).2.2) each).1, [], (wtxt l each).2.2 + (lstR n (l.drop (wtxt l each).2.2) each).2.2) else (0, (wtxt l each).2.1 :: (lstR n (l.drop (wtxt l each).2.2) each).2.1, (wtxt l each).2.2 + (lstR n (l.drop (wtxt l each).2.2) each).2.2) := rfl

theorem lstR_err : ∀ (n : Nat) (l : List UInt8) (each : Nat), (lstR n l each).1 ≠ 0 → (lstR n l each).2.1 = []
  | 0, _, _, h => absurd rfl h
  | n + 1, l, each, h => by
    rw [lstR_succ] at h ⊢
    split
    · rfl
    · split
      · rfl
      · rename_i h1 h2
        rw [if_neg h1, if_neg h2] at h
        exact absurd rfl h

/-- what is left to be read of a list: the state of the loop -/
structure Going (R : Nat × List (List UInt8) × Nat) (bs : List UInt8) (each s a i m : Nat) (ts : List (List UInt8)) : Prop where
  er : R.1 = (lstR m (bs.drop a) each).1
  txs : (lstR m (bs.drop a) each).1 = 0 → R.2.1 = ts ++ (lstR m (bs.drop a) each).2.1
  non : (lstR m (bs.drop a) each).1 ≠ 0 → R.2.1 = []
  len : R.2.2 = (a - s) + (lstR m (bs.drop a) each).2.2
  le : s ≤ a ∧ a ≤ bs.length
  cnt : ts.length = i ∧ i ≤ a - s

theorem txt_pos {l : List UInt8} {most k : Nat} {s : List UInt8} (h : wtxt l most = (0, s, k)) : 0 < k := by
  unfold wtxt at h
  split at h
  · rename_i h1
    simp only [Prod.mk.injEq] at h
    exact absurd h.1 h1
  · rename_i h1
    split at h
    · simp at h
    · simp only [Prod.mk.injEq, true_and] at h
      have h2 : upTo l most 3 = (0, (upTo l most 3).2.1, (upTo l most 3).2.2) := by
        have : (upTo l most 3).1 = 0 := Classical.byContradiction fun e => h1 e
        rw [← this]
      have := upTo_pos (by omega) h2
      omega

theorem Going.stop {R : Nat × List (List UInt8) × Nat} {bs : List UInt8} {each s a i m er k : Nat} {ts : List (List UInt8)} {x : List UInt8} (h : Going R bs each s a i (m + 1) ts) (ht : wtxt (bs.drop a) each = (er, x, k)) (he : er ≠ 0) :
    R.1 = er ∧ R.2.1 = [] ∧ R.2.2 = a - s := by
  have e := lstR_succ m (bs.drop a) each
  rw [ht] at e
  simp only at e
  rw [if_pos he] at e
  have h1 := h.er
  have h2 := h.non
  have h3 := h.len
  rw [e] at h1 h2 h3
  exact ⟨h1, h2 he, by simpa using h3⟩

theorem Going.step {R : Nat × List (List UInt8) × Nat} {bs : List UInt8} {each s a i m k : Nat} {ts : List (List UInt8)} {x : List UInt8} (h : Going R bs each s a i (m + 1) ts) (ht : wtxt (bs.drop a) each = (0, x, k)) :
    Going R bs each s (a + k) (i + 1) m (ts ++ [x]) := by
  have e := lstR_succ m (bs.drop a) each
  rw [ht] at e
  simp only at e
  rw [if_neg (by simp)] at e
  have hd : (bs.drop a).drop k = bs.drop (a + k) := by simp
  rw [hd] at e
  have h1 := h.er
  have h2 := h.txs
  have h3 := h.non
  have h4 := h.len
  have hle := h.le
  have hc := h.cnt
  have hk := (txt_le ht).1
  have hkp := txt_pos ht
  have hlen : (bs.drop a).length = bs.length - a := by simp
  rw [hlen] at hk
  by_cases he : (lstR m (bs.drop (a + k)) each).1 = 0
  · rw [if_neg (by simpa using he)] at e
    rw [e] at h1 h2 h3 h4
    simp only at h1 h2 h3 h4
    exact ⟨by rw [h1, he], fun _ => by rw [h2 trivial]; simp, fun h' => absurd he h', by rw [h4]; omega, by omega, by simp; omega⟩
  · rw [if_pos he] at e
    rw [e] at h1 h2 h3 h4
    simp only at h1 h2 h3 h4
    exact ⟨h1, fun h' => absurd h' he, fun _ => h3 he, by rw [h4]; omega, by omega, by simp; omega⟩

theorem Going.done {R : Nat × List (List UInt8) × Nat} {bs : List UInt8} {each s a i : Nat} {ts : List (List UInt8)} (h : Going R bs each s a i 0 ts) : R.1 = 0 ∧ R.2.1 = ts ∧ R.2.2 = a - s := by
  have h1 := h.er
  have h2 := h.txs
  have h4 := h.len
  simp only [lstR] at h1 h2 h4
  exact ⟨h1, by simpa using h2 trivial, by simpa using h4⟩


/-- v owns the texts ts, in memory from block 'base' on -/
def WOwnS (w : World) (base : Nat) (v : Value) (ts : List (List UInt8)) : Prop := w.ownsRow base 9 1 v ts.length (ts.map fun t => Value.string ⟨t.toArray⟩)
theorem WOwnS.far {w w' : World} {base : Nat} {v : Value} {ts : List (List UInt8)} {row : Option Nat} (h : WOwnS w base v ts) (hg : w.grownBy w' row) (hr : ∀ j, row = some j → j < base) : WOwnS w' base v ts := by
  refine World.ownsRow.kept h hg ?_
  cases e : v.ownBlock with
  | none => exact Or.inl rfl
  | some j =>
    refine Or.inr (fun e2 => ?_)
    have h1 := (World.ownsRow.lt h j e).1
    have h2 := hr j e2.symm
    omega
theorem WOwnS.nil (w : World) (base : Nat) : WOwnS w base (.slice none 0 0) [] := World.ownsRow_nil _ _ _ _
theorem WOwnS.none {w : World} {base : Nat} {ts : List (List UInt8)} (h : WOwnS w base (.slice none 0 0) ts) : ts = [] := by
  rcases h.2 with ⟨_, h0⟩ | ⟨g, cap, _, hv, _⟩
  · exact List.length_eq_zero_iff.1 h0
  · simp at hv
theorem WOwnS.alloc {w : World} {base : Nat} {v : Value} {ts : List (List UInt8)} (h : WOwnS w base v ts) (o : Obj) : WOwnS (w.alloc o) base v ts := World.ownsRow.alloc h o
theorem WOwnS.lt {w : World} {base : Nat} {v : Value} {ts : List (List UInt8)} (h : WOwnS w base v ts) : ∀ k, v.ownBlock = some k → base ≤ k ∧ k < w.heap.size := World.ownsRow.lt h

theorem Rd.far {w w' : World} {base b : Nat} {v : Value} {bs : List UInt8} {a : Nat} {why wat : Int} {row : Option Nat} {B : Nat} (h : Rd w base b v bs a why wat) (hg : w.grownBy w' row) (hb : b < B) (hv : ∀ j, v.ownBlock = some j → j < B) (hr : ∀ j, row = some j → B ≤ j) : Rd w' base b v bs a why wat := by
  refine h.grown hg (fun e => by have := hr _ e; omega) ?_
  cases e : v.ownBlock with
  | none => exact Or.inl rfl
  | some j =>
    refine Or.inr (fun e2 => ?_)
    have h1 := hv j e
    have h2 := hr j e2.symm
    omega

/-- append(own, text) -/
theorem wapp_text {w : World} {ops : Array Oper} {rest : List Oper} {o : Oper} {a : Act} {Q : Exit → Act → World → Prop} (hgd : o.guard = none) (s x : Operand)
    (ho : o.op = .call { callee := .builtin .append, args := #[s, x], argTypes := #[27, 27] })
    (base : Nat) (v : Value) (ts : List (List UInt8)) (hs : a.eval s = v) (hown : WOwnS w base v ts) (t : List UInt8) (g : Nat) (hx : a.eval x = .slice (some ⟨g, 0, none⟩) 1 1) (hc : w.cell? ⟨g, 0, none⟩ = some (.string ⟨t.toArray⟩))
    (hlen : ts.length ≤ 1099511627776) (hbase : base ≤ w.heap.size)
    (h : ∀ v' w', WOwnS w' base v' (ts ++ [t]) → w.grownBy w' v.ownBlock → wpList Try.prog ops Q rest (a.put o.dst v') w') : wpList Try.prog ops Q (o :: rest) a w := by
  obtain ⟨i0, hi, hz0, hz1, hz2⟩ := info_parts Try.infoStr
  refine wpList_append_own w hgd s x 27 ho base 9 i0 (.string ⟨#[]⟩) 1 16 Try.underlying27 hi hz0 hz1 hz2 rfl (by decide) v ts.length _ hs hown ⟨g, 0, none⟩ 1 1 [.string ⟨t.toArray⟩] hx rfl ?_ ?_ (by unfold maxLen; omega) (by omega) hbase ?_
  · intro j u hj
    match j, hj with
    | 0, hj => simp at hj; subst hj; simpa [Addr.add] using hc
  · intro u hu
    simp at hu
    subst hu
    rfl
  · intro v' w' h1 h2 _
    refine h v' w' ?_ h2
    unfold WOwnS
    rw [List.map_append, List.length_append]
    exact h1

theorem ret_ve {x : Value} {e f : Int} (h2 : e = f) : Ending.returned (.tuple #[x, .int .i64 e]) = .returned (.tuple #[x, .int .i64 f]) := by rw [h2]

/-- a list: the error, the texts, how many bytes were passed -/
def lst (l : List UInt8) (most each : Nat) : Nat × List (List UInt8) × Nat :=
  if (upTo l most 11).1 ≠ 0 then ((upTo l most 11).1, [], 0) else ((lstR (upTo l most 11).2.1 (l.drop (upTo l most 11).2.2) each).1, (lstR (upTo l most 11).2.1 (l.drop (upTo l most 11).2.2) each).2.1, (upTo l most 11).2.2 + (lstR (upTo l most 11).2.1 (l.drop (upTo l most 11).2.2) each).2.2)

section
variable (base b : Nat) (v : Value) (bs : List UInt8) (a : Nat) (why wat : Int) (w : World)

set_option maxRecDepth 100000 in
set_option maxHeartbeats 1000000 in
theorem list_any (most each : Nat) (h : Rd w base b v bs a why wat) (hbl : bs.length ≤ 1099511627776) (hm : most ≤ 9223372036854775807) (hea : each ≤ 9223372036854775807) (er k : Nat) (ts : List (List UInt8)) (hl : lst (bs.drop a) most each = (er, ts, k)) :
    Calls Try.prog 109 #[.pointer (some ⟨b, 0, none⟩), .int .i64 most, .int .i64 each] w fun e w' => ∃ v', e = .returned (.tuple #[v', .int .i64 er]) ∧ WOwnS w' w.heap.size v' ts ∧ (er ≠ 0 → v' = .slice none 0 0) ∧ Rd w' base b v bs (a + k) why wat ∧ w.grownBy w' (some b) := by
  obtain ⟨er0, n0, k0, hd⟩ : ∃ er0 n0 k0, upTo (bs.drop a) most 11 = (er0, n0, k0) := ⟨_, _, _, rfl⟩
  have HC := hid (numberUpTo_any base b v bs a why wat w most 11 h hm (by omega) er0 n0 k0 hd)
  have HR := hid h
  have hle := h.le
  have hblt := h.lt
  have HVB := hid (fun j e => (h.own.lt j e).2 : ∀ j, v.ownBlock = some j → j < w.heap.size)
  obtain ⟨d1, d2, d4⟩ := upTo_le hd
  have hdl : (bs.drop a).length = bs.length - a := by simp
  rw [hdl] at d1
  unfold lst at hl
  rw [hd] at hl
  simp only [List.drop_drop] at hl
  have HL := hid hl
  have HDL := hid d4
  clear hl d4 hd h hdl
  by_cases he : er0 = 0
  · subst he
    have hsimp := HL.out
    rw [if_neg (by simp)] at hsimp
    have HG0 := hid (⟨rfl, fun _ => by simp, fun h' => lstR_err _ _ _ h', by simp, by omega, by simp⟩ : Going (lstR n0 (bs.drop (a + k0)) each) bs each (a + k0) (a + k0) 0 n0 [])
    simp only [Prod.mk.injEq] at hsimp
    generalize lstR n0 (bs.drop (a + k0)) each = R at *
    have HE := hid hsimp
    clear hsimp HL
    have hn63 : n0 ≤ 9223372036854775807 := by omega
    go_enter Try.func109, Try.ntmps109
    go_wp2_with fail
    refine Calls.mono HC.out ?_
    rintro e w1 ⟨rfl, hR1, hg1⟩
    have HR1 := hid hR1
    have HG1 := hid hg1
    have hs1 := hg1.size
    clear hR1 hg1 HC
    go_wp2_with fail
    go_loopw [10, 23] (fun x i wr => ∃ (c a' : Nat) (us : List (List UInt8)), c ≤ n0 ∧ i = .int .i64 c ∧ Going R bs each (a + k0) a' c (n0 - c) us ∧ WOwnS wr w.heap.size x us ∧ Rd wr base b v bs a' why wat ∧ w.grownBy wr (some b)) (fun _ i _ => n0 - (intOf i).toNat)
    case atStart => exact ⟨0, a + k0, [], by omega, rfl, by simpa using HG0.out, WOwnS.nil _ _, HR1.out, HG1.out⟩
    case round =>
      obtain ⟨c, a', us, hc, rfl, hgo, hos, hRr, hgr⟩ := hrel
      have HGO := hid hgo
      have HOS := hid hos
      have HRR := hid hRr
      have HGR := hid hgr
      have hsr := hgr.size
      clear hgo hos hRr hgr HG0 HR1 HG1
      by_cases hcn : c < n0
      · obtain ⟨m, hm1⟩ : ∃ m, n0 - c = m + 1 := ⟨n0 - c - 1, by omega⟩
        rw [hm1] at HGO
        obtain ⟨er1, x1, k1, ht⟩ : ∃ er1 x1 k1, wtxt (bs.drop a') each = (er1, x1, k1) := ⟨_, _, _, rfl⟩
        have HT := hid ht
        have HK1 := hid ((txt_le ht).2.2)
        have HM := hid hm1
        clear ht hm1
        by_cases her : er1 = 0
        · subst her
          have HST := hid (HGO.out.step HT.out)
          have hcnt := HGO.out.cnt
          have hle2 := HGO.out.le
          go_wp2_with fail
          refine (text_any _ _ _ _ _ _ _ _ each HRR.out (by omega) hea _ _ _ HT.out).mono ?_
          rintro e w2 ⟨rfl, hR2, hg2⟩
          have HR2 := hid hR2
          have HG2 := hid hg2
          have hs2 := hg2.size
          have HOS2 := hid (HOS.out.far hg2 (fun j e => by cases e; omega))
          clear hR2 hg2
          go_wp2_with (at_builtin; refine wapp_text rfl _ _ rfl w.heap.size _ _ rfl (HOS2.out.alloc _) x1 w2.heap.size rfl ?c0 ?c1 ?c2 ?_)
          case c0 => simp
          case c1 => omega
          case c2 => simp; omega
          intro v3 w3 ho3 hg3
          have HO3 := hid ho3
          have hvlt : ∀ j, u10.ownBlock = some j → w.heap.size ≤ j := fun j e => (HOS.out.lt j e).1
          have HR3 := hid ((HR2.out.below (below_walk _ _)).far hg3 hblt HVB.out hvlt : Rd w3 base b v bs (a' + k1) why wat)
          have HG3 := hid (gb_then (gb_trans (gb_trans HGR.out HG2.out) (gb_alloc _ _ _)) hg3 (fun j e => Or.inl (hvlt j e)) : w.grownBy w3 (some b))
          clear ho3 hg3 hvlt
          go_wp2
          go_roundw
          case rel => exact ⟨c + 1, a' + k1, us ++ [x1], by omega, by go_num, by have := HM.out; rw [show n0 - (c + 1) = m by omega]; exact HST.out, HO3.out, HR3.out, HG3.out⟩
          case measure => simp [intOf]; omega
        · have HSP := hid (HGO.out.stop HT.out her)
          have heb : ((er1 : Int) != 0) = true := by simp; omega
          have HK0 := hid (HK1.out her)
          have hle2 := HGO.out.le
          go_wp2_with fail
          refine (text_any _ _ _ _ _ _ _ _ each HRR.out (by omega) hea _ _ _ HT.out).mono ?_
          rintro e w2 ⟨rfl, hR2, hg2⟩
          have HR2 := hid hR2
          have HG2 := hid hg2
          clear hR2 hg2
          go_wp2
          go_ret2
          obtain ⟨rfl, rfl, rfl⟩ := HE.out
          obtain ⟨e1, e2, e3⟩ := HSP.out
          have e4 := HK0.out.2
          subst e4
          refine ⟨_, ret_ve (by rw [e1]), by rw [e2]; exact WOwnS.nil _ _, fun _ => rfl, ?_, gb_trans HGR.out HG2.out⟩
          rw [e3, show a + (k0 + (a' - (a + k0))) = a' + 0 by omega]
          exact HR2.out
      · have hc0 : n0 - c = 0 := by omega
        rw [hc0] at HGO
        have HDN := hid HGO.out.done
        have hle2 := HGO.out.le
        go_wp2_with fail
        go_ret2
        obtain ⟨rfl, rfl, rfl⟩ := HE.out
        obtain ⟨e1, e2, e3⟩ := HDN.out
        refine ⟨_, ret_ve (by rw [e1]; rfl), by rw [e2]; exact HOS.out, fun h' => absurd e1 h', ?_, HGR.out⟩
        rw [e3, show a + (k0 + (a' - (a + k0))) = a' by omega]
        exact HRR.out
  · have hsimp := HL.out
    rw [if_pos (by simpa using he)] at hsimp
    simp only [Prod.mk.injEq] at hsimp
    have HE := hid hsimp
    have HZ := hid (HDL.out he)
    clear hsimp
    have heb : ((er0 : Int) != 0) = true := by simp; omega
    go_enter Try.func109, Try.ntmps109
    go_wp2_with fail
    refine Calls.mono HC.out ?_
    rintro e w1 ⟨rfl, hR1, hg1⟩
    have HR1 := hid hR1
    have HG1 := hid hg1
    clear hR1 hg1 HC
    go_wp2
    go_ret2
    obtain ⟨rfl, rfl, rfl⟩ := HE.out
    obtain ⟨rfl, rfl⟩ := HZ.out
    exact ⟨_, rfl, WOwnS.nil _ _, fun _ => rfl, HR1.out, HG1.out⟩

theorem two_bounds (w : World) (m n : Int) : ∀ i : Nat, i < 2 → (w.alloc (.cells #[.int .i64 m, .int .i64 n] 3)).cell? ⟨w.heap.size, i, none⟩ = some (.int .i64 ((fun i => if i = 0 then m else n) i)) := by
  intro i hi
  rcases (show i = 0 ∨ i = 1 by omega) with rfl | rfl <;> simp

set_option maxHeartbeats 400000 in
theorem listr_over (m n : Int) (h : Rd w base b v bs a why wat) (hw : why ≠ 0) :
    Calls Try.prog 103 #[.pointer (some ⟨b, 0, none⟩), .int .i64 m, .int .i64 n] w fun e w' => e = .returned (.slice none 0 0) ∧ Rd w' base b v bs a why wat ∧ w.grownBy w' (some b) := by
  have h4 := h.c4
  have HH := hid (h.below (below_walk w (.cells #[.int .i64 m, .int .i64 n] 3)))
  have HW := hid hw
  have hb : (why != 0) = true := by simpa using hw
  clear h hw
  go_enter Try.func103, Try.ntmps103
  go_wp2_with fail
  refine (own_made _ _ h4).mono ?_
  rintro e w' ⟨rfl, rfl⟩
  go_wp2_with fail
  refine (may_ok _ _ 2 why (fun i => if i = 0 then m else n) _ (by omega) HH.out.c2 (two_bounds _ _ _) (Or.inl HW.out)).mono ?_
  rintro e w1 ⟨rfl, rfl⟩
  go_wp2
  go_ret
  exact ⟨rfl, HH.out, gb_alloc _ _ _⟩

set_option maxHeartbeats 400000 in
theorem listr_arg (m n : Int) (h : Rd w base b v bs a 0 wat) (hm : m < 0 ∨ n < 0) :
    Calls Try.prog 103 #[.pointer (some ⟨b, 0, none⟩), .int .i64 m, .int .i64 n] w fun e w' => e = .returned (.slice none 0 0) ∧ Rd w' base b v bs a 1 a ∧ w.grownBy w' (some b) := by
  have h4 := h.c4
  have hlt := h.lt
  have H0 := hid h
  have HH := hid (h.below (below_walk w (.cells #[.int .i64 m, .int .i64 n] 3)))
  have HM := hid (hm.elim (fun h1 => ⟨0, by omega, by simpa using h1⟩) (fun h1 => ⟨1, by omega, by simpa using h1⟩) : ∃ i : Nat, i < 2 ∧ (fun i => if i = 0 then m else n) i < 0)
  clear h hm
  go_enter Try.func103, Try.ntmps103
  go_wp2_with fail
  refine (own_made _ _ h4).mono ?_
  rintro e w' ⟨rfl, rfl⟩
  go_wp2_with fail
  refine (may_bad _ _ 2 a (fun i => if i = 0 then m else n) _ _ (by omega) (by omega) HH.out.c1 HH.out.c2 HH.out.c3 (HH.out.fz _) (HH.out.fz _) (two_bounds _ _ _) HM.out).mono ?_
  rintro e w1 ⟨rfl, rfl⟩
  go_wp2
  go_ret
  exact ⟨rfl, (H0.out.setFault 1 a).below (below_walk _ _), gb_trans (gb_trans (gb_set _ _ _) (gb_set _ _ _)) (gb_alloc _ _ _)⟩

set_option maxHeartbeats 1000000 in
theorem listr_go (m n : Nat) (hm : m ≤ 9223372036854775807) (hn : n ≤ 9223372036854775807) (h : Rd w base b v bs a 0 wat) (hbl : bs.length ≤ 1099511627776) (er k : Nat) (ts : List (List UInt8)) (hl : lst (bs.drop a) m n = (er, ts, k)) :
    Calls Try.prog 103 #[.pointer (some ⟨b, 0, none⟩), .int .i64 m, .int .i64 n] w fun e w' => ∃ v', e = .returned v' ∧ WOwnS w' w.heap.size v' ts ∧ (er ≠ 0 → v' = .slice none 0 0) ∧ (er = 0 → Rd w' base b v bs (a + k) 0 wat) ∧ (er ≠ 0 → Rd w' base b v bs a er ((a + k : Nat) : Int)) ∧ w.grownBy w' (some b) := by
  have h4 := h.c4
  have hlt := h.lt
  have hle := h.le
  have HL := hid hl
  have HH := hid (h.below (below_walk w (.cells #[.int .i64 (m : Int), .int .i64 (n : Int)] 3)))
  have g1 := HH.out.c1
  clear h hl
  by_cases he : er = 0
  · subst he
    go_enter Try.func103, Try.ntmps103
    go_wp2_with fail
    refine (own_made _ _ h4).mono ?_
    rintro e w' ⟨rfl, rfl⟩
    go_wp2_with fail
    refine (may_ok _ _ 2 0 (fun i => if i = 0 then (m : Int) else (n : Int)) _ (by omega) HH.out.c2 (two_bounds _ _ _) (Or.inr (fun i hi => by rcases (show i = 0 ∨ i = 1 by omega) with rfl | rfl <;> simp))).mono ?_
    rintro e w1 ⟨rfl, rfl⟩
    go_wp2_with fail
    refine (list_any _ _ _ _ _ _ _ _ m n HH.out hbl hm hn _ _ _ HL.out).mono ?_
    rintro e w2 ⟨v2, rfl, ho2, _, hR2, hg2⟩
    have HO2 := hid ho2
    have HR2 := hid hR2
    have HG2 := hid hg2
    clear ho2 hR2 hg2
    go_wp2_with fail
    refine (wfail_any _ _ _ _ _ _ _ _ _ HR2.out).mono ?_
    rintro e w3 ⟨rfl, hR3, hg3⟩
    have HR3 := hid (by simpa using hR3 : Rd w3 base b v bs (a + k) 0 wat)
    have HO3 := hid (HO2.out.far hg3 (fun j e => by cases e; simp; omega))
    have HG3 := hid (gb_trans (gb_trans (gb_alloc _ _ _) HG2.out) hg3)
    clear hR3 hg3
    go_wp2_with fail
    refine (over_any _ _ _ HR3.out.c2).mono ?_
    rintro e w4 ⟨rfl, rfl⟩
    go_wp2
    go_ret
    exact ⟨_, rfl, World.ownsRow.kept HO3.out (gb_refl _ none) (by cases h : v2.ownBlock <;> simp) |> fun (h : WOwnS w4 _ v2 ts) => (⟨h.1, h.2.elim Or.inl (fun ⟨g, cap, cur, hv, hg, r⟩ => Or.inr ⟨g, cap, cur, hv, Nat.le_trans (by simp) hg, r⟩)⟩ : WOwnS w4 _ v2 ts), fun h' => absurd rfl h', fun _ => HR3.out, fun h' => absurd rfl h', HG3.out⟩
  · have heb : ((er : Int) != 0) = true := by simp; omega
    go_enter Try.func103, Try.ntmps103
    go_wp2_with fail
    refine (own_made _ _ h4).mono ?_
    rintro e w' ⟨rfl, rfl⟩
    go_wp2_with fail
    refine (may_ok _ _ 2 0 (fun i => if i = 0 then (m : Int) else (n : Int)) _ (by omega) HH.out.c2 (two_bounds _ _ _) (Or.inr (fun i hi => by rcases (show i = 0 ∨ i = 1 by omega) with rfl | rfl <;> simp))).mono ?_
    rintro e w1 ⟨rfl, rfl⟩
    go_wp2_with fail
    refine (list_any _ _ _ _ _ _ _ _ m n HH.out hbl hm hn _ _ _ HL.out).mono ?_
    rintro e w2 ⟨v2, rfl, ho2, hnil, hR2, hg2⟩
    obtain rfl := hnil he
    have HO2 := hid ho2
    have HR2 := hid hR2
    have HG2 := hid hg2
    clear ho2 hR2 hg2 hnil
    go_wp2_with fail
    refine (wfail_any _ _ _ _ _ _ _ _ _ HR2.out).mono ?_
    rintro e w3 ⟨rfl, hR3, hg3⟩
    have HR3 := hid (by simpa [he] using hR3 : Rd w3 base b v bs (a + k) er ((a + k : Nat) : Int))
    have HG3 := hid (gb_trans (gb_trans (gb_alloc _ _ _) HG2.out) hg3)
    have HO3 := hid (HO2.out.far hg3 (fun j e => by cases e; simp; omega))
    clear hR3 hg3
    have q1 := HR3.out.c1
    have f1 := HR3.out.fz 1
    go_wp2_with fail
    refine (over_any _ _ _ HR3.out.c2).mono ?_
    rintro e w4 ⟨rfl, rfl⟩
    go_wp2
    go_ret
    refine ⟨_, rfl, ?_, fun _ => rfl, fun h' => absurd h' he, fun _ => HR3.out.setAt a hle, gb_trans HG3.out (gb_set _ _ _)⟩
    have e0 := HO3.out.none
    subst e0
    exact WOwnS.nil _ _
end

end Go.Proofs.Ytgoalfiinfkldaa

/- What is read without an error has no other form: the plain mathematics. -/
namespace Go.Proofs.Ytgoalfiinfkldaa

theorem tx_mk (t : List UInt8) : tx (mk t) = sn t.length ++ t := by unfold tx; rw [mk_size]; simp [mk]

theorem uz_bounds (n : Nat) (hn : n < 18446744073709551616) : -9223372036854775808 ≤ uz n ∧ uz n ≤ 9223372036854775807 := by
  unfold uz; split <;> omega
theorem zz_uz (n : Nat) : zz (uz n) = n := by
  unfold uz
  split
  · rename_i h
    unfold zz
    rw [if_pos (by omega)]
    omega
  · unfold zz
    rw [if_neg (by omega)]
    omega
theorem uz_zz (n : Int) (h0 : -9223372036854775808 ≤ n) (h1 : n ≤ 9223372036854775807) : uz (zz n) = n := by
  unfold zz
  split
  · unfold uz
    rw [if_pos (by omega)]
    omega
  · unfold uz
    rw [if_neg (by omega)]
    omega

theorem upTo_ok {l : List UInt8} {most t n k : Nat} (ht : t ≠ 0) (h : upTo l most t = (0, n, k)) : dec l 0 0 = (0, n, k) ∧ n ≤ most := by
  unfold upTo at h
  split at h
  · rename_i h1
    rw [h] at h1
    exact absurd rfl h1
  · split at h
    · simp at h; exact absurd h.1 ht
    · rename_i h1 h2
      rw [h] at h2
      exact ⟨h, by simpa using h2⟩
theorem upTo_of {l : List UInt8} {most t n k : Nat} (h : dec l 0 0 = (0, n, k)) (hn : n ≤ most) : upTo l most t = (0, n, k) := by
  unfold upTo
  rw [h, if_neg (by simp), if_neg (by show ¬ most < n; omega)]

theorem txt_ok {l : List UInt8} {most k : Nat} {s : List UInt8} (h : wtxt l most = (0, s, k)) : l.take k = sn s.length ++ s ∧ k = (sn s.length).length + s.length ∧ s.length ≤ most ∧ k ≤ l.length := by
  obtain ⟨er0, n0, k0, hd⟩ : ∃ er0 n0 k0, upTo l most 3 = (er0, n0, k0) := ⟨_, _, _, rfl⟩
  unfold wtxt at h
  rw [hd] at h
  simp only at h
  by_cases he : er0 = 0
  · subst he
    rw [if_neg (by simp)] at h
    by_cases hgt : l.length < k0 + n0
    · rw [if_pos hgt] at h; simp at h
    · rw [if_neg hgt] at h
      simp only [Prod.mk.injEq, true_and] at h
      obtain ⟨rfl, rfl⟩ := h
      obtain ⟨hdec, hm⟩ := upTo_ok (by omega) hd
      obtain ⟨h1, h2, h3, h4⟩ := dec_ok hdec
      have hk := dec_ok_len hdec
      have hlen : ((l.drop k0).take n0).length = n0 := by simp; omega
      refine ⟨?_, by rw [hlen, ← hk], by rw [hlen]; exact hm, by omega⟩
      rw [hlen, ← h4, ← List.take_add]
  · rw [if_pos he] at h
    simp only [Prod.mk.injEq] at h
    exact absurd h.1 he

theorem lstR_ok : ∀ (n : Nat) (l : List UInt8) (each k : Nat) (ts : List (List UInt8)), lstR n l each = (0, ts, k) → ts.length = n ∧ k ≤ l.length ∧ l.take k = txs (ts.map mk)
  | 0, l, each, k, ts, h => by
    simp only [lstR, Prod.mk.injEq, true_and] at h
    obtain ⟨rfl, rfl⟩ := h
    exact ⟨rfl, by omega, by simp [txs]⟩
  | n + 1, l, each, k, ts, h => by
    obtain ⟨er0, s0, k0, hd⟩ : ∃ er0 s0 k0, wtxt l each = (er0, s0, k0) := ⟨_, _, _, rfl⟩
    rw [lstR_succ, hd] at h
    simp only at h
    by_cases he : er0 = 0
    · subst he
      rw [if_neg (by simp)] at h
      obtain ⟨er1, ts1, k1, hr⟩ : ∃ er1 ts1 k1, lstR n (l.drop k0) each = (er1, ts1, k1) := ⟨_, _, _, rfl⟩
      rw [hr] at h
      simp only at h
      by_cases he1 : er1 = 0
      · subst he1
        rw [if_neg (by simp)] at h
        simp only [Prod.mk.injEq, true_and] at h
        obtain ⟨rfl, rfl⟩ := h
        obtain ⟨a1, a2, a3⟩ := lstR_ok n _ _ _ _ hr
        obtain ⟨b1, b2, b3, b4⟩ := txt_ok hd
        simp at a2
        refine ⟨by simp [a1], by omega, ?_⟩
        rw [List.take_add, b1, a3, ← tx_mk]
        simp [txs]
      · rw [if_pos he1] at h
        simp only [Prod.mk.injEq] at h
        exact absurd h.1 he1
    · rw [if_pos he] at h
      simp only [Prod.mk.injEq] at h
      exact absurd h.1 he

theorem lst_ok {l : List UInt8} {most each k : Nat} {ts : List (List UInt8)} (h : lst l most each = (0, ts, k)) : l.take k = ls (ts.map mk) ∧ k ≤ l.length := by
  obtain ⟨er0, n0, k0, hd⟩ : ∃ er0 n0 k0, upTo l most 11 = (er0, n0, k0) := ⟨_, _, _, rfl⟩
  unfold lst at h
  rw [hd] at h
  simp only at h
  by_cases he : er0 = 0
  · subst he
    rw [if_neg (by simp)] at h
    obtain ⟨er1, ts1, k1, hr⟩ : ∃ er1 ts1 k1, lstR n0 (l.drop k0) each = (er1, ts1, k1) := ⟨_, _, _, rfl⟩
    rw [hr] at h
    simp only [Prod.mk.injEq] at h
    obtain ⟨rfl, rfl, rfl⟩ := h
    obtain ⟨a1, a2, a3⟩ := lstR_ok _ _ _ _ _ hr
    obtain ⟨hdec, hm⟩ := upTo_ok (by omega) hd
    obtain ⟨h1, h2, h3, h4⟩ := dec_ok hdec
    simp at a2
    refine ⟨?_, by omega⟩
    rw [List.take_add, h4, a3]
    unfold ls
    simp [a1]
  · rw [if_pos he] at h
    simp only [Prod.mk.injEq] at h
    exact absurd h.1 he

end Go.Proofs.Ytgoalfiinfkldaa

/- What was laid down is read back: the plain mathematics; and what longest and Same answer. -/
namespace Go.Proofs.Ytgoalfiinfkldaa
open Go.RowKit

theorem txt_back (s r : List UInt8) (most : Nat) (hs : s.length < 18446744073709551616) (hm : s.length ≤ most) : wtxt (sn s.length ++ (s ++ r)) most = (0, s, (sn s.length).length + s.length) := by
  have hu := upTo_of (t := 3) (dec_sn s.length (s ++ r) hs) hm
  unfold wtxt
  rw [hu]
  simp only
  rw [if_neg (by simp), if_neg (by simp)]
  simp

theorem lstR_back : ∀ (ts : List (List UInt8)) (r : List UInt8) (each : Nat), (∀ t ∈ ts, t.length ≤ each) → each < 18446744073709551616 → lstR ts.length (txs (ts.map mk) ++ r) each = (0, ts, (txs (ts.map mk)).length)
  | [], r, each, _, _ => by simp [lstR, txs]
  | t :: ts, r, each, h, he => by
    have ht := h t (by simp)
    have e1 : txs ((t :: ts).map mk) ++ r = sn t.length ++ (t ++ (txs (ts.map mk) ++ r)) := by
      have : txs ((t :: ts).map mk) = tx (mk t) ++ txs (ts.map mk) := by simp [txs]
      rw [this, tx_mk]; simp
    have hb := txt_back t (txs (ts.map mk) ++ r) each (by omega) ht
    have hr := lstR_back ts r each (fun x hx => h x (by simp [hx])) he
    have hdr : (sn t.length ++ (t ++ (txs (ts.map mk) ++ r))).drop ((sn t.length).length + t.length) = txs (ts.map mk) ++ r := by
      rw [← List.append_assoc, List.drop_append_of_le_length (by simp)]
      simp
    rw [e1]
    show lstR (ts.length + 1) _ each = _
    rw [lstR_succ, hb]
    simp only
    rw [hdr, hr]
    simp only
    rw [if_neg (by simp), if_neg (by simp)]
    have : txs ((t :: ts).map mk) = tx (mk t) ++ txs (ts.map mk) := by simp [txs]
    rw [this, tx_mk]
    simp
    omega

theorem lst_back (ts : List (List UInt8)) (r : List UInt8) (each : Nat) (h : ∀ t ∈ ts, t.length ≤ each) (he : each < 18446744073709551616) (hn : ts.length < 18446744073709551616) :
    lst (ls (ts.map mk) ++ r) ts.length each = (0, ts, (ls (ts.map mk)).length) := by
  have e1 : ls (ts.map mk) ++ r = sn ts.length ++ (txs (ts.map mk) ++ r) := by unfold ls; simp
  have hu := upTo_of (most := ts.length) (t := 11) (dec_sn ts.length (txs (ts.map mk) ++ r) hn) (Nat.le_refl _)
  have hdr : (sn ts.length ++ (txs (ts.map mk) ++ r)).drop (sn ts.length).length = txs (ts.map mk) ++ r := by simp
  unfold lst
  rw [e1, hu]
  simp only
  rw [if_neg (by simp), hdr, lstR_back ts r each h he]
  unfold ls
  simp

theorem unmk (ss : List ByteArray) : (ss.map (fun s => s.data.toList)).map mk = ss := by
  rw [List.map_map]
  have : (mk ∘ fun s : ByteArray => s.data.toList) = id := by funext s; simp [mk]
  rw [this]; simp

theorem getD_mem {ss : List ByteArray} {k : Nat} (h : k < ss.length) : ss.getD k ByteArray.empty ∈ ss := by
  rw [List.getD_eq_getElem?_getD, List.getElem?_eq_getElem h]
  exact List.getElem_mem _

set_option maxRecDepth 100000 in
set_option maxHeartbeats 400000 in
theorem same_true (va vb : Value) (ss : List ByteArray) (w : World) (ha : WStrs w va ss) (hb : WStrs w vb ss) (hn : ss.length ≤ 1099511627776) :
    Calls Try.prog 38 #[va, vb] w fun e w' => e = .returned (.bool true) ∧ ∃ k, w' = w.drewN k := by
  rcases Nat.eq_zero_or_pos ss.length with hz | hpos
  · have : ss = [] := List.length_eq_zero_iff.1 hz
    subst this
    obtain ⟨a1, c1, rfl⟩ := ha.shape
    obtain ⟨a2, c2, rfl⟩ := hb.shape
    clear ha hb
    go_enter Try.func38, Try.ntmps38
    go_wp2
    go_loop [5] (fun i => i = .int .i64 0) (fun _ => 0)
    case atStart => rfl
    case round =>
      subst hrel
      go_wp2
      go_ret
      exact ⟨rfl, 0, rfl⟩
  · rcases ha with ⟨_, _, _, rfl⟩ | ⟨g1, o1, c1, rfl, _, hc1⟩
    · simp at hpos
    rcases hb with ⟨_, _, _, rfl⟩ | ⟨g2, o2, c2, rfl, _, hc2⟩
    · simp at hpos
    have H1 := hid hc1
    have H2 := hid hc2
    clear hc1 hc2
    go_enter Try.func38, Try.ntmps38
    go_wp2
    go_loopw [5] (fun i wr => ∃ k q : Nat, k ≤ ss.length ∧ i = .int .i64 k ∧ wr = w.drewN q) (fun i _ => ss.length - (intOf i).toNat)
    case atStart => exact ⟨0, 0, by omega, rfl, rfl⟩
    case round =>
      obtain ⟨k, q, hk, rfl, rfl⟩ := hrel
      by_cases hkn : k < ss.length
      · have e1 := H1.out k hkn
        have e2 := H2.out k hkn
        generalize ss.getD k ByteArray.empty = s at *
        have hki : (k : Int) < (ss.length : Int) := by omega
        have hd : decide ((k : Int) < (ss.length : Int)) = true := by simpa using hki
        go_wp2_with fail
        go_quiet (fail)
        go_wp2_with fail
        go_roundw
        case rel => exact ⟨k + 1, q + nq, by omega, by go_num, rfl⟩
        case measure => simp [intOf]; omega
      · go_wp2
        go_ret
        exact ⟨rfl, _, rfl⟩

end Go.Proofs.Ytgoalfiinfkldaa

/- What a call reads, as a function of the bytes and of where the reader stands; and that over a beginning of the bytes the same is read, until bytes are missing. -/
namespace Go.Proofs.Ytgoalfiinfkldaa

/-- what is read, and where the reader stands then: place, fault, its place -/
def byteF (bs : List UInt8) (a : Nat) (why wat : Int) : Nat × Nat × Int × Int :=
  if why ≠ 0 then (0, a, why, wat) else if a < bs.length then ((bs.getD a 0).toNat, a + 1, 0, wat) else (0, a, 4, a)
def uintF (bs : List UInt8) (a : Nat) (why wat : Int) : Nat × Nat × Int × Int :=
  if why ≠ 0 then (0, a, why, wat) else ((dec (bs.drop a) 0 0).2.1, a + (dec (bs.drop a) 0 0).2.2, (dec (bs.drop a) 0 0).1, watOf (dec (bs.drop a) 0 0).1 a wat)
def countF (bs : List UInt8) (a : Nat) (why wat m : Int) : Nat × Nat × Int × Int :=
  if why ≠ 0 then (0, a, why, wat) else if m < 0 then (0, a, 1, a) else ((upTo (bs.drop a) m.toNat 11).2.1, a + (upTo (bs.drop a) m.toNat 11).2.2, (upTo (bs.drop a) m.toNat 11).1, watOf (upTo (bs.drop a) m.toNat 11).1 a wat)
def boolF (bs : List UInt8) (a : Nat) (why wat : Int) : Bool × Nat × Int × Int :=
  if why ≠ 0 then (false, a, why, wat) else if a < bs.length then (if 1 < (bs.getD a 0).toNat then (false, a, 5, a) else ((((bs.getD a 0).toNat : Int) == 1), a + 1, 0, wat)) else (false, a, 4, a)
def textF (bs : List UInt8) (a : Nat) (why wat m : Int) : List UInt8 × Nat × Int × Int :=
  if why ≠ 0 then ([], a, why, wat) else if m < 0 then ([], a, 1, a) else ((wtxt (bs.drop a) m.toNat).2.1, a + (wtxt (bs.drop a) m.toNat).2.2, (wtxt (bs.drop a) m.toNat).1, watOf (wtxt (bs.drop a) m.toNat).1 a wat)
def listF (bs : List UInt8) (a : Nat) (why wat m n : Int) : List (List UInt8) × Nat × Int × Int :=
  if why ≠ 0 then ([], a, why, wat) else if m < 0 ∨ n < 0 then ([], a, 1, a) else if (lst (bs.drop a) m.toNat n.toNat).1 ≠ 0 then ([], a, (lst (bs.drop a) m.toNat n.toNat).1, ((a + (lst (bs.drop a) m.toNat n.toNat).2.2 : Nat) : Int)) else ((lst (bs.drop a) m.toNat n.toNat).2.1, a + (lst (bs.drop a) m.toNat n.toNat).2.2, 0, wat)
def rawF (bs : List UInt8) (a : Nat) (why wat m : Int) : List UInt8 × Nat × Int × Int :=
  if why ≠ 0 then ([], a, why, wat) else if m < 0 then ([], a, 1, a) else if bs.length - a < m.toNat then ([], a, 4, a) else ((bs.drop a).take m.toNat, a + m.toNat, 0, wat)

theorem drop_take' (bs : List UInt8) (n a : Nat) : (bs.take n).drop a = (bs.drop a).take (n - a) := by rw [List.drop_take]

theorem upTo_begin (l : List UInt8) (j most t : Nat) : upTo (l.take j) most t = upTo l most t ∨ upTo (l.take j) most t = (4, 0, 0) := by
  rcases dec_begin l j 0 0 with h | h
  · exact Or.inl (by unfold upTo; rw [h])
  · exact Or.inr (by unfold upTo; rw [h]; simp)
theorem txt_begin (l : List UInt8) (j most : Nat) : wtxt (l.take j) most = wtxt l most ∨ wtxt (l.take j) most = (4, [], 0) := by
  rcases upTo_begin l j most 3 with h | h
  · obtain ⟨er, n, k, hd⟩ : ∃ er n k, upTo l most 3 = (er, n, k) := ⟨_, _, _, rfl⟩
    unfold wtxt
    rw [h, hd]
    simp only
    by_cases he : er = 0
    · subst he
      simp only [ne_eq, not_true_eq_false, if_false]
      by_cases hl : (l.take j).length < k + n
      · exact Or.inr (by rw [if_pos hl])
      · have hl' := hl
        simp only [List.length_take, Nat.not_lt] at hl'
        rw [if_neg hl, if_neg (by omega)]
        refine Or.inl ?_
        rw [List.drop_take, List.take_take]
        have : min n (j - k) = n := by omega
        rw [this]
    · rw [if_pos he, if_pos he]; exact Or.inl rfl
  · exact Or.inr (by unfold wtxt; rw [h]; simp)
theorem lstR_begin : ∀ (n : Nat) (l : List UInt8) (j each : Nat), lstR n (l.take j) each = lstR n l each ∨ (lstR n (l.take j) each).1 = 4
  | 0, _, _, _ => Or.inl rfl
  | n + 1, l, j, each => by
    rcases txt_begin l j each with h | h
    · rw [lstR_succ, lstR_succ, h]
      obtain ⟨er, s, k, hd⟩ : ∃ er s k, wtxt l each = (er, s, k) := ⟨_, _, _, rfl⟩
      rw [hd]
      simp only
      by_cases he : er = 0
      · subst he
        simp only [ne_eq, not_true_eq_false, if_false]
        have hdt : (l.take j).drop k = (l.drop k).take (j - k) := List.drop_take ..
        rw [hdt]
        rcases lstR_begin n (l.drop k) (j - k) each with h2 | h2
        · rw [h2]; exact Or.inl rfl
        · refine Or.inr ?_
          rw [if_pos (by rw [h2]; decide)]
          exact h2
      · rw [if_pos he, if_pos he]; exact Or.inl rfl
    · refine Or.inr ?_
      rw [lstR_succ, h]
      simp
theorem lst_begin (l : List UInt8) (j most each : Nat) : lst (l.take j) most each = lst l most each ∨ (lst (l.take j) most each).1 = 4 := by
  rcases upTo_begin l j most 11 with h | h
  · obtain ⟨er, n, k, hd⟩ : ∃ er n k, upTo l most 11 = (er, n, k) := ⟨_, _, _, rfl⟩
    unfold lst
    rw [h, hd]
    simp only
    by_cases he : er = 0
    · subst he
      simp only [ne_eq, not_true_eq_false, if_false]
      have hdt : (l.take j).drop k = (l.drop k).take (j - k) := List.drop_take ..
      rw [hdt]
      rcases lstR_begin n (l.drop k) (j - k) each with h2 | h2
      · rw [h2]; exact Or.inl rfl
      · exact Or.inr h2
    · rw [if_pos he, if_pos he]; exact Or.inl rfl
  · exact Or.inr (by unfold lst; rw [h]; simp)

section
variable (bs : List UInt8) (n a : Nat) (why wat : Int)
theorem byteF_begin (h : (byteF (bs.take n) a why wat).2.2.1 ≠ 4) : byteF (bs.take n) a why wat = byteF bs a why wat := by
  unfold byteF at h ⊢
  by_cases hw : why ≠ 0
  · rw [if_pos hw, if_pos hw]
  · rw [if_neg hw] at h ⊢
    rw [if_neg hw]
    by_cases hl : a < (bs.take n).length
    · have hl2 : a < bs.length := by simp at hl; omega
      rw [if_pos hl, if_pos hl2]
      have : (bs.take n).getD a 0 = bs.getD a 0 := by
        have hn : a < n := by simp at hl; omega
        simp [List.getD_eq_getElem?_getD, hn]
      rw [this]
    · rw [if_neg hl] at h; exact absurd rfl h
theorem boolF_begin (h : (boolF (bs.take n) a why wat).2.2.1 ≠ 4) : boolF (bs.take n) a why wat = boolF bs a why wat := by
  unfold boolF at h ⊢
  by_cases hw : why ≠ 0
  · rw [if_pos hw, if_pos hw]
  · rw [if_neg hw] at h ⊢
    rw [if_neg hw]
    by_cases hl : a < (bs.take n).length
    · have hl2 : a < bs.length := by simp at hl; omega
      rw [if_pos hl, if_pos hl2]
      have : (bs.take n).getD a 0 = bs.getD a 0 := by
        have hn : a < n := by simp at hl; omega
        simp [List.getD_eq_getElem?_getD, hn]
      rw [this]
    · rw [if_neg hl] at h; exact absurd rfl h
theorem uintF_begin (h : (uintF (bs.take n) a why wat).2.2.1 ≠ 4) : uintF (bs.take n) a why wat = uintF bs a why wat := by
  unfold uintF at h ⊢
  rw [drop_take'] at h ⊢
  by_cases hw : why ≠ 0
  · rw [if_pos hw, if_pos hw]
  · rw [if_neg hw] at h ⊢
    rw [if_neg hw]
    rcases dec_begin (bs.drop a) (n - a) 0 0 with h2 | h2
    · rw [h2]
    · rw [h2] at h; exact absurd rfl h
theorem countF_begin (m : Int) (h : (countF (bs.take n) a why wat m).2.2.1 ≠ 4) : countF (bs.take n) a why wat m = countF bs a why wat m := by
  unfold countF at h ⊢
  rw [drop_take'] at h ⊢
  by_cases hw : why ≠ 0
  · rw [if_pos hw, if_pos hw]
  · rw [if_neg hw] at h ⊢
    rw [if_neg hw]
    by_cases hm : m < 0
    · rw [if_pos hm, if_pos hm]
    · rw [if_neg hm] at h ⊢
      rw [if_neg hm]
      rcases upTo_begin (bs.drop a) (n - a) m.toNat 11 with h2 | h2
      · rw [h2]
      · rw [h2] at h; exact absurd rfl h
theorem textF_begin (m : Int) (h : (textF (bs.take n) a why wat m).2.2.1 ≠ 4) : textF (bs.take n) a why wat m = textF bs a why wat m := by
  unfold textF at h ⊢
  rw [drop_take'] at h ⊢
  by_cases hw : why ≠ 0
  · rw [if_pos hw, if_pos hw]
  · rw [if_neg hw] at h ⊢
    rw [if_neg hw]
    by_cases hm : m < 0
    · rw [if_pos hm, if_pos hm]
    · rw [if_neg hm] at h ⊢
      rw [if_neg hm]
      rcases txt_begin (bs.drop a) (n - a) m.toNat with h2 | h2
      · rw [h2]
      · rw [h2] at h; exact absurd rfl h
theorem listF_begin (m k : Int) (h : (listF (bs.take n) a why wat m k).2.2.1 ≠ 4) : listF (bs.take n) a why wat m k = listF bs a why wat m k := by
  unfold listF at h ⊢
  rw [drop_take'] at h ⊢
  by_cases hw : why ≠ 0
  · rw [if_pos hw, if_pos hw]
  · rw [if_neg hw] at h ⊢
    rw [if_neg hw]
    by_cases hm : m < 0 ∨ k < 0
    · rw [if_pos hm, if_pos hm]
    · rw [if_neg hm] at h ⊢
      rw [if_neg hm]
      rcases lst_begin (bs.drop a) (n - a) m.toNat k.toNat with h2 | h2
      · rw [h2]
      · rw [if_pos (by rw [h2]; decide)] at h
        exact absurd (by rw [h2]; rfl) h
theorem rawF_begin (m : Int) (h : (rawF (bs.take n) a why wat m).2.2.1 ≠ 4) : rawF (bs.take n) a why wat m = rawF bs a why wat m := by
  unfold rawF at h ⊢
  rw [drop_take'] at h ⊢
  by_cases hw : why ≠ 0
  · rw [if_pos hw, if_pos hw]
  · rw [if_neg hw] at h ⊢
    rw [if_neg hw]
    by_cases hm : m < 0
    · rw [if_pos hm, if_pos hm]
    · rw [if_neg hm] at h ⊢
      rw [if_neg hm]
      by_cases hl : (bs.take n).length - a < m.toNat
      · rw [if_pos hl] at h; exact absurd rfl h
      · rw [if_neg hl, if_neg (by simp at hl; omega), List.take_take]
        have : min m.toNat (n - a) = m.toNat := by simp at hl; omega
        rw [this]
end

end Go.Proofs.Ytgoalfiinfkldaa

/- How many bytes a frame has, plainly. -/
namespace Go.Proofs.Ytgoalfiinfkldaa
open Go.RowKit

theorem dec_ten : ∀ (l : List UInt8) (i acc : Nat), i ≤ 9 → dec (l.take (10 - i)) i acc = dec l i acc
  | [], _, _, _ => by simp
  | c :: r, i, acc, hi => by
    rw [show 10 - i = (9 - i) + 1 by omega, List.take_succ_cons, dec_cons, dec_cons]
    split
    · rfl
    · split
      · rfl
      · split
        · rfl
        · rename_i h1 _ h3
          have : i ≤ 8 := by
            rcases Nat.lt_or_ge i 9 with h | h
            · omega
            · exact absurd ⟨by omega, by omega⟩ h1
          have ih := dec_ten r (i + 1) (acc + (c.toNat - 128) * 128 ^ i) (by omega)
          rw [show 10 - (i + 1) = 9 - i by omega] at ih
          exact ih
theorem dec_head (l : List UInt8) : dec (l.take (min l.length 10)) 0 0 = dec l 0 0 := by
  rcases Nat.le_total l.length 10 with h | h
  · rw [Nat.min_eq_left h, List.take_length]
  · rw [Nat.min_eq_right h]
    exact dec_ten l 0 0 (by omega)
/-- how many bytes, where the body begins, the error -/
def needP (bs : List UInt8) : Nat × Nat × Nat :=
  if (dec bs 0 0).1 = 4 then (0, 0, 0) else if (dec bs 0 0).1 ≠ 0 then (0, 0, (dec bs 0 0).1) else if 2097152 < (dec bs 0 0).2.1 then (0, 0, 3) else if (dec bs 0 0).2.1 = 0 then (0, 0, 70) else ((dec bs 0 0).2.2 + (dec bs 0 0).2.1 + 4, (dec bs 0 0).2.2, 0)

theorem cut_at {w : World} {v : Value} {bs : List UInt8} (h : Src w v bs) (k : Nat) (hk : k ≤ bs.length) :
    ∃ vx, Src w vx (bs.take k) ∧ (∀ W, (Instr.slice 30 v none (some (.int .i64 (k : Int))) none).run Try.prog W = .ok vx W) := by
  obtain ⟨hl, ⟨rfl, rfl⟩ | ⟨ad, cap, rfl, h1, h2, hlt, hc⟩⟩ := h
  · simp at hk
    subst hk
    exact ⟨.slice none 0 0, ⟨by simp, Or.inl ⟨rfl, rfl⟩⟩, fun W => by go_simp⟩
  · have hlen : (bs.take k).length = k := by simp; omega
    refine ⟨.slice (some ad) k cap, ⟨by omega, Or.inr ⟨ad, cap, by rw [hlen], by omega, h2, fun h0 => hlt (by omega), fun j hj => ?_⟩⟩, fun W => ?_⟩
    · rw [hlen] at hj
      rw [hc j (by omega)]
      simp [List.getD_eq_getElem?_getD, hj]
    · have hk2 : (k : Int) ≤ (cap : Int) := by omega
      go_simp

end Go.Proofs.Ytgoalfiinfkldaa

/- A region that draws its order, whose operations read, and whose callees may make memory: walked once. -/
namespace Go.Proofs.Ytgoalfiinfkldaa
open Go.RowKit

/-- a world in which all that was there is as it was -/
structure Bel (w : World) where
  out : World
  bel : Below w.heap.size w out
theorem bel_some (w : World) : Nonempty (Bel w) := ⟨⟨w, Below.refl _ _⟩⟩
theorem wp_region_quiet_bel {P : Program} {id : Nat} {Q : Exit → Act → World → Prop} {a : Act} {w : World} {l : List Oper} (hm : P.follows .mixedOrders = true) (hB : Region.lexB .any l.toArray = true)
    (h : wpQuiet P l.toArray (fun w' => ∃ p : Bel w, w' = p.out) (fun a' => ∀ w', (∃ p : Bel w, w' = p.out) → Q .normal a' w') l a) : (Code.region id l.toArray true).wp P Q a w :=
  wp_region_quiet (C := fun w' => ∃ p : Bel w, w' = p.out) hm hB ⟨⟨{ w with drawn := w.drawn + 1 }, ⟨rfl, rfl, rfl, Nat.le_refl _, fun _ _ => rfl⟩⟩, rfl⟩ (by simpa using h)
theorem Bel.cell {w : World} (p : Bel w) {b o : Nat} {v : Value} (h : w.cell? ⟨b, o, none⟩ = some v) (hb : b < w.heap.size) : p.out.cell? ⟨b, o, none⟩ = some v := (p.bel.cell (p := ⟨b, o, none⟩) hb).trans h
/-- a callee's contract, met in a world of the class -/
theorem bel_of {P : Program} {f : FuncId} {args : Array Value} {w : World} {p : Bel w} {v : Value}
    (h : Calls P f args p.out fun e w' => e = .returned v ∧ Below p.out.heap.size p.out w') : Calls P f args p.out fun e w'' => e = .returned v ∧ ∃ p' : Bel w, w'' = p'.out :=
  h.mono fun _ w' ⟨he, hb⟩ => ⟨he, ⟨w', p.bel.trans (hb.mono p.bel.size)⟩, rfl⟩
theorem bel_drew {P : Program} {f : FuncId} {args : Array Value} {w : World} {p : Bel w} {v : Value}
    (h : Calls P f args p.out fun e w' => e = .returned v ∧ ∃ n, w' = p.out.drewN n) : Calls P f args p.out fun e w'' => e = .returned v ∧ ∃ p' : Bel w, w'' = p'.out :=
  h.mono fun _ w' ⟨he, n, hw⟩ => ⟨he, ⟨w', by rw [hw]; exact ⟨p.bel.os, p.bel.tape, p.bel.output, p.bel.size, p.bel.block⟩⟩, rfl⟩
theorem bel_same {P : Program} {f : FuncId} {args : Array Value} {w : World} {p : Bel w} {v : Value}
    (h : Calls P f args p.out fun e w' => e = .returned v ∧ w' = p.out) : Calls P f args p.out fun e w'' => e = .returned v ∧ ∃ p' : Bel w, w'' = p'.out :=
  h.mono fun _ _ ⟨he, hw⟩ => ⟨he, p, hw⟩

end Go.Proofs.Ytgoalfiinfkldaa

/- Lists of texts are compared: slices.Equal, and the document's Same. -/
namespace Go.Proofs.Ytgoalfiinfkldaa
open Go.RowKit

theorem take_next {xs ys : List (List UInt8)} {k : Nat} (hl : xs.length = ys.length) (hk : k < xs.length) (h : xs.take k = ys.take k) (he : xs.getD k [] = ys.getD k []) : xs.take (k + 1) = ys.take (k + 1) := by
  have hk2 : k < ys.length := by omega
  rw [List.take_succ_eq_append_getElem hk, List.take_succ_eq_append_getElem hk2, h]
  simp only [List.getD_eq_getElem?_getD, List.getElem?_eq_getElem hk, List.getElem?_eq_getElem hk2, Option.getD_some] at he
  rw [he]
theorem ret_eq {b c : Bool} (h : b = c) : Ending.returned (.bool b) = .returned (.bool c) := by rw [h]

set_option maxRecDepth 100000 in
set_option maxHeartbeats 1000000 in
theorem eqs_any (va vb : Value) (xs ys : List (List UInt8)) (w : World) (ha : Strs w va xs) (hb : Strs w vb ys) (hn : xs.length ≤ 9223372036854775807) :
    Calls Try.prog 39 #[va, vb] w fun e w' => e = .returned (.bool (decide (xs = ys))) ∧ ∃ k, w' = w.drewN k := by
  obtain ⟨aa, ca, rfl⟩ := ha.shape
  obtain ⟨ab, cb, rfl⟩ := hb.shape
  have HA := hid ha
  have HB := hid hb
  clear ha hb
  by_cases hlen : xs.length = ys.length
  · have HL := hid hlen
    go_enter Try.func39, Try.ntmps39
    rw [← hlen]
    clear hlen
    go_wp2
    go_loopw [13] (fun i wr => ∃ k q : Nat, k ≤ xs.length ∧ i = .int .i64 k ∧ wr = w.drewN q ∧ Hid (xs.take k = ys.take k)) (fun i _ => xs.length - (intOf i).toNat)
    case atStart => exact ⟨0, 0, by omega, rfl, rfl, rfl⟩
    case round =>
      obtain ⟨k, q, hk, rfl, rfl, HT⟩ := hrel
      by_cases hlt : k < xs.length
      · obtain ⟨g1, o1, rfl, c1⟩ := HA.out.at k hlt
        obtain ⟨g2, o2, rfl, c2⟩ := HB.out.at k (by have := HL.out; omega)
        by_cases hxy : xs.getD k [] = ys.getD k []
        · have HN := hid (take_next HL.out hlt HT.out hxy)
          rw [← hxy] at c2
          generalize mk (xs.getD k []) = s at *
          have hki : (k : Int) < (xs.length : Int) := by omega
          have hd : decide ((k : Int) < (xs.length : Int)) = true := by simpa using hki
          clear hxy
          go_wp2_with fail
          go_quiet (fail)
          go_wp2_with fail
          go_roundw
          case rel => exact ⟨k + 1, q + nq, by omega, by go_num, rfl, HN⟩
          case measure => simp [intOf]; omega
        · have HF := hid (show (false : Bool) = decide (xs = ys) from (decide_eq_false (fun e => hxy (by rw [e]))).symm)
          have t1 : ¬ (mk (xs.getD k [])).toList = (mk (ys.getD k [])).toList := fun h9 => hxy ((bl_mk _).symm.trans (h9.trans (bl_mk _)))
          generalize mk (xs.getD k []) = s at c1 t1
          generalize mk (ys.getD k []) = u at c2 t1
          have t2 : (s.toList == u.toList) = false := by simpa using t1
          have t3 : (s.toList != u.toList) = true := by simpa using t1
          have hki : (k : Int) < (xs.length : Int) := by omega
          have hd : decide ((k : Int) < (xs.length : Int)) = true := by simpa using hki
          clear hxy
          go_wp2
          go_quiet (fail)
          go_wp2
          go_ret
          exact ⟨ret_eq HF.out, _, World.drewN_drewN _ _ _⟩
      · obtain rfl : k = xs.length := by omega
        have HT2 := hid (show (true : Bool) = decide (xs = ys) from (decide_eq_true (by
          have h1 := HT.out
          rw [List.take_length, HL.out, List.take_length] at h1
          exact h1)).symm)
        go_wp2
        go_ret
        exact ⟨ret_eq HT2.out, _, rfl⟩
  · have HF := hid (show (false : Bool) = decide (xs = ys) from (decide_eq_false (fun e => hlen (by rw [e]))).symm)
    have q1 : ((xs.length : Int) != (ys.length : Int)) = true := by simp; omega
    have q2 : ((xs.length : Int) == (ys.length : Int)) = false := by simp; omega
    have q3 : ¬ (xs.length : Int) = (ys.length : Int) := by omega
    clear hlen
    go_enter Try.func39, Try.ntmps39
    go_wp2
    go_ret
    exact ⟨ret_eq HF.out, 0, rfl⟩

set_option maxRecDepth 100000 in
set_option maxHeartbeats 1000000 in
theorem wsame_any (va vb : Value) (xs ys : List (List UInt8)) (w : World) (ha : Strs w va xs) (hb : Strs w vb ys) (hn : xs.length ≤ 9223372036854775807) :
    Calls Try.prog 38 #[va, vb] w fun e w' => e = .returned (.bool (decide (xs = ys))) ∧ ∃ k, w' = w.drewN k := by
  obtain ⟨aa, ca, rfl⟩ := ha.shape
  obtain ⟨ab, cb, rfl⟩ := hb.shape
  have HA := hid ha
  have HB := hid hb
  clear ha hb
  by_cases hlen : xs.length = ys.length
  · have HL := hid hlen
    go_enter Try.func38, Try.ntmps38
    rw [← hlen]
    clear hlen
    go_wp2
    go_loopw [5] (fun i wr => ∃ k q : Nat, k ≤ xs.length ∧ i = .int .i64 k ∧ wr = w.drewN q ∧ Hid (xs.take k = ys.take k)) (fun i _ => xs.length - (intOf i).toNat)
    case atStart => exact ⟨0, 0, by omega, rfl, rfl, rfl⟩
    case round =>
      obtain ⟨k, q, hk, rfl, rfl, HT⟩ := hrel
      by_cases hlt : k < xs.length
      · obtain ⟨g1, o1, rfl, c1⟩ := HA.out.at k hlt
        obtain ⟨g2, o2, rfl, c2⟩ := HB.out.at k (by have := HL.out; omega)
        by_cases hxy : xs.getD k [] = ys.getD k []
        · have HN := hid (take_next HL.out hlt HT.out hxy)
          rw [← hxy] at c2
          generalize mk (xs.getD k []) = s at *
          have hki : (k : Int) < (xs.length : Int) := by omega
          have hd : decide ((k : Int) < (xs.length : Int)) = true := by simpa using hki
          clear hxy
          go_wp2_with fail
          go_quiet (fail)
          go_wp2_with fail
          go_roundw
          case rel => exact ⟨k + 1, q + nq, by omega, by go_num, rfl, HN⟩
          case measure => simp [intOf]; omega
        · have HF := hid (show (false : Bool) = decide (xs = ys) from (decide_eq_false (fun e => hxy (by rw [e]))).symm)
          have t1 : ¬ (mk (xs.getD k [])).toList = (mk (ys.getD k [])).toList := fun h9 => hxy ((bl_mk _).symm.trans (h9.trans (bl_mk _)))
          generalize mk (xs.getD k []) = s at c1 t1
          generalize mk (ys.getD k []) = u at c2 t1
          have t2 : (s.toList == u.toList) = false := by simpa using t1
          have t3 : (s.toList != u.toList) = true := by simpa using t1
          have hki : (k : Int) < (xs.length : Int) := by omega
          have hd : decide ((k : Int) < (xs.length : Int)) = true := by simpa using hki
          clear hxy
          go_wp2
          go_quiet (fail)
          go_wp2
          go_ret
          exact ⟨ret_eq HF.out, _, World.drewN_drewN _ _ _⟩
      · obtain rfl : k = xs.length := by omega
        have HT2 := hid (show (true : Bool) = decide (xs = ys) from (decide_eq_true (by
          have h1 := HT.out
          rw [List.take_length, HL.out, List.take_length] at h1
          exact h1)).symm)
        go_wp2
        go_ret
        exact ⟨ret_eq HT2.out, _, rfl⟩
  · have HF := hid (show (false : Bool) = decide (xs = ys) from (decide_eq_false (fun e => hlen (by rw [e]))).symm)
    have q1 : ((xs.length : Int) != (ys.length : Int)) = true := by simp; omega
    have q2 : ((xs.length : Int) == (ys.length : Int)) = false := by simp; omega
    have q3 : ¬ (xs.length : Int) = (ys.length : Int) := by omega
    clear hlen
    go_enter Try.func38, Try.ntmps38
    go_wp2
    go_ret
    exact ⟨ret_eq HF.out, 0, rfl⟩

end Go.Proofs.Ytgoalfiinfkldaa

/- A frame: its fields, its cells, its block. -/
namespace Go.Proofs.Ytgoalfiinfkldaa
open Go.RowKit

theorem run_part_int {P : Program} (w : World) (e : TypeId) (k : IntKind) (he : P.underlying e = some (.int k)) (cs : Array Value) (i : Nat) (v : Value) (h : cs[i]? = some v) : (part e cs i).run P w = .ok v w := by
  have ha : (isAgg e).run P w = .ok false w := by
    unfold isAgg
    rw [Sem.run_bind, run_underlying he w]
    rfl
  simp [part, Sem.run_bind, ha, h]

/-- arrays of numbers, alike or not -/
theorem run_equaln {P : Program} (w : World) (d : Nat) (t e : TypeId) (n : Nat) (k : IntKind) (ht : P.underlying t = some (.array n e)) (he : P.underlying e = some (.int k)) (hs : (P.info? e).map (·.size) = some 1)
    (xs ys : List Int) (hx : xs.length = n) (hy : ys.length = n) : (Op.equalIn (d + 1 + 1) t (.agg (xs.map (Value.int k)).toArray) (.agg (ys.map (Value.int k)).toArray)).run P w = .ok (decide (xs = ys)) w := by
  have hsz : (sizeOf e).run P w = .ok 1 w := by
    cases hq : P.info? e with
    | none => rw [hq] at hs; cases hs
    | some i => rw [hq] at hs; simp at hs; simp [sizeOf, typeInfo, hq, hs]
  unfold Op.equalIn
  simp only [Sem.run_bind, run_underlying ht, Result.andThen_ok, hsz, Nat.mul_one]
  have key : ∀ (l : List Nat), (∀ i ∈ l, i < n) → ∀ (f : Nat → Option Bool × Unit → Sem (ForInStep (Option Bool × Unit))),
      (∀ i, i < n → (f i (none, ())).run P w = .ok (if xs.getD i 0 = ys.getD i 0 then .yield (none, ()) else .done (some false, ())) w) → (forIn l (none, ()) f).run P w = .ok (if ∀ i ∈ l, xs.getD i 0 = ys.getD i 0 then (none, ()) else (some false, ())) w := by
    intro l
    induction l with
    | nil => intro _ f _; simp
    | cons a r ih =>
      intro hl f hf
      simp only [List.forIn_cons, Sem.run_bind]
      rw [hf a (hl a (by simp))]
      by_cases hab : xs.getD a 0 = ys.getD a 0
      · rw [if_pos hab]
        simp only [Result.andThen_ok]
        rw [ih (fun i hi => hl i (by simp [hi])) f hf]
        simp only [List.mem_cons, forall_eq_or_imp, hab, true_and]
      · rw [if_neg hab]
        simp only [Result.andThen_ok, Sem.run_pure, List.mem_cons, forall_eq_or_imp, hab, false_and, if_false]
  rw [Std.Legacy.Range.forIn_eq_forIn_range']
  simp only [Std.Legacy.Range.size, Nat.sub_zero, Nat.add_one_sub_one, Nat.div_one]
  rw [key _ (fun i hi => by simpa using hi) _ (fun i hi => ?_)]
  · have hall : (∀ i ∈ List.range' 0 n, xs.getD i 0 = ys.getD i 0) ↔ xs = ys := by
      constructor
      · intro h
        apply List.ext_getElem (by omega)
        intro i h1 h2
        have := h i (by simp; omega)
        simpa [List.getD_eq_getElem?_getD, h1, h2] using this
      · intro h i _
        rw [h]
    by_cases h : xs = ys
    · rw [if_pos (hall.2 h), decide_eq_true h]
      simp
    · rw [if_neg (fun h2 => h (hall.1 h2)), decide_eq_false h]
      simp
  · have hc : (xs.map (Value.int k)).toArray[i]? = some (.int k (xs.getD i 0)) := by simp [List.getD_eq_getElem?_getD, show i < xs.length by omega]
    have hd : (ys.map (Value.int k)).toArray[i]? = some (.int k (ys.getD i 0)) := by simp [List.getD_eq_getElem?_getD, show i < ys.length by omega]
    simp only [Sem.run_bind, run_part_int w e k he _ i _ hc, run_part_int w e k he _ i _ hd, Result.andThen_ok, run_equalIn_int w d e k k _ _ he]
    generalize xs.getD i 0 = X
    generalize ys.getD i 0 = Y
    by_cases hab : X = Y
    · simp [hab]
    · simp [hab]
theorem dig_eql (a b : List UInt8) (ha : a.length = 32) (hb : b.length = 32) (W : World) : (binOp .eql 24 (.agg (bytesV a).toArray) (.agg (bytesV b).toArray)).run Try.prog W = .ok (.bool (decide (a = b))) W := by
  have e : ∀ c : List UInt8, bytesV c = (c.map fun x => (x.toNat : Int)).map (Value.int .u8) := fun c => by simp [bytesV]
  rw [e a, e b, run_eql_struct, run_equaln W 9998 24 5 32 .u8 Try.underlying24 Try.underlying5 (by kernel_rfl) _ _ (by simpa using ha) (by simpa using hb)]
  have : (decide (a.map (fun x => (x.toNat : Int)) = b.map (fun x => (x.toNat : Int)))) = decide (a = b) := by
    refine decide_eq_decide.2 ⟨fun h => ?_, fun h => by rw [h]⟩
    refine (List.map_inj_right ?_).1 h
    intro x y hxy
    exact UInt8.toNat_inj.1 (by omega)
  rw [this]
  rfl

theorem lim_run (a b c x y z : Int) (w : World) : (Op.equalIn 10000 26 (.agg #[.int .i64 a, .int .i64 b, .int .i64 c]) (.agg #[.int .i64 x, .int .i64 y, .int .i64 z])).run Try.prog w = .ok (a == x && b == y && c == z) w := by
  have hS : Try.prog.underlying 26 = some (.struct (Try.prog.fieldsOf 26)) := by kernel_rfl
  have hp : Try.prog.stoodInHeld 26 = false := by kernel_rfl
  have u3 := Try.underlying3
  have a3 := Try.isAgg3
  have z3 := Try.sizeOf3
  rw [show (10000 : Nat) = 9999 + 1 from rfl, run_equalIn_agg w 9999 26 _ _ hS hp]
  simp only [Program.fieldsOf, Try.underlying26]
  go_simp
  by_cases h1 : a = x <;> by_cases h2 : b = y <;> by_cases h3 : c = z <;> simp [h1, h2, h3]
theorem lim_eql (a b c x y z : Int) (w : World) : (binOp .eql 26 (.agg #[.int .i64 a, .int .i64 b, .int .i64 c]) (.agg #[.int .i64 x, .int .i64 y, .int .i64 z])).run Try.prog w = .ok (.bool (decide ((a, b, c) = (x, y, z)))) w := by
  rw [run_eql_struct, lim_run]
  have : (a == x && b == y && c == z) = decide ((a, b, c) = (x, y, z)) := by
    rw [Bool.eq_iff_iff]
    simp [and_assoc]
  rw [this]
  rfl

/-- a frame's fields -/
structure Fr where
  kind : Int
  id : Int
  ver : Int
  slots : Int
  tool : List UInt8
  status : Int
  lim : Int × Int × Int
  args : List (List UInt8)
  body : List UInt8
def fcells (f : Fr) (va : Value) : List Value := [.int .i64 f.kind, .int .u64 f.id, .int .i64 f.ver, .int .i64 f.slots] ++ (bytesV f.tool ++ [.int .i64 f.status, .int .i64 f.lim.1, .int .i64 f.lim.2.1, .int .i64 f.lim.2.2, va, .string (mk f.body)])
/-- all fields are the same -/
def sameP (f g : Fr) : Bool := decide (f.kind = g.kind ∧ f.id = g.id ∧ f.ver = g.ver ∧ f.slots = g.slots ∧ f.tool = g.tool ∧ f.status = g.status ∧ f.lim = g.lim ∧ f.args = g.args ∧ f.body = g.body)
theorem sameP_self (f : Fr) : sameP f f = true := by simp [sameP]
theorem sameP_symm (f g : Fr) : sameP f g = sameP g f := by
  unfold sameP
  exact decide_eq_decide.2 ⟨fun ⟨a, b, c, d, e, x, y, z, u⟩ => ⟨a.symm, b.symm, c.symm, d.symm, e.symm, x.symm, y.symm, z.symm, u.symm⟩, fun ⟨a, b, c, d, e, x, y, z, u⟩ => ⟨a.symm, b.symm, c.symm, d.symm, e.symm, x.symm, y.symm, z.symm, u.symm⟩⟩
theorem fcells_length (f : Fr) (va : Value) (h : f.tool.length = 32) : (fcells f va).length = 42 := by simp [fcells, bytesV, h]

/-- a frame's block -/
structure Fb (w : World) (b : Nat) (f : Fr) (va : Value) : Prop where
  intro ::
  k : w.cell? ⟨b, 0, none⟩ = some (.int .i64 f.kind)
  i : w.cell? ⟨b, 1, none⟩ = some (.int .u64 f.id)
  v : w.cell? ⟨b, 2, none⟩ = some (.int .i64 f.ver)
  s : w.cell? ⟨b, 3, none⟩ = some (.int .i64 f.slots)
  t : w.rangeAt b 4 (bytesV f.tool)
  st : w.cell? ⟨b, 36, none⟩ = some (.int .i64 f.status)
  l1 : w.cell? ⟨b, 37, none⟩ = some (.int .i64 f.lim.1)
  l2 : w.cell? ⟨b, 38, none⟩ = some (.int .i64 f.lim.2.1)
  l3 : w.cell? ⟨b, 39, none⟩ = some (.int .i64 f.lim.2.2)
  a : w.cell? ⟨b, 40, none⟩ = some va
  bd : w.cell? ⟨b, 41, none⟩ = some (.string (mk f.body))
theorem Fb.of {w : World} {b : Nat} {f : Fr} {va : Value} {t : TypeId} (h : w.heap[b]? = some (.cells (fcells f va).toArray t (0, 0))) (hl : f.tool.length = 32) : Fb w b f va := by
  have hb : (bytesV f.tool).length = 32 := by rw [bytesV_length, hl]
  have key : ∀ (i : Nat) (v : Value), (fcells f va)[i]? = some v → w.cell? ⟨b, i, none⟩ = some v := fun i v hv => by
    rw [cell_of_row w b i (fcells f va).toArray t (0, 0) h]
    simpa using hv
  have far : ∀ (j : Nat) (v : Value), ([Value.int .i64 f.status, .int .i64 f.lim.1, .int .i64 f.lim.2.1, .int .i64 f.lim.2.2, va, .string (mk f.body)])[j]? = some v → (fcells f va)[36 + j]? = some v := fun j v hv => by
    unfold fcells
    rw [List.getElem?_append_right (by simp; omega), List.getElem?_append_right (by rw [hb]; simp; omega), hb]
    rw [show 36 + j - [Value.int .i64 f.kind, .int .u64 f.id, .int .i64 f.ver, .int .i64 f.slots].length - 32 = j by simp; omega]
    exact hv
  refine ⟨key 0 _ rfl, key 1 _ rfl, key 2 _ rfl, key 3 _ rfl, ?_, key 36 _ (far 0 _ rfl), key 37 _ (far 1 _ rfl), key 38 _ (far 2 _ rfl), key 39 _ (far 3 _ rfl), key 40 _ (far 4 _ rfl), key 41 _ (far 5 _ rfl)⟩
  intro j v hv
  have hj : j < (bytesV f.tool).length := (List.getElem?_eq_some_iff.1 hv).1
  apply key
  unfold fcells
  rw [List.getElem?_append_right (by simp), List.getElem?_append_left (by simpa using hj)]
  simpa using hv
theorem tool_size (T : List UInt8) (h : T.length = 32) : (Try.prog.info? 24).map (·.size) = some (bytesV T).length := by rw [bytesV_length, h]; kernel_rfl
theorem Fb.tool {w : World} {b : Nat} {f : Fr} {va : Value} (h : Fb w b f va) (hl : f.tool.length = 32) : (Instr.loadAt 24 (.pointer (some ⟨b, 4, none⟩))).run Try.prog w = .ok (.agg (bytesV f.tool).toArray) w :=
  run_loadAt_mid w b 4 24 (bytesV f.tool) _ h.t Try.underlying24 rfl (tool_size f.tool hl)
theorem Fb.below {w w' : World} {b : Nat} {f : Fr} {va : Value} (h : Fb w b f va) (hb : b < w.heap.size) (hB : Below w.heap.size w w') : Fb w' b f va := by
  have c : ∀ {i : Nat} {v : Value}, w.cell? ⟨b, i, none⟩ = some v → w'.cell? ⟨b, i, none⟩ = some v := fun {i v} hc => (hB.cell (p := ⟨b, i, none⟩) hb).trans hc
  exact ⟨c h.k, c h.i, c h.v, c h.s, fun j v hv => c (h.t j v hv), c h.st, c h.l1, c h.l2, c h.l3, c h.a, c h.bd⟩
end Go.Proofs.Ytgoalfiinfkldaa

/- Toward Same: loads, and equality of what a frame holds. -/
namespace Go.Proofs.Ytgoalfiinfkldaa
open Go.RowKit

theorem limG : Try.prog.eqGuardType Try.prog.depth 26 = false := by kernel_rfl
theorem digG : Try.prog.eqGuardType Try.prog.depth 24 = false := by kernel_rfl
theorem ld_gd {P : Program} {w : World} {ops : Array Oper} {rest : List Oper} {o : Oper} {a : Act} {Q : Exit → Act → World → Prop} (hw : Region.wanted o (yielded ops a.tmps) = true) (ty : TypeId) (x : Operand) (ho : o.op = .load ty x)
    (b off : Nat) (hx : a.eval x = .pointer (some ⟨b, off, none⟩)) (cs : List Value) (d : TypeDesc) (hc : w.rangeAt b off cs)
    (hu : P.underlying ty = some d) (hd : d.isRow = true) (hi : (P.info? ty).map (·.size) = some cs.length)
    (h : wpList P ops Q rest (a.put o.dst (.agg cs.toArray)) w) : wpList P ops Q (o :: rest) a w := by
  unfold wpList
  rw [if_pos hw]
  exact Or.inl (wp_load_mid ty x ho b off hx cs d hc hu hd hi h)
theorem hp_two (w : World) (o p : Obj) : ((w.alloc o).alloc p).heap[w.heap.size]? = some o ∧ ((w.alloc o).alloc p).heap[w.heap.size + 1]? = some p := by
  constructor
  · rw [Below.heap_alloc (w.alloc o) p w.heap.size (by simp)]; exact hp_new w o
  · have := hp_new (w.alloc o) p
    simpa using this

end Go.Proofs.Ytgoalfiinfkldaa

/- A row among the operations of a region that draws its order, whose callees may make memory. -/
namespace Go.Proofs.Ytgoalfiinfkldaa
open Go.RowKit

theorem quiet_ld {P : Program} {a : Act} {o : Oper} {C : World → Prop} {K : Act → Prop} (ty : TypeId) (x : Operand) (ho : o.op = .load ty x) (b off : Nat) (hx : a.eval x = .pointer (some ⟨b, off, none⟩)) (cs : List Value) (d : TypeDesc) (hc : ∀ w, C w → w.rangeAt b off cs)
    (hu : P.underlying ty = some d) (hd : d.isRow = true) (hi : (P.info? ty).map (·.size) = some cs.length) (hk : K (a.put o.dst (.agg cs.toArray))) : o.quiet P a C K :=
  ⟨_, fun w hw => by
    unfold Oper.quietAt execOp
    simp only [ho, hx, Instr.loadAt, Instr.sureAddr, Sem.run_bind, Sem.run_pure, Result.andThen_ok, run_loadVar_mid w b off ty cs d (hc w hw) hu hd hi]
    exact ⟨rfl, rfl⟩, hk⟩
theorem Bel.range {w : World} {b off : Nat} {cs : List Value} (h : w.rangeAt b off cs) (hb : b < w.heap.size) : ∀ w', (∃ p : Bel w, w' = p.out) → w'.rangeAt b off cs := by
  rintro w' ⟨p, rfl⟩ j v hv
  exact p.cell (h j v hv) hb
theorem range_row {w : World} {b : Nat} {cs : List Value} {t : TypeId} (h : w.heap[b]? = some (.cells cs.toArray t (0, 0))) : w.rangeAt b 0 cs := fun j v hv => by
  rw [Nat.zero_add, cell_of_row w b j cs.toArray t (0, 0) h]
  simpa using hv
theorem frame_size (f : Fr) (va : Value) (h : f.tool.length = 32) : (Try.prog.info? 29).map (·.size) = some (fcells f va).length := by rw [fcells_length f va h]; kernel_rfl
end Go.Proofs.Ytgoalfiinfkldaa

/- An answer that is a whole row in a variable. -/
namespace Go.Proofs.Ytgoalfiinfkldaa
open Go.RowKit
variable {P : Program}



end Go.Proofs.Ytgoalfiinfkldaa

/- Whole arrays and structs out of a block and into it; an answer that lies in a variable. -/
namespace Go.Proofs.Ytgoalfiinfkldaa
open Go.RowKit

section
variable {P : Program}








end
section
variable {P : Program} {a : Act} {o : Oper} {C : World → Prop} {K : Act → Prop}
theorem quiet_bd (t : TypeId) (parts : Array (Nat × Operand)) (ho : o.op = .build t parts) (vs : List (Nat × Value)) (hvs : (parts.map fun (i, x) => (i, a.eval x)).toList = vs) (cs : Array Value) (hb : P.built t vs = some cs)
    (hk : K (a.put o.dst (.agg cs))) : o.quiet P a C K :=
  ⟨_, fun w _ => by
    unfold Oper.quietAt execOp
    simp only [ho, Sem.run_bind, run_build w t (parts.map fun (i, x) => (i, a.eval x)) cs (by rw [hvs]; exact hb), Sem.run_pure, Result.andThen_ok]
    exact ⟨rfl, rfl⟩, hk⟩
end
end Go.Proofs.Ytgoalfiinfkldaa

/- A region that draws its order: a head whose operations read and whose callees may make memory, in whatever order; then a tail in its one order. -/
namespace Go.Proofs.Ytgoalfiinfkldaa
open Go.RowKit
variable {P : Program} {ops : Array Oper} {md : Region.Mode} {C : World → Prop}

/-- so many operations of the head, whichever come up, each quiet in the class; behind them L -/
def HeadQ (P : Program) (md : Region.Mode) (ops : Array Oper) (C : World → Prop) (n : Nat) (L : Array Bool → Act → Prop) : Nat → Array Bool → Act → Prop
  | 0, s, a => L s a
  | f + 1, s, a => Region.ready md ops s ≠ [] ∧ ∀ i ∈ Region.ready md ops s, i < n ∧ qOp P ops C i (HeadQ P md ops C n L f (s.setIfInBounds i true)) a

theorem headQ_any {n g : Nat} {L : Array Bool → Act → Prop} {Q : Exit → Act → World → Prop} (hL : ∀ s a w, C w → L s a → wpAny P md ops Q g s a w) (f : Nat) :
    ∀ (s : Array Bool) (a : Act) (w : World), C w → HeadQ P md ops C n L f s a → wpAny P md ops Q (f + g) s a w := by
  induction f with
  | zero => intro s a w hw h; rw [Nat.zero_add]; exact hL s a w hw h
  | succ f ih =>
    intro s a w hw h
    rw [Nat.add_right_comm]
    refine ⟨fun e => absurd e h.1, fun i hi => ?_⟩
    exact wpOp_of_qOp hw (fun a' w' hw' h' => ih _ a' w' hw' h') (h.2 i hi).2

/-- what may come up may be taken first -/
theorem headQ_first {n i : Nat} {oi : Oper} {v : Value} {L : Array Bool → Act → Prop} (hi : ops[i]? = some oi) (hns : Region.noSelect ops = true)
    (hs : Region.sinkB md ops n = true) (hc : Region.chainB md ops n = true) (hn : n < ops.size) (hin : i < n) (hL : ∀ s a, L s a → ∀ j ∈ Region.ready md ops s, n ≤ j) (f : Nat) :
    ∀ (s : Array Bool) (a : Act), HeadInv md ops n s → (∀ j oj, ops[j]? = some oj → j ≠ i → s.getD j true = false → (∀ e ∈ oj.after, Region.binds md e = true → e.on ≠ i) → oi.apart ops oj = true) →
      i ∈ Region.ready md ops s → YieldsIn P ops C oi v a → HeadQ P md ops C n L f (s.setIfInBounds i true) (a.put oi.dst v) → HeadQ P md ops C n L (f + 1) s a := by
  have sel := Region.noSelect_spec hns
  induction f with
  | zero =>
    intro s a inv _ hr hy H
    refine ⟨fun e => (by rw [e] at hr; cases hr), fun j hj => ?_⟩
    have hjn : j < n := Nat.lt_of_not_le (fun h => tail_waits hs hc hn inv _ i rfl hin (mem_ready.1 hr).1 j h hj)
    refine ⟨hjn, ?_⟩
    by_cases e : j = i
    · subst e; exact hy.qOp hi H
    · exact absurd (hL _ _ H j (ready_mono hj e)) (by omega)
  | succ f ih =>
    intro s a inv hf hr hy H
    have hun := (mem_ready.1 hr).1
    refine ⟨fun e => (by rw [e] at hr; cases hr), fun j hj => ?_⟩
    have hjn : j < n := Nat.lt_of_not_le (fun h => tail_waits hs hc hn inv _ i rfl hin hun j h hj)
    refine ⟨hjn, ?_⟩
    by_cases e : j = i
    · subst e; exact hy.qOp hi H
    · obtain ⟨hju, oj, hoj, hall⟩ := mem_ready.1 hj
      have hno : ∀ x ∈ oj.after, Region.binds md x = true → x.on ≠ i := by
        intro x hx hb he
        have := hall x hx hb
        rw [he, getD_both hun] at this
        cases this
      refine qOp_mono (fun a' h => ih _ a' (inv.set hj hjn) ?_ (ready_mono hr (Ne.symm e)) h.1 ?_) (qOp_put hoj (hf j oj hoj e hju hno) (fun cs b => sel i oi cs b hi) (fun cs b => sel j oj cs b hoj) hy (H.2 j (ready_mono hj e)).2)
      · intro k ok hk hki hu hn'
        refine hf k ok hk hki ?_ hn'
        by_cases hjk : j = k
        · subst hjk; exact hju
        · rwa [getD_set_ne true hjk] at hu
      · rw [Array.setIfInBounds_comm _ _ e]; exact h.2

theorem headQ_lex {n g : Nat} {K : Act → Prop} (hns : Region.noSelect ops = true) (hs : Region.sinkB md ops n = true) (hc : Region.chainB md ops n = true) (hn : n < ops.size) (l : List Oper) :
    ∀ (k : Nat) (s : Array Bool) (a : Act), (∀ j, j < l.length → l[j]? = ops[k + j]?) → k + l.length = n → HeadInv md ops n s → Region.lexHead md ops g l.length k s = true → wpQuiet P ops C K l a →
      HeadQ P md ops C n (fun s' a' => Region.seqB md ops g n s' = true ∧ K a') l.length s a := by
  induction l with
  | nil =>
    intro k s a _ hk _ hB h
    obtain rfl : k = n := by simpa using hk
    exact ⟨hB, h⟩
  | cons o l ih =>
    intro k s a hl hk inv hB h
    have h0 : ops[k]? = some o := by simpa using (hl 0 (by simp)).symm
    simp only [List.length_cons] at hk
    simp only [List.length_cons, Region.lexHead, Bool.and_eq_true] at hB
    have hr : k ∈ Region.ready md ops s := by simpa using hB.1.1
    obtain ⟨v, hy, hK⟩ := yieldsIn_of_qOp (K := wpQuiet P ops C K l) h0 (by unfold qOp; simp only [h0]; exact h)
    refine headQ_first h0 hns hs hc hn (by omega) (fun s' a' hL => seqB_ready hL.1) l.length s a inv (Region.free_spec h0 hB.1.2) hr hy ?_
    refine ih (k + 1) _ _ (fun j hj => ?_) (by omega) (inv.set hr (by omega)) hB.2 hK
    have := hl (j + 1) (by simpa using hj)
    simpa [Nat.add_assoc, Nat.add_comm 1 j] using this

/-- the head quiet in the class 'all that was there is as it was', the tail one by one -/
theorem wp_region_bel_tail {id : Nat} {Q : Exit → Act → World → Prop} {a : Act} {w : World} {l : List Oper} (n : Nat) (hm : P.follows .mixedOrders = true) (hB : Region.lexTailB .any l.toArray n = true)
    (h : wpQuiet P l.toArray (fun w' => ∃ p : Bel w, w' = p.out) (fun a' => ∀ w', (∃ p : Bel w, w' = p.out) → wpList P l.toArray Q (l.drop n) a' w') (l.take n) a) : (Code.region id l.toArray true).wp P Q a w := by
  simp only [Region.lexTailB, Bool.and_eq_true, decide_eq_true_eq] at hB
  obtain ⟨⟨⟨⟨hns, hn⟩, hs⟩, hc⟩, hlex⟩ := hB
  have hn' : n < l.length := by simpa using hn
  have e1 : (l.take n).length = n := by rw [List.length_take]; omega
  have e2 : (l.drop n).length = l.toArray.size - n := by simp
  have inv : HeadInv .any l.toArray n (Array.replicate l.toArray.size false) :=
    ⟨by simp, fun j oj _ hl => (by rw [getD_replicate_false] at hl; cases hl), fun t _ ht => getD_in (by simpa using ht) (getD_replicate_false _ _)⟩
  have H := headQ_lex (md := .any) (g := l.toArray.size - n) hns hs hc hn (l.take n) 0 _ a (fun j hj => by
    rw [e1] at hj
    simp [hj]) (by simpa using e1) inv (by rw [e1]; exact hlex) h
  refine wp_region_any hm ?_
  have := headQ_any (Q := Q) (g := l.toArray.size - n) (fun s a' w' hw' hL => by
    have := wpAny_of_seq (md := .any) (Q' := Q) (l.drop n) n s a' w' (fun j => by simp [List.getElem?_drop]) (by rw [e2]; exact hL.1) (hL.2 w' hw')
    rwa [e2] at this) _ _ _ _ (show ∃ p : Bel w, { w with drawn := w.drawn + 1 } = p.out from ⟨⟨{ w with drawn := w.drawn + 1 }, ⟨rfl, rfl, rfl, Nat.le_refl _, fun _ _ => rfl⟩⟩, rfl⟩) H
  rw [e1, show n + (l.toArray.size - n) = l.toArray.size by omega] at this
  exact this

end Go.Proofs.Ytgoalfiinfkldaa

/- The six makers of frames. -/
namespace Go.Proofs.Ytgoalfiinfkldaa
open Go.RowKit Go.BigFrame

/-- the zero frame -/
def zF : Fr := ⟨0, 0, 0, 0, List.replicate 32 0, 0, (0, 0, 0), [], []⟩
def helloF (s : Int) (T : List UInt8) : Fr := ⟨1, 0, 1, s, T, 0, (0, 0, 0), [], []⟩
def reqF (i : Int) (l : Int × Int × Int) (A : List (List UInt8)) (b : List UInt8) : Fr := ⟨2, i, 0, 0, List.replicate 32 0, 0, l, A, b⟩
def resF (i s : Int) (b : List UInt8) : Fr := ⟨3, i, 0, 0, List.replicate 32 0, s, (0, 0, 0), [], b⟩
def canF (i : Int) : Fr := ⟨4, i, 0, 0, List.replicate 32 0, 0, (0, 0, 0), [], []⟩
def byeF : Fr := ⟨5, 0, 0, 0, List.replicate 32 0, 0, (0, 0, 0), [], []⟩
def noteF (b : List UInt8) : Fr := ⟨6, 0, 0, 0, List.replicate 32 0, 0, (0, 0, 0), [], b⟩
abbrev nS : Value := .slice none 0 0

theorem below_then {a b c : World} (h : Below a.heap.size a b) (k : Below b.heap.size b c) : Below a.heap.size a c := h.trans (k.mono h.size)
theorem zeroFrame : ∀ w, (zeroValue 29).run Try.prog w = .ok (.agg (fcells zF nS).toArray) w := fun w => by
  have h : (Try.prog.info? 29).bind (·.zero) = some (.agg (fcells zF nS).toArray) := by kernel_rfl
  cases hi : Try.prog.info? 29 with
  | none => rw [hi] at h; cases h
  | some i =>
    rw [hi] at h
    simp only [Option.bind_some] at h
    simp [zeroValue, typeInfo, hi, h]
theorem list32 {T : List UInt8} (h : T.length = 32) : ∃ t0 t1 t2 t3 t4 t5 t6 t7 t8 t9 t10 t11 t12 t13 t14 t15 t16 t17 t18 t19 t20 t21 t22 t23 t24 t25 t26 t27 t28 t29 t30 t31, T = [t0, t1, t2, t3, t4, t5, t6, t7, t8, t9, t10, t11, t12, t13, t14, t15, t16, t17, t18, t19, t20, t21, t22, t23, t24, t25, t26, t27, t28, t29, t30, t31] := by
  match T, h with
  | [t0, t1, t2, t3, t4, t5, t6, t7, t8, t9, t10, t11, t12, t13, t14, t15, t16, t17, t18, t19, t20, t21, t22, t23, t24, t25, t26, t27, t28, t29, t30, t31], _ => exact ⟨t0, t1, t2, t3, t4, t5, t6, t7, t8, t9, t10, t11, t12, t13, t14, t15, t16, t17, t18, t19, t20, t21, t22, t23, t24, t25, t26, t27, t28, t29, t30, t31, rfl⟩
theorem built_hello32 (s : Int) (t0 t1 t2 t3 t4 t5 t6 t7 t8 t9 t10 t11 t12 t13 t14 t15 t16 t17 t18 t19 t20 t21 t22 t23 t24 t25 t26 t27 t28 t29 t30 t31 : UInt8) : Try.prog.built 29 [(0, .int .i64 1), (2, .int .i64 1), (3, .int .i64 s), (4, .agg (bytesV [t0, t1, t2, t3, t4, t5, t6, t7, t8, t9, t10, t11, t12, t13, t14, t15, t16, t17, t18, t19, t20, t21, t22, t23, t24, t25, t26, t27, t28, t29, t30, t31]).toArray)] = some (fcells (helloF s [t0, t1, t2, t3, t4, t5, t6, t7, t8, t9, t10, t11, t12, t13, t14, t15, t16, t17, t18, t19, t20, t21, t22, t23, t24, t25, t26, t27, t28, t29, t30, t31]) nS).toArray := by kernel_rfl
theorem built_hello (s : Int) (T : List UInt8) (h : T.length = 32) : Try.prog.built 29 [(0, .int .i64 1), (2, .int .i64 1), (3, .int .i64 s), (4, .agg (bytesV T).toArray)] = some (fcells (helloF s T) nS).toArray := by
  obtain ⟨t0, t1, t2, t3, t4, t5, t6, t7, t8, t9, t10, t11, t12, t13, t14, t15, t16, t17, t18, t19, t20, t21, t22, t23, t24, t25, t26, t27, t28, t29, t30, t31, rfl⟩ := list32 h
  exact built_hello32 s t0 t1 t2 t3 t4 t5 t6 t7 t8 t9 t10 t11 t12 t13 t14 t15 t16 t17 t18 t19 t20 t21 t22 t23 t24 t25 t26 t27 t28 t29 t30 t31
theorem built_req (i a b c : Int) (ao : Option Addr) (n k : Nat) (B : List UInt8) (A : List (List UInt8)) : Try.prog.built 29 [(0, .int .i64 2), (1, .int .u64 i), (6, .agg #[.int .i64 a, .int .i64 b, .int .i64 c]), (7, .slice ao n k), (8, .string (mk B))] = some (fcells (reqF i (a, b, c) A B) (.slice ao n k)).toArray := by kernel_rfl
theorem built_res (i s : Int) (B : List UInt8) : Try.prog.built 29 [(0, .int .i64 3), (1, .int .u64 i), (5, .int .i64 s), (8, .string (mk B))] = some (fcells (resF i s B) nS).toArray := by kernel_rfl
theorem built_can (i : Int) : Try.prog.built 29 [(0, .int .i64 4), (1, .int .u64 i)] = some (fcells (canF i) nS).toArray := by kernel_rfl
theorem built_bye : Try.prog.built 29 [(0, .int .i64 5)] = some (fcells byeF nS).toArray := by kernel_rfl
theorem built_note (B : List UInt8) : Try.prog.built 29 [(0, .int .i64 6), (8, .string (mk B))] = some (fcells (noteF B) nS).toArray := by kernel_rfl
theorem fcells_one (f : Fr) (va : Value) (h : va.oneCell' = true) : ∀ v ∈ fcells f va, v.oneCell' = true := by
  intro v hv
  simp only [fcells, List.mem_append, List.mem_cons, List.not_mem_nil, or_false] at hv
  rcases hv with (rfl | rfl | rfl | rfl) | hv | rfl | rfl | rfl | rfl | rfl | rfl
  all_goals first | rfl | exact h | skip
  simp only [bytesV, List.mem_map] at hv
  obtain ⟨c, _, rfl⟩ := hv
  rfl
theorem zlen : (fcells zF nS).toArray.size = 42 := rfl

set_option maxRecDepth 100000 in
set_option maxHeartbeats 1000000 in
theorem bye_any  (w : World) :
    Calls Try.prog 29 #[] w fun e w' => e = .returned (.agg (fcells (byeF) nS).toArray) ∧ Below w.heap.size w w' := by
  have HSZ := hid (frame_size (byeF) nS rfl)
  have HON := hid (fcells_one (byeF) nS rfl)
  go_enter Try.func29, Try.ntmps29
  go_wp2_with (first
    | (refine al_row (by rfl) 29 (by rfl) _ zeroFrame ?_)
    | (refine bd_row (by rfl) 29 _ (by rfl) _ (by rfl) _ (built_bye) ?_)
    | (refine st_new (by rfl) 29 _ _ (by rfl) (fcells (byeF) nS) (by rfl) (by rfl) 29 _ HSZ.out rfl HON.out ?_))
  refine ret_row 0 29 rfl w.heap.size rfl (fcells (byeF) nS) 29 (hp_new w _) _ Try.underlying29 rfl HSZ.out rfl ⟨rfl, below_walk w _⟩

theorem Below.of_gb {w W W' : World} {b : Nat} (h : Below w.heap.size w W) (hg : W.grownBy W' (some b)) (hb : w.heap.size ≤ b) : Below w.heap.size w W' :=
  ⟨hg.os.trans h.os, hg.tape.trans h.tape, hg.output.trans h.output, Nat.le_trans h.size hg.size, fun k hk => (hg.block k (Nat.lt_of_lt_of_le hk h.size) (by simp; omega)).trans (h.block k hk)⟩

end Go.Proofs.Ytgoalfiinfkldaa

/- One contract for each reading call of a made reader, by what it reads. -/
namespace Go.Proofs.Ytgoalfiinfkldaa
open Go.RowKit

section

variable {base b : Nat} {v : Value} {bs : List UInt8} {a : Nat} {why wat : Int} {w : World}

theorem uint_R (h : Rd w base b v bs a why wat) :
    Calls Try.prog 31 #[.pointer (some ⟨b, 0, none⟩)] w fun e w' => e = .returned (.int .u64 (uintF bs a why wat).1) ∧ Rd w' base b v bs (uintF bs a why wat).2.1 (uintF bs a why wat).2.2.1 (uintF bs a why wat).2.2.2 ∧ w.grownBy w' (some b) := by
  unfold uintF
  by_cases hw : why ≠ 0
  · rw [if_pos hw]
    refine (uint_over _ _ _ _ _ _ _ _ h hw).mono ?_
    rintro e w' ⟨rfl, rfl⟩
    exact ⟨rfl, h, gb_refl _ _⟩
  · rw [if_neg hw]
    obtain rfl : why = 0 := by omega
    exact uint_go _ _ _ _ _ _ _ h _ _ _ rfl

theorem uintF_lt (bs : List UInt8) (a : Nat) (why wat : Int) : (uintF bs a why wat).1 < 18446744073709551616 := by
  unfold uintF
  by_cases hw : why ≠ 0
  · rw [if_pos hw]; simp
  · rw [if_neg hw]
    obtain ⟨er, n, k, hd⟩ : ∃ er n k, dec (bs.drop a) 0 0 = (er, n, k) := ⟨_, _, _, rfl⟩
    rw [hd]
    exact (dec_le _ hd).2.1

theorem count_R (m : Int) (hm : m ≤ 9223372036854775807) (h : Rd w base b v bs a why wat) :
    Calls Try.prog 71 #[.pointer (some ⟨b, 0, none⟩), .int .i64 m] w fun e w' => e = .returned (.int .i64 (countF bs a why wat m).1) ∧ Rd w' base b v bs (countF bs a why wat m).2.1 (countF bs a why wat m).2.2.1 (countF bs a why wat m).2.2.2 ∧ w.grownBy w' (some b) := by
  unfold countF
  by_cases hw : why ≠ 0
  · rw [if_pos hw]
    exact count_over _ _ _ _ _ _ _ _ m h hw
  · rw [if_neg hw]
    obtain rfl : why = 0 := by omega
    by_cases h0 : m < 0
    · rw [if_pos h0]
      exact count_arg _ _ _ _ _ _ _ m h h0
    · rw [if_neg h0]
      obtain ⟨k, rfl⟩ : ∃ k : Nat, m = k := ⟨m.toNat, by omega⟩
      exact count_go _ _ _ _ _ _ _ k (by omega) h _ _ _ rfl

theorem countF_lt (bs : List UInt8) (a : Nat) (why wat m : Int) (hm : m ≤ 9223372036854775807) : (countF bs a why wat m).1 ≤ 9223372036854775807 := by
  unfold countF
  by_cases hw : why ≠ 0
  · rw [if_pos hw]; simp
  · rw [if_neg hw]
    by_cases h0 : m < 0
    · rw [if_pos h0]; simp
    · rw [if_neg h0]
      obtain ⟨er, n, k, hd⟩ : ∃ er n k, upTo (bs.drop a) m.toNat 11 = (er, n, k) := ⟨_, _, _, rfl⟩
      have := (upTo_le hd).2.1
      rw [hd]
      show n ≤ _
      omega

theorem text_R (m : Int) (hm : m ≤ 9223372036854775807) (hbl : bs.length ≤ 140737488355327) (h : Rd w base b v bs a why wat) :
    Calls Try.prog 104 #[.pointer (some ⟨b, 0, none⟩), .int .i64 m] w fun e w' => e = .returned (.string ⟨(textF bs a why wat m).1.toArray⟩) ∧ Rd w' base b v bs (textF bs a why wat m).2.1 (textF bs a why wat m).2.2.1 (textF bs a why wat m).2.2.2 ∧ w.grownBy w' (some b) := by
  unfold textF
  by_cases hw : why ≠ 0
  · rw [if_pos hw]
    exact textr_over _ _ _ _ _ _ _ _ m h hw
  · rw [if_neg hw]
    obtain rfl : why = 0 := by omega
    by_cases h0 : m < 0
    · rw [if_pos h0]
      exact textr_arg _ _ _ _ _ _ _ m h h0
    · rw [if_neg h0]
      obtain ⟨k, rfl⟩ : ∃ k : Nat, m = k := ⟨m.toNat, by omega⟩
      exact textr_go _ _ _ _ _ _ _ k (by omega) h hbl _ _ _ rfl

theorem textF_len (bs : List UInt8) (a : Nat) (why wat m : Int) : (textF bs a why wat m).1.length ≤ bs.length := by
  unfold textF
  by_cases hw : why ≠ 0
  · rw [if_pos hw]; simp
  · rw [if_neg hw]
    by_cases h0 : m < 0
    · rw [if_pos h0]; simp
    · rw [if_neg h0]
      show (wtxt (bs.drop a) m.toNat).2.1.length ≤ _
      obtain ⟨er, s, k, hd⟩ : ∃ er s k, wtxt (bs.drop a) m.toNat = (er, s, k) := ⟨_, _, _, rfl⟩
      rw [hd]
      by_cases he : er = 0
      · subst he
        obtain ⟨_, h2, _, h4⟩ := txt_ok hd
        simp at h4
        show s.length ≤ _
        omega
      · rw [((txt_le hd).2.2 he).1]; simp

theorem list_R (m n : Int) (hm : m ≤ 9223372036854775807) (hn : n ≤ 9223372036854775807) (hbl : bs.length ≤ 1099511627776) (h : Rd w base b v bs a why wat) :
    Calls Try.prog 103 #[.pointer (some ⟨b, 0, none⟩), .int .i64 m, .int .i64 n] w fun e w' => ∃ v', e = .returned v' ∧ WOwnS w' w.heap.size v' (listF bs a why wat m n).1 ∧ Rd w' base b v bs (listF bs a why wat m n).2.1 (listF bs a why wat m n).2.2.1 (listF bs a why wat m n).2.2.2 ∧ w.grownBy w' (some b) := by
  unfold listF
  by_cases hw : why ≠ 0
  · rw [if_pos hw]
    refine (listr_over _ _ _ _ _ _ _ _ m n h hw).mono ?_
    rintro e w' ⟨rfl, hr⟩
    exact ⟨_, rfl, WOwnS.nil _ _, hr⟩
  · rw [if_neg hw]
    obtain rfl : why = 0 := by omega
    by_cases h0 : m < 0 ∨ n < 0
    · rw [if_pos h0]
      refine (listr_arg _ _ _ _ _ _ _ m n h h0).mono ?_
      rintro e w' ⟨rfl, hr⟩
      exact ⟨_, rfl, WOwnS.nil _ _, hr⟩
    · rw [if_neg h0]
      obtain ⟨k, rfl⟩ : ∃ k : Nat, m = k := ⟨m.toNat, by omega⟩
      obtain ⟨j, rfl⟩ : ∃ j : Nat, n = j := ⟨n.toNat, by omega⟩
      simp only [Int.toNat_natCast]
      refine (listr_go _ _ _ _ _ _ _ k j (by omega) (by omega) h hbl _ _ _ rfl).mono ?_
      rintro e w' ⟨v', rfl, ho, hnil, h1, h2, hg⟩
      by_cases he : (lst (bs.drop a) k j).1 ≠ 0
      · rw [if_pos he]
        obtain rfl := hnil he
        exact ⟨_, rfl, WOwnS.nil _ _, h2 he, hg⟩
      · rw [if_neg he]
        exact ⟨_, rfl, ho, h1 (Decidable.not_not.1 he), hg⟩

theorem listF_len (bs : List UInt8) (a : Nat) (why wat m n : Int) : (txs ((listF bs a why wat m n).1.map mk)).length ≤ bs.length := by
  unfold listF
  by_cases hw : why ≠ 0
  · rw [if_pos hw]; simp [txs]
  · rw [if_neg hw]
    by_cases h0 : m < 0 ∨ n < 0
    · rw [if_pos h0]; simp [txs]
    · rw [if_neg h0]
      obtain ⟨er, ts, k, hd⟩ : ∃ er ts k, lst (bs.drop a) m.toNat n.toNat = (er, ts, k) := ⟨_, _, _, rfl⟩
      rw [hd]
      by_cases he : er ≠ 0
      · rw [if_pos he]; simp [txs]
      · rw [if_neg he]
        obtain rfl : er = 0 := by omega
        obtain ⟨h1, h2⟩ := lst_ok hd
        show (txs (ts.map mk)).length ≤ _
        have := congrArg List.length h1
        unfold ls at this
        simp at this h2
        omega

theorem raw_R (m : Int) (hm : m ≤ 9223372036854775807) (hbl : bs.length ≤ 140737488355327) (h : Rd w base b v bs a why wat) :
    Calls Try.prog 98 #[.pointer (some ⟨b, 0, none⟩), .int .i64 m] w fun e w' => ∃ v', e = .returned v' ∧ OwnB w' w.heap.size v' (rawF bs a why wat m).1 ∧ Rd w' base b v bs (rawF bs a why wat m).2.1 (rawF bs a why wat m).2.2.1 (rawF bs a why wat m).2.2.2 ∧ w.grownBy w' (some b) := by
  unfold rawF
  by_cases hw : why ≠ 0
  · rw [if_pos hw]
    refine (rawr_over _ _ _ _ _ _ _ _ m h hw).mono ?_
    rintro e w' ⟨rfl, hr⟩
    exact ⟨_, rfl, OwnB.nil _ _, hr⟩
  · rw [if_neg hw]
    obtain rfl : why = 0 := by omega
    by_cases h0 : m < 0
    · rw [if_pos h0]
      refine (rawr_arg _ _ _ _ _ _ _ m h h0).mono ?_
      rintro e w' ⟨rfl, hr⟩
      exact ⟨_, rfl, OwnB.nil _ _, hr⟩
    · rw [if_neg h0]
      obtain ⟨k, rfl⟩ : ∃ k : Nat, m = k := ⟨m.toNat, by omega⟩
      simp only [Int.toNat_natCast]
      have hle := h.le
      by_cases hl : bs.length - a < k
      · rw [if_pos hl]
        refine (rawr_short _ _ _ _ _ _ _ k h hl).mono ?_
        rintro e w' ⟨rfl, hr⟩
        exact ⟨_, rfl, OwnB.nil _ _, hr⟩
      · rw [if_neg hl]
        exact rawr_ok _ _ _ _ _ _ _ k h hbl (by omega)

theorem rawF_len (bs : List UInt8) (a : Nat) (why wat m : Int) : (rawF bs a why wat m).1.length ≤ bs.length := by
  unfold rawF
  by_cases hw : why ≠ 0
  · rw [if_pos hw]; simp
  · rw [if_neg hw]
    by_cases h0 : m < 0
    · rw [if_pos h0]; simp
    · rw [if_neg h0]
      split <;> simp <;> omega

end

end Go.Proofs.Ytgoalfiinfkldaa

/- The document's reader: what it means that a block is one; its calls fail and short, and New. -/
namespace Go.Proofs.Ytgoalfiinfkldaa
open Go.RowKit

/-- block b is a reader of the document's: its bytes, its place, its fault -/
structure Qd (w : World) (base b : Nat) (v : Value) (bs : List UInt8) (a : Nat) (why wat : Int) : Prop where
  lo : base ≤ b
  blk : w.heap[b]? = some (.cells #[v, .int .i64 a, .int .i64 why, .int .i64 wat] 76 (0, 0))
  own : OwnB w base v bs
  ne : v.ownBlock ≠ some b
  le : a ≤ bs.length

section
variable {w w' : World} {base b : Nat} {v : Value} {bs : List UInt8} {a : Nat} {why wat : Int}
theorem Qd.lt (h : Qd w base b v bs a why wat) : b < w.heap.size := by
  rcases Nat.lt_or_ge b w.heap.size with h1 | h1
  · exact h1
  · have := h.blk; rw [Array.getElem?_eq_none h1] at this; cases this
theorem Qd.c0 (h : Qd w base b v bs a why wat) : w.cell? ⟨b, 0, none⟩ = some v := by simp [World.cell?, h.blk]
theorem Qd.c1 (h : Qd w base b v bs a why wat) : w.cell? ⟨b, 1, none⟩ = some (.int .i64 a) := by simp [World.cell?, h.blk]
theorem Qd.c2 (h : Qd w base b v bs a why wat) : w.cell? ⟨b, 2, none⟩ = some (.int .i64 why) := by simp [World.cell?, h.blk]
theorem Qd.c3 (h : Qd w base b v bs a why wat) : w.cell? ⟨b, 3, none⟩ = some (.int .i64 wat) := by simp [World.cell?, h.blk]
theorem Qd.fz (h : Qd w base b v bs a why wat) (i : Nat) : w.frozen? ⟨b, i, none⟩ = false := by simp [World.frozen?, h.blk]
theorem Qd.grown {row : Option Nat} (h : Qd w base b v bs a why wat) (hg : w.grownBy w' row) (hb : row ≠ some b) (hv : v.ownBlock = none ∨ v.ownBlock ≠ row) : Qd w' base b v bs a why wat :=
  ⟨h.lo, (hg.block b h.lt (fun e => hb e.symm)).trans h.blk, h.own.kept hg hv, h.ne, h.le⟩
theorem Qd.below (h : Qd w base b v bs a why wat) (hb : Below w.heap.size w w') : Qd w' base b v bs a why wat :=
  ⟨h.lo, (hb.block b h.lt).trans h.blk, h.own.below hb, h.ne, h.le⟩
theorem Qd.drewN (h : Qd w base b v bs a why wat) (k : Nat) : Qd (w.drewN k) base b v bs a why wat := ⟨h.lo, h.blk, h.own, h.ne, h.le⟩
theorem Qd.drew (h : Qd w base b v bs a why wat) : Qd w.drew base b v bs a why wat := ⟨h.lo, h.blk, h.own, h.ne, h.le⟩
theorem Qd.setAt (h : Qd w base b v bs a why wat) (a' : Nat) (h' : a' ≤ bs.length) : Qd (w.setCell ⟨b, 1, none⟩ (.int .i64 a')) base b v bs a' why wat :=
  ⟨h.lo, blk_set h.blk _, h.own.kept (gb_set w _ _) (Or.inr (by simpa using h.ne)), h.ne, h'⟩
theorem Qd.setFault (h : Qd w base b v bs a why wat) (e x : Int) : Qd ((w.setCell ⟨b, 2, none⟩ (.int .i64 e)).setCell ⟨b, 3, none⟩ (.int .i64 x)) base b v bs a e x :=
  ⟨h.lo, blk_set (blk_set h.blk _) _, (h.own.kept (gb_set w _ _) (Or.inr (by simpa using h.ne))).kept (gb_set _ _ _) (Or.inr (by simpa using h.ne)), h.ne, h.le⟩

set_option maxHeartbeats 400000 in
theorem qfail_any (h : Qd w base b v bs a why wat) (e x : Int) :
    Calls Try.prog 57 #[.pointer (some ⟨b, 0, none⟩), .int .i64 e, .int .i64 x] w fun r w' => r = .returned (.tuple #[]) ∧ Qd w' base b v bs a e x ∧ w.grownBy w' (some b) := by
  have HR := hid h
  have h2 := h.c2
  have h3 := h.c3
  have f2 := h.fz 2
  have f3 := h.fz 3
  clear h
  go_enter Try.func57, Try.ntmps57
  go_wp2
  go_end0
  exact ⟨rfl, HR.out.setFault _ _, gb_trans (gb_set _ _ _) (gb_set _ _ _)⟩
end

theorem num_plus {acc c j : Nat} (hj : j ≤ 9) (ha : acc < 128 ^ j) (h9 : j = 9 → c ≤ 1) :
    IntKind.u64.wrap ((acc : Int) + IntKind.u64.wrap ((c : Int) % 128 * 2 ^ (7 * j))) = ((acc + c % 128 * 128 ^ j : Nat) : Int) := by
  have hg := group_lt hj h9
  have hp := pow_mono hj
  have e0 : (c : Int) % 128 = ((c % 128 : Nat) : Int) := by omega
  have e2 : ((c % 128 : Nat) : Int) * 2 ^ (7 * j) = ((c % 128 * 128 ^ j : Nat) : Int) := by rw [← seven_pow j]; simp
  have e3 : IntKind.u64.wrap ((c % 128 * 128 ^ j : Nat) : Int) = ((c % 128 * 128 ^ j : Nat) : Int) := by rw [IntKind.wrap_u64]; omega
  have hb : acc + c % 128 * 128 ^ j < 18446744073709551616 := by
    rcases Nat.lt_or_ge j 9 with h | h
    · have h1 := pow_step h
      have h2 : c % 128 * 128 ^ j ≤ 127 * 72057594037927936 := Nat.mul_le_mul (by omega) h1
      omega
    · obtain rfl : j = 9 := by omega
      have h1 := h9 rfl
      have : c % 128 * 128 ^ 9 ≤ 1 * 128 ^ 9 := Nat.mul_le_mul_right _ (by omega)
      omega
  rw [e0, e2, e3, IntKind.wrap_u64]
  omega

theorem ret_num3 {x y : Int} {k : Int} (h : x = y) : Ending.returned (.tuple #[.int .u64 x, .int .i64 k, .int .i64 0]) = .returned (.tuple #[.int .u64 y, .int .i64 k, .int .i64 0]) := by rw [h]

set_option maxRecDepth 100000 in
set_option maxHeartbeats 1000000 in
theorem short_any (base : Nat) (v : Value) (bs : List UInt8) (a : Nat) (w : World) (ho : OwnB w base v bs) (hle : a ≤ bs.length) (er n k : Nat) (hdec : dec (bs.drop a) 0 0 = (er, n, k)) :
    Calls Try.prog 56 #[v, .int .i64 a] w fun e w' => e = .returned (.tuple #[.int .u64 n, .int .i64 k, .int .i64 er]) ∧ w' = w := by
  have HD := hid hdec
  have hl := ho.len
  have HF := hid ho.forms
  obtain ⟨ad, cap, rfl⟩ := ho.shape
  clear ho hdec
  unfold maxLen at hl
  go_enter Try.func56, Try.ntmps56
  go_wp2_with fail
  go_loop [7, 8] (fun x i => ∃ (j acc : Nat), j ≤ 9 ∧ a + j ≤ bs.length ∧ acc < 128 ^ j ∧ dec (bs.drop (a + j)) j acc = (er, n, k) ∧ x = .int .u64 acc ∧ i = .int .i64 j) (fun _ i => 10 - (intOf i).toNat)
  case atStart => exact ⟨0, 0, by omega, by omega, by simp, HD.out, rfl, rfl⟩
  case round =>
    obtain ⟨j, acc, hj, haj, hacc, hd, rfl, rfl⟩ := hrel
    have HDR := hid hd
    have HAC := hid hacc
    clear hd hacc HD
    by_cases hlt : a + j < bs.length
    · obtain ⟨g, hadr, hbyte⟩ : ∃ g, ad = some ⟨g, 0, none⟩ ∧ w.cell? ⟨g, a + j, none⟩ = some (.int .u8 (bs.getD (a + j) 0).toNat) := by
        rcases HF.out with ⟨_, rfl⟩ | ⟨g, cp, hv, _, _, _, _, _, hc⟩
        · simp at hlt
        · simp only [Value.slice.injEq] at hv
          exact ⟨g, hv.1, hc _ hlt⟩
      subst hadr
      have HDR2 := hid (by rw [← HDR.out, drop_cons hlt, dec_cons] : (er, n, k) = _)
      have hcl := UInt8.toNat_lt (bs.getD (a + j) 0)
      generalize (bs.getD (a + j) 0).toNat = c at *
      have hbd : (a : Int) + (j : Int) < (bs.length : Int) := by omega
      have hbd0 : 0 ≤ (a : Int) + (j : Int) := by omega
      have hte : ((a : Int) + (j : Int)).toNat = a + j := by omega
      by_cases h9 : j = 9
      · subst h9
        have hbd' : (a : Int) + 9 < (bs.length : Int) := by omega
        have hbd0' : 0 ≤ (a : Int) + 9 := by omega
        have hte' : ((a : Int) + 9).toNat = a + 9 := by omega
        by_cases hc1 : (1 : Int) < (c : Int)
        · have HE := hid (end_wide (j := 9) HDR2.out rfl (by omega : 1 < c))
          clear HDR2
          go_wp2_with fail
          go_ret3
          obtain ⟨rfl, rfl, rfl⟩ := HE.out
          exact ⟨rfl, rfl⟩
        · by_cases hz : c = 0
          · have hz' : (c : Int) = 0 := by omega
            have HE := hid (end_form (j := 9) (c := c) HDR2.out (by omega) (by omega) hz)
            clear hz HDR2
            go_wp2_with fail
            go_ret3
            obtain ⟨rfl, rfl, rfl⟩ := HE.out
            exact ⟨rfl, rfl⟩
          · obtain rfl : c = 1 := by omega
            have HE := hid (end_done (j := 9) (c := 1) HDR2.out (by omega) (by omega) (by omega))
            clear HDR2
            go_wp2_with fail
            go_ret3
            obtain ⟨rfl, rfl, rfl⟩ := HE.out
            exact ⟨ret_num3 (num_plus (c := 1) (j := 9) (by omega) HAC.out (by omega)), rfl⟩
      · have HJ9 := hid h9
        have hj9 : ¬ (j : Int) = 9 := by omega
        clear h9
        by_cases hc1 : (c : Int) < 128
        · by_cases hz : c = 0
          · have HZ := hid hz
            have hz' : (c : Int) = 0 := by omega
            clear hz
            by_cases hj0 : 0 < j
            · go_wp2_with fail
              go_ret3
              obtain ⟨rfl, rfl, rfl⟩ := end_form (c := c) (j := j) HDR2.out (by omega) hj0 HZ.out
              exact ⟨rfl, rfl⟩
            · have HE := hid (end_done (c := c) (j := j) HDR2.out (by omega) (by omega) (by omega))
              clear HDR2
              go_wp2_with fail
              go_ret3
              obtain ⟨rfl, rfl, rfl⟩ := HE.out
              refine ⟨ret_num3 (k := (j : Int) + 1) ?_, rfl⟩
              have h1 := pow_mono (show j ≤ 9 by omega)
              have h2 := HAC.out
              rw [HZ.out, IntKind.wrap_u64]
              omega
          · have hz' : ¬ (c : Int) = 0 := by omega
            go_wp2_with fail
            go_ret3
            obtain ⟨rfl, rfl, rfl⟩ := end_done HDR2.out (by have := HJ9.out; omega) (by omega) (by omega)
            have e1 : c % 128 = c := by omega
            exact ⟨ret_num3 (by rw [num_plus (by omega) HAC.out (fun e => absurd e HJ9.out), e1]), rfl⟩
        · go_wp2_with fail
          have e0 := end_more HDR2.out HJ9.out (by omega)
          have e1 : c % 128 = c - 128 := by omega
          have hps : 128 ^ (j + 1) = 128 ^ j * 128 := Nat.pow_succ _ _
          have hlt2 : acc + (c - 128) * 128 ^ j < 128 ^ (j + 1) := by
            have h1 : (c - 128) * 128 ^ j ≤ 127 * 128 ^ j := Nat.mul_le_mul_right _ (by omega)
            have h2 := HAC.out
            omega
          have hj' := HJ9.out
          go_round
          case rel => exact ⟨j + 1, acc + (c - 128) * 128 ^ j, by omega, by omega, hlt2, e0, by rw [num_plus (by omega) HAC.out (fun e => absurd e HJ9.out), e1], by go_num⟩
          case measure => simp [intOf]; omega
    · go_wp2_with fail
      go_ret3
      have e1 : bs.drop (a + j) = [] := List.drop_eq_nil_of_le (by omega)
      have e2 := HDR.out
      rw [e1] at e2
      simp [dec] at e2
      obtain ⟨rfl, rfl, rfl⟩ := e2
      exact ⟨rfl, rfl⟩

end Go.Proofs.Ytgoalfiinfkldaa

/- The document's reader: Uint, Int, Fail, End. -/
namespace Go.Proofs.Ytgoalfiinfkldaa
open Go.RowKit

theorem watOf_ne {er : Nat} (h : er ≠ 0) (a : Nat) (wat : Int) : watOf er a wat = a := by
  unfold watOf
  simp [h]

section

variable {w : World} {base b : Nat} {v : Value} {bs : List UInt8} {a : Nat} {why wat : Int}


set_option maxHeartbeats 1000000 in
theorem quint_over (h : Qd w base b v bs a why wat) (hw : why ≠ 0) :
    Calls Try.prog 35 #[.pointer (some ⟨b, 0, none⟩)] w fun e w' => e = .returned (.int .u64 0) ∧ w' = w := by
  have h2 := h.c2
  have hb : (why != 0) = true := by simpa using hw
  clear h
  go_enter Try.func35, Try.ntmps35
  go_wp2
  go_ret
  exact ⟨rfl, rfl⟩

set_option maxHeartbeats 1000000 in
theorem quint_go (h : Qd w base b v bs a 0 wat) (er n k : Nat) (hdec : dec (bs.drop a) 0 0 = (er, n, k)) :
    Calls Try.prog 35 #[.pointer (some ⟨b, 0, none⟩)] w fun e w' => e = .returned (.int .u64 n) ∧ Qd w' base b v bs (a + k) er (watOf er a wat) ∧ w.grownBy w' (some b) := by
  have HR := hid h
  have h0 := h.c0
  have h1 := h.c1
  have h2 := h.c2
  have f1 := h.fz 1
  have hle := h.le
  have hl := h.own.len
  unfold maxLen at hl
  have HD := hid hdec
  have HL := hid (dec_le _ hdec)
  clear h hdec
  go_enter Try.func35, Try.ntmps35
  go_wp2_with fail
  go_quiet (first | (go_at_call 56; exact Calls.quiet_of_same (short_any base v bs a _ (HR.out.drewN _).own HR.out.le er n k HD.out)))
  by_cases he : er = 0
  · subst he
    have hk : (a : Int) + (k : Int) ≤ 9223372036854775807 := by have := HL.out.1; simp at this; omega
    go_wp2_with fail
    go_ret
    have R := (HR.out.drewN nq).setAt (a + k) (by have := HL.out.1; simp at this; omega)
    rw [Int.natCast_add] at R
    exact ⟨rfl, by simpa [watOf] using R, gb_trans (gb_drewN _ _ _) (gb_set _ _ _)⟩
  · have hW := watOf_ne he a wat
    have HW := hid hW
    clear hW
    have he' : ((er : Int) != 0) = true := by simpa using he
    obtain ⟨rfl, rfl⟩ := HL.out.2.2.2 he
    clear he
    go_wp2_with fail
    refine (qfail_any (HR.out.drewN nq) _ _).mono ?_
    rintro e w1 ⟨rfl, hq, hg⟩
    have HQ := hid hq
    have HG := hid (gb_trans (gb_drewN w nq _) hg)
    clear hq hg
    go_wp2_with fail
    go_ret
    exact ⟨rfl, by rw [HW.out]; exact HQ.out, HG.out⟩

theorem quint_R (h : Qd w base b v bs a why wat) :
    Calls Try.prog 35 #[.pointer (some ⟨b, 0, none⟩)] w fun e w' => e = .returned (.int .u64 (uintF bs a why wat).1) ∧ Qd w' base b v bs (uintF bs a why wat).2.1 (uintF bs a why wat).2.2.1 (uintF bs a why wat).2.2.2 ∧ w.grownBy w' (some b) := by
  unfold uintF
  by_cases hw : why ≠ 0
  · rw [if_pos hw]
    refine (quint_over h hw).mono ?_
    rintro e w' ⟨rfl, rfl⟩
    exact ⟨rfl, h, gb_refl _ _⟩
  · rw [if_neg hw]
    obtain rfl : why = 0 := by omega
    exact quint_go h _ _ _ rfl

end

end Go.Proofs.Ytgoalfiinfkldaa

/- Need: the program's and the document's. -/
namespace Go.Proofs.Ytgoalfiinfkldaa
open Go.RowKit Go.BigFrame

theorem fault_why (why wat : Int) (W : World) : (Instr.field 51 (.agg #[.int .i64 why, .int .i64 wat]) 0).run Try.prog W = .ok (.int .i64 why) W := by kernel_rfl

set_option maxRecDepth 100000 in
set_option maxHeartbeats 4000000 in
theorem need_any (v : Value) (bs : List UInt8) (w : World) (hs : Src w v bs) :
    Calls Try.prog 16 #[v] w fun e w' => e = .returned (.tuple #[.int .i64 (needP bs).1, .int .i64 (needP bs).2.2]) ∧ Below w.heap.size w w' := by
  obtain ⟨vx, hx, cut⟩ := cut_at hs (min bs.length 10) (Nat.min_le_left _ _)
  have hsl := hs.1
  obtain ⟨av, cv, rfl⟩ := src_shape hs
  have HN := hid (newReader_any vx _ w hx)
  have hd := dec_head bs
  obtain ⟨E, N, K, hdec⟩ : ∃ E N K, dec bs 0 0 = (E, N, K) := ⟨_, _, _, rfl⟩
  rw [hdec] at hd
  have HU : Hid (uintF (bs.take (min bs.length 10)) 0 0 0 = (N, K, (E : Int), watOf E 0 0)) := hid (by unfold uintF; rw [if_neg (by simp), List.drop_zero, hd]; simp)
  have HLE := hid (dec_le bs hdec)
  have HTEN : Hid (K ≤ 10) := hid (by have := (dec_le _ hd).1; rw [List.length_take] at this; omega)
  have HP : Hid (needP bs = if E = 4 then (0, 0, 0) else if E ≠ 0 then (0, 0, E) else if 2097152 < N then (0, 0, 3) else if N = 0 then (0, 0, 70) else (K + N + 4, K, 0)) := hid (by unfold needP; rw [hdec])
  have hfw := fault_why
  clear hdec hd hs hx
  generalize bs.take (min bs.length 10) = X at *
  obtain ⟨M, HM⟩ : ∃ M : Nat, Hid (min bs.length 10 = M) := ⟨_, rfl⟩
  rw [HM.out] at cut
  have hm : min (bs.length : Int) 10 = (M : Int) := by have := HM.out; omega
  go_enter Try.func16, Try.ntmps16
  go_wp2_with fail
  refine HN.out.mono ?_
  rintro e w1 ⟨b, v1, rfl, hr1, hb1⟩
  have HB1 := hid hb1
  have HUI := hid (uint_R (h := hr1))
  rw [HU.out] at HUI
  clear hr1 hb1 HN cut hm
  go_wp2_with fail
  refine HUI.out.mono ?_
  rintro e w2 ⟨rfl, hr2, hg2⟩
  have HR2 := hid hr2
  have HB2 := hid (Below.of_gb HB1.out hg2 hr2.lo)
  have HFA := hid (rfault_any (h := hr2))
  clear hr2 hg2 HUI HB1
  go_wp2_with fail
  refine HFA.out.mono ?_
  rintro e w3 ⟨rfl, hb3⟩
  have HR3 := hid (HR2.out.below hb3)
  have HB3 := hid (below_then HB2.out hb3)
  clear hb3 HR2 HB2 HFA
  by_cases h4 : E = 4
  · have HV := hid (show needP bs = (0, 0, 0) by rw [HP.out, if_pos h4])
    have q1 : ((E : Int) == 4) = true := by simp [h4]
    have q2 : (E : Int) = 4 := by omega
    clear h4
    go_wp2
    go_ret2
    rw [HV.out]
    exact ⟨rfl, HB3.out⟩
  · have q1 : ((E : Int) == 4) = false := by simp; omega
    have q2 : ¬ (E : Int) = 4 := by omega
    by_cases h0 : E = 0
    · have q3 : ((E : Int) != 0) = false := by simp [h0]
      have q4 : (E : Int) = 0 := by omega
      by_cases hN : 2097152 < N
      · have HV := hid (show needP bs = (0, 0, 3) by rw [HP.out, if_neg h4, if_neg (by simpa using h0), if_pos hN])
        have q5 : (2097152 : Int) < (N : Int) := by omega
        have q6 : decide ((2097152 : Int) < (N : Int)) = true := by simpa using q5
        clear h4 h0 hN
        go_wp2
        go_ret2
        rw [HV.out]
        exact ⟨rfl, HB3.out⟩
      · have q5 : ¬ (2097152 : Int) < (N : Int) := by omega
        have q6 : decide ((2097152 : Int) < (N : Int)) = false := by simpa using q5
        by_cases hz : N = 0
        · have HV := hid (show needP bs = (0, 0, 70) by rw [HP.out, if_neg h4, if_neg (by simpa using h0), if_neg hN, if_pos hz])
          have q7 : ((N : Int) == 0) = true := by simp [hz]
          have q8 : (N : Int) = 0 := by omega
          clear h4 h0 hN hz
          go_wp2
          go_ret2
          rw [HV.out]
          exact ⟨rfl, HB3.out⟩
        · have HV := hid (show needP bs = (K + N + 4, K, 0) by rw [HP.out, if_neg h4, if_neg (by simpa using h0), if_neg hN, if_neg hz])
          have q7 : ((N : Int) == 0) = false := by simp; omega
          have q8 : ¬ (N : Int) = 0 := by omega
          have HAT := hid (rat_any (h := HR3.out))
          have w1 : IntKind.i64.wrap (N : Int) = (N : Int) := by rw [IntKind.wrap_i64]; omega
          have w2 : IntKind.i64.wrap ((K : Int) + (N : Int)) = (K : Int) + (N : Int) := by rw [IntKind.wrap_i64]; have := HTEN.out; omega
          have w4 : IntKind.i64.wrap ((K : Int) + (N : Int) + 4) = (K : Int) + (N : Int) + 4 := by rw [IntKind.wrap_i64]; have := HTEN.out; omega
          clear h4 h0 hN hz
          go_wp2_with fail
          refine HAT.out.mono ?_
          rintro e w5 ⟨rfl, hw5⟩
          subst hw5
          go_wp2
          go_ret2
          rw [HV.out]
          exact ⟨by simp, HB3.out⟩
    · have HV := hid (show needP bs = (0, 0, E) by rw [HP.out, if_neg h4, if_pos h0])
      have q3 : ((E : Int) != 0) = true := by simp; omega
      have q4 : ¬ (E : Int) = 0 := by omega
      clear h4 h0
      go_wp2
      go_ret2
      rw [HV.out]
      exact ⟨rfl, HB3.out⟩

end Go.Proofs.Ytgoalfiinfkldaa

/- The document's Need. -/
namespace Go.Proofs.Ytgoalfiinfkldaa
open Go.RowKit Go.BigFrame

set_option maxRecDepth 100000 in
set_option maxHeartbeats 2000000 in
theorem qnew_any (v0 : Value) (bs : List UInt8) (w : World) (hs : Src w v0 bs) :
    Calls Try.prog 34 #[v0] w fun e w' => ∃ v', e = .returned (.agg #[v', .int .i64 0, .int .i64 0, .int .i64 0]) ∧ OwnB w' w.heap.size v' bs ∧ Below w.heap.size w w' := by
  have HS := hid (hs.below (below_walk w (.cells #[.slice none 0 0, .int .i64 0, .int .i64 0, .int .i64 0] 76)))
  have hl := hs.1
  clear hs
  go_enter Try.func34, Try.ntmps34
  go_wp2_with (at_builtin; refine app_src rfl _ _ rfl (w.heap.size + 1) _ _ rfl (OwnB.nil _ _) _ _ rfl HS.out ?c1 ?c2 ?_)
  case c1 => simpa using hl
  case c2 => simp
  intro v1 w1 ho1 hg1
  have HO1 := hid (by simpa using ho1 : OwnB w1 (w.heap.size + 1) v1 bs)
  have HB1 := hid ((below_walk w _).trans ((gb_below hg1).mono (by simp)))
  have n0 : w1.cell? ⟨w.heap.size, 0, none⟩ = some (.slice none 0 0) := by rw [(gb_below hg1).cell (p := ⟨w.heap.size, 0, none⟩) (by simp)]; simp
  have n1 : w1.cell? ⟨w.heap.size, 1, none⟩ = some (.int .i64 0) := by rw [(gb_below hg1).cell (p := ⟨w.heap.size, 1, none⟩) (by simp)]; simp
  have n2 : w1.cell? ⟨w.heap.size, 2, none⟩ = some (.int .i64 0) := by rw [(gb_below hg1).cell (p := ⟨w.heap.size, 2, none⟩) (by simp)]; simp
  have n3 : w1.cell? ⟨w.heap.size, 3, none⟩ = some (.int .i64 0) := by rw [(gb_below hg1).cell (p := ⟨w.heap.size, 3, none⟩) (by simp)]; simp
  have f0 : ∀ i, w1.frozen? ⟨w.heap.size, i, none⟩ = false := by intro i; rw [(gb_below hg1).frozen (p := ⟨w.heap.size, i, none⟩) (by simp)]; simp
  have f1 := f0 0
  have f2 := f0 1
  have f3 := f0 2
  have f4 := f0 3
  clear ho1 hg1 f0
  obtain ⟨ad, cap, rfl⟩ := HO1.out.shape
  go_wp2_with fail
  have hg : w1.grownBy ((((w1.setCell ⟨w.heap.size, 0, none⟩ (.slice ad bs.length cap)).setCell ⟨w.heap.size, 1, none⟩ (.int .i64 0)).setCell ⟨w.heap.size, 2, none⟩ (.int .i64 0)).setCell ⟨w.heap.size, 3, none⟩ (.int .i64 0)) (some w.heap.size) :=
    gb_trans (gb_trans (gb_trans (gb_set _ _ _) (gb_set _ _ _)) (gb_set _ _ _)) (gb_set _ _ _)
  exact bodyPost_ret (v := .agg #[.slice ad bs.length cap, .int .i64 0, .int .i64 0, .int .i64 0]) (by simp [results, Try.results34, go_sem, n0, n1, n2, n3]) rfl ⟨_, rfl, (HO1.out.kept hg (by right; intro e; have := (HO1.out.lt _ e).1; omega)).le (by omega), Below.of_gb HB1.out hg (Nat.le_refl _)⟩

set_option maxRecDepth 100000 in
set_option maxHeartbeats 4000000 in
theorem rneed_any (v : Value) (bs : List UInt8) (w : World) (hs : Src w v bs) :
    Calls Try.prog 17 #[v] w fun e w' => e = .returned (.tuple #[.int .i64 (needP bs).1, .int .i64 (needP bs).2.1, .int .i64 (needP bs).2.2]) ∧ Below w.heap.size w w' := by
  obtain ⟨av, cv, rfl⟩ := src_shape hs
  have hsl := hs.1
  have HN := hid (qnew_any _ bs w hs)
  obtain ⟨E, N, K, hdec⟩ : ∃ E N K, dec bs 0 0 = (E, N, K) := ⟨_, _, _, rfl⟩
  have HU : Hid (uintF bs 0 0 0 = (N, K, (E : Int), watOf E 0 0)) := hid (by unfold uintF; rw [if_neg (by simp), List.drop_zero, hdec]; simp)
  have HLE := hid (dec_le bs hdec)
  have HTEN : Hid (K ≤ 10) := hid (by have h1 := dec_head bs; rw [hdec] at h1; have := (dec_le _ h1).1; rw [List.length_take] at this; omega)
  have HP : Hid (needP bs = if E = 4 then (0, 0, 0) else if E ≠ 0 then (0, 0, E) else if 2097152 < N then (0, 0, 3) else if N = 0 then (0, 0, 70) else (K + N + 4, K, 0)) := hid (by unfold needP; rw [hdec])
  clear hdec hs
  go_enter Try.func17, Try.ntmps17
  go_wp2_with fail
  refine HN.out.mono ?_
  rintro e w1 ⟨v1, rfl, ho1, hb1⟩
  obtain ⟨a1, c1, e1⟩ := src_shape (ho1.src (by omega))
  subst e1
  have HB1 := hid (below_then hb1 (below_walk w1 (.cells #[.slice a1 bs.length c1, .int .i64 0, .int .i64 0, .int .i64 0] 76)))
  have HQ1 : Hid (Qd (w1.alloc (.cells #[.slice a1 bs.length c1, .int .i64 0, .int .i64 0, .int .i64 0] 76)) w.heap.size w1.heap.size (.slice a1 bs.length c1) bs 0 0 0) := hid ⟨hb1.size, hp_new w1 _, ho1.below (below_walk w1 _), fun e => by have := (ho1.lt _ e).2; omega, Nat.zero_le _⟩
  clear ho1 hb1 HN
  go_wp2_with fail
  obtain ⟨B, HBN⟩ : ∃ b : Nat, Hid (w1.heap.size = b) := ⟨_, rfl⟩
  rw [HBN.out] at HQ1 ⊢
  generalize w1.alloc (.cells #[.slice a1 bs.length c1, .int .i64 0, .int .i64 0, .int .i64 0] 76) = w2 at HB1 HQ1 ⊢
  have HUI := hid (quint_R (h := HQ1.out))
  rw [HU.out] at HUI
  refine HUI.out.mono ?_
  rintro e w3 ⟨rfl, hq3, hg3⟩
  have HQ3 := hid hq3
  have HB3 := hid (Below.of_gb HB1.out hg3 hq3.lo)
  have x1 : w3.cell? ⟨B, 1, none⟩ = some (.int .i64 K) := by rw [cell_of_row w3 B 1 _ _ _ hq3.blk]; rfl
  have x2 : w3.cell? ⟨B, 2, none⟩ = some (.int .i64 E) := by rw [cell_of_row w3 B 2 _ _ _ hq3.blk]; rfl
  clear hq3 hg3 HUI HB1 HQ1
  by_cases h4 : E = 4
  · have HV := hid (show needP bs = (0, 0, 0) by rw [HP.out, if_pos h4])
    have q1 : ((E : Int) == 4) = true := by simp [h4]
    have q2 : (E : Int) = 4 := by omega
    clear h4
    go_wp2
    go_ret3
    rw [HV.out]
    exact ⟨rfl, HB3.out⟩
  · have q1 : ((E : Int) == 4) = false := by simp; omega
    have q2 : ¬ (E : Int) = 4 := by omega
    by_cases h0 : E = 0
    · have q3 : ((E : Int) != 0) = false := by simp [h0]
      have q4 : (E : Int) = 0 := by omega
      by_cases hN : 2097152 < N
      · have HV := hid (show needP bs = (0, 0, 3) by rw [HP.out, if_neg h4, if_neg (by simpa using h0), if_pos hN])
        have q5 : (2097152 : Int) < (N : Int) := by omega
        have q6 : decide ((2097152 : Int) < (N : Int)) = true := by simpa using q5
        clear h4 h0 hN
        go_wp2
        go_ret3
        rw [HV.out]
        exact ⟨rfl, HB3.out⟩
      · have q5 : ¬ (2097152 : Int) < (N : Int) := by omega
        have q6 : decide ((2097152 : Int) < (N : Int)) = false := by simpa using q5
        by_cases hz : N = 0
        · have HV := hid (show needP bs = (0, 0, 70) by rw [HP.out, if_neg h4, if_neg (by simpa using h0), if_neg hN, if_pos hz])
          have q7 : ((N : Int) == 0) = true := by simp [hz]
          have q8 : (N : Int) = 0 := by omega
          clear h4 h0 hN hz
          go_wp2
          go_ret3
          rw [HV.out]
          exact ⟨rfl, HB3.out⟩
        · have HV := hid (show needP bs = (K + N + 4, K, 0) by rw [HP.out, if_neg h4, if_neg (by simpa using h0), if_neg hN, if_neg hz])
          have q7 : ((N : Int) == 0) = false := by simp; omega
          have q8 : ¬ (N : Int) = 0 := by omega
          have wa : IntKind.i64.wrap (N : Int) = (N : Int) := by rw [IntKind.wrap_i64]; omega
          have wb : IntKind.i64.wrap ((K : Int) + (N : Int)) = (K : Int) + (N : Int) := by rw [IntKind.wrap_i64]; have := HTEN.out; omega
          have wc : IntKind.i64.wrap ((K : Int) + (N : Int) + 4) = (K : Int) + (N : Int) + 4 := by rw [IntKind.wrap_i64]; have := HTEN.out; omega
          clear h4 h0 hN hz
          go_wp2_with fail
          go_quiet (fail)
          go_wp2
          go_ret3
          rw [HV.out]
          exact ⟨by simp, below_then HB3.out ⟨rfl, rfl, rfl, Nat.le_refl _, fun _ _ => rfl⟩⟩
    · have HV := hid (show needP bs = (0, 0, E) by rw [HP.out, if_neg h4, if_pos h0])
      have q3 : ((E : Int) != 0) = true := by simp; omega
      have q4 : ¬ (E : Int) = 0 := by omega
      clear h4 h0
      go_wp2_with fail
      go_quiet (fail)
      go_wp2
      go_ret3
      rw [HV.out]
      exact ⟨rfl, below_then HB3.out ⟨rfl, rfl, rfl, Nat.le_refl _, fun _ _ => rfl⟩⟩

end Go.Proofs.Ytgoalfiinfkldaa

/- An answer of a whole struct that lies in a variable, and a value beside it. -/
namespace Go.Proofs.Ytgoalfiinfkldaa
open Go.RowKit

theorem results_cell2 {fn : Func} {p q : Tmp} {ty : TypeId} (h : fn.results = #[.cell p ty, .tmp q]) (tmps : Array Value) (P : Program) (w : World) :
    (results fn tmps).run P w = ((asAddr (tmps.getD p undef)).run P w).andThen fun a w₁ => ((loadVar ty a).run P w₁).andThen fun v w₂ => .ok (.tuple #[v, tmps.getD q undef]) w₂ := by
  simp only [results, h]
  simp [Sem.run_bind, Result.andThen]
/-- the answer is a whole row that lies in a variable, and a number -/
theorem ret_row2 {P : Program} {fn : Func} {R : Ending → World → Prop} {a : Act} {w : World} (p q : Tmp) (ty : TypeId) (h : fn.results = #[.cell p ty, .tmp q]) (g : Nat) (hp : a.tmps.getD p undef = .pointer (some ⟨g, 0, none⟩))
    (cs : List Value) (t : TypeId) (hb : w.heap[g]? = some (.cells cs.toArray t (0, 0))) (d : TypeDesc) (hu : P.underlying ty = some d) (hd : d.isRow = true) (hi : (P.info? ty).map (·.size) = some cs.length)
    (v : Value) (hq : a.tmps.getD q undef = v) (hdf : a.defers = []) (hR : R (.returned (.tuple #[.agg cs.toArray, v])) w) : bodyPost P fn R .ret a w := by
  refine bodyPost_ret (v := .tuple #[.agg cs.toArray, v]) ?_ hdf hR
  rw [results_cell2 h, hp, hq]
  have := run_loadVar_mid (P := P) w g 0 ty cs d (fun j v hv => by rw [Nat.zero_add, cell_of_row w g j cs.toArray t (0, 0) hb]; simpa using hv) hu hd hi
  simp [asAddr, this]

end Go.Proofs.Ytgoalfiinfkldaa

/- The table of kinds, and the kind of a number. -/
namespace Go.Proofs.Ytgoalfiinfkldaa
open Go.RowKit Go.BigFrame

def fnV (f : Nat) : Value := .func (.func f) #[] #[]
def kRow (n : Int) (o m l r : Nat) : List Value := [.int .i64 n, fnV o, fnV m, fnV l, fnV r]
def zRow : List Value := [.int .i64 0, .nilFunc, .nilFunc, .nilFunc, .nilFunc]
def k1 : List Value := kRow 1 74 75 76 77
def k2 : List Value := kRow 2 78 79 80 81
def k3 : List Value := kRow 3 82 83 84 85
def k4 : List Value := kRow 4 86 87 88 89
def k5 : List Value := kRow 5 90 87 91 92
def k6 : List Value := kRow 6 93 87 94 95
def kindsC : List Value := k1 ++ (k2 ++ (k3 ++ (k4 ++ (k5 ++ k6))))

theorem zeroKinds : ∀ w, (zeroValue 113).run Try.prog w = .ok (.agg (zRow ++ (zRow ++ (zRow ++ (zRow ++ (zRow ++ zRow))))).toArray) w := fun w => by
  have h : (Try.prog.info? 113).bind (·.zero) = some (.agg (zRow ++ (zRow ++ (zRow ++ (zRow ++ (zRow ++ zRow))))).toArray) := by kernel_rfl
  cases hi : Try.prog.info? 113 with
  | none => rw [hi] at h; cases h
  | some i =>
    rw [hi] at h
    simp only [Option.bind_some] at h
    simp [zeroValue, typeInfo, hi, h]
theorem zeroKind : ∀ w, (zeroValue 60).run Try.prog w = .ok (.agg zRow.toArray) w := fun w => by
  have h : (Try.prog.info? 60).bind (·.zero) = some (.agg zRow.toArray) := by kernel_rfl
  cases hi : Try.prog.info? 60 with
  | none => rw [hi] at h; cases h
  | some i =>
    rw [hi] at h
    simp only [Option.bind_some] at h
    simp [zeroValue, typeInfo, hi, h]
theorem kindSize : (Try.prog.info? 60).map (·.size) = some 5 := by kernel_rfl
theorem kindsSize : (Try.prog.info? 113).map (·.size) = some 30 := by kernel_rfl
theorem kindsOne : ∀ v ∈ kindsC, v.oneCell' = true := by
  intro v hv
  simp only [kindsC, k1, k2, k3, k4, k5, k6, kRow, List.mem_append, List.mem_cons, List.not_mem_nil, or_false] at hv
  rcases hv with (rfl | rfl | rfl | rfl | rfl) | (rfl | rfl | rfl | rfl | rfl) | (rfl | rfl | rfl | rfl | rfl) | (rfl | rfl | rfl | rfl | rfl) | (rfl | rfl | rfl | rfl | rfl) | (rfl | rfl | rfl | rfl | rfl)
  all_goals rfl

set_option maxRecDepth 100000 in
set_option maxHeartbeats 2000000 in
theorem kinds_any (w : World) :
    Calls Try.prog 61 #[] w fun e w' => e = .returned (.agg kindsC.toArray) ∧ Below w.heap.size w w' := by
  go_enter Try.func61, Try.ntmps61
  go_wp2_with (first
    | (refine al_row (by rfl) 113 (by rfl) _ zeroKinds ?_)
    | (refine st_new (by rfl) 113 _ _ (by rfl) kindsC (by rfl) (by rfl) 113 _ kindsSize rfl kindsOne ?_))
  refine ret_row 0 113 rfl w.heap.size rfl kindsC 113 (hp_new w _) _ Try.underlying113 rfl kindsSize rfl ⟨rfl, below_walk w _⟩

end Go.Proofs.Ytgoalfiinfkldaa

/- The kind of a number. -/
namespace Go.Proofs.Ytgoalfiinfkldaa
open Go.RowKit Go.BigFrame

/-- the row of a number; zeros for one that is no kind -/
def kOf (n : Int) : List Value := if n = 1 then k1 else if n = 2 then k2 else if n = 3 then k3 else if n = 4 then k4 else if n = 5 then k5 else if n = 6 then k6 else zRow
theorem kOf_length (n : Int) : (kOf n).length = 5 := by
  unfold kOf
  repeat' split
  all_goals rfl
theorem zOne : ∀ v ∈ zRow, v.oneCell' = true := by
  intro v hv
  simp only [zRow, List.mem_cons, List.not_mem_nil, or_false] at hv
  rcases hv with rfl | rfl | rfl | rfl | rfl
  all_goals rfl
theorem kOne (n : Int) (a b c d : Nat) : ∀ v ∈ kRow n a b c d, v.oneCell' = true := by
  intro v hv
  simp only [kRow, List.mem_cons, List.not_mem_nil, or_false] at hv
  rcases hv with rfl | rfl | rfl | rfl | rfl
  all_goals rfl
theorem setFive (w : World) (g : Nat) (cs : List Value) (t : TypeId) (old : Array Value) (hg : w.heap[g]? = some (.cells old t (0, 0))) (B : Nat) (hB : B ≤ g) : Below B w (w.setRow g cs.toArray) :=
  let h := rowSet w g cs t old hg
  ⟨h.grown.os, h.grown.tape, h.grown.output, h.grown.size, fun k hk => h.grown.block k (by have := h.size; have := hp_lt hg; omega) (by simp; omega)⟩

theorem ix0 (W : World) : (Instr.index 113 (.agg kindsC.toArray) (.int .i64 0)).run Try.prog W = .ok (.agg k1.toArray) W := by
  have u1 := run_underlying Try.underlying113 W
  have z1 := Try.sizeOf60 W
  unfold Instr.index
  simp [asIntOf, Sem.run_bind, u1, part, z1]
  rfl
theorem ix1 (W : World) : (Instr.index 113 (.agg kindsC.toArray) (.int .i64 1)).run Try.prog W = .ok (.agg k2.toArray) W := by
  have u1 := run_underlying Try.underlying113 W
  have z1 := Try.sizeOf60 W
  unfold Instr.index
  simp [asIntOf, Sem.run_bind, u1, part, z1]
  rfl
theorem ix2 (W : World) : (Instr.index 113 (.agg kindsC.toArray) (.int .i64 2)).run Try.prog W = .ok (.agg k3.toArray) W := by
  have u1 := run_underlying Try.underlying113 W
  have z1 := Try.sizeOf60 W
  unfold Instr.index
  simp [asIntOf, Sem.run_bind, u1, part, z1]
  rfl
theorem ix3 (W : World) : (Instr.index 113 (.agg kindsC.toArray) (.int .i64 3)).run Try.prog W = .ok (.agg k4.toArray) W := by
  have u1 := run_underlying Try.underlying113 W
  have z1 := Try.sizeOf60 W
  unfold Instr.index
  simp [asIntOf, Sem.run_bind, u1, part, z1]
  rfl
theorem ix4 (W : World) : (Instr.index 113 (.agg kindsC.toArray) (.int .i64 4)).run Try.prog W = .ok (.agg k5.toArray) W := by
  have u1 := run_underlying Try.underlying113 W
  have z1 := Try.sizeOf60 W
  unfold Instr.index
  simp [asIntOf, Sem.run_bind, u1, part, z1]
  rfl
theorem ix5 (W : World) : (Instr.index 113 (.agg kindsC.toArray) (.int .i64 5)).run Try.prog W = .ok (.agg k6.toArray) W := by
  have u1 := run_underlying Try.underlying113 W
  have z1 := Try.sizeOf60 W
  unfold Instr.index
  simp [asIntOf, Sem.run_bind, u1, part, z1]
  rfl

set_option maxRecDepth 100000 in
set_option maxHeartbeats 4000000 in
theorem kindOf_any (n : Int) (w : World) :
    Calls Try.prog 40 #[.int .i64 n] w fun e w' => e = .returned (.tuple #[.agg (kOf n).toArray, .bool (decide (1 ≤ n ∧ n ≤ 6))]) ∧ Below w.heap.size w w' := by
  have HNB := hid (hp_new w (.cells zRow.toArray 60))
  have HBL := hid (below_walk w (.cells zRow.toArray 60))
  have HLT := hid (hp_lt HNB.out)
  go_enter Try.func40, Try.ntmps40
  go_wp2_with (refine al_row (by rfl) 60 (by rfl) _ zeroKind ?_)
  generalize w.alloc (.cells zRow.toArray 60) = w1 at HNB HBL HLT ⊢
  refine (kinds_any w1).mono ?_
  rintro e w2 ⟨rfl, hb2⟩
  have HN2 := hid ((hb2.block _ HLT.out).trans HNB.out)
  have HB2 := hid (below_then HBL.out hb2)
  clear hb2 HNB HBL HLT
  go_wp2_with fail
  go_loopw [7] (fun i wr => ∃ k : Nat, k ≤ 6 ∧ i = .int .i64 k ∧ Hid (¬ (1 ≤ n ∧ n ≤ (k : Int))) ∧ Hid (wr.heap[w.heap.size]? = some (.cells zRow.toArray 60)) ∧ Hid (Below w.heap.size w wr)) (fun i _ => 6 - (intOf i).toNat)
  case atStart => exact ⟨0, by omega, rfl, hid (by omega), HN2, HB2⟩
  case round =>
    obtain ⟨k, hk, rfl, HNO, HZ, HB⟩ := hrel
    clear HN2 HB2
    match k, hk with
    | 0, _ =>
      have HLT := hid (hp_lt HZ.out)
      have HB1 := hid (below_then HB.out (below_walk wr (.cells k1.toArray 60)))
      have HZ1 := hid ((below_walk wr (.cells k1.toArray 60)).block _ HLT.out |>.trans HZ.out)
      have HX1 := hid (hp_new wr (.cells k1.toArray 60))
      have x0 : (wr.alloc (.cells k1.toArray 60)).cell? ⟨wr.heap.size, 0, none⟩ = some (.int .i64 1) := by rw [cell_of_row (wr.alloc (.cells k1.toArray 60)) wr.heap.size 0 _ _ _ (hp_new wr (.cells k1.toArray 60))]; rfl
      have ix := ix0
      by_cases hn : n = 1
      · have HR := hid (show k1 = kOf n by subst hn; rfl)
        have HD := hid (show true = decide (1 ≤ n ∧ n ≤ 6) from (decide_eq_true (by omega)).symm)
        have q1 : ((1 : Int) == n) = true := by simpa using hn.symm
        have q2 : (1 : Int) = n := hn.symm
        clear HNO hn
        go_wp2_with (first
          | (refine al_row (by rfl) 60 (by rfl) _ zeroKind ?_)
          | (refine st_new (by rfl) 60 _ _ (by rfl) k1 (by rfl) (by rfl) 60 _ kindSize rfl (kOne _ _ _ _ _) ?_)
          | (refine ld_row (by rfl) 60 (.tmp 5) (by rfl) wr.heap.size (by rfl) k1 60 HX1.out _ Try.underlying60 rfl kindSize ?_)
          | (refine st_row (by rfl) 60 _ _ (by rfl) w.heap.size k1 (by rfl) (by rfl) 60 _ HZ1.out kindSize rfl (kOne _ _ _ _ _) ?_; intro w5 hw5))
        refine ret_row2 2 3 60 rfl w.heap.size rfl k1 60 hw5.blk _ Try.underlying60 rfl kindSize (.bool true) rfl rfl ⟨?_, Below.of_gb HB1.out hw5.grown (Nat.le_refl _)⟩
        rw [HR.out, HD.out]
      · have q1 : ((1 : Int) == n) = false := by simpa using fun h => hn h.symm
        have q2 : ¬ (1 : Int) = n := fun h => hn h.symm
        have HN2 := hid (show ¬ (1 ≤ n ∧ n ≤ ((1 : Nat) : Int)) by have := HNO.out; omega)
        clear HNO hn
        go_wp2_with (first
          | (refine al_row (by rfl) 60 (by rfl) _ zeroKind ?_)
          | (refine st_new (by rfl) 60 _ _ (by rfl) k1 (by rfl) (by rfl) 60 _ kindSize rfl (kOne _ _ _ _ _) ?_))
        exact ⟨⟨1, by omega, by rfl, HN2, HZ1, HB1⟩, by simp [intOf]⟩
    | 1, _ =>
      have HLT := hid (hp_lt HZ.out)
      have HB1 := hid (below_then HB.out (below_walk wr (.cells k2.toArray 60)))
      have HZ1 := hid ((below_walk wr (.cells k2.toArray 60)).block _ HLT.out |>.trans HZ.out)
      have HX1 := hid (hp_new wr (.cells k2.toArray 60))
      have x0 : (wr.alloc (.cells k2.toArray 60)).cell? ⟨wr.heap.size, 0, none⟩ = some (.int .i64 2) := by rw [cell_of_row (wr.alloc (.cells k2.toArray 60)) wr.heap.size 0 _ _ _ (hp_new wr (.cells k2.toArray 60))]; rfl
      have ix := ix1
      by_cases hn : n = 2
      · have HR := hid (show k2 = kOf n by subst hn; rfl)
        have HD := hid (show true = decide (1 ≤ n ∧ n ≤ 6) from (decide_eq_true (by omega)).symm)
        have q1 : ((2 : Int) == n) = true := by simpa using hn.symm
        have q2 : (2 : Int) = n := hn.symm
        clear HNO hn
        go_wp2_with (first
          | (refine al_row (by rfl) 60 (by rfl) _ zeroKind ?_)
          | (refine st_new (by rfl) 60 _ _ (by rfl) k2 (by rfl) (by rfl) 60 _ kindSize rfl (kOne _ _ _ _ _) ?_)
          | (refine ld_row (by rfl) 60 (.tmp 5) (by rfl) wr.heap.size (by rfl) k2 60 HX1.out _ Try.underlying60 rfl kindSize ?_)
          | (refine st_row (by rfl) 60 _ _ (by rfl) w.heap.size k2 (by rfl) (by rfl) 60 _ HZ1.out kindSize rfl (kOne _ _ _ _ _) ?_; intro w5 hw5))
        refine ret_row2 2 3 60 rfl w.heap.size rfl k2 60 hw5.blk _ Try.underlying60 rfl kindSize (.bool true) rfl rfl ⟨?_, Below.of_gb HB1.out hw5.grown (Nat.le_refl _)⟩
        rw [HR.out, HD.out]
      · have q1 : ((2 : Int) == n) = false := by simpa using fun h => hn h.symm
        have q2 : ¬ (2 : Int) = n := fun h => hn h.symm
        have HN2 := hid (show ¬ (1 ≤ n ∧ n ≤ ((2 : Nat) : Int)) by have := HNO.out; omega)
        clear HNO hn
        go_wp2_with (first
          | (refine al_row (by rfl) 60 (by rfl) _ zeroKind ?_)
          | (refine st_new (by rfl) 60 _ _ (by rfl) k2 (by rfl) (by rfl) 60 _ kindSize rfl (kOne _ _ _ _ _) ?_))
        exact ⟨⟨2, by omega, by rfl, HN2, HZ1, HB1⟩, by simp [intOf]⟩
    | 2, _ =>
      have HLT := hid (hp_lt HZ.out)
      have HB1 := hid (below_then HB.out (below_walk wr (.cells k3.toArray 60)))
      have HZ1 := hid ((below_walk wr (.cells k3.toArray 60)).block _ HLT.out |>.trans HZ.out)
      have HX1 := hid (hp_new wr (.cells k3.toArray 60))
      have x0 : (wr.alloc (.cells k3.toArray 60)).cell? ⟨wr.heap.size, 0, none⟩ = some (.int .i64 3) := by rw [cell_of_row (wr.alloc (.cells k3.toArray 60)) wr.heap.size 0 _ _ _ (hp_new wr (.cells k3.toArray 60))]; rfl
      have ix := ix2
      by_cases hn : n = 3
      · have HR := hid (show k3 = kOf n by subst hn; rfl)
        have HD := hid (show true = decide (1 ≤ n ∧ n ≤ 6) from (decide_eq_true (by omega)).symm)
        have q1 : ((3 : Int) == n) = true := by simpa using hn.symm
        have q2 : (3 : Int) = n := hn.symm
        clear HNO hn
        go_wp2_with (first
          | (refine al_row (by rfl) 60 (by rfl) _ zeroKind ?_)
          | (refine st_new (by rfl) 60 _ _ (by rfl) k3 (by rfl) (by rfl) 60 _ kindSize rfl (kOne _ _ _ _ _) ?_)
          | (refine ld_row (by rfl) 60 (.tmp 5) (by rfl) wr.heap.size (by rfl) k3 60 HX1.out _ Try.underlying60 rfl kindSize ?_)
          | (refine st_row (by rfl) 60 _ _ (by rfl) w.heap.size k3 (by rfl) (by rfl) 60 _ HZ1.out kindSize rfl (kOne _ _ _ _ _) ?_; intro w5 hw5))
        refine ret_row2 2 3 60 rfl w.heap.size rfl k3 60 hw5.blk _ Try.underlying60 rfl kindSize (.bool true) rfl rfl ⟨?_, Below.of_gb HB1.out hw5.grown (Nat.le_refl _)⟩
        rw [HR.out, HD.out]
      · have q1 : ((3 : Int) == n) = false := by simpa using fun h => hn h.symm
        have q2 : ¬ (3 : Int) = n := fun h => hn h.symm
        have HN2 := hid (show ¬ (1 ≤ n ∧ n ≤ ((3 : Nat) : Int)) by have := HNO.out; omega)
        clear HNO hn
        go_wp2_with (first
          | (refine al_row (by rfl) 60 (by rfl) _ zeroKind ?_)
          | (refine st_new (by rfl) 60 _ _ (by rfl) k3 (by rfl) (by rfl) 60 _ kindSize rfl (kOne _ _ _ _ _) ?_))
        exact ⟨⟨3, by omega, by rfl, HN2, HZ1, HB1⟩, by simp [intOf]⟩
    | 3, _ =>
      have HLT := hid (hp_lt HZ.out)
      have HB1 := hid (below_then HB.out (below_walk wr (.cells k4.toArray 60)))
      have HZ1 := hid ((below_walk wr (.cells k4.toArray 60)).block _ HLT.out |>.trans HZ.out)
      have HX1 := hid (hp_new wr (.cells k4.toArray 60))
      have x0 : (wr.alloc (.cells k4.toArray 60)).cell? ⟨wr.heap.size, 0, none⟩ = some (.int .i64 4) := by rw [cell_of_row (wr.alloc (.cells k4.toArray 60)) wr.heap.size 0 _ _ _ (hp_new wr (.cells k4.toArray 60))]; rfl
      have ix := ix3
      by_cases hn : n = 4
      · have HR := hid (show k4 = kOf n by subst hn; rfl)
        have HD := hid (show true = decide (1 ≤ n ∧ n ≤ 6) from (decide_eq_true (by omega)).symm)
        have q1 : ((4 : Int) == n) = true := by simpa using hn.symm
        have q2 : (4 : Int) = n := hn.symm
        clear HNO hn
        go_wp2_with (first
          | (refine al_row (by rfl) 60 (by rfl) _ zeroKind ?_)
          | (refine st_new (by rfl) 60 _ _ (by rfl) k4 (by rfl) (by rfl) 60 _ kindSize rfl (kOne _ _ _ _ _) ?_)
          | (refine ld_row (by rfl) 60 (.tmp 5) (by rfl) wr.heap.size (by rfl) k4 60 HX1.out _ Try.underlying60 rfl kindSize ?_)
          | (refine st_row (by rfl) 60 _ _ (by rfl) w.heap.size k4 (by rfl) (by rfl) 60 _ HZ1.out kindSize rfl (kOne _ _ _ _ _) ?_; intro w5 hw5))
        refine ret_row2 2 3 60 rfl w.heap.size rfl k4 60 hw5.blk _ Try.underlying60 rfl kindSize (.bool true) rfl rfl ⟨?_, Below.of_gb HB1.out hw5.grown (Nat.le_refl _)⟩
        rw [HR.out, HD.out]
      · have q1 : ((4 : Int) == n) = false := by simpa using fun h => hn h.symm
        have q2 : ¬ (4 : Int) = n := fun h => hn h.symm
        have HN2 := hid (show ¬ (1 ≤ n ∧ n ≤ ((4 : Nat) : Int)) by have := HNO.out; omega)
        clear HNO hn
        go_wp2_with (first
          | (refine al_row (by rfl) 60 (by rfl) _ zeroKind ?_)
          | (refine st_new (by rfl) 60 _ _ (by rfl) k4 (by rfl) (by rfl) 60 _ kindSize rfl (kOne _ _ _ _ _) ?_))
        exact ⟨⟨4, by omega, by rfl, HN2, HZ1, HB1⟩, by simp [intOf]⟩
    | 4, _ =>
      have HLT := hid (hp_lt HZ.out)
      have HB1 := hid (below_then HB.out (below_walk wr (.cells k5.toArray 60)))
      have HZ1 := hid ((below_walk wr (.cells k5.toArray 60)).block _ HLT.out |>.trans HZ.out)
      have HX1 := hid (hp_new wr (.cells k5.toArray 60))
      have x0 : (wr.alloc (.cells k5.toArray 60)).cell? ⟨wr.heap.size, 0, none⟩ = some (.int .i64 5) := by rw [cell_of_row (wr.alloc (.cells k5.toArray 60)) wr.heap.size 0 _ _ _ (hp_new wr (.cells k5.toArray 60))]; rfl
      have ix := ix4
      by_cases hn : n = 5
      · have HR := hid (show k5 = kOf n by subst hn; rfl)
        have HD := hid (show true = decide (1 ≤ n ∧ n ≤ 6) from (decide_eq_true (by omega)).symm)
        have q1 : ((5 : Int) == n) = true := by simpa using hn.symm
        have q2 : (5 : Int) = n := hn.symm
        clear HNO hn
        go_wp2_with (first
          | (refine al_row (by rfl) 60 (by rfl) _ zeroKind ?_)
          | (refine st_new (by rfl) 60 _ _ (by rfl) k5 (by rfl) (by rfl) 60 _ kindSize rfl (kOne _ _ _ _ _) ?_)
          | (refine ld_row (by rfl) 60 (.tmp 5) (by rfl) wr.heap.size (by rfl) k5 60 HX1.out _ Try.underlying60 rfl kindSize ?_)
          | (refine st_row (by rfl) 60 _ _ (by rfl) w.heap.size k5 (by rfl) (by rfl) 60 _ HZ1.out kindSize rfl (kOne _ _ _ _ _) ?_; intro w5 hw5))
        refine ret_row2 2 3 60 rfl w.heap.size rfl k5 60 hw5.blk _ Try.underlying60 rfl kindSize (.bool true) rfl rfl ⟨?_, Below.of_gb HB1.out hw5.grown (Nat.le_refl _)⟩
        rw [HR.out, HD.out]
      · have q1 : ((5 : Int) == n) = false := by simpa using fun h => hn h.symm
        have q2 : ¬ (5 : Int) = n := fun h => hn h.symm
        have HN2 := hid (show ¬ (1 ≤ n ∧ n ≤ ((5 : Nat) : Int)) by have := HNO.out; omega)
        clear HNO hn
        go_wp2_with (first
          | (refine al_row (by rfl) 60 (by rfl) _ zeroKind ?_)
          | (refine st_new (by rfl) 60 _ _ (by rfl) k5 (by rfl) (by rfl) 60 _ kindSize rfl (kOne _ _ _ _ _) ?_))
        exact ⟨⟨5, by omega, by rfl, HN2, HZ1, HB1⟩, by simp [intOf]⟩
    | 5, _ =>
      have HLT := hid (hp_lt HZ.out)
      have HB1 := hid (below_then HB.out (below_walk wr (.cells k6.toArray 60)))
      have HZ1 := hid ((below_walk wr (.cells k6.toArray 60)).block _ HLT.out |>.trans HZ.out)
      have HX1 := hid (hp_new wr (.cells k6.toArray 60))
      have x0 : (wr.alloc (.cells k6.toArray 60)).cell? ⟨wr.heap.size, 0, none⟩ = some (.int .i64 6) := by rw [cell_of_row (wr.alloc (.cells k6.toArray 60)) wr.heap.size 0 _ _ _ (hp_new wr (.cells k6.toArray 60))]; rfl
      have ix := ix5
      by_cases hn : n = 6
      · have HR := hid (show k6 = kOf n by subst hn; rfl)
        have HD := hid (show true = decide (1 ≤ n ∧ n ≤ 6) from (decide_eq_true (by omega)).symm)
        have q1 : ((6 : Int) == n) = true := by simpa using hn.symm
        have q2 : (6 : Int) = n := hn.symm
        clear HNO hn
        go_wp2_with (first
          | (refine al_row (by rfl) 60 (by rfl) _ zeroKind ?_)
          | (refine st_new (by rfl) 60 _ _ (by rfl) k6 (by rfl) (by rfl) 60 _ kindSize rfl (kOne _ _ _ _ _) ?_)
          | (refine ld_row (by rfl) 60 (.tmp 5) (by rfl) wr.heap.size (by rfl) k6 60 HX1.out _ Try.underlying60 rfl kindSize ?_)
          | (refine st_row (by rfl) 60 _ _ (by rfl) w.heap.size k6 (by rfl) (by rfl) 60 _ HZ1.out kindSize rfl (kOne _ _ _ _ _) ?_; intro w5 hw5))
        refine ret_row2 2 3 60 rfl w.heap.size rfl k6 60 hw5.blk _ Try.underlying60 rfl kindSize (.bool true) rfl rfl ⟨?_, Below.of_gb HB1.out hw5.grown (Nat.le_refl _)⟩
        rw [HR.out, HD.out]
      · have q1 : ((6 : Int) == n) = false := by simpa using fun h => hn h.symm
        have q2 : ¬ (6 : Int) = n := fun h => hn h.symm
        have HN2 := hid (show ¬ (1 ≤ n ∧ n ≤ ((6 : Nat) : Int)) by have := HNO.out; omega)
        clear HNO hn
        go_wp2_with (first
          | (refine al_row (by rfl) 60 (by rfl) _ zeroKind ?_)
          | (refine st_new (by rfl) 60 _ _ (by rfl) k6 (by rfl) (by rfl) 60 _ kindSize rfl (kOne _ _ _ _ _) ?_))
        exact ⟨⟨6, by omega, by rfl, HN2, HZ1, HB1⟩, by simp [intOf]⟩
    | 6, _ =>
      have HR := hid (show zRow = kOf n by
        have := HNO.out
        unfold kOf
        rw [if_neg (by omega), if_neg (by omega), if_neg (by omega), if_neg (by omega), if_neg (by omega), if_neg (by omega)])
      have HD := hid (show false = decide (1 ≤ n ∧ n ≤ 6) from (decide_eq_false (by have := HNO.out; omega)).symm)
      clear HNO
      go_wp2_with (first
        | (refine bd_row (by rfl) 60 #[] (by rfl) [] (by simp) zRow.toArray (by kernel_rfl) ?_)
        | (refine st_row (by rfl) 60 _ _ (by rfl) w.heap.size zRow (by rfl) (by rfl) 60 _ HZ.out kindSize rfl zOne ?_; intro w5 hw5))
      refine ret_row2 2 3 60 rfl w.heap.size rfl zRow 60 hw5.blk _ Try.underlying60 rfl kindSize (.bool false) rfl rfl ⟨?_, Below.of_gb HB.out hw5.grown (Nat.le_refl _)⟩
      rw [HR.out, HD.out]

end Go.Proofs.Ytgoalfiinfkldaa

/- Numbers laid down one behind the other. -/
namespace Go.Proofs.Ytgoalfiinfkldaa
open Go.RowKit Go.BigFrame

/-- numbers that lie somewhere -/
def Nums (w : World) (v : Value) (ks : List Nat) : Prop := ∃ g o c, v = .slice (some ⟨g, o, none⟩) ks.length c ∧ g < w.heap.size ∧ ∀ j, j < ks.length → w.cell? ⟨g, o + j, none⟩ = some (.int .i64 (ks.getD j 0 : Nat))
theorem Nums.below {w w' : World} {v : Value} {ks : List Nat} (h : Nums w v ks) (hb : Below w.heap.size w w') : Nums w' v ks := by
  obtain ⟨g, o, c, hv, hlt, hc⟩ := h
  exact ⟨g, o, c, hv, Nat.lt_of_lt_of_le hlt hb.size, fun j hj => (hb.cell (p := ⟨g, o + j, none⟩) hlt).trans (hc j hj)⟩
theorem nums_one (w : World) (a : Nat) : Nums (w.alloc (.cells #[.int .i64 (a : Nat)] 3)) (.slice (some ⟨w.heap.size, 0, none⟩) 1 1) [a] := by
  refine ⟨w.heap.size, 0, 1, rfl, by simp, fun j hj => ?_⟩
  match j, hj with
  | 0, _ => simp
theorem nums_two (w : World) (a b : Nat) : Nums (w.alloc (.cells #[.int .i64 (a : Nat), .int .i64 (b : Nat)] 3)) (.slice (some ⟨w.heap.size, 0, none⟩) 2 2) [a, b] := by
  refine ⟨w.heap.size, 0, 2, rfl, by simp, fun j hj => ?_⟩
  match j, hj with
  | 0, _ => simp
  | 1, _ => simp
/-- numbers as bytes -/
def sns (ks : List Nat) : List UInt8 := ks.flatMap sn
theorem sns_snoc (ks : List Nat) (k : Nat) (hk : k < ks.length) : sns (ks.take (k + 1)) = sns (ks.take k) ++ sn (ks.getD k 0) := by
  unfold sns
  rw [List.take_succ_eq_append_getElem hk, List.flatMap_append, List.getD_eq_getElem?_getD, List.getElem?_eq_getElem hk]
  simp
theorem sns_length : ∀ ks : List Nat, (sns ks).length ≤ 10 * ks.length
  | [] => by simp [sns]
  | k :: r => by
    have h := sns_length r
    have h2 := sn_length_le k
    simp only [sns, List.flatMap_cons, List.length_append, List.length_cons] at h ⊢
    omega

set_option maxRecDepth 100000 in
set_option maxHeartbeats 1000000 in
theorem putCounts_any (vb vl : Value) (bs : List UInt8) (ks : List Nat) (w : World) (hb : Src w vb bs) (hl : Nums w vl ks) (hk : ∀ k ∈ ks, k ≤ 9223372036854775807) (hn : ks.length ≤ 100) (hbl : bs.length ≤ 1099511620000) :
    Calls Try.prog 22 #[vb, vl] w fun e w' => ∃ v, e = .returned v ∧ Src w' v (bs ++ sns ks) ∧ Below w.heap.size w w' := by
  obtain ⟨g, o, c, rfl, hlt, hc⟩ := hl
  obtain ⟨ab, cb, rfl⟩ := src_shape hb
  have HS := hid hb
  have HC := hid hc
  have HLT := hid hlt
  have HK := hid hk
  have HBL := hid hbl
  clear hb hc hlt hk hbl
  go_enter Try.func22, Try.ntmps22
  go_wp2
  go_loopw [0, 9] (fun v i wr => ∃ k : Nat, k ≤ ks.length ∧ i = .int .i64 k ∧ Hid (Src wr v (bs ++ sns (ks.take k))) ∧ Hid (Below w.heap.size w wr)) (fun _ i _ => ks.length - (intOf i).toNat)
  case atStart => exact ⟨0, by omega, rfl, hid (by simpa [sns] using HS.out), hid (Below.refl _ _)⟩
  case round =>
    obtain ⟨k, hkl, rfl, HV, HB⟩ := hrel
    by_cases hlt : k < ks.length
    · have c1 : _ = _ := (HB.out.cell (p := ⟨g, o + k, none⟩) HLT.out).trans (HC.out k hlt)
      have HSN := hid (sns_snoc ks k hlt)
      have hm : ks.getD k 0 ≤ 9223372036854775807 := by
        refine HK.out _ ?_
        rw [List.getD_eq_getElem?_getD, List.getElem?_eq_getElem hlt]
        exact List.getElem_mem hlt
      have HLN := hid (show (bs ++ sns (ks.take k)).length ≤ 1099511627776 by
        have := HBL.out
        have h2 := sns_length (ks.take k)
        rw [List.length_take] at h2
        rw [List.length_append]
        omega)
      generalize ks.getD k 0 = m at c1 HSN hm
      obtain ⟨X, HXX⟩ : ∃ X, Hid (bs ++ sns (ks.take k) = X) := ⟨_, rfl⟩
      rw [HXX.out] at HV HLN
      obtain ⟨av, cv, ev⟩ := src_shape HV.out
      subst ev
      have hki : (k : Int) < (ks.length : Int) := by omega
      have hd : decide ((k : Int) < (ks.length : Int)) = true := by simpa using hki
      have hwr : IntKind.u64.wrap (m : Int) = (m : Int) := by rw [IntKind.wrap_u64]; omega
      have HPU := hid (putUint_any _ X m wr HV.out (by omega) HLN.out)
      have hkw : IntKind.i64.wrap ((k : Int) + 1) = (k : Int) + 1 := by rw [IntKind.wrap_i64]; omega
      go_wp2_with fail
      refine HPU.out.mono ?_
      rintro e w2 ⟨v2, rfl, ho2, hb2⟩
      have hsr := ho2.src (by rw [List.length_append]; have := sn_length_le m; have := HLN.out; omega)
      have HS2 := hid (show Src w2 v2 (bs ++ sns (ks.take (k + 1))) by rw [HSN.out, ← List.append_assoc, HXX.out]; exact hsr)
      have HB2 := hid (below_then HB.out hb2)
      have hle : (X ++ sn m).length = X.length + (sn m).length := List.length_append
      obtain ⟨a2, c2, e2⟩ := src_shape hsr
      rw [hle] at e2
      subst e2
      clear ho2 hb2 hsr hle
      go_wp2
      exact ⟨⟨k + 1, by omega, by simp, HS2, HB2⟩, by simp [intOf]; omega⟩
    · obtain rfl : k = ks.length := by omega
      rw [List.take_length] at HV
      obtain ⟨av, cv, ev⟩ := src_shape HV.out
      subst ev
      go_wp2
      go_ret
      exact ⟨_, rfl, HV.out, HB.out⟩

end Go.Proofs.Ytgoalfiinfkldaa

/- Whether all fields of two frames are the same. -/
namespace Go.Proofs.Ytgoalfiinfkldaa
open Go.RowKit

set_option maxRecDepth 100000 in
set_option maxHeartbeats 4000000 in
theorem same_any (f g : Fr) (va vb : Value) (w : World) (hf : f.tool.length = 32) (hg : g.tool.length = 32) (ha : Strs w va f.args) (hb : Strs w vb g.args) (hn : f.args.length ≤ 9223372036854775807) :
    Calls Try.prog 20 #[.agg (fcells f va).toArray, .agg (fcells g vb).toArray] w fun e w' => e = .returned (.bool (sameP f g)) ∧ Below w.heap.size w w' := by
  have HNA := hid (hp_two w (.cells (fcells f va).toArray 29) (.cells (fcells g vb).toArray 29))
  have HBL := hid (below_walk2 w (.cells (fcells f va).toArray 29) (.cells (fcells g vb).toArray 29))
  have HSA := hid ha
  have HSB := hid hb
  have HN := hid hn
  have HF := hid hf
  have HG := hid hg
  clear ha hb hn hf hg
  go_enter Try.func20, Try.ntmps20
  go_upto_region 1 with fail
  generalize (w.alloc (.cells (fcells f va).toArray 29)).alloc (.cells (fcells g vb).toArray 29) = w2 at HNA HBL ⊢
  have HA := hid (Fb.of HNA.out.1 HF.out)
  have HB := hid (Fb.of HNA.out.2 HG.out)
  clear HNA
  have HSA2 := hid (HSA.out.below HBL.out)
  have HSB2 := hid (HSB.out.below HBL.out)
  clear HSA HSB
  have hlg := limG
  have hdg := digG
  have HEQ := hid (eqs_any va vb f.args g.args w2 HSA2.out HSB2.out HN.out)
  obtain ⟨fk, fi, fv, fs, ft, fst, fl, fa, fb⟩ := f
  obtain ⟨gk, gi, gv, gs, gt, gst, gl, ga, gb⟩ := g
  obtain ⟨fl1, fl2, fl3⟩ := fl
  obtain ⟨gl1, gl2, gl3⟩ := gl
  obtain ⟨B2, HB2⟩ : ∃ b : Nat, Hid (w.heap.size + 1 = b) := ⟨_, rfl⟩
  obtain ⟨B1, HB1⟩ : ∃ b : Nat, Hid (w.heap.size = b) := ⟨_, rfl⟩
  rw [HB2.out] at HB ⊢
  rw [HB1.out] at HA ⊢
  clear HB1 HB2
  by_cases hne : fk = gk
  · subst hne
    by_cases hne : fi = gi
    · subst hne
      by_cases hne : fv = gv
      · subst hne
        by_cases hne : fs = gs
        · subst hne
          by_cases hne : ft = gt
          · subst hne
            by_cases hne : fst = gst
            · subst hne
              by_cases hne : (fl1, fl2, fl3) = (gl1, gl2, gl3)
              · injection hne with h1 h2; injection h2 with h2 h3; subst h1; subst h2; subst h3
                by_cases hne : fa = ga
                · subst hne
                  by_cases hne : fb = gb
                  · subst hne
                    have HR : Hid (sameP ⟨fk, fi, fv, fs, ft, fst, (fl1, fl2, fl3), fa, fb⟩ ⟨fk, fi, fv, fs, ft, fst, (fl1, fl2, fl3), fa, fb⟩ = true) := hid (sameP_self _)
                    have a0 := HA.out.k
                    have b0 := HB.out.k
                    have a1 := HA.out.i
                    have b1 := HB.out.i
                    have a2 := HA.out.v
                    have b2 := HB.out.v
                    have a3 := HA.out.s
                    have b3 := HB.out.s
                    have a4 := hid HA.out.t
                    have b4 := hid HB.out.t
                    have HS1 := hid (tool_size ft HF.out)
                    have HS2 := hid (tool_size ft HG.out)
                    have a5 := HA.out.st
                    have b5 := HB.out.st
                    have a61 := HA.out.l1
                    have b61 := HB.out.l1
                    have a62 := HA.out.l2
                    have b62 := HB.out.l2
                    have a63 := HA.out.l3
                    have b63 := HB.out.l3
                    have a7 := HA.out.a
                    have b7 := HB.out.a
                    have e4 := dig_eql ft ft HF.out HF.out
                    rw [decide_eq_true rfl] at e4
                    have e6 := lim_eql fl1 fl2 fl3 fl1 fl2 fl3
                    rw [decide_eq_true rfl] at e6
                    have HE2 := hid HEQ.out
                    simp only [decide_true] at HE2
                    have HA8 := hid (fun n => (show (w2.drewN n).cell? ⟨B1, 41, none⟩ = _ from HA.out.bd))
                    have HB8 := hid (fun n => (show (w2.drewN n).cell? ⟨B2, 41, none⟩ = _ from HB.out.bd))
                    clear HA HB HEQ HF HG
                    go_wp2_with (first | (refine ld_gd (by rfl) 24 (.tmp 32) (by rfl) B1 4 (by rfl) _ _ a4.out Try.underlying24 rfl HS1.out ?_) | (refine ld_gd (by rfl) 24 (.tmp 34) (by rfl) B2 4 (by rfl) _ _ b4.out Try.underlying24 rfl HS2.out ?_))
                    refine HE2.out.mono ?_
                    rintro e w3 ⟨rfl, n, rfl⟩
                    have a8 := HA8.out n
                    have b8 := HB8.out n
                    clear HA8 HB8
                    clear HE2
                    go_wp2
                    go_ret
                    exact ⟨ret_eq HR.out.symm, HBL.out.trans ⟨rfl, rfl, rfl, Nat.le_refl _, fun _ _ => rfl⟩⟩
                  · have HR : Hid (sameP ⟨fk, fi, fv, fs, ft, fst, (fl1, fl2, fl3), fa, fb⟩ ⟨fk, fi, fv, fs, ft, fst, (fl1, fl2, fl3), fa, gb⟩ = false) := hid (decide_eq_false (fun h9 => hne (by exact h9.2.2.2.2.2.2.2.2)))
                    have a0 := HA.out.k
                    have b0 := HB.out.k
                    have a1 := HA.out.i
                    have b1 := HB.out.i
                    have a2 := HA.out.v
                    have b2 := HB.out.v
                    have a3 := HA.out.s
                    have b3 := HB.out.s
                    have a4 := hid HA.out.t
                    have b4 := hid HB.out.t
                    have HS1 := hid (tool_size ft HF.out)
                    have HS2 := hid (tool_size ft HG.out)
                    have a5 := HA.out.st
                    have b5 := HB.out.st
                    have a61 := HA.out.l1
                    have b61 := HB.out.l1
                    have a62 := HA.out.l2
                    have b62 := HB.out.l2
                    have a63 := HA.out.l3
                    have b63 := HB.out.l3
                    have a7 := HA.out.a
                    have b7 := HB.out.a
                    have e4 := dig_eql ft ft HF.out HF.out
                    rw [decide_eq_true rfl] at e4
                    have e6 := lim_eql fl1 fl2 fl3 fl1 fl2 fl3
                    rw [decide_eq_true rfl] at e6
                    have HE2 := hid HEQ.out
                    simp only [decide_true] at HE2
                    have HA8 := hid (fun n => (show (w2.drewN n).cell? ⟨B1, 41, none⟩ = _ from HA.out.bd))
                    have HB8 := hid (fun n => (show (w2.drewN n).cell? ⟨B2, 41, none⟩ = _ from HB.out.bd))
                    have t1 : ¬ (mk fb).toList = (mk gb).toList := fun h9 => hne ((bl_mk fb).symm.trans (h9.trans (bl_mk gb)))
                    have t2 : ((mk fb).toList == (mk gb).toList) = false := by simpa using t1
                    clear HA HB HEQ HF HG
                    clear hne
                    go_wp2_with (first | (refine ld_gd (by rfl) 24 (.tmp 32) (by rfl) B1 4 (by rfl) _ _ a4.out Try.underlying24 rfl HS1.out ?_) | (refine ld_gd (by rfl) 24 (.tmp 34) (by rfl) B2 4 (by rfl) _ _ b4.out Try.underlying24 rfl HS2.out ?_))
                    refine HE2.out.mono ?_
                    rintro e w3 ⟨rfl, n, rfl⟩
                    have a8 := HA8.out n
                    have b8 := HB8.out n
                    clear HA8 HB8
                    clear HE2
                    go_wp2
                    go_ret
                    exact ⟨ret_eq HR.out.symm, HBL.out.trans ⟨rfl, rfl, rfl, Nat.le_refl _, fun _ _ => rfl⟩⟩
                · have HR : Hid (sameP ⟨fk, fi, fv, fs, ft, fst, (fl1, fl2, fl3), fa, fb⟩ ⟨fk, fi, fv, fs, ft, fst, (fl1, fl2, fl3), ga, gb⟩ = false) := hid (decide_eq_false (fun h9 => hne (by exact h9.2.2.2.2.2.2.2.1)))
                  have a0 := HA.out.k
                  have b0 := HB.out.k
                  have a1 := HA.out.i
                  have b1 := HB.out.i
                  have a2 := HA.out.v
                  have b2 := HB.out.v
                  have a3 := HA.out.s
                  have b3 := HB.out.s
                  have a4 := hid HA.out.t
                  have b4 := hid HB.out.t
                  have HS1 := hid (tool_size ft HF.out)
                  have HS2 := hid (tool_size ft HG.out)
                  have a5 := HA.out.st
                  have b5 := HB.out.st
                  have a61 := HA.out.l1
                  have b61 := HB.out.l1
                  have a62 := HA.out.l2
                  have b62 := HB.out.l2
                  have a63 := HA.out.l3
                  have b63 := HB.out.l3
                  have a7 := HA.out.a
                  have b7 := HB.out.a
                  have e4 := dig_eql ft ft HF.out HF.out
                  rw [decide_eq_true rfl] at e4
                  have e6 := lim_eql fl1 fl2 fl3 fl1 fl2 fl3
                  rw [decide_eq_true rfl] at e6
                  have HE2 := hid HEQ.out
                  simp only [decide_eq_false hne] at HE2
                  clear HA HB HEQ HF HG
                  clear hne
                  go_wp2_with (first | (refine ld_gd (by rfl) 24 (.tmp 32) (by rfl) B1 4 (by rfl) _ _ a4.out Try.underlying24 rfl HS1.out ?_) | (refine ld_gd (by rfl) 24 (.tmp 34) (by rfl) B2 4 (by rfl) _ _ b4.out Try.underlying24 rfl HS2.out ?_))
                  refine HE2.out.mono ?_
                  rintro e w3 ⟨rfl, n, rfl⟩
                  clear HE2
                  go_wp2
                  go_ret
                  exact ⟨ret_eq HR.out.symm, HBL.out.trans ⟨rfl, rfl, rfl, Nat.le_refl _, fun _ _ => rfl⟩⟩
              · have HR : Hid (sameP ⟨fk, fi, fv, fs, ft, fst, (fl1, fl2, fl3), fa, fb⟩ ⟨fk, fi, fv, fs, ft, fst, (gl1, gl2, gl3), ga, gb⟩ = false) := hid (decide_eq_false (fun h9 => hne (by exact h9.2.2.2.2.2.2.1)))
                have a0 := HA.out.k
                have b0 := HB.out.k
                have a1 := HA.out.i
                have b1 := HB.out.i
                have a2 := HA.out.v
                have b2 := HB.out.v
                have a3 := HA.out.s
                have b3 := HB.out.s
                have a4 := hid HA.out.t
                have b4 := hid HB.out.t
                have HS1 := hid (tool_size ft HF.out)
                have HS2 := hid (tool_size ft HG.out)
                have a5 := HA.out.st
                have b5 := HB.out.st
                have a61 := HA.out.l1
                have b61 := HB.out.l1
                have a62 := HA.out.l2
                have b62 := HB.out.l2
                have a63 := HA.out.l3
                have b63 := HB.out.l3
                have e4 := dig_eql ft ft HF.out HF.out
                rw [decide_eq_true rfl] at e4
                have e6 := lim_eql fl1 fl2 fl3 gl1 gl2 gl3
                rw [decide_eq_false hne] at e6
                clear HA HB HEQ HF HG
                clear hne
                go_wp2_with (first | (refine ld_gd (by rfl) 24 (.tmp 32) (by rfl) B1 4 (by rfl) _ _ a4.out Try.underlying24 rfl HS1.out ?_) | (refine ld_gd (by rfl) 24 (.tmp 34) (by rfl) B2 4 (by rfl) _ _ b4.out Try.underlying24 rfl HS2.out ?_))
                go_ret
                exact ⟨ret_eq HR.out.symm, HBL.out⟩
            · have HR : Hid (sameP ⟨fk, fi, fv, fs, ft, fst, (fl1, fl2, fl3), fa, fb⟩ ⟨fk, fi, fv, fs, ft, gst, (gl1, gl2, gl3), ga, gb⟩ = false) := hid (decide_eq_false (fun h9 => hne (by exact h9.2.2.2.2.2.1)))
              have a0 := HA.out.k
              have b0 := HB.out.k
              have a1 := HA.out.i
              have b1 := HB.out.i
              have a2 := HA.out.v
              have b2 := HB.out.v
              have a3 := HA.out.s
              have b3 := HB.out.s
              have a4 := hid HA.out.t
              have b4 := hid HB.out.t
              have HS1 := hid (tool_size ft HF.out)
              have HS2 := hid (tool_size ft HG.out)
              have a5 := HA.out.st
              have b5 := HB.out.st
              have e4 := dig_eql ft ft HF.out HF.out
              rw [decide_eq_true rfl] at e4
              have q1 : (fst == gst) = false := by simpa using hne
              clear HA HB HEQ HF HG
              go_wp2_with (first | (refine ld_gd (by rfl) 24 (.tmp 32) (by rfl) B1 4 (by rfl) _ _ a4.out Try.underlying24 rfl HS1.out ?_) | (refine ld_gd (by rfl) 24 (.tmp 34) (by rfl) B2 4 (by rfl) _ _ b4.out Try.underlying24 rfl HS2.out ?_))
              go_ret
              exact ⟨ret_eq HR.out.symm, HBL.out⟩
          · have HR : Hid (sameP ⟨fk, fi, fv, fs, ft, fst, (fl1, fl2, fl3), fa, fb⟩ ⟨fk, fi, fv, fs, gt, gst, (gl1, gl2, gl3), ga, gb⟩ = false) := hid (decide_eq_false (fun h9 => hne (by exact h9.2.2.2.2.1)))
            have a0 := HA.out.k
            have b0 := HB.out.k
            have a1 := HA.out.i
            have b1 := HB.out.i
            have a2 := HA.out.v
            have b2 := HB.out.v
            have a3 := HA.out.s
            have b3 := HB.out.s
            have a4 := hid HA.out.t
            have b4 := hid HB.out.t
            have HS1 := hid (tool_size ft HF.out)
            have HS2 := hid (tool_size gt HG.out)
            have e4 := dig_eql ft gt HF.out HG.out
            rw [decide_eq_false hne] at e4
            clear HA HB HEQ HF HG
            clear hne
            go_wp2_with (first | (refine ld_gd (by rfl) 24 (.tmp 32) (by rfl) B1 4 (by rfl) _ _ a4.out Try.underlying24 rfl HS1.out ?_) | (refine ld_gd (by rfl) 24 (.tmp 34) (by rfl) B2 4 (by rfl) _ _ b4.out Try.underlying24 rfl HS2.out ?_))
            go_ret
            exact ⟨ret_eq HR.out.symm, HBL.out⟩
        · have HR : Hid (sameP ⟨fk, fi, fv, fs, ft, fst, (fl1, fl2, fl3), fa, fb⟩ ⟨fk, fi, fv, gs, gt, gst, (gl1, gl2, gl3), ga, gb⟩ = false) := hid (decide_eq_false (fun h9 => hne (by exact h9.2.2.2.1)))
          have a0 := HA.out.k
          have b0 := HB.out.k
          have a1 := HA.out.i
          have b1 := HB.out.i
          have a2 := HA.out.v
          have b2 := HB.out.v
          have a3 := HA.out.s
          have b3 := HB.out.s
          have q1 : (fs == gs) = false := by simpa using hne
          clear HA HB HEQ HF HG
          go_wp2
          go_ret
          exact ⟨ret_eq HR.out.symm, HBL.out⟩
      · have HR : Hid (sameP ⟨fk, fi, fv, fs, ft, fst, (fl1, fl2, fl3), fa, fb⟩ ⟨fk, fi, gv, gs, gt, gst, (gl1, gl2, gl3), ga, gb⟩ = false) := hid (decide_eq_false (fun h9 => hne (by exact h9.2.2.1)))
        have a0 := HA.out.k
        have b0 := HB.out.k
        have a1 := HA.out.i
        have b1 := HB.out.i
        have a2 := HA.out.v
        have b2 := HB.out.v
        have q1 : (fv == gv) = false := by simpa using hne
        clear HA HB HEQ HF HG
        go_wp2
        go_ret
        exact ⟨ret_eq HR.out.symm, HBL.out⟩
    · have HR : Hid (sameP ⟨fk, fi, fv, fs, ft, fst, (fl1, fl2, fl3), fa, fb⟩ ⟨fk, gi, gv, gs, gt, gst, (gl1, gl2, gl3), ga, gb⟩ = false) := hid (decide_eq_false (fun h9 => hne (by exact h9.2.1)))
      have a0 := HA.out.k
      have b0 := HB.out.k
      have a1 := HA.out.i
      have b1 := HB.out.i
      have q1 : (fi == gi) = false := by simpa using hne
      clear HA HB HEQ HF HG
      go_wp2
      go_ret
      exact ⟨ret_eq HR.out.symm, HBL.out⟩
  · have HR : Hid (sameP ⟨fk, fi, fv, fs, ft, fst, (fl1, fl2, fl3), fa, fb⟩ ⟨gk, gi, gv, gs, gt, gst, (gl1, gl2, gl3), ga, gb⟩ = false) := hid (decide_eq_false (fun h9 => hne (by exact h9.1)))
    have a0 := HA.out.k
    have b0 := HB.out.k
    have q1 : (fk == gk) = false := by simpa using hne
    clear HA HB HEQ HF HG
    go_wp2
    go_ret
    exact ⟨ret_eq HR.out.symm, HBL.out⟩

end Go.Proofs.Ytgoalfiinfkldaa

/- shift and byteOn. -/
namespace Go.Proofs.Ytgoalfiinfkldaa
open Go.RowKit

theorem and_one (c : Nat) (hc : c < 4294967296) : bits .and .u32 (c : Int) 1 = ((c % 2 : Nat) : Int) := by
  have := u32_and_nat c 1 hc (by omega)
  rw [Nat.and_one_is_mod] at this
  exact this
theorem half (c : Nat) : (c : Int) / 2 ^ 1 = ((c / 2 : Nat) : Int) := by omega
theorem xor_poly (c : Nat) (hc : c < 4294967296) : bits .xor .u32 (c : Int) 2197175160 = ((c ^^^ 2197175160 : Nat) : Int) := u32_xor_nat c 2197175160 hc (by omega)
theorem sh_odd {c : Nat} (h : c % 2 = 1) : sh c = (c / 2) ^^^ 2197175160 := by unfold sh; rw [if_pos h]
theorem sh_even {c : Nat} (h : c % 2 = 0) : sh c = c / 2 := by unfold sh; rw [if_neg (by omega)]

set_option maxHeartbeats 400000 in
theorem shift_any (c : Nat) (hc : c < 4294967296) (w : World) :
    Calls Try.prog 96 #[.int .u32 (c : Int)] w fun e w' => e = .returned (.int .u32 (sh c : Nat)) ∧ w' = w := by
  have ha := and_one c hc
  have hx := hid (xor_poly (c / 2) (by omega))
  rcases Nat.mod_two_eq_zero_or_one c with h | h
  · have HS := hid (sh_even h)
    rw [h] at ha
    clear h
    go_enter Try.func96, Try.ntmps96
    go_wp2
    go_ret
    exact ⟨by rw [HS.out]; rfl, rfl⟩
  · have HS := hid (sh_odd h)
    rw [h] at ha
    clear h
    go_enter Try.func96, Try.ntmps96
    go_wp2
    go_ret
    refine ⟨?_, rfl⟩
    rw [HS.out, ← hx.out]
    rfl

set_option maxHeartbeats 1000000 in
theorem byteOn_any (c b : Nat) (hc : c < 4294967296) (hb : b < 256) (w : World) :
    Calls Try.prog 67 #[.int .u32 (c : Int), .int .u8 (b : Int)] w fun e w' => e = .returned (.int .u32 (shN 8 (c ^^^ b) : Nat)) ∧ w' = w := by
  have HC := hid (u32_xor_nat c b hc (by omega))
  have HL := hid (xlt hc (show b < 4294967296 by omega))
  go_enter Try.func67, Try.ntmps67
  go_wp2
  go_loop [0, 5] (fun vc vi => ∃ k : Nat, k ≤ 8 ∧ vc = .int .u32 (shN k (c ^^^ b) : Nat) ∧ vi = .int .i64 k) (fun _ vi => 8 - (intOf vi).toNat)
  case atStart => exact ⟨0, by omega, by rw [show shN 0 (c ^^^ b) = c ^^^ b from rfl, ← HC.out], rfl⟩
  case round =>
    obtain ⟨k, hk, rfl, rfl⟩ := hrel
    have HN := hid (show shN (k + 1) (c ^^^ b) = sh (shN k (c ^^^ b)) from rfl)
    have HQ := hid (shN_lt HL.out k)
    by_cases hlt : k < 8
    · have hb1 := and_one (shN k (c ^^^ b)) HQ.out
      have HXP := hid (xor_poly (shN k (c ^^^ b) / 2) (by have := HQ.out; omega))
      rcases Nat.mod_two_eq_zero_or_one (shN k (c ^^^ b)) with h | h
      all_goals
        rw [h] at hb1
        first | (have HE := hid (sh_even h)) | (have HE := hid (sh_odd h))
        clear h
        go_wp2
        refine ⟨⟨k + 1, hlt, ?_, by simp⟩, by simp [intOf]; omega⟩
        rw [HN.out, HE.out]
        first | rfl | (rw [← HXP.out]; rfl)
    · obtain rfl : k = 8 := by omega
      go_wp2
      go_ret
      exact ⟨rfl, rfl⟩

end Go.Proofs.Ytgoalfiinfkldaa

/- makeTable: the table's 256 words. -/
namespace Go.Proofs.Ytgoalfiinfkldaa
open Go.RowKit

def zerosN (n : Nat) : List Nat := List.replicate n 0
theorem zerosN_length (n : Nat) : (zerosN n).length = n := by simp [zerosN]
/-- the table, as far as it is made: the words at multiples of 2B, and at those of B below L -/
structure Tb (T : List Nat) (B L : Nat) : Prop where
  len : T.length = 256
  at_ : ∀ i, i < 256 → (i % (2 * B) = 0 ∨ (i % B = 0 ∧ i < L)) → T.getD i 0 = shN 8 i
theorem shN_row (j : Nat) (hj : j < 8) : shN (j + 1) 1 = shN 8 (128 / 2 ^ j) := by
  match j, hj with
  | 0, _ => decide +kernel
  | 1, _ => decide +kernel
  | 2, _ => decide +kernel
  | 3, _ => decide +kernel
  | 4, _ => decide +kernel
  | 5, _ => decide +kernel
  | 6, _ => decide +kernel
  | 7, _ => decide +kernel
theorem getD_set (T : List Nat) (i j y : Nat) (hj : j < T.length) : (T.set j y).getD i 0 = if j = i then y else T.getD i 0 := by
  simp only [List.getD_eq_getElem?_getD, List.getElem?_set]
  by_cases h : j = i
  · subst h; simp [hj]
  · simp [h]
theorem tb_step' {T : List Nat} {B L : Nat} (e : Nat) (he : e < 8) (hB : B = 2 ^ e) (h : Tb T B L) (hL : L < 256) (hm : L % (2 * B) = 0) :
    L + B < 256 ∧ (L + 2 * B) % (2 * B) = 0 ∧ L + 2 * B ≤ 256 ∧ Tb (T.set (L + B) (T.getD L 0 ^^^ shN 8 B)) B (L + 2 * B) := by
  have key : L + B < 256 ∧ L + 2 * B ≤ 256 ∧ ∀ i, i < 256 → ¬ L + B = i → (i % (2 * B) = 0 ∨ (i % B = 0 ∧ i < L + 2 * B)) → (i % (2 * B) = 0 ∨ (i % B = 0 ∧ i < L)) := by
    subst hB
    match e, he with
    | 0, _ => simp only [Nat.reducePow, Nat.reduceMul] at hm ⊢; exact ⟨by omega, by omega, fun i h1 h2 h3 => by omega⟩
    | 1, _ => simp only [Nat.reducePow, Nat.reduceMul] at hm ⊢; exact ⟨by omega, by omega, fun i h1 h2 h3 => by omega⟩
    | 2, _ => simp only [Nat.reducePow, Nat.reduceMul] at hm ⊢; exact ⟨by omega, by omega, fun i h1 h2 h3 => by omega⟩
    | 3, _ => simp only [Nat.reducePow, Nat.reduceMul] at hm ⊢; exact ⟨by omega, by omega, fun i h1 h2 h3 => by omega⟩
    | 4, _ => simp only [Nat.reducePow, Nat.reduceMul] at hm ⊢; exact ⟨by omega, by omega, fun i h1 h2 h3 => by omega⟩
    | 5, _ => simp only [Nat.reducePow, Nat.reduceMul] at hm ⊢; exact ⟨by omega, by omega, fun i h1 h2 h3 => by omega⟩
    | 6, _ => simp only [Nat.reducePow, Nat.reduceMul] at hm ⊢; exact ⟨by omega, by omega, fun i h1 h2 h3 => by omega⟩
    | 7, _ => simp only [Nat.reducePow, Nat.reduceMul] at hm ⊢; exact ⟨by omega, by omega, fun i h1 h2 h3 => by omega⟩
  obtain ⟨k1, k2, k3⟩ := key
  refine ⟨k1, by rw [Nat.add_mod_right]; exact hm, k2, ⟨by rw [List.length_set]; exact h.len, fun i hi hc => ?_⟩⟩
  rw [getD_set _ _ _ _ (by rw [h.len]; exact k1)]
  by_cases hi2 : L + B = i
  · rw [if_pos hi2, h.at_ L hL (Or.inl hm), ← shN_xor, ← row_add L B e (by rw [Nat.pow_succ, Nat.mul_comm, ← hB]; exact hm) hB, hi2]
  · rw [if_neg hi2]
    exact h.at_ i hi (k3 i hi hi2 hc)
/-- the step's bit -/
def pb (j : Nat) : Nat := 128 / 2 ^ j
theorem pb_lt (j : Nat) (h : j < 8) : pb j = 2 ^ (7 - j) := by
  unfold pb
  rw [show (128 : Nat) = 2 ^ 7 from rfl, Nat.pow_div (by omega) (by omega)]
theorem pb_end : pb 8 = 0 := rfl
theorem pb_succ (j : Nat) : pb j / 2 = pb (j + 1) := by
  unfold pb
  rw [Nat.div_div_eq_div_mul, Nat.pow_succ]
theorem pb_row (j : Nat) (hj : j < 8) : shN (j + 1) 1 = shN 8 (pb j) := shN_row j hj
/-- the words at multiples of so many -/
structure To (T : List Nat) (j : Nat) : Prop where
  len : T.length = 256
  at_ : ∀ i, i < 256 → i % (256 / 2 ^ j) = 0 → T.getD i 0 = shN 8 i
theorem pb_two (j : Nat) (h : j < 8) : 2 * pb j = 256 / 2 ^ j := by
  rw [pb_lt j h, show (256 : Nat) = 2 ^ 8 from rfl, Nat.pow_div (by omega) (by omega), Nat.mul_comm, ← Nat.pow_succ]
  congr 1
  omega
theorem pb_one (j : Nat) : pb j = 256 / 2 ^ (j + 1) := by
  unfold pb
  rw [Nat.pow_succ, Nat.mul_comm, ← Nat.div_div_eq_div_mul]
theorem to_begin : To (zerosN 256) 0 := by
  refine ⟨zerosN_length _, fun i hi h => ?_⟩
  obtain rfl : i = 0 := by simp only [Nat.pow_zero, Nat.div_one] at h; omega
  rfl
theorem To.inner {T : List Nat} {j : Nat} (h : To T j) (hj : j < 8) : Tb T (pb j) 0 :=
  ⟨h.len, fun i hi hc => h.at_ i hi (by rw [← pb_two j hj]; rcases hc with hc | hc; exact hc; omega)⟩
theorem Tb.outer {T : List Nat} {j L : Nat} (h : Tb T (pb j) L) (hL : 256 ≤ L) : To T (j + 1) :=
  ⟨h.len, fun i hi hc => h.at_ i hi (Or.inr ⟨by rw [pb_one]; exact hc, by omega⟩)⟩
theorem Tb.step {T : List Nat} {j L : Nat} (h : Tb T (pb j) L) (hj : j < 8) (hL : L < 256) (hm : L % (2 * pb j) = 0) :
    L + pb j < 256 ∧ (L + 2 * pb j) % (2 * pb j) = 0 ∧ L + 2 * pb j ≤ 256 ∧ Tb (T.set (L + pb j) (T.getD L 0 ^^^ shN 8 (pb j))) (pb j) (L + 2 * pb j) :=
  tb_step' (7 - j) (by omega) (pb_lt j hj) h hL hm

/-- the whole table -/
structure TabN (T : List Nat) : Prop where
  len : T.length = 256
  at_ : ∀ i, i < 256 → T.getD i 0 = shN 8 i
theorem To.done {T : List Nat} (h : To T 8) : TabN T := ⟨h.len, fun i hi => h.at_ i hi (by omega)⟩

/-- while the table is made -/
structure Mk (w : World) (T : List Nat) (wr : World) : Prop where
  b0 : wr.heap[w.heap.size]? = some (.cells (u32N (zerosN 256)).toArray 118 (0, 0))
  b1 : wr.heap[w.heap.size + 1]? = some (.cells (u32N T).toArray 118 (0, 0))
  bel : Below w.heap.size w wr
theorem Mk.step {w : World} {T : List Nat} {wr : World} (h : Mk w T wr) (t x : Nat) : Mk w (T.set t x) (wr.setCell ⟨w.heap.size + 1, t, none⟩ (.int .u32 (x : Int))) := by
  refine ⟨?_, ?_, ?_⟩
  · exact (hp_set wr _ _ _ _ (by omega)).trans h.b0
  · refine (blk_set (w := wr) (i := t) h.b1 (.int .u32 (x : Int))).trans ?_
    simp [← u32N_set]
  · exact h.bel.grown (gb_set wr _ _) h.bel.size (by intro k hk; cases hk; simp only []; omega)

set_option maxRecDepth 100000 in
set_option maxHeartbeats 1000000 in
theorem makeTable_any (w : World) :
    Calls Try.prog 64 #[] w fun e w' => ∃ T, TabN T ∧ e = .returned (.agg (u32N T).toArray) ∧ Below w.heap.size w w' := by
  obtain ⟨z, s⟩ := zero_of_info (P := Try.prog) (t := 118) (v := .agg (u32N (zerosN 256)).toArray) (n := 256) (by kernel_rfl)
  have HZ := hid s
  clear s
  go_enter Try.func64, Try.ntmps64
  go_wp2
  go_loopw [2, 3] (fun vr vb wr => ∃ (j : Nat) (T : List Nat), j ≤ 8 ∧ vr = .int .u32 (shN j 1 : Nat) ∧ vb = .int .i64 (pb j : Nat) ∧ To T j ∧ Mk w T wr) (fun _ vb _ => (intOf vb).toNat)
  case atStart =>
    refine ⟨0, zerosN 256, by omega, rfl, rfl, to_begin, ?_, ?_, ?_⟩
    · exact (hp_two w _ _).1
    · exact (hp_two w _ _).2
    · exact below_walk2 w _ _
  case round =>
    obtain ⟨j, T, hj, rfl, rfl, hT, hM⟩ := hrel
    clear z
    have HM := hid hM
    have HT := hid hT
    clear hM hT
    by_cases hlt : j < 8
    · have hp := pb_lt j hlt
      have hpos : 0 < pb j := by rw [hp]; exact Nat.two_pow_pos _
      have hple : pb j ≤ 128 := Nat.div_le_self _ _
      have HI := hid (HT.out.inner hlt)
      have HR := hid (pb_row j hlt)
      have HS := hid (pb_succ j)
      have HSL := hid (shN_lt (show (1 : Nat) < 4294967296 by omega) j)
      clear hp HT
      go_wp2_with (go_at_call 96; refine (shift_any _ HSL.out _).mono ?_; rintro e w' ⟨rfl, rfl⟩)
      go_loopw [4] (fun vl wr => ∃ (L : Nat) (T : List Nat), L ≤ 256 ∧ Hid (L % (2 * pb j) = 0) ∧ vl = .int .i64 (L : Nat) ∧ Tb T (pb j) L ∧ Mk w T wr) (fun vl _ => 256 - (intOf vl).toNat)
      case atStart => exact ⟨0, T, by omega, Nat.zero_mod _, rfl, HI.out, HM.out⟩
      case round =>
        obtain ⟨L, T, hL, HLM, rfl, hT, hM⟩ := hrel
        clear HM HI
        have HM := hid hM
        have HT := hid hT
        clear hM hT
        by_cases hl2 : L < 256
        · obtain ⟨k1, k2, k3, k4⟩ := HT.out.step hlt hl2 HLM.out
          have HK2 := hid k2
          have HK4 := hid k4
          clear k2 k4
          have c1 := u32N_cell HM.out.b1 L (by rw [HT.out.len]; exact hl2)
          obtain ⟨I, HI⟩ : ∃ I, Hid (I = L + pb j) := ⟨_, rfl⟩
          have hw : IntKind.i64.wrap ((L : Int) + ((pb j : Nat) : Int)) = (I : Int) := by rw [IntKind.wrap_i64, HI.out]; omega
          have hI1 : (I : Int) < 256 := by rw [HI.out]; omega
          have hI0 : (0 : Int) ≤ (I : Int) := by omega
          have f1 := row_fz HM.out.b1 I
          have c2 := u32N_cell HM.out.b1 I (by rw [HT.out.len, HI.out]; exact k1)
          have HX := hid (u32_xor_nat (T.getD L 0) (sh (shN j 1)) (by rw [HT.out.at_ L hl2 (Or.inl HLM.out)]; exact shN_lt (by omega) 8) (sh_lt HSL.out))
          have HN := hid (HM.out.step (L + pb j) (T.getD L 0 ^^^ sh (shN j 1)))
          go_wp2
          refine ⟨⟨L + 2 * pb j, _, k3, HK2, ?_, HK4.out, ?_⟩, ?_⟩
          · exact congrArg (Value.int .i64) (by omega)
          · rw [← HR.out]
            have := HN.out
            rw [← HI.out] at this ⊢
            rw [← HX.out] at this
            exact this
          · simp only [intOf]; omega
        · have HO := hid (HT.out.outer (show 256 ≤ L by omega))
          have hl3 : ¬ (L : Int) < 256 := by omega
          clear HT HLM hl2
          go_wp2
          refine ⟨⟨j + 1, T, hlt, rfl, ?_, HO.out, HM.out⟩, ?_⟩
          · rw [← HS.out]; rfl
          · simp only [intOf]; omega
    · obtain rfl : j = 8 := by omega
      have HD := hid HT.out.done
      rw [pb_end]
      clear HT
      have HL : Hid ((Try.prog.info? 118).map (·.size) = some (u32N T).length) := by rw [u32N_length, HD.out.len]; exact HZ.out
      go_upto_region 11 with fail
      refine wp_region_list ?_
      show wpList _ _ _ (_ :: _) _ _
      refine ld_row (by rfl) 118 (.tmp 1) (by rfl) (w.heap.size + 1) (by rfl) _ 118 HM.out.b1 _ Try.underlying118 rfl HL.out ?_
      refine st_row (by rfl) 118 (.tmp 0) (.tmp 26) (by rfl) w.heap.size _ (by rfl) (by rfl) 118 _ HM.out.b0 HL.out (by rw [List.size_toArray, u32N_length, u32N_length, HD.out.len, zerosN_length]) (u32N_one _) ?_
      intro w4 hw4
      have HWW := hid hw4
      clear hw4
      go_wp2
      refine ret_row 0 118 rfl w.heap.size rfl _ 118 HWW.out.blk _ Try.underlying118 rfl HL.out rfl ⟨T, HD.out, rfl, ?_⟩
      exact HM.out.bel.grown HWW.out.grown HM.out.bel.size (by intro k hk; cases hk; omega)

end Go.Proofs.Ytgoalfiinfkldaa

/- over, More, Sum; the document's More and Sum; check. -/
namespace Go.Proofs.Ytgoalfiinfkldaa
open Go.RowKit

/-- block b holds the table -/
def TabAt (w : World) (b : Nat) : Prop := ∃ T, TabN T ∧ w.heap[b]? = some (.cells (u32N T).toArray 118 (0, 0))
theorem TabAt.below {w w' : World} {b : Nat} (h : TabAt w b) (hb : Below w.heap.size w w') : TabAt w' b := by
  obtain ⟨T, h1, h2⟩ := h
  exact ⟨T, h1, (hb.block b (hp_lt h2)).trans h2⟩
theorem word_ok (c : Nat) (b : UInt8) (hc : c < 4294967296) : ∃ q : Nat, q < 256 ∧ bits .xor .u8 ((c : Int) % 256) ((b.toNat : Nat) : Int) = (q : Int) ∧ bits .xor .u32 ((shN 8 q : Nat) : Int) ((c : Int) / 256) = ((shN 8 (c ^^^ b.toNat) : Nat) : Int) := by
  have hb := b.toNat_lt
  have hq : c % 256 ^^^ b.toNat < 256 := Nat.xor_lt_two_pow (n := 8) (by omega) (by omega)
  refine ⟨c % 256 ^^^ b.toNat, hq, ?_, ?_⟩
  · have := u8_xor_nat (c % 256) b.toNat (by omega) (by omega)
    rw [← this]
    rfl
  · have := u32_xor_nat (shN 8 (c % 256 ^^^ b.toNat)) (c / 256) (shN_lt (by omega) 8) (by omega)
    rw [table_word c b.toNat, ← this]
    rfl

set_option maxRecDepth 100000 in
set_option maxHeartbeats 1000000 in
theorem crcOver_any (w : World) (b c : Nat) (v : Value) (bs : List UInt8) (hT : TabAt w b) (hc : c < 4294967296) (hv : Src w v bs) :
    Calls Try.prog 65 #[.pointer (some ⟨b, 0, none⟩), .int .u32 (c : Int), v] w fun e w' => e = .returned (.int .u32 (raw c bs : Nat)) ∧ w' = w := by
  obtain ⟨ao, cv, rfl⟩ := src_shape hv
  have hl := hv.1
  obtain ⟨T, hTN, hTB⟩ := hT
  have HV := hid hv
  have HTN := hid hTN
  have HTB := hid hTB
  clear hv hTN hTB
  go_enter Try.func65, Try.ntmps65
  go_wp2
  go_loop [1, 11] (fun vc vi => ∃ k : Nat, k ≤ bs.length ∧ vc = .int .u32 (raw c (bs.take k) : Nat) ∧ vi = .int .i64 k) (fun _ vi => bs.length - (intOf vi).toNat)
  case atStart => exact ⟨0, by omega, rfl, rfl⟩
  case round =>
    obtain ⟨k, hk, rfl, rfl⟩ := hrel
    by_cases hlt : k < bs.length
    · obtain ⟨ad, rfl, c1⟩ := src_at HV.out k hlt
      have HR := hid (raw_take c bs k hlt)
      obtain ⟨x, HXX⟩ : ∃ x : UInt8, Hid (x = bs.getD k 0) := ⟨_, rfl⟩
      rw [← HXX.out] at c1 HR
      obtain ⟨q, hq, hx1, hx2⟩ := word_ok (raw c (bs.take k)) x (raw_lt hc _)
      rw [← HR.out] at hx2
      have HX2 := hid hx2
      have c2 := u32N_cell HTB.out q (by rw [HTN.out.len]; exact hq)
      rw [HTN.out.at_ q hq] at c2
      clear hx2
      go_wp2
      refine ⟨⟨k + 1, hlt, ?_, by simp⟩, by simp [intOf]; omega⟩
      rw [← HX2.out]
    · obtain rfl : k = bs.length := by omega
      rw [List.take_length]
      go_wp2
      go_ret
      exact ⟨rfl, rfl⟩

theorem not32 (c : Nat) (hc : c < 4294967296) : bits .xor .u32 IntKind.u32.max (c : Int) = ((4294967295 ^^^ c : Nat) : Int) := u32_xor_nat 4294967295 c (by omega) hc

set_option maxRecDepth 100000 in
set_option maxHeartbeats 1000000 in
theorem rmore_any (w : World) (c : Nat) (v : Value) (bs : List UInt8) (hc : c < 4294967296) (hv : Src w v bs) :
    Calls Try.prog 49 #[.int .u32 (c : Int), v] w fun e w' => e = .returned (.int .u32 (moreP c bs : Nat)) ∧ w' = w := by
  obtain ⟨ao, cv, rfl⟩ := src_shape hv
  have hl := hv.1
  have HV := hid hv
  clear hv
  have hn1 := not32 c hc
  have HL := hid (xlt (show 4294967295 < 4294967296 by omega) hc)
  have hsg : IntKind.u32.signed = false := rfl
  go_enter Try.func49, Try.ntmps49
  go_wp2
  go_loop [0, 5] (fun vc vi => ∃ k : Nat, k ≤ bs.length ∧ vc = .int .u32 (raw (4294967295 ^^^ c) (bs.take k) : Nat) ∧ vi = .int .i64 k) (fun _ vi => bs.length - (intOf vi).toNat)
  case atStart => exact ⟨0, by omega, rfl, rfl⟩
  case round =>
    obtain ⟨k, hk, rfl, rfl⟩ := hrel
    clear hn1
    by_cases hlt : k < bs.length
    · obtain ⟨ad, rfl, c1⟩ := src_at HV.out k hlt
      have HR := hid (raw_take (4294967295 ^^^ c) bs k hlt)
      obtain ⟨x, HXX⟩ : ∃ x : UInt8, Hid (x = bs.getD k 0) := ⟨_, rfl⟩
      rw [← HXX.out] at c1 HR
      have HQ := hid (raw_lt HL.out (bs.take k))
      go_wp2_with (go_at_call 67; refine (byteOn_any _ _ HQ.out x.toNat_lt _).mono ?_; rintro e w' ⟨rfl, rfl⟩)
      refine ⟨⟨k + 1, hlt, ?_, by simp⟩, by simp [intOf]; omega⟩
      rw [HR.out]
    · obtain rfl : k = bs.length := by omega
      rw [List.take_length]
      have hn2 := not32 (raw (4294967295 ^^^ c) bs) (raw_lt HL.out bs)
      go_wp2
      go_ret
      exact ⟨rfl, rfl⟩

theorem moreP_take (c : Nat) (pss : List (List UInt8)) (k : Nat) (hk : k < pss.length) : moreP c (fl (pss.take (k + 1))) = moreP (moreP c (fl (pss.take k))) (pss.getD k []) := by
  rw [fl_snoc pss k hk, moreP_append]
theorem rawP_take (c : Nat) (pss : List (List UInt8)) (k : Nat) (hk : k < pss.length) : raw c (fl (pss.take (k + 1))) = raw (raw c (fl (pss.take k))) (pss.getD k []) := by
  rw [fl_snoc pss k hk, raw_append]

set_option maxRecDepth 100000 in
set_option maxHeartbeats 1000000 in
theorem sum_any (w : World) (v : Value) (pss : List (List UInt8)) (hv : Lists w v pss) (hn : pss.length ≤ 140737488355327) :
    Calls Try.prog 44 #[v] w fun e w' => e = .returned (.int .u32 (sumP (fl pss) : Nat)) ∧ Below w.heap.size w w' := by
  obtain ⟨z, s⟩ := zero_of_info (P := Try.prog) (t := 118) (v := .agg (u32N (zerosN 256)).toArray) (n := 256) (by kernel_rfl)
  have HZ := hid s
  have HZ2 := hid z
  clear s z
  obtain ⟨ao, cv, rfl⟩ := hv.shape
  have HV := hid hv
  clear hv
  have hsg : IntKind.u32.signed = false := rfl
  go_enter Try.func44, Try.ntmps44
  go_wp2_with fail
  refine (makeTable_any w).mono ?_
  rintro e w1 ⟨T, hT, rfl, hb⟩
  have HB := hid hb
  have HT := hid hT
  clear hT hb
  rename_i Kx hKx
  refine hKx _ _ ?_
  clear hKx
  refine al_row (by rfl) 118 (by rfl) _ HZ2.out ?_
  refine st_new (by rfl) 118 (.tmp 3) (.tmp 7) (by rfl) (u32N T) (by rfl) (by rfl) _ _ (by rw [u32N_length, HT.out.len]; exact HZ.out) (by rw [List.size_toArray, u32N_length, u32N_length, zerosN_length, HT.out.len]) (u32N_one _) ?_
  have HTA := hid (show TabAt (w1.alloc (.cells (u32N T).toArray 118)) w1.heap.size from ⟨T, HT.out, hp_new _ _⟩)
  have HBel := hid (HB.out.alloc HB.out.size (.cells (u32N T).toArray 118))
  generalize w1.alloc (.cells (u32N T).toArray 118) = w2 at HTA HBel ⊢
  have HV2 := hid (HV.out.below HBel.out)
  clear HV HB HT
  go_wp2
  go_loop [4, 10] (fun vc vi => ∃ k : Nat, k ≤ pss.length ∧ vc = .int .u32 (raw 4294967295 (fl (pss.take k)) : Nat) ∧ vi = .int .i64 k) (fun _ vi => pss.length - (intOf vi).toNat)
  case atStart => exact ⟨0, by omega, by rw [List.take_zero, fl_nil, raw_nil]; rfl, rfl⟩
  case round =>
    obtain ⟨k, hk, rfl, rfl⟩ := hrel
    by_cases hlt : k < pss.length
    · obtain ⟨g, o, rfl, u, c1, hsrc⟩ := HV2.out.at k hlt
      obtain ⟨p, HP⟩ : ∃ p, Hid (p = pss.getD k []) := ⟨_, rfl⟩
      rw [← HP.out] at hsrc
      have HS := hid hsrc
      have HR := hid (rawP_take 4294967295 pss k hlt)
      rw [← HP.out] at HR
      have HQ := hid (raw_lt (show 4294967295 < 4294967296 by omega) (fl (pss.take k)))
      clear hsrc
      go_wp2_with (go_at_call 65; refine (crcOver_any _ _ _ _ _ HTA.out HQ.out HS.out).mono ?_; rintro e w' ⟨rfl, rfl⟩)
      refine ⟨⟨k + 1, hlt, ?_, by simp⟩, by simp [intOf]; omega⟩
      rw [HR.out]
    · obtain rfl : k = pss.length := by omega
      rw [fl_all]
      have hn2 := not32 (raw 4294967295 (fl pss)) (raw_lt (by omega) _)
      go_wp2
      go_ret
      exact ⟨by unfold sumP moreP; rfl, HBel.out⟩

theorem check_sum : sumP [49, 50, 51, 52, 53, 54, 55, 56, 57] = 3808858755 := by decide +kernel
theorem parts9 (w : World) (f1 : Nat × Nat) :
    Lists ((w.alloc (.cells #[.int .u8 49, .int .u8 50, .int .u8 51, .int .u8 52, .int .u8 53, .int .u8 54, .int .u8 55, .int .u8 56, .int .u8 57] 5 f1)).alloc (.cells #[.slice (some ⟨w.heap.size, 0, none⟩) 9 9] 30))
      (.slice (some ⟨w.heap.size + 1, 0, none⟩) 1 1) [[49, 50, 51, 52, 53, 54, 55, 56, 57]] := by
  have h1 := hp_two w (.cells #[.int .u8 49, .int .u8 50, .int .u8 51, .int .u8 52, .int .u8 53, .int .u8 54, .int .u8 55, .int .u8 56, .int .u8 57] 5 f1) (.cells #[.slice (some ⟨w.heap.size, 0, none⟩) 9 9] 30)
  refine Or.inr ⟨w.heap.size + 1, 0, 1, rfl, hp_lt h1.2, fun j hj => ?_⟩
  match j, hj with
  | 0, _ => exact ⟨_, by rw [cell_of_row _ _ _ _ _ _ h1.2]; rfl, src_lit h1.1 rfl (by decide) _ rfl⟩

end Go.Proofs.Ytgoalfiinfkldaa

/- Bytes, Seal: the program's and the document's; bytes.Equal, slices.Equal. -/
namespace Go.Proofs.Ytgoalfiinfkldaa
open Go.RowKit

/-- make([]byte, L, C) -/
theorem make_len {w : World} {ops : Array Oper} {rest : List Oper} {o : Oper} {a : Act} {Q : Exit → Act → World → Prop} (hgd : o.guard = none) (l c : Operand) (ho : o.op = Op.makeSlice 30 l c)
    (kl kc : IntKind) (Li Ci : Int) (L C : Nat) (hl : a.eval l = .int kl Li) (hc : a.eval c = .int kc Ci) (hLi : Li = (L : Int)) (hCi : Ci = (C : Int)) (hLC : L ≤ C) (hC : C ≤ 140737488355327)
    (h : ∀ w', OwnB w' w.heap.size (.slice (some ⟨w.heap.size, 0, none⟩) L C) (List.replicate L 0) → Below w.heap.size w w' → wpList Try.prog ops Q rest (a.put o.dst (.slice (some ⟨w.heap.size, 0, none⟩) L C)) w') : wpList Try.prog ops Q (o :: rest) a w := by
  subst hLi hCi
  obtain ⟨i0, hi, hz0, hz1, hz2⟩ := info_parts Try.infoU8
  refine wpList_plain hgd fun K hK => ?_
  have hr := run_make (P := Try.prog) w 30 5 i0 (.int .u8 0) Try.underlying30 hi hz0 kl kc L C (by omega) (by omega) (by rw [hz2]; omega) (by omega)
  simp only [Int.toNat_natCast, hz1, Nat.mul_one] at hr
  unfold Oper.wp
  simp [execOp, ho, hl, hc, hr, Result.andThen]
  refine hK _ _ (h _ ?_ (below_walk w _))
  refine ⟨by simp [bytesV], Or.inr ⟨w.heap.size, C, madeCells (Value.int .u8 0).cells C, by simp, Nat.le_refl _, hp_new _ _, by simpa using hLC, by unfold maxLen; omega, by simp [size_madeCells], ?_⟩⟩
  simp only [List.length_replicate, Nat.mul_one]
  apply List.ext_getElem?
  intro j
  by_cases hj : j < L
  · simp [madeCells, bytesV, Value.cells, hj, show j < C by omega, Nat.mod_one]
  · simp [List.getElem?_take, hj, bytesV]

theorem cut_end {w : World} {v : Value} {bs : List UInt8} (h : Src w v bs) (k : Nat) (hk : k ≤ bs.length) :
    ∃ vx, Src w vx (bs.drop k) ∧ (∀ j, vx.ownBlock = some j → v.ownBlock = some j) ∧ (∀ W, (Instr.sliceAt 30 v (some (.int .i64 (k : Int))) none none).run Try.prog W = .ok vx W) := by
  obtain ⟨hl, ⟨rfl, rfl⟩ | ⟨ad, cap, rfl, h1, h2, hlt, hc⟩⟩ := h
  · simp at hk
    subst hk
    exact ⟨.slice none 0 0, ⟨by simp, Or.inl ⟨rfl, rfl⟩⟩, fun j e => e, fun W => by go_simp⟩
  · have hlen : (bs.drop k).length = bs.length - k := by simp
    have hk2 : (k : Int) ≤ (bs.length : Int) := by omega
    refine ⟨.slice (if cap = k then some ad else some (ad.add k)) (bs.length - k) (cap - k), ⟨by omega, Or.inr ?_⟩, fun j e => ?_, fun W => ?_⟩
    · by_cases hck : cap = k
      · rw [if_pos hck]
        exact ⟨ad, cap - k, by rw [hlen], by omega, by omega, fun h => by omega, fun j hj => by omega⟩
      · rw [if_neg hck]
        refine ⟨ad.add k, cap - k, by rw [hlen], by omega, by omega, fun h => by rw [addr_block]; exact hlt (by omega), fun j hj => ?_⟩
        rw [hlen] at hj
        rw [Addr.add_add, hc (k + j) (by omega)]
        simp [List.getD_eq_getElem?_getD]
    · by_cases hck : cap = k
      · rw [if_pos hck] at e; exact e
      · rw [if_neg hck] at e
        simpa [Value.ownBlock, addr_block] using e
    · go_simp

/-- how a slice is cut at its beginning -/
theorem cut_begin {w : World} {v : Value} {bs : List UInt8} (h : Src w v bs) (k : Nat) (hk : k ≤ bs.length) :
    ∃ vx, Src w vx (bs.take k) ∧ (∀ W, (Instr.sliceAt 30 v none (some (.int .i64 (k : Int))) none).run Try.prog W = .ok vx W) := by
  obtain ⟨hl, ⟨rfl, rfl⟩ | ⟨ad, cap, rfl, h1, h2, hlt, hc⟩⟩ := h
  · simp at hk
    subst hk
    exact ⟨.slice none 0 0, ⟨by simp, Or.inl ⟨rfl, rfl⟩⟩, fun W => by go_simp⟩
  · have hlen : (bs.take k).length = k := by simp; omega
    refine ⟨.slice (some ad) k cap, ⟨by omega, Or.inr ⟨ad, cap, by rw [hlen], by omega, h2, fun h => hlt (by omega), fun j hj => ?_⟩⟩, fun W => ?_⟩
    · rw [hlen] at hj
      rw [hc j (by omega)]
      simp [List.getD_eq_getElem?_getD, hj]
    · have hk2 : (k : Int) ≤ (cap : Int) := by omega
      go_simp

/-- a number xs four bytes, the lowest first -/
def le4 (c : Nat) : List UInt8 := [c.toUInt8, (c / 256).toUInt8, (c / 65536).toUInt8, (c / 16777216).toUInt8]
theorem le4_length (c : Nat) : (le4 c).length = 4 := rfl
theorem le4_V (c : Nat) : bytesV (le4 c) = [.int .u8 ((c : Int) % 256), .int .u8 ((c : Int) / 256 % 256), .int .u8 ((c : Int) / 65536 % 256), .int .u8 ((c : Int) / 16777216 % 256)] := by
  have h0 : ((c % 256 : Nat) : Int) = (c : Int) % 256 := by omega
  have h1 : ((c / 256 % 256 : Nat) : Int) = (c : Int) / 256 % 256 := by omega
  have h2 : ((c / 65536 % 256 : Nat) : Int) = (c : Int) / 65536 % 256 := by omega
  have h3 : ((c / 16777216 % 256 : Nat) : Int) = (c : Int) / 16777216 % 256 := by omega
  rw [← h0, ← h1, ← h2, ← h3]
  simp only [bytesV, le4, List.map_cons, List.map_nil, byte_of]

set_option maxRecDepth 100000 in
set_option maxHeartbeats 1000000 in
theorem bytes_any (w : World) (c : Nat) :
    Calls Try.prog 43 #[.int .u32 (c : Int)] w fun e w' => e = .returned (.agg (bytesV (le4 c)).toArray) ∧ Below w.heap.size w w' := by
  have HV := hid (le4_V c)
  go_enter Try.func43, Try.ntmps43
  go_wp2
  refine ret_row 2 85 rfl w.heap.size rfl (bytesV (le4 c)) 85 ?_ _ Try.underlying85 rfl (by kernel_rfl) rfl ⟨rfl, ?_⟩
  · rw [HV.out]; exact hp_new _ _
  · exact below_walk w _

set_option maxRecDepth 100000 in
set_option maxHeartbeats 1000000 in
theorem rbytes_any (w : World) (c : Nat) :
    Calls Try.prog 48 #[.int .u32 (c : Int)] w fun e w' => e = .returned (.agg (bytesV (le4 c)).toArray) ∧ Below w.heap.size w w' := by
  have HV := hid (le4_V c)
  go_enter Try.func48, Try.ntmps48
  go_wp2
  refine ret_row 2 85 rfl w.heap.size rfl (bytesV (le4 c)) 85 ?_ _ Try.underlying85 rfl (by kernel_rfl) rfl ⟨rfl, ?_⟩
  · rw [HV.out]; exact hp_new _ _
  · exact below_walk w _

set_option maxHeartbeats 1000000 in
theorem bequal_true (w : World) (va vb : Value) (bs : List UInt8) (ha : Src w va bs) (hb : Src w vb bs) :
    Calls Try.prog 11 #[va, vb] w fun e w' => e = .returned (.bool true) ∧ w' = w := by
  have k1 := run_str ha
  have k2 := run_str hb
  clear ha hb
  go_enter Try.func11, Try.ntmps11
  go_wp2
  go_ret
  exact ⟨rfl, rfl⟩

theorem drewN_two (w : World) (a b : Nat) : (w.drewN a).drewN b = w.drewN (a + b) := by simp [World.drewN, Nat.add_assoc]
theorem take_eq_succ {xs bs : List UInt8} {k : Nat} (hl : xs.length = bs.length) (hk : k < xs.length) (h : xs.take k = bs.take k) (e : xs.getD k 0 = bs.getD k 0) : xs.take (k + 1) = bs.take (k + 1) := by
  rw [List.take_succ_eq_append_getElem hk, List.take_succ_eq_append_getElem (by omega), h]
  simp only [List.getD_eq_getElem?_getD, List.getElem?_eq_getElem hk, List.getElem?_eq_getElem (show k < bs.length by omega), Option.getD_some] at e
  rw [e]

set_option maxRecDepth 100000 in
set_option maxHeartbeats 1000000 in
theorem sequal_any (w : World) (va vb : Value) (xs bs : List UInt8) (ha : Src w va xs) (hb : Src w vb bs) :
    Calls Try.prog 70 #[va, vb] w fun e w' => e = .returned (.bool (decide (xs = bs))) ∧ ∃ k, w' = w.drewN k := by
  obtain ⟨aa, ca, rfl⟩ := src_shape ha
  obtain ⟨ab, cb, rfl⟩ := src_shape hb
  have hl := ha.1
  have hl2 := hb.1
  have HA := hid ha
  have HB := hid hb
  clear ha hb
  by_cases hlen : xs.length = bs.length
  · have HL := hid hlen
    have hle : (xs.length : Int) = (bs.length : Int) := by omega
    have hne : (((xs.length : Nat) : Int) != ((bs.length : Nat) : Int)) = false := by rw [hlen]; simp
    clear hlen
    have HLE := hid hle
    clear hle
    go_enter Try.func70, Try.ntmps70
    go_wp2
    go_loopw [13] (fun i wr => ∃ k q : Nat, k ≤ xs.length ∧ i = .int .i64 k ∧ wr = w.drewN q ∧ Hid (xs.take k = bs.take k)) (fun i _ => xs.length - (intOf i).toNat)
    case atStart => exact ⟨0, 0, by omega, rfl, rfl, rfl⟩
    case round =>
      obtain ⟨k, q, hk, rfl, rfl, HT⟩ := hrel
      clear hne
      by_cases hlt : k < xs.length
      · obtain ⟨ad, rfl, c1⟩ := src_at HA.out k hlt
        obtain ⟨bd, rfl, c2⟩ := src_at HB.out k (by have := HL.out; omega)
        have hlt2 : (k : Int) < (bs.length : Int) := by have := HLE.out; omega
        obtain ⟨x, HX⟩ : ∃ x : UInt8, Hid (x = xs.getD k 0) := ⟨_, rfl⟩
        obtain ⟨y, HY⟩ : ∃ y : UInt8, Hid (y = bs.getD k 0) := ⟨_, rfl⟩
        rw [← HX.out] at c1
        rw [← HY.out] at c2
        by_cases hxy : x = y
        · subst hxy
          have HN := hid (take_eq_succ HL.out hlt HT.out (by rw [← HX.out, ← HY.out]))
          go_wp2
          go_quiet (fail)
          go_wp2
          exact ⟨⟨k + 1, _, by omega, by simp, rfl, HN⟩, by simp [intOf]; omega⟩
        · have hd : ((((x.toNat : Nat) : Int)) != ((y.toNat : Nat) : Int)) = true := by
            simp only [bne_iff_ne, ne_eq]
            intro e
            exact hxy (UInt8.toNat_inj.1 (by omega))
          have HNE := hid (show decide (xs = bs) = false from decide_eq_false (fun e => hxy (by rw [HX.out, HY.out, e])))
          clear hxy
          go_wp2
          go_quiet (fail)
          go_wp2
          go_ret
          exact ⟨by rw [HNE.out]; rfl, _, drewN_two _ _ _⟩
      · have HE := hid (show decide (xs = bs) = true from decide_eq_true (by
          have h1 := HT.out
          have h2 := HL.out
          rwa [List.take_of_length_le (by omega), List.take_of_length_le (by omega)] at h1))
        have hge : ¬ (k : Int) < (xs.length : Int) := by omega
        clear hlt HT
        go_wp2
        go_ret
        exact ⟨by rw [HE.out]; rfl, _, rfl⟩
  · have hne : (((xs.length : Nat) : Int) != ((bs.length : Nat) : Int)) = true := by simp only [bne_iff_ne, ne_eq]; omega
    have HNE := hid (show decide (xs = bs) = false from decide_eq_false (fun e => hlen (by rw [e])))
    clear hlen
    go_enter Try.func70, Try.ntmps70
    go_wp2
    go_ret
    exact ⟨by rw [HNE.out]; rfl, 0, rfl⟩

theorem sum_one (w : World) (v : Value) (bs : List UInt8) (hv : Src w v bs) :
    Calls Try.prog 44 #[.slice (some ⟨w.heap.size, 0, none⟩) 1 1] (w.alloc (.cells #[v] 30)) fun e w' => e = .returned (.int .u32 (sumP bs : Nat)) ∧ Below w.heap.size w w' := by
  refine (sum_any _ _ [bs] (lists_one hv) (by simp)).mono ?_
  rintro e w' ⟨rfl, hb⟩
  refine ⟨by simp [fl], (below_walk w _).trans (hb.mono (by rw [hp_size]; omega))⟩

/-- sealed bytes -/
def sealP (bs : List UInt8) : List UInt8 := bs ++ le4 (sumP bs)
theorem sealP_length (bs : List UInt8) : (sealP bs).length = bs.length + 4 := by simp [sealP, le4_length]

/-- bytes of which something was copied over a row that is one's own -/
theorem own_splice {w : World} {g base cap n : Nat} {cur : List Value} {bs : List UInt8} (hb : w.heap[g]? = some (.cells cur.toArray 5 (0, 0))) (hbase : base ≤ g) (hn : n = bs.length) (hc : n ≤ cap) (hcm : cap ≤ maxLen) (hl : cur.length = cap) (ht : cur.take n = bytesV bs) :
    OwnB w base (.slice (some ⟨g, 0, none⟩) n cap) bs := by
  subst hn
  exact ⟨by simp [bytesV], Or.inr ⟨g, cap, cur.toArray, rfl, hbase, hb, hc, hcm, by simpa using hl, by simpa using ht⟩⟩

end Go.Proofs.Ytgoalfiinfkldaa

/- Seal: the program's and the document's. -/
namespace Go.Proofs.Ytgoalfiinfkldaa
open Go.RowKit

/-- how a small array is cut whole -/
theorem cut_array {w : World} {b : Nat} {bs : List UInt8} (hb : w.heap[b]? = some (.cells (bytesV bs).toArray 85 (0, 0))) (h4 : bs.length = 4) : Src w (.slice (some ⟨b, 0, none⟩) 4 4) bs := by
  refine ⟨by omega, Or.inr ⟨⟨b, 0, none⟩, 4, by rw [h4], by omega, by unfold maxLen; omega, fun _ => hp_lt hb, fun j hj => ?_⟩⟩
  rw [addr_add, cell_of_row w b j _ _ _ hb]
  simp [bytesV, List.getD_eq_getElem?_getD, hj]

theorem cut_tail (g n : Nat) (W : World) : (Instr.sliceAt 30 (.slice (some ⟨g, 0, none⟩) (n + 4) (n + 4)) (some (.int .i64 (n : Int))) none none).run Try.prog W = .ok (.slice (some ⟨g, n, none⟩) 4 4) W := by
  have h1 : (n : Int) ≤ (n : Int) + 4 := by omega
  go_simp
theorem splice_two (cur : List Value) (A B : List Value) (n : Nat) (hA : A.length = n) : (splice (splice cur 0 A) n B).take (n + B.length) = A ++ B := by
  subst hA
  have e : (splice cur 0 A).take A.length = A := by simp [splice]
  show List.take _ ((splice cur 0 A).take A.length ++ (B ++ (splice cur 0 A).drop (A.length + B.length))) = _
  rw [e, ← List.append_assoc, List.take_left' (by simp)]
theorem splice_len2 (cur : List Value) (A B : List Value) (n : Nat) (hA : A.length = n) (hc : cur.length = n + B.length) : (splice (splice cur 0 A) n B).length = n + B.length := by
  rw [length_splice _ _ _ (by rw [length_splice _ _ _ (by omega)]; omega), length_splice _ _ _ (by omega), hc]

set_option maxRecDepth 100000 in
set_option maxHeartbeats 1000000 in
theorem seal_any (w : World) (v : Value) (bs : List UInt8) (hv : Src w v bs) (hl : bs.length ≤ 140737488355000) :
    Calls Try.prog 23 #[v] w fun e w' => ∃ v', e = .returned v' ∧ OwnB w' w.heap.size v' (sealP bs) ∧ Below w.heap.size w w' := by
  obtain ⟨av, cv, rfl⟩ := src_shape hv
  have HV := hid hv
  clear hv
  go_enter Try.func23, Try.ntmps23
  go_wp2_with (at_make; refine make_len rfl _ _ rfl _ _ _ _ (bs.length + 4) (bs.length + 4) rfl rfl ?c1 ?c2 ?c3 ?c4 ?_)
  case c1 => push_cast; rfl
  case c2 => push_cast; rfl
  case c3 => exact Nat.le_refl _
  case c4 => omega
  intro w1 ho1 hb1
  have HO1 := hid ho1
  have HB1 := hid hb1
  clear ho1 hb1
  obtain ⟨cur, hcb, hcl⟩ : ∃ cur : List Value, w1.heap[w.heap.size]? = some (.cells cur.toArray 5 (0, 0)) ∧ cur.length = bs.length + 4 := by
    obtain ⟨_, ⟨h2, _⟩ | ⟨g', cap', cur, hv, hb, hh, h3, h4, h5, h6⟩⟩ := HO1.out
    · simp at h2
    · simp only [Value.slice.injEq, Option.some.injEq, Addr.mk.injEq, and_true] at hv
      obtain ⟨rfl, _, rfl⟩ := hv
      exact ⟨cur.toList, by simpa using hh, by simpa using h5⟩
  have HCB := hid hcb
  have HCL := hid hcl
  clear hcb hcl HO1
  obtain ⟨X1, HX1⟩ : ∃ X1, Hid (X1 = bytesV bs) := ⟨_, rfl⟩
  have HXL := hid (show X1.length = bs.length by rw [HX1.out, bytesV_length])
  have HX1C := hid (show ∀ u ∈ X1, u.oneCell' = true by rw [HX1.out]; exact bytesV_one bs)
  have HU := hid (show (Try.prog.info? 5).map (·.size) = some 1 by kernel_rfl)
  have HXS := hid (show 0 < X1.length → (some (⟨w.heap.size, 0, none⟩ : Addr)) = some ⟨w.heap.size, 0, none⟩ ∧ ∃ ad, av = some ad ∧ ∀ j u, X1[j]? = some u → w1.cell? (ad.add j) = some u by
    intro hp
    refine ⟨rfl, ?_⟩
    rcases (HV.out.below HB1.out).2 with ⟨_, h0⟩ | ⟨ad, cap, hv, _, _, _, hc⟩
    · rw [HXL.out, h0] at hp; simp at hp
    · injection hv with h1
      rw [HX1.out]
      exact ⟨ad, h1, src_cells hc⟩)
  go_upto_region 2 with fail
  refine wp_region_list ?_
  show wpList _ _ _ (_ :: _) _ _
  refine mv_row (by rfl) (.tmp 3) (by rfl) (.slice (some ⟨w.heap.size, 0, none⟩) (bs.length + 4) (bs.length + 4)) (by rfl) ?_
  refine mv_row (by rfl) (.tmp 0) (by rfl) (.slice av bs.length cv) (by rfl) ?_
  refine wpList_copy_splice (by rfl) (.tmp 9) (.tmp 10) 30 30 (by rfl) 5 Try.underlying30 HU.out _ _ _ _ _ _ (by rfl) (by rfl) w.heap.size 0 cur 5 HCB.out X1 (by rw [HXL.out]; exact (Nat.min_eq_left (Nat.le_add_right _ _)).symm) HXS.out (by have := HXL.out; have := HCL.out; omega) HX1C.out w.heap.size w HB1.out (Nat.le_refl _) ?_
  intro w2 HC2 hb2
  have HB2 := hid hb2
  clear hb2 HXS HX1C HCB HB1
  have HV2 := hid (HV.out.below HB2.out)
  clear HV
  go_wp2_with fail
  refine (sum_one w2 _ bs HV2.out).mono ?_
  rintro e w3 ⟨rfl, hb3⟩
  have HB3 := hid (HB2.out.trans (hb3.mono HB2.out.size))
  have HC3 := hid ((hb3.block w.heap.size (hp_lt HC2.out)).trans HC2.out)
  clear hb3 HC2 HB2 HV2
  go_wp2_with fail
  refine (bytes_any w3 _).mono ?_
  rintro e w4 ⟨rfl, hb4⟩
  have HB4 := hid (HB3.out.trans (hb4.mono HB3.out.size))
  have HC4 := hid ((hb4.block w.heap.size (hp_lt HC3.out)).trans HC3.out)
  clear hb4 HC3 HB3
  obtain ⟨X2, HX2⟩ : ∃ X2, Hid (X2 = bytesV (le4 (sumP bs))) := ⟨_, rfl⟩
  have HX2L := hid (show X2.length = 4 by rw [HX2.out, bytesV_length]; rfl)
  rw [← HX2.out]
  rename_i Kx hKx
  refine hKx _ _ ?_
  clear hKx
  obtain ⟨z, s⟩ := zero_of_info (P := Try.prog) (t := 85) (v := .agg (bytesV [0, 0, 0, 0]).toArray) (n := 4) (by kernel_rfl)
  refine al_row (by rfl) 85 (by rfl) _ z ?_
  refine st_new (by rfl) 85 (.tmp 4) (.tmp 15) (by rfl) X2 (by rfl) (by rfl) _ _ (by rw [HX2L.out]; exact s) (by rw [List.size_toArray, HX2L.out]; rfl) (by rw [HX2.out]; exact bytesV_one _) ?_
  have HN := hid (hp_new w4 (.cells X2.toArray 85))
  have HB5 := hid (HB4.out.alloc HB4.out.size (.cells X2.toArray 85))
  have HC5 := hid ((hp_old w4 (.cells X2.toArray 85) _ (hp_lt HC4.out)).trans HC4.out)
  have HNE := hid (show w.heap.size ≠ w4.heap.size by have := hp_lt HC4.out; omega)
  clear z s
  generalize w4.alloc (.cells X2.toArray 85) = w5 at HN HB5 HC5 ⊢
  have HS2 := hid (show 0 < X2.length → some (⟨w.heap.size, bs.length, none⟩ : Addr) = some ⟨w.heap.size, bs.length, none⟩ ∧ ∃ ad, some (⟨w4.heap.size, 0, none⟩ : Addr) = some ad ∧ ∀ j u, X2[j]? = some u → w5.cell? (ad.add j) = some u by
    intro _
    refine ⟨rfl, _, rfl, fun j u hj => ?_⟩
    rw [addr_add, cell_of_row _ _ _ _ _ _ HN.out]
    simpa using hj)
  have hcut := cut_tail w.heap.size bs.length
  have HF := hid (show bs.length + X2.length ≤ (splice cur 0 X1).length by
    have h1 := HXL.out
    have h2 := HCL.out
    have h3 := HX2L.out
    rw [length_splice _ _ _ (by omega)]
    omega)
  have H1C := hid (show ∀ u ∈ X2, u.oneCell' = true by rw [HX2.out]; exact bytesV_one _)
  have HML := hid (show X2.length = Nat.min 4 4 by rw [HX2L.out]; rfl)
  clear HC4 HB4
  go_upto_region 4 with fail
  go_region_law ((refine step_copy_splice (by rfl) (.tmp 19) (.tmp 20) 30 30 (by rfl) 5 Try.underlying30 HU.out (some ⟨w.heap.size, bs.length, none⟩) (some ⟨w4.heap.size, 0, none⟩) 4 4 4 4 (by rfl) (by rfl) w.heap.size bs.length (splice cur 0 X1) 5 (by exact HC5.out) X2 HML.out (by exact HS2.out) HF.out H1C.out w.heap.size w (by exact ⟨HB5.out.os, HB5.out.tape, HB5.out.output, HB5.out.size, HB5.out.block⟩) (Nat.le_refl _) ?_; intro w6 HC6 hb6; have HB6 := hid hb6; clear hb6))
  go_wp2
  go_ret
  refine ⟨_, rfl, ?_, HB6.out⟩
  refine own_splice HC6.out (Nat.le_refl _) (by rw [sealP_length]) (Nat.le_refl _) (by unfold maxLen; omega) ?_ ?_
  · rw [show bs.length + 4 = bs.length + X2.length by rw [HX2L.out]]
    exact splice_len2 cur X1 X2 bs.length HXL.out (by rw [HCL.out, HX2L.out])
  · rw [show bs.length + 4 = bs.length + X2.length by rw [HX2L.out], splice_two cur X1 X2 bs.length HXL.out, HX1.out, HX2.out, ← bytesV_append]
    rfl

end Go.Proofs.Ytgoalfiinfkldaa
