/- Contracts and pure facts that the proof needs, joined. -/
import Derived.Test.YtiibhccbbpgehaaGreatG3
import Derived.Test.YtiibhccbbpgehaaGreatG1
import Derived.Test.YtiibhccbbpgehaaGreatG2
import Derived.Laws.CopyOwn

/- The calls Uint, Int, Count, Bool, Text and Raw of a reader that NewReader gave. -/
namespace Go.Proofs.YtiibhccbbpgehaaGreat
open Go.RowKit

theorem one_bound (w : World) (n : Int) : ∀ i : Nat, i < 1 → (w.alloc (.cells #[.int .i64 n] 3)).cell? ⟨w.heap.size, i, none⟩ = some (.int .i64 ((fun _ => n) i)) := by
  intro i hi
  obtain rfl : i = 0 := by omega
  simp

section

variable (base b : Nat) (v : Value) (bs : List UInt8) (a : Nat) (why wat : Int) (w : World)

/-- where the fault is, behind a read -/
def watOf (er a : Nat) (wat : Int) : Int := if er ≠ 0 then (a : Int) else wat
/-- the state behind a read: its error is the fault, at the place -/
theorem Rd.after {w : World} {base b : Nat} {v : Value} {bs : List UInt8} {a k er : Nat} {wat : Int} (hk : er ≠ 0 → k = 0)
    (h : Rd w base b v bs (a + k) (if (0 : Int) = 0 then (er : Int) else 0) (if (0 : Int) = 0 ∧ (er : Int) ≠ 0 then ((a + k : Nat) : Int) else wat)) : Rd w base b v bs (a + k) er (watOf er a wat) := by
  unfold watOf
  by_cases he : er = 0
  · subst he; simpa using h
  · have := hk he
    subst this
    simpa [he] using h

set_option maxHeartbeats 400000 in
theorem uint_over (h : Rd w base b v bs a why wat) (hw : why ≠ 0) :
    Calls Tryz.prog 65 #[.pointer (some ⟨b, 0, none⟩)] w fun e w' => e = .returned (.int .u64 0) ∧ w' = w := by
  have h4 := h.c4
  have h2 := h.c2
  have hb : (why != 0) = true := by simpa using hw
  clear h hw
  go_enter Tryz.func65, Tryz.ntmps65
  go_wp2_with (first
    | (go_at_call 96; refine (own_made _ _ h4).mono ?_; rintro e w' ⟨rfl, rfl⟩)
    | (go_at_call 97; refine (may_none _ _ _ h2).mono ?_; rintro e w' ⟨rfl, rfl⟩))
  go_ret
  exact ⟨rfl, rfl⟩

set_option maxHeartbeats 400000 in
theorem uint_go (h : Rd w base b v bs a 0 wat) (er n k : Nat) (hdec : dec (bs.drop a) 0 0 = (er, n, k)) :
    Calls Tryz.prog 65 #[.pointer (some ⟨b, 0, none⟩)] w fun e w' => e = .returned (.int .u64 n) ∧ Rd w' base b v bs (a + k) er (watOf er a wat) ∧ w.grownBy w' (some b) := by
  have HD := hid hdec
  have HK := hid (fun e => ((dec_le _ hdec).2.2.2 e).2 : er ≠ 0 → k = 0)
  clear hdec
  have h4 := h.c4
  have h2 := h.c2
  have HH := hid h
  clear h
  go_enter Tryz.func65, Tryz.ntmps65
  go_wp2_with fail
  refine (own_made _ _ h4).mono ?_
  rintro e w' ⟨rfl, rfl⟩
  go_wp2_with fail
  refine (may_none _ _ _ h2).mono ?_
  rintro e w' ⟨rfl, rfl⟩
  go_wp2_with fail
  refine (number_any _ _ _ _ _ _ _ _ HH.out _ _ _ HD.out).mono ?_
  rintro e w1 ⟨rfl, hR, hg⟩
  have HR := hid hR
  have HG := hid hg
  clear hR hg
  go_wp2_with fail
  refine (wfail_any _ _ _ _ _ _ _ _ _ HR.out).mono ?_
  rintro e w2 ⟨rfl, hR2, hg2⟩
  have HR2 := hid (Rd.after HK.out hR2)
  have HG2 := hid (gb_trans HG.out hg2)
  clear hR2 hg2
  go_wp2
  go_ret
  exact ⟨rfl, HR2.out, HG2.out⟩

set_option maxHeartbeats 400000 in
theorem count_over (m : Int) (h : Rd w base b v bs a why wat) (hw : why ≠ 0) :
    Calls Tryz.prog 101 #[.pointer (some ⟨b, 0, none⟩), .int .i64 m] w fun e w' => e = .returned (.int .i64 0) ∧ Rd w' base b v bs a why wat ∧ w.grownBy w' (some b) := by
  have h4 := h.c4
  have HH := hid (h.below (below_walk w (.cells #[.int .i64 m] 3)))
  have HW := hid hw
  have hb : (why != 0) = true := by simpa using hw
  clear h hw
  go_enter Tryz.func101, Tryz.ntmps101
  go_wp2_with fail
  refine (own_made _ _ h4).mono ?_
  rintro e w' ⟨rfl, rfl⟩
  go_wp2_with fail
  refine (may_ok _ _ 1 why (fun _ => m) _ (by omega) HH.out.c2 (one_bound _ _) (Or.inl HW.out)).mono ?_
  rintro e w1 ⟨rfl, rfl⟩
  go_wp2
  go_ret
  exact ⟨rfl, HH.out, gb_alloc _ _ _⟩

set_option maxHeartbeats 400000 in
theorem count_arg (m : Int) (h : Rd w base b v bs a 0 wat) (hm : m < 0) :
    Calls Tryz.prog 101 #[.pointer (some ⟨b, 0, none⟩), .int .i64 m] w fun e w' => e = .returned (.int .i64 0) ∧ Rd w' base b v bs a 1 a ∧ w.grownBy w' (some b) := by
  have h4 := h.c4
  have hlt := h.lt
  have H0 := hid h
  have HH := hid (h.below (below_walk w (.cells #[.int .i64 m] 3)))
  have HM := hid hm
  clear h hm
  go_enter Tryz.func101, Tryz.ntmps101
  go_wp2_with fail
  refine (own_made _ _ h4).mono ?_
  rintro e w' ⟨rfl, rfl⟩
  go_wp2_with fail
  refine (may_bad _ _ 1 a (fun _ => m) _ _ (by omega) (by omega) HH.out.c1 HH.out.c2 HH.out.c3 (HH.out.fz _) (HH.out.fz _) (one_bound _ _) ⟨0, by omega, HM.out⟩).mono ?_
  rintro e w1 ⟨rfl, rfl⟩
  go_wp2
  go_ret
  exact ⟨rfl, (H0.out.setFault 1 a).below (below_walk _ _), gb_trans (gb_trans (gb_set _ _ _) (gb_set _ _ _)) (gb_alloc _ _ _)⟩

set_option maxHeartbeats 400000 in
theorem count_go (m : Nat) (hm : m ≤ 9223372036854775807) (h : Rd w base b v bs a 0 wat) (er n k : Nat) (hup : upTo (bs.drop a) m 11 = (er, n, k)) :
    Calls Tryz.prog 101 #[.pointer (some ⟨b, 0, none⟩), .int .i64 m] w fun e w' => e = .returned (.int .i64 n) ∧ Rd w' base b v bs (a + k) er (watOf er a wat) ∧ w.grownBy w' (some b) := by
  have HU := hid hup
  have HK := hid (fun e => ((upTo_le hup).2.2 e).2 : er ≠ 0 → k = 0)
  clear hup
  have h4 := h.c4
  have HH := hid (h.below (below_walk w (.cells #[.int .i64 (m : Int)] 3)))
  clear h
  go_enter Tryz.func101, Tryz.ntmps101
  go_wp2_with fail
  refine (own_made _ _ h4).mono ?_
  rintro e w' ⟨rfl, rfl⟩
  go_wp2_with fail
  refine (may_ok _ _ 1 0 (fun _ => (m : Int)) _ (by omega) HH.out.c2 (one_bound _ _) (Or.inr (fun _ _ => by omega))).mono ?_
  rintro e w1 ⟨rfl, rfl⟩
  go_wp2_with fail
  refine (numberUpTo_any _ _ _ _ _ _ _ _ m 11 HH.out hm (by omega) _ _ _ HU.out).mono ?_
  rintro e w1 ⟨rfl, hR, hg⟩
  have HR := hid hR
  have HG := hid hg
  clear hR hg
  go_wp2_with fail
  refine (wfail_any _ _ _ _ _ _ _ _ _ HR.out).mono ?_
  rintro e w2 ⟨rfl, hR2, hg2⟩
  have HR2 := hid (Rd.after HK.out hR2)
  have HG2 := hid (gb_trans (gb_trans (gb_alloc _ _ _) HG.out) hg2)
  clear hR2 hg2
  go_wp2
  go_ret
  exact ⟨rfl, HR2.out, HG2.out⟩

set_option maxHeartbeats 400000 in
theorem textr_over (m : Int) (h : Rd w base b v bs a why wat) (hw : why ≠ 0) :
    Calls Tryz.prog 150 #[.pointer (some ⟨b, 0, none⟩), .int .i64 m] w fun e w' => e = .returned (.string ⟨#[]⟩) ∧ Rd w' base b v bs a why wat ∧ w.grownBy w' (some b) := by
  have h4 := h.c4
  have HH := hid (h.below (below_walk w (.cells #[.int .i64 m] 3)))
  have HW := hid hw
  have hb : (why != 0) = true := by simpa using hw
  clear h hw
  go_enter Tryz.func150, Tryz.ntmps150
  go_wp2_with fail
  refine (own_made _ _ h4).mono ?_
  rintro e w' ⟨rfl, rfl⟩
  go_wp2_with fail
  refine (may_ok _ _ 1 why (fun _ => m) _ (by omega) HH.out.c2 (one_bound _ _) (Or.inl HW.out)).mono ?_
  rintro e w1 ⟨rfl, rfl⟩
  go_wp2
  go_ret
  exact ⟨rfl, HH.out, gb_alloc _ _ _⟩

set_option maxHeartbeats 400000 in
theorem textr_arg (m : Int) (h : Rd w base b v bs a 0 wat) (hm : m < 0) :
    Calls Tryz.prog 150 #[.pointer (some ⟨b, 0, none⟩), .int .i64 m] w fun e w' => e = .returned (.string ⟨#[]⟩) ∧ Rd w' base b v bs a 1 a ∧ w.grownBy w' (some b) := by
  have h4 := h.c4
  have hlt := h.lt
  have H0 := hid h
  have HH := hid (h.below (below_walk w (.cells #[.int .i64 m] 3)))
  have HM := hid hm
  clear h hm
  go_enter Tryz.func150, Tryz.ntmps150
  go_wp2_with fail
  refine (own_made _ _ h4).mono ?_
  rintro e w' ⟨rfl, rfl⟩
  go_wp2_with fail
  refine (may_bad _ _ 1 a (fun _ => m) _ _ (by omega) (by omega) HH.out.c1 HH.out.c2 HH.out.c3 (HH.out.fz _) (HH.out.fz _) (one_bound _ _) ⟨0, by omega, HM.out⟩).mono ?_
  rintro e w1 ⟨rfl, rfl⟩
  go_wp2
  go_ret
  exact ⟨rfl, (H0.out.setFault 1 a).below (below_walk _ _), gb_trans (gb_trans (gb_set _ _ _) (gb_set _ _ _)) (gb_alloc _ _ _)⟩

set_option maxHeartbeats 400000 in
theorem textr_go (m : Nat) (hm : m ≤ 9223372036854775807) (h : Rd w base b v bs a 0 wat) (hbl : bs.length ≤ 140737488355327) (er k : Nat) (s : List UInt8) (ht : wtxt (bs.drop a) m = (er, s, k)) :
    Calls Tryz.prog 150 #[.pointer (some ⟨b, 0, none⟩), .int .i64 m] w fun e w' => e = .returned (.string ⟨s.toArray⟩) ∧ Rd w' base b v bs (a + k) er (watOf er a wat) ∧ w.grownBy w' (some b) := by
  have HU := hid ht
  have HK := hid (fun e => ((txt_le ht).2.2 e).2 : er ≠ 0 → k = 0)
  clear ht
  have h4 := h.c4
  have HH := hid (h.below (below_walk w (.cells #[.int .i64 (m : Int)] 3)))
  clear h
  go_enter Tryz.func150, Tryz.ntmps150
  go_wp2_with fail
  refine (own_made _ _ h4).mono ?_
  rintro e w' ⟨rfl, rfl⟩
  go_wp2_with fail
  refine (may_ok _ _ 1 0 (fun _ => (m : Int)) _ (by omega) HH.out.c2 (one_bound _ _) (Or.inr (fun _ _ => by omega))).mono ?_
  rintro e w1 ⟨rfl, rfl⟩
  go_wp2_with fail
  refine (text_any _ _ _ _ _ _ _ _ m HH.out hbl hm _ _ _ HU.out).mono ?_
  rintro e w1 ⟨rfl, hR, hg⟩
  have HR := hid hR
  have HG := hid hg
  clear hR hg
  go_wp2_with fail
  refine (wfail_any _ _ _ _ _ _ _ _ _ HR.out).mono ?_
  rintro e w2 ⟨rfl, hR2, hg2⟩
  have HR2 := hid (Rd.after HK.out hR2)
  have HG2 := hid (gb_trans (gb_trans (gb_alloc _ _ _) HG.out) hg2)
  clear hR2 hg2
  go_wp2
  go_ret
  exact ⟨rfl, HR2.out, HG2.out⟩

set_option maxHeartbeats 400000 in
theorem rawr_over (m : Int) (h : Rd w base b v bs a why wat) (hw : why ≠ 0) :
    Calls Tryz.prog 144 #[.pointer (some ⟨b, 0, none⟩), .int .i64 m] w fun e w' => e = .returned (.slice none 0 0) ∧ Rd w' base b v bs a why wat ∧ w.grownBy w' (some b) := by
  have h4 := h.c4
  have HH := hid (h.below (below_walk w (.cells #[.int .i64 m] 3)))
  have HW := hid hw
  have hb : (why != 0) = true := by simpa using hw
  clear h hw
  go_enter Tryz.func144, Tryz.ntmps144
  go_wp2_with fail
  refine (own_made _ _ h4).mono ?_
  rintro e w' ⟨rfl, rfl⟩
  go_wp2_with fail
  refine (may_ok _ _ 1 why (fun _ => m) _ (by omega) HH.out.c2 (one_bound _ _) (Or.inl HW.out)).mono ?_
  rintro e w1 ⟨rfl, rfl⟩
  go_wp2
  go_ret
  exact ⟨rfl, HH.out, gb_alloc _ _ _⟩

set_option maxHeartbeats 400000 in
theorem rawr_arg (m : Int) (h : Rd w base b v bs a 0 wat) (hm : m < 0) :
    Calls Tryz.prog 144 #[.pointer (some ⟨b, 0, none⟩), .int .i64 m] w fun e w' => e = .returned (.slice none 0 0) ∧ Rd w' base b v bs a 1 a ∧ w.grownBy w' (some b) := by
  have h4 := h.c4
  have hlt := h.lt
  have H0 := hid h
  have HH := hid (h.below (below_walk w (.cells #[.int .i64 m] 3)))
  have HM := hid hm
  clear h hm
  go_enter Tryz.func144, Tryz.ntmps144
  go_wp2_with fail
  refine (own_made _ _ h4).mono ?_
  rintro e w' ⟨rfl, rfl⟩
  go_wp2_with fail
  refine (may_bad _ _ 1 a (fun _ => m) _ _ (by omega) (by omega) HH.out.c1 HH.out.c2 HH.out.c3 (HH.out.fz _) (HH.out.fz _) (one_bound _ _) ⟨0, by omega, HM.out⟩).mono ?_
  rintro e w1 ⟨rfl, rfl⟩
  go_wp2
  go_ret
  exact ⟨rfl, (H0.out.setFault 1 a).below (below_walk _ _), gb_trans (gb_trans (gb_set _ _ _) (gb_set _ _ _)) (gb_alloc _ _ _)⟩

set_option maxHeartbeats 400000 in
theorem rawr_short (m : Nat) (h : Rd w base b v bs a 0 wat) (hgt : bs.length - a < m) :
    Calls Tryz.prog 144 #[.pointer (some ⟨b, 0, none⟩), .int .i64 m] w fun e w' => e = .returned (.slice none 0 0) ∧ Rd w' base b v bs a 4 a ∧ w.grownBy w' (some b) := by
  have h4 := h.c4
  have HH := hid (h.below (below_walk w (.cells #[.int .i64 (m : Int)] 3)))
  clear h
  go_enter Tryz.func144, Tryz.ntmps144
  go_wp2_with fail
  refine (own_made _ _ h4).mono ?_
  rintro e w' ⟨rfl, rfl⟩
  go_wp2_with fail
  refine (may_ok _ _ 1 0 (fun _ => (m : Int)) _ (by omega) HH.out.c2 (one_bound _ _) (Or.inr (fun _ _ => by omega))).mono ?_
  rintro e w1 ⟨rfl, rfl⟩
  go_wp2_with fail
  refine (raw_short _ _ _ _ _ _ _ _ m HH.out hgt).mono ?_
  rintro e w1 ⟨rfl, hR, hg⟩
  have HR := hid hR
  have HG := hid hg
  clear hR hg
  go_wp2_with fail
  refine (wfail_any _ _ _ _ _ _ _ _ _ HR.out).mono ?_
  rintro e w2 ⟨rfl, hR2, hg2⟩
  have HR2 := hid hR2
  have HG2 := hid (gb_trans (gb_trans (gb_alloc _ _ _) HG.out) hg2)
  clear hR2 hg2
  go_wp2
  go_ret
  exact ⟨rfl, by simpa using HR2.out, HG2.out⟩

set_option maxHeartbeats 400000 in
theorem rawr_ok (m : Nat) (h : Rd w base b v bs a 0 wat) (hbl : bs.length ≤ 140737488355327) (hgt : a + m ≤ bs.length) :
    Calls Tryz.prog 144 #[.pointer (some ⟨b, 0, none⟩), .int .i64 m] w fun e w' => ∃ v', e = .returned v' ∧ OwnB w' w.heap.size v' ((bs.drop a).take m) ∧ Rd w' base b v bs (a + m) 0 wat ∧ w.grownBy w' (some b) := by
  have hlt := h.lt
  have h4 := h.c4
  have HH := hid (h.below (below_walk w (.cells #[.int .i64 (m : Int)] 3)))
  clear h
  go_enter Tryz.func144, Tryz.ntmps144
  go_wp2_with fail
  refine (own_made _ _ h4).mono ?_
  rintro e w' ⟨rfl, rfl⟩
  go_wp2_with fail
  refine (may_ok _ _ 1 0 (fun _ => (m : Int)) _ (by omega) HH.out.c2 (one_bound _ _) (Or.inr (fun _ _ => by omega))).mono ?_
  rintro e w1 ⟨rfl, rfl⟩
  go_wp2_with fail
  refine (raw_ok _ _ _ _ _ _ _ _ m HH.out hbl hgt).mono ?_
  rintro e w1 ⟨v1, rfl, hO, hR, hg⟩
  have HR := hid hR
  have HG := hid hg
  have HO := hid hO
  clear hR hg hO
  go_wp2_with fail
  refine (wfail_any _ _ _ _ _ _ _ _ _ HR.out).mono ?_
  rintro e w2 ⟨rfl, hR2, hg2⟩
  have HR2 := hid hR2
  have HG2 := hid (gb_trans (gb_trans (gb_alloc _ _ _) HG.out) hg2)
  have HO2 := hid (HO.out.far hg2 (fun j e => by cases e; simp; omega))
  clear hR2 hg2
  go_wp2
  go_ret
  exact ⟨_, rfl, HO2.out.le (by simp), by simpa using HR2.out, HG2.out⟩

end

end Go.Proofs.YtiibhccbbpgehaaGreat

/- list over a reader that NewReader gave, and the call List. -/
namespace Go.Proofs.YtiibhccbbpgehaaGreat
open Go.RowKit

/-- so many texts, each of at most so many bytes: the error, the texts, how many bytes were passed -/
def lstR : Nat → List UInt8 → Nat → Nat × List (List UInt8) × Nat
  | 0, _, _ => (0, [], 0)
  | n + 1, l, each => if (wtxt l each).1 ≠ 0 then ((wtxt l each).1, [], 0) else if (lstR n (l.drop (wtxt l each).2.2) each).1 ≠ 0 then ((lstR n (l.drop (wtxt l each).2.2) each).1, [], (wtxt l each).2.2 + (lstR n (l.drop (wtxt l each).2.2) each).2.2) else (0, (wtxt l each).2.1 :: (lstR n (l.drop (wtxt l each).2.2) each).2.1, (wtxt l each).2.2 + (lstR n (l.drop (wtxt l each).2.2) each).2.2)
theorem lstR_succ (n : Nat) (l : List UInt8) (each : Nat) : lstR (n + 1) l each = if (wtxt l each).1 ≠ 0 then ((wtxt l each).1, [], 0) else if (lstR n (l.drop (wtxt l each).2.2) each).1 ≠ 0 then ((lstR n (l.drop (wtxt l each).2.2) each).1, [], (wtxt l each).2.2 + (lstR n (l.drop (wtxt l each).2.2) each).2.2) else (0, (wtxt l each).2.1 :: (lstR n (l.drop (wtxt l each).2.2) each).2.1, (wtxt l each).2.2 + (lstR n (l.drop (wtxt l each).2.2) each).2.2) := rfl

theorem lstR_err : ∀ (n : Nat) (l : List UInt8) (each : Nat), (lstR n l each).1 ≠ 0 → (lstR n l each).2.1 = []
  | 0, _, _, h => absurd rfl h
  | n + 1, l, each, h => by
    rw [lstR_succ] at h ⊢
    split
    · rfl
    · split
      · rfl
      · rename_i h1 h2
        rw [if_neg h1, if_neg h2] at h
        exact absurd rfl h

/-- what is left to be read of a list: the state of the loop -/
structure Going (R : Nat × List (List UInt8) × Nat) (bs : List UInt8) (each s a i m : Nat) (ts : List (List UInt8)) : Prop where
  er : R.1 = (lstR m (bs.drop a) each).1
  txs : (lstR m (bs.drop a) each).1 = 0 → R.2.1 = ts ++ (lstR m (bs.drop a) each).2.1
  non : (lstR m (bs.drop a) each).1 ≠ 0 → R.2.1 = []
  len : R.2.2 = (a - s) + (lstR m (bs.drop a) each).2.2
  le : s ≤ a ∧ a ≤ bs.length
  cnt : ts.length = i ∧ i ≤ a - s

theorem txt_pos {l : List UInt8} {most k : Nat} {s : List UInt8} (h : wtxt l most = (0, s, k)) : 0 < k := by
  unfold wtxt at h
  split at h
  · rename_i h1
    simp only [Prod.mk.injEq] at h
    exact absurd h.1 h1
  · rename_i h1
    split at h
    · simp at h
    · simp only [Prod.mk.injEq, true_and] at h
      have h2 : upTo l most 3 = (0, (upTo l most 3).2.1, (upTo l most 3).2.2) := by
        have : (upTo l most 3).1 = 0 := Classical.byContradiction fun e => h1 e
        rw [← this]
      have := upTo_pos (by omega) h2
      omega

theorem Going.stop {R : Nat × List (List UInt8) × Nat} {bs : List UInt8} {each s a i m er k : Nat} {ts : List (List UInt8)} {x : List UInt8} (h : Going R bs each s a i (m + 1) ts) (ht : wtxt (bs.drop a) each = (er, x, k)) (he : er ≠ 0) :
    R.1 = er ∧ R.2.1 = [] ∧ R.2.2 = a - s := by
  have e := lstR_succ m (bs.drop a) each
  rw [ht] at e
  simp only at e
  rw [if_pos he] at e
  have h1 := h.er
  have h2 := h.non
  have h3 := h.len
  rw [e] at h1 h2 h3
  exact ⟨h1, h2 he, by simpa using h3⟩

theorem Going.step {R : Nat × List (List UInt8) × Nat} {bs : List UInt8} {each s a i m k : Nat} {ts : List (List UInt8)} {x : List UInt8} (h : Going R bs each s a i (m + 1) ts) (ht : wtxt (bs.drop a) each = (0, x, k)) :
    Going R bs each s (a + k) (i + 1) m (ts ++ [x]) := by
  have e := lstR_succ m (bs.drop a) each
  rw [ht] at e
  simp only at e
  rw [if_neg (by simp)] at e
  have hd : (bs.drop a).drop k = bs.drop (a + k) := by simp
  rw [hd] at e
  have h1 := h.er
  have h2 := h.txs
  have h3 := h.non
  have h4 := h.len
  have hle := h.le
  have hc := h.cnt
  have hk := (txt_le ht).1
  have hkp := txt_pos ht
  have hlen : (bs.drop a).length = bs.length - a := by simp
  rw [hlen] at hk
  by_cases he : (lstR m (bs.drop (a + k)) each).1 = 0
  · rw [if_neg (by simpa using he)] at e
    rw [e] at h1 h2 h3 h4
    simp only at h1 h2 h3 h4
    exact ⟨by rw [h1, he], fun _ => by rw [h2 trivial]; simp, fun h' => absurd he h', by rw [h4]; omega, by omega, by simp; omega⟩
  · rw [if_pos he] at e
    rw [e] at h1 h2 h3 h4
    simp only at h1 h2 h3 h4
    exact ⟨h1, fun h' => absurd h' he, fun _ => h3 he, by rw [h4]; omega, by omega, by simp; omega⟩

theorem Going.done {R : Nat × List (List UInt8) × Nat} {bs : List UInt8} {each s a i : Nat} {ts : List (List UInt8)} (h : Going R bs each s a i 0 ts) : R.1 = 0 ∧ R.2.1 = ts ∧ R.2.2 = a - s := by
  have h1 := h.er
  have h2 := h.txs
  have h4 := h.len
  simp only [lstR] at h1 h2 h4
  exact ⟨h1, by simpa using h2 trivial, by simpa using h4⟩

/-- v owns the texts ts, in memory from block 'base' on -/
def WOwnS (w : World) (base : Nat) (v : Value) (ts : List (List UInt8)) : Prop := w.ownsRow base 9 1 v ts.length (ts.map fun t => Value.string ⟨t.toArray⟩)
theorem WOwnS.far {w w' : World} {base : Nat} {v : Value} {ts : List (List UInt8)} {row : Option Nat} (h : WOwnS w base v ts) (hg : w.grownBy w' row) (hr : ∀ j, row = some j → j < base) : WOwnS w' base v ts := by
  refine World.ownsRow.kept h hg ?_
  cases e : v.ownBlock with
  | none => exact Or.inl rfl
  | some j =>
    refine Or.inr (fun e2 => ?_)
    have h1 := (World.ownsRow.lt h j e).1
    have h2 := hr j e2.symm
    omega
theorem WOwnS.nil (w : World) (base : Nat) : WOwnS w base (.slice none 0 0) [] := World.ownsRow_nil _ _ _ _
theorem WOwnS.none {w : World} {base : Nat} {ts : List (List UInt8)} (h : WOwnS w base (.slice none 0 0) ts) : ts = [] := by
  rcases h.2 with ⟨_, h0⟩ | ⟨g, cap, _, hv, _⟩
  · exact List.length_eq_zero_iff.1 h0
  · simp at hv
theorem WOwnS.alloc {w : World} {base : Nat} {v : Value} {ts : List (List UInt8)} (h : WOwnS w base v ts) (o : Obj) : WOwnS (w.alloc o) base v ts := World.ownsRow.alloc h o
theorem WOwnS.lt {w : World} {base : Nat} {v : Value} {ts : List (List UInt8)} (h : WOwnS w base v ts) : ∀ k, v.ownBlock = some k → base ≤ k ∧ k < w.heap.size := World.ownsRow.lt h

theorem Rd.far {w w' : World} {base b : Nat} {v : Value} {bs : List UInt8} {a : Nat} {why wat : Int} {row : Option Nat} {B : Nat} (h : Rd w base b v bs a why wat) (hg : w.grownBy w' row) (hb : b < B) (hv : ∀ j, v.ownBlock = some j → j < B) (hr : ∀ j, row = some j → B ≤ j) : Rd w' base b v bs a why wat := by
  refine h.grown hg (fun e => by have := hr _ e; omega) ?_
  cases e : v.ownBlock with
  | none => exact Or.inl rfl
  | some j =>
    refine Or.inr (fun e2 => ?_)
    have h1 := hv j e
    have h2 := hr j e2.symm
    omega

/-- append(own, text) -/
theorem wapp_text {w : World} {ops : Array Oper} {rest : List Oper} {o : Oper} {a : Act} {Q : Exit → Act → World → Prop} (hgd : o.guard = none) (s x : Operand)
    (ho : o.op = .call { callee := .builtin .append, args := #[s, x], argTypes := #[28, 28] })
    (base : Nat) (v : Value) (ts : List (List UInt8)) (hs : a.eval s = v) (hown : WOwnS w base v ts) (t : List UInt8) (g : Nat) (hx : a.eval x = .slice (some ⟨g, 0, none⟩) 1 1) (hc : w.cell? ⟨g, 0, none⟩ = some (.string ⟨t.toArray⟩))
    (hlen : ts.length ≤ 1099511627776) (hbase : base ≤ w.heap.size)
    (h : ∀ v' w', WOwnS w' base v' (ts ++ [t]) → w.grownBy w' v.ownBlock → wpList Tryz.prog ops Q rest (a.put o.dst v') w') : wpList Tryz.prog ops Q (o :: rest) a w := by
  obtain ⟨i0, hi, hz0, hz1, hz2⟩ := info_parts Tryz.infoStr
  refine wpList_append_own w hgd s x 28 ho base 9 i0 (.string ⟨#[]⟩) 1 16 Tryz.underlying28 hi hz0 hz1 hz2 rfl (by decide) v ts.length _ hs hown ⟨g, 0, none⟩ 1 1 [.string ⟨t.toArray⟩] hx rfl ?_ ?_ (by unfold maxLen; omega) (by omega) hbase ?_
  · intro j u hj
    match j, hj with
    | 0, hj => simp at hj; subst hj; simpa [Addr.add] using hc
  · intro u hu
    simp at hu
    subst hu
    rfl
  · intro v' w' h1 h2 _
    refine h v' w' ?_ h2
    unfold WOwnS
    rw [List.map_append, List.length_append]
    exact h1

theorem ret_ve {x : Value} {e f : Int} (h2 : e = f) : Ending.returned (.tuple #[x, .int .i64 e]) = .returned (.tuple #[x, .int .i64 f]) := by rw [h2]

/-- a list: the error, the texts, how many bytes were passed -/
def lst (l : List UInt8) (most each : Nat) : Nat × List (List UInt8) × Nat :=
  if (upTo l most 11).1 ≠ 0 then ((upTo l most 11).1, [], 0) else ((lstR (upTo l most 11).2.1 (l.drop (upTo l most 11).2.2) each).1, (lstR (upTo l most 11).2.1 (l.drop (upTo l most 11).2.2) each).2.1, (upTo l most 11).2.2 + (lstR (upTo l most 11).2.1 (l.drop (upTo l most 11).2.2) each).2.2)

section
variable (base b : Nat) (v : Value) (bs : List UInt8) (a : Nat) (why wat : Int) (w : World)

set_option maxRecDepth 100000 in
set_option maxHeartbeats 1000000 in
theorem list_any (most each : Nat) (h : Rd w base b v bs a why wat) (hbl : bs.length ≤ 1099511627776) (hm : most ≤ 9223372036854775807) (hea : each ≤ 9223372036854775807) (er k : Nat) (ts : List (List UInt8)) (hl : lst (bs.drop a) most each = (er, ts, k)) :
    Calls Tryz.prog 155 #[.pointer (some ⟨b, 0, none⟩), .int .i64 most, .int .i64 each] w fun e w' => ∃ v', e = .returned (.tuple #[v', .int .i64 er]) ∧ WOwnS w' w.heap.size v' ts ∧ (er ≠ 0 → v' = .slice none 0 0) ∧ Rd w' base b v bs (a + k) why wat ∧ w.grownBy w' (some b) := by
  obtain ⟨er0, n0, k0, hd⟩ : ∃ er0 n0 k0, upTo (bs.drop a) most 11 = (er0, n0, k0) := ⟨_, _, _, rfl⟩
  have HC := hid (numberUpTo_any base b v bs a why wat w most 11 h hm (by omega) er0 n0 k0 hd)
  have HR := hid h
  have hle := h.le
  have hblt := h.lt
  have HVB := hid (fun j e => (h.own.lt j e).2 : ∀ j, v.ownBlock = some j → j < w.heap.size)
  obtain ⟨d1, d2, d4⟩ := upTo_le hd
  have hdl : (bs.drop a).length = bs.length - a := by simp
  rw [hdl] at d1
  unfold lst at hl
  rw [hd] at hl
  simp only [List.drop_drop] at hl
  have HL := hid hl
  have HDL := hid d4
  clear hl d4 hd h hdl
  by_cases he : er0 = 0
  · subst he
    have hsimp := HL.out
    rw [if_neg (by simp)] at hsimp
    have HG0 := hid (⟨rfl, fun _ => by simp, fun h' => lstR_err _ _ _ h', by simp, by omega, by simp⟩ : Going (lstR n0 (bs.drop (a + k0)) each) bs each (a + k0) (a + k0) 0 n0 [])
    simp only [Prod.mk.injEq] at hsimp
    generalize lstR n0 (bs.drop (a + k0)) each = R at *
    have HE := hid hsimp
    clear hsimp HL
    have hn63 : n0 ≤ 9223372036854775807 := by omega
    go_enter Tryz.func155, Tryz.ntmps155
    go_wp2_with fail
    refine Calls.mono HC.out ?_
    rintro e w1 ⟨rfl, hR1, hg1⟩
    have HR1 := hid hR1
    have HG1 := hid hg1
    have hs1 := hg1.size
    clear hR1 hg1 HC
    go_wp2_with fail
    go_loopw [10, 23] (fun x i wr => ∃ (c a' : Nat) (us : List (List UInt8)), c ≤ n0 ∧ i = .int .i64 c ∧ Going R bs each (a + k0) a' c (n0 - c) us ∧ WOwnS wr w.heap.size x us ∧ Rd wr base b v bs a' why wat ∧ w.grownBy wr (some b)) (fun _ i _ => n0 - (intOf i).toNat)
    case atStart => exact ⟨0, a + k0, [], by omega, rfl, by simpa using HG0.out, WOwnS.nil _ _, HR1.out, HG1.out⟩
    case round =>
      obtain ⟨c, a', us, hc, rfl, hgo, hos, hRr, hgr⟩ := hrel
      have HGO := hid hgo
      have HOS := hid hos
      have HRR := hid hRr
      have HGR := hid hgr
      have hsr := hgr.size
      clear hgo hos hRr hgr HG0 HR1 HG1
      by_cases hcn : c < n0
      · obtain ⟨m, hm1⟩ : ∃ m, n0 - c = m + 1 := ⟨n0 - c - 1, by omega⟩
        rw [hm1] at HGO
        obtain ⟨er1, x1, k1, ht⟩ : ∃ er1 x1 k1, wtxt (bs.drop a') each = (er1, x1, k1) := ⟨_, _, _, rfl⟩
        have HT := hid ht
        have HK1 := hid ((txt_le ht).2.2)
        have HM := hid hm1
        clear ht hm1
        by_cases her : er1 = 0
        · subst her
          have HST := hid (HGO.out.step HT.out)
          have hcnt := HGO.out.cnt
          have hle2 := HGO.out.le
          go_wp2_with fail
          refine (text_any _ _ _ _ _ _ _ _ each HRR.out (by omega) hea _ _ _ HT.out).mono ?_
          rintro e w2 ⟨rfl, hR2, hg2⟩
          have HR2 := hid hR2
          have HG2 := hid hg2
          have hs2 := hg2.size
          have HOS2 := hid (HOS.out.far hg2 (fun j e => by cases e; omega))
          clear hR2 hg2
          go_wp2_with (at_builtin; refine wapp_text rfl _ _ rfl w.heap.size _ _ rfl (HOS2.out.alloc _) x1 w2.heap.size rfl ?c0 ?c1 ?c2 ?_)
          case c0 => simp
          case c1 => omega
          case c2 => simp; omega
          intro v3 w3 ho3 hg3
          have HO3 := hid ho3
          have hvlt : ∀ j, u10.ownBlock = some j → w.heap.size ≤ j := fun j e => (HOS.out.lt j e).1
          have HR3 := hid ((HR2.out.below (below_walk _ _)).far hg3 hblt HVB.out hvlt : Rd w3 base b v bs (a' + k1) why wat)
          have HG3 := hid (gb_then (gb_trans (gb_trans HGR.out HG2.out) (gb_alloc _ _ _)) hg3 (fun j e => Or.inl (hvlt j e)) : w.grownBy w3 (some b))
          clear ho3 hg3 hvlt
          go_wp2
          go_roundw
          case rel => exact ⟨c + 1, a' + k1, us ++ [x1], by omega, by go_num, by have := HM.out; rw [show n0 - (c + 1) = m by omega]; exact HST.out, HO3.out, HR3.out, HG3.out⟩
          case measure => simp [intOf]; omega
        · have HSP := hid (HGO.out.stop HT.out her)
          have heb : ((er1 : Int) != 0) = true := by simp; omega
          have HK0 := hid (HK1.out her)
          have hle2 := HGO.out.le
          go_wp2_with fail
          refine (text_any _ _ _ _ _ _ _ _ each HRR.out (by omega) hea _ _ _ HT.out).mono ?_
          rintro e w2 ⟨rfl, hR2, hg2⟩
          have HR2 := hid hR2
          have HG2 := hid hg2
          clear hR2 hg2
          go_wp2
          go_ret2
          obtain ⟨rfl, rfl, rfl⟩ := HE.out
          obtain ⟨e1, e2, e3⟩ := HSP.out
          have e4 := HK0.out.2
          subst e4
          refine ⟨_, ret_ve (by rw [e1]), by rw [e2]; exact WOwnS.nil _ _, fun _ => rfl, ?_, gb_trans HGR.out HG2.out⟩
          rw [e3, show a + (k0 + (a' - (a + k0))) = a' + 0 by omega]
          exact HR2.out
      · have hc0 : n0 - c = 0 := by omega
        rw [hc0] at HGO
        have HDN := hid HGO.out.done
        have hle2 := HGO.out.le
        go_wp2_with fail
        go_ret2
        obtain ⟨rfl, rfl, rfl⟩ := HE.out
        obtain ⟨e1, e2, e3⟩ := HDN.out
        refine ⟨_, ret_ve (by rw [e1]; rfl), by rw [e2]; exact HOS.out, fun h' => absurd e1 h', ?_, HGR.out⟩
        rw [e3, show a + (k0 + (a' - (a + k0))) = a' by omega]
        exact HRR.out
  · have hsimp := HL.out
    rw [if_pos (by simpa using he)] at hsimp
    simp only [Prod.mk.injEq] at hsimp
    have HE := hid hsimp
    have HZ := hid (HDL.out he)
    clear hsimp
    have heb : ((er0 : Int) != 0) = true := by simp; omega
    go_enter Tryz.func155, Tryz.ntmps155
    go_wp2_with fail
    refine Calls.mono HC.out ?_
    rintro e w1 ⟨rfl, hR1, hg1⟩
    have HR1 := hid hR1
    have HG1 := hid hg1
    clear hR1 hg1 HC
    go_wp2
    go_ret2
    obtain ⟨rfl, rfl, rfl⟩ := HE.out
    obtain ⟨rfl, rfl⟩ := HZ.out
    exact ⟨_, rfl, WOwnS.nil _ _, fun _ => rfl, HR1.out, HG1.out⟩

theorem two_bounds (w : World) (m n : Int) : ∀ i : Nat, i < 2 → (w.alloc (.cells #[.int .i64 m, .int .i64 n] 3)).cell? ⟨w.heap.size, i, none⟩ = some (.int .i64 ((fun i => if i = 0 then m else n) i)) := by
  intro i hi
  rcases (show i = 0 ∨ i = 1 by omega) with rfl | rfl <;> simp

set_option maxHeartbeats 400000 in
theorem listr_over (m n : Int) (h : Rd w base b v bs a why wat) (hw : why ≠ 0) :
    Calls Tryz.prog 149 #[.pointer (some ⟨b, 0, none⟩), .int .i64 m, .int .i64 n] w fun e w' => e = .returned (.slice none 0 0) ∧ Rd w' base b v bs a why wat ∧ w.grownBy w' (some b) := by
  have h4 := h.c4
  have HH := hid (h.below (below_walk w (.cells #[.int .i64 m, .int .i64 n] 3)))
  have HW := hid hw
  have hb : (why != 0) = true := by simpa using hw
  clear h hw
  go_enter Tryz.func149, Tryz.ntmps149
  go_wp2_with fail
  refine (own_made _ _ h4).mono ?_
  rintro e w' ⟨rfl, rfl⟩
  go_wp2_with fail
  refine (may_ok _ _ 2 why (fun i => if i = 0 then m else n) _ (by omega) HH.out.c2 (two_bounds _ _ _) (Or.inl HW.out)).mono ?_
  rintro e w1 ⟨rfl, rfl⟩
  go_wp2
  go_ret
  exact ⟨rfl, HH.out, gb_alloc _ _ _⟩

set_option maxHeartbeats 400000 in
theorem listr_arg (m n : Int) (h : Rd w base b v bs a 0 wat) (hm : m < 0 ∨ n < 0) :
    Calls Tryz.prog 149 #[.pointer (some ⟨b, 0, none⟩), .int .i64 m, .int .i64 n] w fun e w' => e = .returned (.slice none 0 0) ∧ Rd w' base b v bs a 1 a ∧ w.grownBy w' (some b) := by
  have h4 := h.c4
  have hlt := h.lt
  have H0 := hid h
  have HH := hid (h.below (below_walk w (.cells #[.int .i64 m, .int .i64 n] 3)))
  have HM := hid (hm.elim (fun h1 => ⟨0, by omega, by simpa using h1⟩) (fun h1 => ⟨1, by omega, by simpa using h1⟩) : ∃ i : Nat, i < 2 ∧ (fun i => if i = 0 then m else n) i < 0)
  clear h hm
  go_enter Tryz.func149, Tryz.ntmps149
  go_wp2_with fail
  refine (own_made _ _ h4).mono ?_
  rintro e w' ⟨rfl, rfl⟩
  go_wp2_with fail
  refine (may_bad _ _ 2 a (fun i => if i = 0 then m else n) _ _ (by omega) (by omega) HH.out.c1 HH.out.c2 HH.out.c3 (HH.out.fz _) (HH.out.fz _) (two_bounds _ _ _) HM.out).mono ?_
  rintro e w1 ⟨rfl, rfl⟩
  go_wp2
  go_ret
  exact ⟨rfl, (H0.out.setFault 1 a).below (below_walk _ _), gb_trans (gb_trans (gb_set _ _ _) (gb_set _ _ _)) (gb_alloc _ _ _)⟩

set_option maxHeartbeats 1000000 in
theorem listr_go (m n : Nat) (hm : m ≤ 9223372036854775807) (hn : n ≤ 9223372036854775807) (h : Rd w base b v bs a 0 wat) (hbl : bs.length ≤ 1099511627776) (er k : Nat) (ts : List (List UInt8)) (hl : lst (bs.drop a) m n = (er, ts, k)) :
    Calls Tryz.prog 149 #[.pointer (some ⟨b, 0, none⟩), .int .i64 m, .int .i64 n] w fun e w' => ∃ v', e = .returned v' ∧ WOwnS w' w.heap.size v' ts ∧ (er ≠ 0 → v' = .slice none 0 0) ∧ (er = 0 → Rd w' base b v bs (a + k) 0 wat) ∧ (er ≠ 0 → Rd w' base b v bs a er ((a + k : Nat) : Int)) ∧ w.grownBy w' (some b) := by
  have h4 := h.c4
  have hlt := h.lt
  have hle := h.le
  have HL := hid hl
  have HH := hid (h.below (below_walk w (.cells #[.int .i64 (m : Int), .int .i64 (n : Int)] 3)))
  have g1 := HH.out.c1
  clear h hl
  by_cases he : er = 0
  · subst he
    go_enter Tryz.func149, Tryz.ntmps149
    go_wp2_with fail
    refine (own_made _ _ h4).mono ?_
    rintro e w' ⟨rfl, rfl⟩
    go_wp2_with fail
    refine (may_ok _ _ 2 0 (fun i => if i = 0 then (m : Int) else (n : Int)) _ (by omega) HH.out.c2 (two_bounds _ _ _) (Or.inr (fun i hi => by rcases (show i = 0 ∨ i = 1 by omega) with rfl | rfl <;> simp))).mono ?_
    rintro e w1 ⟨rfl, rfl⟩
    go_wp2_with fail
    refine (list_any _ _ _ _ _ _ _ _ m n HH.out hbl hm hn _ _ _ HL.out).mono ?_
    rintro e w2 ⟨v2, rfl, ho2, _, hR2, hg2⟩
    have HO2 := hid ho2
    have HR2 := hid hR2
    have HG2 := hid hg2
    clear ho2 hR2 hg2
    go_wp2_with fail
    refine (wfail_any _ _ _ _ _ _ _ _ _ HR2.out).mono ?_
    rintro e w3 ⟨rfl, hR3, hg3⟩
    have HR3 := hid (by simpa using hR3 : Rd w3 base b v bs (a + k) 0 wat)
    have HO3 := hid (HO2.out.far hg3 (fun j e => by cases e; simp; omega))
    have HG3 := hid (gb_trans (gb_trans (gb_alloc _ _ _) HG2.out) hg3)
    clear hR3 hg3
    go_wp2_with fail
    refine (over_any _ _ _ HR3.out.c2).mono ?_
    rintro e w4 ⟨rfl, rfl⟩
    go_wp2
    go_ret
    exact ⟨_, rfl, World.ownsRow.kept HO3.out (gb_refl _ none) (by cases h : v2.ownBlock <;> simp) |> fun (h : WOwnS w4 _ v2 ts) => (⟨h.1, h.2.elim Or.inl (fun ⟨g, cap, cur, hv, hg, r⟩ => Or.inr ⟨g, cap, cur, hv, Nat.le_trans (by simp) hg, r⟩)⟩ : WOwnS w4 _ v2 ts), fun h' => absurd rfl h', fun _ => HR3.out, fun h' => absurd rfl h', HG3.out⟩
  · have heb : ((er : Int) != 0) = true := by simp; omega
    go_enter Tryz.func149, Tryz.ntmps149
    go_wp2_with fail
    refine (own_made _ _ h4).mono ?_
    rintro e w' ⟨rfl, rfl⟩
    go_wp2_with fail
    refine (may_ok _ _ 2 0 (fun i => if i = 0 then (m : Int) else (n : Int)) _ (by omega) HH.out.c2 (two_bounds _ _ _) (Or.inr (fun i hi => by rcases (show i = 0 ∨ i = 1 by omega) with rfl | rfl <;> simp))).mono ?_
    rintro e w1 ⟨rfl, rfl⟩
    go_wp2_with fail
    refine (list_any _ _ _ _ _ _ _ _ m n HH.out hbl hm hn _ _ _ HL.out).mono ?_
    rintro e w2 ⟨v2, rfl, ho2, hnil, hR2, hg2⟩
    obtain rfl := hnil he
    have HO2 := hid ho2
    have HR2 := hid hR2
    have HG2 := hid hg2
    clear ho2 hR2 hg2 hnil
    go_wp2_with fail
    refine (wfail_any _ _ _ _ _ _ _ _ _ HR2.out).mono ?_
    rintro e w3 ⟨rfl, hR3, hg3⟩
    have HR3 := hid (by simpa [he] using hR3 : Rd w3 base b v bs (a + k) er ((a + k : Nat) : Int))
    have HG3 := hid (gb_trans (gb_trans (gb_alloc _ _ _) HG2.out) hg3)
    have HO3 := hid (HO2.out.far hg3 (fun j e => by cases e; simp; omega))
    clear hR3 hg3
    have q1 := HR3.out.c1
    have f1 := HR3.out.fz 1
    go_wp2_with fail
    refine (over_any _ _ _ HR3.out.c2).mono ?_
    rintro e w4 ⟨rfl, rfl⟩
    go_wp2
    go_ret
    refine ⟨_, rfl, ?_, fun _ => rfl, fun h' => absurd h' he, fun _ => HR3.out.setAt a hle, gb_trans HG3.out (gb_set _ _ _)⟩
    have e0 := HO3.out.none
    subst e0
    exact WOwnS.nil _ _
end

end Go.Proofs.YtiibhccbbpgehaaGreat

/- What is read without an error has no other form: the plain mathematics. -/
namespace Go.Proofs.YtiibhccbbpgehaaGreat

theorem tx_mk (t : List UInt8) : tx (mk t) = sn t.length ++ t := by unfold tx; rw [mk_size]; simp [mk]

theorem upTo_ok {l : List UInt8} {most t n k : Nat} (ht : t ≠ 0) (h : upTo l most t = (0, n, k)) : dec l 0 0 = (0, n, k) ∧ n ≤ most := by
  unfold upTo at h
  split at h
  · rename_i h1
    rw [h] at h1
    exact absurd rfl h1
  · split at h
    · simp at h; exact absurd h.1 ht
    · rename_i h1 h2
      rw [h] at h2
      exact ⟨h, by simpa using h2⟩
theorem upTo_of {l : List UInt8} {most t n k : Nat} (h : dec l 0 0 = (0, n, k)) (hn : n ≤ most) : upTo l most t = (0, n, k) := by
  unfold upTo
  rw [h, if_neg (by simp), if_neg (by show ¬ most < n; omega)]

theorem txt_ok {l : List UInt8} {most k : Nat} {s : List UInt8} (h : wtxt l most = (0, s, k)) : l.take k = sn s.length ++ s ∧ k = (sn s.length).length + s.length ∧ s.length ≤ most ∧ k ≤ l.length := by
  obtain ⟨er0, n0, k0, hd⟩ : ∃ er0 n0 k0, upTo l most 3 = (er0, n0, k0) := ⟨_, _, _, rfl⟩
  unfold wtxt at h
  rw [hd] at h
  simp only at h
  by_cases he : er0 = 0
  · subst he
    rw [if_neg (by simp)] at h
    by_cases hgt : l.length < k0 + n0
    · rw [if_pos hgt] at h; simp at h
    · rw [if_neg hgt] at h
      simp only [Prod.mk.injEq, true_and] at h
      obtain ⟨rfl, rfl⟩ := h
      obtain ⟨hdec, hm⟩ := upTo_ok (by omega) hd
      obtain ⟨h1, h2, h3, h4⟩ := dec_ok hdec
      have hk := dec_ok_len hdec
      have hlen : ((l.drop k0).take n0).length = n0 := by simp; omega
      refine ⟨?_, by rw [hlen, ← hk], by rw [hlen]; exact hm, by omega⟩
      rw [hlen, ← h4, ← List.take_add]
  · rw [if_pos he] at h
    simp only [Prod.mk.injEq] at h
    exact absurd h.1 he

theorem lstR_ok : ∀ (n : Nat) (l : List UInt8) (each k : Nat) (ts : List (List UInt8)), lstR n l each = (0, ts, k) → ts.length = n ∧ k ≤ l.length ∧ l.take k = txs (ts.map mk)
  | 0, l, each, k, ts, h => by
    simp only [lstR, Prod.mk.injEq, true_and] at h
    obtain ⟨rfl, rfl⟩ := h
    exact ⟨rfl, by omega, by simp [txs]⟩
  | n + 1, l, each, k, ts, h => by
    obtain ⟨er0, s0, k0, hd⟩ : ∃ er0 s0 k0, wtxt l each = (er0, s0, k0) := ⟨_, _, _, rfl⟩
    rw [lstR_succ, hd] at h
    simp only at h
    by_cases he : er0 = 0
    · subst he
      rw [if_neg (by simp)] at h
      obtain ⟨er1, ts1, k1, hr⟩ : ∃ er1 ts1 k1, lstR n (l.drop k0) each = (er1, ts1, k1) := ⟨_, _, _, rfl⟩
      rw [hr] at h
      simp only at h
      by_cases he1 : er1 = 0
      · subst he1
        rw [if_neg (by simp)] at h
        simp only [Prod.mk.injEq, true_and] at h
        obtain ⟨rfl, rfl⟩ := h
        obtain ⟨a1, a2, a3⟩ := lstR_ok n _ _ _ _ hr
        obtain ⟨b1, b2, b3, b4⟩ := txt_ok hd
        simp at a2
        refine ⟨by simp [a1], by omega, ?_⟩
        rw [List.take_add, b1, a3, ← tx_mk]
        simp [txs]
      · rw [if_pos he1] at h
        simp only [Prod.mk.injEq] at h
        exact absurd h.1 he1
    · rw [if_pos he] at h
      simp only [Prod.mk.injEq] at h
      exact absurd h.1 he

theorem lst_ok {l : List UInt8} {most each k : Nat} {ts : List (List UInt8)} (h : lst l most each = (0, ts, k)) : l.take k = ls (ts.map mk) ∧ k ≤ l.length := by
  obtain ⟨er0, n0, k0, hd⟩ : ∃ er0 n0 k0, upTo l most 11 = (er0, n0, k0) := ⟨_, _, _, rfl⟩
  unfold lst at h
  rw [hd] at h
  simp only at h
  by_cases he : er0 = 0
  · subst he
    rw [if_neg (by simp)] at h
    obtain ⟨er1, ts1, k1, hr⟩ : ∃ er1 ts1 k1, lstR n0 (l.drop k0) each = (er1, ts1, k1) := ⟨_, _, _, rfl⟩
    rw [hr] at h
    simp only [Prod.mk.injEq] at h
    obtain ⟨rfl, rfl, rfl⟩ := h
    obtain ⟨a1, a2, a3⟩ := lstR_ok _ _ _ _ _ hr
    obtain ⟨hdec, hm⟩ := upTo_ok (by omega) hd
    obtain ⟨h1, h2, h3, h4⟩ := dec_ok hdec
    simp at a2
    refine ⟨?_, by omega⟩
    rw [List.take_add, h4, a3]
    unfold ls
    simp [a1]
  · rw [if_pos he] at h
    simp only [Prod.mk.injEq] at h
    exact absurd h.1 he

end Go.Proofs.YtiibhccbbpgehaaGreat

/- What was laid down is read back: the plain mathematics; and what longest and Same answer. -/
namespace Go.Proofs.YtiibhccbbpgehaaGreat
open Go.RowKit

theorem txt_back (s r : List UInt8) (most : Nat) (hs : s.length < 18446744073709551616) (hm : s.length ≤ most) : wtxt (sn s.length ++ (s ++ r)) most = (0, s, (sn s.length).length + s.length) := by
  have hu := upTo_of (t := 3) (dec_sn s.length (s ++ r) hs) hm
  unfold wtxt
  rw [hu]
  simp only
  rw [if_neg (by simp), if_neg (by simp)]
  simp

theorem lstR_back : ∀ (ts : List (List UInt8)) (r : List UInt8) (each : Nat), (∀ t ∈ ts, t.length ≤ each) → each < 18446744073709551616 → lstR ts.length (txs (ts.map mk) ++ r) each = (0, ts, (txs (ts.map mk)).length)
  | [], r, each, _, _ => by simp [lstR, txs]
  | t :: ts, r, each, h, he => by
    have ht := h t (by simp)
    have e1 : txs ((t :: ts).map mk) ++ r = sn t.length ++ (t ++ (txs (ts.map mk) ++ r)) := by
      have : txs ((t :: ts).map mk) = tx (mk t) ++ txs (ts.map mk) := by simp [txs]
      rw [this, tx_mk]; simp
    have hb := txt_back t (txs (ts.map mk) ++ r) each (by omega) ht
    have hr := lstR_back ts r each (fun x hx => h x (by simp [hx])) he
    have hdr : (sn t.length ++ (t ++ (txs (ts.map mk) ++ r))).drop ((sn t.length).length + t.length) = txs (ts.map mk) ++ r := by
      rw [← List.append_assoc, List.drop_append_of_le_length (by simp)]
      simp
    rw [e1]
    show lstR (ts.length + 1) _ each = _
    rw [lstR_succ, hb]
    simp only
    rw [hdr, hr]
    simp only
    rw [if_neg (by simp), if_neg (by simp)]
    have : txs ((t :: ts).map mk) = tx (mk t) ++ txs (ts.map mk) := by simp [txs]
    rw [this, tx_mk]
    simp
    omega

end Go.Proofs.YtiibhccbbpgehaaGreat

/- What a call reads, as a function of the bytes and of where the reader stands; and that over a beginning of the bytes the same is read, until bytes are missing. -/
namespace Go.Proofs.YtiibhccbbpgehaaGreat

def uintF (bs : List UInt8) (a : Nat) (why wat : Int) : Nat × Nat × Int × Int :=
  if why ≠ 0 then (0, a, why, wat) else ((dec (bs.drop a) 0 0).2.1, a + (dec (bs.drop a) 0 0).2.2, (dec (bs.drop a) 0 0).1, watOf (dec (bs.drop a) 0 0).1 a wat)
def countF (bs : List UInt8) (a : Nat) (why wat m : Int) : Nat × Nat × Int × Int :=
  if why ≠ 0 then (0, a, why, wat) else if m < 0 then (0, a, 1, a) else ((upTo (bs.drop a) m.toNat 11).2.1, a + (upTo (bs.drop a) m.toNat 11).2.2, (upTo (bs.drop a) m.toNat 11).1, watOf (upTo (bs.drop a) m.toNat 11).1 a wat)
def textF (bs : List UInt8) (a : Nat) (why wat m : Int) : List UInt8 × Nat × Int × Int :=
  if why ≠ 0 then ([], a, why, wat) else if m < 0 then ([], a, 1, a) else ((wtxt (bs.drop a) m.toNat).2.1, a + (wtxt (bs.drop a) m.toNat).2.2, (wtxt (bs.drop a) m.toNat).1, watOf (wtxt (bs.drop a) m.toNat).1 a wat)
def listF (bs : List UInt8) (a : Nat) (why wat m n : Int) : List (List UInt8) × Nat × Int × Int :=
  if why ≠ 0 then ([], a, why, wat) else if m < 0 ∨ n < 0 then ([], a, 1, a) else if (lst (bs.drop a) m.toNat n.toNat).1 ≠ 0 then ([], a, (lst (bs.drop a) m.toNat n.toNat).1, ((a + (lst (bs.drop a) m.toNat n.toNat).2.2 : Nat) : Int)) else ((lst (bs.drop a) m.toNat n.toNat).2.1, a + (lst (bs.drop a) m.toNat n.toNat).2.2, 0, wat)
def rawF (bs : List UInt8) (a : Nat) (why wat m : Int) : List UInt8 × Nat × Int × Int :=
  if why ≠ 0 then ([], a, why, wat) else if m < 0 then ([], a, 1, a) else if bs.length - a < m.toNat then ([], a, 4, a) else ((bs.drop a).take m.toNat, a + m.toNat, 0, wat)

section
variable (bs : List UInt8) (n a : Nat) (why wat : Int)
end

end Go.Proofs.YtiibhccbbpgehaaGreat

/- How many bytes a frame has, plainly. -/
namespace Go.Proofs.YtiibhccbbpgehaaGreat
open Go.RowKit

theorem dec_ten : ∀ (l : List UInt8) (i acc : Nat), i ≤ 9 → dec (l.take (10 - i)) i acc = dec l i acc
  | [], _, _, _ => by simp
  | c :: r, i, acc, hi => by
    rw [show 10 - i = (9 - i) + 1 by omega, List.take_succ_cons, dec_cons, dec_cons]
    split
    · rfl
    · split
      · rfl
      · split
        · rfl
        · rename_i h1 _ h3
          have : i ≤ 8 := by
            rcases Nat.lt_or_ge i 9 with h | h
            · omega
            · exact absurd ⟨by omega, by omega⟩ h1
          have ih := dec_ten r (i + 1) (acc + (c.toNat - 128) * 128 ^ i) (by omega)
          rw [show 10 - (i + 1) = 9 - i by omega] at ih
          exact ih
theorem dec_head (l : List UInt8) : dec (l.take (min l.length 10)) 0 0 = dec l 0 0 := by
  rcases Nat.le_total l.length 10 with h | h
  · rw [Nat.min_eq_left h, List.take_length]
  · rw [Nat.min_eq_right h]
    exact dec_ten l 0 0 (by omega)
/-- how many bytes, where the body begins, the error -/
def needP (bs : List UInt8) : Nat × Nat × Nat :=
  if (dec bs 0 0).1 = 4 then (0, 0, 0) else if (dec bs 0 0).1 ≠ 0 then (0, 0, (dec bs 0 0).1) else if 2097152 < (dec bs 0 0).2.1 then (0, 0, 3) else if (dec bs 0 0).2.1 = 0 then (0, 0, 70) else ((dec bs 0 0).2.2 + (dec bs 0 0).2.1 + 4, (dec bs 0 0).2.2, 0)

theorem cut_at {w : World} {v : Value} {bs : List UInt8} (h : Src w v bs) (k : Nat) (hk : k ≤ bs.length) :
    ∃ vx, Src w vx (bs.take k) ∧ (∀ W, (Instr.slice 22 v none (some (.int .i64 (k : Int))) none).run Tryz.prog W = .ok vx W) := by
  obtain ⟨hl, ⟨rfl, rfl⟩ | ⟨ad, cap, rfl, h1, h2, hlt, hc⟩⟩ := h
  · simp at hk
    subst hk
    exact ⟨.slice none 0 0, ⟨by simp, Or.inl ⟨rfl, rfl⟩⟩, fun W => by go_simp⟩
  · have hlen : (bs.take k).length = k := by simp; omega
    refine ⟨.slice (some ad) k cap, ⟨by omega, Or.inr ⟨ad, cap, by rw [hlen], by omega, h2, fun h0 => hlt (by omega), fun j hj => ?_⟩⟩, fun W => ?_⟩
    · rw [hlen] at hj
      rw [hc j (by omega)]
      simp [List.getD_eq_getElem?_getD, hj]
    · have hk2 : (k : Int) ≤ (cap : Int) := by omega
      go_simp

end Go.Proofs.YtiibhccbbpgehaaGreat

/- Frames out of bytes, plainly: what is read, as the document reads it. -/
namespace Go.Proofs.YtiibhccbbpgehaaGreat
open Go.RowKit

/-- where a reader stands: its place, its fault -/
abbrev St := Nat × Int × Int
def uS (bs : List UInt8) (s : St) : Nat × St := uintF bs s.1 s.2.1 s.2.2
def cS (bs : List UInt8) (m : Int) (s : St) : Nat × St := countF bs s.1 s.2.1 s.2.2 m
def tS (bs : List UInt8) (m : Int) (s : St) : List UInt8 × St := textF bs s.1 s.2.1 s.2.2 m
def lS (bs : List UInt8) (m n : Int) (s : St) : List (List UInt8) × St := listF bs s.1 s.2.1 s.2.2 m n
def rS (bs : List UInt8) (m : Int) (s : St) : List UInt8 × St := rawF bs s.1 s.2.1 s.2.2 m
/-- a number that is not 0 -/
def oS (bs : List UInt8) (m : Int) (s : St) : Nat × St := if (cS bs m s).1 = 0 ∧ (cS bs m s).2.2.1 = 0 then (0, s.1, 70, (s.1 : Int)) else cS bs m s
/-- the fault at the end -/
def eS (bs : List UInt8) (s : St) : Int × Int := if s.2.1 ≠ 0 then s.2 else if s.1 < bs.length then (6, (s.1 : Int)) else s.2
def z32f : List UInt8 := List.replicate 32 0
def pad32 (l : List UInt8) : List UInt8 := if l.length = 32 then l else z32f
def kF (K : Int) : Fr := { zF with kind := K }
def fieldsP (bs : List UInt8) (K : Int) (s : St) : Fr × St :=
  if K = 1 then
    (⟨1, 0, ((oS bs 1 s).1 : Int), ((oS bs 64 (oS bs 1 s).2).1 : Int), pad32 (rS bs 32 (oS bs 64 (oS bs 1 s).2).2).1, 0, (0, 0, 0), [], []⟩, (rS bs 32 (oS bs 64 (oS bs 1 s).2).2).2)
  else if K = 2 then
    (reqF ((uS bs s).1 : Int) (((cS bs 2147483648 (uS bs s).2).1 : Int), ((cS bs 2147483648 (cS bs 2147483648 (uS bs s).2).2).1 : Int), ((cS bs 2147483648 (cS bs 2147483648 (cS bs 2147483648 (uS bs s).2).2).2).1 : Int))
      (lS bs 8 4096 (cS bs 2147483648 (cS bs 2147483648 (cS bs 2147483648 (uS bs s).2).2).2).2).1 (tS bs 2097152 (lS bs 8 4096 (cS bs 2147483648 (cS bs 2147483648 (cS bs 2147483648 (uS bs s).2).2).2).2).2).1,
     (tS bs 2097152 (lS bs 8 4096 (cS bs 2147483648 (cS bs 2147483648 (cS bs 2147483648 (uS bs s).2).2).2).2).2).2)
  else if K = 3 then
    (resF ((uS bs s).1 : Int) ((oS bs 3 (uS bs s).2).1 : Int) (tS bs 2097152 (oS bs 3 (uS bs s).2).2).1, (tS bs 2097152 (oS bs 3 (uS bs s).2).2).2)
  else if K = 4 then (canF ((uS bs s).1 : Int), (uS bs s).2)
  else if K = 5 then (byeF, s)
  else (noteF (tS bs 2097152 s).1, (tS bs 2097152 s).2)
/-- the frame of bytes ahead of which the length stands -/
def frameP (bs : List UInt8) (head : Nat) : Fr × Int × Int :=
  if (oS bs 6 (head, 0, 0)).1 = 0 then (zF, eS bs (oS bs 6 (head, 0, 0)).2)
  else if (eS bs (fieldsP bs (oS bs 6 (head, 0, 0)).1 (oS bs 6 (head, 0, 0)).2).2).1 ≠ 0 then (zF, eS bs (fieldsP bs (oS bs 6 (head, 0, 0)).1 (oS bs 6 (head, 0, 0)).2).2)
  else if mayF (fieldsP bs (oS bs 6 (head, 0, 0)).1 (oS bs 6 (head, 0, 0)).2).1 = true then ((fieldsP bs (oS bs 6 (head, 0, 0)).1 (oS bs 6 (head, 0, 0)).2).1, 0, 0)
  else (zF, 70, (head : Int))
/-- the frame of bytes, and what is wrong -/
def decP (b : List UInt8) : Fr × Int × Int :=
  if (needP b).2.2 ≠ 0 then (zF, ((needP b).2.2 : Int), 0)
  else if (needP b).1 = 0 ∨ b.length < (needP b).1 then (zF, 4, (b.length : Int))
  else if (needP b).1 < b.length then (zF, 6, ((needP b).1 : Int))
  else if cokP b = true then frameP (b.take (b.length - 4)) (needP b).2.1
  else (zF, 71, ((needP b).1 : Int) - 4)

theorem over_u (bs : List UInt8) (s : St) (h : s.2.1 ≠ 0) : uS bs s = (0, s) := by unfold uS uintF; rw [if_pos h]
theorem over_c (bs : List UInt8) (m : Int) (s : St) (h : s.2.1 ≠ 0) : cS bs m s = (0, s) := by unfold cS countF; rw [if_pos h]
theorem over_t (bs : List UInt8) (m : Int) (s : St) (h : s.2.1 ≠ 0) : tS bs m s = ([], s) := by unfold tS textF; rw [if_pos h]
theorem over_l (bs : List UInt8) (m n : Int) (s : St) (h : s.2.1 ≠ 0) : lS bs m n s = ([], s) := by unfold lS listF; rw [if_pos h]
theorem over_r (bs : List UInt8) (m : Int) (s : St) (h : s.2.1 ≠ 0) : rS bs m s = ([], s) := by unfold rS rawF; rw [if_pos h]
/-- a number that is 0 is a fault -/
theorem oS_zero (bs : List UInt8) (m : Int) (s : St) (h : (oS bs m s).1 = 0) : (oS bs m s).2.2.1 ≠ 0 := by
  unfold oS at h ⊢
  split
  · show (70 : Int) ≠ 0
    omega
  · rename_i hn
    rw [if_neg hn] at h
    exact fun h2 => hn ⟨h, h2⟩
theorem cS_le (bs : List UInt8) (m : Int) (s : St) (h0 : 0 ≤ m) : ((cS bs m s).1 : Int) ≤ m := by
  unfold cS countF
  by_cases h1 : s.2.1 ≠ 0
  · rw [if_pos h1]
    exact h0
  · rw [if_neg h1, if_neg (show ¬ m < 0 by omega)]
    have h : upTo (bs.drop s.1) m.toNat 11 = ((upTo (bs.drop s.1) m.toNat 11).1, (upTo (bs.drop s.1) m.toNat 11).2.1, (upTo (bs.drop s.1) m.toNat 11).2.2) := rfl
    have h2 := (upTo_le h).2.1
    show ((upTo (bs.drop s.1) m.toNat 11).2.1 : Int) ≤ m
    omega
theorem oS_le (bs : List UInt8) (m : Int) (s : St) (h0 : 0 ≤ m) : ((oS bs m s).1 : Int) ≤ m := by
  unfold oS
  split
  · exact h0
  · exact cS_le bs m s h0
theorem pad32_length (l : List UInt8) : (pad32 l).length = 32 := by
  unfold pad32
  split
  · assumption
  · rfl
theorem fieldsP_tool (bs : List UInt8) (K : Int) (s : St) : (fieldsP bs K s).1.tool.length = 32 := by
  unfold fieldsP
  repeat' split
  all_goals first | exact pad32_length _ | rfl
theorem fieldsP_kind (bs : List UInt8) (K : Int) (s : St) (h : 1 ≤ K ∧ K ≤ 6) : (fieldsP bs K s).1.kind = K := by
  unfold fieldsP
  have hc : K = 1 ∨ K = 2 ∨ K = 3 ∨ K = 4 ∨ K = 5 ∨ K = 6 := by omega
  rcases hc with rfl | rfl | rfl | rfl | rfl | rfl <;> rfl
end Go.Proofs.YtiibhccbbpgehaaGreat

/- One contract for each reading call of a made reader, by what it reads. -/
namespace Go.Proofs.YtiibhccbbpgehaaGreat
open Go.RowKit

section

variable {base b : Nat} {v : Value} {bs : List UInt8} {a : Nat} {why wat : Int} {w : World}

theorem uint_R (h : Rd w base b v bs a why wat) :
    Calls Tryz.prog 65 #[.pointer (some ⟨b, 0, none⟩)] w fun e w' => e = .returned (.int .u64 (uintF bs a why wat).1) ∧ Rd w' base b v bs (uintF bs a why wat).2.1 (uintF bs a why wat).2.2.1 (uintF bs a why wat).2.2.2 ∧ w.grownBy w' (some b) := by
  unfold uintF
  by_cases hw : why ≠ 0
  · rw [if_pos hw]
    refine (uint_over _ _ _ _ _ _ _ _ h hw).mono ?_
    rintro e w' ⟨rfl, rfl⟩
    exact ⟨rfl, h, gb_refl _ _⟩
  · rw [if_neg hw]
    obtain rfl : why = 0 := by omega
    exact uint_go _ _ _ _ _ _ _ h _ _ _ rfl

theorem uintF_lt (bs : List UInt8) (a : Nat) (why wat : Int) : (uintF bs a why wat).1 < 18446744073709551616 := by
  unfold uintF
  by_cases hw : why ≠ 0
  · rw [if_pos hw]; simp
  · rw [if_neg hw]
    obtain ⟨er, n, k, hd⟩ : ∃ er n k, dec (bs.drop a) 0 0 = (er, n, k) := ⟨_, _, _, rfl⟩
    rw [hd]
    exact (dec_le _ hd).2.1

theorem count_R (m : Int) (hm : m ≤ 9223372036854775807) (h : Rd w base b v bs a why wat) :
    Calls Tryz.prog 101 #[.pointer (some ⟨b, 0, none⟩), .int .i64 m] w fun e w' => e = .returned (.int .i64 (countF bs a why wat m).1) ∧ Rd w' base b v bs (countF bs a why wat m).2.1 (countF bs a why wat m).2.2.1 (countF bs a why wat m).2.2.2 ∧ w.grownBy w' (some b) := by
  unfold countF
  by_cases hw : why ≠ 0
  · rw [if_pos hw]
    exact count_over _ _ _ _ _ _ _ _ m h hw
  · rw [if_neg hw]
    obtain rfl : why = 0 := by omega
    by_cases h0 : m < 0
    · rw [if_pos h0]
      exact count_arg _ _ _ _ _ _ _ m h h0
    · rw [if_neg h0]
      obtain ⟨k, rfl⟩ : ∃ k : Nat, m = k := ⟨m.toNat, by omega⟩
      exact count_go _ _ _ _ _ _ _ k (by omega) h _ _ _ rfl

theorem text_R (m : Int) (hm : m ≤ 9223372036854775807) (hbl : bs.length ≤ 140737488355327) (h : Rd w base b v bs a why wat) :
    Calls Tryz.prog 150 #[.pointer (some ⟨b, 0, none⟩), .int .i64 m] w fun e w' => e = .returned (.string ⟨(textF bs a why wat m).1.toArray⟩) ∧ Rd w' base b v bs (textF bs a why wat m).2.1 (textF bs a why wat m).2.2.1 (textF bs a why wat m).2.2.2 ∧ w.grownBy w' (some b) := by
  unfold textF
  by_cases hw : why ≠ 0
  · rw [if_pos hw]
    exact textr_over _ _ _ _ _ _ _ _ m h hw
  · rw [if_neg hw]
    obtain rfl : why = 0 := by omega
    by_cases h0 : m < 0
    · rw [if_pos h0]
      exact textr_arg _ _ _ _ _ _ _ m h h0
    · rw [if_neg h0]
      obtain ⟨k, rfl⟩ : ∃ k : Nat, m = k := ⟨m.toNat, by omega⟩
      exact textr_go _ _ _ _ _ _ _ k (by omega) h hbl _ _ _ rfl

theorem textF_len (bs : List UInt8) (a : Nat) (why wat m : Int) : (textF bs a why wat m).1.length ≤ bs.length := by
  unfold textF
  by_cases hw : why ≠ 0
  · rw [if_pos hw]; simp
  · rw [if_neg hw]
    by_cases h0 : m < 0
    · rw [if_pos h0]; simp
    · rw [if_neg h0]
      show (wtxt (bs.drop a) m.toNat).2.1.length ≤ _
      obtain ⟨er, s, k, hd⟩ : ∃ er s k, wtxt (bs.drop a) m.toNat = (er, s, k) := ⟨_, _, _, rfl⟩
      rw [hd]
      by_cases he : er = 0
      · subst he
        obtain ⟨_, h2, _, h4⟩ := txt_ok hd
        simp at h4
        show s.length ≤ _
        omega
      · rw [((txt_le hd).2.2 he).1]; simp

theorem list_R (m n : Int) (hm : m ≤ 9223372036854775807) (hn : n ≤ 9223372036854775807) (hbl : bs.length ≤ 1099511627776) (h : Rd w base b v bs a why wat) :
    Calls Tryz.prog 149 #[.pointer (some ⟨b, 0, none⟩), .int .i64 m, .int .i64 n] w fun e w' => ∃ v', e = .returned v' ∧ WOwnS w' w.heap.size v' (listF bs a why wat m n).1 ∧ Rd w' base b v bs (listF bs a why wat m n).2.1 (listF bs a why wat m n).2.2.1 (listF bs a why wat m n).2.2.2 ∧ w.grownBy w' (some b) := by
  unfold listF
  by_cases hw : why ≠ 0
  · rw [if_pos hw]
    refine (listr_over _ _ _ _ _ _ _ _ m n h hw).mono ?_
    rintro e w' ⟨rfl, hr⟩
    exact ⟨_, rfl, WOwnS.nil _ _, hr⟩
  · rw [if_neg hw]
    obtain rfl : why = 0 := by omega
    by_cases h0 : m < 0 ∨ n < 0
    · rw [if_pos h0]
      refine (listr_arg _ _ _ _ _ _ _ m n h h0).mono ?_
      rintro e w' ⟨rfl, hr⟩
      exact ⟨_, rfl, WOwnS.nil _ _, hr⟩
    · rw [if_neg h0]
      obtain ⟨k, rfl⟩ : ∃ k : Nat, m = k := ⟨m.toNat, by omega⟩
      obtain ⟨j, rfl⟩ : ∃ j : Nat, n = j := ⟨n.toNat, by omega⟩
      simp only [Int.toNat_natCast]
      refine (listr_go _ _ _ _ _ _ _ k j (by omega) (by omega) h hbl _ _ _ rfl).mono ?_
      rintro e w' ⟨v', rfl, ho, hnil, h1, h2, hg⟩
      by_cases he : (lst (bs.drop a) k j).1 ≠ 0
      · rw [if_pos he]
        obtain rfl := hnil he
        exact ⟨_, rfl, WOwnS.nil _ _, h2 he, hg⟩
      · rw [if_neg he]
        exact ⟨_, rfl, ho, h1 (Decidable.not_not.1 he), hg⟩

theorem raw_R (m : Int) (hm : m ≤ 9223372036854775807) (hbl : bs.length ≤ 140737488355327) (h : Rd w base b v bs a why wat) :
    Calls Tryz.prog 144 #[.pointer (some ⟨b, 0, none⟩), .int .i64 m] w fun e w' => ∃ v', e = .returned v' ∧ OwnB w' w.heap.size v' (rawF bs a why wat m).1 ∧ Rd w' base b v bs (rawF bs a why wat m).2.1 (rawF bs a why wat m).2.2.1 (rawF bs a why wat m).2.2.2 ∧ w.grownBy w' (some b) := by
  unfold rawF
  by_cases hw : why ≠ 0
  · rw [if_pos hw]
    refine (rawr_over _ _ _ _ _ _ _ _ m h hw).mono ?_
    rintro e w' ⟨rfl, hr⟩
    exact ⟨_, rfl, OwnB.nil _ _, hr⟩
  · rw [if_neg hw]
    obtain rfl : why = 0 := by omega
    by_cases h0 : m < 0
    · rw [if_pos h0]
      refine (rawr_arg _ _ _ _ _ _ _ m h h0).mono ?_
      rintro e w' ⟨rfl, hr⟩
      exact ⟨_, rfl, OwnB.nil _ _, hr⟩
    · rw [if_neg h0]
      obtain ⟨k, rfl⟩ : ∃ k : Nat, m = k := ⟨m.toNat, by omega⟩
      simp only [Int.toNat_natCast]
      have hle := h.le
      by_cases hl : bs.length - a < k
      · rw [if_pos hl]
        refine (rawr_short _ _ _ _ _ _ _ k h hl).mono ?_
        rintro e w' ⟨rfl, hr⟩
        exact ⟨_, rfl, OwnB.nil _ _, hr⟩
      · rw [if_neg hl]
        exact rawr_ok _ _ _ _ _ _ _ k h hbl (by omega)

end

end Go.Proofs.YtiibhccbbpgehaaGreat

/- A frame's reader in memory, and its calls. -/
namespace Go.Proofs.YtiibhccbbpgehaaGreat
open Go.RowKit

/-- nothing that was there changed but two blocks -/
structure G2 (w w' : World) (b c : Nat) : Prop where
  os : w'.os = w.os
  tape : w'.tape = w.tape
  output : w'.output = w.output
  size : w.heap.size ≤ w'.heap.size
  block : ∀ k, k < w.heap.size → k ≠ b → k ≠ c → w'.heap[k]? = w.heap[k]?
theorem G2.refl (w : World) (b c : Nat) : G2 w w b c := ⟨rfl, rfl, rfl, Nat.le_refl _, fun _ _ _ _ => rfl⟩
theorem G2.trans {w w' w'' : World} {b c : Nat} (h : G2 w w' b c) (k : G2 w' w'' b c) : G2 w w'' b c :=
  ⟨k.os.trans h.os, k.tape.trans h.tape, k.output.trans h.output, Nat.le_trans h.size k.size, fun i hi h1 h2 => (k.block i (Nat.lt_of_lt_of_le hi h.size) h1 h2).trans (h.block i hi h1 h2)⟩
theorem G2.of_first {w w' : World} {b c : Nat} (h : w.grownBy w' (some b)) : G2 w w' b c := ⟨h.os, h.tape, h.output, h.size, fun k hk h1 _ => h.block k hk (fun e => h1 (by injection e))⟩
theorem G2.of_second {w w' : World} {b c : Nat} (h : w.grownBy w' (some c)) : G2 w w' b c := ⟨h.os, h.tape, h.output, h.size, fun k hk _ h1 => h.block k hk (fun e => h1 (by injection e))⟩
theorem G2.of_below {w w' : World} {b c : Nat} (h : Below w.heap.size w w') : G2 w w' b c := ⟨h.os, h.tape, h.output, h.size, fun k hk _ _ => h.block k hk⟩
theorem G2.below {w0 w w' : World} {b c : Nat} (h : G2 w w' b c) (h0 : Below w0.heap.size w0 w) (hb : w0.heap.size ≤ b) (hc : w0.heap.size ≤ c) : Below w0.heap.size w0 w' :=
  ⟨h.os.trans h0.os, h.tape.trans h0.tape, h.output.trans h0.output, Nat.le_trans h0.size h.size, fun k hk => (h.block k (Nat.lt_of_lt_of_le hk h0.size) (by omega) (by omega)).trans (h0.block k hk)⟩

theorem G2.then_new {w W W' : World} {b c n : Nat} (h : G2 w W b c) (hg : W.grownBy W' (some n)) (hn : w.heap.size ≤ n) : G2 w W' b c :=
  ⟨hg.os.trans h.os, hg.tape.trans h.tape, hg.output.trans h.output, Nat.le_trans h.size hg.size, fun k hk h1 h2 => (hg.block k (Nat.lt_of_lt_of_le hk h.size) (fun e => by injection e with e; omega)).trans (h.block k hk h1 h2)⟩

/-- a frame's reader: its block b, the reader's block rb; a number that was 0 is remembered -/
def Fd (w : World) (base b rb : Nat) (v : Value) (bs : List UInt8) (s : St) : Prop :=
  ∃ (A : Nat) (Y T nw na : Int), Rd w base rb v bs A Y T ∧ w.heap[b]? = some (.cells #[.pointer (some ⟨rb, 0, none⟩), .int .i64 nw, .int .i64 na] 127 (0, 0)) ∧ b ≠ rb ∧ v.ownBlock ≠ some b ∧ base ≤ b ∧
    ((nw = 0 ∧ s = (A, Y, T)) ∨ (nw = 70 ∧ Y ≠ 0 ∧ s.2 = (70, na)))
section
variable {w w' : World} {base b rb : Nat} {v : Value} {bs : List UInt8} {s : St}
theorem Fd.lt (h : Fd w base b rb v bs s) : b < w.heap.size ∧ rb < w.heap.size ∧ base ≤ b ∧ base ≤ rb ∧ b ≠ rb := by
  obtain ⟨A, Y, T, nw, na, hr, hb, hn, hv, hl, _⟩ := h
  exact ⟨hp_lt hb, hr.lt, hl, hr.lo, hn⟩
theorem Fd.own (h : Fd w base b rb v bs s) : ∀ k, v.ownBlock = some k → k < w.heap.size := by
  obtain ⟨A, Y, T, nw, na, hr, hb, hn, hv, hl, _⟩ := h
  exact fun k hk => (hr.own.lt k hk).2
theorem Fd.ptr (h : Fd w base b rb v bs s) : w.cell? ⟨b, 0, none⟩ = some (.pointer (some ⟨rb, 0, none⟩)) := by
  obtain ⟨A, Y, T, nw, na, hr, hb, _⟩ := h
  simp [World.cell?, hb]
theorem Fd.grown {row : Option Nat} (h : Fd w base b rb v bs s) (hg : w.grownBy w' row) (h1 : row ≠ some b) (h2 : row ≠ some rb) (h3 : v.ownBlock = none ∨ v.ownBlock ≠ row) : Fd w' base b rb v bs s := by
  obtain ⟨A, Y, T, nw, na, hr, hb, hn, hv, hl, hs⟩ := h
  exact ⟨A, Y, T, nw, na, hr.grown hg h2 h3, (hg.block b (hp_lt hb) (fun e => h1 e.symm)).trans hb, hn, hv, hl, hs⟩
theorem Fd.below (h : Fd w base b rb v bs s) (hg : Below w.heap.size w w') : Fd w' base b rb v bs s := by
  obtain ⟨A, Y, T, nw, na, hr, hb, hn, hv, hl, hs⟩ := h
  exact ⟨A, Y, T, nw, na, hr.below hg, (hg.block b (hp_lt hb)).trans hb, hn, hv, hl, hs⟩
/-- a block that is not the reader's changed -/
theorem Fd.far {n : Nat} (h : Fd w base b rb v bs s) (hg : w.grownBy w' (some n)) (h1 : b < n) (h2 : rb < n) (h3 : ∀ k, v.ownBlock = some k → k < n) : Fd w' base b rb v bs s :=
  h.grown hg (fun e => by injection e with e; omega) (fun e => by injection e with e; omega) (by
    cases hv : v.ownBlock with
    | none => exact Or.inl rfl
    | some k => exact Or.inr (fun e => by injection e with e; have := h3 k hv; omega))

theorem fd_at (h : Fd w base b rb v bs s) : Calls Tryz.prog 66 #[.pointer (some ⟨rb, 0, none⟩)] w fun e w' => ∃ A : Nat, e = .returned (.int .i64 A) ∧ w' = w ∧ (s.2.1 = 0 → A = s.1) := by
  obtain ⟨A, Y, T, nw, na, hr, hb, hn, hv, hl, hs⟩ := h
  refine (rat_any (h := hr)).mono ?_
  rintro e w' ⟨rfl, rfl⟩
  refine ⟨A, rfl, rfl, fun h0 => ?_⟩
  rcases hs with ⟨_, rfl⟩ | ⟨_, _, h2⟩
  · rfl
  · rw [h2] at h0
    exact absurd h0 (show ¬ (70 : Int) = 0 by decide)
theorem fd_uint (h : Fd w base b rb v bs s) : Calls Tryz.prog 65 #[.pointer (some ⟨rb, 0, none⟩)] w fun e w' => e = .returned (.int .u64 (uS bs s).1) ∧ Fd w' base b rb v bs (uS bs s).2 ∧ w.grownBy w' (some rb) := by
  obtain ⟨A, Y, T, nw, na, hr, hb, hn, hv, hl, hs⟩ := h
  refine (uint_R (h := hr)).mono ?_
  rintro e w' ⟨rfl, hr', hg⟩
  have hb' := (hg.block b (hp_lt hb) (fun e => hn (by injection e))).trans hb
  rcases hs with ⟨rfl, rfl⟩ | ⟨rfl, hY, h2⟩
  · exact ⟨rfl, ⟨_, _, _, 0, na, hr', hb', hn, hv, hl, Or.inl ⟨rfl, rfl⟩⟩, hg⟩
  · rw [over_u bs s (by rw [h2]; show (70 : Int) ≠ 0; decide)]
    have e := over_u bs (A, Y, T) hY
    unfold uS at e
    rw [e] at hr' ⊢
    exact ⟨rfl, ⟨_, _, _, 70, na, hr', hb', hn, hv, hl, Or.inr ⟨rfl, hY, h2⟩⟩, hg⟩
theorem fd_count (m : Int) (hm : m ≤ 9223372036854775807) (h : Fd w base b rb v bs s) : Calls Tryz.prog 101 #[.pointer (some ⟨rb, 0, none⟩), .int .i64 m] w fun e w' => e = .returned (.int .i64 (cS bs m s).1) ∧ Fd w' base b rb v bs (cS bs m s).2 ∧ w.grownBy w' (some rb) := by
  obtain ⟨A, Y, T, nw, na, hr, hb, hn, hv, hl, hs⟩ := h
  refine (count_R m hm (h := hr)).mono ?_
  rintro e w' ⟨rfl, hr', hg⟩
  have hb' := (hg.block b (hp_lt hb) (fun e => hn (by injection e))).trans hb
  rcases hs with ⟨rfl, rfl⟩ | ⟨rfl, hY, h2⟩
  · exact ⟨rfl, ⟨_, _, _, 0, na, hr', hb', hn, hv, hl, Or.inl ⟨rfl, rfl⟩⟩, hg⟩
  · rw [over_c bs m s (by rw [h2]; show (70 : Int) ≠ 0; decide)]
    have e := over_c bs m (A, Y, T) hY
    unfold cS at e
    rw [e] at hr' ⊢
    exact ⟨rfl, ⟨_, _, _, 70, na, hr', hb', hn, hv, hl, Or.inr ⟨rfl, hY, h2⟩⟩, hg⟩
theorem fd_text (m : Int) (hm : m ≤ 9223372036854775807) (hbl : bs.length ≤ 140737488355327) (h : Fd w base b rb v bs s) : Calls Tryz.prog 150 #[.pointer (some ⟨rb, 0, none⟩), .int .i64 m] w fun e w' => e = .returned (.string (mk (tS bs m s).1)) ∧ Fd w' base b rb v bs (tS bs m s).2 ∧ w.grownBy w' (some rb) := by
  obtain ⟨A, Y, T, nw, na, hr, hb, hn, hv, hl, hs⟩ := h
  refine (text_R m hm hbl (h := hr)).mono ?_
  rintro e w' ⟨rfl, hr', hg⟩
  have hb' := (hg.block b (hp_lt hb) (fun e => hn (by injection e))).trans hb
  rcases hs with ⟨rfl, rfl⟩ | ⟨rfl, hY, h2⟩
  · exact ⟨rfl, ⟨_, _, _, 0, na, hr', hb', hn, hv, hl, Or.inl ⟨rfl, rfl⟩⟩, hg⟩
  · rw [over_t bs m s (by rw [h2]; show (70 : Int) ≠ 0; decide)]
    have e := over_t bs m (A, Y, T) hY
    unfold tS at e
    rw [e] at hr' ⊢
    exact ⟨rfl, ⟨_, _, _, 70, na, hr', hb', hn, hv, hl, Or.inr ⟨rfl, hY, h2⟩⟩, hg⟩
theorem fd_list (m n : Int) (hm : m ≤ 9223372036854775807) (hn' : n ≤ 9223372036854775807) (hbl : bs.length ≤ 1099511627776) (h : Fd w base b rb v bs s) : Calls Tryz.prog 149 #[.pointer (some ⟨rb, 0, none⟩), .int .i64 m, .int .i64 n] w fun e w' => ∃ v', e = .returned v' ∧ WOwnS w' w.heap.size v' (lS bs m n s).1 ∧ Fd w' base b rb v bs (lS bs m n s).2 ∧ w.grownBy w' (some rb) := by
  obtain ⟨A, Y, T, nw, na, hr, hb, hn, hv, hl, hs⟩ := h
  refine (list_R m n hm hn' hbl (h := hr)).mono ?_
  rintro e w' ⟨v', rfl, ho, hr', hg⟩
  have hb' := (hg.block b (hp_lt hb) (fun e => hn (by injection e))).trans hb
  rcases hs with ⟨rfl, rfl⟩ | ⟨rfl, hY, h2⟩
  · exact ⟨v', rfl, ho, ⟨_, _, _, 0, na, hr', hb', hn, hv, hl, Or.inl ⟨rfl, rfl⟩⟩, hg⟩
  · rw [over_l bs m n s (by rw [h2]; show (70 : Int) ≠ 0; decide)]
    have e := over_l bs m n (A, Y, T) hY
    unfold lS at e
    rw [e] at hr' ho
    exact ⟨v', rfl, ho, ⟨_, _, _, 70, na, hr', hb', hn, hv, hl, Or.inr ⟨rfl, hY, h2⟩⟩, hg⟩
theorem fd_raw (m : Int) (hm : m ≤ 9223372036854775807) (hbl : bs.length ≤ 140737488355327) (h : Fd w base b rb v bs s) : Calls Tryz.prog 144 #[.pointer (some ⟨rb, 0, none⟩), .int .i64 m] w fun e w' => ∃ v', e = .returned v' ∧ OwnB w' w.heap.size v' (rS bs m s).1 ∧ Fd w' base b rb v bs (rS bs m s).2 ∧ w.grownBy w' (some rb) := by
  obtain ⟨A, Y, T, nw, na, hr, hb, hn, hv, hl, hs⟩ := h
  refine (raw_R m hm hbl (h := hr)).mono ?_
  rintro e w' ⟨v', rfl, ho, hr', hg⟩
  have hb' := (hg.block b (hp_lt hb) (fun e => hn (by injection e))).trans hb
  rcases hs with ⟨rfl, rfl⟩ | ⟨rfl, hY, h2⟩
  · exact ⟨v', rfl, ho, ⟨_, _, _, 0, na, hr', hb', hn, hv, hl, Or.inl ⟨rfl, rfl⟩⟩, hg⟩
  · rw [over_r bs m s (by rw [h2]; show (70 : Int) ≠ 0; decide)]
    have e := over_r bs m (A, Y, T) hY
    unfold rS at e
    rw [e] at hr' ho
    exact ⟨v', rfl, ho, ⟨_, _, _, 70, na, hr', hb', hn, hv, hl, Or.inr ⟨rfl, hY, h2⟩⟩, hg⟩
end

set_option maxRecDepth 100000 in
set_option maxHeartbeats 2000000 in
/-- a number that must not be 0 -/
theorem fd_some (base b rb : Nat) (v : Value) (bs : List UInt8) (s : St) (m : Int) (w : World) (hm : m ≤ 9223372036854775807) (h : Fd w base b rb v bs s) :
    Calls Tryz.prog 67 #[.pointer (some ⟨b, 0, none⟩), .int .i64 m] w fun e w' => e = .returned (.int .i64 (oS bs m s).1) ∧ Fd w' base b rb v bs (oS bs m s).2 ∧ G2 w w' b rb := by
  have HAT := hid (fd_at h)
  have HCO := hid (fd_count m hm h)
  have hp := h.ptr
  have hfw : ∀ (why wat : Int) (W : World), (Instr.field 33 (.agg #[.int .i64 why, .int .i64 wat]) 0).run Tryz.prog W = .ok (.int .i64 why) W := fun _ _ _ => by kernel_rfl
  have HH := hid h
  clear h
  go_enter Tryz.func67, Tryz.ntmps67
  go_wp2_with fail
  refine HAT.out.mono ?_
  rintro e w1 ⟨A1, rfl, hw1, hA1⟩
  have hw1 := hw1.symm
  subst hw1
  have HA1 := hid hA1
  clear hA1
  go_wp2_with fail
  refine HCO.out.mono ?_
  rintro e w2 ⟨rfl, hf2, hg2⟩
  obtain ⟨A, Y, T, nw, na, hr, hb, hn, hv, hl, hs⟩ := hf2
  have HR := hid hr
  have HBK := hid hb
  have HS := hid hs
  have HNE := hid hn
  have HNV := hid hv
  have HLO := hid hl
  have HG2 := hid hg2
  have p2 : w2.cell? ⟨b, 0, none⟩ = some (.pointer (some ⟨rb, 0, none⟩)) := by simp [World.cell?, hb]
  obtain ⟨N, HN⟩ : ∃ N : Nat, Hid ((cS bs m s).1 = N) := ⟨_, rfl⟩
  rw [HN.out]
  have HFA := hid (rfault_any (h := hr))
  clear hr hb hn hv hl hs hg2 hp HAT HCO
  by_cases h0 : N = 0
  · subst h0
    go_wp2_with fail
    refine HFA.out.mono ?_
    rintro e w3 ⟨rfl, hb3⟩
    have HR3 := hid (HR.out.below hb3)
    have HK3 := hid ((hb3.block b (hp_lt HBK.out)).trans HBK.out)
    have HB3 := hid hb3
    have p3 : w3.cell? ⟨b, 0, none⟩ = some (.pointer (some ⟨rb, 0, none⟩)) := by simp [World.cell?, HK3.out]
    have f1 := row_fz HK3.out 1
    have f2 := row_fz HK3.out 2
    have c1 : w3.cell? ⟨b, 1, none⟩ = some (.int .i64 nw) := by simp [World.cell?, HK3.out]
    have c2 : w3.cell? ⟨b, 2, none⟩ = some (.int .i64 na) := by simp [World.cell?, HK3.out]
    clear hb3 p2 HFA HR HBK
    by_cases hY : Y = 0
    · subst hY
      have HS0 := hid (show nw = 0 ∧ (cS bs m s).2 = (A, 0, T) by
        rcases HS.out with h | ⟨_, h, _⟩
        · exact h
        · exact absurd rfl h)
      have HO := hid (show oS bs m s = (0, s.1, 70, (s.1 : Int)) by
        unfold oS
        rw [if_pos ⟨HN.out, by rw [HS0.out.2]⟩])
      have HAS := hid (show A1 = s.1 from HA1.out (by
        by_cases h9 : s.2.1 = 0
        · exact h9
        · have h8 := HS0.out.2
          rw [over_c bs m s h9] at h8
          have := congrArg (fun x : St => x.2.1) h8
          exact this))
      go_wp2_with fail
      have HB4 := hid (show (((w3.setCell ⟨b, 1, none⟩ (.int .i64 70)).setCell ⟨b, 2, none⟩ (.int .i64 (A1 : Nat)))).heap[b]? = some (.cells #[.pointer (some ⟨rb, 0, none⟩), .int .i64 70, .int .i64 (A1 : Nat)] 127 (0, 0)) from blk_set (blk_set HK3.out _) _)
      have HG4 := hid (show w3.grownBy ((w3.setCell ⟨b, 1, none⟩ (.int .i64 70)).setCell ⟨b, 2, none⟩ (.int .i64 (A1 : Nat))) (some b) from gb_trans (gb_set _ _ _) (gb_set _ _ _))
      generalize (w3.setCell ⟨b, 1, none⟩ (.int .i64 70)).setCell ⟨b, 2, none⟩ (.int .i64 (A1 : Nat)) = w4 at HB4 HG4 ⊢
      have HR4 := hid (HR3.out.grown HG4.out (fun e => HNE.out (by injection e)) (Or.inr HNV.out))
      have p4 : w4.cell? ⟨b, 0, none⟩ = some (.pointer (some ⟨rb, 0, none⟩)) := by simp [World.cell?, HB4.out]
      clear p3 f1 f2 c1 c2
      have HFL := hid (rfail_any (n := 70) (h := HR4.out))
      go_wp2_with fail
      refine HFL.out.mono ?_
      rintro e w5 ⟨rfl, hr5, hg5⟩
      have HR5 := hid (show Rd w5 base rb v bs A 70 A by simpa using hr5)
      have HG5 := hid hg5
      clear hr5 hg5
      go_wp2
      go_ret
      rw [HO.out]
      refine ⟨rfl, ⟨_, _, _, 70, (A1 : Int), HR5.out, (HG5.out.block b (hp_lt HB4.out) (fun e => HNE.out (by injection e))).trans HB4.out, HNE.out, HNV.out, HLO.out, Or.inr ⟨rfl, by decide, ?_⟩⟩, ?_⟩
      · rw [HAS.out]
      · exact (G2.of_second HG2.out).trans ((G2.of_below HB3.out).trans ((G2.of_first HG4.out).trans (G2.of_second HG5.out)))
    · have q1 : (Y == 0) = false := by simpa using hY
      have HO := hid (show oS bs m s = cS bs m s by
        unfold oS
        rw [if_neg]
        rintro ⟨_, h9⟩
        rcases HS.out with ⟨_, h8⟩ | ⟨_, _, h8⟩
        · rw [h8] at h9; exact hY h9
        · rw [h8] at h9; exact absurd h9 (show ¬ (70 : Int) = 0 by decide))
      have HY := hid hY
      clear hY
      go_wp2
      go_ret
      rw [HO.out, HN.out]
      exact ⟨rfl, ⟨A, Y, T, nw, na, HR3.out, HK3.out, HNE.out, HNV.out, HLO.out, HS.out⟩, (G2.of_second HG2.out).trans (G2.of_below HB3.out)⟩
  · have q0 : ¬ (N : Int) = 0 := by omega
    have q1 : ((N : Int) == 0) = false := by simpa using q0
    have HO := hid (show oS bs m s = cS bs m s by
      unfold oS
      rw [if_neg (fun h9 => h0 (HN.out ▸ h9.1))])
    have H0 := hid h0
    clear h0
    go_wp2
    go_ret
    rw [HO.out, HN.out]
    exact ⟨rfl, ⟨A, Y, T, nw, na, HR.out, HBK.out, HNE.out, HNV.out, HLO.out, HS.out⟩, G2.of_second HG2.out⟩

theorem faultSize : (Tryz.prog.info? 33).map (·.size) = some 2 := by kernel_rfl

set_option maxRecDepth 100000 in
set_option maxHeartbeats 2000000 in
/-- the first fault; else the one of what is left -/
theorem fd_end (base b rb : Nat) (v : Value) (bs : List UInt8) (s : St) (w : World) (h : Fd w base b rb v bs s) :
    Calls Tryz.prog 69 #[.pointer (some ⟨b, 0, none⟩)] w fun e w' => e = .returned (.agg #[.int .i64 (eS bs s).1, .int .i64 (eS bs s).2]) ∧ G2 w w' b rb := by
  obtain ⟨A, Y, T, nw, na, hr, hb, hn, hv, hl, hs⟩ := h
  have HB0 := hid (below_walk w (.cells #[.int .i64 0, .int .i64 0] 33))
  have HN0 := hid (hp_new w (.cells #[.int .i64 0, .int .i64 0] 33))
  have HR := hid (hr.below HB0.out)
  have HBK := hid ((HB0.out.block b (hp_lt hb)).trans hb)
  have HS := hid hs
  have HNE := hid hn
  have HLB := hid (hp_lt hb)
  have HLR := hid hr.lt
  clear hr hb hn hv hl hs
  go_enter Tryz.func69, Tryz.ntmps69
  go_upto_region 1 with fail
  generalize w.alloc (.cells #[.int .i64 0, .int .i64 0] 33) = w1 at HB0 HN0 HR HBK ⊢
  have p1 : w1.cell? ⟨b, 0, none⟩ = some (.pointer (some ⟨rb, 0, none⟩)) := by simp [World.cell?, HBK.out]
  have c1 : w1.cell? ⟨b, 1, none⟩ = some (.int .i64 nw) := by simp [World.cell?, HBK.out]
  have c2 : w1.cell? ⟨b, 2, none⟩ = some (.int .i64 na) := by simp [World.cell?, HBK.out]
  have z1 : w1.cell? ⟨w.heap.size, 0, none⟩ = some (.int .i64 0) := by simp [World.cell?, HN0.out]
  have z2 : w1.cell? ⟨w.heap.size, 1, none⟩ = some (.int .i64 0) := by simp [World.cell?, HN0.out]
  have f1 := row_fz HN0.out 0
  have f2 := row_fz HN0.out 1
  by_cases h0 : nw = 0
  · have HS0 := hid (show s = (A, Y, T) by
      rcases HS.out with ⟨_, h⟩ | ⟨h, _⟩
      · exact h
      · rw [h0] at h; cases h)
    subst h0
    by_cases hmore : Y = 0 ∧ A < bs.length
    · obtain ⟨rfl, hlt⟩ := hmore
      have HE := hid (rend_more (h := HR.out) (hlt := hlt))
      have HES := hid (show eS bs s = (6, (A : Int)) by rw [HS0.out]; unfold eS; rw [if_neg (by simp), if_pos hlt])
      clear hlt
      go_wp2_with fail
      refine HE.out.mono ?_
      rintro e w2 ⟨rfl, hr2, hg2⟩
      have HN2 := hid ((hg2.block _ (hp_lt HN0.out) (fun e => by injection e with e; have := HLR.out; omega)).trans HN0.out)
      have HG := hid ((G2.of_below (b := b) HB0.out).trans (G2.of_second (b := b) hg2))
      have z3 : w2.cell? ⟨w.heap.size, 0, none⟩ = some (.int .i64 0) := by simp [World.cell?, HN2.out]
      have z4 : w2.cell? ⟨w.heap.size, 1, none⟩ = some (.int .i64 0) := by simp [World.cell?, HN2.out]
      have g1 := row_fz HN2.out 0
      have g2 := row_fz HN2.out 1
      clear hr2 hg2 p1 c1 c2 z1 z2 f1 f2 HE
      go_wp2
      refine ret_row 2 33 rfl w.heap.size rfl [_, _] 33 (blk_set (blk_set HN2.out _) _) _ Tryz.underlying33 rfl faultSize rfl ?_
      rw [HES.out]
      exact ⟨rfl, HG.out.then_new (gb_trans (gb_set _ _ _) (gb_set _ _ _)) (Nat.le_refl _)⟩
    · have hid0 : Y ≠ 0 ∨ A = bs.length := by
        by_cases h9 : Y = 0
        · exact Or.inr (by have := HR.out.le; have : ¬ A < bs.length := fun h => hmore ⟨h9, h⟩; omega)
        · exact Or.inl h9
      have HE := hid (rend_idle (h := HR.out) (hidle := hid0))
      have HES := hid (show eS bs s = (Y, T) by
        rw [HS0.out]
        unfold eS
        by_cases h9 : Y = 0
        · rw [if_neg (by simpa using h9), if_neg (fun h => hmore ⟨h9, h⟩)]
        · rw [if_pos h9])
      clear hid0 hmore
      go_wp2_with fail
      refine HE.out.mono ?_
      rintro e w2 ⟨rfl, hr2, hg2⟩
      have HN2 := hid ((hg2.block _ (hp_lt HN0.out) (fun e => by injection e with e; have := HLR.out; omega)).trans HN0.out)
      have HG := hid ((G2.of_below (b := b) HB0.out).trans (G2.of_second (b := b) hg2))
      have z3 : w2.cell? ⟨w.heap.size, 0, none⟩ = some (.int .i64 0) := by simp [World.cell?, HN2.out]
      have z4 : w2.cell? ⟨w.heap.size, 1, none⟩ = some (.int .i64 0) := by simp [World.cell?, HN2.out]
      have g1 := row_fz HN2.out 0
      have g2 := row_fz HN2.out 1
      clear hr2 hg2 p1 c1 c2 z1 z2 f1 f2 HE
      go_wp2
      refine ret_row 2 33 rfl w.heap.size rfl [_, _] 33 (blk_set (blk_set HN2.out _) _) _ Tryz.underlying33 rfl faultSize rfl ?_
      rw [HES.out]
      exact ⟨rfl, HG.out.then_new (gb_trans (gb_set _ _ _) (gb_set _ _ _)) (Nat.le_refl _)⟩
  · have q1 : (nw != 0) = true := by simpa using h0
    have q2 : (nw == 0) = false := by simpa using h0
    have HES := hid (show eS bs s = (nw, na) by
      rcases HS.out with ⟨h, _⟩ | ⟨h, _, h2⟩
      · exact absurd h h0
      · unfold eS
        rw [if_pos (by rw [h2]; show (70 : Int) ≠ 0; decide), h2, h])
    clear h0
    go_wp2
    refine ret_row 2 33 rfl w.heap.size rfl [_, _] 33 (blk_set (blk_set HN0.out _) _) _ Tryz.underlying33 rfl faultSize rfl ?_
    rw [HES.out]
    exact ⟨rfl, (G2.of_below HB0.out).then_new (gb_trans (gb_set _ _ _) (gb_set _ _ _)) (Nat.le_refl _)⟩
end Go.Proofs.YtiibhccbbpgehaaGreat

/- The fields of each kind as they stand in bytes, read by the program. -/
namespace Go.Proofs.YtiibhccbbpgehaaGreat
open Go.RowKit Go.BigFrame

theorem fset_id (f : Fr) (va : Value) (h : f.tool.length = 32) (x : Int) : (fcells f va).toArray.setIfInBounds 1 (.int .u64 x) = (fcells { f with id := x } va).toArray := by
  obtain ⟨t0, t1, t2, t3, t4, t5, t6, t7, t8, t9, t10, t11, t12, t13, t14, t15, t16, t17, t18, t19, t20, t21, t22, t23, t24, t25, t26, t27, t28, t29, t30, t31, hT⟩ := list32 h
  unfold fcells
  rw [hT]
  rfl
theorem fset_ver (f : Fr) (va : Value) (h : f.tool.length = 32) (x : Int) : (fcells f va).toArray.setIfInBounds 2 (.int .i64 x) = (fcells { f with ver := x } va).toArray := by
  obtain ⟨t0, t1, t2, t3, t4, t5, t6, t7, t8, t9, t10, t11, t12, t13, t14, t15, t16, t17, t18, t19, t20, t21, t22, t23, t24, t25, t26, t27, t28, t29, t30, t31, hT⟩ := list32 h
  unfold fcells
  rw [hT]
  rfl
theorem fset_slots (f : Fr) (va : Value) (h : f.tool.length = 32) (x : Int) : (fcells f va).toArray.setIfInBounds 3 (.int .i64 x) = (fcells { f with slots := x } va).toArray := by
  obtain ⟨t0, t1, t2, t3, t4, t5, t6, t7, t8, t9, t10, t11, t12, t13, t14, t15, t16, t17, t18, t19, t20, t21, t22, t23, t24, t25, t26, t27, t28, t29, t30, t31, hT⟩ := list32 h
  unfold fcells
  rw [hT]
  rfl
theorem fset_status (f : Fr) (va : Value) (h : f.tool.length = 32) (x : Int) : (fcells f va).toArray.setIfInBounds 36 (.int .i64 x) = (fcells { f with status := x } va).toArray := by
  obtain ⟨t0, t1, t2, t3, t4, t5, t6, t7, t8, t9, t10, t11, t12, t13, t14, t15, t16, t17, t18, t19, t20, t21, t22, t23, t24, t25, t26, t27, t28, t29, t30, t31, hT⟩ := list32 h
  unfold fcells
  rw [hT]
  rfl
theorem fset_l1 (f : Fr) (va : Value) (h : f.tool.length = 32) (x : Int) : (fcells f va).toArray.setIfInBounds 37 (.int .i64 x) = (fcells { f with lim := (x, f.lim.2.1, f.lim.2.2) } va).toArray := by
  obtain ⟨t0, t1, t2, t3, t4, t5, t6, t7, t8, t9, t10, t11, t12, t13, t14, t15, t16, t17, t18, t19, t20, t21, t22, t23, t24, t25, t26, t27, t28, t29, t30, t31, hT⟩ := list32 h
  unfold fcells
  rw [hT]
  rfl
theorem fset_l2 (f : Fr) (va : Value) (h : f.tool.length = 32) (x : Int) : (fcells f va).toArray.setIfInBounds 38 (.int .i64 x) = (fcells { f with lim := (f.lim.1, x, f.lim.2.2) } va).toArray := by
  obtain ⟨t0, t1, t2, t3, t4, t5, t6, t7, t8, t9, t10, t11, t12, t13, t14, t15, t16, t17, t18, t19, t20, t21, t22, t23, t24, t25, t26, t27, t28, t29, t30, t31, hT⟩ := list32 h
  unfold fcells
  rw [hT]
  rfl
theorem fset_l3 (f : Fr) (va : Value) (h : f.tool.length = 32) (x : Int) : (fcells f va).toArray.setIfInBounds 39 (.int .i64 x) = (fcells { f with lim := (f.lim.1, f.lim.2.1, x) } va).toArray := by
  obtain ⟨t0, t1, t2, t3, t4, t5, t6, t7, t8, t9, t10, t11, t12, t13, t14, t15, t16, t17, t18, t19, t20, t21, t22, t23, t24, t25, t26, t27, t28, t29, t30, t31, hT⟩ := list32 h
  unfold fcells
  rw [hT]
  rfl
theorem fset_body (f : Fr) (va : Value) (h : f.tool.length = 32) (x : List UInt8) : (fcells f va).toArray.setIfInBounds 41 (.string (mk x)) = (fcells { f with body := x } va).toArray := by
  obtain ⟨t0, t1, t2, t3, t4, t5, t6, t7, t8, t9, t10, t11, t12, t13, t14, t15, t16, t17, t18, t19, t20, t21, t22, t23, t24, t25, t26, t27, t28, t29, t30, t31, hT⟩ := list32 h
  unfold fcells
  rw [hT]
  rfl
theorem fset_args (f : Fr) (va : Value) (h : f.tool.length = 32) {A : List (List UInt8)} (x : Value) : (fcells f va).toArray.setIfInBounds 40 x = (fcells { f with args := A } x).toArray := by
  obtain ⟨t0, t1, t2, t3, t4, t5, t6, t7, t8, t9, t10, t11, t12, t13, t14, t15, t16, t17, t18, t19, t20, t21, t22, t23, t24, t25, t26, t27, t28, t29, t30, t31, hT⟩ := list32 h
  unfold fcells
  rw [hT]
  rfl
theorem wowns_shape {w : World} {base : Nat} {v : Value} {ts : List (List UInt8)} (h : WOwnS w base v ts) : ∃ a c, v = .slice a ts.length c := by
  rcases h.2 with ⟨h0, h1⟩ | ⟨g, cap, cur, hv, _⟩
  · exact ⟨none, 0, by rw [h0, h1]⟩
  · exact ⟨_, _, hv⟩
theorem WOwnS.le {w : World} {base base' : Nat} {v : Value} {ts : List (List UInt8)} (h : WOwnS w base v ts) (hb : base' ≤ base) : WOwnS w base' v ts :=
  ⟨h.1, h.2.elim Or.inl (fun ⟨g, cap, cur, hv, hg, r⟩ => Or.inr ⟨g, cap, cur, hv, Nat.le_trans hb hg, r⟩)⟩
theorem wowns_set {w : World} {n : Nat} {v : Value} {ts : List (List UInt8)} (h : WOwnS w (n + 2) v ts) (i : Nat) (u : Value) : WOwnS (w.setCell ⟨n, i, none⟩ u) (n + 2) v ts :=
  WOwnS.far h (gb_set w ⟨n, i, none⟩ u) (fun j e => by have e2 : n = j := Option.some.inj e; omega)
theorem wowns_far1 {w w' w0 : World} {n : Nat} {v : Value} {ts : List (List UInt8)} (h : WOwnS w (n + 2) v ts) (hg : w.grownBy w' (some (n + 1))) (h0 : w0.heap.size = n) : WOwnS w' w0.heap.size v ts :=
  (WOwnS.far h hg (fun j e => by have e2 : n + 1 = j := Option.some.inj e; omega)).le (by omega)
theorem rS_len (bs : List UInt8) (s : St) : (rS bs 32 s).1.length = 0 ∨ (rS bs 32 s).1.length = 32 := by
  unfold rS rawF
  repeat' split
  all_goals first | exact Or.inl rfl | skip
  rename_i h1 h2 h3
  refine Or.inr ?_
  rw [List.length_take, List.length_drop]
  have : (32 : Int).toNat = 32 := rfl
  omega
theorem fsplice (f : Fr) (va : Value) (h : f.tool.length = 32) (l : List UInt8) (hl : l.length = 0 ∨ l.length = 32) : splice (fcells f va) 4 (bytesV l) = fcells { f with tool := if l.length = 32 then l else f.tool } va := by
  rcases hl with h0 | h0
  · obtain rfl : l = [] := List.length_eq_zero_iff.1 h0
    rw [if_neg (by simp)]
    simp [splice, bytesV]
  · rw [if_pos h0]
    unfold splice fcells
    have e1 : (bytesV f.tool).length = 32 := by rw [bytesV_length]; exact h
    have e2 : (bytesV l).length = 32 := by rw [bytesV_length]; exact h0
    rw [List.take_left' (by rfl), e2, show 4 + 32 = 4 + 32 from rfl, ← List.drop_drop, List.drop_left' (by rfl), List.drop_left' e1]
theorem src_addr {w : World} {a : Option Addr} {n c : Nat} {bs : List UInt8} (h : Src w (.slice a n c) bs) (h0 : 0 < bs.length) : ∃ ad, a = some ad ∧ ∀ j v, (bytesV bs)[j]? = some v → w.cell? (ad.add j) = some v := by
  obtain ⟨_, ⟨_, rfl⟩ | ⟨ad, cap, e, _, _, _, hc⟩⟩ := h
  · simp at h0
  · simp only [Value.slice.injEq] at e
    exact ⟨ad, e.1, src_cells hc⟩
theorem step_copy_g {P : Program} {ops : Array Oper} {o : Oper} {a : Act} {w : World} {K : Act → World → Prop} {Q : Exit → Act → World → Prop} {E : Prop} (hgd : o.guard = none) (d s : Operand) (dT sT : TypeId)
    (ho : o.op = .call { callee := .builtin .copy, args := #[d, s], argTypes := #[dT, sT] }) (elem : TypeId) (hu : P.underlying dT = some (.slice elem)) (hsz : (P.info? elem).map (·.size) = some 1)
    (dp sp : Option Addr) (dLen dCap sLen sCap : Nat) (hd : a.eval d = .slice dp dLen dCap) (hs : a.eval s = .slice sp sLen sCap)
    (g off : Nat) (cur : List Value) (t : TypeId) (hg : w.heap[g]? = some (.cells cur.toArray t (0, 0))) (cs : List Value) (hn : cs.length = Nat.min sLen dLen)
    (hpos : 0 < cs.length → dp = some ⟨g, off, none⟩ ∧ ∃ ad, sp = some ad ∧ ∀ j v, cs[j]? = some v → w.cell? (ad.add j) = some v)
    (hfit : off + cs.length ≤ cur.length) (h1 : ∀ v ∈ cs, v.oneCell' = true)
    (h : ∀ w', w'.heap[g]? = some (.cells (splice cur off cs).toArray t (0, 0)) → w.grownBy w' (some g) → K (a.put o.dst (goInt cs.length)) w') :
    if Region.wanted o (yielded ops a.tmps) = true then Oper.wp P o a w K Q else E := by
  have hw : Region.wanted o (yielded ops a.tmps) = true := by simp [Region.wanted, hgd]
  rw [if_pos hw]
  by_cases h0 : cs.length = 0
  · obtain rfl : cs = [] := List.eq_nil_of_length_eq_zero h0
    have hrun := run_copy_none (P := P) w dT sT o.type elem dp sp dLen dCap sLen sCap hu hsz (by simpa using hn.symm)
    unfold Oper.wp
    simp [execOp, ho, resolve, invoke, builtin, hd, hs, hrun, Result.andThen]
    exact h w (by simpa [splice] using hg) (gb_refl _ _)
  · obtain ⟨rfl, ad, rfl, hsrc⟩ := hpos (by omega)
    have hrun := run_copy_row (P := P) w dT sT o.type elem g off dLen dCap ad sLen sCap cur.toArray t cs hu hsz hg hn hsrc (by simpa using hfit) h1
    unfold Oper.wp
    simp [execOp, ho, resolve, invoke, builtin, hd, hs, hrun, Result.andThen]
    refine h _ (by simpa [splice] using setRow_heap w g _ _ t _ hg) ⟨rfl, rfl, rfl, by simp [World.setRow], fun k hk hne => setRow_other w g k _ (fun e => hne (by rw [e]))⟩
theorem fieldsP_1 (bs : List UInt8) (s : St) : fieldsP bs 1 s = (⟨1, 0, ((oS bs 1 s).1 : Int), ((oS bs 64 (oS bs 1 s).2).1 : Int), pad32 (rS bs 32 (oS bs 64 (oS bs 1 s).2).2).1, 0, (0, 0, 0), [], []⟩, (rS bs 32 (oS bs 64 (oS bs 1 s).2).2).2) := rfl
theorem fieldsP_2 (bs : List UInt8) (s : St) : fieldsP bs 2 s = (reqF ((uS bs s).1 : Int) (((cS bs 2147483648 (uS bs s).2).1 : Int), ((cS bs 2147483648 (cS bs 2147483648 (uS bs s).2).2).1 : Int), ((cS bs 2147483648 (cS bs 2147483648 (cS bs 2147483648 (uS bs s).2).2).2).1 : Int))
      (lS bs 8 4096 (cS bs 2147483648 (cS bs 2147483648 (cS bs 2147483648 (uS bs s).2).2).2).2).1 (tS bs 2097152 (lS bs 8 4096 (cS bs 2147483648 (cS bs 2147483648 (cS bs 2147483648 (uS bs s).2).2).2).2).2).1,
     (tS bs 2097152 (lS bs 8 4096 (cS bs 2147483648 (cS bs 2147483648 (cS bs 2147483648 (uS bs s).2).2).2).2).2).2) := rfl
theorem fieldsP_3 (bs : List UInt8) (s : St) : fieldsP bs 3 s = (resF ((uS bs s).1 : Int) ((oS bs 3 (uS bs s).2).1 : Int) (tS bs 2097152 (oS bs 3 (uS bs s).2).2).1, (tS bs 2097152 (oS bs 3 (uS bs s).2).2).2) := rfl
theorem fieldsP_4 (bs : List UInt8) (s : St) : fieldsP bs 4 s = (canF ((uS bs s).1 : Int), (uS bs s).2) := rfl
theorem fieldsP_5 (bs : List UInt8) (s : St) : fieldsP bs 5 s = (byeF, s) := rfl
theorem fieldsP_6 (bs : List UInt8) (s : St) : fieldsP bs 6 s = (noteF (tS bs 2097152 s).1, (tS bs 2097152 s).2) := rfl

set_option maxRecDepth 100000 in
set_option maxHeartbeats 4000000 in
theorem readRequest_any (base b rb : Nat) (v : Value) (bs : List UInt8) (s : St) (w : World) (hbl : bs.length ≤ 1099511627776) (h : Fd w base b rb v bs s) :
    Calls Tryz.prog 126 #[.pointer (some ⟨b, 0, none⟩), .agg (fcells (kF 2) nS).toArray] w fun e w' => ∃ va, e = .returned (.agg (fcells (fieldsP bs 2 s).1 va).toArray) ∧ WOwnS w' w.heap.size va (fieldsP bs 2 s).1.args ∧ Fd w' base b rb v bs (fieldsP bs 2 s).2 ∧ G2 w w' b rb := by
  obtain ⟨n, HN⟩ : ∃ n, Hid (w.heap.size = n) := ⟨_, rfl⟩
  have HNB := hid (hp_two w (.cells (fcells (kF 2) nS).toArray 30) (.cells (fcells zF nS).toArray 30))
  have HBL := hid (below_walk2 w (.cells (fcells (kF 2) nS).toArray 30) (.cells (fcells zF nS).toArray 30))
  have HZ : Hid ((w.alloc (.cells (fcells (kF 2) nS).toArray 30)).heap.size = w.heap.size + 1) := hid (by simp)
  have HFD := hid (h.below HBL.out)
  have HB1 : Hid (b < n) := hid (HN.out ▸ h.lt.1)
  have HB2 : Hid (rb < n) := hid (HN.out ▸ h.lt.2.1)
  have HOW : Hid (∀ k, v.ownBlock = some k → k < n) := hid (HN.out ▸ h.own)
  have HG := hid (G2.of_below (b := b) (c := rb) HBL.out)
  have HLEN := hid hbl
  clear h
  go_enter Tryz.func126, Tryz.ntmps126
  go_upto_region 1 with (refine al_row (by rfl) 30 (by rfl) _ zeroFrame ?_)
  try rw [HZ.out]
  generalize (w.alloc (.cells (fcells (kF 2) nS).toArray 30)).alloc (.cells (fcells zF nS).toArray 30) = w0 at HNB HBL HFD HG ⊢
  rw [HN.out] at HNB ⊢
  have HA0 := hid (show w0.heap[n]? = some (.cells (fcells (⟨2, 0, 0, 0, z32f, 0, (0, 0, 0), [], []⟩ : Fr) nS).toArray 30 (0, 0)) from HNB.out.1)
  have HM0 := hid (show w0.heap[n + 1]? = some (.cells (fcells zF nS).toArray 30 (0, 0)) from HNB.out.2)
  clear HNB HBL HZ
  have p0 := HFD.out.ptr
  go_wp2_with fail
  refine (fd_uint HFD.out).mono ?_
  rintro e y0 ⟨rfl, hf0, hg0⟩
  have HA := hid ((hg0.block n (hp_lt HA0.out) (fun e => by injection e with e; have := HB2.out; omega)).trans HA0.out)
  have HM := hid ((hg0.block (n + 1) (hp_lt HM0.out) (fun e => by injection e with e; have := HB2.out; omega)).trans HM0.out)
  have HGn := hid (HG.out.trans (G2.of_second hg0))
  have HFn := hid hf0
  clear HFD HA0 HM0 HG hf0 hg0 p0
  have x0 := (Fb.of HA.out rfl).i
  have z0 := row_fz HA.out 1
  go_upto_region 2 with fail
  have HA0 := hid (show (y0.setCell ⟨n, 1, none⟩ (.int .u64 ((uS bs s).1 : Nat))).heap[n]? = some (.cells (fcells (⟨2, (((uS bs s).1 : Nat) : Int), 0, 0, z32f, 0, (0, 0, 0), [], []⟩ : Fr) nS).toArray 30 (0, 0)) from (blk_set HA.out _).trans (congrArg (fun a => some (Obj.cells a 30 (0, 0))) (fset_id (⟨2, 0, 0, 0, z32f, 0, (0, 0, 0), [], []⟩ : Fr) nS rfl _)))
  have HM0 := hid (show (y0.setCell ⟨n, 1, none⟩ (.int .u64 ((uS bs s).1 : Nat))).heap[n + 1]? = some (.cells (fcells zF nS).toArray 30 (0, 0)) from (Below.heap_setCell y0 _ _ (n + 1) (by simp)).trans HM.out)
  have HG := hid (HGn.out.then_new (gb_set y0 ⟨n, 1, none⟩ (.int .u64 ((uS bs s).1 : Nat))) (by rw [HN.out]; exact Nat.le_refl _))
  have HFD := hid (HFn.out.far (gb_set y0 ⟨n, 1, none⟩ (.int .u64 ((uS bs s).1 : Nat))) HB1.out HB2.out HOW.out)
  generalize y0.setCell ⟨n, 1, none⟩ (.int .u64 ((uS bs s).1 : Nat)) = w1 at HA0 HM0 HG HFD ⊢
  clear HA HM HGn HFn x0 z0
  have p1 := HFD.out.ptr
  go_wp2_with fail
  refine (fd_count 2147483648 (by omega) HFD.out).mono ?_
  rintro e y1 ⟨rfl, hf1, hg1⟩
  have HA := hid ((hg1.block n (hp_lt HA0.out) (fun e => by injection e with e; have := HB2.out; omega)).trans HA0.out)
  have HM := hid ((hg1.block (n + 1) (hp_lt HM0.out) (fun e => by injection e with e; have := HB2.out; omega)).trans HM0.out)
  have HGn := hid (HG.out.trans (G2.of_second hg1))
  have HFn := hid hf1
  clear HFD HA0 HM0 HG hf1 hg1 p1
  have x1 := (Fb.of HA.out rfl).l1
  have z1 := row_fz HA.out 37
  go_upto_region 3 with fail
  have HA0 := hid (show (y1.setCell ⟨n, 37, none⟩ (.int .i64 ((cS bs 2147483648 (uS bs s).2).1 : Nat))).heap[n]? = some (.cells (fcells (⟨2, (((uS bs s).1 : Nat) : Int), 0, 0, z32f, 0, ((((cS bs 2147483648 (uS bs s).2).1 : Nat) : Int), 0, 0), [], []⟩ : Fr) nS).toArray 30 (0, 0)) from (blk_set HA.out _).trans (congrArg (fun a => some (Obj.cells a 30 (0, 0))) (fset_l1 (⟨2, (((uS bs s).1 : Nat) : Int), 0, 0, z32f, 0, (0, 0, 0), [], []⟩ : Fr) nS rfl _)))
  have HM0 := hid (show (y1.setCell ⟨n, 37, none⟩ (.int .i64 ((cS bs 2147483648 (uS bs s).2).1 : Nat))).heap[n + 1]? = some (.cells (fcells zF nS).toArray 30 (0, 0)) from (Below.heap_setCell y1 _ _ (n + 1) (by simp)).trans HM.out)
  have HG := hid (HGn.out.then_new (gb_set y1 ⟨n, 37, none⟩ (.int .i64 ((cS bs 2147483648 (uS bs s).2).1 : Nat))) (by rw [HN.out]; exact Nat.le_refl _))
  have HFD := hid (HFn.out.far (gb_set y1 ⟨n, 37, none⟩ (.int .i64 ((cS bs 2147483648 (uS bs s).2).1 : Nat))) HB1.out HB2.out HOW.out)
  generalize y1.setCell ⟨n, 37, none⟩ (.int .i64 ((cS bs 2147483648 (uS bs s).2).1 : Nat)) = w2 at HA0 HM0 HG HFD ⊢
  clear HA HM HGn HFn x1 z1
  have p2 := HFD.out.ptr
  go_wp2_with fail
  refine (fd_count 2147483648 (by omega) HFD.out).mono ?_
  rintro e y2 ⟨rfl, hf2, hg2⟩
  have HA := hid ((hg2.block n (hp_lt HA0.out) (fun e => by injection e with e; have := HB2.out; omega)).trans HA0.out)
  have HM := hid ((hg2.block (n + 1) (hp_lt HM0.out) (fun e => by injection e with e; have := HB2.out; omega)).trans HM0.out)
  have HGn := hid (HG.out.trans (G2.of_second hg2))
  have HFn := hid hf2
  clear HFD HA0 HM0 HG hf2 hg2 p2
  have x2 := (Fb.of HA.out rfl).l2
  have z2 := row_fz HA.out 38
  go_upto_region 4 with fail
  have HA0 := hid (show (y2.setCell ⟨n, 38, none⟩ (.int .i64 ((cS bs 2147483648 (cS bs 2147483648 (uS bs s).2).2).1 : Nat))).heap[n]? = some (.cells (fcells (⟨2, (((uS bs s).1 : Nat) : Int), 0, 0, z32f, 0, ((((cS bs 2147483648 (uS bs s).2).1 : Nat) : Int), (((cS bs 2147483648 (cS bs 2147483648 (uS bs s).2).2).1 : Nat) : Int), 0), [], []⟩ : Fr) nS).toArray 30 (0, 0)) from (blk_set HA.out _).trans (congrArg (fun a => some (Obj.cells a 30 (0, 0))) (fset_l2 (⟨2, (((uS bs s).1 : Nat) : Int), 0, 0, z32f, 0, ((((cS bs 2147483648 (uS bs s).2).1 : Nat) : Int), 0, 0), [], []⟩ : Fr) nS rfl _)))
  have HM0 := hid (show (y2.setCell ⟨n, 38, none⟩ (.int .i64 ((cS bs 2147483648 (cS bs 2147483648 (uS bs s).2).2).1 : Nat))).heap[n + 1]? = some (.cells (fcells zF nS).toArray 30 (0, 0)) from (Below.heap_setCell y2 _ _ (n + 1) (by simp)).trans HM.out)
  have HG := hid (HGn.out.then_new (gb_set y2 ⟨n, 38, none⟩ (.int .i64 ((cS bs 2147483648 (cS bs 2147483648 (uS bs s).2).2).1 : Nat))) (by rw [HN.out]; exact Nat.le_refl _))
  have HFD := hid (HFn.out.far (gb_set y2 ⟨n, 38, none⟩ (.int .i64 ((cS bs 2147483648 (cS bs 2147483648 (uS bs s).2).2).1 : Nat))) HB1.out HB2.out HOW.out)
  generalize y2.setCell ⟨n, 38, none⟩ (.int .i64 ((cS bs 2147483648 (cS bs 2147483648 (uS bs s).2).2).1 : Nat)) = w3 at HA0 HM0 HG HFD ⊢
  clear HA HM HGn HFn x2 z2
  have p3 := HFD.out.ptr
  go_wp2_with fail
  refine (fd_count 2147483648 (by omega) HFD.out).mono ?_
  rintro e y3 ⟨rfl, hf3, hg3⟩
  have HA := hid ((hg3.block n (hp_lt HA0.out) (fun e => by injection e with e; have := HB2.out; omega)).trans HA0.out)
  have HM := hid ((hg3.block (n + 1) (hp_lt HM0.out) (fun e => by injection e with e; have := HB2.out; omega)).trans HM0.out)
  have HGn := hid (HG.out.trans (G2.of_second hg3))
  have HFn := hid hf3
  clear HFD HA0 HM0 HG hf3 hg3 p3
  have x3 := (Fb.of HA.out rfl).l3
  have z3 := row_fz HA.out 39
  go_upto_region 5 with fail
  have HA0 := hid (show (y3.setCell ⟨n, 39, none⟩ (.int .i64 ((cS bs 2147483648 (cS bs 2147483648 (cS bs 2147483648 (uS bs s).2).2).2).1 : Nat))).heap[n]? = some (.cells (fcells (⟨2, (((uS bs s).1 : Nat) : Int), 0, 0, z32f, 0, ((((cS bs 2147483648 (uS bs s).2).1 : Nat) : Int), (((cS bs 2147483648 (cS bs 2147483648 (uS bs s).2).2).1 : Nat) : Int), (((cS bs 2147483648 (cS bs 2147483648 (cS bs 2147483648 (uS bs s).2).2).2).1 : Nat) : Int)), [], []⟩ : Fr) nS).toArray 30 (0, 0)) from (blk_set HA.out _).trans (congrArg (fun a => some (Obj.cells a 30 (0, 0))) (fset_l3 (⟨2, (((uS bs s).1 : Nat) : Int), 0, 0, z32f, 0, ((((cS bs 2147483648 (uS bs s).2).1 : Nat) : Int), (((cS bs 2147483648 (cS bs 2147483648 (uS bs s).2).2).1 : Nat) : Int), 0), [], []⟩ : Fr) nS rfl _)))
  have HM0 := hid (show (y3.setCell ⟨n, 39, none⟩ (.int .i64 ((cS bs 2147483648 (cS bs 2147483648 (cS bs 2147483648 (uS bs s).2).2).2).1 : Nat))).heap[n + 1]? = some (.cells (fcells zF nS).toArray 30 (0, 0)) from (Below.heap_setCell y3 _ _ (n + 1) (by simp)).trans HM.out)
  have HG := hid (HGn.out.then_new (gb_set y3 ⟨n, 39, none⟩ (.int .i64 ((cS bs 2147483648 (cS bs 2147483648 (cS bs 2147483648 (uS bs s).2).2).2).1 : Nat))) (by rw [HN.out]; exact Nat.le_refl _))
  have HFD := hid (HFn.out.far (gb_set y3 ⟨n, 39, none⟩ (.int .i64 ((cS bs 2147483648 (cS bs 2147483648 (cS bs 2147483648 (uS bs s).2).2).2).1 : Nat))) HB1.out HB2.out HOW.out)
  generalize y3.setCell ⟨n, 39, none⟩ (.int .i64 ((cS bs 2147483648 (cS bs 2147483648 (cS bs 2147483648 (uS bs s).2).2).2).1 : Nat)) = w4 at HA0 HM0 HG HFD ⊢
  clear HA HM HGn HFn x3 z3
  have p4 := HFD.out.ptr
  go_wp2_with fail
  refine (fd_list 8 4096 (by omega) (by omega) (by omega) HFD.out).mono ?_
  rintro e y4 ⟨vl, rfl, hol, hf4, hg4⟩
  obtain ⟨al, cl, el⟩ := wowns_shape hol
  subst el
  have HOL := hid (hol.le (show n + 2 ≤ w4.heap.size by have := hp_lt HM0.out; omega))
  have HA := hid ((hg4.block n (hp_lt HA0.out) (fun e => by injection e with e; have := HB2.out; omega)).trans HA0.out)
  have HM := hid ((hg4.block (n + 1) (hp_lt HM0.out) (fun e => by injection e with e; have := HB2.out; omega)).trans HM0.out)
  have HGn := hid (HG.out.trans (G2.of_second hg4))
  have HFn := hid hf4
  clear HFD HA0 HM0 HG hf4 hg4 p4 hol
  have x4 := (Fb.of HA.out rfl).a
  have z4 := row_fz HA.out 40
  go_upto_region 6 with fail
  have HA0 := hid (show (y4.setCell ⟨n, 40, none⟩ (.slice al (lS bs 8 4096 (cS bs 2147483648 (cS bs 2147483648 (cS bs 2147483648 (uS bs s).2).2).2).2).1.length cl)).heap[n]? = some (.cells (fcells (⟨2, (((uS bs s).1 : Nat) : Int), 0, 0, z32f, 0, ((((cS bs 2147483648 (uS bs s).2).1 : Nat) : Int), (((cS bs 2147483648 (cS bs 2147483648 (uS bs s).2).2).1 : Nat) : Int), (((cS bs 2147483648 (cS bs 2147483648 (cS bs 2147483648 (uS bs s).2).2).2).1 : Nat) : Int)), (lS bs 8 4096 (cS bs 2147483648 (cS bs 2147483648 (cS bs 2147483648 (uS bs s).2).2).2).2).1, []⟩ : Fr) (.slice al (lS bs 8 4096 (cS bs 2147483648 (cS bs 2147483648 (cS bs 2147483648 (uS bs s).2).2).2).2).1.length cl)).toArray 30 (0, 0)) from (blk_set HA.out _).trans (congrArg (fun a => some (Obj.cells a 30 (0, 0))) (fset_args (⟨2, (((uS bs s).1 : Nat) : Int), 0, 0, z32f, 0, ((((cS bs 2147483648 (uS bs s).2).1 : Nat) : Int), (((cS bs 2147483648 (cS bs 2147483648 (uS bs s).2).2).1 : Nat) : Int), (((cS bs 2147483648 (cS bs 2147483648 (cS bs 2147483648 (uS bs s).2).2).2).1 : Nat) : Int)), [], []⟩ : Fr) nS rfl _)))
  have HM0 := hid (show (y4.setCell ⟨n, 40, none⟩ (.slice al (lS bs 8 4096 (cS bs 2147483648 (cS bs 2147483648 (cS bs 2147483648 (uS bs s).2).2).2).2).1.length cl)).heap[n + 1]? = some (.cells (fcells zF nS).toArray 30 (0, 0)) from (Below.heap_setCell y4 _ _ (n + 1) (by simp)).trans HM.out)
  have HG := hid (HGn.out.then_new (gb_set y4 ⟨n, 40, none⟩ (.slice al (lS bs 8 4096 (cS bs 2147483648 (cS bs 2147483648 (cS bs 2147483648 (uS bs s).2).2).2).2).1.length cl)) (by rw [HN.out]; exact Nat.le_refl _))
  have HFD := hid (HFn.out.far (gb_set y4 ⟨n, 40, none⟩ (.slice al (lS bs 8 4096 (cS bs 2147483648 (cS bs 2147483648 (cS bs 2147483648 (uS bs s).2).2).2).2).1.length cl)) HB1.out HB2.out HOW.out)
  have HOLn := hid (wowns_set HOL.out 40 (.slice al (lS bs 8 4096 (cS bs 2147483648 (cS bs 2147483648 (cS bs 2147483648 (uS bs s).2).2).2).2).1.length cl))
  generalize y4.setCell ⟨n, 40, none⟩ (.slice al (lS bs 8 4096 (cS bs 2147483648 (cS bs 2147483648 (cS bs 2147483648 (uS bs s).2).2).2).2).1.length cl) = w5 at HA0 HM0 HG HFD HOLn ⊢
  clear HA HM HGn HFn x4 z4
  clear HOL
  have HOL := hid HOLn.out
  clear HOLn
  have p5 := HFD.out.ptr
  go_wp2_with fail
  refine (fd_text 2097152 (by omega) (by omega) HFD.out).mono ?_
  rintro e y5 ⟨rfl, hf5, hg5⟩
  have HA := hid ((hg5.block n (hp_lt HA0.out) (fun e => by injection e with e; have := HB2.out; omega)).trans HA0.out)
  have HM := hid ((hg5.block (n + 1) (hp_lt HM0.out) (fun e => by injection e with e; have := HB2.out; omega)).trans HM0.out)
  have HGn := hid (HG.out.trans (G2.of_second hg5))
  have HOLn := hid (WOwnS.far HOL.out hg5 (fun j e => by injection e with e; have := HB2.out; omega))
  clear HOL
  have HOL := hid HOLn.out
  clear HOLn
  have HFn := hid hf5
  clear HFD HA0 HM0 HG hf5 hg5 p5
  have x5 := (Fb.of HA.out rfl).bd
  have z5 := row_fz HA.out 41
  go_upto_region 7 with fail
  have HA0 := hid (show (y5.setCell ⟨n, 41, none⟩ (.string (mk (tS bs 2097152 (lS bs 8 4096 (cS bs 2147483648 (cS bs 2147483648 (cS bs 2147483648 (uS bs s).2).2).2).2).2).1))).heap[n]? = some (.cells (fcells (⟨2, (((uS bs s).1 : Nat) : Int), 0, 0, z32f, 0, ((((cS bs 2147483648 (uS bs s).2).1 : Nat) : Int), (((cS bs 2147483648 (cS bs 2147483648 (uS bs s).2).2).1 : Nat) : Int), (((cS bs 2147483648 (cS bs 2147483648 (cS bs 2147483648 (uS bs s).2).2).2).1 : Nat) : Int)), (lS bs 8 4096 (cS bs 2147483648 (cS bs 2147483648 (cS bs 2147483648 (uS bs s).2).2).2).2).1, (tS bs 2097152 (lS bs 8 4096 (cS bs 2147483648 (cS bs 2147483648 (cS bs 2147483648 (uS bs s).2).2).2).2).2).1⟩ : Fr) (.slice al (lS bs 8 4096 (cS bs 2147483648 (cS bs 2147483648 (cS bs 2147483648 (uS bs s).2).2).2).2).1.length cl)).toArray 30 (0, 0)) from (blk_set HA.out _).trans (congrArg (fun a => some (Obj.cells a 30 (0, 0))) (fset_body (⟨2, (((uS bs s).1 : Nat) : Int), 0, 0, z32f, 0, ((((cS bs 2147483648 (uS bs s).2).1 : Nat) : Int), (((cS bs 2147483648 (cS bs 2147483648 (uS bs s).2).2).1 : Nat) : Int), (((cS bs 2147483648 (cS bs 2147483648 (cS bs 2147483648 (uS bs s).2).2).2).1 : Nat) : Int)), (lS bs 8 4096 (cS bs 2147483648 (cS bs 2147483648 (cS bs 2147483648 (uS bs s).2).2).2).2).1, []⟩ : Fr) (.slice al (lS bs 8 4096 (cS bs 2147483648 (cS bs 2147483648 (cS bs 2147483648 (uS bs s).2).2).2).2).1.length cl) rfl _)))
  have HM0 := hid (show (y5.setCell ⟨n, 41, none⟩ (.string (mk (tS bs 2097152 (lS bs 8 4096 (cS bs 2147483648 (cS bs 2147483648 (cS bs 2147483648 (uS bs s).2).2).2).2).2).1))).heap[n + 1]? = some (.cells (fcells zF nS).toArray 30 (0, 0)) from (Below.heap_setCell y5 _ _ (n + 1) (by simp)).trans HM.out)
  have HG := hid (HGn.out.then_new (gb_set y5 ⟨n, 41, none⟩ (.string (mk (tS bs 2097152 (lS bs 8 4096 (cS bs 2147483648 (cS bs 2147483648 (cS bs 2147483648 (uS bs s).2).2).2).2).2).1))) (by rw [HN.out]; exact Nat.le_refl _))
  have HFD := hid (HFn.out.far (gb_set y5 ⟨n, 41, none⟩ (.string (mk (tS bs 2097152 (lS bs 8 4096 (cS bs 2147483648 (cS bs 2147483648 (cS bs 2147483648 (uS bs s).2).2).2).2).2).1))) HB1.out HB2.out HOW.out)
  have HOLn := hid (wowns_set HOL.out 41 (.string (mk (tS bs 2097152 (lS bs 8 4096 (cS bs 2147483648 (cS bs 2147483648 (cS bs 2147483648 (uS bs s).2).2).2).2).2).1)))
  generalize y5.setCell ⟨n, 41, none⟩ (.string (mk (tS bs 2097152 (lS bs 8 4096 (cS bs 2147483648 (cS bs 2147483648 (cS bs 2147483648 (uS bs s).2).2).2).2).2).1)) = w6 at HA0 HM0 HG HFD HOLn ⊢
  clear HA HM HGn HFn x5 z5
  clear HOL
  have HOL := hid HOLn.out
  clear HOLn
  obtain ⟨FF, HFF⟩ : ∃ L, Hid (fcells (⟨2, (((uS bs s).1 : Nat) : Int), 0, 0, z32f, 0, ((((cS bs 2147483648 (uS bs s).2).1 : Nat) : Int), (((cS bs 2147483648 (cS bs 2147483648 (uS bs s).2).2).1 : Nat) : Int), (((cS bs 2147483648 (cS bs 2147483648 (cS bs 2147483648 (uS bs s).2).2).2).1 : Nat) : Int)), (lS bs 8 4096 (cS bs 2147483648 (cS bs 2147483648 (cS bs 2147483648 (uS bs s).2).2).2).2).1, (tS bs 2097152 (lS bs 8 4096 (cS bs 2147483648 (cS bs 2147483648 (cS bs 2147483648 (uS bs s).2).2).2).2).2).1⟩ : Fr) (.slice al (lS bs 8 4096 (cS bs 2147483648 (cS bs 2147483648 (cS bs 2147483648 (uS bs s).2).2).2).2).1.length cl) = L) := ⟨_, rfl⟩
  have HSZ := hid (frame_size (⟨2, (((uS bs s).1 : Nat) : Int), 0, 0, z32f, 0, ((((cS bs 2147483648 (uS bs s).2).1 : Nat) : Int), (((cS bs 2147483648 (cS bs 2147483648 (uS bs s).2).2).1 : Nat) : Int), (((cS bs 2147483648 (cS bs 2147483648 (cS bs 2147483648 (uS bs s).2).2).2).1 : Nat) : Int)), (lS bs 8 4096 (cS bs 2147483648 (cS bs 2147483648 (cS bs 2147483648 (uS bs s).2).2).2).2).1, (tS bs 2097152 (lS bs 8 4096 (cS bs 2147483648 (cS bs 2147483648 (cS bs 2147483648 (uS bs s).2).2).2).2).2).1⟩ : Fr) (.slice al (lS bs 8 4096 (cS bs 2147483648 (cS bs 2147483648 (cS bs 2147483648 (uS bs s).2).2).2).2).1.length cl) rfl)
  have HON := hid (fcells_one (⟨2, (((uS bs s).1 : Nat) : Int), 0, 0, z32f, 0, ((((cS bs 2147483648 (uS bs s).2).1 : Nat) : Int), (((cS bs 2147483648 (cS bs 2147483648 (uS bs s).2).2).1 : Nat) : Int), (((cS bs 2147483648 (cS bs 2147483648 (cS bs 2147483648 (uS bs s).2).2).2).1 : Nat) : Int)), (lS bs 8 4096 (cS bs 2147483648 (cS bs 2147483648 (cS bs 2147483648 (uS bs s).2).2).2).2).1, (tS bs 2097152 (lS bs 8 4096 (cS bs 2147483648 (cS bs 2147483648 (cS bs 2147483648 (uS bs s).2).2).2).2).2).1⟩ : Fr) (.slice al (lS bs 8 4096 (cS bs 2147483648 (cS bs 2147483648 (cS bs 2147483648 (uS bs s).2).2).2).2).1.length cl) rfl)
  have HOS := hid (show (fcells zF nS).toArray.size = (fcells (⟨2, (((uS bs s).1 : Nat) : Int), 0, 0, z32f, 0, ((((cS bs 2147483648 (uS bs s).2).1 : Nat) : Int), (((cS bs 2147483648 (cS bs 2147483648 (uS bs s).2).2).1 : Nat) : Int), (((cS bs 2147483648 (cS bs 2147483648 (cS bs 2147483648 (uS bs s).2).2).2).1 : Nat) : Int)), (lS bs 8 4096 (cS bs 2147483648 (cS bs 2147483648 (cS bs 2147483648 (uS bs s).2).2).2).2).1, (tS bs 2097152 (lS bs 8 4096 (cS bs 2147483648 (cS bs 2147483648 (cS bs 2147483648 (uS bs s).2).2).2).2).2).1⟩ : Fr) (.slice al (lS bs 8 4096 (cS bs 2147483648 (cS bs 2147483648 (cS bs 2147483648 (uS bs s).2).2).2).2).1.length cl)).length by rw [fcells_length _ _ rfl]; rfl)
  rw [HFF.out] at HA0 HSZ HON HOS
  go_wp2_with (first
    | (refine ld_row (by rfl) 30 (.tmp 3) (by rfl) n (by rfl) FF 30 HA0.out _ Tryz.underlying30 rfl HSZ.out ?_)
    | (refine st_row (by rfl) 30 _ _ (by rfl) (n + 1) FF (by rfl) (by rfl) 30 _ HM0.out HSZ.out HOS.out HON.out ?_; intro wz hwz))
  refine ret_row 4 30 rfl (n + 1) rfl FF 30 hwz.blk _ Tryz.underlying30 rfl HSZ.out rfl ⟨(.slice al (lS bs 8 4096 (cS bs 2147483648 (cS bs 2147483648 (cS bs 2147483648 (uS bs s).2).2).2).2).1.length cl), by rw [← HFF.out, fieldsP_2]; rfl, ?_, ?_, HG.out.then_new hwz.grown (by rw [HN.out]; omega)⟩
  · rw [fieldsP_2]
    exact wowns_far1 HOL.out hwz.grown HN.out
  · rw [fieldsP_2]
    exact HFD.out.far hwz.grown (by have := HB1.out; omega) (by have := HB2.out; omega) (fun k hk => by have := HOW.out k hk; omega)

set_option maxRecDepth 100000 in
set_option maxHeartbeats 4000000 in
theorem readCancel_any (base b rb : Nat) (v : Value) (bs : List UInt8) (s : St) (w : World) (hbl : bs.length ≤ 1099511627776) (h : Fd w base b rb v bs s) :
    Calls Tryz.prog 134 #[.pointer (some ⟨b, 0, none⟩), .agg (fcells (kF 4) nS).toArray] w fun e w' => ∃ va, e = .returned (.agg (fcells (fieldsP bs 4 s).1 va).toArray) ∧ WOwnS w' w.heap.size va (fieldsP bs 4 s).1.args ∧ Fd w' base b rb v bs (fieldsP bs 4 s).2 ∧ G2 w w' b rb := by
  obtain ⟨n, HN⟩ : ∃ n, Hid (w.heap.size = n) := ⟨_, rfl⟩
  have HNB := hid (hp_two w (.cells (fcells (kF 4) nS).toArray 30) (.cells (fcells zF nS).toArray 30))
  have HBL := hid (below_walk2 w (.cells (fcells (kF 4) nS).toArray 30) (.cells (fcells zF nS).toArray 30))
  have HZ : Hid ((w.alloc (.cells (fcells (kF 4) nS).toArray 30)).heap.size = w.heap.size + 1) := hid (by simp)
  have HFD := hid (h.below HBL.out)
  have HB1 : Hid (b < n) := hid (HN.out ▸ h.lt.1)
  have HB2 : Hid (rb < n) := hid (HN.out ▸ h.lt.2.1)
  have HOW : Hid (∀ k, v.ownBlock = some k → k < n) := hid (HN.out ▸ h.own)
  have HG := hid (G2.of_below (b := b) (c := rb) HBL.out)
  have HLEN := hid hbl
  clear h
  go_enter Tryz.func134, Tryz.ntmps134
  go_upto_region 1 with (refine al_row (by rfl) 30 (by rfl) _ zeroFrame ?_)
  try rw [HZ.out]
  generalize (w.alloc (.cells (fcells (kF 4) nS).toArray 30)).alloc (.cells (fcells zF nS).toArray 30) = w0 at HNB HBL HFD HG ⊢
  rw [HN.out] at HNB ⊢
  have HA0 := hid (show w0.heap[n]? = some (.cells (fcells (⟨4, 0, 0, 0, z32f, 0, (0, 0, 0), [], []⟩ : Fr) nS).toArray 30 (0, 0)) from HNB.out.1)
  have HM0 := hid (show w0.heap[n + 1]? = some (.cells (fcells zF nS).toArray 30 (0, 0)) from HNB.out.2)
  clear HNB HBL HZ
  have p0 := HFD.out.ptr
  go_wp2_with fail
  refine (fd_uint HFD.out).mono ?_
  rintro e y0 ⟨rfl, hf0, hg0⟩
  have HA := hid ((hg0.block n (hp_lt HA0.out) (fun e => by injection e with e; have := HB2.out; omega)).trans HA0.out)
  have HM := hid ((hg0.block (n + 1) (hp_lt HM0.out) (fun e => by injection e with e; have := HB2.out; omega)).trans HM0.out)
  have HGn := hid (HG.out.trans (G2.of_second hg0))
  have HFn := hid hf0
  clear HFD HA0 HM0 HG hf0 hg0 p0
  have x0 := (Fb.of HA.out rfl).i
  have z0 := row_fz HA.out 1
  go_upto_region 2 with fail
  have HA0 := hid (show (y0.setCell ⟨n, 1, none⟩ (.int .u64 ((uS bs s).1 : Nat))).heap[n]? = some (.cells (fcells (⟨4, (((uS bs s).1 : Nat) : Int), 0, 0, z32f, 0, (0, 0, 0), [], []⟩ : Fr) nS).toArray 30 (0, 0)) from (blk_set HA.out _).trans (congrArg (fun a => some (Obj.cells a 30 (0, 0))) (fset_id (⟨4, 0, 0, 0, z32f, 0, (0, 0, 0), [], []⟩ : Fr) nS rfl _)))
  have HM0 := hid (show (y0.setCell ⟨n, 1, none⟩ (.int .u64 ((uS bs s).1 : Nat))).heap[n + 1]? = some (.cells (fcells zF nS).toArray 30 (0, 0)) from (Below.heap_setCell y0 _ _ (n + 1) (by simp)).trans HM.out)
  have HG := hid (HGn.out.then_new (gb_set y0 ⟨n, 1, none⟩ (.int .u64 ((uS bs s).1 : Nat))) (by rw [HN.out]; exact Nat.le_refl _))
  have HFD := hid (HFn.out.far (gb_set y0 ⟨n, 1, none⟩ (.int .u64 ((uS bs s).1 : Nat))) HB1.out HB2.out HOW.out)
  generalize y0.setCell ⟨n, 1, none⟩ (.int .u64 ((uS bs s).1 : Nat)) = w1 at HA0 HM0 HG HFD ⊢
  clear HA HM HGn HFn x0 z0
  obtain ⟨FF, HFF⟩ : ∃ L, Hid (fcells (⟨4, (((uS bs s).1 : Nat) : Int), 0, 0, z32f, 0, (0, 0, 0), [], []⟩ : Fr) nS = L) := ⟨_, rfl⟩
  have HSZ := hid (frame_size (⟨4, (((uS bs s).1 : Nat) : Int), 0, 0, z32f, 0, (0, 0, 0), [], []⟩ : Fr) nS rfl)
  have HON := hid (fcells_one (⟨4, (((uS bs s).1 : Nat) : Int), 0, 0, z32f, 0, (0, 0, 0), [], []⟩ : Fr) nS rfl)
  have HOS := hid (show (fcells zF nS).toArray.size = (fcells (⟨4, (((uS bs s).1 : Nat) : Int), 0, 0, z32f, 0, (0, 0, 0), [], []⟩ : Fr) nS).length by rw [fcells_length _ _ rfl]; rfl)
  rw [HFF.out] at HA0 HSZ HON HOS
  go_wp2_with (first
    | (refine ld_row (by rfl) 30 (.tmp 3) (by rfl) n (by rfl) FF 30 HA0.out _ Tryz.underlying30 rfl HSZ.out ?_)
    | (refine st_row (by rfl) 30 _ _ (by rfl) (n + 1) FF (by rfl) (by rfl) 30 _ HM0.out HSZ.out HOS.out HON.out ?_; intro wz hwz))
  refine ret_row 4 30 rfl (n + 1) rfl FF 30 hwz.blk _ Tryz.underlying30 rfl HSZ.out rfl ⟨nS, by rw [← HFF.out, fieldsP_4]; rfl, ?_, ?_, HG.out.then_new hwz.grown (by rw [HN.out]; omega)⟩
  · rw [fieldsP_4]
    exact World.ownsRow_nil _ _ _ _
  · rw [fieldsP_4]
    exact HFD.out.far hwz.grown (by have := HB1.out; omega) (by have := HB2.out; omega) (fun k hk => by have := HOW.out k hk; omega)

set_option maxRecDepth 100000 in
set_option maxHeartbeats 4000000 in
theorem readBye_any (base b rb : Nat) (v : Value) (bs : List UInt8) (s : St) (w : World) (hbl : bs.length ≤ 1099511627776) (h : Fd w base b rb v bs s) :
    Calls Tryz.prog 137 #[.pointer (some ⟨b, 0, none⟩), .agg (fcells (kF 5) nS).toArray] w fun e w' => ∃ va, e = .returned (.agg (fcells (fieldsP bs 5 s).1 va).toArray) ∧ WOwnS w' w.heap.size va (fieldsP bs 5 s).1.args ∧ Fd w' base b rb v bs (fieldsP bs 5 s).2 ∧ G2 w w' b rb := by
  obtain ⟨n, HN⟩ : ∃ n, Hid (w.heap.size = n) := ⟨_, rfl⟩
  have HNB := hid (hp_two w (.cells (fcells (kF 5) nS).toArray 30) (.cells (fcells zF nS).toArray 30))
  have HBL := hid (below_walk2 w (.cells (fcells (kF 5) nS).toArray 30) (.cells (fcells zF nS).toArray 30))
  have HZ : Hid ((w.alloc (.cells (fcells (kF 5) nS).toArray 30)).heap.size = w.heap.size + 1) := hid (by simp)
  have HFD := hid (h.below HBL.out)
  have HB1 : Hid (b < n) := hid (HN.out ▸ h.lt.1)
  have HB2 : Hid (rb < n) := hid (HN.out ▸ h.lt.2.1)
  have HOW : Hid (∀ k, v.ownBlock = some k → k < n) := hid (HN.out ▸ h.own)
  have HG := hid (G2.of_below (b := b) (c := rb) HBL.out)
  have HLEN := hid hbl
  clear h
  go_enter Tryz.func137, Tryz.ntmps137
  go_upto_region 1 with (refine al_row (by rfl) 30 (by rfl) _ zeroFrame ?_)
  try rw [HZ.out]
  generalize (w.alloc (.cells (fcells (kF 5) nS).toArray 30)).alloc (.cells (fcells zF nS).toArray 30) = w0 at HNB HBL HFD HG ⊢
  rw [HN.out] at HNB ⊢
  have HA0 := hid (show w0.heap[n]? = some (.cells (fcells (⟨5, 0, 0, 0, z32f, 0, (0, 0, 0), [], []⟩ : Fr) nS).toArray 30 (0, 0)) from HNB.out.1)
  have HM0 := hid (show w0.heap[n + 1]? = some (.cells (fcells zF nS).toArray 30 (0, 0)) from HNB.out.2)
  clear HNB HBL HZ
  obtain ⟨FF, HFF⟩ : ∃ L, Hid (fcells (⟨5, 0, 0, 0, z32f, 0, (0, 0, 0), [], []⟩ : Fr) nS = L) := ⟨_, rfl⟩
  have HSZ := hid (frame_size (⟨5, 0, 0, 0, z32f, 0, (0, 0, 0), [], []⟩ : Fr) nS rfl)
  have HON := hid (fcells_one (⟨5, 0, 0, 0, z32f, 0, (0, 0, 0), [], []⟩ : Fr) nS rfl)
  have HOS := hid (show (fcells zF nS).toArray.size = (fcells (⟨5, 0, 0, 0, z32f, 0, (0, 0, 0), [], []⟩ : Fr) nS).length by rw [fcells_length _ _ rfl]; rfl)
  rw [HFF.out] at HA0 HSZ HON HOS
  go_wp2_with (first
    | (refine ld_row (by rfl) 30 (.tmp 3) (by rfl) n (by rfl) FF 30 HA0.out _ Tryz.underlying30 rfl HSZ.out ?_)
    | (refine st_row (by rfl) 30 _ _ (by rfl) (n + 1) FF (by rfl) (by rfl) 30 _ HM0.out HSZ.out HOS.out HON.out ?_; intro wz hwz))
  refine ret_row 4 30 rfl (n + 1) rfl FF 30 hwz.blk _ Tryz.underlying30 rfl HSZ.out rfl ⟨nS, by rw [← HFF.out, fieldsP_5]; rfl, ?_, ?_, HG.out.then_new hwz.grown (by rw [HN.out]; omega)⟩
  · rw [fieldsP_5]
    exact World.ownsRow_nil _ _ _ _
  · rw [fieldsP_5]
    exact HFD.out.far hwz.grown (by have := HB1.out; omega) (by have := HB2.out; omega) (fun k hk => by have := HOW.out k hk; omega)

set_option maxRecDepth 100000 in
set_option maxHeartbeats 4000000 in
theorem readNote_any (base b rb : Nat) (v : Value) (bs : List UInt8) (s : St) (w : World) (hbl : bs.length ≤ 1099511627776) (h : Fd w base b rb v bs s) :
    Calls Tryz.prog 140 #[.pointer (some ⟨b, 0, none⟩), .agg (fcells (kF 6) nS).toArray] w fun e w' => ∃ va, e = .returned (.agg (fcells (fieldsP bs 6 s).1 va).toArray) ∧ WOwnS w' w.heap.size va (fieldsP bs 6 s).1.args ∧ Fd w' base b rb v bs (fieldsP bs 6 s).2 ∧ G2 w w' b rb := by
  obtain ⟨n, HN⟩ : ∃ n, Hid (w.heap.size = n) := ⟨_, rfl⟩
  have HNB := hid (hp_two w (.cells (fcells (kF 6) nS).toArray 30) (.cells (fcells zF nS).toArray 30))
  have HBL := hid (below_walk2 w (.cells (fcells (kF 6) nS).toArray 30) (.cells (fcells zF nS).toArray 30))
  have HZ : Hid ((w.alloc (.cells (fcells (kF 6) nS).toArray 30)).heap.size = w.heap.size + 1) := hid (by simp)
  have HFD := hid (h.below HBL.out)
  have HB1 : Hid (b < n) := hid (HN.out ▸ h.lt.1)
  have HB2 : Hid (rb < n) := hid (HN.out ▸ h.lt.2.1)
  have HOW : Hid (∀ k, v.ownBlock = some k → k < n) := hid (HN.out ▸ h.own)
  have HG := hid (G2.of_below (b := b) (c := rb) HBL.out)
  have HLEN := hid hbl
  clear h
  go_enter Tryz.func140, Tryz.ntmps140
  go_upto_region 1 with (refine al_row (by rfl) 30 (by rfl) _ zeroFrame ?_)
  try rw [HZ.out]
  generalize (w.alloc (.cells (fcells (kF 6) nS).toArray 30)).alloc (.cells (fcells zF nS).toArray 30) = w0 at HNB HBL HFD HG ⊢
  rw [HN.out] at HNB ⊢
  have HA0 := hid (show w0.heap[n]? = some (.cells (fcells (⟨6, 0, 0, 0, z32f, 0, (0, 0, 0), [], []⟩ : Fr) nS).toArray 30 (0, 0)) from HNB.out.1)
  have HM0 := hid (show w0.heap[n + 1]? = some (.cells (fcells zF nS).toArray 30 (0, 0)) from HNB.out.2)
  clear HNB HBL HZ
  have p0 := HFD.out.ptr
  go_wp2_with fail
  refine (fd_text 2097152 (by omega) (by omega) HFD.out).mono ?_
  rintro e y0 ⟨rfl, hf0, hg0⟩
  have HA := hid ((hg0.block n (hp_lt HA0.out) (fun e => by injection e with e; have := HB2.out; omega)).trans HA0.out)
  have HM := hid ((hg0.block (n + 1) (hp_lt HM0.out) (fun e => by injection e with e; have := HB2.out; omega)).trans HM0.out)
  have HGn := hid (HG.out.trans (G2.of_second hg0))
  have HFn := hid hf0
  clear HFD HA0 HM0 HG hf0 hg0 p0
  have x0 := (Fb.of HA.out rfl).bd
  have z0 := row_fz HA.out 41
  go_upto_region 2 with fail
  have HA0 := hid (show (y0.setCell ⟨n, 41, none⟩ (.string (mk (tS bs 2097152 s).1))).heap[n]? = some (.cells (fcells (⟨6, 0, 0, 0, z32f, 0, (0, 0, 0), [], (tS bs 2097152 s).1⟩ : Fr) nS).toArray 30 (0, 0)) from (blk_set HA.out _).trans (congrArg (fun a => some (Obj.cells a 30 (0, 0))) (fset_body (⟨6, 0, 0, 0, z32f, 0, (0, 0, 0), [], []⟩ : Fr) nS rfl _)))
  have HM0 := hid (show (y0.setCell ⟨n, 41, none⟩ (.string (mk (tS bs 2097152 s).1))).heap[n + 1]? = some (.cells (fcells zF nS).toArray 30 (0, 0)) from (Below.heap_setCell y0 _ _ (n + 1) (by simp)).trans HM.out)
  have HG := hid (HGn.out.then_new (gb_set y0 ⟨n, 41, none⟩ (.string (mk (tS bs 2097152 s).1))) (by rw [HN.out]; exact Nat.le_refl _))
  have HFD := hid (HFn.out.far (gb_set y0 ⟨n, 41, none⟩ (.string (mk (tS bs 2097152 s).1))) HB1.out HB2.out HOW.out)
  generalize y0.setCell ⟨n, 41, none⟩ (.string (mk (tS bs 2097152 s).1)) = w1 at HA0 HM0 HG HFD ⊢
  clear HA HM HGn HFn x0 z0
  obtain ⟨FF, HFF⟩ : ∃ L, Hid (fcells (⟨6, 0, 0, 0, z32f, 0, (0, 0, 0), [], (tS bs 2097152 s).1⟩ : Fr) nS = L) := ⟨_, rfl⟩
  have HSZ := hid (frame_size (⟨6, 0, 0, 0, z32f, 0, (0, 0, 0), [], (tS bs 2097152 s).1⟩ : Fr) nS rfl)
  have HON := hid (fcells_one (⟨6, 0, 0, 0, z32f, 0, (0, 0, 0), [], (tS bs 2097152 s).1⟩ : Fr) nS rfl)
  have HOS := hid (show (fcells zF nS).toArray.size = (fcells (⟨6, 0, 0, 0, z32f, 0, (0, 0, 0), [], (tS bs 2097152 s).1⟩ : Fr) nS).length by rw [fcells_length _ _ rfl]; rfl)
  rw [HFF.out] at HA0 HSZ HON HOS
  go_wp2_with (first
    | (refine ld_row (by rfl) 30 (.tmp 3) (by rfl) n (by rfl) FF 30 HA0.out _ Tryz.underlying30 rfl HSZ.out ?_)
    | (refine st_row (by rfl) 30 _ _ (by rfl) (n + 1) FF (by rfl) (by rfl) 30 _ HM0.out HSZ.out HOS.out HON.out ?_; intro wz hwz))
  refine ret_row 4 30 rfl (n + 1) rfl FF 30 hwz.blk _ Tryz.underlying30 rfl HSZ.out rfl ⟨nS, by rw [← HFF.out, fieldsP_6]; rfl, ?_, ?_, HG.out.then_new hwz.grown (by rw [HN.out]; omega)⟩
  · rw [fieldsP_6]
    exact World.ownsRow_nil _ _ _ _
  · rw [fieldsP_6]
    exact HFD.out.far hwz.grown (by have := HB1.out; omega) (by have := HB2.out; omega) (fun k hk => by have := HOW.out k hk; omega)

set_option maxRecDepth 100000 in
set_option maxHeartbeats 4000000 in
theorem readResponse_any (base b rb : Nat) (v : Value) (bs : List UInt8) (s : St) (w : World) (hbl : bs.length ≤ 1099511627776) (h : Fd w base b rb v bs s) :
    Calls Tryz.prog 130 #[.pointer (some ⟨b, 0, none⟩), .agg (fcells (kF 3) nS).toArray] w fun e w' => ∃ va, e = .returned (.agg (fcells (fieldsP bs 3 s).1 va).toArray) ∧ WOwnS w' w.heap.size va (fieldsP bs 3 s).1.args ∧ Fd w' base b rb v bs (fieldsP bs 3 s).2 ∧ G2 w w' b rb := by
  obtain ⟨n, HN⟩ : ∃ n, Hid (w.heap.size = n) := ⟨_, rfl⟩
  have HNB := hid (hp_two w (.cells (fcells (kF 3) nS).toArray 30) (.cells (fcells zF nS).toArray 30))
  have HBL := hid (below_walk2 w (.cells (fcells (kF 3) nS).toArray 30) (.cells (fcells zF nS).toArray 30))
  have HZ : Hid ((w.alloc (.cells (fcells (kF 3) nS).toArray 30)).heap.size = w.heap.size + 1) := hid (by simp)
  have HFD := hid (h.below HBL.out)
  have HB1 : Hid (b < n) := hid (HN.out ▸ h.lt.1)
  have HB2 : Hid (rb < n) := hid (HN.out ▸ h.lt.2.1)
  have HOW : Hid (∀ k, v.ownBlock = some k → k < n) := hid (HN.out ▸ h.own)
  have HG := hid (G2.of_below (b := b) (c := rb) HBL.out)
  have HLEN := hid hbl
  clear h
  go_enter Tryz.func130, Tryz.ntmps130
  go_upto_region 1 with (refine al_row (by rfl) 30 (by rfl) _ zeroFrame ?_)
  try rw [HZ.out]
  generalize (w.alloc (.cells (fcells (kF 3) nS).toArray 30)).alloc (.cells (fcells zF nS).toArray 30) = w0 at HNB HBL HFD HG ⊢
  rw [HN.out] at HNB ⊢
  have HA0 := hid (show w0.heap[n]? = some (.cells (fcells (⟨3, 0, 0, 0, z32f, 0, (0, 0, 0), [], []⟩ : Fr) nS).toArray 30 (0, 0)) from HNB.out.1)
  have HM0 := hid (show w0.heap[n + 1]? = some (.cells (fcells zF nS).toArray 30 (0, 0)) from HNB.out.2)
  clear HNB HBL HZ
  have p0 := HFD.out.ptr
  go_wp2_with fail
  refine (fd_uint HFD.out).mono ?_
  rintro e y0 ⟨rfl, hf0, hg0⟩
  have HA := hid ((hg0.block n (hp_lt HA0.out) (fun e => by injection e with e; have := HB2.out; omega)).trans HA0.out)
  have HM := hid ((hg0.block (n + 1) (hp_lt HM0.out) (fun e => by injection e with e; have := HB2.out; omega)).trans HM0.out)
  have HGn := hid (HG.out.trans (G2.of_second hg0))
  have HFn := hid hf0
  clear HFD HA0 HM0 HG hf0 hg0 p0
  have x0 := (Fb.of HA.out rfl).i
  have z0 := row_fz HA.out 1
  go_upto_region 2 with fail
  have HA0 := hid (show (y0.setCell ⟨n, 1, none⟩ (.int .u64 ((uS bs s).1 : Nat))).heap[n]? = some (.cells (fcells (⟨3, (((uS bs s).1 : Nat) : Int), 0, 0, z32f, 0, (0, 0, 0), [], []⟩ : Fr) nS).toArray 30 (0, 0)) from (blk_set HA.out _).trans (congrArg (fun a => some (Obj.cells a 30 (0, 0))) (fset_id (⟨3, 0, 0, 0, z32f, 0, (0, 0, 0), [], []⟩ : Fr) nS rfl _)))
  have HM0 := hid (show (y0.setCell ⟨n, 1, none⟩ (.int .u64 ((uS bs s).1 : Nat))).heap[n + 1]? = some (.cells (fcells zF nS).toArray 30 (0, 0)) from (Below.heap_setCell y0 _ _ (n + 1) (by simp)).trans HM.out)
  have HG := hid (HGn.out.then_new (gb_set y0 ⟨n, 1, none⟩ (.int .u64 ((uS bs s).1 : Nat))) (by rw [HN.out]; exact Nat.le_refl _))
  have HFD := hid (HFn.out.far (gb_set y0 ⟨n, 1, none⟩ (.int .u64 ((uS bs s).1 : Nat))) HB1.out HB2.out HOW.out)
  generalize y0.setCell ⟨n, 1, none⟩ (.int .u64 ((uS bs s).1 : Nat)) = w1 at HA0 HM0 HG HFD ⊢
  clear HA HM HGn HFn x0 z0
  go_wp2_with fail
  refine (fd_some base b rb v bs _ 3 _ (by omega) HFD.out).mono ?_
  rintro e y1 ⟨rfl, hf1, hg1⟩
  have HA := hid ((hg1.block n (hp_lt HA0.out) (by have := HB1.out; omega) (by have := HB2.out; omega)).trans HA0.out)
  have HM := hid ((hg1.block (n + 1) (hp_lt HM0.out) (by have := HB1.out; omega) (by have := HB2.out; omega)).trans HM0.out)
  have HGn := hid (HG.out.trans hg1)
  have HFn := hid hf1
  clear HFD HA0 HM0 HG hf1 hg1
  have x1 := (Fb.of HA.out rfl).st
  have z1 := row_fz HA.out 36
  go_upto_region 3 with fail
  have HA0 := hid (show (y1.setCell ⟨n, 36, none⟩ (.int .i64 ((oS bs 3 (uS bs s).2).1 : Nat))).heap[n]? = some (.cells (fcells (⟨3, (((uS bs s).1 : Nat) : Int), 0, 0, z32f, (((oS bs 3 (uS bs s).2).1 : Nat) : Int), (0, 0, 0), [], []⟩ : Fr) nS).toArray 30 (0, 0)) from (blk_set HA.out _).trans (congrArg (fun a => some (Obj.cells a 30 (0, 0))) (fset_status (⟨3, (((uS bs s).1 : Nat) : Int), 0, 0, z32f, 0, (0, 0, 0), [], []⟩ : Fr) nS rfl _)))
  have HM0 := hid (show (y1.setCell ⟨n, 36, none⟩ (.int .i64 ((oS bs 3 (uS bs s).2).1 : Nat))).heap[n + 1]? = some (.cells (fcells zF nS).toArray 30 (0, 0)) from (Below.heap_setCell y1 _ _ (n + 1) (by simp)).trans HM.out)
  have HG := hid (HGn.out.then_new (gb_set y1 ⟨n, 36, none⟩ (.int .i64 ((oS bs 3 (uS bs s).2).1 : Nat))) (by rw [HN.out]; exact Nat.le_refl _))
  have HFD := hid (HFn.out.far (gb_set y1 ⟨n, 36, none⟩ (.int .i64 ((oS bs 3 (uS bs s).2).1 : Nat))) HB1.out HB2.out HOW.out)
  generalize y1.setCell ⟨n, 36, none⟩ (.int .i64 ((oS bs 3 (uS bs s).2).1 : Nat)) = w2 at HA0 HM0 HG HFD ⊢
  clear HA HM HGn HFn x1 z1
  have p2 := HFD.out.ptr
  go_wp2_with fail
  refine (fd_text 2097152 (by omega) (by omega) HFD.out).mono ?_
  rintro e y2 ⟨rfl, hf2, hg2⟩
  have HA := hid ((hg2.block n (hp_lt HA0.out) (fun e => by injection e with e; have := HB2.out; omega)).trans HA0.out)
  have HM := hid ((hg2.block (n + 1) (hp_lt HM0.out) (fun e => by injection e with e; have := HB2.out; omega)).trans HM0.out)
  have HGn := hid (HG.out.trans (G2.of_second hg2))
  have HFn := hid hf2
  clear HFD HA0 HM0 HG hf2 hg2 p2
  have x2 := (Fb.of HA.out rfl).bd
  have z2 := row_fz HA.out 41
  go_upto_region 4 with fail
  have HA0 := hid (show (y2.setCell ⟨n, 41, none⟩ (.string (mk (tS bs 2097152 (oS bs 3 (uS bs s).2).2).1))).heap[n]? = some (.cells (fcells (⟨3, (((uS bs s).1 : Nat) : Int), 0, 0, z32f, (((oS bs 3 (uS bs s).2).1 : Nat) : Int), (0, 0, 0), [], (tS bs 2097152 (oS bs 3 (uS bs s).2).2).1⟩ : Fr) nS).toArray 30 (0, 0)) from (blk_set HA.out _).trans (congrArg (fun a => some (Obj.cells a 30 (0, 0))) (fset_body (⟨3, (((uS bs s).1 : Nat) : Int), 0, 0, z32f, (((oS bs 3 (uS bs s).2).1 : Nat) : Int), (0, 0, 0), [], []⟩ : Fr) nS rfl _)))
  have HM0 := hid (show (y2.setCell ⟨n, 41, none⟩ (.string (mk (tS bs 2097152 (oS bs 3 (uS bs s).2).2).1))).heap[n + 1]? = some (.cells (fcells zF nS).toArray 30 (0, 0)) from (Below.heap_setCell y2 _ _ (n + 1) (by simp)).trans HM.out)
  have HG := hid (HGn.out.then_new (gb_set y2 ⟨n, 41, none⟩ (.string (mk (tS bs 2097152 (oS bs 3 (uS bs s).2).2).1))) (by rw [HN.out]; exact Nat.le_refl _))
  have HFD := hid (HFn.out.far (gb_set y2 ⟨n, 41, none⟩ (.string (mk (tS bs 2097152 (oS bs 3 (uS bs s).2).2).1))) HB1.out HB2.out HOW.out)
  generalize y2.setCell ⟨n, 41, none⟩ (.string (mk (tS bs 2097152 (oS bs 3 (uS bs s).2).2).1)) = w3 at HA0 HM0 HG HFD ⊢
  clear HA HM HGn HFn x2 z2
  obtain ⟨FF, HFF⟩ : ∃ L, Hid (fcells (⟨3, (((uS bs s).1 : Nat) : Int), 0, 0, z32f, (((oS bs 3 (uS bs s).2).1 : Nat) : Int), (0, 0, 0), [], (tS bs 2097152 (oS bs 3 (uS bs s).2).2).1⟩ : Fr) nS = L) := ⟨_, rfl⟩
  have HSZ := hid (frame_size (⟨3, (((uS bs s).1 : Nat) : Int), 0, 0, z32f, (((oS bs 3 (uS bs s).2).1 : Nat) : Int), (0, 0, 0), [], (tS bs 2097152 (oS bs 3 (uS bs s).2).2).1⟩ : Fr) nS rfl)
  have HON := hid (fcells_one (⟨3, (((uS bs s).1 : Nat) : Int), 0, 0, z32f, (((oS bs 3 (uS bs s).2).1 : Nat) : Int), (0, 0, 0), [], (tS bs 2097152 (oS bs 3 (uS bs s).2).2).1⟩ : Fr) nS rfl)
  have HOS := hid (show (fcells zF nS).toArray.size = (fcells (⟨3, (((uS bs s).1 : Nat) : Int), 0, 0, z32f, (((oS bs 3 (uS bs s).2).1 : Nat) : Int), (0, 0, 0), [], (tS bs 2097152 (oS bs 3 (uS bs s).2).2).1⟩ : Fr) nS).length by rw [fcells_length _ _ rfl]; rfl)
  rw [HFF.out] at HA0 HSZ HON HOS
  go_wp2_with (first
    | (refine ld_row (by rfl) 30 (.tmp 3) (by rfl) n (by rfl) FF 30 HA0.out _ Tryz.underlying30 rfl HSZ.out ?_)
    | (refine st_row (by rfl) 30 _ _ (by rfl) (n + 1) FF (by rfl) (by rfl) 30 _ HM0.out HSZ.out HOS.out HON.out ?_; intro wz hwz))
  refine ret_row 4 30 rfl (n + 1) rfl FF 30 hwz.blk _ Tryz.underlying30 rfl HSZ.out rfl ⟨nS, by rw [← HFF.out, fieldsP_3]; rfl, ?_, ?_, HG.out.then_new hwz.grown (by rw [HN.out]; omega)⟩
  · rw [fieldsP_3]
    exact World.ownsRow_nil _ _ _ _
  · rw [fieldsP_3]
    exact HFD.out.far hwz.grown (by have := HB1.out; omega) (by have := HB2.out; omega) (fun k hk => by have := HOW.out k hk; omega)

end Go.Proofs.YtiibhccbbpgehaaGreat

/- A hello's fields, read by the program. -/
namespace Go.Proofs.YtiibhccbbpgehaaGreat
open Go.RowKit Go.BigFrame

set_option maxRecDepth 100000 in
set_option maxHeartbeats 4000000 in
theorem readHello_any (base b rb : Nat) (v : Value) (bs : List UInt8) (s : St) (w : World) (hbl : bs.length ≤ 1099511627776) (h : Fd w base b rb v bs s) :
    Calls Tryz.prog 122 #[.pointer (some ⟨b, 0, none⟩), .agg (fcells (kF 1) nS).toArray] w fun e w' => ∃ va, e = .returned (.agg (fcells (fieldsP bs 1 s).1 va).toArray) ∧ WOwnS w' w.heap.size va (fieldsP bs 1 s).1.args ∧ Fd w' base b rb v bs (fieldsP bs 1 s).2 ∧ G2 w w' b rb := by
  obtain ⟨n, HN⟩ : ∃ n, Hid (w.heap.size = n) := ⟨_, rfl⟩
  have HNB := hid (hp_two w (.cells (fcells (kF 1) nS).toArray 30) (.cells (fcells zF nS).toArray 30))
  have HBL := hid (below_walk2 w (.cells (fcells (kF 1) nS).toArray 30) (.cells (fcells zF nS).toArray 30))
  have HZ : Hid ((w.alloc (.cells (fcells (kF 1) nS).toArray 30)).heap.size = w.heap.size + 1) := hid (by simp)
  have HFD := hid (h.below HBL.out)
  have HB1 : Hid (b < n) := hid (HN.out ▸ h.lt.1)
  have HB2 : Hid (rb < n) := hid (HN.out ▸ h.lt.2.1)
  have HOW : Hid (∀ k, v.ownBlock = some k → k < n) := hid (HN.out ▸ h.own)
  have HG := hid (G2.of_below (b := b) (c := rb) HBL.out)
  have HLEN := hid hbl
  clear h
  go_enter Tryz.func122, Tryz.ntmps122
  go_upto_region 1 with (refine al_row (by rfl) 30 (by rfl) _ zeroFrame ?_)
  try rw [HZ.out]
  generalize (w.alloc (.cells (fcells (kF 1) nS).toArray 30)).alloc (.cells (fcells zF nS).toArray 30) = w0 at HNB HBL HFD HG ⊢
  rw [HN.out] at HNB ⊢
  have HA0 := hid (show w0.heap[n]? = some (.cells (fcells (⟨1, 0, 0, 0, z32f, 0, (0, 0, 0), [], []⟩ : Fr) nS).toArray 30 (0, 0)) from HNB.out.1)
  have HM0 := hid (show w0.heap[n + 1]? = some (.cells (fcells zF nS).toArray 30 (0, 0)) from HNB.out.2)
  clear HNB HBL HZ
  go_wp2_with fail
  refine (fd_some base b rb v bs _ 1 _ (by omega) HFD.out).mono ?_
  rintro e y0 ⟨rfl, hf0, hg0⟩
  have HA := hid ((hg0.block n (hp_lt HA0.out) (by have := HB1.out; omega) (by have := HB2.out; omega)).trans HA0.out)
  have HM := hid ((hg0.block (n + 1) (hp_lt HM0.out) (by have := HB1.out; omega) (by have := HB2.out; omega)).trans HM0.out)
  have HGn := hid (HG.out.trans hg0)
  have HFn := hid hf0
  clear HFD HA0 HM0 HG hf0 hg0
  have x0 := (Fb.of HA.out rfl).v
  have z0 := row_fz HA.out 2
  go_upto_region 2 with fail
  have HA0 := hid (show (y0.setCell ⟨n, 2, none⟩ (.int .i64 ((oS bs 1 s).1 : Nat))).heap[n]? = some (.cells (fcells (⟨1, 0, (((oS bs 1 s).1 : Nat) : Int), 0, z32f, 0, (0, 0, 0), [], []⟩ : Fr) nS).toArray 30 (0, 0)) from (blk_set HA.out _).trans (congrArg (fun a => some (Obj.cells a 30 (0, 0))) (fset_ver (⟨1, 0, 0, 0, z32f, 0, (0, 0, 0), [], []⟩ : Fr) nS rfl _)))
  have HM0 := hid (show (y0.setCell ⟨n, 2, none⟩ (.int .i64 ((oS bs 1 s).1 : Nat))).heap[n + 1]? = some (.cells (fcells zF nS).toArray 30 (0, 0)) from (Below.heap_setCell y0 _ _ (n + 1) (by simp)).trans HM.out)
  have HG := hid (HGn.out.then_new (gb_set y0 ⟨n, 2, none⟩ (.int .i64 ((oS bs 1 s).1 : Nat))) (by rw [HN.out]; exact Nat.le_refl _))
  have HFD := hid (HFn.out.far (gb_set y0 ⟨n, 2, none⟩ (.int .i64 ((oS bs 1 s).1 : Nat))) HB1.out HB2.out HOW.out)
  generalize y0.setCell ⟨n, 2, none⟩ (.int .i64 ((oS bs 1 s).1 : Nat)) = w1 at HA0 HM0 HG HFD ⊢
  clear HA HM HGn HFn x0 z0
  go_wp2_with fail
  refine (fd_some base b rb v bs _ 64 _ (by omega) HFD.out).mono ?_
  rintro e y1 ⟨rfl, hf1, hg1⟩
  have HA := hid ((hg1.block n (hp_lt HA0.out) (by have := HB1.out; omega) (by have := HB2.out; omega)).trans HA0.out)
  have HM := hid ((hg1.block (n + 1) (hp_lt HM0.out) (by have := HB1.out; omega) (by have := HB2.out; omega)).trans HM0.out)
  have HGn := hid (HG.out.trans hg1)
  have HFn := hid hf1
  clear HFD HA0 HM0 HG hf1 hg1
  have x1 := (Fb.of HA.out rfl).s
  have z1 := row_fz HA.out 3
  go_upto_region 3 with fail
  have HA0 := hid (show (y1.setCell ⟨n, 3, none⟩ (.int .i64 ((oS bs 64 (oS bs 1 s).2).1 : Nat))).heap[n]? = some (.cells (fcells (⟨1, 0, (((oS bs 1 s).1 : Nat) : Int), (((oS bs 64 (oS bs 1 s).2).1 : Nat) : Int), z32f, 0, (0, 0, 0), [], []⟩ : Fr) nS).toArray 30 (0, 0)) from (blk_set HA.out _).trans (congrArg (fun a => some (Obj.cells a 30 (0, 0))) (fset_slots (⟨1, 0, (((oS bs 1 s).1 : Nat) : Int), 0, z32f, 0, (0, 0, 0), [], []⟩ : Fr) nS rfl _)))
  have HM0 := hid (show (y1.setCell ⟨n, 3, none⟩ (.int .i64 ((oS bs 64 (oS bs 1 s).2).1 : Nat))).heap[n + 1]? = some (.cells (fcells zF nS).toArray 30 (0, 0)) from (Below.heap_setCell y1 _ _ (n + 1) (by simp)).trans HM.out)
  have HG := hid (HGn.out.then_new (gb_set y1 ⟨n, 3, none⟩ (.int .i64 ((oS bs 64 (oS bs 1 s).2).1 : Nat))) (by rw [HN.out]; exact Nat.le_refl _))
  have HFD := hid (HFn.out.far (gb_set y1 ⟨n, 3, none⟩ (.int .i64 ((oS bs 64 (oS bs 1 s).2).1 : Nat))) HB1.out HB2.out HOW.out)
  generalize y1.setCell ⟨n, 3, none⟩ (.int .i64 ((oS bs 64 (oS bs 1 s).2).1 : Nat)) = w2 at HA0 HM0 HG HFD ⊢
  clear HA HM HGn HFn x1 z1
  have HP := hid HFD.out.ptr
  refine wp_noPanic (wp_region_held_drew (S := fun W => W.cell? ⟨b, 0, none⟩ = some (.pointer (some ⟨rb, 0, none⟩))) (by kernel_rfl) HP.out ?_)
  intro hHeld
  refine wpAnyH_take (i := 0) (v := .pointer (some ⟨n, 4, none⟩)) rfl (by kernel_rfl) (by kernel_rfl) (by kernel_rfl) (fun _ _ _ h => h) (Or.inl ⟨by rfl, fun W _ => by go_simp⟩) hHeld ?_
  simp only [Act.put, List.getElem_toArray, List.getElem_cons_zero, List.setIfInBounds_toArray, List.set_cons_succ, List.set_cons_zero]
  refine wpAnyH_take (i := 1) (v := .slice (some ⟨n, 4, none⟩) 32 32) rfl (by kernel_rfl) (by kernel_rfl) (by kernel_rfl) (fun _ _ _ h => h) (Or.inl ⟨by rfl, fun W _ => by go_simp⟩) hHeld ?_
  simp only [Act.put, List.getElem_toArray, List.getElem_cons_zero, List.getElem_cons_succ, List.setIfInBounds_toArray, List.set_cons_succ, List.set_cons_zero]
  refine wpAnyH_take (i := 2) (v := .pointer (some ⟨b, 0, none⟩)) rfl (by kernel_rfl) (by kernel_rfl) (by kernel_rfl) (fun _ _ _ h => h) (Or.inl ⟨by rfl, fun W _ => by go_simp⟩) hHeld ?_
  simp only [Act.put, List.getElem_toArray, List.getElem_cons_zero, List.getElem_cons_succ, List.setIfInBounds_toArray, List.set_cons_succ, List.set_cons_zero]
  refine wpAnyH_take (i := 3) (v := .pointer (some ⟨b, 0, none⟩)) rfl (by kernel_rfl) (by kernel_rfl) (by kernel_rfl) (fun _ _ _ h => h) (Or.inl ⟨by rfl, fun W _ => by go_simp⟩) hHeld ?_
  simp only [Act.put, List.getElem_toArray, List.getElem_cons_zero, List.getElem_cons_succ, List.setIfInBounds_toArray, List.set_cons_succ, List.set_cons_zero]
  refine wpAnyH_take (i := 4) (v := .pointer (some ⟨b, 0, none⟩)) rfl (by kernel_rfl) (by kernel_rfl) (by kernel_rfl) (fun _ _ _ h => h) (Or.inl ⟨by rfl, fun W _ => by go_simp⟩) hHeld ?_
  simp only [Act.put, List.getElem_toArray, List.getElem_cons_zero, List.getElem_cons_succ, List.setIfInBounds_toArray, List.set_cons_succ, List.set_cons_zero]
  refine wpAnyH_take (i := 5) (v := .pointer (some ⟨rb, 0, none⟩)) rfl (by kernel_rfl) (by kernel_rfl) (by kernel_rfl) (fun _ _ _ h => h) (Or.inl ⟨by rfl, fun W hW => by have hcell := hW; clear hW; go_simp⟩) hHeld ?_
  simp only [Act.put, List.getElem_toArray, List.getElem_cons_zero, List.getElem_cons_succ, List.setIfInBounds_toArray, List.set_cons_succ, List.set_cons_zero]
  have HFx := hid (show Fd w2.drew base b rb v bs (oS bs 64 (oS bs 1 s).2).2 from HFD.out.below ⟨rfl, rfl, rfl, Nat.le_refl _, fun _ _ => rfl⟩)
  have HAx := hid (show w2.drew.heap[n]? = some (.cells (fcells (⟨1, 0, (((oS bs 1 s).1 : Nat) : Int), (((oS bs 64 (oS bs 1 s).2).1 : Nat) : Int), z32f, 0, (0, 0, 0), [], []⟩ : Fr) nS).toArray 30 (0, 0)) from HA0.out)
  have HMx := hid (show w2.drew.heap[n + 1]? = some (.cells (fcells zF nS).toArray 30 (0, 0)) from HM0.out)
  have HGx := hid (show G2 w w2.drew b rb from HG.out.trans (G2.of_below ⟨rfl, rfl, rfl, Nat.le_refl _, fun _ _ => rfl⟩))
  obtain ⟨wx, HWX⟩ : ∃ x, Hid (w2.drew = x) := ⟨_, rfl⟩
  rw [HWX.out] at hHeld HFx HAx HMx HGx ⊢
  refine wpAnyH_ready (rs := [6]) (by kernel_rfl) (by simp) ?_
  refine AllReadyH.cons rfl (fun K9 hK9 => ?_) AllReadyH.nil
  go_simp
  refine (fd_raw 32 (by omega) (by omega) HFx.out).mono ?_
  rintro e y ⟨vr, rfl, hor, hfr, hgr⟩
  have HA := hid ((hgr.block n (hp_lt HAx.out) (fun e => by injection e with e; have := HB2.out; omega)).trans HAx.out)
  have HM := hid ((hgr.block (n + 1) (hp_lt HMx.out) (fun e => by injection e with e; have := HB2.out; omega)).trans HMx.out)
  have HGn := hid (HGx.out.trans (G2.of_second hgr))
  have HFn := hid hfr
  have HLR := hid (rS_len bs (oS bs 64 (oS bs 1 s).2).2)
  have HSR := hid (hor.src (by have := HLR.out; omega))
  obtain ⟨ar, cr, er⟩ := src_shape HSR.out
  obtain ⟨RL, HRL⟩ : ∃ l, Hid ((rS bs 32 (oS bs 64 (oS bs 1 s).2).2).1 = l) := ⟨_, rfl⟩
  rw [HRL.out] at er HLR HSR
  subst er
  have hq := hfr.ptr
  clear hor hfr hgr HFD HA0 HM0 HG HFx HAx HMx HGx HP
  go_wp2_with fail
  refine hK9.out _ _ hq (fun hHeld => ?_)
  clear hK9 K9
  try simp only [Act.put, List.getElem_toArray, List.getElem_cons_zero, List.getElem_cons_succ, List.setIfInBounds_toArray, List.set_cons_succ, List.set_cons_zero]
  refine wpAnyH_ready (rs := [7]) (by kernel_rfl) (by simp) ?_
  refine AllReadyH.cons rfl (fun K9 hK9 => ?_) AllReadyH.nil
  refine step_copy_g (by rfl) (.tmp 12) (.tmp 17) 22 22 (by rfl) 5 Tryz.underlying22 (by kernel_rfl) (some ⟨n, 4, none⟩) ar 32 32 RL.length cr (by rfl) (by rfl) n 4 _ 30 HA.out (bytesV RL) (by rw [bytesV_length]; have := HLR.out; simp only [Nat.min_def]; split <;> omega) (fun h9 => ⟨rfl, src_addr HSR.out (by rw [bytesV_length] at h9; exact h9)⟩) (by rw [bytesV_length, fcells_length _ _ rfl]; have := HLR.out; omega) (bytesV_one RL) ?_
  intro wz0 hz0 hgz
  have HA0 := hid (show wz0.heap[n]? = some (.cells (fcells (⟨1, 0, (((oS bs 1 s).1 : Nat) : Int), (((oS bs 64 (oS bs 1 s).2).1 : Nat) : Int), (pad32 RL), 0, (0, 0, 0), [], []⟩ : Fr) nS).toArray 30 (0, 0)) from hz0.trans (by rw [fsplice (⟨1, 0, (((oS bs 1 s).1 : Nat) : Int), (((oS bs 64 (oS bs 1 s).2).1 : Nat) : Int), z32f, 0, (0, 0, 0), [], []⟩ : Fr) nS rfl RL HLR.out]; rfl))
  have HM0 := hid ((hgz.block (n + 1) (hp_lt HM.out) (fun e => by injection e with e; omega)).trans HM.out)
  have HG := hid (HGn.out.then_new hgz (by rw [HN.out]; exact Nat.le_refl _))
  have HFD := hid (HFn.out.far hgz HB1.out HB2.out HOW.out)
  have hq2 := HFD.out.ptr
  clear hz0 hgz HA HM HGn HFn
  refine hK9.out _ _ hq2 (fun hHeld => ?_)
  clear hK9 K9
  try simp only [Act.put, List.getElem_toArray, List.getElem_cons_zero, List.getElem_cons_succ, List.setIfInBounds_toArray, List.set_cons_succ, List.set_cons_zero]
  refine wpAnyH_done (by kernel_rfl) ?_ _
  simp only [noPanic]
  clear hHeld
  rw [← HRL.out] at HA0
  obtain ⟨FF, HFF⟩ : ∃ L, Hid (fcells (⟨1, 0, (((oS bs 1 s).1 : Nat) : Int), (((oS bs 64 (oS bs 1 s).2).1 : Nat) : Int), (pad32 (rS bs 32 (oS bs 64 (oS bs 1 s).2).2).1), 0, (0, 0, 0), [], []⟩ : Fr) nS = L) := ⟨_, rfl⟩
  have HSZ := hid (frame_size (⟨1, 0, (((oS bs 1 s).1 : Nat) : Int), (((oS bs 64 (oS bs 1 s).2).1 : Nat) : Int), (pad32 (rS bs 32 (oS bs 64 (oS bs 1 s).2).2).1), 0, (0, 0, 0), [], []⟩ : Fr) nS (pad32_length _))
  have HON := hid (fcells_one (⟨1, 0, (((oS bs 1 s).1 : Nat) : Int), (((oS bs 64 (oS bs 1 s).2).1 : Nat) : Int), (pad32 (rS bs 32 (oS bs 64 (oS bs 1 s).2).2).1), 0, (0, 0, 0), [], []⟩ : Fr) nS rfl)
  have HOS := hid (show (fcells zF nS).toArray.size = (fcells (⟨1, 0, (((oS bs 1 s).1 : Nat) : Int), (((oS bs 64 (oS bs 1 s).2).1 : Nat) : Int), (pad32 (rS bs 32 (oS bs 64 (oS bs 1 s).2).2).1), 0, (0, 0, 0), [], []⟩ : Fr) nS).length by rw [fcells_length _ _ (pad32_length _)]; rfl)
  rw [HFF.out] at HA0 HSZ HON HOS
  go_wp2_with (first
    | (refine ld_row (by rfl) 30 (.tmp 3) (by rfl) n (by rfl) FF 30 HA0.out _ Tryz.underlying30 rfl HSZ.out ?_)
    | (refine st_row (by rfl) 30 _ _ (by rfl) (n + 1) FF (by rfl) (by rfl) 30 _ HM0.out HSZ.out HOS.out HON.out ?_; intro wz hwz))
  refine ret_row 4 30 rfl (n + 1) rfl FF 30 hwz.blk _ Tryz.underlying30 rfl HSZ.out rfl ⟨nS, by rw [← HFF.out, fieldsP_1], ?_, ?_, HG.out.then_new hwz.grown (by rw [HN.out]; omega)⟩
  · rw [fieldsP_1]
    exact World.ownsRow_nil _ _ _ _
  · rw [fieldsP_1]
    exact HFD.out.far hwz.grown (by have := HB1.out; omega) (by have := HB2.out; omega) (fun k hk => by have := HOW.out k hk; omega)

end Go.Proofs.YtiibhccbbpgehaaGreat

/- The plan of a frame of kind 1. -/
namespace Go.Proofs.YtiibhccbbpgehaaGreat
open Go.RowKit Go.BigFrame

theorem kindOf_1 (w : World) : Calls Tryz.prog 68 #[.int .i64 1] w fun e w' => e = .returned (.tuple #[.agg k1.toArray, .bool true]) ∧ Below w.heap.size w w' := kindOf_any 1 w

set_option maxRecDepth 100000 in
set_option maxHeartbeats 8000000 in
theorem plan1_any (f : Fr) (va : Value) (w : World) (M : Bool) (Z : Int) (hf : f.tool.length = 32) (ha : Strs w va f.args) (hn : f.args.length ≤ 9223372036854775807) (hk : f.kind = 1)
    (hmay : ∀ W, Strs W va f.args → Calls Tryz.prog 120 #[.agg (fcells f va).toArray] W fun e w' => e = .returned (.bool M) ∧ Below W.heap.size W w')
    (hsz : sameP f (ownF f) = true → M = true → ∀ W, Strs W va f.args → Calls Tryz.prog 109 #[.agg k1.toArray, .agg (fcells f va).toArray] W fun e w' => e = .returned (.int .i64 Z) ∧ Below W.heap.size W w') :
    Calls Tryz.prog 79 #[.agg (fcells f va).toArray] w fun e w' => e = .returned (planA k1 (sameP f (ownF f)) M Z) ∧ Below w.heap.size w w' := by
  obtain ⟨ao, c, rfl⟩ := ha.shape
  have HNB := hid (hp_two w (.cells (fcells f (.slice ao f.args.length c)).toArray 30) (.cells zRow.toArray 135))
  have HBL := hid (below_walk2 w (.cells (fcells f (.slice ao f.args.length c)).toArray 30) (.cells zRow.toArray 135))
  have HZ : Hid ((w.alloc (.cells (fcells f (.slice ao f.args.length c)).toArray 30)).heap.size = w.heap.size + 1) := hid (by simp)
  have HSZ := hid (frame_size f (.slice ao f.args.length c) hf)
  have HS0 := hid ha
  have HF := hid hf
  have HK := hid hk
  have HOWN := hid (fun W => ownHello_any f (.slice ao f.args.length c) W hk hf ⟨_, _, _, rfl⟩)
  have HSAME := hid (fun W (h : Strs W (.slice ao f.args.length c) f.args) => same_any f (ownF f) (.slice ao f.args.length c) (ownV f (.slice ao f.args.length c)) W hf (ownF_tool f hf) h (own_strs h) hn)
  have HMAY := hid hmay
  have HSIZE := hid hsz
  clear hf ha hn hk hmay hsz
  go_enter Tryz.func79, Tryz.ntmps79
  go_upto_region 1 with (refine al_row (by rfl) 135 (by rfl) _ zeroKind ?_)
  try rw [HZ.out]
  generalize (w.alloc (.cells (fcells f (.slice ao f.args.length c)).toArray 30)).alloc (.cells zRow.toArray 135) = w2 at HNB HBL ⊢
  have x0 := (Fb.of HNB.out.1 HF.out).k
  rw [HK.out] at x0
  have HL2 := hid (hp_lt HNB.out.2)
  go_wp2_with fail
  refine (kindOf_1 w2).mono ?_
  rintro e w3 ⟨rfl, hb3⟩
  have HN1 := hid ((hb3.block _ (by have := HL2.out; omega)).trans HNB.out.1)
  have HN2 := hid ((hb3.block _ HL2.out).trans HNB.out.2)
  have HB3 := hid (below_then HBL.out hb3)
  have HL3 := hid (hp_lt HN2.out)
  clear hb3 x0 HNB HBL HL2
  go_upto_region 2 with (first
    | (refine al_row (by rfl) 135 (by rfl) _ zeroKind ?_)
    | (refine st_new (by rfl) 135 _ _ (by rfl) k1 (by rfl) (by rfl) 135 _ kindSize rfl (kOne _ _ _ _ _) ?_))
  have HN4 := hid ((below_walk w3 (.cells k1.toArray 135)).block _ (by have := HL3.out; omega) |>.trans HN1.out)
  have HN5 := hid ((below_walk w3 (.cells k1.toArray 135)).block _ HL3.out |>.trans HN2.out)
  have HN6 := hid (hp_new w3 (.cells k1.toArray 135))
  have HB4 := hid (below_then HB3.out (below_walk w3 (.cells k1.toArray 135)))
  obtain ⟨B5, HB5⟩ : ∃ b : Nat, Hid (w3.heap.size = b) := ⟨_, rfl⟩
  rw [HB5.out] at HN6 ⊢
  generalize w3.alloc (.cells k1.toArray 135) = w4 at HN4 HN5 HN6 HB4 ⊢
  clear HN1 HN2 HB3 HL3
  have HS4 := hid (HS0.out.below HB4.out)
  have HL6 := hid (hp_lt HN6.out)
  have HL4 := hid (hp_lt HN4.out)
  have y1 : w4.cell? ⟨B5, 1, none⟩ = some (.func (.func 119) #[] #[]) := by rw [cell_of_row w4 B5 1 _ _ _ HN6.out]; rfl
  have y2 : w4.cell? ⟨B5, 2, none⟩ = some (.func (.func 120) #[] #[]) := by rw [cell_of_row w4 B5 2 _ _ _ HN6.out]; rfl
  have z1 := fun p : Bel w4 => p.cell y1 HL6.out
  have z2 := fun p : Bel w4 => p.cell y2 HL6.out
  have ib : Nonempty (Bel w4) := bel_some w4
  have HRA := hid (Bel.range (range_row HN4.out) HL4.out)
  have HSM := hid (fun p : Bel w4 => HSAME.out p.out (HS4.out.below p.bel))
  have HMY := hid (fun p : Bel w4 => HMAY.out p.out (HS4.out.below p.bel))
  clear y1 y2 HSAME HMAY
  obtain ⟨FF, HFF⟩ : ∃ x, Hid (fcells f (.slice ao f.args.length c) = x) := ⟨_, rfl⟩
  obtain ⟨FO, HFO⟩ : ∃ x, Hid (fcells (ownF f) (ownV f (.slice ao f.args.length c)) = x) := ⟨_, rfl⟩
  rw [HFF.out] at HOWN HSM HMY HSIZE HN4 HSZ HRA ⊢
  rw [HFO.out] at HOWN HSM
  cases hS : sameP f (ownF f) with
  | false =>
    as_aux_lemma =>
      have HPA := hid (show planA k1 (sameP f (ownF f)) M Z = .tuple #[.agg zRow.toArray, .int .i64 0, .int .i64 70] by unfold planA; rw [hS]; rfl)
      rw [hS] at HSM
      clear hS HSIZE
      refine wp_region_quiet_bel (by kernel_rfl) (by kernel_rfl) ?_
      go_big_quiet_step (fail)
      go_big_quiet_step (fail)
      go_big_quiet_step (fail)
      refine wpQuiet_want (by rfl) fun K hK => quiet_ld 30 (.tmp 1) (by rfl) w.heap.size 0 (by rfl) _ _ HRA.out Tryz.underlying30 rfl HSZ.out (hK _ ?_)
      simp only [Act.put, List.setIfInBounds_toArray, List.set_cons_succ, List.set_cons_zero]
      go_big_quiet_step (fail)
      go_big_quiet_step (fail)
      refine wpQuiet_want (by rfl) fun K hK => quiet_ld 30 (.tmp 1) (by rfl) w.heap.size 0 (by rfl) _ _ HRA.out Tryz.underlying30 rfl HSZ.out (hK _ ?_)
      simp only [Act.put, List.setIfInBounds_toArray, List.set_cons_succ, List.set_cons_zero]
      go_big_quiet_step (first | (go_at_call 119; exact bel_of (HOWN.out _)))
      go_big_quiet_step (first | (go_at_call 108; exact bel_of (HSM.out _)))
      go_big_quiet_step (fail)
      go_big_quiet_step (fail)
      go_big_quiet_step (fail)
      go_big_quiet_step (fail)
      go_big_quiet_step (fail)
      go_big_quiet_step (fail)
      go_big_quiet_step (fail)
      go_big_quiet_step (fail)
      go_big_quiet_step (fail)
      refine wpQuiet_nil ?_
      rintro w5 ⟨⟨w5', hb5⟩, hw5⟩
      obtain rfl : w5 = w5' := hw5
      have HN7 := hid ((hb5.block _ HL4.out).trans HN4.out)
      have HN8 := hid ((hb5.block _ (hp_lt HN5.out)).trans HN5.out)
      have HN9 := hid ((hb5.block _ HL6.out).trans HN6.out)
      have HB6 := hid (below_then HB4.out hb5)
      have HS5 := hid (HS4.out.below hb5)
      clear hb5 z1 z2 ib HRA HN4 HN5 HN6 HB4 HL4 HL6 HOWN HSM HMY
      go_wp2_with (first
        | (refine bd_row (by rfl) 135 #[] (by rfl) [] (by simp) zRow.toArray built_zRow ?_)
        | (refine st_row (by rfl) 135 _ _ (by rfl) (w.heap.size + 1) zRow (by rfl) (by rfl) 135 _ HN8.out kindSize rfl zOne ?_; intro w7 hw7))
      refine ret_row3 2 3 4 135 rfl (w.heap.size + 1) rfl zRow 135 hw7.blk _ Tryz.underlying135 rfl kindSize _ _ rfl rfl rfl ⟨by rw [HPA.out]; rfl, Below.of_gb HB6.out hw7.grown (by omega)⟩
  | true =>
    rw [hS] at HSM
    have HSI := hid (HSIZE.out hS)
    clear HSIZE
    cases M with
    | false =>
      as_aux_lemma =>
        have HPA := hid (show planA k1 (sameP f (ownF f)) false Z = .tuple #[.agg zRow.toArray, .int .i64 0, .int .i64 70] by unfold planA; rw [hS]; rfl)
        clear hS HSI
        refine wp_region_quiet_bel (by kernel_rfl) (by kernel_rfl) ?_
        go_big_quiet_step (fail)
        go_big_quiet_step (fail)
        go_big_quiet_step (fail)
        refine wpQuiet_want (by rfl) fun K hK => quiet_ld 30 (.tmp 1) (by rfl) w.heap.size 0 (by rfl) _ _ HRA.out Tryz.underlying30 rfl HSZ.out (hK _ ?_)
        simp only [Act.put, List.setIfInBounds_toArray, List.set_cons_succ, List.set_cons_zero]
        go_big_quiet_step (fail)
        go_big_quiet_step (fail)
        refine wpQuiet_want (by rfl) fun K hK => quiet_ld 30 (.tmp 1) (by rfl) w.heap.size 0 (by rfl) _ _ HRA.out Tryz.underlying30 rfl HSZ.out (hK _ ?_)
        simp only [Act.put, List.setIfInBounds_toArray, List.set_cons_succ, List.set_cons_zero]
        go_big_quiet_step (first | (go_at_call 119; exact bel_of (HOWN.out _)))
        go_big_quiet_step (first | (go_at_call 108; exact bel_of (HSM.out _)))
        go_big_quiet_step (fail)
        go_big_quiet_step (fail)
        go_big_quiet_step (fail)
        go_big_quiet_step (fail)
        go_big_quiet_step (fail)
        refine wpQuiet_want (by rfl) fun K hK => quiet_ld 30 (.tmp 1) (by rfl) w.heap.size 0 (by rfl) _ _ HRA.out Tryz.underlying30 rfl HSZ.out (hK _ ?_)
        simp only [Act.put, List.setIfInBounds_toArray, List.set_cons_succ, List.set_cons_zero]
        go_big_quiet_step (first | (go_at_call 120; exact bel_of (HMY.out _)))
        go_big_quiet_step (fail)
        go_big_quiet_step (fail)
        refine wpQuiet_nil ?_
        rintro w5 ⟨⟨w5', hb5⟩, hw5⟩
        obtain rfl : w5 = w5' := hw5
        have HN7 := hid ((hb5.block _ HL4.out).trans HN4.out)
        have HN8 := hid ((hb5.block _ (hp_lt HN5.out)).trans HN5.out)
        have HN9 := hid ((hb5.block _ HL6.out).trans HN6.out)
        have HB6 := hid (below_then HB4.out hb5)
        have HS5 := hid (HS4.out.below hb5)
        clear hb5 z1 z2 ib HRA HN4 HN5 HN6 HB4 HL4 HL6 HOWN HSM HMY
        go_wp2_with (first
          | (refine bd_row (by rfl) 135 #[] (by rfl) [] (by simp) zRow.toArray built_zRow ?_)
          | (refine st_row (by rfl) 135 _ _ (by rfl) (w.heap.size + 1) zRow (by rfl) (by rfl) 135 _ HN8.out kindSize rfl zOne ?_; intro w7 hw7))
        refine ret_row3 2 3 4 135 rfl (w.heap.size + 1) rfl zRow 135 hw7.blk _ Tryz.underlying135 rfl kindSize _ _ rfl rfl rfl ⟨by rw [HPA.out]; rfl, Below.of_gb HB6.out hw7.grown (by omega)⟩
    | true =>
      as_aux_lemma =>
        have HSJ := hid (HSI.out rfl)
        clear HSI
        refine wp_region_quiet_bel (by kernel_rfl) (by kernel_rfl) ?_
        go_big_quiet_step (fail)
        go_big_quiet_step (fail)
        go_big_quiet_step (fail)
        refine wpQuiet_want (by rfl) fun K hK => quiet_ld 30 (.tmp 1) (by rfl) w.heap.size 0 (by rfl) _ _ HRA.out Tryz.underlying30 rfl HSZ.out (hK _ ?_)
        simp only [Act.put, List.setIfInBounds_toArray, List.set_cons_succ, List.set_cons_zero]
        go_big_quiet_step (fail)
        go_big_quiet_step (fail)
        refine wpQuiet_want (by rfl) fun K hK => quiet_ld 30 (.tmp 1) (by rfl) w.heap.size 0 (by rfl) _ _ HRA.out Tryz.underlying30 rfl HSZ.out (hK _ ?_)
        simp only [Act.put, List.setIfInBounds_toArray, List.set_cons_succ, List.set_cons_zero]
        go_big_quiet_step (first | (go_at_call 119; exact bel_of (HOWN.out _)))
        go_big_quiet_step (first | (go_at_call 108; exact bel_of (HSM.out _)))
        go_big_quiet_step (fail)
        go_big_quiet_step (fail)
        go_big_quiet_step (fail)
        go_big_quiet_step (fail)
        go_big_quiet_step (fail)
        refine wpQuiet_want (by rfl) fun K hK => quiet_ld 30 (.tmp 1) (by rfl) w.heap.size 0 (by rfl) _ _ HRA.out Tryz.underlying30 rfl HSZ.out (hK _ ?_)
        simp only [Act.put, List.setIfInBounds_toArray, List.set_cons_succ, List.set_cons_zero]
        go_big_quiet_step (first | (go_at_call 120; exact bel_of (HMY.out _)))
        go_big_quiet_step (fail)
        go_big_quiet_step (fail)
        refine wpQuiet_nil ?_
        rintro w5 ⟨⟨w5', hb5⟩, hw5⟩
        obtain rfl : w5 = w5' := hw5
        have HN7 := hid ((hb5.block _ HL4.out).trans HN4.out)
        have HN8 := hid ((hb5.block _ (hp_lt HN5.out)).trans HN5.out)
        have HN9 := hid ((hb5.block _ HL6.out).trans HN6.out)
        have HB6 := hid (below_then HB4.out hb5)
        have HS5 := hid (HS4.out.below hb5)
        clear hb5 z1 z2 ib HRA HN4 HN5 HN6 HB4 HL4 HL6 HOWN HSM HMY
        go_wp2_with (first
          | (refine ld_row (by rfl) 135 (.tmp 5) (by rfl) B5 (by rfl) k1 135 HN9.out _ Tryz.underlying135 rfl kindSize ?_)
          | (refine ld_row (by rfl) 30 (.tmp 1) (by rfl) w.heap.size (by rfl) FF 30 HN7.out _ Tryz.underlying30 rfl HSZ.out ?_))
        refine (HSJ.out w5 HS5.out).mono ?_
        rintro e w6 ⟨rfl, hb6⟩
        have HNA := hid ((hb6.block _ (hp_lt HN8.out)).trans HN8.out)
        have HNB := hid ((hb6.block _ (hp_lt HN9.out)).trans HN9.out)
        have HB7 := hid (below_then HB6.out hb6)
        clear hb6 HN7 HN8 HN9 HB6 HSJ
        by_cases hZ : 2097152 < Z
        · have HPA := hid (show planA k1 (sameP f (ownF f)) true Z = .tuple #[.agg zRow.toArray, .int .i64 0, .int .i64 3] by unfold planA; rw [hS]; simp only [Bool.and_true, if_true, if_pos hZ])
          have q1 : decide ((2097152 : Int) < Z) = true := by simpa using hZ
          clear hS
          go_wp2_with (first
            | (refine bd_row (by rfl) 135 #[] (by rfl) [] (by simp) zRow.toArray built_zRow ?_)
            | (refine st_row (by rfl) 135 _ _ (by rfl) (w.heap.size + 1) zRow (by rfl) (by rfl) 135 _ HNA.out kindSize rfl zOne ?_; intro w7 hw7))
          refine ret_row3 2 3 4 135 rfl (w.heap.size + 1) rfl zRow 135 hw7.blk _ Tryz.underlying135 rfl kindSize _ _ rfl rfl rfl ⟨by rw [HPA.out]; rfl, Below.of_gb HB7.out hw7.grown (by omega)⟩
        · have HPA := hid (show planA k1 (sameP f (ownF f)) true Z = .tuple #[.agg k1.toArray, .int .i64 Z, .int .i64 0] by unfold planA; rw [hS]; simp only [Bool.and_true, if_true, if_neg hZ])
          have q1 : decide ((2097152 : Int) < Z) = false := by simpa using hZ
          clear hS
          go_wp2_with (first
            | (refine ld_row (by rfl) 135 (.tmp 5) (by rfl) B5 (by rfl) k1 135 HNB.out _ Tryz.underlying135 rfl kindSize ?_)
            | (refine st_row (by rfl) 135 _ _ (by rfl) (w.heap.size + 1) k1 (by rfl) (by rfl) 135 _ HNA.out kindSize rfl (kOne _ _ _ _ _) ?_; intro w7 hw7))
          refine ret_row3 2 3 4 135 rfl (w.heap.size + 1) rfl k1 135 hw7.blk _ Tryz.underlying135 rfl kindSize _ _ rfl rfl rfl ⟨by rw [HPA.out]; rfl, Below.of_gb HB7.out hw7.grown (by omega)⟩

end Go.Proofs.YtiibhccbbpgehaaGreat

/- The plan of a frame of kind 2. -/
namespace Go.Proofs.YtiibhccbbpgehaaGreat
open Go.RowKit Go.BigFrame

theorem kindOf_2 (w : World) : Calls Tryz.prog 68 #[.int .i64 2] w fun e w' => e = .returned (.tuple #[.agg k2.toArray, .bool true]) ∧ Below w.heap.size w w' := kindOf_any 2 w

set_option maxRecDepth 100000 in
set_option maxHeartbeats 8000000 in
theorem plan2_any (f : Fr) (va : Value) (w : World) (M : Bool) (Z : Int) (hf : f.tool.length = 32) (ha : Strs w va f.args) (hn : f.args.length ≤ 9223372036854775807) (hk : f.kind = 2)
    (hmay : ∀ W, Strs W va f.args → Calls Tryz.prog 124 #[.agg (fcells f va).toArray] W fun e w' => e = .returned (.bool M) ∧ Below W.heap.size W w')
    (hsz : sameP f (ownF f) = true → M = true → ∀ W, Strs W va f.args → Calls Tryz.prog 109 #[.agg k2.toArray, .agg (fcells f va).toArray] W fun e w' => e = .returned (.int .i64 Z) ∧ Below W.heap.size W w') :
    Calls Tryz.prog 79 #[.agg (fcells f va).toArray] w fun e w' => e = .returned (planA k2 (sameP f (ownF f)) M Z) ∧ Below w.heap.size w w' := by
  obtain ⟨ao, c, rfl⟩ := ha.shape
  have HNB := hid (hp_two w (.cells (fcells f (.slice ao f.args.length c)).toArray 30) (.cells zRow.toArray 135))
  have HBL := hid (below_walk2 w (.cells (fcells f (.slice ao f.args.length c)).toArray 30) (.cells zRow.toArray 135))
  have HZ : Hid ((w.alloc (.cells (fcells f (.slice ao f.args.length c)).toArray 30)).heap.size = w.heap.size + 1) := hid (by simp)
  have HSZ := hid (frame_size f (.slice ao f.args.length c) hf)
  have HS0 := hid ha
  have HF := hid hf
  have HK := hid hk
  have HOWN := hid (fun W => ownRequest_any f (.slice ao f.args.length c) W hk hf ⟨_, _, _, rfl⟩)
  have HSAME := hid (fun W (h : Strs W (.slice ao f.args.length c) f.args) => same_any f (ownF f) (.slice ao f.args.length c) (ownV f (.slice ao f.args.length c)) W hf (ownF_tool f hf) h (own_strs h) hn)
  have HMAY := hid hmay
  have HSIZE := hid hsz
  clear hf ha hn hk hmay hsz
  go_enter Tryz.func79, Tryz.ntmps79
  go_upto_region 1 with (refine al_row (by rfl) 135 (by rfl) _ zeroKind ?_)
  try rw [HZ.out]
  generalize (w.alloc (.cells (fcells f (.slice ao f.args.length c)).toArray 30)).alloc (.cells zRow.toArray 135) = w2 at HNB HBL ⊢
  have x0 := (Fb.of HNB.out.1 HF.out).k
  rw [HK.out] at x0
  have HL2 := hid (hp_lt HNB.out.2)
  go_wp2_with fail
  refine (kindOf_2 w2).mono ?_
  rintro e w3 ⟨rfl, hb3⟩
  have HN1 := hid ((hb3.block _ (by have := HL2.out; omega)).trans HNB.out.1)
  have HN2 := hid ((hb3.block _ HL2.out).trans HNB.out.2)
  have HB3 := hid (below_then HBL.out hb3)
  have HL3 := hid (hp_lt HN2.out)
  clear hb3 x0 HNB HBL HL2
  go_upto_region 2 with (first
    | (refine al_row (by rfl) 135 (by rfl) _ zeroKind ?_)
    | (refine st_new (by rfl) 135 _ _ (by rfl) k2 (by rfl) (by rfl) 135 _ kindSize rfl (kOne _ _ _ _ _) ?_))
  have HN4 := hid ((below_walk w3 (.cells k2.toArray 135)).block _ (by have := HL3.out; omega) |>.trans HN1.out)
  have HN5 := hid ((below_walk w3 (.cells k2.toArray 135)).block _ HL3.out |>.trans HN2.out)
  have HN6 := hid (hp_new w3 (.cells k2.toArray 135))
  have HB4 := hid (below_then HB3.out (below_walk w3 (.cells k2.toArray 135)))
  obtain ⟨B5, HB5⟩ : ∃ b : Nat, Hid (w3.heap.size = b) := ⟨_, rfl⟩
  rw [HB5.out] at HN6 ⊢
  generalize w3.alloc (.cells k2.toArray 135) = w4 at HN4 HN5 HN6 HB4 ⊢
  clear HN1 HN2 HB3 HL3
  have HS4 := hid (HS0.out.below HB4.out)
  have HL6 := hid (hp_lt HN6.out)
  have HL4 := hid (hp_lt HN4.out)
  have y1 : w4.cell? ⟨B5, 1, none⟩ = some (.func (.func 123) #[] #[]) := by rw [cell_of_row w4 B5 1 _ _ _ HN6.out]; rfl
  have y2 : w4.cell? ⟨B5, 2, none⟩ = some (.func (.func 124) #[] #[]) := by rw [cell_of_row w4 B5 2 _ _ _ HN6.out]; rfl
  have z1 := fun p : Bel w4 => p.cell y1 HL6.out
  have z2 := fun p : Bel w4 => p.cell y2 HL6.out
  have ib : Nonempty (Bel w4) := bel_some w4
  have HRA := hid (Bel.range (range_row HN4.out) HL4.out)
  have HSM := hid (fun p : Bel w4 => HSAME.out p.out (HS4.out.below p.bel))
  have HMY := hid (fun p : Bel w4 => HMAY.out p.out (HS4.out.below p.bel))
  clear y1 y2 HSAME HMAY
  obtain ⟨FF, HFF⟩ : ∃ x, Hid (fcells f (.slice ao f.args.length c) = x) := ⟨_, rfl⟩
  obtain ⟨FO, HFO⟩ : ∃ x, Hid (fcells (ownF f) (ownV f (.slice ao f.args.length c)) = x) := ⟨_, rfl⟩
  rw [HFF.out] at HOWN HSM HMY HSIZE HN4 HSZ HRA ⊢
  rw [HFO.out] at HOWN HSM
  cases hS : sameP f (ownF f) with
  | false =>
    as_aux_lemma =>
      have HPA := hid (show planA k2 (sameP f (ownF f)) M Z = .tuple #[.agg zRow.toArray, .int .i64 0, .int .i64 70] by unfold planA; rw [hS]; rfl)
      rw [hS] at HSM
      clear hS HSIZE
      refine wp_region_quiet_bel (by kernel_rfl) (by kernel_rfl) ?_
      go_big_quiet_step (fail)
      go_big_quiet_step (fail)
      go_big_quiet_step (fail)
      refine wpQuiet_want (by rfl) fun K hK => quiet_ld 30 (.tmp 1) (by rfl) w.heap.size 0 (by rfl) _ _ HRA.out Tryz.underlying30 rfl HSZ.out (hK _ ?_)
      simp only [Act.put, List.setIfInBounds_toArray, List.set_cons_succ, List.set_cons_zero]
      go_big_quiet_step (fail)
      go_big_quiet_step (fail)
      refine wpQuiet_want (by rfl) fun K hK => quiet_ld 30 (.tmp 1) (by rfl) w.heap.size 0 (by rfl) _ _ HRA.out Tryz.underlying30 rfl HSZ.out (hK _ ?_)
      simp only [Act.put, List.setIfInBounds_toArray, List.set_cons_succ, List.set_cons_zero]
      go_big_quiet_step (first | (go_at_call 123; exact bel_of (HOWN.out _)))
      go_big_quiet_step (first | (go_at_call 108; exact bel_of (HSM.out _)))
      go_big_quiet_step (fail)
      go_big_quiet_step (fail)
      go_big_quiet_step (fail)
      go_big_quiet_step (fail)
      go_big_quiet_step (fail)
      go_big_quiet_step (fail)
      go_big_quiet_step (fail)
      go_big_quiet_step (fail)
      go_big_quiet_step (fail)
      refine wpQuiet_nil ?_
      rintro w5 ⟨⟨w5', hb5⟩, hw5⟩
      obtain rfl : w5 = w5' := hw5
      have HN7 := hid ((hb5.block _ HL4.out).trans HN4.out)
      have HN8 := hid ((hb5.block _ (hp_lt HN5.out)).trans HN5.out)
      have HN9 := hid ((hb5.block _ HL6.out).trans HN6.out)
      have HB6 := hid (below_then HB4.out hb5)
      have HS5 := hid (HS4.out.below hb5)
      clear hb5 z1 z2 ib HRA HN4 HN5 HN6 HB4 HL4 HL6 HOWN HSM HMY
      go_wp2_with (first
        | (refine bd_row (by rfl) 135 #[] (by rfl) [] (by simp) zRow.toArray built_zRow ?_)
        | (refine st_row (by rfl) 135 _ _ (by rfl) (w.heap.size + 1) zRow (by rfl) (by rfl) 135 _ HN8.out kindSize rfl zOne ?_; intro w7 hw7))
      refine ret_row3 2 3 4 135 rfl (w.heap.size + 1) rfl zRow 135 hw7.blk _ Tryz.underlying135 rfl kindSize _ _ rfl rfl rfl ⟨by rw [HPA.out]; rfl, Below.of_gb HB6.out hw7.grown (by omega)⟩
  | true =>
    rw [hS] at HSM
    have HSI := hid (HSIZE.out hS)
    clear HSIZE
    cases M with
    | false =>
      as_aux_lemma =>
        have HPA := hid (show planA k2 (sameP f (ownF f)) false Z = .tuple #[.agg zRow.toArray, .int .i64 0, .int .i64 70] by unfold planA; rw [hS]; rfl)
        clear hS HSI
        refine wp_region_quiet_bel (by kernel_rfl) (by kernel_rfl) ?_
        go_big_quiet_step (fail)
        go_big_quiet_step (fail)
        go_big_quiet_step (fail)
        refine wpQuiet_want (by rfl) fun K hK => quiet_ld 30 (.tmp 1) (by rfl) w.heap.size 0 (by rfl) _ _ HRA.out Tryz.underlying30 rfl HSZ.out (hK _ ?_)
        simp only [Act.put, List.setIfInBounds_toArray, List.set_cons_succ, List.set_cons_zero]
        go_big_quiet_step (fail)
        go_big_quiet_step (fail)
        refine wpQuiet_want (by rfl) fun K hK => quiet_ld 30 (.tmp 1) (by rfl) w.heap.size 0 (by rfl) _ _ HRA.out Tryz.underlying30 rfl HSZ.out (hK _ ?_)
        simp only [Act.put, List.setIfInBounds_toArray, List.set_cons_succ, List.set_cons_zero]
        go_big_quiet_step (first | (go_at_call 123; exact bel_of (HOWN.out _)))
        go_big_quiet_step (first | (go_at_call 108; exact bel_of (HSM.out _)))
        go_big_quiet_step (fail)
        go_big_quiet_step (fail)
        go_big_quiet_step (fail)
        go_big_quiet_step (fail)
        go_big_quiet_step (fail)
        refine wpQuiet_want (by rfl) fun K hK => quiet_ld 30 (.tmp 1) (by rfl) w.heap.size 0 (by rfl) _ _ HRA.out Tryz.underlying30 rfl HSZ.out (hK _ ?_)
        simp only [Act.put, List.setIfInBounds_toArray, List.set_cons_succ, List.set_cons_zero]
        go_big_quiet_step (first | (go_at_call 124; exact bel_of (HMY.out _)))
        go_big_quiet_step (fail)
        go_big_quiet_step (fail)
        refine wpQuiet_nil ?_
        rintro w5 ⟨⟨w5', hb5⟩, hw5⟩
        obtain rfl : w5 = w5' := hw5
        have HN7 := hid ((hb5.block _ HL4.out).trans HN4.out)
        have HN8 := hid ((hb5.block _ (hp_lt HN5.out)).trans HN5.out)
        have HN9 := hid ((hb5.block _ HL6.out).trans HN6.out)
        have HB6 := hid (below_then HB4.out hb5)
        have HS5 := hid (HS4.out.below hb5)
        clear hb5 z1 z2 ib HRA HN4 HN5 HN6 HB4 HL4 HL6 HOWN HSM HMY
        go_wp2_with (first
          | (refine bd_row (by rfl) 135 #[] (by rfl) [] (by simp) zRow.toArray built_zRow ?_)
          | (refine st_row (by rfl) 135 _ _ (by rfl) (w.heap.size + 1) zRow (by rfl) (by rfl) 135 _ HN8.out kindSize rfl zOne ?_; intro w7 hw7))
        refine ret_row3 2 3 4 135 rfl (w.heap.size + 1) rfl zRow 135 hw7.blk _ Tryz.underlying135 rfl kindSize _ _ rfl rfl rfl ⟨by rw [HPA.out]; rfl, Below.of_gb HB6.out hw7.grown (by omega)⟩
    | true =>
      as_aux_lemma =>
        have HSJ := hid (HSI.out rfl)
        clear HSI
        refine wp_region_quiet_bel (by kernel_rfl) (by kernel_rfl) ?_
        go_big_quiet_step (fail)
        go_big_quiet_step (fail)
        go_big_quiet_step (fail)
        refine wpQuiet_want (by rfl) fun K hK => quiet_ld 30 (.tmp 1) (by rfl) w.heap.size 0 (by rfl) _ _ HRA.out Tryz.underlying30 rfl HSZ.out (hK _ ?_)
        simp only [Act.put, List.setIfInBounds_toArray, List.set_cons_succ, List.set_cons_zero]
        go_big_quiet_step (fail)
        go_big_quiet_step (fail)
        refine wpQuiet_want (by rfl) fun K hK => quiet_ld 30 (.tmp 1) (by rfl) w.heap.size 0 (by rfl) _ _ HRA.out Tryz.underlying30 rfl HSZ.out (hK _ ?_)
        simp only [Act.put, List.setIfInBounds_toArray, List.set_cons_succ, List.set_cons_zero]
        go_big_quiet_step (first | (go_at_call 123; exact bel_of (HOWN.out _)))
        go_big_quiet_step (first | (go_at_call 108; exact bel_of (HSM.out _)))
        go_big_quiet_step (fail)
        go_big_quiet_step (fail)
        go_big_quiet_step (fail)
        go_big_quiet_step (fail)
        go_big_quiet_step (fail)
        refine wpQuiet_want (by rfl) fun K hK => quiet_ld 30 (.tmp 1) (by rfl) w.heap.size 0 (by rfl) _ _ HRA.out Tryz.underlying30 rfl HSZ.out (hK _ ?_)
        simp only [Act.put, List.setIfInBounds_toArray, List.set_cons_succ, List.set_cons_zero]
        go_big_quiet_step (first | (go_at_call 124; exact bel_of (HMY.out _)))
        go_big_quiet_step (fail)
        go_big_quiet_step (fail)
        refine wpQuiet_nil ?_
        rintro w5 ⟨⟨w5', hb5⟩, hw5⟩
        obtain rfl : w5 = w5' := hw5
        have HN7 := hid ((hb5.block _ HL4.out).trans HN4.out)
        have HN8 := hid ((hb5.block _ (hp_lt HN5.out)).trans HN5.out)
        have HN9 := hid ((hb5.block _ HL6.out).trans HN6.out)
        have HB6 := hid (below_then HB4.out hb5)
        have HS5 := hid (HS4.out.below hb5)
        clear hb5 z1 z2 ib HRA HN4 HN5 HN6 HB4 HL4 HL6 HOWN HSM HMY
        go_wp2_with (first
          | (refine ld_row (by rfl) 135 (.tmp 5) (by rfl) B5 (by rfl) k2 135 HN9.out _ Tryz.underlying135 rfl kindSize ?_)
          | (refine ld_row (by rfl) 30 (.tmp 1) (by rfl) w.heap.size (by rfl) FF 30 HN7.out _ Tryz.underlying30 rfl HSZ.out ?_))
        refine (HSJ.out w5 HS5.out).mono ?_
        rintro e w6 ⟨rfl, hb6⟩
        have HNA := hid ((hb6.block _ (hp_lt HN8.out)).trans HN8.out)
        have HNB := hid ((hb6.block _ (hp_lt HN9.out)).trans HN9.out)
        have HB7 := hid (below_then HB6.out hb6)
        clear hb6 HN7 HN8 HN9 HB6 HSJ
        by_cases hZ : 2097152 < Z
        · have HPA := hid (show planA k2 (sameP f (ownF f)) true Z = .tuple #[.agg zRow.toArray, .int .i64 0, .int .i64 3] by unfold planA; rw [hS]; simp only [Bool.and_true, if_true, if_pos hZ])
          have q1 : decide ((2097152 : Int) < Z) = true := by simpa using hZ
          clear hS
          go_wp2_with (first
            | (refine bd_row (by rfl) 135 #[] (by rfl) [] (by simp) zRow.toArray built_zRow ?_)
            | (refine st_row (by rfl) 135 _ _ (by rfl) (w.heap.size + 1) zRow (by rfl) (by rfl) 135 _ HNA.out kindSize rfl zOne ?_; intro w7 hw7))
          refine ret_row3 2 3 4 135 rfl (w.heap.size + 1) rfl zRow 135 hw7.blk _ Tryz.underlying135 rfl kindSize _ _ rfl rfl rfl ⟨by rw [HPA.out]; rfl, Below.of_gb HB7.out hw7.grown (by omega)⟩
        · have HPA := hid (show planA k2 (sameP f (ownF f)) true Z = .tuple #[.agg k2.toArray, .int .i64 Z, .int .i64 0] by unfold planA; rw [hS]; simp only [Bool.and_true, if_true, if_neg hZ])
          have q1 : decide ((2097152 : Int) < Z) = false := by simpa using hZ
          clear hS
          go_wp2_with (first
            | (refine ld_row (by rfl) 135 (.tmp 5) (by rfl) B5 (by rfl) k2 135 HNB.out _ Tryz.underlying135 rfl kindSize ?_)
            | (refine st_row (by rfl) 135 _ _ (by rfl) (w.heap.size + 1) k2 (by rfl) (by rfl) 135 _ HNA.out kindSize rfl (kOne _ _ _ _ _) ?_; intro w7 hw7))
          refine ret_row3 2 3 4 135 rfl (w.heap.size + 1) rfl k2 135 hw7.blk _ Tryz.underlying135 rfl kindSize _ _ rfl rfl rfl ⟨by rw [HPA.out]; rfl, Below.of_gb HB7.out hw7.grown (by omega)⟩

end Go.Proofs.YtiibhccbbpgehaaGreat

/- The plan of a frame of kind 3. -/
namespace Go.Proofs.YtiibhccbbpgehaaGreat
open Go.RowKit Go.BigFrame

theorem kindOf_3 (w : World) : Calls Tryz.prog 68 #[.int .i64 3] w fun e w' => e = .returned (.tuple #[.agg k3.toArray, .bool true]) ∧ Below w.heap.size w w' := kindOf_any 3 w

set_option maxRecDepth 100000 in
set_option maxHeartbeats 8000000 in
theorem plan3_any (f : Fr) (va : Value) (w : World) (M : Bool) (Z : Int) (hf : f.tool.length = 32) (ha : Strs w va f.args) (hn : f.args.length ≤ 9223372036854775807) (hk : f.kind = 3)
    (hmay : ∀ W, Strs W va f.args → Calls Tryz.prog 128 #[.agg (fcells f va).toArray] W fun e w' => e = .returned (.bool M) ∧ Below W.heap.size W w')
    (hsz : sameP f (ownF f) = true → M = true → ∀ W, Strs W va f.args → Calls Tryz.prog 109 #[.agg k3.toArray, .agg (fcells f va).toArray] W fun e w' => e = .returned (.int .i64 Z) ∧ Below W.heap.size W w') :
    Calls Tryz.prog 79 #[.agg (fcells f va).toArray] w fun e w' => e = .returned (planA k3 (sameP f (ownF f)) M Z) ∧ Below w.heap.size w w' := by
  obtain ⟨ao, c, rfl⟩ := ha.shape
  have HNB := hid (hp_two w (.cells (fcells f (.slice ao f.args.length c)).toArray 30) (.cells zRow.toArray 135))
  have HBL := hid (below_walk2 w (.cells (fcells f (.slice ao f.args.length c)).toArray 30) (.cells zRow.toArray 135))
  have HZ : Hid ((w.alloc (.cells (fcells f (.slice ao f.args.length c)).toArray 30)).heap.size = w.heap.size + 1) := hid (by simp)
  have HSZ := hid (frame_size f (.slice ao f.args.length c) hf)
  have HS0 := hid ha
  have HF := hid hf
  have HK := hid hk
  have HOWN := hid (fun W => ownResponse_any f (.slice ao f.args.length c) W hk hf ⟨_, _, _, rfl⟩)
  have HSAME := hid (fun W (h : Strs W (.slice ao f.args.length c) f.args) => same_any f (ownF f) (.slice ao f.args.length c) (ownV f (.slice ao f.args.length c)) W hf (ownF_tool f hf) h (own_strs h) hn)
  have HMAY := hid hmay
  have HSIZE := hid hsz
  clear hf ha hn hk hmay hsz
  go_enter Tryz.func79, Tryz.ntmps79
  go_upto_region 1 with (refine al_row (by rfl) 135 (by rfl) _ zeroKind ?_)
  try rw [HZ.out]
  generalize (w.alloc (.cells (fcells f (.slice ao f.args.length c)).toArray 30)).alloc (.cells zRow.toArray 135) = w2 at HNB HBL ⊢
  have x0 := (Fb.of HNB.out.1 HF.out).k
  rw [HK.out] at x0
  have HL2 := hid (hp_lt HNB.out.2)
  go_wp2_with fail
  refine (kindOf_3 w2).mono ?_
  rintro e w3 ⟨rfl, hb3⟩
  have HN1 := hid ((hb3.block _ (by have := HL2.out; omega)).trans HNB.out.1)
  have HN2 := hid ((hb3.block _ HL2.out).trans HNB.out.2)
  have HB3 := hid (below_then HBL.out hb3)
  have HL3 := hid (hp_lt HN2.out)
  clear hb3 x0 HNB HBL HL2
  go_upto_region 2 with (first
    | (refine al_row (by rfl) 135 (by rfl) _ zeroKind ?_)
    | (refine st_new (by rfl) 135 _ _ (by rfl) k3 (by rfl) (by rfl) 135 _ kindSize rfl (kOne _ _ _ _ _) ?_))
  have HN4 := hid ((below_walk w3 (.cells k3.toArray 135)).block _ (by have := HL3.out; omega) |>.trans HN1.out)
  have HN5 := hid ((below_walk w3 (.cells k3.toArray 135)).block _ HL3.out |>.trans HN2.out)
  have HN6 := hid (hp_new w3 (.cells k3.toArray 135))
  have HB4 := hid (below_then HB3.out (below_walk w3 (.cells k3.toArray 135)))
  obtain ⟨B5, HB5⟩ : ∃ b : Nat, Hid (w3.heap.size = b) := ⟨_, rfl⟩
  rw [HB5.out] at HN6 ⊢
  generalize w3.alloc (.cells k3.toArray 135) = w4 at HN4 HN5 HN6 HB4 ⊢
  clear HN1 HN2 HB3 HL3
  have HS4 := hid (HS0.out.below HB4.out)
  have HL6 := hid (hp_lt HN6.out)
  have HL4 := hid (hp_lt HN4.out)
  have y1 : w4.cell? ⟨B5, 1, none⟩ = some (.func (.func 127) #[] #[]) := by rw [cell_of_row w4 B5 1 _ _ _ HN6.out]; rfl
  have y2 : w4.cell? ⟨B5, 2, none⟩ = some (.func (.func 128) #[] #[]) := by rw [cell_of_row w4 B5 2 _ _ _ HN6.out]; rfl
  have z1 := fun p : Bel w4 => p.cell y1 HL6.out
  have z2 := fun p : Bel w4 => p.cell y2 HL6.out
  have ib : Nonempty (Bel w4) := bel_some w4
  have HRA := hid (Bel.range (range_row HN4.out) HL4.out)
  have HSM := hid (fun p : Bel w4 => HSAME.out p.out (HS4.out.below p.bel))
  have HMY := hid (fun p : Bel w4 => HMAY.out p.out (HS4.out.below p.bel))
  clear y1 y2 HSAME HMAY
  obtain ⟨FF, HFF⟩ : ∃ x, Hid (fcells f (.slice ao f.args.length c) = x) := ⟨_, rfl⟩
  obtain ⟨FO, HFO⟩ : ∃ x, Hid (fcells (ownF f) (ownV f (.slice ao f.args.length c)) = x) := ⟨_, rfl⟩
  rw [HFF.out] at HOWN HSM HMY HSIZE HN4 HSZ HRA ⊢
  rw [HFO.out] at HOWN HSM
  cases hS : sameP f (ownF f) with
  | false =>
    as_aux_lemma =>
      have HPA := hid (show planA k3 (sameP f (ownF f)) M Z = .tuple #[.agg zRow.toArray, .int .i64 0, .int .i64 70] by unfold planA; rw [hS]; rfl)
      rw [hS] at HSM
      clear hS HSIZE
      refine wp_region_quiet_bel (by kernel_rfl) (by kernel_rfl) ?_
      go_big_quiet_step (fail)
      go_big_quiet_step (fail)
      go_big_quiet_step (fail)
      refine wpQuiet_want (by rfl) fun K hK => quiet_ld 30 (.tmp 1) (by rfl) w.heap.size 0 (by rfl) _ _ HRA.out Tryz.underlying30 rfl HSZ.out (hK _ ?_)
      simp only [Act.put, List.setIfInBounds_toArray, List.set_cons_succ, List.set_cons_zero]
      go_big_quiet_step (fail)
      go_big_quiet_step (fail)
      refine wpQuiet_want (by rfl) fun K hK => quiet_ld 30 (.tmp 1) (by rfl) w.heap.size 0 (by rfl) _ _ HRA.out Tryz.underlying30 rfl HSZ.out (hK _ ?_)
      simp only [Act.put, List.setIfInBounds_toArray, List.set_cons_succ, List.set_cons_zero]
      go_big_quiet_step (first | (go_at_call 127; exact bel_of (HOWN.out _)))
      go_big_quiet_step (first | (go_at_call 108; exact bel_of (HSM.out _)))
      go_big_quiet_step (fail)
      go_big_quiet_step (fail)
      go_big_quiet_step (fail)
      go_big_quiet_step (fail)
      go_big_quiet_step (fail)
      go_big_quiet_step (fail)
      go_big_quiet_step (fail)
      go_big_quiet_step (fail)
      go_big_quiet_step (fail)
      refine wpQuiet_nil ?_
      rintro w5 ⟨⟨w5', hb5⟩, hw5⟩
      obtain rfl : w5 = w5' := hw5
      have HN7 := hid ((hb5.block _ HL4.out).trans HN4.out)
      have HN8 := hid ((hb5.block _ (hp_lt HN5.out)).trans HN5.out)
      have HN9 := hid ((hb5.block _ HL6.out).trans HN6.out)
      have HB6 := hid (below_then HB4.out hb5)
      have HS5 := hid (HS4.out.below hb5)
      clear hb5 z1 z2 ib HRA HN4 HN5 HN6 HB4 HL4 HL6 HOWN HSM HMY
      go_wp2_with (first
        | (refine bd_row (by rfl) 135 #[] (by rfl) [] (by simp) zRow.toArray built_zRow ?_)
        | (refine st_row (by rfl) 135 _ _ (by rfl) (w.heap.size + 1) zRow (by rfl) (by rfl) 135 _ HN8.out kindSize rfl zOne ?_; intro w7 hw7))
      refine ret_row3 2 3 4 135 rfl (w.heap.size + 1) rfl zRow 135 hw7.blk _ Tryz.underlying135 rfl kindSize _ _ rfl rfl rfl ⟨by rw [HPA.out]; rfl, Below.of_gb HB6.out hw7.grown (by omega)⟩
  | true =>
    rw [hS] at HSM
    have HSI := hid (HSIZE.out hS)
    clear HSIZE
    cases M with
    | false =>
      as_aux_lemma =>
        have HPA := hid (show planA k3 (sameP f (ownF f)) false Z = .tuple #[.agg zRow.toArray, .int .i64 0, .int .i64 70] by unfold planA; rw [hS]; rfl)
        clear hS HSI
        refine wp_region_quiet_bel (by kernel_rfl) (by kernel_rfl) ?_
        go_big_quiet_step (fail)
        go_big_quiet_step (fail)
        go_big_quiet_step (fail)
        refine wpQuiet_want (by rfl) fun K hK => quiet_ld 30 (.tmp 1) (by rfl) w.heap.size 0 (by rfl) _ _ HRA.out Tryz.underlying30 rfl HSZ.out (hK _ ?_)
        simp only [Act.put, List.setIfInBounds_toArray, List.set_cons_succ, List.set_cons_zero]
        go_big_quiet_step (fail)
        go_big_quiet_step (fail)
        refine wpQuiet_want (by rfl) fun K hK => quiet_ld 30 (.tmp 1) (by rfl) w.heap.size 0 (by rfl) _ _ HRA.out Tryz.underlying30 rfl HSZ.out (hK _ ?_)
        simp only [Act.put, List.setIfInBounds_toArray, List.set_cons_succ, List.set_cons_zero]
        go_big_quiet_step (first | (go_at_call 127; exact bel_of (HOWN.out _)))
        go_big_quiet_step (first | (go_at_call 108; exact bel_of (HSM.out _)))
        go_big_quiet_step (fail)
        go_big_quiet_step (fail)
        go_big_quiet_step (fail)
        go_big_quiet_step (fail)
        go_big_quiet_step (fail)
        refine wpQuiet_want (by rfl) fun K hK => quiet_ld 30 (.tmp 1) (by rfl) w.heap.size 0 (by rfl) _ _ HRA.out Tryz.underlying30 rfl HSZ.out (hK _ ?_)
        simp only [Act.put, List.setIfInBounds_toArray, List.set_cons_succ, List.set_cons_zero]
        go_big_quiet_step (first | (go_at_call 128; exact bel_of (HMY.out _)))
        go_big_quiet_step (fail)
        go_big_quiet_step (fail)
        refine wpQuiet_nil ?_
        rintro w5 ⟨⟨w5', hb5⟩, hw5⟩
        obtain rfl : w5 = w5' := hw5
        have HN7 := hid ((hb5.block _ HL4.out).trans HN4.out)
        have HN8 := hid ((hb5.block _ (hp_lt HN5.out)).trans HN5.out)
        have HN9 := hid ((hb5.block _ HL6.out).trans HN6.out)
        have HB6 := hid (below_then HB4.out hb5)
        have HS5 := hid (HS4.out.below hb5)
        clear hb5 z1 z2 ib HRA HN4 HN5 HN6 HB4 HL4 HL6 HOWN HSM HMY
        go_wp2_with (first
          | (refine bd_row (by rfl) 135 #[] (by rfl) [] (by simp) zRow.toArray built_zRow ?_)
          | (refine st_row (by rfl) 135 _ _ (by rfl) (w.heap.size + 1) zRow (by rfl) (by rfl) 135 _ HN8.out kindSize rfl zOne ?_; intro w7 hw7))
        refine ret_row3 2 3 4 135 rfl (w.heap.size + 1) rfl zRow 135 hw7.blk _ Tryz.underlying135 rfl kindSize _ _ rfl rfl rfl ⟨by rw [HPA.out]; rfl, Below.of_gb HB6.out hw7.grown (by omega)⟩
    | true =>
      as_aux_lemma =>
        have HSJ := hid (HSI.out rfl)
        clear HSI
        refine wp_region_quiet_bel (by kernel_rfl) (by kernel_rfl) ?_
        go_big_quiet_step (fail)
        go_big_quiet_step (fail)
        go_big_quiet_step (fail)
        refine wpQuiet_want (by rfl) fun K hK => quiet_ld 30 (.tmp 1) (by rfl) w.heap.size 0 (by rfl) _ _ HRA.out Tryz.underlying30 rfl HSZ.out (hK _ ?_)
        simp only [Act.put, List.setIfInBounds_toArray, List.set_cons_succ, List.set_cons_zero]
        go_big_quiet_step (fail)
        go_big_quiet_step (fail)
        refine wpQuiet_want (by rfl) fun K hK => quiet_ld 30 (.tmp 1) (by rfl) w.heap.size 0 (by rfl) _ _ HRA.out Tryz.underlying30 rfl HSZ.out (hK _ ?_)
        simp only [Act.put, List.setIfInBounds_toArray, List.set_cons_succ, List.set_cons_zero]
        go_big_quiet_step (first | (go_at_call 127; exact bel_of (HOWN.out _)))
        go_big_quiet_step (first | (go_at_call 108; exact bel_of (HSM.out _)))
        go_big_quiet_step (fail)
        go_big_quiet_step (fail)
        go_big_quiet_step (fail)
        go_big_quiet_step (fail)
        go_big_quiet_step (fail)
        refine wpQuiet_want (by rfl) fun K hK => quiet_ld 30 (.tmp 1) (by rfl) w.heap.size 0 (by rfl) _ _ HRA.out Tryz.underlying30 rfl HSZ.out (hK _ ?_)
        simp only [Act.put, List.setIfInBounds_toArray, List.set_cons_succ, List.set_cons_zero]
        go_big_quiet_step (first | (go_at_call 128; exact bel_of (HMY.out _)))
        go_big_quiet_step (fail)
        go_big_quiet_step (fail)
        refine wpQuiet_nil ?_
        rintro w5 ⟨⟨w5', hb5⟩, hw5⟩
        obtain rfl : w5 = w5' := hw5
        have HN7 := hid ((hb5.block _ HL4.out).trans HN4.out)
        have HN8 := hid ((hb5.block _ (hp_lt HN5.out)).trans HN5.out)
        have HN9 := hid ((hb5.block _ HL6.out).trans HN6.out)
        have HB6 := hid (below_then HB4.out hb5)
        have HS5 := hid (HS4.out.below hb5)
        clear hb5 z1 z2 ib HRA HN4 HN5 HN6 HB4 HL4 HL6 HOWN HSM HMY
        go_wp2_with (first
          | (refine ld_row (by rfl) 135 (.tmp 5) (by rfl) B5 (by rfl) k3 135 HN9.out _ Tryz.underlying135 rfl kindSize ?_)
          | (refine ld_row (by rfl) 30 (.tmp 1) (by rfl) w.heap.size (by rfl) FF 30 HN7.out _ Tryz.underlying30 rfl HSZ.out ?_))
        refine (HSJ.out w5 HS5.out).mono ?_
        rintro e w6 ⟨rfl, hb6⟩
        have HNA := hid ((hb6.block _ (hp_lt HN8.out)).trans HN8.out)
        have HNB := hid ((hb6.block _ (hp_lt HN9.out)).trans HN9.out)
        have HB7 := hid (below_then HB6.out hb6)
        clear hb6 HN7 HN8 HN9 HB6 HSJ
        by_cases hZ : 2097152 < Z
        · have HPA := hid (show planA k3 (sameP f (ownF f)) true Z = .tuple #[.agg zRow.toArray, .int .i64 0, .int .i64 3] by unfold planA; rw [hS]; simp only [Bool.and_true, if_true, if_pos hZ])
          have q1 : decide ((2097152 : Int) < Z) = true := by simpa using hZ
          clear hS
          go_wp2_with (first
            | (refine bd_row (by rfl) 135 #[] (by rfl) [] (by simp) zRow.toArray built_zRow ?_)
            | (refine st_row (by rfl) 135 _ _ (by rfl) (w.heap.size + 1) zRow (by rfl) (by rfl) 135 _ HNA.out kindSize rfl zOne ?_; intro w7 hw7))
          refine ret_row3 2 3 4 135 rfl (w.heap.size + 1) rfl zRow 135 hw7.blk _ Tryz.underlying135 rfl kindSize _ _ rfl rfl rfl ⟨by rw [HPA.out]; rfl, Below.of_gb HB7.out hw7.grown (by omega)⟩
        · have HPA := hid (show planA k3 (sameP f (ownF f)) true Z = .tuple #[.agg k3.toArray, .int .i64 Z, .int .i64 0] by unfold planA; rw [hS]; simp only [Bool.and_true, if_true, if_neg hZ])
          have q1 : decide ((2097152 : Int) < Z) = false := by simpa using hZ
          clear hS
          go_wp2_with (first
            | (refine ld_row (by rfl) 135 (.tmp 5) (by rfl) B5 (by rfl) k3 135 HNB.out _ Tryz.underlying135 rfl kindSize ?_)
            | (refine st_row (by rfl) 135 _ _ (by rfl) (w.heap.size + 1) k3 (by rfl) (by rfl) 135 _ HNA.out kindSize rfl (kOne _ _ _ _ _) ?_; intro w7 hw7))
          refine ret_row3 2 3 4 135 rfl (w.heap.size + 1) rfl k3 135 hw7.blk _ Tryz.underlying135 rfl kindSize _ _ rfl rfl rfl ⟨by rw [HPA.out]; rfl, Below.of_gb HB7.out hw7.grown (by omega)⟩

end Go.Proofs.YtiibhccbbpgehaaGreat
