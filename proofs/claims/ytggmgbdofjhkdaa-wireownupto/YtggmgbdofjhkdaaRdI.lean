/- The calls Uint, Int, Count, Bool, Text and Raw of a reader that NewReader gave. -/
import Derived.Test.YtggmgbdofjhkdaaRdH
namespace Go.Proofs.Ytggmgbdofjhkdaa
open Go.RowKit

theorem ret_u8 {a b : Int} (h : a = b) : Ending.returned (.int .u8 a) = .returned (.int .u8 b) := by rw [h]
theorem ret_str {a b : ByteArray} (h : a = b) : Ending.returned (.string a) = .returned (.string b) := by rw [h]
/-- the number with a sign that a number stands for -/
def uz (n : Nat) : Int := if n % 2 = 1 then -((n / 2 : Nat) : Int) - 1 else ((n / 2 : Nat) : Int)

theorem bits_and_one (n : Nat) (hn : n < 18446744073709551616) : bits BinOp.and IntKind.u64 (n : Int) 1 = ((n % 2 : Nat) : Int) := by
  show IntKind.u64.wrap ((BitVec.ofInt 64 (n : Int) &&& BitVec.ofInt 64 ((1 : Nat) : Int)).toNat : Int) = _
  rw [BitVec.toNat_and, bv_u64 n hn, bv_u64 1 (by decide), Nat.and_one_is_mod, IntKind.wrap_u64]
  omega

set_option maxHeartbeats 400000 in
theorem unfolded_any (n : Nat) (w : World) (hn : n < 18446744073709551616) :
    Calls Try.prog 62 #[.int .u64 n] w fun e w' => e = .returned (.int .i64 (uz n)) ∧ w' = w := by
  have HB := hid (bits_and_one n hn)
  by_cases h : n % 2 = 1
  · have h1 : (bits BinOp.and IntKind.u64 (n : Int) 1 == 1) = true := by rw [HB.out, h]; rfl
    have HU := hid (by unfold uz; rw [if_pos h] : uz n = -((n / 2 : Nat) : Int) - 1)
    go_enter Try.func62, Try.ntmps62
    go_wp2
    go_ret
    refine ⟨ret_i64 ?_, rfl⟩
    rw [HU.out]
    omega
  · have h0 : n % 2 = 0 := by omega
    have h1 : (bits BinOp.and IntKind.u64 (n : Int) 1 == 1) = false := by rw [HB.out, h0]; rfl
    have HU := hid (by unfold uz; rw [if_neg h] : uz n = ((n / 2 : Nat) : Int))
    go_enter Try.func62, Try.ntmps62
    go_wp2
    go_ret
    refine ⟨ret_i64 ?_, rfl⟩
    rw [HU.out]
    omega

theorem one_bound (w : World) (n : Int) : ∀ i : Nat, i < 1 → (w.alloc (.cells #[.int .i64 n] 3)).cell? ⟨w.heap.size, i, none⟩ = some (.int .i64 ((fun _ => n) i)) := by
  intro i hi
  obtain rfl : i = 0 := by omega
  simp

section
variable (base b : Nat) (v : Value) (bs : List UInt8) (a : Nat) (why wat : Int) (w : World)

/-- where the fault is, behind a read -/
def watOf (er a : Nat) (wat : Int) : Int := if er ≠ 0 then (a : Int) else wat
/-- the state behind a read: its error is the fault, at the place -/
theorem Rd.after {w : World} {base b : Nat} {v : Value} {bs : List UInt8} {a k er : Nat} {wat : Int} (hk : er ≠ 0 → k = 0)
    (h : Rd w base b v bs (a + k) (if (0 : Int) = 0 then (er : Int) else 0) (if (0 : Int) = 0 ∧ (er : Int) ≠ 0 then ((a + k : Nat) : Int) else wat)) : Rd w base b v bs (a + k) er (watOf er a wat) := by
  unfold watOf
  by_cases he : er = 0
  · subst he; simpa using h
  · have := hk he
    subst this
    simpa [he] using h

set_option maxHeartbeats 400000 in
theorem uint_over (h : Rd w base b v bs a why wat) (hw : why ≠ 0) :
    Calls Try.prog 20 #[.pointer (some ⟨b, 0, none⟩)] w fun e w' => e = .returned (.int .u64 0) ∧ w' = w := by
  have h4 := h.c4
  have h2 := h.c2
  have hb : (why != 0) = true := by simpa using hw
  clear h hw
  go_enter Try.func20, Try.ntmps20
  go_wp2_with (first
    | (go_at_call 58; refine (own_made _ _ h4).mono ?_; rintro e w' ⟨rfl, rfl⟩)
    | (go_at_call 59; refine (may_none _ _ _ h2).mono ?_; rintro e w' ⟨rfl, rfl⟩))
  go_ret
  exact ⟨rfl, rfl⟩

set_option maxHeartbeats 400000 in
theorem uint_go (h : Rd w base b v bs a 0 wat) (er n k : Nat) (hdec : dec (bs.drop a) 0 0 = (er, n, k)) :
    Calls Try.prog 20 #[.pointer (some ⟨b, 0, none⟩)] w fun e w' => e = .returned (.int .u64 n) ∧ Rd w' base b v bs (a + k) er (watOf er a wat) ∧ w.grownBy w' (some b) := by
  have HD := hid hdec
  have HK := hid (fun e => ((dec_le _ hdec).2.2.2 e).2 : er ≠ 0 → k = 0)
  clear hdec
  have h4 := h.c4
  have h2 := h.c2
  have HH := hid h
  clear h
  go_enter Try.func20, Try.ntmps20
  go_wp2_with fail
  refine (own_made _ _ h4).mono ?_
  rintro e w' ⟨rfl, rfl⟩
  go_wp2_with fail
  refine (may_none _ _ _ h2).mono ?_
  rintro e w' ⟨rfl, rfl⟩
  go_wp2_with fail
  refine (number_any _ _ _ _ _ _ _ _ HH.out _ _ _ HD.out).mono ?_
  rintro e w1 ⟨rfl, hR, hg⟩
  have HR := hid hR
  have HG := hid hg
  clear hR hg
  go_wp2_with fail
  refine (wfail_any _ _ _ _ _ _ _ _ _ HR.out).mono ?_
  rintro e w2 ⟨rfl, hR2, hg2⟩
  have HR2 := hid (Rd.after HK.out hR2)
  have HG2 := hid (gb_trans HG.out hg2)
  clear hR2 hg2
  go_wp2
  go_ret
  exact ⟨rfl, HR2.out, HG2.out⟩

set_option maxHeartbeats 400000 in
theorem int_over (h : Rd w base b v bs a why wat) (hw : why ≠ 0) :
    Calls Try.prog 21 #[.pointer (some ⟨b, 0, none⟩)] w fun e w' => e = .returned (.int .i64 0) ∧ w' = w := by
  have HH := hid h
  have HW := hid hw
  clear h hw
  go_enter Try.func21, Try.ntmps21
  go_wp2_with fail
  refine (uint_over _ _ _ _ _ _ _ _ HH.out HW.out).mono ?_
  rintro e w1 ⟨rfl, rfl⟩
  go_wp2_with fail
  refine (unfolded_any 0 _ (by omega)).mono ?_
  rintro e w1 ⟨rfl, rfl⟩
  go_wp2
  go_ret
  exact ⟨rfl, rfl⟩

set_option maxHeartbeats 400000 in
theorem int_go (h : Rd w base b v bs a 0 wat) (er n k : Nat) (hdec : dec (bs.drop a) 0 0 = (er, n, k)) :
    Calls Try.prog 21 #[.pointer (some ⟨b, 0, none⟩)] w fun e w' => e = .returned (.int .i64 (uz n)) ∧ Rd w' base b v bs (a + k) er (watOf er a wat) ∧ w.grownBy w' (some b) := by
  have HC := hid (uint_go base b v bs a wat w h er n k hdec)
  have hn := (dec_le _ hdec).2.1
  clear h hdec
  go_enter Try.func21, Try.ntmps21
  go_wp2_with fail
  refine Calls.mono HC.out ?_
  rintro e w1 ⟨rfl, hR, hg⟩
  have HR := hid hR
  have HG := hid hg
  clear hR hg
  go_wp2_with fail
  refine (unfolded_any _ _ hn).mono ?_
  rintro e w2 ⟨rfl, rfl⟩
  go_wp2
  go_ret
  exact ⟨rfl, HR.out, HG.out⟩

set_option maxHeartbeats 400000 in
theorem bool_over (h : Rd w base b v bs a why wat) (hw : why ≠ 0) :
    Calls Try.prog 22 #[.pointer (some ⟨b, 0, none⟩)] w fun e w' => e = .returned (.bool false) ∧ w' = w := by
  have h4 := h.c4
  have h2 := h.c2
  have hb : (why != 0) = true := by simpa using hw
  clear h hw
  go_enter Try.func22, Try.ntmps22
  go_wp2_with (first
    | (go_at_call 58; refine (own_made _ _ h4).mono ?_; rintro e w' ⟨rfl, rfl⟩)
    | (go_at_call 59; refine (may_none _ _ _ h2).mono ?_; rintro e w' ⟨rfl, rfl⟩))
  go_ret
  exact ⟨rfl, rfl⟩

set_option maxHeartbeats 400000 in
theorem bool_none (h : Rd w base b v bs bs.length 0 wat) :
    Calls Try.prog 22 #[.pointer (some ⟨b, 0, none⟩)] w fun e w' => e = .returned (.bool false) ∧ Rd w' base b v bs bs.length 4 bs.length ∧ w.grownBy w' (some b) := by
  have h4 := h.c4
  have h2 := h.c2
  have HH := hid h
  clear h
  go_enter Try.func22, Try.ntmps22
  go_wp2_with fail
  refine (own_made _ _ h4).mono ?_
  rintro e w' ⟨rfl, rfl⟩
  go_wp2_with fail
  refine (may_none _ _ _ h2).mono ?_
  rintro e w' ⟨rfl, rfl⟩
  go_wp2_with fail
  refine (truth_none _ _ _ _ _ _ _ HH.out).mono ?_
  rintro e w1 ⟨rfl, hR, hg⟩
  have HR := hid hR
  have HG := hid hg
  clear hR hg
  go_wp2_with fail
  refine (wfail_any _ _ _ _ _ _ _ _ _ HR.out).mono ?_
  rintro e w2 ⟨rfl, hR2, hg2⟩
  have HR2 := hid hR2
  have HG2 := hid (gb_trans HG.out hg2)
  clear hR2 hg2
  go_wp2
  go_ret
  exact ⟨rfl, by simpa using HR2.out, HG2.out⟩

set_option maxHeartbeats 400000 in
theorem bool_bad (h : Rd w base b v bs a 0 wat) (hlt : a < bs.length) (hc : 1 < (bs.getD a 0).toNat) :
    Calls Try.prog 22 #[.pointer (some ⟨b, 0, none⟩)] w fun e w' => e = .returned (.bool false) ∧ Rd w' base b v bs a 5 a ∧ w.grownBy w' (some b) := by
  have h4 := h.c4
  have h2 := h.c2
  have HH := hid h
  clear h
  go_enter Try.func22, Try.ntmps22
  go_wp2_with fail
  refine (own_made _ _ h4).mono ?_
  rintro e w' ⟨rfl, rfl⟩
  go_wp2_with fail
  refine (may_none _ _ _ h2).mono ?_
  rintro e w' ⟨rfl, rfl⟩
  go_wp2_with fail
  refine (truth_bad _ _ _ _ _ _ _ _ HH.out hlt hc).mono ?_
  rintro e w1 ⟨rfl, hR, hg⟩
  have HR := hid hR
  have HG := hid hg
  clear hR hg
  go_wp2_with fail
  refine (wfail_any _ _ _ _ _ _ _ _ _ HR.out).mono ?_
  rintro e w2 ⟨rfl, hR2, hg2⟩
  have HR2 := hid hR2
  have HG2 := hid (gb_trans HG.out hg2)
  clear hR2 hg2
  go_wp2
  go_ret
  exact ⟨rfl, by simpa using HR2.out, HG2.out⟩

set_option maxHeartbeats 400000 in
theorem bool_ok (h : Rd w base b v bs a 0 wat) (hlt : a < bs.length) (hc : (bs.getD a 0).toNat ≤ 1) :
    Calls Try.prog 22 #[.pointer (some ⟨b, 0, none⟩)] w fun e w' => e = .returned (.bool (((bs.getD a 0).toNat : Int) == 1)) ∧ Rd w' base b v bs (a + 1) 0 wat ∧ w.grownBy w' (some b) := by
  have HC := hid (truth_ok base b v bs a 0 wat w h hlt hc)
  have h4 := h.c4
  have h2 := h.c2
  clear h hc
  generalize (((bs.getD a 0).toNat : Int) == 1) = x at *
  go_enter Try.func22, Try.ntmps22
  go_wp2_with fail
  refine (own_made _ _ h4).mono ?_
  rintro e w' ⟨rfl, rfl⟩
  go_wp2_with fail
  refine (may_none _ _ _ h2).mono ?_
  rintro e w' ⟨rfl, rfl⟩
  go_wp2_with fail
  refine Calls.mono HC.out ?_
  rintro e w1 ⟨rfl, hR, hg⟩
  have HR := hid hR
  have HG := hid hg
  clear hR hg HC
  go_wp2_with fail
  refine (wfail_any _ _ _ _ _ _ _ _ _ HR.out).mono ?_
  rintro e w2 ⟨rfl, hR2, hg2⟩
  have HR2 := hid hR2
  have HG2 := hid (gb_trans HG.out hg2)
  clear hR2 hg2
  go_wp2
  go_ret
  exact ⟨rfl, by simpa using HR2.out, HG2.out⟩

set_option maxHeartbeats 400000 in
theorem count_over (m : Int) (h : Rd w base b v bs a why wat) (hw : why ≠ 0) :
    Calls Try.prog 48 #[.pointer (some ⟨b, 0, none⟩), .int .i64 m] w fun e w' => e = .returned (.int .i64 0) ∧ Rd w' base b v bs a why wat ∧ w.grownBy w' (some b) := by
  have h4 := h.c4
  have HH := hid (h.below (below_walk w (.cells #[.int .i64 m] 3)))
  have HW := hid hw
  have hb : (why != 0) = true := by simpa using hw
  clear h hw
  go_enter Try.func48, Try.ntmps48
  go_wp2_with fail
  refine (own_made _ _ h4).mono ?_
  rintro e w' ⟨rfl, rfl⟩
  go_wp2_with fail
  refine (may_ok _ _ 1 why (fun _ => m) _ (by omega) HH.out.c2 (one_bound _ _) (Or.inl HW.out)).mono ?_
  rintro e w1 ⟨rfl, rfl⟩
  go_wp2
  go_ret
  exact ⟨rfl, HH.out, gb_alloc _ _ _⟩

set_option maxHeartbeats 400000 in
theorem count_arg (m : Int) (h : Rd w base b v bs a 0 wat) (hm : m < 0) :
    Calls Try.prog 48 #[.pointer (some ⟨b, 0, none⟩), .int .i64 m] w fun e w' => e = .returned (.int .i64 0) ∧ Rd w' base b v bs a 1 a ∧ w.grownBy w' (some b) := by
  have h4 := h.c4
  have hlt := h.lt
  have H0 := hid h
  have HH := hid (h.below (below_walk w (.cells #[.int .i64 m] 3)))
  have HM := hid hm
  clear h hm
  go_enter Try.func48, Try.ntmps48
  go_wp2_with fail
  refine (own_made _ _ h4).mono ?_
  rintro e w' ⟨rfl, rfl⟩
  go_wp2_with fail
  refine (may_bad _ _ 1 a (fun _ => m) _ _ (by omega) (by omega) HH.out.c1 HH.out.c2 HH.out.c3 (HH.out.fz _) (HH.out.fz _) (one_bound _ _) ⟨0, by omega, HM.out⟩).mono ?_
  rintro e w1 ⟨rfl, rfl⟩
  go_wp2
  go_ret
  exact ⟨rfl, (H0.out.setFault 1 a).below (below_walk _ _), gb_trans (gb_trans (gb_set _ _ _) (gb_set _ _ _)) (gb_alloc _ _ _)⟩

set_option maxHeartbeats 400000 in
theorem count_go (m : Nat) (hm : m ≤ 9223372036854775807) (h : Rd w base b v bs a 0 wat) (er n k : Nat) (hup : upTo (bs.drop a) m 11 = (er, n, k)) :
    Calls Try.prog 48 #[.pointer (some ⟨b, 0, none⟩), .int .i64 m] w fun e w' => e = .returned (.int .i64 n) ∧ Rd w' base b v bs (a + k) er (watOf er a wat) ∧ w.grownBy w' (some b) := by
  have HU := hid hup
  have HK := hid (fun e => ((upTo_le hup).2.2 e).2 : er ≠ 0 → k = 0)
  clear hup
  have h4 := h.c4
  have HH := hid (h.below (below_walk w (.cells #[.int .i64 (m : Int)] 3)))
  clear h
  go_enter Try.func48, Try.ntmps48
  go_wp2_with fail
  refine (own_made _ _ h4).mono ?_
  rintro e w' ⟨rfl, rfl⟩
  go_wp2_with fail
  refine (may_ok _ _ 1 0 (fun _ => (m : Int)) _ (by omega) HH.out.c2 (one_bound _ _) (Or.inr (fun _ _ => by omega))).mono ?_
  rintro e w1 ⟨rfl, rfl⟩
  go_wp2_with fail
  refine (numberUpTo_any _ _ _ _ _ _ _ _ m 11 HH.out hm (by omega) _ _ _ HU.out).mono ?_
  rintro e w1 ⟨rfl, hR, hg⟩
  have HR := hid hR
  have HG := hid hg
  clear hR hg
  go_wp2_with fail
  refine (wfail_any _ _ _ _ _ _ _ _ _ HR.out).mono ?_
  rintro e w2 ⟨rfl, hR2, hg2⟩
  have HR2 := hid (Rd.after HK.out hR2)
  have HG2 := hid (gb_trans (gb_trans (gb_alloc _ _ _) HG.out) hg2)
  clear hR2 hg2
  go_wp2
  go_ret
  exact ⟨rfl, HR2.out, HG2.out⟩

set_option maxHeartbeats 400000 in
theorem textr_over (m : Int) (h : Rd w base b v bs a why wat) (hw : why ≠ 0) :
    Calls Try.prog 23 #[.pointer (some ⟨b, 0, none⟩), .int .i64 m] w fun e w' => e = .returned (.string ⟨#[]⟩) ∧ Rd w' base b v bs a why wat ∧ w.grownBy w' (some b) := by
  have h4 := h.c4
  have HH := hid (h.below (below_walk w (.cells #[.int .i64 m] 3)))
  have HW := hid hw
  have hb : (why != 0) = true := by simpa using hw
  clear h hw
  go_enter Try.func23, Try.ntmps23
  go_wp2_with fail
  refine (own_made _ _ h4).mono ?_
  rintro e w' ⟨rfl, rfl⟩
  go_wp2_with fail
  refine (may_ok _ _ 1 why (fun _ => m) _ (by omega) HH.out.c2 (one_bound _ _) (Or.inl HW.out)).mono ?_
  rintro e w1 ⟨rfl, rfl⟩
  go_wp2
  go_ret
  exact ⟨rfl, HH.out, gb_alloc _ _ _⟩

set_option maxHeartbeats 400000 in
theorem textr_arg (m : Int) (h : Rd w base b v bs a 0 wat) (hm : m < 0) :
    Calls Try.prog 23 #[.pointer (some ⟨b, 0, none⟩), .int .i64 m] w fun e w' => e = .returned (.string ⟨#[]⟩) ∧ Rd w' base b v bs a 1 a ∧ w.grownBy w' (some b) := by
  have h4 := h.c4
  have hlt := h.lt
  have H0 := hid h
  have HH := hid (h.below (below_walk w (.cells #[.int .i64 m] 3)))
  have HM := hid hm
  clear h hm
  go_enter Try.func23, Try.ntmps23
  go_wp2_with fail
  refine (own_made _ _ h4).mono ?_
  rintro e w' ⟨rfl, rfl⟩
  go_wp2_with fail
  refine (may_bad _ _ 1 a (fun _ => m) _ _ (by omega) (by omega) HH.out.c1 HH.out.c2 HH.out.c3 (HH.out.fz _) (HH.out.fz _) (one_bound _ _) ⟨0, by omega, HM.out⟩).mono ?_
  rintro e w1 ⟨rfl, rfl⟩
  go_wp2
  go_ret
  exact ⟨rfl, (H0.out.setFault 1 a).below (below_walk _ _), gb_trans (gb_trans (gb_set _ _ _) (gb_set _ _ _)) (gb_alloc _ _ _)⟩

set_option maxHeartbeats 400000 in
theorem textr_go (m : Nat) (hm : m ≤ 9223372036854775807) (h : Rd w base b v bs a 0 wat) (hbl : bs.length ≤ 140737488355327) (er k : Nat) (s : List UInt8) (ht : txt (bs.drop a) m = (er, s, k)) :
    Calls Try.prog 23 #[.pointer (some ⟨b, 0, none⟩), .int .i64 m] w fun e w' => e = .returned (.string ⟨s.toArray⟩) ∧ Rd w' base b v bs (a + k) er (watOf er a wat) ∧ w.grownBy w' (some b) := by
  have HU := hid ht
  have HK := hid (fun e => ((txt_le ht).2.2 e).2 : er ≠ 0 → k = 0)
  clear ht
  have h4 := h.c4
  have HH := hid (h.below (below_walk w (.cells #[.int .i64 (m : Int)] 3)))
  clear h
  go_enter Try.func23, Try.ntmps23
  go_wp2_with fail
  refine (own_made _ _ h4).mono ?_
  rintro e w' ⟨rfl, rfl⟩
  go_wp2_with fail
  refine (may_ok _ _ 1 0 (fun _ => (m : Int)) _ (by omega) HH.out.c2 (one_bound _ _) (Or.inr (fun _ _ => by omega))).mono ?_
  rintro e w1 ⟨rfl, rfl⟩
  go_wp2_with fail
  refine (text_any _ _ _ _ _ _ _ _ m HH.out hbl hm _ _ _ HU.out).mono ?_
  rintro e w1 ⟨rfl, hR, hg⟩
  have HR := hid hR
  have HG := hid hg
  clear hR hg
  go_wp2_with fail
  refine (wfail_any _ _ _ _ _ _ _ _ _ HR.out).mono ?_
  rintro e w2 ⟨rfl, hR2, hg2⟩
  have HR2 := hid (Rd.after HK.out hR2)
  have HG2 := hid (gb_trans (gb_trans (gb_alloc _ _ _) HG.out) hg2)
  clear hR2 hg2
  go_wp2
  go_ret
  exact ⟨rfl, HR2.out, HG2.out⟩

set_option maxHeartbeats 400000 in
theorem rawr_over (m : Int) (h : Rd w base b v bs a why wat) (hw : why ≠ 0) :
    Calls Try.prog 36 #[.pointer (some ⟨b, 0, none⟩), .int .i64 m] w fun e w' => e = .returned (.slice none 0 0) ∧ Rd w' base b v bs a why wat ∧ w.grownBy w' (some b) := by
  have h4 := h.c4
  have HH := hid (h.below (below_walk w (.cells #[.int .i64 m] 3)))
  have HW := hid hw
  have hb : (why != 0) = true := by simpa using hw
  clear h hw
  go_enter Try.func36, Try.ntmps36
  go_wp2_with fail
  refine (own_made _ _ h4).mono ?_
  rintro e w' ⟨rfl, rfl⟩
  go_wp2_with fail
  refine (may_ok _ _ 1 why (fun _ => m) _ (by omega) HH.out.c2 (one_bound _ _) (Or.inl HW.out)).mono ?_
  rintro e w1 ⟨rfl, rfl⟩
  go_wp2
  go_ret
  exact ⟨rfl, HH.out, gb_alloc _ _ _⟩

set_option maxHeartbeats 400000 in
theorem rawr_arg (m : Int) (h : Rd w base b v bs a 0 wat) (hm : m < 0) :
    Calls Try.prog 36 #[.pointer (some ⟨b, 0, none⟩), .int .i64 m] w fun e w' => e = .returned (.slice none 0 0) ∧ Rd w' base b v bs a 1 a ∧ w.grownBy w' (some b) := by
  have h4 := h.c4
  have hlt := h.lt
  have H0 := hid h
  have HH := hid (h.below (below_walk w (.cells #[.int .i64 m] 3)))
  have HM := hid hm
  clear h hm
  go_enter Try.func36, Try.ntmps36
  go_wp2_with fail
  refine (own_made _ _ h4).mono ?_
  rintro e w' ⟨rfl, rfl⟩
  go_wp2_with fail
  refine (may_bad _ _ 1 a (fun _ => m) _ _ (by omega) (by omega) HH.out.c1 HH.out.c2 HH.out.c3 (HH.out.fz _) (HH.out.fz _) (one_bound _ _) ⟨0, by omega, HM.out⟩).mono ?_
  rintro e w1 ⟨rfl, rfl⟩
  go_wp2
  go_ret
  exact ⟨rfl, (H0.out.setFault 1 a).below (below_walk _ _), gb_trans (gb_trans (gb_set _ _ _) (gb_set _ _ _)) (gb_alloc _ _ _)⟩

set_option maxHeartbeats 400000 in
theorem rawr_short (m : Nat) (h : Rd w base b v bs a 0 wat) (hgt : bs.length - a < m) :
    Calls Try.prog 36 #[.pointer (some ⟨b, 0, none⟩), .int .i64 m] w fun e w' => e = .returned (.slice none 0 0) ∧ Rd w' base b v bs a 4 a ∧ w.grownBy w' (some b) := by
  have h4 := h.c4
  have HH := hid (h.below (below_walk w (.cells #[.int .i64 (m : Int)] 3)))
  clear h
  go_enter Try.func36, Try.ntmps36
  go_wp2_with fail
  refine (own_made _ _ h4).mono ?_
  rintro e w' ⟨rfl, rfl⟩
  go_wp2_with fail
  refine (may_ok _ _ 1 0 (fun _ => (m : Int)) _ (by omega) HH.out.c2 (one_bound _ _) (Or.inr (fun _ _ => by omega))).mono ?_
  rintro e w1 ⟨rfl, rfl⟩
  go_wp2_with fail
  refine (raw_short _ _ _ _ _ _ _ _ m HH.out hgt).mono ?_
  rintro e w1 ⟨rfl, hR, hg⟩
  have HR := hid hR
  have HG := hid hg
  clear hR hg
  go_wp2_with fail
  refine (wfail_any _ _ _ _ _ _ _ _ _ HR.out).mono ?_
  rintro e w2 ⟨rfl, hR2, hg2⟩
  have HR2 := hid hR2
  have HG2 := hid (gb_trans (gb_trans (gb_alloc _ _ _) HG.out) hg2)
  clear hR2 hg2
  go_wp2
  go_ret
  exact ⟨rfl, by simpa using HR2.out, HG2.out⟩

set_option maxHeartbeats 400000 in
theorem rawr_ok (m : Nat) (h : Rd w base b v bs a 0 wat) (hbl : bs.length ≤ 140737488355327) (hgt : a + m ≤ bs.length) :
    Calls Try.prog 36 #[.pointer (some ⟨b, 0, none⟩), .int .i64 m] w fun e w' => ∃ v', e = .returned v' ∧ OwnB w' w.heap.size v' ((bs.drop a).take m) ∧ Rd w' base b v bs (a + m) 0 wat ∧ w.grownBy w' (some b) := by
  have hlt := h.lt
  have h4 := h.c4
  have HH := hid (h.below (below_walk w (.cells #[.int .i64 (m : Int)] 3)))
  clear h
  go_enter Try.func36, Try.ntmps36
  go_wp2_with fail
  refine (own_made _ _ h4).mono ?_
  rintro e w' ⟨rfl, rfl⟩
  go_wp2_with fail
  refine (may_ok _ _ 1 0 (fun _ => (m : Int)) _ (by omega) HH.out.c2 (one_bound _ _) (Or.inr (fun _ _ => by omega))).mono ?_
  rintro e w1 ⟨rfl, rfl⟩
  go_wp2_with fail
  refine (raw_ok _ _ _ _ _ _ _ _ m HH.out hbl hgt).mono ?_
  rintro e w1 ⟨v1, rfl, hO, hR, hg⟩
  have HR := hid hR
  have HG := hid hg
  have HO := hid hO
  clear hR hg hO
  go_wp2_with fail
  refine (wfail_any _ _ _ _ _ _ _ _ _ HR.out).mono ?_
  rintro e w2 ⟨rfl, hR2, hg2⟩
  have HR2 := hid hR2
  have HG2 := hid (gb_trans (gb_trans (gb_alloc _ _ _) HG.out) hg2)
  have HO2 := hid (HO.out.far hg2 (fun j e => by cases e; simp; omega))
  clear hR2 hg2
  go_wp2
  go_ret
  exact ⟨_, rfl, HO2.out.le (by simp), by simpa using HR2.out, HG2.out⟩
end

end Go.Proofs.Ytggmgbdofjhkdaa
