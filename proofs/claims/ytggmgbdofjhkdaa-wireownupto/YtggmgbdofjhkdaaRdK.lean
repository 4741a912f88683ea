/- One contract for each reading call of a made reader, by what it reads. -/
import Derived.Test.YtggmgbdofjhkdaaWordP
namespace Go.Proofs.Ytggmgbdofjhkdaa
open Go.RowKit

section
variable {base b : Nat} {v : Value} {bs : List UInt8} {a : Nat} {why wat : Int} {w : World}

theorem byte_R (h : Rd w base b v bs a why wat) :
    Calls Try.prog 44 #[.pointer (some ⟨b, 0, none⟩)] w fun e w' => e = .returned (.int .u8 (byteF bs a why wat).1) ∧ Rd w' base b v bs (byteF bs a why wat).2.1 (byteF bs a why wat).2.2.1 (byteF bs a why wat).2.2.2 ∧ w.grownBy w' (some b) := by
  unfold byteF
  by_cases hw : why ≠ 0
  · rw [if_pos hw]
    refine (byte_over _ _ _ _ _ _ _ _ h hw).mono ?_
    rintro e w' ⟨rfl, rfl⟩
    exact ⟨rfl, h, gb_refl _ _⟩
  · rw [if_neg hw]
    obtain rfl : why = 0 := by omega
    by_cases hl : a < bs.length
    · rw [if_pos hl]
      exact byte_some _ _ _ _ _ _ _ h hl
    · rw [if_neg hl]
      have hle := h.le
      obtain rfl : a = bs.length := by omega
      exact byte_none _ _ _ _ _ _ h

theorem uint_R (h : Rd w base b v bs a why wat) :
    Calls Try.prog 20 #[.pointer (some ⟨b, 0, none⟩)] w fun e w' => e = .returned (.int .u64 (uintF bs a why wat).1) ∧ Rd w' base b v bs (uintF bs a why wat).2.1 (uintF bs a why wat).2.2.1 (uintF bs a why wat).2.2.2 ∧ w.grownBy w' (some b) := by
  unfold uintF
  by_cases hw : why ≠ 0
  · rw [if_pos hw]
    refine (uint_over _ _ _ _ _ _ _ _ h hw).mono ?_
    rintro e w' ⟨rfl, rfl⟩
    exact ⟨rfl, h, gb_refl _ _⟩
  · rw [if_neg hw]
    obtain rfl : why = 0 := by omega
    exact uint_go _ _ _ _ _ _ _ h _ _ _ rfl

theorem uintF_lt (bs : List UInt8) (a : Nat) (why wat : Int) : (uintF bs a why wat).1 < 18446744073709551616 := by
  unfold uintF
  by_cases hw : why ≠ 0
  · rw [if_pos hw]; simp
  · rw [if_neg hw]
    obtain ⟨er, n, k, hd⟩ : ∃ er n k, dec (bs.drop a) 0 0 = (er, n, k) := ⟨_, _, _, rfl⟩
    rw [hd]
    exact (dec_le _ hd).2.1

theorem int_R (h : Rd w base b v bs a why wat) :
    Calls Try.prog 21 #[.pointer (some ⟨b, 0, none⟩)] w fun e w' => e = .returned (.int .i64 (uz (uintF bs a why wat).1)) ∧ Rd w' base b v bs (uintF bs a why wat).2.1 (uintF bs a why wat).2.2.1 (uintF bs a why wat).2.2.2 ∧ w.grownBy w' (some b) := by
  unfold uintF
  by_cases hw : why ≠ 0
  · rw [if_pos hw]
    refine (int_over _ _ _ _ _ _ _ _ h hw).mono ?_
    rintro e w' ⟨rfl, rfl⟩
    exact ⟨by simp [uz], h, gb_refl _ _⟩
  · rw [if_neg hw]
    obtain rfl : why = 0 := by omega
    exact int_go _ _ _ _ _ _ _ h _ _ _ rfl

theorem count_R (m : Int) (hm : m ≤ 9223372036854775807) (h : Rd w base b v bs a why wat) :
    Calls Try.prog 48 #[.pointer (some ⟨b, 0, none⟩), .int .i64 m] w fun e w' => e = .returned (.int .i64 (countF bs a why wat m).1) ∧ Rd w' base b v bs (countF bs a why wat m).2.1 (countF bs a why wat m).2.2.1 (countF bs a why wat m).2.2.2 ∧ w.grownBy w' (some b) := by
  unfold countF
  by_cases hw : why ≠ 0
  · rw [if_pos hw]
    exact count_over _ _ _ _ _ _ _ _ m h hw
  · rw [if_neg hw]
    obtain rfl : why = 0 := by omega
    by_cases h0 : m < 0
    · rw [if_pos h0]
      exact count_arg _ _ _ _ _ _ _ m h h0
    · rw [if_neg h0]
      obtain ⟨k, rfl⟩ : ∃ k : Nat, m = k := ⟨m.toNat, by omega⟩
      exact count_go _ _ _ _ _ _ _ k (by omega) h _ _ _ rfl

theorem countF_lt (bs : List UInt8) (a : Nat) (why wat m : Int) (hm : m ≤ 9223372036854775807) : (countF bs a why wat m).1 ≤ 9223372036854775807 := by
  unfold countF
  by_cases hw : why ≠ 0
  · rw [if_pos hw]; simp
  · rw [if_neg hw]
    by_cases h0 : m < 0
    · rw [if_pos h0]; simp
    · rw [if_neg h0]
      obtain ⟨er, n, k, hd⟩ : ∃ er n k, upTo (bs.drop a) m.toNat 11 = (er, n, k) := ⟨_, _, _, rfl⟩
      have := (upTo_le hd).2.1
      rw [hd]
      show n ≤ _
      omega

theorem bool_R (h : Rd w base b v bs a why wat) :
    Calls Try.prog 22 #[.pointer (some ⟨b, 0, none⟩)] w fun e w' => e = .returned (.bool (boolF bs a why wat).1) ∧ Rd w' base b v bs (boolF bs a why wat).2.1 (boolF bs a why wat).2.2.1 (boolF bs a why wat).2.2.2 ∧ w.grownBy w' (some b) := by
  unfold boolF
  by_cases hw : why ≠ 0
  · rw [if_pos hw]
    refine (bool_over _ _ _ _ _ _ _ _ h hw).mono ?_
    rintro e w' ⟨rfl, rfl⟩
    exact ⟨rfl, h, gb_refl _ _⟩
  · rw [if_neg hw]
    obtain rfl : why = 0 := by omega
    by_cases hl : a < bs.length
    · rw [if_pos hl]
      by_cases hc : 1 < (bs.getD a 0).toNat
      · rw [if_pos hc]
        exact bool_bad _ _ _ _ _ _ _ h hl hc
      · rw [if_neg hc]
        exact bool_ok _ _ _ _ _ _ _ h hl (by omega)
    · rw [if_neg hl]
      have hle := h.le
      obtain rfl : a = bs.length := by omega
      exact bool_none _ _ _ _ _ _ h

theorem text_R (m : Int) (hm : m ≤ 9223372036854775807) (hbl : bs.length ≤ 140737488355327) (h : Rd w base b v bs a why wat) :
    Calls Try.prog 23 #[.pointer (some ⟨b, 0, none⟩), .int .i64 m] w fun e w' => e = .returned (.string ⟨(textF bs a why wat m).1.toArray⟩) ∧ Rd w' base b v bs (textF bs a why wat m).2.1 (textF bs a why wat m).2.2.1 (textF bs a why wat m).2.2.2 ∧ w.grownBy w' (some b) := by
  unfold textF
  by_cases hw : why ≠ 0
  · rw [if_pos hw]
    exact textr_over _ _ _ _ _ _ _ _ m h hw
  · rw [if_neg hw]
    obtain rfl : why = 0 := by omega
    by_cases h0 : m < 0
    · rw [if_pos h0]
      exact textr_arg _ _ _ _ _ _ _ m h h0
    · rw [if_neg h0]
      obtain ⟨k, rfl⟩ : ∃ k : Nat, m = k := ⟨m.toNat, by omega⟩
      exact textr_go _ _ _ _ _ _ _ k (by omega) h hbl _ _ _ rfl

theorem textF_len (bs : List UInt8) (a : Nat) (why wat m : Int) : (textF bs a why wat m).1.length ≤ bs.length := by
  unfold textF
  by_cases hw : why ≠ 0
  · rw [if_pos hw]; simp
  · rw [if_neg hw]
    by_cases h0 : m < 0
    · rw [if_pos h0]; simp
    · rw [if_neg h0]
      show (txt (bs.drop a) m.toNat).2.1.length ≤ _
      obtain ⟨er, s, k, hd⟩ : ∃ er s k, txt (bs.drop a) m.toNat = (er, s, k) := ⟨_, _, _, rfl⟩
      rw [hd]
      by_cases he : er = 0
      · subst he
        obtain ⟨_, h2, _, h4⟩ := txt_ok hd
        simp at h4
        show s.length ≤ _
        omega
      · rw [((txt_le hd).2.2 he).1]; simp

theorem list_R (m n : Int) (hm : m ≤ 9223372036854775807) (hn : n ≤ 9223372036854775807) (hbl : bs.length ≤ 1099511627776) (h : Rd w base b v bs a why wat) :
    Calls Try.prog 25 #[.pointer (some ⟨b, 0, none⟩), .int .i64 m, .int .i64 n] w fun e w' => ∃ v', e = .returned v' ∧ OwnS w' w.heap.size v' (listF bs a why wat m n).1 ∧ Rd w' base b v bs (listF bs a why wat m n).2.1 (listF bs a why wat m n).2.2.1 (listF bs a why wat m n).2.2.2 ∧ w.grownBy w' (some b) := by
  unfold listF
  by_cases hw : why ≠ 0
  · rw [if_pos hw]
    refine (listr_over _ _ _ _ _ _ _ _ m n h hw).mono ?_
    rintro e w' ⟨rfl, hr⟩
    exact ⟨_, rfl, OwnS.nil _ _, hr⟩
  · rw [if_neg hw]
    obtain rfl : why = 0 := by omega
    by_cases h0 : m < 0 ∨ n < 0
    · rw [if_pos h0]
      refine (listr_arg _ _ _ _ _ _ _ m n h h0).mono ?_
      rintro e w' ⟨rfl, hr⟩
      exact ⟨_, rfl, OwnS.nil _ _, hr⟩
    · rw [if_neg h0]
      obtain ⟨k, rfl⟩ : ∃ k : Nat, m = k := ⟨m.toNat, by omega⟩
      obtain ⟨j, rfl⟩ : ∃ j : Nat, n = j := ⟨n.toNat, by omega⟩
      simp only [Int.toNat_natCast]
      refine (listr_go _ _ _ _ _ _ _ k j (by omega) (by omega) h hbl _ _ _ rfl).mono ?_
      rintro e w' ⟨v', rfl, ho, hnil, h1, h2, hg⟩
      by_cases he : (lst (bs.drop a) k j).1 ≠ 0
      · rw [if_pos he]
        obtain rfl := hnil he
        exact ⟨_, rfl, OwnS.nil _ _, h2 he, hg⟩
      · rw [if_neg he]
        exact ⟨_, rfl, ho, h1 (Decidable.not_not.1 he), hg⟩

theorem listF_len (bs : List UInt8) (a : Nat) (why wat m n : Int) : (txs ((listF bs a why wat m n).1.map mk)).length ≤ bs.length := by
  unfold listF
  by_cases hw : why ≠ 0
  · rw [if_pos hw]; simp [txs]
  · rw [if_neg hw]
    by_cases h0 : m < 0 ∨ n < 0
    · rw [if_pos h0]; simp [txs]
    · rw [if_neg h0]
      obtain ⟨er, ts, k, hd⟩ : ∃ er ts k, lst (bs.drop a) m.toNat n.toNat = (er, ts, k) := ⟨_, _, _, rfl⟩
      rw [hd]
      by_cases he : er ≠ 0
      · rw [if_pos he]; simp [txs]
      · rw [if_neg he]
        obtain rfl : er = 0 := by omega
        obtain ⟨h1, h2⟩ := lst_ok hd
        show (txs (ts.map mk)).length ≤ _
        have := congrArg List.length h1
        unfold ls at this
        simp at this h2
        omega

theorem raw_R (m : Int) (hm : m ≤ 9223372036854775807) (hbl : bs.length ≤ 140737488355327) (h : Rd w base b v bs a why wat) :
    Calls Try.prog 36 #[.pointer (some ⟨b, 0, none⟩), .int .i64 m] w fun e w' => ∃ v', e = .returned v' ∧ OwnB w' w.heap.size v' (rawF bs a why wat m).1 ∧ Rd w' base b v bs (rawF bs a why wat m).2.1 (rawF bs a why wat m).2.2.1 (rawF bs a why wat m).2.2.2 ∧ w.grownBy w' (some b) := by
  unfold rawF
  by_cases hw : why ≠ 0
  · rw [if_pos hw]
    refine (rawr_over _ _ _ _ _ _ _ _ m h hw).mono ?_
    rintro e w' ⟨rfl, hr⟩
    exact ⟨_, rfl, OwnB.nil _ _, hr⟩
  · rw [if_neg hw]
    obtain rfl : why = 0 := by omega
    by_cases h0 : m < 0
    · rw [if_pos h0]
      refine (rawr_arg _ _ _ _ _ _ _ m h h0).mono ?_
      rintro e w' ⟨rfl, hr⟩
      exact ⟨_, rfl, OwnB.nil _ _, hr⟩
    · rw [if_neg h0]
      obtain ⟨k, rfl⟩ : ∃ k : Nat, m = k := ⟨m.toNat, by omega⟩
      simp only [Int.toNat_natCast]
      have hle := h.le
      by_cases hl : bs.length - a < k
      · rw [if_pos hl]
        refine (rawr_short _ _ _ _ _ _ _ k h hl).mono ?_
        rintro e w' ⟨rfl, hr⟩
        exact ⟨_, rfl, OwnB.nil _ _, hr⟩
      · rw [if_neg hl]
        exact rawr_ok _ _ _ _ _ _ _ k h hbl (by omega)

theorem rawF_len (bs : List UInt8) (a : Nat) (why wat m : Int) : (rawF bs a why wat m).1.length ≤ bs.length := by
  unfold rawF
  by_cases hw : why ≠ 0
  · rw [if_pos hw]; simp
  · rw [if_neg hw]
    by_cases h0 : m < 0
    · rw [if_pos h0]; simp
    · rw [if_neg h0]
      split <;> simp <;> omega
end

end Go.Proofs.Ytggmgbdofjhkdaa
