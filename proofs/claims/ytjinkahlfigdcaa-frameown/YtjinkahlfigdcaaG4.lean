/- Contracts and pure facts that the proof needs, joined. -/
import Derived.Test.YtjinkahlfigdcaaG1
import Derived.Test.YtjinkahlfigdcaaG3
import Derived.Deep.RegionLaw
import Derived.Test.YtjinkahlfigdcaaG2
import Derived.Laws.CopyOwn

/- Short numbers read: the plain mathematics. Nothing here speaks of the program. -/
namespace Go.Proofs.Ytjinkahlfigdcaa

/-- the number that stands there, behind i bytes that made acc: the error (0: none), the number, how many bytes it has -/
def dec : List UInt8 → Nat → Nat → Nat × Nat × Nat
  | [], _, _ => (4, 0, 0)
  | c :: r, i, acc => if i = 9 ∧ 1 < c.toNat then (10, 0, 0) else if 0 < i ∧ c.toNat = 0 then (5, 0, 0) else if c.toNat < 128 then (0, acc + c.toNat * 128 ^ i, i + 1) else dec r (i + 1) (acc + (c.toNat - 128) * 128 ^ i)

theorem dec_cons (c : UInt8) (r : List UInt8) (i acc : Nat) : dec (c :: r) i acc = if i = 9 ∧ 1 < c.toNat then (10, 0, 0) else if 0 < i ∧ c.toNat = 0 then (5, 0, 0) else if c.toNat < 128 then (0, acc + c.toNat * 128 ^ i, i + 1) else dec r (i + 1) (acc + (c.toNat - 128) * 128 ^ i) := rfl

theorem pow_mono {i : Nat} (h : i ≤ 9) : 128 ^ i ≤ 9223372036854775808 := by
  have : (128 : Nat) ^ i ≤ 128 ^ 9 := Nat.pow_le_pow_right (by decide) h
  omega
theorem pow_step {i : Nat} (h : i < 9) : 128 ^ i ≤ 72057594037927936 := by
  have : (128 : Nat) ^ i ≤ 128 ^ 8 := Nat.pow_le_pow_right (by decide) (by omega)
  omega

theorem dec_err : ∀ (l : List UInt8) (i acc : Nat), (dec l i acc).1 ≠ 0 → (dec l i acc).2 = (0, 0)
  | [], _, _, _ => rfl
  | c :: r, i, acc, h => by
    rw [dec_cons] at h ⊢
    split
    · rfl
    · split
      · rfl
      · split
        · rename_i h1 h2 h3
          rw [if_neg h1, if_neg h2, if_pos h3] at h
          exact absurd rfl h
        · rename_i h1 h2 h3
          rw [if_neg h1, if_neg h2, if_neg h3] at h
          exact dec_err r (i + 1) _ h

theorem dec_cases : ∀ (l : List UInt8) (i acc : Nat), (dec l i acc).1 = 0 ∨ (dec l i acc).1 = 4 ∨ (dec l i acc).1 = 5 ∨ (dec l i acc).1 = 10
  | [], _, _ => Or.inr (Or.inl rfl)
  | c :: r, i, acc => by
    rw [dec_cons]
    split
    · exact Or.inr (Or.inr (Or.inr rfl))
    · split
      · exact Or.inr (Or.inr (Or.inl rfl))
      · split
        · exact Or.inl rfl
        · exact dec_cases r (i + 1) _

/-- what is read is below 2^64, has that many bytes, and they are its own -/
theorem dec_sound : ∀ (l : List UInt8) (i acc n k : Nat), i ≤ 9 → acc < 128 ^ i → dec l i acc = (0, n, k) →
    i < k ∧ k ≤ i + l.length ∧ n < 18446744073709551616 ∧ ∃ m, n = acc + m * 128 ^ i ∧ l.take (k - i) = sn m ∧ (0 < i → 0 < m) ∧ m < 18446744073709551616
  | [], i, acc, n, k, _, _, h => by simp [dec] at h
  | c :: r, i, acc, n, k, hi, ha, h => by
    rw [dec_cons] at h
    have hc := UInt8.toNat_lt c
    have hp := pow_mono hi
    split at h
    · simp at h
    · rename_i h1
      split at h
      · simp at h
      · rename_i h2
        split at h
        · rename_i h3
          simp only [Prod.mk.injEq, true_and] at h
          obtain ⟨rfl, rfl⟩ := h
          refine ⟨by omega, by simp, ?_, c.toNat, rfl, ?_, by omega, by omega⟩
          · rcases Nat.lt_or_ge i 9 with h9 | h9
            · have := pow_step h9
              have h4 : c.toNat * 128 ^ i ≤ 127 * 72057594037927936 := Nat.mul_le_mul (by omega) this
              omega
            · obtain rfl : i = 9 := by omega
              have h5 : c.toNat ≤ 1 := by omega
              have h4 : c.toNat * 128 ^ 9 ≤ 1 * 128 ^ 9 := Nat.mul_le_mul_right _ h5
              omega
          · rw [sn_lt h3]
            have : i + 1 - i = 1 := by omega
            rw [this]
            simp
        · rename_i h3
          have hi9 : i < 9 := by
            rcases Nat.lt_or_ge i 9 with h9 | h9
            · exact h9
            · exact absurd ⟨by omega, by omega⟩ h1
          have hps : 128 ^ (i + 1) = 128 ^ i * 128 := Nat.pow_succ _ _
          have hacc : acc + (c.toNat - 128) * 128 ^ i < 128 ^ (i + 1) := by
            have : (c.toNat - 128) * 128 ^ i ≤ 127 * 128 ^ i := Nat.mul_le_mul_right _ (by omega)
            rw [hps]; omega
          obtain ⟨h4, h5, h6, m, h7, h8, h9, h10⟩ := dec_sound r (i + 1) _ n k (by omega) hacc h
          refine ⟨by omega, by simp; omega, h6, m * 128 + (c.toNat - 128), ?_, ?_, by have := h9 (by omega); omega, ?_⟩
          · rw [h7, hps, Nat.add_mul, Nat.mul_assoc m 128, Nat.mul_comm 128]; omega
          · have hm := h9 (by omega)
            have hlt : m * 128 + (c.toNat - 128) < 18446744073709551616 := by
              have hpp : 1 ≤ 128 ^ i := Nat.pow_pos (by decide)
              have : m * 128 * 1 ≤ m * 128 * 128 ^ i := Nat.mul_le_mul_left _ hpp
              have h11 : (c.toNat - 128) * 1 ≤ (c.toNat - 128) * 128 ^ i := Nat.mul_le_mul_left _ hpp
              rw [h7, hps] at h6
              have : m * (128 ^ i * 128) = m * 128 * 128 ^ i := by rw [Nat.mul_comm (128 ^ i), Nat.mul_assoc]
              omega
            rw [sn_ge (by omega) hlt]
            have e1 : (m * 128 + (c.toNat - 128)) % 128 + 128 = c.toNat := by omega
            have e2 : (m * 128 + (c.toNat - 128)) / 128 = m := by omega
            have e3 : k - i = (k - (i + 1)) + 1 := by omega
            rw [e1, e2, e3, List.take_succ_cons, h8]
            simp
          · have hpp : 1 ≤ 128 ^ i := Nat.pow_pos (by decide)
            have : m * 128 * 1 ≤ m * 128 * 128 ^ i := Nat.mul_le_mul_left _ hpp
            have h11 : (c.toNat - 128) * 1 ≤ (c.toNat - 128) * 128 ^ i := Nat.mul_le_mul_left _ hpp
            rw [h7, hps] at h6
            have : m * (128 ^ i * 128) = m * 128 * 128 ^ i := by rw [Nat.mul_comm (128 ^ i), Nat.mul_assoc]
            omega

/-- what was laid down is read back, with whatever behind it -/
theorem dec_snF : ∀ (f m i acc : Nat) (r : List UInt8), 0 < f → m < 128 ^ f → i ≤ 9 → m * 128 ^ i < 18446744073709551616 → (0 < i → 0 < m) → dec (snF f m ++ r) i acc = (0, acc + m * 128 ^ i, i + (snF f m).length)
  | 0, _, _, _, _, h, _, _, _, _ => absurd h (Nat.lt_irrefl _)
  | f + 1, m, i, acc, r, _, hm, hi, hlt, hpos => by
    rw [snF_succ]
    by_cases h : m < 128
    · rw [if_pos h]
      have e : (m.toUInt8).toNat = m := by simp; omega
      have h1 : ¬ (i = 9 ∧ 1 < (m.toUInt8).toNat) := by
        rw [e]
        rintro ⟨rfl, h2⟩
        have : 2 * 128 ^ 9 ≤ m * 128 ^ 9 := Nat.mul_le_mul_right _ h2
        omega
      have h2 : ¬ (0 < i ∧ (m.toUInt8).toNat = 0) := by
        rw [e]
        rintro ⟨h3, h4⟩
        have := hpos h3
        omega
      show dec (m.toUInt8 :: r) i acc = _
      rw [dec_cons, if_neg h1, if_neg h2, if_pos (by rw [e]; exact h), e]
      rfl
    · rw [if_neg h]
      have e : ((m % 128 + 128).toUInt8).toNat = m % 128 + 128 := by simp; omega
      have hi9 : i < 9 := by
        rcases Nat.lt_or_ge i 9 with h9 | h9
        · exact h9
        · obtain rfl : i = 9 := by omega
          have : 128 * 128 ^ 9 ≤ m * 128 ^ 9 := Nat.mul_le_mul_right _ (by omega)
          omega
      have hd : m / 128 < 128 ^ f := by
        rw [Nat.pow_succ] at hm
        exact Nat.div_lt_of_lt_mul (by rw [Nat.mul_comm]; exact hm)
      have hf : 0 < f := by
        rcases Nat.eq_zero_or_pos f with rfl | h'
        · simp at hd; omega
        · exact h'
      have hps : 128 ^ (i + 1) = 128 ^ i * 128 := Nat.pow_succ _ _
      have hmul : m / 128 * 128 ^ (i + 1) + m % 128 * 128 ^ i = m * 128 ^ i := by
        rw [hps, ← Nat.mul_assoc, Nat.mul_right_comm, ← Nat.add_mul, Nat.div_add_mod']
      show dec ((m % 128 + 128).toUInt8 :: (snF f (m / 128) ++ r)) i acc = _
      rw [dec_cons, if_neg (by omega), if_neg (by omega), if_neg (by omega), e, dec_snF f (m / 128) (i + 1) _ r hf hd (by omega) (by omega) (by omega)]
      simp only [List.length_cons, Prod.mk.injEq, true_and]
      constructor
      · have : m % 128 + 128 - 128 = m % 128 := by omega
        rw [this]; omega
      · omega
theorem dec_sn (n : Nat) (r : List UInt8) (hn : n < 18446744073709551616) : dec (sn n ++ r) 0 0 = (0, n, (sn n).length) := by
  have := dec_snF 10 n 0 0 r (by omega) (by omega) (by omega) (by omega) (by omega)
  unfold sn
  simpa using this

/-- a beginning: the same, or bytes are missing -/
theorem dec_begin : ∀ (l : List UInt8) (j i acc : Nat), dec (l.take j) i acc = dec l i acc ∨ dec (l.take j) i acc = (4, 0, 0)
  | [], _, _, _ => by simp
  | c :: r, 0, i, acc => Or.inr rfl
  | c :: r, j + 1, i, acc => by
    rw [List.take_succ_cons, dec_cons, dec_cons]
    split
    · exact Or.inl rfl
    · split
      · exact Or.inl rfl
      · split
        · exact Or.inl rfl
        · exact dec_begin r j _ _

theorem dec_ok {l : List UInt8} {n k : Nat} (h : dec l 0 0 = (0, n, k)) : 0 < k ∧ k ≤ l.length ∧ n < 18446744073709551616 ∧ l.take k = sn n := by
  obtain ⟨h1, h2, h3, m, h4, h5, _, _⟩ := dec_sound l 0 0 n k (by omega) (by simp) h
  have e : n = m := by simpa using h4
  subst e
  exact ⟨h1, by omega, h3, by simpa using h5⟩
theorem dec_ok_len {l : List UInt8} {n k : Nat} (h : dec l 0 0 = (0, n, k)) : k = (sn n).length := by
  obtain ⟨_, h2, _, h4⟩ := dec_ok h
  rw [← h4]; simp; omega
theorem dec_le (l : List UInt8) {e n k : Nat} (h : dec l 0 0 = (e, n, k)) : k ≤ l.length ∧ n < 18446744073709551616 ∧ e < 16 ∧ (e ≠ 0 → n = 0 ∧ k = 0) := by
  by_cases he : e = 0
  · subst he
    obtain ⟨_, h2, h3, _⟩ := dec_ok h
    exact ⟨h2, h3, by omega, fun h' => absurd rfl h'⟩
  · have h1 := dec_err l 0 0 (by rw [h]; exact he)
    rw [h] at h1
    simp at h1
    refine ⟨by omega, by omega, ?_, fun _ => h1⟩
    have := dec_cases l 0 0
    rw [h] at this
    simp at this
    omega

end Go.Proofs.Ytjinkahlfigdcaa

/- place.number over a reader that NewReader gave: it reads the short number that stands there, or tells why there is none. -/
namespace Go.Proofs.Ytjinkahlfigdcaa
open Go.RowKit

theorem drop_cons {bs : List UInt8} {j : Nat} (h : j < bs.length) : bs.drop j = bs.getD j 0 :: bs.drop (j + 1) := by
  rw [List.drop_eq_getElem_cons h]
  simp [List.getD_eq_getElem?_getD, List.getElem?_eq_getElem h]

theorem bits_and_127_all : ∀ a : Fin 256, bits BinOp.and IntKind.u8 (a.val : Int) 127 = ((a.val % 128 : Nat) : Int) := by decide +kernel
theorem bits_and_127 (c : Nat) (h : c < 256) : bits BinOp.and IntKind.u8 (c : Int) 127 = ((c % 128 : Nat) : Int) := bits_and_127_all ⟨c, h⟩
theorem seven_pow (j : Nat) : (2 : Nat) ^ (7 * j) = 128 ^ j := by rw [Nat.pow_mul]
theorem group_lt {c j : Nat} (hj : j ≤ 9) (h9 : j = 9 → c ≤ 1) : c % 128 * 128 ^ j < 18446744073709551616 := by
  rcases Nat.lt_or_ge j 9 with h | h
  · have h1 := pow_step h
    have : c % 128 * 128 ^ j ≤ 127 * 72057594037927936 := Nat.mul_le_mul (by omega) h1
    omega
  · obtain rfl : j = 9 := by omega
    have h1 := h9 rfl
    have : c % 128 * 128 ^ 9 ≤ 1 * 128 ^ 9 := Nat.mul_le_mul_right _ (by omega)
    omega
/-- one group more -/
theorem num_step {acc c j : Nat} (hj : j ≤ 9) (ha : acc < 128 ^ j) (hc : c < 256) (h9 : j = 9 → c ≤ 1) :
    bits BinOp.or IntKind.u64 (acc : Int) (IntKind.u64.wrap (IntKind.u64.wrap (bits BinOp.and IntKind.u8 (c : Int) 127) * 2 ^ (7 * j))) = ((acc + c % 128 * 128 ^ j : Nat) : Int) := by
  have hg := group_lt hj h9
  have hp := pow_mono hj
  have e1 : IntKind.u64.wrap (bits BinOp.and IntKind.u8 (c : Int) 127) = ((c % 128 : Nat) : Int) := by rw [bits_and_127 c hc, IntKind.wrap_u64]; omega
  have e2 : ((c % 128 : Nat) : Int) * 2 ^ (7 * j) = ((c % 128 * 128 ^ j : Nat) : Int) := by rw [← seven_pow j]; simp
  have e3 : IntKind.u64.wrap ((c % 128 * 128 ^ j : Nat) : Int) = ((c % 128 * 128 ^ j : Nat) : Int) := by rw [IntKind.wrap_u64]; omega
  rw [e1, e2, e3, bits_or_u64 _ _ (by omega) hg]
  have e4 := Nat.two_pow_add_eq_or_of_lt (i := 7 * j) (b := acc) (by rw [seven_pow]; exact ha) (c % 128)
  rw [seven_pow] at e4
  rw [Nat.or_comm, Nat.mul_comm (c % 128), ← e4]
  omega
theorem num_step9 {acc c : Nat} (ha : acc < 128 ^ 9) (h9 : c ≤ 1) :
    bits BinOp.or IntKind.u64 (acc : Int) (IntKind.u64.wrap (IntKind.u64.wrap (bits BinOp.and IntKind.u8 (c : Int) 127) * 9223372036854775808)) = ((acc + c % 128 * 128 ^ 9 : Nat) : Int) :=
  num_step (j := 9) (by omega) ha (by omega) (fun _ => h9)

theorem ret_num {x y : Int} (h : x = y) : Ending.returned (.tuple #[.int .u64 x, .int .i64 0]) = .returned (.tuple #[.int .u64 y, .int .i64 0]) := by rw [h]

section
variable {er n k j c acc : Nat} {r : List UInt8}
theorem end_wide (H : (er, n, k) = if j = 9 ∧ 1 < c then (10, 0, 0) else if 0 < j ∧ c = 0 then (5, 0, 0) else if c < 128 then (0, acc + c * 128 ^ j, j + 1) else dec r (j + 1) (acc + (c - 128) * 128 ^ j)) (h1 : j = 9) (h2 : 1 < c) : er = 10 ∧ n = 0 ∧ k = 0 := by
  rw [if_pos ⟨h1, h2⟩] at H; simpa using H
theorem end_form (H : (er, n, k) = if j = 9 ∧ 1 < c then (10, 0, 0) else if 0 < j ∧ c = 0 then (5, 0, 0) else if c < 128 then (0, acc + c * 128 ^ j, j + 1) else dec r (j + 1) (acc + (c - 128) * 128 ^ j)) (h1 : ¬ (j = 9 ∧ 1 < c)) (h2 : 0 < j) (h3 : c = 0) : er = 5 ∧ n = 0 ∧ k = 0 := by
  rw [if_neg h1, if_pos ⟨h2, h3⟩] at H; simpa using H
theorem end_done (H : (er, n, k) = if j = 9 ∧ 1 < c then (10, 0, 0) else if 0 < j ∧ c = 0 then (5, 0, 0) else if c < 128 then (0, acc + c * 128 ^ j, j + 1) else dec r (j + 1) (acc + (c - 128) * 128 ^ j)) (h1 : ¬ (j = 9 ∧ 1 < c)) (h2 : ¬ (0 < j ∧ c = 0)) (h3 : c < 128) : er = 0 ∧ n = acc + c * 128 ^ j ∧ k = j + 1 := by
  rw [if_neg h1, if_neg h2, if_pos h3] at H; simpa using H
theorem end_more (H : (er, n, k) = if j = 9 ∧ 1 < c then (10, 0, 0) else if 0 < j ∧ c = 0 then (5, 0, 0) else if c < 128 then (0, acc + c * 128 ^ j, j + 1) else dec r (j + 1) (acc + (c - 128) * 128 ^ j)) (h1 : ¬ j = 9) (h2 : 128 ≤ c) : dec r (j + 1) (acc + (c - 128) * 128 ^ j) = (er, n, k) := by
  rw [if_neg (by omega), if_neg (by omega), if_neg (by omega)] at H; exact H.symm
end

set_option maxRecDepth 100000 in
set_option maxHeartbeats 1000000 in
theorem number_any (base b : Nat) (v : Value) (bs : List UInt8) (a : Nat) (why wat : Int) (w : World) (h : Rd w base b v bs a why wat) (er n k : Nat) (hdec : dec (bs.drop a) 0 0 = (er, n, k)) :
    Calls Try.prog 56 #[.pointer (some ⟨b, 0, none⟩)] w fun e w' => e = .returned (.tuple #[.int .u64 n, .int .i64 er]) ∧ Rd w' base b v bs (a + k) why wat ∧ w.grownBy w' (some b) := by
  have HD := hid hdec
  have HR := hid h
  have h0 := h.c0
  have h1 := h.c1
  have f1 := h.fz 1
  have hl := h.own.len
  have hle := h.le
  have HF := hid h.own.forms
  obtain ⟨ad, cap, rfl⟩ := h.own.shape
  clear h hdec
  have hl' := hl
  unfold maxLen at hl'
  go_enter Try.func56, Try.ntmps56
  go_wp2_with fail
  go_loopw [4, 5] (fun x i wr => ∃ (j acc q : Nat), j ≤ 9 ∧ a + j ≤ bs.length ∧ acc < 128 ^ j ∧ dec (bs.drop (a + j)) j acc = (er, n, k) ∧ x = .int .u64 acc ∧ i = .int .i64 j ∧ wr = w.drewN q) (fun _ i _ => 10 - (intOf i).toNat)
  case atStart => exact ⟨0, 0, 0, by omega, by omega, by simp, HD.out, rfl, rfl, rfl⟩
  case round =>
    obtain ⟨j, acc, q, hj, haj, hacc, hd, rfl, rfl, rfl⟩ := hrel
    have HDR := hid hd
    have HAC := hid hacc
    clear hd hacc HD
    by_cases hlt : a + j < bs.length
    · obtain ⟨g, hadr, hbyte⟩ : ∃ g, ad = some ⟨g, 0, none⟩ ∧ w.cell? ⟨g, a + j, none⟩ = some (.int .u8 (bs.getD (a + j) 0).toNat) := by
        rcases HF.out with ⟨_, rfl⟩ | ⟨g, cp, hv, _, _, _, _, _, hc⟩
        · simp at hlt
        · simp only [Value.slice.injEq] at hv
          exact ⟨g, hv.1, hc _ hlt⟩
      subst hadr
      have HDR2 := hid (by rw [← HDR.out, drop_cons hlt, dec_cons] : (er, n, k) = _)
      have hcl := UInt8.toNat_lt (bs.getD (a + j) 0)
      generalize (bs.getD (a + j) 0).toNat = c at *
      have hbd : (a : Int) + (j : Int) < (bs.length : Int) := by omega
      have hbd0 : 0 ≤ (a : Int) + (j : Int) := by omega
      have hte : ((a : Int) + (j : Int)).toNat = a + j := by omega
      go_wp2_with (go_at_call 72; go_must (refine (pleft_any _ _ _ (a : Int) _ _ hl (by omega) (by omega) (by exact h0) (by exact h1)).mono ?_); rintro e w' ⟨rfl, q2, rfl⟩)
      go_quiet (fail)
      by_cases h9 : (j : Int) = 9
      · have HJ := hid (by omega : j = 9)
        go_wp2_with fail
        · go_ret2
          have hc1 : (1 : Int) < (c : Int) := by assumption
          obtain ⟨rfl, rfl, rfl⟩ := end_wide HDR2.out HJ.out (by omega)
          exact ⟨rfl, HR.out.drewN _, gb_drewN _ _ _⟩
        · go_ret2
          have hz : ((c : Int) == 0) = true := by assumption
          have hz' : c = 0 := by simpa using hz
          obtain ⟨rfl, rfl, rfl⟩ := end_form HDR2.out (by omega) (by have := HJ.out; omega) hz'
          exact ⟨rfl, HR.out.drewN _, gb_drewN _ _ _⟩
        · have hz : ((c : Int) == 0) = false := by assumption
          have hz' : c ≠ 0 := by simpa using hz
          have hc1 : (c : Int) ≤ 1 := by assumption
          go_ret2
          have e0 := end_done HDR2.out (by omega) (by omega) (by omega)
          have R := (HR.out.drewN (q + q2 + nq)).setAt (a + (j + 1)) (by omega)
          have e1 : c % 128 = c := by omega
          have e2 : (a : Int) + 10 = ((a + (j + 1) : Nat) : Int) := by omega
          rw [e2]
          obtain ⟨rfl, rfl, rfl⟩ := e0
          exact ⟨ret_num (by rw [num_step9 (HJ.out ▸ HAC.out) (by omega), e1, HJ.out]), R, gb_trans (gb_drewN _ _ _) (gb_set _ _ _)⟩
      · have HJ9 := hid (by omega : ¬ j = 9)
        by_cases h0 : 0 < j
        · go_wp2_with fail
          · go_ret2
            have hz : ((c : Int) == 0) = true := by assumption
            have hz' : c = 0 := by simpa using hz
            obtain ⟨rfl, rfl, rfl⟩ := end_form HDR2.out (by omega) h0 hz'
            exact ⟨rfl, HR.out.drewN _, gb_drewN _ _ _⟩
          · have hz : ((c : Int) == 0) = false := by assumption
            have hz' : c ≠ 0 := by simpa using hz
            have hc1 : (c : Int) < 128 := by assumption
            go_ret2
            have e0 := end_done HDR2.out (by omega) (by omega) (by omega)
            have R := (HR.out.drewN (q + q2 + nq)).setAt (a + (j + 1)) (by omega)
            have e1 : c % 128 = c := by omega
            have e2 : (a : Int) + ((j : Int) + 1) = ((a + (j + 1) : Nat) : Int) := by omega
            rw [e2]
            obtain ⟨rfl, rfl, rfl⟩ := e0
            exact ⟨ret_num (by rw [num_step (by omega) HAC.out hcl (fun e => absurd e HJ9.out), e1]), R, gb_trans (gb_drewN _ _ _) (gb_set _ _ _)⟩
          · have hz : ((c : Int) == 0) = false := by assumption
            have hc128 : (128 : Int) ≤ (c : Int) := by assumption
            have e0 := end_more HDR2.out HJ9.out (by omega)
            have e1 : c % 128 = c - 128 := by omega
            have hps : 128 ^ (j + 1) = 128 ^ j * 128 := Nat.pow_succ _ _
            have hmul : (c - 128) * 128 ^ j ≤ 127 * 128 ^ j := Nat.mul_le_mul_right _ (by omega)
            have hac := HAC.out
            refine ⟨⟨j + 1, acc + (c - 128) * 128 ^ j, q + q2 + nq, by omega, by omega, by rw [hps]; omega, by rw [← Nat.add_assoc]; exact e0, ?_, by go_num, rfl⟩, by simp [intOf]; omega⟩
            rw [num_step (by omega) HAC.out hcl (fun e => absurd e HJ9.out), e1]
        · go_wp2_with fail
          · have hc1 : (c : Int) < 128 := by assumption
            go_ret2
            have e0 := end_done HDR2.out (by omega) (by omega) (by omega)
            have R := (HR.out.drewN (q + q2 + nq)).setAt (a + (j + 1)) (by omega)
            have e1 : c % 128 = c := by omega
            have e2 : (a : Int) + ((j : Int) + 1) = ((a + (j + 1) : Nat) : Int) := by omega
            rw [e2]
            obtain ⟨rfl, rfl, rfl⟩ := e0
            exact ⟨ret_num (by rw [num_step (by omega) HAC.out hcl (fun e => absurd e HJ9.out), e1]), R, gb_trans (gb_drewN _ _ _) (gb_set _ _ _)⟩
          · have hc128 : (128 : Int) ≤ (c : Int) := by assumption
            have e0 := end_more HDR2.out HJ9.out (by omega)
            have e1 : c % 128 = c - 128 := by omega
            have hps : 128 ^ (j + 1) = 128 ^ j * 128 := Nat.pow_succ _ _
            have hmul : (c - 128) * 128 ^ j ≤ 127 * 128 ^ j := Nat.mul_le_mul_right _ (by omega)
            have hac := HAC.out
            refine ⟨⟨j + 1, acc + (c - 128) * 128 ^ j, q + q2 + nq, by omega, by omega, by rw [hps]; omega, by rw [← Nat.add_assoc]; exact e0, ?_, by go_num, rfl⟩, by simp [intOf]; omega⟩
            rw [num_step (by omega) HAC.out hcl (fun e => absurd e HJ9.out), e1]
    · have hnl : ¬ ((j : Int) < (bs.length : Int) - (a : Int)) := by omega
      have HN := hid (by rw [← HDR.out, List.drop_eq_nil_of_le (by omega)]; rfl : (er, n, k) = (4, 0, 0))
      go_wp2_with (go_at_call 72; go_must (refine (pleft_any _ _ _ (a : Int) _ _ hl (by omega) (by omega) (by exact h0) (by exact h1)).mono ?_); rintro e w' ⟨rfl, q2, rfl⟩)
      go_ret2
      have e1 := HN.out
      simp only [Prod.mk.injEq] at e1
      obtain ⟨rfl, rfl, rfl⟩ := e1
      exact ⟨rfl, HR.out.drewN _, gb_drewN _ _ _⟩

end Go.Proofs.Ytjinkahlfigdcaa

/- numberUpTo, truth, text and raw over a reader that NewReader gave. -/
namespace Go.Proofs.Ytjinkahlfigdcaa
open Go.RowKit

/-- a number of at most so much: the error, it, how many bytes it has -/
def upTo (l : List UInt8) (most t : Nat) : Nat × Nat × Nat :=
  if (dec l 0 0).1 ≠ 0 then dec l 0 0 else if most < (dec l 0 0).2.1 then (t, 0, 0) else dec l 0 0
/-- a text of at most so many bytes: the error, its bytes, how many bytes it takes -/
def wtxt (l : List UInt8) (most : Nat) : Nat × List UInt8 × Nat :=
  if (upTo l most 3).1 ≠ 0 then ((upTo l most 3).1, [], 0) else if l.length < (upTo l most 3).2.2 + (upTo l most 3).2.1 then (4, [], 0) else (0, (l.drop (upTo l most 3).2.2).take (upTo l most 3).2.1, (upTo l most 3).2.2 + (upTo l most 3).2.1)

theorem upTo_le {l : List UInt8} {most t er n k : Nat} (h : upTo l most t = (er, n, k)) : k ≤ l.length ∧ n ≤ most ∧ (er ≠ 0 → n = 0 ∧ k = 0) := by
  unfold upTo at h
  split at h
  · rename_i h1
    have h2 := dec_err l 0 0 h1
    rw [h] at h2
    simp at h2
    exact ⟨by omega, by omega, fun _ => h2⟩
  · rename_i h1
    split at h
    · simp at h
      obtain ⟨rfl, rfl, rfl⟩ := h
      exact ⟨by omega, by omega, fun _ => ⟨rfl, rfl⟩⟩
    · rename_i h2
      obtain ⟨a1, a2, a3, a4⟩ := dec_le l h
      rw [h] at h2
      simp at h2
      exact ⟨a1, h2, a4⟩
theorem txt_le {l : List UInt8} {most er k : Nat} {s : List UInt8} (h : wtxt l most = (er, s, k)) : k ≤ l.length ∧ s.length ≤ most ∧ (er ≠ 0 → s = [] ∧ k = 0) := by
  unfold wtxt at h
  split at h
  · simp at h
    obtain ⟨_, rfl, rfl⟩ := h
    exact ⟨by omega, by simp, fun _ => ⟨rfl, rfl⟩⟩
  · split at h
    · simp at h
      obtain ⟨_, rfl, rfl⟩ := h
      exact ⟨by omega, by simp, fun _ => ⟨rfl, rfl⟩⟩
    · rename_i h1 h2
      simp only [Prod.mk.injEq] at h
      obtain ⟨rfl, rfl, rfl⟩ := h
      obtain ⟨a1, a2, _⟩ := upTo_le (l := l) (most := most) (t := 3) (er := (upTo l most 3).1) (n := (upTo l most 3).2.1) (k := (upTo l most 3).2.2) rfl
      exact ⟨by omega, by simp; omega, fun h' => absurd rfl h'⟩

theorem ret_ie {x y : Int} {e f : Int} (h : x = y) (h2 : e = f) : Ending.returned (.tuple #[.int .i64 x, .int .i64 e]) = .returned (.tuple #[.int .i64 y, .int .i64 f]) := by rw [h, h2]

section
variable (base b : Nat) (v : Value) (bs : List UInt8) (a : Nat) (why wat : Int) (w : World)

set_option maxRecDepth 100000 in
set_option maxHeartbeats 1000000 in
theorem numberUpTo_any (most t : Nat) (h : Rd w base b v bs a why wat) (hm : most ≤ 9223372036854775807) (ht : t ≠ 0) (er n k : Nat) (hup : upTo (bs.drop a) most t = (er, n, k)) :
    Calls Try.prog 96 #[.pointer (some ⟨b, 0, none⟩), .int .i64 most, .int .i64 t] w fun e w' => e = .returned (.tuple #[.int .i64 n, .int .i64 er]) ∧ Rd w' base b v bs (a + k) why wat ∧ w.grownBy w' (some b) := by
  obtain ⟨er0, n0, k0, hd⟩ : ∃ er0 n0 k0, dec (bs.drop a) 0 0 = (er0, n0, k0) := ⟨_, _, _, rfl⟩
  have HC := hid (number_any base b v bs a why wat w h er0 n0 k0 hd)
  have h1 := h.c1
  have hlt := h.lt
  have HR := hid h
  obtain ⟨d1, d2, d3, d4⟩ := dec_le _ hd
  have HU := hid hup
  unfold upTo at hup
  rw [hd] at hup
  simp only at hup
  have HUP := hid hup
  clear hup h
  have HDL := hid d4
  clear d4
  by_cases he : er0 = 0
  · subst he
    have hsimp := HUP.out
    rw [if_neg (by simp)] at hsimp
    by_cases hgt : most < n0
    · rw [if_pos hgt] at hsimp
      simp only [Prod.mk.injEq] at hsimp
      have HE := hid hsimp
      clear hsimp
      have htb : (((t : Int)) != 0) = true := by simp; omega
      have hgti : (most : Int) < (n0 : Int) := by omega
      go_enter Try.func96, Try.ntmps96
      go_wp2_with fail
      refine Calls.mono HC.out ?_
      rintro e w1 ⟨rfl, hR1, hg1⟩
      have HR1 := hid hR1
      have HG1 := hid hg1
      have g1 := hR1.c1
      have f1 := hR1.fz 1
      clear hR1 hg1 HC
      go_wp2
      go_ret2
      obtain ⟨rfl, rfl, rfl⟩ := HE.out
      exact ⟨ret_ie rfl rfl, HR1.out.setAt a HR.out.le, gb_trans HG1.out (gb_set _ _ _)⟩
    · rw [if_neg hgt] at hsimp
      simp only [Prod.mk.injEq] at hsimp
      have HE := hid hsimp
      clear hsimp
      have hgti : ¬ ((most : Int) < (n0 : Int)) := by omega
      go_enter Try.func96, Try.ntmps96
      go_wp2_with fail
      refine Calls.mono HC.out ?_
      rintro e w1 ⟨rfl, hR1, hg1⟩
      have HR1 := hid hR1
      have HG1 := hid hg1
      clear hR1 hg1 HC
      go_wp2
      go_ret2
      obtain ⟨rfl, rfl, rfl⟩ := HE.out
      exact ⟨ret_ie rfl rfl, HR1.out, HG1.out⟩
  · have hsimp := HUP.out
    rw [if_pos (by simpa using he)] at hsimp
    simp only [Prod.mk.injEq] at hsimp
    have HE := hid hsimp
    have hz := HDL.out he
    have HZ := hid hz
    clear hsimp hz
    have heb : ((er0 : Int) == 0) = false := by simp; omega
    have heb2 : ((er0 : Int) != 0) = true := by simp; omega
    go_enter Try.func96, Try.ntmps96
    go_wp2_with fail
    refine Calls.mono HC.out ?_
    rintro e w1 ⟨rfl, hR1, hg1⟩
    have HR1 := hid hR1
    have HG1 := hid hg1
    clear hR1 hg1 HC
    go_wp2
    go_ret2
    have e1 := HE.out
    have e2 := HZ.out
    obtain ⟨rfl, rfl, rfl⟩ := e1
    obtain ⟨rfl, rfl⟩ := e2
    exact ⟨ret_ie rfl rfl, HR1.out, HG1.out⟩
end

end Go.Proofs.Ytjinkahlfigdcaa

/- truth, text and raw over a reader that NewReader gave. -/
namespace Go.Proofs.Ytjinkahlfigdcaa
open Go.RowKit

theorem ret_se {x y : ByteArray} {e f : Int} (h : x = y) (h2 : e = f) : Ending.returned (.tuple #[.string x, .int .i64 e]) = .returned (.tuple #[.string y, .int .i64 f]) := by rw [h, h2]

/-- a part of bytes of the call's own -/
theorem OwnB.part {w : World} {base : Nat} {v : Value} {bs : List UInt8} (h : OwnB w base v bs) (g cap lo n : Nat) (hv : v = .slice (some ⟨g, 0, none⟩) bs.length cap) (hn : lo + n ≤ bs.length) (hl : bs.length ≤ 140737488355327) :
    Src w (.slice (some ⟨g, lo, none⟩) n (cap - lo)) ((bs.drop lo).take n) := by
  rcases h.forms with ⟨h1, _⟩ | ⟨g', cap', hv', _, hlt, h1, h2, _, hc⟩
  · rw [hv] at h1; simp at h1
  · rw [hv] at hv'
    simp only [Value.slice.injEq, Option.some.injEq, Addr.mk.injEq, and_true, true_and] at hv'
    obtain ⟨rfl, rfl⟩ := hv'
    have hlen : ((bs.drop lo).take n).length = n := by simp; omega
    refine ⟨by rw [hlen]; omega, Or.inr ⟨⟨g, lo, none⟩, cap - lo, by rw [hlen], by rw [hlen]; omega, by omega, fun _ => hlt, fun j hj => ?_⟩⟩
    rw [hlen] at hj
    have e : (⟨g, lo, none⟩ : Addr).add j = ⟨g, lo + j, none⟩ := by
      by_cases h : j = 0
      · subst h; simp [Addr.add]
      · simp [Addr.add, h]
    rw [e, hc _ (by omega)]
    simp [List.getD_eq_getElem?_getD, hj]

theorem upTo_pos {l : List UInt8} {most t n k : Nat} (ht : t ≠ 0) (h : upTo l most t = (0, n, k)) : 0 < k := by
  unfold upTo at h
  split at h
  · rename_i h1
    rw [h] at h1
    exact absurd rfl h1
  · split at h
    · simp at h; exact absurd h.1 ht
    · exact (dec_ok h).1

theorem src_empty {w : World} (g : Nat) (hg : g < w.heap.size) : Src w (.slice (some ⟨g, 0, none⟩) 0 0) [] :=
  ⟨by simp, Or.inr ⟨⟨g, 0, none⟩, 0, rfl, by simp, by simp, fun _ => hg, fun j hj => by simp at hj⟩⟩

section

variable (base b : Nat) (v : Value) (bs : List UInt8) (a : Nat) (why wat : Int) (w : World)


set_option maxRecDepth 100000 in
set_option maxHeartbeats 1000000 in
theorem text_any (most : Nat) (h : Rd w base b v bs a why wat) (hbl : bs.length ≤ 140737488355327) (hm : most ≤ 9223372036854775807) (er k : Nat) (s : List UInt8) (ht : wtxt (bs.drop a) most = (er, s, k)) :
    Calls Try.prog 109 #[.pointer (some ⟨b, 0, none⟩), .int .i64 most] w fun e w' => e = .returned (.tuple #[.string ⟨s.toArray⟩, .int .i64 er]) ∧ Rd w' base b v bs (a + k) why wat ∧ w.grownBy w' (some b) := by
  obtain ⟨er0, n0, k0, hd⟩ : ∃ er0 n0 k0, upTo (bs.drop a) most 3 = (er0, n0, k0) := ⟨_, _, _, rfl⟩
  have HC := hid (numberUpTo_any base b v bs a why wat w most 3 h hm (by omega) er0 n0 k0 hd)
  have h1 := h.c1
  have HR := hid h
  have hle := h.le
  obtain ⟨d1, d2, d4⟩ := upTo_le hd
  have hdl : (bs.drop a).length = bs.length - a := by simp
  unfold wtxt at ht
  rw [hd] at ht
  simp only at ht
  rw [hdl] at ht d1
  have HT := hid ht
  have HDL := hid d4
  have HK := hid (fun e => upTo_pos (by omega : (3 : Nat) ≠ 0) (e ▸ hd) : er0 = 0 → 0 < k0)
  clear ht d4 hd h hdl
  by_cases he : er0 = 0
  · subst he
    have hsimp := HT.out
    rw [if_neg (by simp)] at hsimp
    by_cases hgt : bs.length - a < k0 + n0
    · rw [if_pos hgt] at hsimp
      simp only [Prod.mk.injEq] at hsimp
      have HE := hid hsimp
      clear hsimp
      have hgti : (bs.length : Int) - ((a + k0 : Nat) : Int) < (n0 : Int) := by omega
      go_enter Try.func109, Try.ntmps109
      go_wp2_with fail
      refine Calls.mono HC.out ?_
      rintro e w1 ⟨rfl, hR1, hg1⟩
      have HR1 := hid hR1
      have HG1 := hid hg1
      have g0 := hR1.c0
      have g1 := hR1.c1
      have f1 := hR1.fz 1
      have hl := hR1.own.len
      obtain ⟨ad, cap, rfl⟩ := hR1.own.shape
      clear hR1 hg1 HC
      go_wp2_with fail
      refine (pleft_any _ _ _ ((a + k0 : Nat) : Int) _ _ hl (by omega) (by omega) g0 g1).mono ?_
      rintro e w2 ⟨rfl, q, rfl⟩
      go_wp2
      go_ret2
      obtain ⟨rfl, rfl, rfl⟩ := HE.out
      exact ⟨ret_se rfl rfl, (HR1.out.drewN q).setAt a HR.out.le, gb_trans (gb_trans HG1.out (gb_drewN _ _ _)) (gb_set _ _ _)⟩
    · rw [if_neg hgt] at hsimp
      simp only [Prod.mk.injEq] at hsimp
      have HE := hid hsimp
      have HX := hid (by have := HK.out rfl; omega : 0 < bs.length)
      clear hsimp
      have hgti : ¬ ((bs.length : Int) - ((a + k0 : Nat) : Int) < (n0 : Int)) := by omega
      go_enter Try.func109, Try.ntmps109
      go_wp2_with fail
      refine Calls.mono HC.out ?_
      rintro e w1 ⟨rfl, hR1, hg1⟩
      have HR1 := hid hR1
      have HG1 := hid hg1
      have g0 := hR1.c0
      have g1 := hR1.c1
      have f1 := hR1.fz 1
      have hl := hR1.own.len
      obtain ⟨ad, cap, rfl⟩ := hR1.own.shape
      clear hR1 hg1 HC
      go_wp2_with fail
      refine (pleft_any _ _ _ ((a + k0 : Nat) : Int) _ _ hl (by omega) (by omega) g0 g1).mono ?_
      rintro e w2 ⟨rfl, q, rfl⟩
      go_wp2_with fail
      have hA : ((a : Int) + (k0 : Int) + (n0 : Int)) = ((a + (k0 + n0) : Nat) : Int) := by omega
      rw [hA]
      have R3 := (HR1.out.drewN q).setAt (a + (k0 + n0)) (by omega)
      have HR3 := hid R3
      have HG3 := hid (gb_trans (gb_trans HG1.out (gb_drewN _ q _)) (gb_set _ ⟨b, 1, none⟩ (.int .i64 ((a + (k0 + n0) : Nat) : Int))))
      clear R3 g0 g1 f1 HR1 HG1 hA h1
      generalize ((w1.drewN q).setCell ⟨b, 1, none⟩ (.int .i64 ((a + (k0 + n0) : Nat) : Int))) = W3 at *
      obtain ⟨g, hg, hcap⟩ : ∃ g, ad = some ⟨g, 0, none⟩ ∧ bs.length ≤ cap := by
        rcases HR3.out.own.forms with ⟨_, h2⟩ | ⟨g, cp, hv, _, _, h3, _⟩
        · have := HX.out; rw [h2] at this; simp at this
        · simp only [Value.slice.injEq] at hv
          exact ⟨g, hv.1, hv.2.2 ▸ h3⟩
      subst hg
      have HG := hid ((HR3.out.own.lt g rfl).2)
      have HP := hid (fun q => run_str ((HR3.out.drewN q).own.part g cap (a + k0) n0 rfl (by omega) hbl) : ∀ q, (convert 30 9 (.slice (some ⟨g, a + k0, none⟩) n0 (cap - (a + k0)))).run Try.prog (W3.drewN q) = .ok (.string ⟨((bs.drop (a + k0)).take n0).toArray⟩) (W3.drewN q))
      have HZ := hid (fun q => run_str (src_empty (w := W3.drewN q) g HG.out) : ∀ q, (convert 30 9 (.slice (some ⟨g, 0, none⟩) 0 0)).run Try.prog (W3.drewN q) = .ok (.string ⟨([] : List UInt8).toArray⟩) (W3.drewN q))
      have HST := hid (by simp : (List.drop k0 (bs.drop a)).take n0 = (bs.drop (a + k0)).take n0)
      have c0 := HR3.out.c0
      have HC1 := hid HR3.out.c1
      generalize hAe : a + (k0 + n0) = A at *
      generalize hLe : a + k0 = lo at *
      have hA1 : lo + n0 = A := by omega
      have hA2 : lo ≤ A := by omega
      have hA3 : A ≤ cap := by omega
      have hA4 : A ≤ bs.length := by omega
      have hA6 : n0 = A - lo := by omega
      have HN := hid hA6
      have HP2 := hid (by rw [← HN.out]; exact HP.out : ∀ q, (convert 30 9 (.slice (some ⟨g, lo, none⟩) (A - lo) (cap - lo))).run Try.prog (W3.drewN q) = .ok (.string ⟨((bs.drop lo).take n0).toArray⟩) (W3.drewN q))
      have HAE := hid hAe
      have HLE := hid hLe
      have c1 := HC1.out
      have hw : IntKind.i64.wrap ((A : Int) - (n0 : Int)) = (lo : Int) := by rw [IntKind.wrap_i64]; omega
      clear hA1 hAe hLe hA6
      by_cases hcl : cap = lo
      · have hAl : A = lo := by omega
        have HN0 := hid (by have := HN.out; omega : n0 = 0)
        subst hcl
        subst hAl
        have hcv := HZ.out
        go_quiet (fail)
        clear hcv hw
        go_wp2
        go_ret2
        obtain ⟨rfl, rfl, rfl⟩ := HE.out
        exact ⟨ret_se (by rw [HN0.out]; simp) rfl, by rw [HAE.out]; exact HR3.out.drewN _, gb_trans HG3.out (gb_drewN _ _ _)⟩
      · have hcv := HP2.out
        generalize hS : ((bs.drop lo).take n0).toArray = S at *
        have HS := hid hS
        clear hS
        go_quiet (fail)
        clear hcv hw
        go_wp2
        go_ret2
        obtain ⟨rfl, rfl, rfl⟩ := HE.out
        exact ⟨ret_se (by rw [HST.out, ← HS.out]) rfl, by rw [HAE.out]; exact HR3.out.drewN _, gb_trans HG3.out (gb_drewN _ _ _)⟩
  · have hsimp := HT.out
    rw [if_pos (by simpa using he)] at hsimp
    simp only [Prod.mk.injEq] at hsimp
    have HE := hid hsimp
    have hz := HDL.out he
    have HZ := hid hz
    clear hsimp hz
    have heb2 : ((er0 : Int) != 0) = true := by simp; omega
    go_enter Try.func109, Try.ntmps109
    go_wp2_with fail
    refine Calls.mono HC.out ?_
    rintro e w1 ⟨rfl, hR1, hg1⟩
    have HR1 := hid hR1
    have HG1 := hid hg1
    clear hR1 hg1 HC
    go_wp2
    go_ret2
    have e1 := HE.out
    have e2 := HZ.out
    obtain ⟨rfl, rfl, rfl⟩ := e1
    obtain ⟨rfl, rfl⟩ := e2
    exact ⟨ret_se rfl rfl, HR1.out, HG1.out⟩

end

end Go.Proofs.Ytjinkahlfigdcaa

/- raw over a reader that NewReader gave: so many bytes, in new memory. -/
namespace Go.Proofs.Ytjinkahlfigdcaa
open Go.RowKit

/-- append(nil, bytes...) as one step of a region that draws its order -/
theorem step_app_nil {ops : Array Oper} {o : Oper} {a : Act} {w : World} {K : Act → World → Prop} {Q : Exit → Act → World → Prop} {E : Prop}
    (hg : o.guard = none) (s x : Operand) (ho : o.op = Op.call { callee := Callee.builtin Builtin.append, args := #[s, x], argTypes := #[30, 30] })
    (hs : a.eval s = .slice none 0 0) (vx : Value) (cs : List UInt8) (hx : a.eval x = vx) (hsrc : Src w vx cs)
    (hK : ∀ v' w', OwnB w' w.heap.size v' cs → Below w.heap.size w w' → K (a.put o.dst v') w') :
    if Region.wanted o (yielded ops a.tmps) = true then Oper.wp Try.prog o a w K Q else E := by
  have hw : Region.wanted o (yielded ops a.tmps) = true := by simp [Region.wanted, hg]
  rw [if_pos hw]
  obtain ⟨i0, hi, hz0, hz1, hz2⟩ := info_parts Try.infoU8
  obtain ⟨hl, ⟨rfl, rfl⟩ | ⟨ad, cap, rfl, h1, h2, hlt, hc⟩⟩ := hsrc
  · have hrun := run_append_owned_none (P := Try.prog) (w := w) w.heap.size 30 o.type 5 i0 1 Try.underlying30 hi (.slice none 0 0) 0 [] (World.ownsRow_nil _ _ _ _)
    unfold Oper.wp
    simp [execOp, ho, resolve, invoke, builtin, hs, hx, hrun, Result.andThen]
    exact hK _ _ (OwnB.nil _ _) (Below.refl _ _)
  · obtain ⟨v', w', hr, h3, h4, h5⟩ := run_append_own (P := Try.prog) w w.heap.size 30 o.type 5 i0 (.int .u8 0) 1 1 Try.underlying30 hi hz0 hz1 hz2 rfl (by decide) (.slice none 0 0) 0 [] (World.ownsRow_nil _ _ _ _) ad cs.length cap (bytesV cs) (by simp [bytesV]) (src_cells hc) (bytesV_one cs) (by unfold maxLen; omega) (by omega) (Nat.le_refl _)
    unfold Oper.wp
    simp [execOp, ho, resolve, invoke, builtin, hs, hx, hr, Result.andThen]
    exact hK v' w' (by unfold OwnB; simpa using h3) (gb_below h4)

section
variable (base b : Nat) (v : Value) (bs : List UInt8) (a : Nat) (why wat : Int) (w : World)

/-- what is cut out of a reader's bytes -/
theorem cut_out (n : Nat) (ad : Option Addr) (cap : Nat) (h : OwnB w base (.slice ad bs.length cap) bs) (hbl : bs.length ≤ 140737488355327) (hgt : a + n ≤ bs.length) :
    ∃ vx, Src w vx ((bs.drop a).take n) ∧ (∀ W, (Instr.slice 30 (.slice ad bs.length cap) (some (.int .i64 (a : Int))) (some (.int .i64 ((a + n : Nat) : Int))) none).run Try.prog W = .ok vx W) := by
  rcases h.forms with ⟨h1, rfl⟩ | ⟨g, cp, hv, _, hlt, h1, h2, _, _⟩
  · simp only [Value.slice.injEq] at h1
    obtain ⟨rfl, _, rfl⟩ := h1
    have ha : a = 0 := by simp at hgt; omega
    have hn : n = 0 := by simp at hgt; omega
    subst ha hn
    refine ⟨.slice none 0 0, ⟨by simp, Or.inl ⟨rfl, by simp⟩⟩, fun W => ?_⟩
    go_simp
  · simp only [Value.slice.injEq] at hv
    obtain ⟨rfl, _, rfl⟩ := hv
    by_cases hc : cap = a
    · have hn : n = 0 := by omega
      subst hn
      refine ⟨.slice (some ⟨g, 0, none⟩) 0 0, by simpa using src_empty g hlt, fun W => ?_⟩
      subst hc
      go_simp
    · refine ⟨.slice (some ⟨g, a, none⟩) n (cap - a), h.part g cap a n rfl hgt hbl, fun W => ?_⟩
      have hi1 : (a : Int) ≤ ((a + n : Nat) : Int) := by omega
      have hi2 : ((a + n : Nat) : Int) ≤ (cap : Int) := by omega
      generalize hA : a + n = A at *
      have hA1 : n = A - a := by omega
      subst hA1
      clear hA
      go_simp

set_option maxRecDepth 100000 in
set_option maxHeartbeats 1000000 in
theorem raw_short (n : Nat) (h : Rd w base b v bs a why wat) (hgt : bs.length - a < n) :
    Calls Try.prog 104 #[.pointer (some ⟨b, 0, none⟩), .int .i64 n] w fun e w' => e = .returned (.tuple #[.slice none 0 0, .int .i64 4]) ∧ Rd w' base b v bs a why wat ∧ w.grownBy w' (some b) := by
  have HR := hid h
  have h0 := h.c0
  have h1 := h.c1
  have hl := h.own.len
  have hle := h.le
  obtain ⟨ad, cap, rfl⟩ := h.own.shape
  clear h
  have hd : (bs.length : Int) - (a : Int) < (n : Int) := by omega
  go_enter Try.func104, Try.ntmps104
  go_wp2_with fail
  refine (pleft_any _ _ _ (a : Int) _ _ hl (by omega) (by omega) h0 h1).mono ?_
  rintro e w2 ⟨rfl, q, rfl⟩
  go_wp2
  go_ret2
  exact ⟨rfl, HR.out.drewN q, gb_drewN _ _ _⟩

set_option maxRecDepth 100000 in
set_option maxHeartbeats 1000000 in
theorem raw_ok (n : Nat) (h : Rd w base b v bs a why wat) (hbl : bs.length ≤ 140737488355327) (hgt : a + n ≤ bs.length) :
    Calls Try.prog 104 #[.pointer (some ⟨b, 0, none⟩), .int .i64 n] w fun e w' => ∃ v', e = .returned (.tuple #[v', .int .i64 0]) ∧ OwnB w' w.heap.size v' ((bs.drop a).take n) ∧ Rd w' base b v bs (a + n) why wat ∧ w.grownBy w' (some b) := by
  have HR := hid h
  have h0 := h.c0
  have h1 := h.c1
  have f1 := h.fz 1
  have hl := h.own.len
  have hle := h.le
  obtain ⟨ad, cap, rfl⟩ := h.own.shape
  clear h
  have hl' := hl
  unfold maxLen at hl'
  have hd : ¬ ((bs.length : Int) - (a : Int) < (n : Int)) := by omega
  go_enter Try.func104, Try.ntmps104
  go_wp2_with fail
  refine (pleft_any _ _ _ (a : Int) _ _ hl (by omega) (by omega) h0 h1).mono ?_
  rintro e w2 ⟨rfl, q, rfl⟩
  go_wp2_with fail
  have hA : ((a : Int) + (n : Int)) = ((a + n : Nat) : Int) := by omega
  rw [hA]
  have R3 := (HR.out.drewN q).setAt (a + n) hgt
  have HR3 := hid R3
  have HG3 := hid (gb_trans (gb_drewN w q (some b)) (gb_set _ ⟨b, 1, none⟩ (.int .i64 ((a + n : Nat) : Int))))
  have HSZ := hid (by simp : ((w.drewN q).setCell ⟨b, 1, none⟩ (.int .i64 ((a + n : Nat) : Int))).heap.size = w.heap.size)
  clear R3 hA h0 h1 f1
  generalize ((w.drewN q).setCell ⟨b, 1, none⟩ (.int .i64 ((a + n : Nat) : Int))) = W3 at *
  have c0 := HR3.out.c0
  have HC1 := hid HR3.out.c1
  -- what is cut out
  have HCUT := hid (cut_out base bs a W3.drew n ad cap HR3.out.drew.own hbl hgt)
  obtain ⟨vx, hsx, hrx⟩ := HCUT.out
  have HSX := hid hsx
  clear hsx HCUT
  generalize hAe : a + n = A at *
  have c1 := HC1.out
  have hw : IntKind.i64.wrap ((A : Int) - (n : Int)) = (a : Int) := by rw [IntKind.wrap_i64]; omega
  have HAE := hid hAe
  clear hAe
  go_region_law (refine step_app_nil rfl _ _ rfl rfl _ _ rfl HSX.out ?_; intro v9 w9 ho9 hb9; have HO9 := hid ho9; have HB9 := hid hb9; clear ho9 hb9)
  all_goals
    go_wp2
    go_ret2
    have HF := hid (((Below.refl W3.heap.size W3).drew).trans HB9.out : Below W3.heap.size W3 w9)
    refine ⟨_, rfl, ?_, ?_, ?_⟩
    · rw [← HSZ.out]; exact HO9.out
    · rw [HAE.out]; exact HR3.out.below HF.out
    · exact gb_trans HG3.out (below_gb HF.out _)
end

end Go.Proofs.Ytjinkahlfigdcaa

/- The calls Uint, Int, Count, Bool, Text and Raw of a reader that NewReader gave. -/
namespace Go.Proofs.Ytjinkahlfigdcaa
open Go.RowKit

theorem ret_u8 {a b : Int} (h : a = b) : Ending.returned (.int .u8 a) = .returned (.int .u8 b) := by rw [h]
theorem ret_str {a b : ByteArray} (h : a = b) : Ending.returned (.string a) = .returned (.string b) := by rw [h]
/-- the number with a sign that a number stands for -/
def uz (n : Nat) : Int := if n % 2 = 1 then -((n / 2 : Nat) : Int) - 1 else ((n / 2 : Nat) : Int)

theorem bits_and_one (n : Nat) (hn : n < 18446744073709551616) : bits BinOp.and IntKind.u64 (n : Int) 1 = ((n % 2 : Nat) : Int) := by
  show IntKind.u64.wrap ((BitVec.ofInt 64 (n : Int) &&& BitVec.ofInt 64 ((1 : Nat) : Int)).toNat : Int) = _
  rw [BitVec.toNat_and, bv_u64 n hn, bv_u64 1 (by decide), Nat.and_one_is_mod, IntKind.wrap_u64]
  omega

theorem one_bound (w : World) (n : Int) : ∀ i : Nat, i < 1 → (w.alloc (.cells #[.int .i64 n] 3)).cell? ⟨w.heap.size, i, none⟩ = some (.int .i64 ((fun _ => n) i)) := by
  intro i hi
  obtain rfl : i = 0 := by omega
  simp

section

variable (base b : Nat) (v : Value) (bs : List UInt8) (a : Nat) (why wat : Int) (w : World)


/-- where the fault is, behind a read -/
def watOf (er a : Nat) (wat : Int) : Int := if er ≠ 0 then (a : Int) else wat
/-- the state behind a read: its error is the fault, at the place -/
theorem Rd.after {w : World} {base b : Nat} {v : Value} {bs : List UInt8} {a k er : Nat} {wat : Int} (hk : er ≠ 0 → k = 0)
    (h : Rd w base b v bs (a + k) (if (0 : Int) = 0 then (er : Int) else 0) (if (0 : Int) = 0 ∧ (er : Int) ≠ 0 then ((a + k : Nat) : Int) else wat)) : Rd w base b v bs (a + k) er (watOf er a wat) := by
  unfold watOf
  by_cases he : er = 0
  · subst he; simpa using h
  · have := hk he
    subst this
    simpa [he] using h

set_option maxHeartbeats 400000 in
theorem uint_over (h : Rd w base b v bs a why wat) (hw : why ≠ 0) :
    Calls Try.prog 35 #[.pointer (some ⟨b, 0, none⟩)] w fun e w' => e = .returned (.int .u64 0) ∧ w' = w := by
  have h4 := h.c4
  have h2 := h.c2
  have hb : (why != 0) = true := by simpa using hw
  clear h hw
  go_enter Try.func35, Try.ntmps35
  go_wp2_with (first
    | (go_at_call 54; refine (own_made _ _ h4).mono ?_; rintro e w' ⟨rfl, rfl⟩)
    | (go_at_call 55; refine (may_none _ _ _ h2).mono ?_; rintro e w' ⟨rfl, rfl⟩))
  go_ret
  exact ⟨rfl, rfl⟩

set_option maxHeartbeats 400000 in
theorem uint_go (h : Rd w base b v bs a 0 wat) (er n k : Nat) (hdec : dec (bs.drop a) 0 0 = (er, n, k)) :
    Calls Try.prog 35 #[.pointer (some ⟨b, 0, none⟩)] w fun e w' => e = .returned (.int .u64 n) ∧ Rd w' base b v bs (a + k) er (watOf er a wat) ∧ w.grownBy w' (some b) := by
  have HD := hid hdec
  have HK := hid (fun e => ((dec_le _ hdec).2.2.2 e).2 : er ≠ 0 → k = 0)
  clear hdec
  have h4 := h.c4
  have h2 := h.c2
  have HH := hid h
  clear h
  go_enter Try.func35, Try.ntmps35
  go_wp2_with fail
  refine (own_made _ _ h4).mono ?_
  rintro e w' ⟨rfl, rfl⟩
  go_wp2_with fail
  refine (may_none _ _ _ h2).mono ?_
  rintro e w' ⟨rfl, rfl⟩
  go_wp2_with fail
  refine (number_any _ _ _ _ _ _ _ _ HH.out _ _ _ HD.out).mono ?_
  rintro e w1 ⟨rfl, hR, hg⟩
  have HR := hid hR
  have HG := hid hg
  clear hR hg
  go_wp2_with fail
  refine (wfail_any _ _ _ _ _ _ _ _ _ HR.out).mono ?_
  rintro e w2 ⟨rfl, hR2, hg2⟩
  have HR2 := hid (Rd.after HK.out hR2)
  have HG2 := hid (gb_trans HG.out hg2)
  clear hR2 hg2
  go_wp2
  go_ret
  exact ⟨rfl, HR2.out, HG2.out⟩

set_option maxHeartbeats 400000 in
theorem count_over (m : Int) (h : Rd w base b v bs a why wat) (hw : why ≠ 0) :
    Calls Try.prog 68 #[.pointer (some ⟨b, 0, none⟩), .int .i64 m] w fun e w' => e = .returned (.int .i64 0) ∧ Rd w' base b v bs a why wat ∧ w.grownBy w' (some b) := by
  have h4 := h.c4
  have HH := hid (h.below (below_walk w (.cells #[.int .i64 m] 3)))
  have HW := hid hw
  have hb : (why != 0) = true := by simpa using hw
  clear h hw
  go_enter Try.func68, Try.ntmps68
  go_wp2_with fail
  refine (own_made _ _ h4).mono ?_
  rintro e w' ⟨rfl, rfl⟩
  go_wp2_with fail
  refine (may_ok _ _ 1 why (fun _ => m) _ (by omega) HH.out.c2 (one_bound _ _) (Or.inl HW.out)).mono ?_
  rintro e w1 ⟨rfl, rfl⟩
  go_wp2
  go_ret
  exact ⟨rfl, HH.out, gb_alloc _ _ _⟩

set_option maxHeartbeats 400000 in
theorem count_arg (m : Int) (h : Rd w base b v bs a 0 wat) (hm : m < 0) :
    Calls Try.prog 68 #[.pointer (some ⟨b, 0, none⟩), .int .i64 m] w fun e w' => e = .returned (.int .i64 0) ∧ Rd w' base b v bs a 1 a ∧ w.grownBy w' (some b) := by
  have h4 := h.c4
  have hlt := h.lt
  have H0 := hid h
  have HH := hid (h.below (below_walk w (.cells #[.int .i64 m] 3)))
  have HM := hid hm
  clear h hm
  go_enter Try.func68, Try.ntmps68
  go_wp2_with fail
  refine (own_made _ _ h4).mono ?_
  rintro e w' ⟨rfl, rfl⟩
  go_wp2_with fail
  refine (may_bad _ _ 1 a (fun _ => m) _ _ (by omega) (by omega) HH.out.c1 HH.out.c2 HH.out.c3 (HH.out.fz _) (HH.out.fz _) (one_bound _ _) ⟨0, by omega, HM.out⟩).mono ?_
  rintro e w1 ⟨rfl, rfl⟩
  go_wp2
  go_ret
  exact ⟨rfl, (H0.out.setFault 1 a).below (below_walk _ _), gb_trans (gb_trans (gb_set _ _ _) (gb_set _ _ _)) (gb_alloc _ _ _)⟩

set_option maxHeartbeats 400000 in
theorem count_go (m : Nat) (hm : m ≤ 9223372036854775807) (h : Rd w base b v bs a 0 wat) (er n k : Nat) (hup : upTo (bs.drop a) m 11 = (er, n, k)) :
    Calls Try.prog 68 #[.pointer (some ⟨b, 0, none⟩), .int .i64 m] w fun e w' => e = .returned (.int .i64 n) ∧ Rd w' base b v bs (a + k) er (watOf er a wat) ∧ w.grownBy w' (some b) := by
  have HU := hid hup
  have HK := hid (fun e => ((upTo_le hup).2.2 e).2 : er ≠ 0 → k = 0)
  clear hup
  have h4 := h.c4
  have HH := hid (h.below (below_walk w (.cells #[.int .i64 (m : Int)] 3)))
  clear h
  go_enter Try.func68, Try.ntmps68
  go_wp2_with fail
  refine (own_made _ _ h4).mono ?_
  rintro e w' ⟨rfl, rfl⟩
  go_wp2_with fail
  refine (may_ok _ _ 1 0 (fun _ => (m : Int)) _ (by omega) HH.out.c2 (one_bound _ _) (Or.inr (fun _ _ => by omega))).mono ?_
  rintro e w1 ⟨rfl, rfl⟩
  go_wp2_with fail
  refine (numberUpTo_any _ _ _ _ _ _ _ _ m 11 HH.out hm (by omega) _ _ _ HU.out).mono ?_
  rintro e w1 ⟨rfl, hR, hg⟩
  have HR := hid hR
  have HG := hid hg
  clear hR hg
  go_wp2_with fail
  refine (wfail_any _ _ _ _ _ _ _ _ _ HR.out).mono ?_
  rintro e w2 ⟨rfl, hR2, hg2⟩
  have HR2 := hid (Rd.after HK.out hR2)
  have HG2 := hid (gb_trans (gb_trans (gb_alloc _ _ _) HG.out) hg2)
  clear hR2 hg2
  go_wp2
  go_ret
  exact ⟨rfl, HR2.out, HG2.out⟩

set_option maxHeartbeats 400000 in
theorem textr_over (m : Int) (h : Rd w base b v bs a why wat) (hw : why ≠ 0) :
    Calls Try.prog 103 #[.pointer (some ⟨b, 0, none⟩), .int .i64 m] w fun e w' => e = .returned (.string ⟨#[]⟩) ∧ Rd w' base b v bs a why wat ∧ w.grownBy w' (some b) := by
  have h4 := h.c4
  have HH := hid (h.below (below_walk w (.cells #[.int .i64 m] 3)))
  have HW := hid hw
  have hb : (why != 0) = true := by simpa using hw
  clear h hw
  go_enter Try.func103, Try.ntmps103
  go_wp2_with fail
  refine (own_made _ _ h4).mono ?_
  rintro e w' ⟨rfl, rfl⟩
  go_wp2_with fail
  refine (may_ok _ _ 1 why (fun _ => m) _ (by omega) HH.out.c2 (one_bound _ _) (Or.inl HW.out)).mono ?_
  rintro e w1 ⟨rfl, rfl⟩
  go_wp2
  go_ret
  exact ⟨rfl, HH.out, gb_alloc _ _ _⟩

set_option maxHeartbeats 400000 in
theorem textr_arg (m : Int) (h : Rd w base b v bs a 0 wat) (hm : m < 0) :
    Calls Try.prog 103 #[.pointer (some ⟨b, 0, none⟩), .int .i64 m] w fun e w' => e = .returned (.string ⟨#[]⟩) ∧ Rd w' base b v bs a 1 a ∧ w.grownBy w' (some b) := by
  have h4 := h.c4
  have hlt := h.lt
  have H0 := hid h
  have HH := hid (h.below (below_walk w (.cells #[.int .i64 m] 3)))
  have HM := hid hm
  clear h hm
  go_enter Try.func103, Try.ntmps103
  go_wp2_with fail
  refine (own_made _ _ h4).mono ?_
  rintro e w' ⟨rfl, rfl⟩
  go_wp2_with fail
  refine (may_bad _ _ 1 a (fun _ => m) _ _ (by omega) (by omega) HH.out.c1 HH.out.c2 HH.out.c3 (HH.out.fz _) (HH.out.fz _) (one_bound _ _) ⟨0, by omega, HM.out⟩).mono ?_
  rintro e w1 ⟨rfl, rfl⟩
  go_wp2
  go_ret
  exact ⟨rfl, (H0.out.setFault 1 a).below (below_walk _ _), gb_trans (gb_trans (gb_set _ _ _) (gb_set _ _ _)) (gb_alloc _ _ _)⟩

set_option maxHeartbeats 400000 in
theorem textr_go (m : Nat) (hm : m ≤ 9223372036854775807) (h : Rd w base b v bs a 0 wat) (hbl : bs.length ≤ 140737488355327) (er k : Nat) (s : List UInt8) (ht : wtxt (bs.drop a) m = (er, s, k)) :
    Calls Try.prog 103 #[.pointer (some ⟨b, 0, none⟩), .int .i64 m] w fun e w' => e = .returned (.string ⟨s.toArray⟩) ∧ Rd w' base b v bs (a + k) er (watOf er a wat) ∧ w.grownBy w' (some b) := by
  have HU := hid ht
  have HK := hid (fun e => ((txt_le ht).2.2 e).2 : er ≠ 0 → k = 0)
  clear ht
  have h4 := h.c4
  have HH := hid (h.below (below_walk w (.cells #[.int .i64 (m : Int)] 3)))
  clear h
  go_enter Try.func103, Try.ntmps103
  go_wp2_with fail
  refine (own_made _ _ h4).mono ?_
  rintro e w' ⟨rfl, rfl⟩
  go_wp2_with fail
  refine (may_ok _ _ 1 0 (fun _ => (m : Int)) _ (by omega) HH.out.c2 (one_bound _ _) (Or.inr (fun _ _ => by omega))).mono ?_
  rintro e w1 ⟨rfl, rfl⟩
  go_wp2_with fail
  refine (text_any _ _ _ _ _ _ _ _ m HH.out hbl hm _ _ _ HU.out).mono ?_
  rintro e w1 ⟨rfl, hR, hg⟩
  have HR := hid hR
  have HG := hid hg
  clear hR hg
  go_wp2_with fail
  refine (wfail_any _ _ _ _ _ _ _ _ _ HR.out).mono ?_
  rintro e w2 ⟨rfl, hR2, hg2⟩
  have HR2 := hid (Rd.after HK.out hR2)
  have HG2 := hid (gb_trans (gb_trans (gb_alloc _ _ _) HG.out) hg2)
  clear hR2 hg2
  go_wp2
  go_ret
  exact ⟨rfl, HR2.out, HG2.out⟩

set_option maxHeartbeats 400000 in
theorem rawr_over (m : Int) (h : Rd w base b v bs a why wat) (hw : why ≠ 0) :
    Calls Try.prog 97 #[.pointer (some ⟨b, 0, none⟩), .int .i64 m] w fun e w' => e = .returned (.slice none 0 0) ∧ Rd w' base b v bs a why wat ∧ w.grownBy w' (some b) := by
  have h4 := h.c4
  have HH := hid (h.below (below_walk w (.cells #[.int .i64 m] 3)))
  have HW := hid hw
  have hb : (why != 0) = true := by simpa using hw
  clear h hw
  go_enter Try.func97, Try.ntmps97
  go_wp2_with fail
  refine (own_made _ _ h4).mono ?_
  rintro e w' ⟨rfl, rfl⟩
  go_wp2_with fail
  refine (may_ok _ _ 1 why (fun _ => m) _ (by omega) HH.out.c2 (one_bound _ _) (Or.inl HW.out)).mono ?_
  rintro e w1 ⟨rfl, rfl⟩
  go_wp2
  go_ret
  exact ⟨rfl, HH.out, gb_alloc _ _ _⟩

set_option maxHeartbeats 400000 in
theorem rawr_arg (m : Int) (h : Rd w base b v bs a 0 wat) (hm : m < 0) :
    Calls Try.prog 97 #[.pointer (some ⟨b, 0, none⟩), .int .i64 m] w fun e w' => e = .returned (.slice none 0 0) ∧ Rd w' base b v bs a 1 a ∧ w.grownBy w' (some b) := by
  have h4 := h.c4
  have hlt := h.lt
  have H0 := hid h
  have HH := hid (h.below (below_walk w (.cells #[.int .i64 m] 3)))
  have HM := hid hm
  clear h hm
  go_enter Try.func97, Try.ntmps97
  go_wp2_with fail
  refine (own_made _ _ h4).mono ?_
  rintro e w' ⟨rfl, rfl⟩
  go_wp2_with fail
  refine (may_bad _ _ 1 a (fun _ => m) _ _ (by omega) (by omega) HH.out.c1 HH.out.c2 HH.out.c3 (HH.out.fz _) (HH.out.fz _) (one_bound _ _) ⟨0, by omega, HM.out⟩).mono ?_
  rintro e w1 ⟨rfl, rfl⟩
  go_wp2
  go_ret
  exact ⟨rfl, (H0.out.setFault 1 a).below (below_walk _ _), gb_trans (gb_trans (gb_set _ _ _) (gb_set _ _ _)) (gb_alloc _ _ _)⟩

set_option maxHeartbeats 400000 in
theorem rawr_short (m : Nat) (h : Rd w base b v bs a 0 wat) (hgt : bs.length - a < m) :
    Calls Try.prog 97 #[.pointer (some ⟨b, 0, none⟩), .int .i64 m] w fun e w' => e = .returned (.slice none 0 0) ∧ Rd w' base b v bs a 4 a ∧ w.grownBy w' (some b) := by
  have h4 := h.c4
  have HH := hid (h.below (below_walk w (.cells #[.int .i64 (m : Int)] 3)))
  clear h
  go_enter Try.func97, Try.ntmps97
  go_wp2_with fail
  refine (own_made _ _ h4).mono ?_
  rintro e w' ⟨rfl, rfl⟩
  go_wp2_with fail
  refine (may_ok _ _ 1 0 (fun _ => (m : Int)) _ (by omega) HH.out.c2 (one_bound _ _) (Or.inr (fun _ _ => by omega))).mono ?_
  rintro e w1 ⟨rfl, rfl⟩
  go_wp2_with fail
  refine (raw_short _ _ _ _ _ _ _ _ m HH.out hgt).mono ?_
  rintro e w1 ⟨rfl, hR, hg⟩
  have HR := hid hR
  have HG := hid hg
  clear hR hg
  go_wp2_with fail
  refine (wfail_any _ _ _ _ _ _ _ _ _ HR.out).mono ?_
  rintro e w2 ⟨rfl, hR2, hg2⟩
  have HR2 := hid hR2
  have HG2 := hid (gb_trans (gb_trans (gb_alloc _ _ _) HG.out) hg2)
  clear hR2 hg2
  go_wp2
  go_ret
  exact ⟨rfl, by simpa using HR2.out, HG2.out⟩

set_option maxHeartbeats 400000 in
theorem rawr_ok (m : Nat) (h : Rd w base b v bs a 0 wat) (hbl : bs.length ≤ 140737488355327) (hgt : a + m ≤ bs.length) :
    Calls Try.prog 97 #[.pointer (some ⟨b, 0, none⟩), .int .i64 m] w fun e w' => ∃ v', e = .returned v' ∧ OwnB w' w.heap.size v' ((bs.drop a).take m) ∧ Rd w' base b v bs (a + m) 0 wat ∧ w.grownBy w' (some b) := by
  have hlt := h.lt
  have h4 := h.c4
  have HH := hid (h.below (below_walk w (.cells #[.int .i64 (m : Int)] 3)))
  clear h
  go_enter Try.func97, Try.ntmps97
  go_wp2_with fail
  refine (own_made _ _ h4).mono ?_
  rintro e w' ⟨rfl, rfl⟩
  go_wp2_with fail
  refine (may_ok _ _ 1 0 (fun _ => (m : Int)) _ (by omega) HH.out.c2 (one_bound _ _) (Or.inr (fun _ _ => by omega))).mono ?_
  rintro e w1 ⟨rfl, rfl⟩
  go_wp2_with fail
  refine (raw_ok _ _ _ _ _ _ _ _ m HH.out hbl hgt).mono ?_
  rintro e w1 ⟨v1, rfl, hO, hR, hg⟩
  have HR := hid hR
  have HG := hid hg
  have HO := hid hO
  clear hR hg hO
  go_wp2_with fail
  refine (wfail_any _ _ _ _ _ _ _ _ _ HR.out).mono ?_
  rintro e w2 ⟨rfl, hR2, hg2⟩
  have HR2 := hid hR2
  have HG2 := hid (gb_trans (gb_trans (gb_alloc _ _ _) HG.out) hg2)
  have HO2 := hid (HO.out.far hg2 (fun j e => by cases e; simp; omega))
  clear hR2 hg2
  go_wp2
  go_ret
  exact ⟨_, rfl, HO2.out.le (by simp), by simpa using HR2.out, HG2.out⟩

end

end Go.Proofs.Ytjinkahlfigdcaa

/- list over a reader that NewReader gave, and the call List. -/
namespace Go.Proofs.Ytjinkahlfigdcaa
open Go.RowKit

/-- so many texts, each of at most so many bytes: the error, the texts, how many bytes were passed -/
def lstR : Nat → List UInt8 → Nat → Nat × List (List UInt8) × Nat
  | 0, _, _ => (0, [], 0)
  | n + 1, l, each => if (wtxt l each).1 ≠ 0 then ((wtxt l each).1, [], 0) else if (lstR n (l.drop (wtxt l each).2.2) each).1 ≠ 0 then ((lstR n (l.drop (wtxt l each).2.2) each).1, [], (wtxt l each).2.2 + (lstR n (l.drop (wtxt l each).2.2) each).2.2) else (0, (wtxt l each).2.1 :: (lstR n (l.drop (wtxt l each).2.2) each).2.1, (wtxt l each).2.2 + (lstR n (l.drop (wtxt l each).2.2) each).2.2)
theorem lstR_succ (n : Nat) (l : List UInt8) (each : Nat) : lstR (n + 1) l each = if (wtxt l each).1 ≠ 0 then ((wtxt l each).1, [], 0) else if (lstR n (l.drop (wtxt l each).2.2) each).1 ≠ 0 then ((lstR n (l.drop (wtxt l each).2.2) each).1, [], (wtxt l each).2.2 + (lstR n (l.drop (wtxt l each).2.2) each).2.2) else (0, (wtxt l each).2.1 :: (lstR n (l.drop (wtxt l each).2.2) each).2.1, (wtxt l each).2.2 + (lstR n (l.drop (wtxt l each).2.2) each).2.2) := rfl

theorem lstR_err : ∀ (n : Nat) (l : List UInt8) (each : Nat), (lstR n l each).1 ≠ 0 → (lstR n l each).2.1 = []
  | 0, _, _, h => absurd rfl h
  | n + 1, l, each, h => by
    rw [lstR_succ] at h ⊢
    split
    · rfl
    · split
      · rfl
      · rename_i h1 h2
        rw [if_neg h1, if_neg h2] at h
        exact absurd rfl h

/-- what is left to be read of a list: the state of the loop -/
structure Going (R : Nat × List (List UInt8) × Nat) (bs : List UInt8) (each s a i m : Nat) (ts : List (List UInt8)) : Prop where
  er : R.1 = (lstR m (bs.drop a) each).1
  txs : (lstR m (bs.drop a) each).1 = 0 → R.2.1 = ts ++ (lstR m (bs.drop a) each).2.1
  non : (lstR m (bs.drop a) each).1 ≠ 0 → R.2.1 = []
  len : R.2.2 = (a - s) + (lstR m (bs.drop a) each).2.2
  le : s ≤ a ∧ a ≤ bs.length
  cnt : ts.length = i ∧ i ≤ a - s

theorem txt_pos {l : List UInt8} {most k : Nat} {s : List UInt8} (h : wtxt l most = (0, s, k)) : 0 < k := by
  unfold wtxt at h
  split at h
  · rename_i h1
    simp only [Prod.mk.injEq] at h
    exact absurd h.1 h1
  · rename_i h1
    split at h
    · simp at h
    · simp only [Prod.mk.injEq, true_and] at h
      have h2 : upTo l most 3 = (0, (upTo l most 3).2.1, (upTo l most 3).2.2) := by
        have : (upTo l most 3).1 = 0 := Classical.byContradiction fun e => h1 e
        rw [← this]
      have := upTo_pos (by omega) h2
      omega

theorem Going.stop {R : Nat × List (List UInt8) × Nat} {bs : List UInt8} {each s a i m er k : Nat} {ts : List (List UInt8)} {x : List UInt8} (h : Going R bs each s a i (m + 1) ts) (ht : wtxt (bs.drop a) each = (er, x, k)) (he : er ≠ 0) :
    R.1 = er ∧ R.2.1 = [] ∧ R.2.2 = a - s := by
  have e := lstR_succ m (bs.drop a) each
  rw [ht] at e
  simp only at e
  rw [if_pos he] at e
  have h1 := h.er
  have h2 := h.non
  have h3 := h.len
  rw [e] at h1 h2 h3
  exact ⟨h1, h2 he, by simpa using h3⟩

theorem Going.step {R : Nat × List (List UInt8) × Nat} {bs : List UInt8} {each s a i m k : Nat} {ts : List (List UInt8)} {x : List UInt8} (h : Going R bs each s a i (m + 1) ts) (ht : wtxt (bs.drop a) each = (0, x, k)) :
    Going R bs each s (a + k) (i + 1) m (ts ++ [x]) := by
  have e := lstR_succ m (bs.drop a) each
  rw [ht] at e
  simp only at e
  rw [if_neg (by simp)] at e
  have hd : (bs.drop a).drop k = bs.drop (a + k) := by simp
  rw [hd] at e
  have h1 := h.er
  have h2 := h.txs
  have h3 := h.non
  have h4 := h.len
  have hle := h.le
  have hc := h.cnt
  have hk := (txt_le ht).1
  have hkp := txt_pos ht
  have hlen : (bs.drop a).length = bs.length - a := by simp
  rw [hlen] at hk
  by_cases he : (lstR m (bs.drop (a + k)) each).1 = 0
  · rw [if_neg (by simpa using he)] at e
    rw [e] at h1 h2 h3 h4
    simp only at h1 h2 h3 h4
    exact ⟨by rw [h1, he], fun _ => by rw [h2 trivial]; simp, fun h' => absurd he h', by rw [h4]; omega, by omega, by simp; omega⟩
  · rw [if_pos he] at e
    rw [e] at h1 h2 h3 h4
    simp only at h1 h2 h3 h4
    exact ⟨h1, fun h' => absurd h' he, fun _ => h3 he, by rw [h4]; omega, by omega, by simp; omega⟩

theorem Going.done {R : Nat × List (List UInt8) × Nat} {bs : List UInt8} {each s a i : Nat} {ts : List (List UInt8)} (h : Going R bs each s a i 0 ts) : R.1 = 0 ∧ R.2.1 = ts ∧ R.2.2 = a - s := by
  have h1 := h.er
  have h2 := h.txs
  have h4 := h.len
  simp only [lstR] at h1 h2 h4
  exact ⟨h1, by simpa using h2 trivial, by simpa using h4⟩


/-- v owns the texts ts, in memory from block 'base' on -/
def WOwnS (w : World) (base : Nat) (v : Value) (ts : List (List UInt8)) : Prop := w.ownsRow base 9 1 v ts.length (ts.map fun t => Value.string ⟨t.toArray⟩)
theorem WOwnS.far {w w' : World} {base : Nat} {v : Value} {ts : List (List UInt8)} {row : Option Nat} (h : WOwnS w base v ts) (hg : w.grownBy w' row) (hr : ∀ j, row = some j → j < base) : WOwnS w' base v ts := by
  refine World.ownsRow.kept h hg ?_
  cases e : v.ownBlock with
  | none => exact Or.inl rfl
  | some j =>
    refine Or.inr (fun e2 => ?_)
    have h1 := (World.ownsRow.lt h j e).1
    have h2 := hr j e2.symm
    omega
theorem WOwnS.nil (w : World) (base : Nat) : WOwnS w base (.slice none 0 0) [] := World.ownsRow_nil _ _ _ _
theorem WOwnS.none {w : World} {base : Nat} {ts : List (List UInt8)} (h : WOwnS w base (.slice none 0 0) ts) : ts = [] := by
  rcases h.2 with ⟨_, h0⟩ | ⟨g, cap, _, hv, _⟩
  · exact List.length_eq_zero_iff.1 h0
  · simp at hv
theorem WOwnS.alloc {w : World} {base : Nat} {v : Value} {ts : List (List UInt8)} (h : WOwnS w base v ts) (o : Obj) : WOwnS (w.alloc o) base v ts := World.ownsRow.alloc h o
theorem WOwnS.lt {w : World} {base : Nat} {v : Value} {ts : List (List UInt8)} (h : WOwnS w base v ts) : ∀ k, v.ownBlock = some k → base ≤ k ∧ k < w.heap.size := World.ownsRow.lt h

theorem Rd.far {w w' : World} {base b : Nat} {v : Value} {bs : List UInt8} {a : Nat} {why wat : Int} {row : Option Nat} {B : Nat} (h : Rd w base b v bs a why wat) (hg : w.grownBy w' row) (hb : b < B) (hv : ∀ j, v.ownBlock = some j → j < B) (hr : ∀ j, row = some j → B ≤ j) : Rd w' base b v bs a why wat := by
  refine h.grown hg (fun e => by have := hr _ e; omega) ?_
  cases e : v.ownBlock with
  | none => exact Or.inl rfl
  | some j =>
    refine Or.inr (fun e2 => ?_)
    have h1 := hv j e
    have h2 := hr j e2.symm
    omega

/-- append(own, text) -/
theorem wapp_text {w : World} {ops : Array Oper} {rest : List Oper} {o : Oper} {a : Act} {Q : Exit → Act → World → Prop} (hgd : o.guard = none) (s x : Operand)
    (ho : o.op = .call { callee := .builtin .append, args := #[s, x], argTypes := #[27, 27] })
    (base : Nat) (v : Value) (ts : List (List UInt8)) (hs : a.eval s = v) (hown : WOwnS w base v ts) (t : List UInt8) (g : Nat) (hx : a.eval x = .slice (some ⟨g, 0, none⟩) 1 1) (hc : w.cell? ⟨g, 0, none⟩ = some (.string ⟨t.toArray⟩))
    (hlen : ts.length ≤ 1099511627776) (hbase : base ≤ w.heap.size)
    (h : ∀ v' w', WOwnS w' base v' (ts ++ [t]) → w.grownBy w' v.ownBlock → wpList Try.prog ops Q rest (a.put o.dst v') w') : wpList Try.prog ops Q (o :: rest) a w := by
  obtain ⟨i0, hi, hz0, hz1, hz2⟩ := info_parts Try.infoStr
  refine wpList_append_own w hgd s x 27 ho base 9 i0 (.string ⟨#[]⟩) 1 16 Try.underlying27 hi hz0 hz1 hz2 rfl (by decide) v ts.length _ hs hown ⟨g, 0, none⟩ 1 1 [.string ⟨t.toArray⟩] hx rfl ?_ ?_ (by unfold maxLen; omega) (by omega) hbase ?_
  · intro j u hj
    match j, hj with
    | 0, hj => simp at hj; subst hj; simpa [Addr.add] using hc
  · intro u hu
    simp at hu
    subst hu
    rfl
  · intro v' w' h1 h2 _
    refine h v' w' ?_ h2
    unfold WOwnS
    rw [List.map_append, List.length_append]
    exact h1

theorem ret_ve {x : Value} {e f : Int} (h2 : e = f) : Ending.returned (.tuple #[x, .int .i64 e]) = .returned (.tuple #[x, .int .i64 f]) := by rw [h2]

/-- a list: the error, the texts, how many bytes were passed -/
def lst (l : List UInt8) (most each : Nat) : Nat × List (List UInt8) × Nat :=
  if (upTo l most 11).1 ≠ 0 then ((upTo l most 11).1, [], 0) else ((lstR (upTo l most 11).2.1 (l.drop (upTo l most 11).2.2) each).1, (lstR (upTo l most 11).2.1 (l.drop (upTo l most 11).2.2) each).2.1, (upTo l most 11).2.2 + (lstR (upTo l most 11).2.1 (l.drop (upTo l most 11).2.2) each).2.2)

section
variable (base b : Nat) (v : Value) (bs : List UInt8) (a : Nat) (why wat : Int) (w : World)

set_option maxRecDepth 100000 in
set_option maxHeartbeats 1000000 in
theorem list_any (most each : Nat) (h : Rd w base b v bs a why wat) (hbl : bs.length ≤ 1099511627776) (hm : most ≤ 9223372036854775807) (hea : each ≤ 9223372036854775807) (er k : Nat) (ts : List (List UInt8)) (hl : lst (bs.drop a) most each = (er, ts, k)) :
    Calls Try.prog 108 #[.pointer (some ⟨b, 0, none⟩), .int .i64 most, .int .i64 each] w fun e w' => ∃ v', e = .returned (.tuple #[v', .int .i64 er]) ∧ WOwnS w' w.heap.size v' ts ∧ (er ≠ 0 → v' = .slice none 0 0) ∧ Rd w' base b v bs (a + k) why wat ∧ w.grownBy w' (some b) := by
  obtain ⟨er0, n0, k0, hd⟩ : ∃ er0 n0 k0, upTo (bs.drop a) most 11 = (er0, n0, k0) := ⟨_, _, _, rfl⟩
  have HC := hid (numberUpTo_any base b v bs a why wat w most 11 h hm (by omega) er0 n0 k0 hd)
  have HR := hid h
  have hle := h.le
  have hblt := h.lt
  have HVB := hid (fun j e => (h.own.lt j e).2 : ∀ j, v.ownBlock = some j → j < w.heap.size)
  obtain ⟨d1, d2, d4⟩ := upTo_le hd
  have hdl : (bs.drop a).length = bs.length - a := by simp
  rw [hdl] at d1
  unfold lst at hl
  rw [hd] at hl
  simp only [List.drop_drop] at hl
  have HL := hid hl
  have HDL := hid d4
  clear hl d4 hd h hdl
  by_cases he : er0 = 0
  · subst he
    have hsimp := HL.out
    rw [if_neg (by simp)] at hsimp
    have HG0 := hid (⟨rfl, fun _ => by simp, fun h' => lstR_err _ _ _ h', by simp, by omega, by simp⟩ : Going (lstR n0 (bs.drop (a + k0)) each) bs each (a + k0) (a + k0) 0 n0 [])
    simp only [Prod.mk.injEq] at hsimp
    generalize lstR n0 (bs.drop (a + k0)) each = R at *
    have HE := hid hsimp
    clear hsimp HL
    have hn63 : n0 ≤ 9223372036854775807 := by omega
    go_enter Try.func108, Try.ntmps108
    go_wp2_with fail
    refine Calls.mono HC.out ?_
    rintro e w1 ⟨rfl, hR1, hg1⟩
    have HR1 := hid hR1
    have HG1 := hid hg1
    have hs1 := hg1.size
    clear hR1 hg1 HC
    go_wp2_with fail
    go_loopw [10, 23] (fun x i wr => ∃ (c a' : Nat) (us : List (List UInt8)), c ≤ n0 ∧ i = .int .i64 c ∧ Going R bs each (a + k0) a' c (n0 - c) us ∧ WOwnS wr w.heap.size x us ∧ Rd wr base b v bs a' why wat ∧ w.grownBy wr (some b)) (fun _ i _ => n0 - (intOf i).toNat)
    case atStart => exact ⟨0, a + k0, [], by omega, rfl, by simpa using HG0.out, WOwnS.nil _ _, HR1.out, HG1.out⟩
    case round =>
      obtain ⟨c, a', us, hc, rfl, hgo, hos, hRr, hgr⟩ := hrel
      have HGO := hid hgo
      have HOS := hid hos
      have HRR := hid hRr
      have HGR := hid hgr
      have hsr := hgr.size
      clear hgo hos hRr hgr HG0 HR1 HG1
      by_cases hcn : c < n0
      · obtain ⟨m, hm1⟩ : ∃ m, n0 - c = m + 1 := ⟨n0 - c - 1, by omega⟩
        rw [hm1] at HGO
        obtain ⟨er1, x1, k1, ht⟩ : ∃ er1 x1 k1, wtxt (bs.drop a') each = (er1, x1, k1) := ⟨_, _, _, rfl⟩
        have HT := hid ht
        have HK1 := hid ((txt_le ht).2.2)
        have HM := hid hm1
        clear ht hm1
        by_cases her : er1 = 0
        · subst her
          have HST := hid (HGO.out.step HT.out)
          have hcnt := HGO.out.cnt
          have hle2 := HGO.out.le
          go_wp2_with fail
          refine (text_any _ _ _ _ _ _ _ _ each HRR.out (by omega) hea _ _ _ HT.out).mono ?_
          rintro e w2 ⟨rfl, hR2, hg2⟩
          have HR2 := hid hR2
          have HG2 := hid hg2
          have hs2 := hg2.size
          have HOS2 := hid (HOS.out.far hg2 (fun j e => by cases e; omega))
          clear hR2 hg2
          go_wp2_with (at_builtin; refine wapp_text rfl _ _ rfl w.heap.size _ _ rfl (HOS2.out.alloc _) x1 w2.heap.size rfl ?c0 ?c1 ?c2 ?_)
          case c0 => simp
          case c1 => omega
          case c2 => simp; omega
          intro v3 w3 ho3 hg3
          have HO3 := hid ho3
          have hvlt : ∀ j, u10.ownBlock = some j → w.heap.size ≤ j := fun j e => (HOS.out.lt j e).1
          have HR3 := hid ((HR2.out.below (below_walk _ _)).far hg3 hblt HVB.out hvlt : Rd w3 base b v bs (a' + k1) why wat)
          have HG3 := hid (gb_then (gb_trans (gb_trans HGR.out HG2.out) (gb_alloc _ _ _)) hg3 (fun j e => Or.inl (hvlt j e)) : w.grownBy w3 (some b))
          clear ho3 hg3 hvlt
          go_wp2
          go_roundw
          case rel => exact ⟨c + 1, a' + k1, us ++ [x1], by omega, by go_num, by have := HM.out; rw [show n0 - (c + 1) = m by omega]; exact HST.out, HO3.out, HR3.out, HG3.out⟩
          case measure => simp [intOf]; omega
        · have HSP := hid (HGO.out.stop HT.out her)
          have heb : ((er1 : Int) != 0) = true := by simp; omega
          have HK0 := hid (HK1.out her)
          have hle2 := HGO.out.le
          go_wp2_with fail
          refine (text_any _ _ _ _ _ _ _ _ each HRR.out (by omega) hea _ _ _ HT.out).mono ?_
          rintro e w2 ⟨rfl, hR2, hg2⟩
          have HR2 := hid hR2
          have HG2 := hid hg2
          clear hR2 hg2
          go_wp2
          go_ret2
          obtain ⟨rfl, rfl, rfl⟩ := HE.out
          obtain ⟨e1, e2, e3⟩ := HSP.out
          have e4 := HK0.out.2
          subst e4
          refine ⟨_, ret_ve (by rw [e1]), by rw [e2]; exact WOwnS.nil _ _, fun _ => rfl, ?_, gb_trans HGR.out HG2.out⟩
          rw [e3, show a + (k0 + (a' - (a + k0))) = a' + 0 by omega]
          exact HR2.out
      · have hc0 : n0 - c = 0 := by omega
        rw [hc0] at HGO
        have HDN := hid HGO.out.done
        have hle2 := HGO.out.le
        go_wp2_with fail
        go_ret2
        obtain ⟨rfl, rfl, rfl⟩ := HE.out
        obtain ⟨e1, e2, e3⟩ := HDN.out
        refine ⟨_, ret_ve (by rw [e1]; rfl), by rw [e2]; exact HOS.out, fun h' => absurd e1 h', ?_, HGR.out⟩
        rw [e3, show a + (k0 + (a' - (a + k0))) = a' by omega]
        exact HRR.out
  · have hsimp := HL.out
    rw [if_pos (by simpa using he)] at hsimp
    simp only [Prod.mk.injEq] at hsimp
    have HE := hid hsimp
    have HZ := hid (HDL.out he)
    clear hsimp
    have heb : ((er0 : Int) != 0) = true := by simp; omega
    go_enter Try.func108, Try.ntmps108
    go_wp2_with fail
    refine Calls.mono HC.out ?_
    rintro e w1 ⟨rfl, hR1, hg1⟩
    have HR1 := hid hR1
    have HG1 := hid hg1
    clear hR1 hg1 HC
    go_wp2
    go_ret2
    obtain ⟨rfl, rfl, rfl⟩ := HE.out
    obtain ⟨rfl, rfl⟩ := HZ.out
    exact ⟨_, rfl, WOwnS.nil _ _, fun _ => rfl, HR1.out, HG1.out⟩

theorem two_bounds (w : World) (m n : Int) : ∀ i : Nat, i < 2 → (w.alloc (.cells #[.int .i64 m, .int .i64 n] 3)).cell? ⟨w.heap.size, i, none⟩ = some (.int .i64 ((fun i => if i = 0 then m else n) i)) := by
  intro i hi
  rcases (show i = 0 ∨ i = 1 by omega) with rfl | rfl <;> simp

set_option maxHeartbeats 400000 in
theorem listr_over (m n : Int) (h : Rd w base b v bs a why wat) (hw : why ≠ 0) :
    Calls Try.prog 102 #[.pointer (some ⟨b, 0, none⟩), .int .i64 m, .int .i64 n] w fun e w' => e = .returned (.slice none 0 0) ∧ Rd w' base b v bs a why wat ∧ w.grownBy w' (some b) := by
  have h4 := h.c4
  have HH := hid (h.below (below_walk w (.cells #[.int .i64 m, .int .i64 n] 3)))
  have HW := hid hw
  have hb : (why != 0) = true := by simpa using hw
  clear h hw
  go_enter Try.func102, Try.ntmps102
  go_wp2_with fail
  refine (own_made _ _ h4).mono ?_
  rintro e w' ⟨rfl, rfl⟩
  go_wp2_with fail
  refine (may_ok _ _ 2 why (fun i => if i = 0 then m else n) _ (by omega) HH.out.c2 (two_bounds _ _ _) (Or.inl HW.out)).mono ?_
  rintro e w1 ⟨rfl, rfl⟩
  go_wp2
  go_ret
  exact ⟨rfl, HH.out, gb_alloc _ _ _⟩

set_option maxHeartbeats 400000 in
theorem listr_arg (m n : Int) (h : Rd w base b v bs a 0 wat) (hm : m < 0 ∨ n < 0) :
    Calls Try.prog 102 #[.pointer (some ⟨b, 0, none⟩), .int .i64 m, .int .i64 n] w fun e w' => e = .returned (.slice none 0 0) ∧ Rd w' base b v bs a 1 a ∧ w.grownBy w' (some b) := by
  have h4 := h.c4
  have hlt := h.lt
  have H0 := hid h
  have HH := hid (h.below (below_walk w (.cells #[.int .i64 m, .int .i64 n] 3)))
  have HM := hid (hm.elim (fun h1 => ⟨0, by omega, by simpa using h1⟩) (fun h1 => ⟨1, by omega, by simpa using h1⟩) : ∃ i : Nat, i < 2 ∧ (fun i => if i = 0 then m else n) i < 0)
  clear h hm
  go_enter Try.func102, Try.ntmps102
  go_wp2_with fail
  refine (own_made _ _ h4).mono ?_
  rintro e w' ⟨rfl, rfl⟩
  go_wp2_with fail
  refine (may_bad _ _ 2 a (fun i => if i = 0 then m else n) _ _ (by omega) (by omega) HH.out.c1 HH.out.c2 HH.out.c3 (HH.out.fz _) (HH.out.fz _) (two_bounds _ _ _) HM.out).mono ?_
  rintro e w1 ⟨rfl, rfl⟩
  go_wp2
  go_ret
  exact ⟨rfl, (H0.out.setFault 1 a).below (below_walk _ _), gb_trans (gb_trans (gb_set _ _ _) (gb_set _ _ _)) (gb_alloc _ _ _)⟩

set_option maxHeartbeats 1000000 in
theorem listr_go (m n : Nat) (hm : m ≤ 9223372036854775807) (hn : n ≤ 9223372036854775807) (h : Rd w base b v bs a 0 wat) (hbl : bs.length ≤ 1099511627776) (er k : Nat) (ts : List (List UInt8)) (hl : lst (bs.drop a) m n = (er, ts, k)) :
    Calls Try.prog 102 #[.pointer (some ⟨b, 0, none⟩), .int .i64 m, .int .i64 n] w fun e w' => ∃ v', e = .returned v' ∧ WOwnS w' w.heap.size v' ts ∧ (er ≠ 0 → v' = .slice none 0 0) ∧ (er = 0 → Rd w' base b v bs (a + k) 0 wat) ∧ (er ≠ 0 → Rd w' base b v bs a er ((a + k : Nat) : Int)) ∧ w.grownBy w' (some b) := by
  have h4 := h.c4
  have hlt := h.lt
  have hle := h.le
  have HL := hid hl
  have HH := hid (h.below (below_walk w (.cells #[.int .i64 (m : Int), .int .i64 (n : Int)] 3)))
  have g1 := HH.out.c1
  clear h hl
  by_cases he : er = 0
  · subst he
    go_enter Try.func102, Try.ntmps102
    go_wp2_with fail
    refine (own_made _ _ h4).mono ?_
    rintro e w' ⟨rfl, rfl⟩
    go_wp2_with fail
    refine (may_ok _ _ 2 0 (fun i => if i = 0 then (m : Int) else (n : Int)) _ (by omega) HH.out.c2 (two_bounds _ _ _) (Or.inr (fun i hi => by rcases (show i = 0 ∨ i = 1 by omega) with rfl | rfl <;> simp))).mono ?_
    rintro e w1 ⟨rfl, rfl⟩
    go_wp2_with fail
    refine (list_any _ _ _ _ _ _ _ _ m n HH.out hbl hm hn _ _ _ HL.out).mono ?_
    rintro e w2 ⟨v2, rfl, ho2, _, hR2, hg2⟩
    have HO2 := hid ho2
    have HR2 := hid hR2
    have HG2 := hid hg2
    clear ho2 hR2 hg2
    go_wp2_with fail
    refine (wfail_any _ _ _ _ _ _ _ _ _ HR2.out).mono ?_
    rintro e w3 ⟨rfl, hR3, hg3⟩
    have HR3 := hid (by simpa using hR3 : Rd w3 base b v bs (a + k) 0 wat)
    have HO3 := hid (HO2.out.far hg3 (fun j e => by cases e; simp; omega))
    have HG3 := hid (gb_trans (gb_trans (gb_alloc _ _ _) HG2.out) hg3)
    clear hR3 hg3
    go_wp2_with fail
    refine (over_any _ _ _ HR3.out.c2).mono ?_
    rintro e w4 ⟨rfl, rfl⟩
    go_wp2
    go_ret
    exact ⟨_, rfl, World.ownsRow.kept HO3.out (gb_refl _ none) (by cases h : v2.ownBlock <;> simp) |> fun (h : WOwnS w4 _ v2 ts) => (⟨h.1, h.2.elim Or.inl (fun ⟨g, cap, cur, hv, hg, r⟩ => Or.inr ⟨g, cap, cur, hv, Nat.le_trans (by simp) hg, r⟩)⟩ : WOwnS w4 _ v2 ts), fun h' => absurd rfl h', fun _ => HR3.out, fun h' => absurd rfl h', HG3.out⟩
  · have heb : ((er : Int) != 0) = true := by simp; omega
    go_enter Try.func102, Try.ntmps102
    go_wp2_with fail
    refine (own_made _ _ h4).mono ?_
    rintro e w' ⟨rfl, rfl⟩
    go_wp2_with fail
    refine (may_ok _ _ 2 0 (fun i => if i = 0 then (m : Int) else (n : Int)) _ (by omega) HH.out.c2 (two_bounds _ _ _) (Or.inr (fun i hi => by rcases (show i = 0 ∨ i = 1 by omega) with rfl | rfl <;> simp))).mono ?_
    rintro e w1 ⟨rfl, rfl⟩
    go_wp2_with fail
    refine (list_any _ _ _ _ _ _ _ _ m n HH.out hbl hm hn _ _ _ HL.out).mono ?_
    rintro e w2 ⟨v2, rfl, ho2, hnil, hR2, hg2⟩
    obtain rfl := hnil he
    have HO2 := hid ho2
    have HR2 := hid hR2
    have HG2 := hid hg2
    clear ho2 hR2 hg2 hnil
    go_wp2_with fail
    refine (wfail_any _ _ _ _ _ _ _ _ _ HR2.out).mono ?_
    rintro e w3 ⟨rfl, hR3, hg3⟩
    have HR3 := hid (by simpa [he] using hR3 : Rd w3 base b v bs (a + k) er ((a + k : Nat) : Int))
    have HG3 := hid (gb_trans (gb_trans (gb_alloc _ _ _) HG2.out) hg3)
    have HO3 := hid (HO2.out.far hg3 (fun j e => by cases e; simp; omega))
    clear hR3 hg3
    have q1 := HR3.out.c1
    have f1 := HR3.out.fz 1
    go_wp2_with fail
    refine (over_any _ _ _ HR3.out.c2).mono ?_
    rintro e w4 ⟨rfl, rfl⟩
    go_wp2
    go_ret
    refine ⟨_, rfl, ?_, fun _ => rfl, fun h' => absurd h' he, fun _ => HR3.out.setAt a hle, gb_trans HG3.out (gb_set _ _ _)⟩
    have e0 := HO3.out.none
    subst e0
    exact WOwnS.nil _ _
end

end Go.Proofs.Ytjinkahlfigdcaa

/- What is read without an error has no other form: the plain mathematics. -/
namespace Go.Proofs.Ytjinkahlfigdcaa

theorem tx_mk (t : List UInt8) : tx (mk t) = sn t.length ++ t := by unfold tx; rw [mk_size]; simp [mk]

theorem uz_bounds (n : Nat) (hn : n < 18446744073709551616) : -9223372036854775808 ≤ uz n ∧ uz n ≤ 9223372036854775807 := by
  unfold uz; split <;> omega
theorem zz_uz (n : Nat) : zz (uz n) = n := by
  unfold uz
  split
  · rename_i h
    unfold zz
    rw [if_pos (by omega)]
    omega
  · unfold zz
    rw [if_neg (by omega)]
    omega
theorem uz_zz (n : Int) (h0 : -9223372036854775808 ≤ n) (h1 : n ≤ 9223372036854775807) : uz (zz n) = n := by
  unfold zz
  split
  · unfold uz
    rw [if_pos (by omega)]
    omega
  · unfold uz
    rw [if_neg (by omega)]
    omega

theorem upTo_ok {l : List UInt8} {most t n k : Nat} (ht : t ≠ 0) (h : upTo l most t = (0, n, k)) : dec l 0 0 = (0, n, k) ∧ n ≤ most := by
  unfold upTo at h
  split at h
  · rename_i h1
    rw [h] at h1
    exact absurd rfl h1
  · split at h
    · simp at h; exact absurd h.1 ht
    · rename_i h1 h2
      rw [h] at h2
      exact ⟨h, by simpa using h2⟩
theorem upTo_of {l : List UInt8} {most t n k : Nat} (h : dec l 0 0 = (0, n, k)) (hn : n ≤ most) : upTo l most t = (0, n, k) := by
  unfold upTo
  rw [h, if_neg (by simp), if_neg (by show ¬ most < n; omega)]

theorem txt_ok {l : List UInt8} {most k : Nat} {s : List UInt8} (h : wtxt l most = (0, s, k)) : l.take k = sn s.length ++ s ∧ k = (sn s.length).length + s.length ∧ s.length ≤ most ∧ k ≤ l.length := by
  obtain ⟨er0, n0, k0, hd⟩ : ∃ er0 n0 k0, upTo l most 3 = (er0, n0, k0) := ⟨_, _, _, rfl⟩
  unfold wtxt at h
  rw [hd] at h
  simp only at h
  by_cases he : er0 = 0
  · subst he
    rw [if_neg (by simp)] at h
    by_cases hgt : l.length < k0 + n0
    · rw [if_pos hgt] at h; simp at h
    · rw [if_neg hgt] at h
      simp only [Prod.mk.injEq, true_and] at h
      obtain ⟨rfl, rfl⟩ := h
      obtain ⟨hdec, hm⟩ := upTo_ok (by omega) hd
      obtain ⟨h1, h2, h3, h4⟩ := dec_ok hdec
      have hk := dec_ok_len hdec
      have hlen : ((l.drop k0).take n0).length = n0 := by simp; omega
      refine ⟨?_, by rw [hlen, ← hk], by rw [hlen]; exact hm, by omega⟩
      rw [hlen, ← h4, ← List.take_add]
  · rw [if_pos he] at h
    simp only [Prod.mk.injEq] at h
    exact absurd h.1 he

theorem lstR_ok : ∀ (n : Nat) (l : List UInt8) (each k : Nat) (ts : List (List UInt8)), lstR n l each = (0, ts, k) → ts.length = n ∧ k ≤ l.length ∧ l.take k = txs (ts.map mk)
  | 0, l, each, k, ts, h => by
    simp only [lstR, Prod.mk.injEq, true_and] at h
    obtain ⟨rfl, rfl⟩ := h
    exact ⟨rfl, by omega, by simp [txs]⟩
  | n + 1, l, each, k, ts, h => by
    obtain ⟨er0, s0, k0, hd⟩ : ∃ er0 s0 k0, wtxt l each = (er0, s0, k0) := ⟨_, _, _, rfl⟩
    rw [lstR_succ, hd] at h
    simp only at h
    by_cases he : er0 = 0
    · subst he
      rw [if_neg (by simp)] at h
      obtain ⟨er1, ts1, k1, hr⟩ : ∃ er1 ts1 k1, lstR n (l.drop k0) each = (er1, ts1, k1) := ⟨_, _, _, rfl⟩
      rw [hr] at h
      simp only at h
      by_cases he1 : er1 = 0
      · subst he1
        rw [if_neg (by simp)] at h
        simp only [Prod.mk.injEq, true_and] at h
        obtain ⟨rfl, rfl⟩ := h
        obtain ⟨a1, a2, a3⟩ := lstR_ok n _ _ _ _ hr
        obtain ⟨b1, b2, b3, b4⟩ := txt_ok hd
        simp at a2
        refine ⟨by simp [a1], by omega, ?_⟩
        rw [List.take_add, b1, a3, ← tx_mk]
        simp [txs]
      · rw [if_pos he1] at h
        simp only [Prod.mk.injEq] at h
        exact absurd h.1 he1
    · rw [if_pos he] at h
      simp only [Prod.mk.injEq] at h
      exact absurd h.1 he

theorem lst_ok {l : List UInt8} {most each k : Nat} {ts : List (List UInt8)} (h : lst l most each = (0, ts, k)) : l.take k = ls (ts.map mk) ∧ k ≤ l.length := by
  obtain ⟨er0, n0, k0, hd⟩ : ∃ er0 n0 k0, upTo l most 11 = (er0, n0, k0) := ⟨_, _, _, rfl⟩
  unfold lst at h
  rw [hd] at h
  simp only at h
  by_cases he : er0 = 0
  · subst he
    rw [if_neg (by simp)] at h
    obtain ⟨er1, ts1, k1, hr⟩ : ∃ er1 ts1 k1, lstR n0 (l.drop k0) each = (er1, ts1, k1) := ⟨_, _, _, rfl⟩
    rw [hr] at h
    simp only [Prod.mk.injEq] at h
    obtain ⟨rfl, rfl, rfl⟩ := h
    obtain ⟨a1, a2, a3⟩ := lstR_ok _ _ _ _ _ hr
    obtain ⟨hdec, hm⟩ := upTo_ok (by omega) hd
    obtain ⟨h1, h2, h3, h4⟩ := dec_ok hdec
    simp at a2
    refine ⟨?_, by omega⟩
    rw [List.take_add, h4, a3]
    unfold ls
    simp [a1]
  · rw [if_pos he] at h
    simp only [Prod.mk.injEq] at h
    exact absurd h.1 he

end Go.Proofs.Ytjinkahlfigdcaa

/- What was laid down is read back: the plain mathematics; and what longest and Same answer. -/
namespace Go.Proofs.Ytjinkahlfigdcaa
open Go.RowKit

theorem txt_back (s r : List UInt8) (most : Nat) (hs : s.length < 18446744073709551616) (hm : s.length ≤ most) : wtxt (sn s.length ++ (s ++ r)) most = (0, s, (sn s.length).length + s.length) := by
  have hu := upTo_of (t := 3) (dec_sn s.length (s ++ r) hs) hm
  unfold wtxt
  rw [hu]
  simp only
  rw [if_neg (by simp), if_neg (by simp)]
  simp

theorem lstR_back : ∀ (ts : List (List UInt8)) (r : List UInt8) (each : Nat), (∀ t ∈ ts, t.length ≤ each) → each < 18446744073709551616 → lstR ts.length (txs (ts.map mk) ++ r) each = (0, ts, (txs (ts.map mk)).length)
  | [], r, each, _, _ => by simp [lstR, txs]
  | t :: ts, r, each, h, he => by
    have ht := h t (by simp)
    have e1 : txs ((t :: ts).map mk) ++ r = sn t.length ++ (t ++ (txs (ts.map mk) ++ r)) := by
      have : txs ((t :: ts).map mk) = tx (mk t) ++ txs (ts.map mk) := by simp [txs]
      rw [this, tx_mk]; simp
    have hb := txt_back t (txs (ts.map mk) ++ r) each (by omega) ht
    have hr := lstR_back ts r each (fun x hx => h x (by simp [hx])) he
    have hdr : (sn t.length ++ (t ++ (txs (ts.map mk) ++ r))).drop ((sn t.length).length + t.length) = txs (ts.map mk) ++ r := by
      rw [← List.append_assoc, List.drop_append_of_le_length (by simp)]
      simp
    rw [e1]
    show lstR (ts.length + 1) _ each = _
    rw [lstR_succ, hb]
    simp only
    rw [hdr, hr]
    simp only
    rw [if_neg (by simp), if_neg (by simp)]
    have : txs ((t :: ts).map mk) = tx (mk t) ++ txs (ts.map mk) := by simp [txs]
    rw [this, tx_mk]
    simp
    omega

theorem lst_back (ts : List (List UInt8)) (r : List UInt8) (each : Nat) (h : ∀ t ∈ ts, t.length ≤ each) (he : each < 18446744073709551616) (hn : ts.length < 18446744073709551616) :
    lst (ls (ts.map mk) ++ r) ts.length each = (0, ts, (ls (ts.map mk)).length) := by
  have e1 : ls (ts.map mk) ++ r = sn ts.length ++ (txs (ts.map mk) ++ r) := by unfold ls; simp
  have hu := upTo_of (most := ts.length) (t := 11) (dec_sn ts.length (txs (ts.map mk) ++ r) hn) (Nat.le_refl _)
  have hdr : (sn ts.length ++ (txs (ts.map mk) ++ r)).drop (sn ts.length).length = txs (ts.map mk) ++ r := by simp
  unfold lst
  rw [e1, hu]
  simp only
  rw [if_neg (by simp), hdr, lstR_back ts r each h he]
  unfold ls
  simp

theorem unmk (ss : List ByteArray) : (ss.map (fun s => s.data.toList)).map mk = ss := by
  rw [List.map_map]
  have : (mk ∘ fun s : ByteArray => s.data.toList) = id := by funext s; simp [mk]
  rw [this]; simp

theorem getD_mem {ss : List ByteArray} {k : Nat} (h : k < ss.length) : ss.getD k ByteArray.empty ∈ ss := by
  rw [List.getD_eq_getElem?_getD, List.getElem?_eq_getElem h]
  exact List.getElem_mem _

set_option maxRecDepth 100000 in
set_option maxHeartbeats 400000 in
theorem same_true (va vb : Value) (ss : List ByteArray) (w : World) (ha : WStrs w va ss) (hb : WStrs w vb ss) (hn : ss.length ≤ 1099511627776) :
    Calls Try.prog 33 #[va, vb] w fun e w' => e = .returned (.bool true) ∧ ∃ k, w' = w.drewN k := by
  rcases Nat.eq_zero_or_pos ss.length with hz | hpos
  · have : ss = [] := List.length_eq_zero_iff.1 hz
    subst this
    obtain ⟨a1, c1, rfl⟩ := ha.shape
    obtain ⟨a2, c2, rfl⟩ := hb.shape
    clear ha hb
    go_enter Try.func33, Try.ntmps33
    go_wp2
    go_loop [5] (fun i => i = .int .i64 0) (fun _ => 0)
    case atStart => rfl
    case round =>
      subst hrel
      go_wp2
      go_ret
      exact ⟨rfl, 0, rfl⟩
  · rcases ha with ⟨_, _, _, rfl⟩ | ⟨g1, o1, c1, rfl, _, hc1⟩
    · simp at hpos
    rcases hb with ⟨_, _, _, rfl⟩ | ⟨g2, o2, c2, rfl, _, hc2⟩
    · simp at hpos
    have H1 := hid hc1
    have H2 := hid hc2
    clear hc1 hc2
    go_enter Try.func33, Try.ntmps33
    go_wp2
    go_loopw [5] (fun i wr => ∃ k q : Nat, k ≤ ss.length ∧ i = .int .i64 k ∧ wr = w.drewN q) (fun i _ => ss.length - (intOf i).toNat)
    case atStart => exact ⟨0, 0, by omega, rfl, rfl⟩
    case round =>
      obtain ⟨k, q, hk, rfl, rfl⟩ := hrel
      by_cases hkn : k < ss.length
      · have e1 := H1.out k hkn
        have e2 := H2.out k hkn
        generalize ss.getD k ByteArray.empty = s at *
        have hki : (k : Int) < (ss.length : Int) := by omega
        have hd : decide ((k : Int) < (ss.length : Int)) = true := by simpa using hki
        go_wp2_with fail
        go_quiet (fail)
        go_wp2_with fail
        go_roundw
        case rel => exact ⟨k + 1, q + nq, by omega, by go_num, rfl⟩
        case measure => simp [intOf]; omega
      · go_wp2
        go_ret
        exact ⟨rfl, _, rfl⟩

end Go.Proofs.Ytjinkahlfigdcaa

/- What a call reads, as a function of the bytes and of where the reader stands; and that over a beginning of the bytes the same is read, until bytes are missing. -/
namespace Go.Proofs.Ytjinkahlfigdcaa

/-- what is read, and where the reader stands then: place, fault, its place -/
def byteF (bs : List UInt8) (a : Nat) (why wat : Int) : Nat × Nat × Int × Int :=
  if why ≠ 0 then (0, a, why, wat) else if a < bs.length then ((bs.getD a 0).toNat, a + 1, 0, wat) else (0, a, 4, a)
def uintF (bs : List UInt8) (a : Nat) (why wat : Int) : Nat × Nat × Int × Int :=
  if why ≠ 0 then (0, a, why, wat) else ((dec (bs.drop a) 0 0).2.1, a + (dec (bs.drop a) 0 0).2.2, (dec (bs.drop a) 0 0).1, watOf (dec (bs.drop a) 0 0).1 a wat)
def countF (bs : List UInt8) (a : Nat) (why wat m : Int) : Nat × Nat × Int × Int :=
  if why ≠ 0 then (0, a, why, wat) else if m < 0 then (0, a, 1, a) else ((upTo (bs.drop a) m.toNat 11).2.1, a + (upTo (bs.drop a) m.toNat 11).2.2, (upTo (bs.drop a) m.toNat 11).1, watOf (upTo (bs.drop a) m.toNat 11).1 a wat)
def boolF (bs : List UInt8) (a : Nat) (why wat : Int) : Bool × Nat × Int × Int :=
  if why ≠ 0 then (false, a, why, wat) else if a < bs.length then (if 1 < (bs.getD a 0).toNat then (false, a, 5, a) else ((((bs.getD a 0).toNat : Int) == 1), a + 1, 0, wat)) else (false, a, 4, a)
def textF (bs : List UInt8) (a : Nat) (why wat m : Int) : List UInt8 × Nat × Int × Int :=
  if why ≠ 0 then ([], a, why, wat) else if m < 0 then ([], a, 1, a) else ((wtxt (bs.drop a) m.toNat).2.1, a + (wtxt (bs.drop a) m.toNat).2.2, (wtxt (bs.drop a) m.toNat).1, watOf (wtxt (bs.drop a) m.toNat).1 a wat)
def listF (bs : List UInt8) (a : Nat) (why wat m n : Int) : List (List UInt8) × Nat × Int × Int :=
  if why ≠ 0 then ([], a, why, wat) else if m < 0 ∨ n < 0 then ([], a, 1, a) else if (lst (bs.drop a) m.toNat n.toNat).1 ≠ 0 then ([], a, (lst (bs.drop a) m.toNat n.toNat).1, ((a + (lst (bs.drop a) m.toNat n.toNat).2.2 : Nat) : Int)) else ((lst (bs.drop a) m.toNat n.toNat).2.1, a + (lst (bs.drop a) m.toNat n.toNat).2.2, 0, wat)
def rawF (bs : List UInt8) (a : Nat) (why wat m : Int) : List UInt8 × Nat × Int × Int :=
  if why ≠ 0 then ([], a, why, wat) else if m < 0 then ([], a, 1, a) else if bs.length - a < m.toNat then ([], a, 4, a) else ((bs.drop a).take m.toNat, a + m.toNat, 0, wat)

theorem drop_take' (bs : List UInt8) (n a : Nat) : (bs.take n).drop a = (bs.drop a).take (n - a) := by rw [List.drop_take]

theorem upTo_begin (l : List UInt8) (j most t : Nat) : upTo (l.take j) most t = upTo l most t ∨ upTo (l.take j) most t = (4, 0, 0) := by
  rcases dec_begin l j 0 0 with h | h
  · exact Or.inl (by unfold upTo; rw [h])
  · exact Or.inr (by unfold upTo; rw [h]; simp)
theorem txt_begin (l : List UInt8) (j most : Nat) : wtxt (l.take j) most = wtxt l most ∨ wtxt (l.take j) most = (4, [], 0) := by
  rcases upTo_begin l j most 3 with h | h
  · obtain ⟨er, n, k, hd⟩ : ∃ er n k, upTo l most 3 = (er, n, k) := ⟨_, _, _, rfl⟩
    unfold wtxt
    rw [h, hd]
    simp only
    by_cases he : er = 0
    · subst he
      simp only [ne_eq, not_true_eq_false, if_false]
      by_cases hl : (l.take j).length < k + n
      · exact Or.inr (by rw [if_pos hl])
      · have hl' := hl
        simp only [List.length_take, Nat.not_lt] at hl'
        rw [if_neg hl, if_neg (by omega)]
        refine Or.inl ?_
        rw [List.drop_take, List.take_take]
        have : min n (j - k) = n := by omega
        rw [this]
    · rw [if_pos he, if_pos he]; exact Or.inl rfl
  · exact Or.inr (by unfold wtxt; rw [h]; simp)
theorem lstR_begin : ∀ (n : Nat) (l : List UInt8) (j each : Nat), lstR n (l.take j) each = lstR n l each ∨ (lstR n (l.take j) each).1 = 4
  | 0, _, _, _ => Or.inl rfl
  | n + 1, l, j, each => by
    rcases txt_begin l j each with h | h
    · rw [lstR_succ, lstR_succ, h]
      obtain ⟨er, s, k, hd⟩ : ∃ er s k, wtxt l each = (er, s, k) := ⟨_, _, _, rfl⟩
      rw [hd]
      simp only
      by_cases he : er = 0
      · subst he
        simp only [ne_eq, not_true_eq_false, if_false]
        have hdt : (l.take j).drop k = (l.drop k).take (j - k) := List.drop_take ..
        rw [hdt]
        rcases lstR_begin n (l.drop k) (j - k) each with h2 | h2
        · rw [h2]; exact Or.inl rfl
        · refine Or.inr ?_
          rw [if_pos (by rw [h2]; decide)]
          exact h2
      · rw [if_pos he, if_pos he]; exact Or.inl rfl
    · refine Or.inr ?_
      rw [lstR_succ, h]
      simp
theorem lst_begin (l : List UInt8) (j most each : Nat) : lst (l.take j) most each = lst l most each ∨ (lst (l.take j) most each).1 = 4 := by
  rcases upTo_begin l j most 11 with h | h
  · obtain ⟨er, n, k, hd⟩ : ∃ er n k, upTo l most 11 = (er, n, k) := ⟨_, _, _, rfl⟩
    unfold lst
    rw [h, hd]
    simp only
    by_cases he : er = 0
    · subst he
      simp only [ne_eq, not_true_eq_false, if_false]
      have hdt : (l.take j).drop k = (l.drop k).take (j - k) := List.drop_take ..
      rw [hdt]
      rcases lstR_begin n (l.drop k) (j - k) each with h2 | h2
      · rw [h2]; exact Or.inl rfl
      · exact Or.inr h2
    · rw [if_pos he, if_pos he]; exact Or.inl rfl
  · exact Or.inr (by unfold lst; rw [h]; simp)

section
variable (bs : List UInt8) (n a : Nat) (why wat : Int)
theorem byteF_begin (h : (byteF (bs.take n) a why wat).2.2.1 ≠ 4) : byteF (bs.take n) a why wat = byteF bs a why wat := by
  unfold byteF at h ⊢
  by_cases hw : why ≠ 0
  · rw [if_pos hw, if_pos hw]
  · rw [if_neg hw] at h ⊢
    rw [if_neg hw]
    by_cases hl : a < (bs.take n).length
    · have hl2 : a < bs.length := by simp at hl; omega
      rw [if_pos hl, if_pos hl2]
      have : (bs.take n).getD a 0 = bs.getD a 0 := by
        have hn : a < n := by simp at hl; omega
        simp [List.getD_eq_getElem?_getD, hn]
      rw [this]
    · rw [if_neg hl] at h; exact absurd rfl h
theorem boolF_begin (h : (boolF (bs.take n) a why wat).2.2.1 ≠ 4) : boolF (bs.take n) a why wat = boolF bs a why wat := by
  unfold boolF at h ⊢
  by_cases hw : why ≠ 0
  · rw [if_pos hw, if_pos hw]
  · rw [if_neg hw] at h ⊢
    rw [if_neg hw]
    by_cases hl : a < (bs.take n).length
    · have hl2 : a < bs.length := by simp at hl; omega
      rw [if_pos hl, if_pos hl2]
      have : (bs.take n).getD a 0 = bs.getD a 0 := by
        have hn : a < n := by simp at hl; omega
        simp [List.getD_eq_getElem?_getD, hn]
      rw [this]
    · rw [if_neg hl] at h; exact absurd rfl h
theorem uintF_begin (h : (uintF (bs.take n) a why wat).2.2.1 ≠ 4) : uintF (bs.take n) a why wat = uintF bs a why wat := by
  unfold uintF at h ⊢
  rw [drop_take'] at h ⊢
  by_cases hw : why ≠ 0
  · rw [if_pos hw, if_pos hw]
  · rw [if_neg hw] at h ⊢
    rw [if_neg hw]
    rcases dec_begin (bs.drop a) (n - a) 0 0 with h2 | h2
    · rw [h2]
    · rw [h2] at h; exact absurd rfl h
theorem countF_begin (m : Int) (h : (countF (bs.take n) a why wat m).2.2.1 ≠ 4) : countF (bs.take n) a why wat m = countF bs a why wat m := by
  unfold countF at h ⊢
  rw [drop_take'] at h ⊢
  by_cases hw : why ≠ 0
  · rw [if_pos hw, if_pos hw]
  · rw [if_neg hw] at h ⊢
    rw [if_neg hw]
    by_cases hm : m < 0
    · rw [if_pos hm, if_pos hm]
    · rw [if_neg hm] at h ⊢
      rw [if_neg hm]
      rcases upTo_begin (bs.drop a) (n - a) m.toNat 11 with h2 | h2
      · rw [h2]
      · rw [h2] at h; exact absurd rfl h
theorem textF_begin (m : Int) (h : (textF (bs.take n) a why wat m).2.2.1 ≠ 4) : textF (bs.take n) a why wat m = textF bs a why wat m := by
  unfold textF at h ⊢
  rw [drop_take'] at h ⊢
  by_cases hw : why ≠ 0
  · rw [if_pos hw, if_pos hw]
  · rw [if_neg hw] at h ⊢
    rw [if_neg hw]
    by_cases hm : m < 0
    · rw [if_pos hm, if_pos hm]
    · rw [if_neg hm] at h ⊢
      rw [if_neg hm]
      rcases txt_begin (bs.drop a) (n - a) m.toNat with h2 | h2
      · rw [h2]
      · rw [h2] at h; exact absurd rfl h
theorem listF_begin (m k : Int) (h : (listF (bs.take n) a why wat m k).2.2.1 ≠ 4) : listF (bs.take n) a why wat m k = listF bs a why wat m k := by
  unfold listF at h ⊢
  rw [drop_take'] at h ⊢
  by_cases hw : why ≠ 0
  · rw [if_pos hw, if_pos hw]
  · rw [if_neg hw] at h ⊢
    rw [if_neg hw]
    by_cases hm : m < 0 ∨ k < 0
    · rw [if_pos hm, if_pos hm]
    · rw [if_neg hm] at h ⊢
      rw [if_neg hm]
      rcases lst_begin (bs.drop a) (n - a) m.toNat k.toNat with h2 | h2
      · rw [h2]
      · rw [if_pos (by rw [h2]; decide)] at h
        exact absurd (by rw [h2]; rfl) h
theorem rawF_begin (m : Int) (h : (rawF (bs.take n) a why wat m).2.2.1 ≠ 4) : rawF (bs.take n) a why wat m = rawF bs a why wat m := by
  unfold rawF at h ⊢
  rw [drop_take'] at h ⊢
  by_cases hw : why ≠ 0
  · rw [if_pos hw, if_pos hw]
  · rw [if_neg hw] at h ⊢
    rw [if_neg hw]
    by_cases hm : m < 0
    · rw [if_pos hm, if_pos hm]
    · rw [if_neg hm] at h ⊢
      rw [if_neg hm]
      by_cases hl : (bs.take n).length - a < m.toNat
      · rw [if_pos hl] at h; exact absurd rfl h
      · rw [if_neg hl, if_neg (by simp at hl; omega), List.take_take]
        have : min m.toNat (n - a) = m.toNat := by simp at hl; omega
        rw [this]
end

end Go.Proofs.Ytjinkahlfigdcaa

/- How many bytes a frame has, plainly. -/
namespace Go.Proofs.Ytjinkahlfigdcaa
open Go.RowKit

theorem dec_ten : ∀ (l : List UInt8) (i acc : Nat), i ≤ 9 → dec (l.take (10 - i)) i acc = dec l i acc
  | [], _, _, _ => by simp
  | c :: r, i, acc, hi => by
    rw [show 10 - i = (9 - i) + 1 by omega, List.take_succ_cons, dec_cons, dec_cons]
    split
    · rfl
    · split
      · rfl
      · split
        · rfl
        · rename_i h1 _ h3
          have : i ≤ 8 := by
            rcases Nat.lt_or_ge i 9 with h | h
            · omega
            · exact absurd ⟨by omega, by omega⟩ h1
          have ih := dec_ten r (i + 1) (acc + (c.toNat - 128) * 128 ^ i) (by omega)
          rw [show 10 - (i + 1) = 9 - i by omega] at ih
          exact ih
theorem dec_head (l : List UInt8) : dec (l.take (min l.length 10)) 0 0 = dec l 0 0 := by
  rcases Nat.le_total l.length 10 with h | h
  · rw [Nat.min_eq_left h, List.take_length]
  · rw [Nat.min_eq_right h]
    exact dec_ten l 0 0 (by omega)
/-- how many bytes, where the body begins, the error -/
def needP (bs : List UInt8) : Nat × Nat × Nat :=
  if (dec bs 0 0).1 = 4 then (0, 0, 0) else if (dec bs 0 0).1 ≠ 0 then (0, 0, (dec bs 0 0).1) else if 2097152 < (dec bs 0 0).2.1 then (0, 0, 3) else if (dec bs 0 0).2.1 = 0 then (0, 0, 70) else ((dec bs 0 0).2.2 + (dec bs 0 0).2.1 + 4, (dec bs 0 0).2.2, 0)

theorem cut_at {w : World} {v : Value} {bs : List UInt8} (h : Src w v bs) (k : Nat) (hk : k ≤ bs.length) :
    ∃ vx, Src w vx (bs.take k) ∧ (∀ W, (Instr.slice 30 v none (some (.int .i64 (k : Int))) none).run Try.prog W = .ok vx W) := by
  obtain ⟨hl, ⟨rfl, rfl⟩ | ⟨ad, cap, rfl, h1, h2, hlt, hc⟩⟩ := h
  · simp at hk
    subst hk
    exact ⟨.slice none 0 0, ⟨by simp, Or.inl ⟨rfl, rfl⟩⟩, fun W => by go_simp⟩
  · have hlen : (bs.take k).length = k := by simp; omega
    refine ⟨.slice (some ad) k cap, ⟨by omega, Or.inr ⟨ad, cap, by rw [hlen], by omega, h2, fun h0 => hlt (by omega), fun j hj => ?_⟩⟩, fun W => ?_⟩
    · rw [hlen] at hj
      rw [hc j (by omega)]
      simp [List.getD_eq_getElem?_getD, hj]
    · have hk2 : (k : Int) ≤ (cap : Int) := by omega
      go_simp

end Go.Proofs.Ytjinkahlfigdcaa

/- Frames out of bytes, plainly: what is read, as the document reads it. -/
namespace Go.Proofs.Ytjinkahlfigdcaa
open Go.RowKit

/-- where a reader stands: its place, its fault -/
abbrev St := Nat × Int × Int
def uS (bs : List UInt8) (s : St) : Nat × St := uintF bs s.1 s.2.1 s.2.2
def cS (bs : List UInt8) (m : Int) (s : St) : Nat × St := countF bs s.1 s.2.1 s.2.2 m
def tS (bs : List UInt8) (m : Int) (s : St) : List UInt8 × St := textF bs s.1 s.2.1 s.2.2 m
def lS (bs : List UInt8) (m n : Int) (s : St) : List (List UInt8) × St := listF bs s.1 s.2.1 s.2.2 m n
def rS (bs : List UInt8) (m : Int) (s : St) : List UInt8 × St := rawF bs s.1 s.2.1 s.2.2 m
/-- a number that is not 0 -/
def oS (bs : List UInt8) (m : Int) (s : St) : Nat × St := if (cS bs m s).1 = 0 ∧ (cS bs m s).2.2.1 = 0 then (0, s.1, 70, (s.1 : Int)) else cS bs m s
/-- the fault at the end -/
def eS (bs : List UInt8) (s : St) : Int × Int := if s.2.1 ≠ 0 then s.2 else if s.1 < bs.length then (6, (s.1 : Int)) else s.2
def z32f : List UInt8 := List.replicate 32 0
def pad32 (l : List UInt8) : List UInt8 := if l.length = 32 then l else z32f
def kF (K : Int) : Fr := { zF with kind := K }
def fieldsP (bs : List UInt8) (K : Int) (s : St) : Fr × St :=
  if K = 1 then
    (⟨1, 0, ((oS bs 1 s).1 : Int), ((oS bs 64 (oS bs 1 s).2).1 : Int), pad32 (rS bs 32 (oS bs 64 (oS bs 1 s).2).2).1, 0, (0, 0, 0), [], []⟩, (rS bs 32 (oS bs 64 (oS bs 1 s).2).2).2)
  else if K = 2 then
    (reqF ((uS bs s).1 : Int) (((cS bs 2147483648 (uS bs s).2).1 : Int), ((cS bs 2147483648 (cS bs 2147483648 (uS bs s).2).2).1 : Int), ((cS bs 2147483648 (cS bs 2147483648 (cS bs 2147483648 (uS bs s).2).2).2).1 : Int))
      (lS bs 8 4096 (cS bs 2147483648 (cS bs 2147483648 (cS bs 2147483648 (uS bs s).2).2).2).2).1 (tS bs 2097152 (lS bs 8 4096 (cS bs 2147483648 (cS bs 2147483648 (cS bs 2147483648 (uS bs s).2).2).2).2).2).1,
     (tS bs 2097152 (lS bs 8 4096 (cS bs 2147483648 (cS bs 2147483648 (cS bs 2147483648 (uS bs s).2).2).2).2).2).2)
  else if K = 3 then
    (resF ((uS bs s).1 : Int) ((oS bs 3 (uS bs s).2).1 : Int) (tS bs 2097152 (oS bs 3 (uS bs s).2).2).1, (tS bs 2097152 (oS bs 3 (uS bs s).2).2).2)
  else if K = 4 then (canF ((uS bs s).1 : Int), (uS bs s).2)
  else if K = 5 then (byeF, s)
  else (noteF (tS bs 2097152 s).1, (tS bs 2097152 s).2)
/-- the frame of bytes ahead of which the length stands -/
def frameP (bs : List UInt8) (head : Nat) : Fr × Int × Int :=
  if (oS bs 6 (head, 0, 0)).1 = 0 then (zF, eS bs (oS bs 6 (head, 0, 0)).2)
  else if (eS bs (fieldsP bs (oS bs 6 (head, 0, 0)).1 (oS bs 6 (head, 0, 0)).2).2).1 ≠ 0 then (zF, eS bs (fieldsP bs (oS bs 6 (head, 0, 0)).1 (oS bs 6 (head, 0, 0)).2).2)
  else if mayF (fieldsP bs (oS bs 6 (head, 0, 0)).1 (oS bs 6 (head, 0, 0)).2).1 = true then ((fieldsP bs (oS bs 6 (head, 0, 0)).1 (oS bs 6 (head, 0, 0)).2).1, 0, 0)
  else (zF, 70, (head : Int))
/-- the frame of bytes, and what is wrong -/
def decP (b : List UInt8) : Fr × Int × Int :=
  if (needP b).2.2 ≠ 0 then (zF, ((needP b).2.2 : Int), 0)
  else if (needP b).1 = 0 ∨ b.length < (needP b).1 then (zF, 4, (b.length : Int))
  else if (needP b).1 < b.length then (zF, 6, ((needP b).1 : Int))
  else if cokP b = true then frameP (b.take (b.length - 4)) (needP b).2.1
  else (zF, 71, ((needP b).1 : Int) - 4)

theorem over_u (bs : List UInt8) (s : St) (h : s.2.1 ≠ 0) : uS bs s = (0, s) := by unfold uS uintF; rw [if_pos h]
theorem over_c (bs : List UInt8) (m : Int) (s : St) (h : s.2.1 ≠ 0) : cS bs m s = (0, s) := by unfold cS countF; rw [if_pos h]
theorem over_t (bs : List UInt8) (m : Int) (s : St) (h : s.2.1 ≠ 0) : tS bs m s = ([], s) := by unfold tS textF; rw [if_pos h]
theorem over_l (bs : List UInt8) (m n : Int) (s : St) (h : s.2.1 ≠ 0) : lS bs m n s = ([], s) := by unfold lS listF; rw [if_pos h]
theorem over_r (bs : List UInt8) (m : Int) (s : St) (h : s.2.1 ≠ 0) : rS bs m s = ([], s) := by unfold rS rawF; rw [if_pos h]
theorem over_o (bs : List UInt8) (m : Int) (s : St) (h : s.2.1 ≠ 0) : oS bs m s = (0, s) := by
  unfold oS
  rw [over_c bs m s h, if_neg (fun hh => h hh.2)]
/-- a number that is 0 is a fault -/
theorem oS_zero (bs : List UInt8) (m : Int) (s : St) (h : (oS bs m s).1 = 0) : (oS bs m s).2.2.1 ≠ 0 := by
  unfold oS at h ⊢
  split
  · show (70 : Int) ≠ 0
    omega
  · rename_i hn
    rw [if_neg hn] at h
    exact fun h2 => hn ⟨h, h2⟩
theorem cS_le (bs : List UInt8) (m : Int) (s : St) (h0 : 0 ≤ m) : ((cS bs m s).1 : Int) ≤ m := by
  unfold cS countF
  by_cases h1 : s.2.1 ≠ 0
  · rw [if_pos h1]
    exact h0
  · rw [if_neg h1, if_neg (show ¬ m < 0 by omega)]
    have h : upTo (bs.drop s.1) m.toNat 11 = ((upTo (bs.drop s.1) m.toNat 11).1, (upTo (bs.drop s.1) m.toNat 11).2.1, (upTo (bs.drop s.1) m.toNat 11).2.2) := rfl
    have h2 := (upTo_le h).2.1
    show ((upTo (bs.drop s.1) m.toNat 11).2.1 : Int) ≤ m
    omega
theorem oS_le (bs : List UInt8) (m : Int) (s : St) (h0 : 0 ≤ m) : ((oS bs m s).1 : Int) ≤ m := by
  unfold oS
  split
  · exact h0
  · exact cS_le bs m s h0
theorem pad32_length (l : List UInt8) : (pad32 l).length = 32 := by
  unfold pad32
  split
  · assumption
  · rfl
theorem fieldsP_tool (bs : List UInt8) (K : Int) (s : St) : (fieldsP bs K s).1.tool.length = 32 := by
  unfold fieldsP
  repeat' split
  all_goals first | exact pad32_length _ | rfl
theorem fieldsP_kind (bs : List UInt8) (K : Int) (s : St) (h : 1 ≤ K ∧ K ≤ 6) : (fieldsP bs K s).1.kind = K := by
  unfold fieldsP
  have hc : K = 1 ∨ K = 2 ∨ K = 3 ∨ K = 4 ∨ K = 5 ∨ K = 6 := by omega
  rcases hc with rfl | rfl | rfl | rfl | rfl | rfl <;> rfl
end Go.Proofs.Ytjinkahlfigdcaa

/- One contract for each reading call of a made reader, by what it reads. -/
namespace Go.Proofs.Ytjinkahlfigdcaa
open Go.RowKit

section

variable {base b : Nat} {v : Value} {bs : List UInt8} {a : Nat} {why wat : Int} {w : World}

theorem uint_R (h : Rd w base b v bs a why wat) :
    Calls Try.prog 35 #[.pointer (some ⟨b, 0, none⟩)] w fun e w' => e = .returned (.int .u64 (uintF bs a why wat).1) ∧ Rd w' base b v bs (uintF bs a why wat).2.1 (uintF bs a why wat).2.2.1 (uintF bs a why wat).2.2.2 ∧ w.grownBy w' (some b) := by
  unfold uintF
  by_cases hw : why ≠ 0
  · rw [if_pos hw]
    refine (uint_over _ _ _ _ _ _ _ _ h hw).mono ?_
    rintro e w' ⟨rfl, rfl⟩
    exact ⟨rfl, h, gb_refl _ _⟩
  · rw [if_neg hw]
    obtain rfl : why = 0 := by omega
    exact uint_go _ _ _ _ _ _ _ h _ _ _ rfl

theorem uintF_lt (bs : List UInt8) (a : Nat) (why wat : Int) : (uintF bs a why wat).1 < 18446744073709551616 := by
  unfold uintF
  by_cases hw : why ≠ 0
  · rw [if_pos hw]; simp
  · rw [if_neg hw]
    obtain ⟨er, n, k, hd⟩ : ∃ er n k, dec (bs.drop a) 0 0 = (er, n, k) := ⟨_, _, _, rfl⟩
    rw [hd]
    exact (dec_le _ hd).2.1

theorem count_R (m : Int) (hm : m ≤ 9223372036854775807) (h : Rd w base b v bs a why wat) :
    Calls Try.prog 68 #[.pointer (some ⟨b, 0, none⟩), .int .i64 m] w fun e w' => e = .returned (.int .i64 (countF bs a why wat m).1) ∧ Rd w' base b v bs (countF bs a why wat m).2.1 (countF bs a why wat m).2.2.1 (countF bs a why wat m).2.2.2 ∧ w.grownBy w' (some b) := by
  unfold countF
  by_cases hw : why ≠ 0
  · rw [if_pos hw]
    exact count_over _ _ _ _ _ _ _ _ m h hw
  · rw [if_neg hw]
    obtain rfl : why = 0 := by omega
    by_cases h0 : m < 0
    · rw [if_pos h0]
      exact count_arg _ _ _ _ _ _ _ m h h0
    · rw [if_neg h0]
      obtain ⟨k, rfl⟩ : ∃ k : Nat, m = k := ⟨m.toNat, by omega⟩
      exact count_go _ _ _ _ _ _ _ k (by omega) h _ _ _ rfl

theorem countF_lt (bs : List UInt8) (a : Nat) (why wat m : Int) (hm : m ≤ 9223372036854775807) : (countF bs a why wat m).1 ≤ 9223372036854775807 := by
  unfold countF
  by_cases hw : why ≠ 0
  · rw [if_pos hw]; simp
  · rw [if_neg hw]
    by_cases h0 : m < 0
    · rw [if_pos h0]; simp
    · rw [if_neg h0]
      obtain ⟨er, n, k, hd⟩ : ∃ er n k, upTo (bs.drop a) m.toNat 11 = (er, n, k) := ⟨_, _, _, rfl⟩
      have := (upTo_le hd).2.1
      rw [hd]
      show n ≤ _
      omega

theorem text_R (m : Int) (hm : m ≤ 9223372036854775807) (hbl : bs.length ≤ 140737488355327) (h : Rd w base b v bs a why wat) :
    Calls Try.prog 103 #[.pointer (some ⟨b, 0, none⟩), .int .i64 m] w fun e w' => e = .returned (.string ⟨(textF bs a why wat m).1.toArray⟩) ∧ Rd w' base b v bs (textF bs a why wat m).2.1 (textF bs a why wat m).2.2.1 (textF bs a why wat m).2.2.2 ∧ w.grownBy w' (some b) := by
  unfold textF
  by_cases hw : why ≠ 0
  · rw [if_pos hw]
    exact textr_over _ _ _ _ _ _ _ _ m h hw
  · rw [if_neg hw]
    obtain rfl : why = 0 := by omega
    by_cases h0 : m < 0
    · rw [if_pos h0]
      exact textr_arg _ _ _ _ _ _ _ m h h0
    · rw [if_neg h0]
      obtain ⟨k, rfl⟩ : ∃ k : Nat, m = k := ⟨m.toNat, by omega⟩
      exact textr_go _ _ _ _ _ _ _ k (by omega) h hbl _ _ _ rfl

theorem textF_len (bs : List UInt8) (a : Nat) (why wat m : Int) : (textF bs a why wat m).1.length ≤ bs.length := by
  unfold textF
  by_cases hw : why ≠ 0
  · rw [if_pos hw]; simp
  · rw [if_neg hw]
    by_cases h0 : m < 0
    · rw [if_pos h0]; simp
    · rw [if_neg h0]
      show (wtxt (bs.drop a) m.toNat).2.1.length ≤ _
      obtain ⟨er, s, k, hd⟩ : ∃ er s k, wtxt (bs.drop a) m.toNat = (er, s, k) := ⟨_, _, _, rfl⟩
      rw [hd]
      by_cases he : er = 0
      · subst he
        obtain ⟨_, h2, _, h4⟩ := txt_ok hd
        simp at h4
        show s.length ≤ _
        omega
      · rw [((txt_le hd).2.2 he).1]; simp

theorem list_R (m n : Int) (hm : m ≤ 9223372036854775807) (hn : n ≤ 9223372036854775807) (hbl : bs.length ≤ 1099511627776) (h : Rd w base b v bs a why wat) :
    Calls Try.prog 102 #[.pointer (some ⟨b, 0, none⟩), .int .i64 m, .int .i64 n] w fun e w' => ∃ v', e = .returned v' ∧ WOwnS w' w.heap.size v' (listF bs a why wat m n).1 ∧ Rd w' base b v bs (listF bs a why wat m n).2.1 (listF bs a why wat m n).2.2.1 (listF bs a why wat m n).2.2.2 ∧ w.grownBy w' (some b) := by
  unfold listF
  by_cases hw : why ≠ 0
  · rw [if_pos hw]
    refine (listr_over _ _ _ _ _ _ _ _ m n h hw).mono ?_
    rintro e w' ⟨rfl, hr⟩
    exact ⟨_, rfl, WOwnS.nil _ _, hr⟩
  · rw [if_neg hw]
    obtain rfl : why = 0 := by omega
    by_cases h0 : m < 0 ∨ n < 0
    · rw [if_pos h0]
      refine (listr_arg _ _ _ _ _ _ _ m n h h0).mono ?_
      rintro e w' ⟨rfl, hr⟩
      exact ⟨_, rfl, WOwnS.nil _ _, hr⟩
    · rw [if_neg h0]
      obtain ⟨k, rfl⟩ : ∃ k : Nat, m = k := ⟨m.toNat, by omega⟩
      obtain ⟨j, rfl⟩ : ∃ j : Nat, n = j := ⟨n.toNat, by omega⟩
      simp only [Int.toNat_natCast]
      refine (listr_go _ _ _ _ _ _ _ k j (by omega) (by omega) h hbl _ _ _ rfl).mono ?_
      rintro e w' ⟨v', rfl, ho, hnil, h1, h2, hg⟩
      by_cases he : (lst (bs.drop a) k j).1 ≠ 0
      · rw [if_pos he]
        obtain rfl := hnil he
        exact ⟨_, rfl, WOwnS.nil _ _, h2 he, hg⟩
      · rw [if_neg he]
        exact ⟨_, rfl, ho, h1 (Decidable.not_not.1 he), hg⟩

theorem listF_len (bs : List UInt8) (a : Nat) (why wat m n : Int) : (txs ((listF bs a why wat m n).1.map mk)).length ≤ bs.length := by
  unfold listF
  by_cases hw : why ≠ 0
  · rw [if_pos hw]; simp [txs]
  · rw [if_neg hw]
    by_cases h0 : m < 0 ∨ n < 0
    · rw [if_pos h0]; simp [txs]
    · rw [if_neg h0]
      obtain ⟨er, ts, k, hd⟩ : ∃ er ts k, lst (bs.drop a) m.toNat n.toNat = (er, ts, k) := ⟨_, _, _, rfl⟩
      rw [hd]
      by_cases he : er ≠ 0
      · rw [if_pos he]; simp [txs]
      · rw [if_neg he]
        obtain rfl : er = 0 := by omega
        obtain ⟨h1, h2⟩ := lst_ok hd
        show (txs (ts.map mk)).length ≤ _
        have := congrArg List.length h1
        unfold ls at this
        simp at this h2
        omega

theorem raw_R (m : Int) (hm : m ≤ 9223372036854775807) (hbl : bs.length ≤ 140737488355327) (h : Rd w base b v bs a why wat) :
    Calls Try.prog 97 #[.pointer (some ⟨b, 0, none⟩), .int .i64 m] w fun e w' => ∃ v', e = .returned v' ∧ OwnB w' w.heap.size v' (rawF bs a why wat m).1 ∧ Rd w' base b v bs (rawF bs a why wat m).2.1 (rawF bs a why wat m).2.2.1 (rawF bs a why wat m).2.2.2 ∧ w.grownBy w' (some b) := by
  unfold rawF
  by_cases hw : why ≠ 0
  · rw [if_pos hw]
    refine (rawr_over _ _ _ _ _ _ _ _ m h hw).mono ?_
    rintro e w' ⟨rfl, hr⟩
    exact ⟨_, rfl, OwnB.nil _ _, hr⟩
  · rw [if_neg hw]
    obtain rfl : why = 0 := by omega
    by_cases h0 : m < 0
    · rw [if_pos h0]
      refine (rawr_arg _ _ _ _ _ _ _ m h h0).mono ?_
      rintro e w' ⟨rfl, hr⟩
      exact ⟨_, rfl, OwnB.nil _ _, hr⟩
    · rw [if_neg h0]
      obtain ⟨k, rfl⟩ : ∃ k : Nat, m = k := ⟨m.toNat, by omega⟩
      simp only [Int.toNat_natCast]
      have hle := h.le
      by_cases hl : bs.length - a < k
      · rw [if_pos hl]
        refine (rawr_short _ _ _ _ _ _ _ k h hl).mono ?_
        rintro e w' ⟨rfl, hr⟩
        exact ⟨_, rfl, OwnB.nil _ _, hr⟩
      · rw [if_neg hl]
        exact rawr_ok _ _ _ _ _ _ _ k h hbl (by omega)

theorem rawF_len (bs : List UInt8) (a : Nat) (why wat m : Int) : (rawF bs a why wat m).1.length ≤ bs.length := by
  unfold rawF
  by_cases hw : why ≠ 0
  · rw [if_pos hw]; simp
  · rw [if_neg hw]
    by_cases h0 : m < 0
    · rw [if_pos h0]; simp
    · rw [if_neg h0]
      split <;> simp <;> omega

end

end Go.Proofs.Ytjinkahlfigdcaa

/- A frame's reader in memory, and its calls. -/
namespace Go.Proofs.Ytjinkahlfigdcaa
open Go.RowKit

/-- nothing that was there changed but two blocks -/
structure G2 (w w' : World) (b c : Nat) : Prop where
  os : w'.os = w.os
  tape : w'.tape = w.tape
  output : w'.output = w.output
  size : w.heap.size ≤ w'.heap.size
  block : ∀ k, k < w.heap.size → k ≠ b → k ≠ c → w'.heap[k]? = w.heap[k]?
theorem G2.refl (w : World) (b c : Nat) : G2 w w b c := ⟨rfl, rfl, rfl, Nat.le_refl _, fun _ _ _ _ => rfl⟩
theorem G2.trans {w w' w'' : World} {b c : Nat} (h : G2 w w' b c) (k : G2 w' w'' b c) : G2 w w'' b c :=
  ⟨k.os.trans h.os, k.tape.trans h.tape, k.output.trans h.output, Nat.le_trans h.size k.size, fun i hi h1 h2 => (k.block i (Nat.lt_of_lt_of_le hi h.size) h1 h2).trans (h.block i hi h1 h2)⟩
theorem G2.of_first {w w' : World} {b c : Nat} (h : w.grownBy w' (some b)) : G2 w w' b c := ⟨h.os, h.tape, h.output, h.size, fun k hk h1 _ => h.block k hk (fun e => h1 (by injection e))⟩
theorem G2.of_second {w w' : World} {b c : Nat} (h : w.grownBy w' (some c)) : G2 w w' b c := ⟨h.os, h.tape, h.output, h.size, fun k hk _ h1 => h.block k hk (fun e => h1 (by injection e))⟩
theorem G2.of_below {w w' : World} {b c : Nat} (h : Below w.heap.size w w') : G2 w w' b c := ⟨h.os, h.tape, h.output, h.size, fun k hk _ _ => h.block k hk⟩
theorem G2.below {w0 w w' : World} {b c : Nat} (h : G2 w w' b c) (h0 : Below w0.heap.size w0 w) (hb : w0.heap.size ≤ b) (hc : w0.heap.size ≤ c) : Below w0.heap.size w0 w' :=
  ⟨h.os.trans h0.os, h.tape.trans h0.tape, h.output.trans h0.output, Nat.le_trans h0.size h.size, fun k hk => (h.block k (Nat.lt_of_lt_of_le hk h0.size) (by omega) (by omega)).trans (h0.block k hk)⟩

theorem G2.then_new {w W W' : World} {b c n : Nat} (h : G2 w W b c) (hg : W.grownBy W' (some n)) (hn : w.heap.size ≤ n) : G2 w W' b c :=
  ⟨hg.os.trans h.os, hg.tape.trans h.tape, hg.output.trans h.output, Nat.le_trans h.size hg.size, fun k hk h1 h2 => (hg.block k (Nat.lt_of_lt_of_le hk h.size) (fun e => by injection e with e; omega)).trans (h.block k hk h1 h2)⟩

/-- a frame's reader: its block b, the reader's block rb; a number that was 0 is remembered -/
def Fd (w : World) (base b rb : Nat) (v : Value) (bs : List UInt8) (s : St) : Prop :=
  ∃ (A : Nat) (Y T nw na : Int), Rd w base rb v bs A Y T ∧ w.heap[b]? = some (.cells #[.pointer (some ⟨rb, 0, none⟩), .int .i64 nw, .int .i64 na] 93 (0, 0)) ∧ b ≠ rb ∧ v.ownBlock ≠ some b ∧ base ≤ b ∧
    ((nw = 0 ∧ s = (A, Y, T)) ∨ (nw = 70 ∧ Y ≠ 0 ∧ s.2 = (70, na)))
section
variable {w w' : World} {base b rb : Nat} {v : Value} {bs : List UInt8} {s : St}
theorem Fd.lt (h : Fd w base b rb v bs s) : b < w.heap.size ∧ rb < w.heap.size ∧ base ≤ b ∧ base ≤ rb ∧ b ≠ rb := by
  obtain ⟨A, Y, T, nw, na, hr, hb, hn, hv, hl, _⟩ := h
  exact ⟨hp_lt hb, hr.lt, hl, hr.lo, hn⟩
theorem Fd.own (h : Fd w base b rb v bs s) : ∀ k, v.ownBlock = some k → k < w.heap.size := by
  obtain ⟨A, Y, T, nw, na, hr, hb, hn, hv, hl, _⟩ := h
  exact fun k hk => (hr.own.lt k hk).2
theorem Fd.ptr (h : Fd w base b rb v bs s) : w.cell? ⟨b, 0, none⟩ = some (.pointer (some ⟨rb, 0, none⟩)) := by
  obtain ⟨A, Y, T, nw, na, hr, hb, _⟩ := h
  simp [World.cell?, hb]
theorem Fd.grown {row : Option Nat} (h : Fd w base b rb v bs s) (hg : w.grownBy w' row) (h1 : row ≠ some b) (h2 : row ≠ some rb) (h3 : v.ownBlock = none ∨ v.ownBlock ≠ row) : Fd w' base b rb v bs s := by
  obtain ⟨A, Y, T, nw, na, hr, hb, hn, hv, hl, hs⟩ := h
  exact ⟨A, Y, T, nw, na, hr.grown hg h2 h3, (hg.block b (hp_lt hb) (fun e => h1 e.symm)).trans hb, hn, hv, hl, hs⟩
theorem Fd.below (h : Fd w base b rb v bs s) (hg : Below w.heap.size w w') : Fd w' base b rb v bs s := by
  obtain ⟨A, Y, T, nw, na, hr, hb, hn, hv, hl, hs⟩ := h
  exact ⟨A, Y, T, nw, na, hr.below hg, (hg.block b (hp_lt hb)).trans hb, hn, hv, hl, hs⟩
/-- a block that is not the reader's changed -/
theorem Fd.far {n : Nat} (h : Fd w base b rb v bs s) (hg : w.grownBy w' (some n)) (h1 : b < n) (h2 : rb < n) (h3 : ∀ k, v.ownBlock = some k → k < n) : Fd w' base b rb v bs s :=
  h.grown hg (fun e => by injection e with e; omega) (fun e => by injection e with e; omega) (by
    cases hv : v.ownBlock with
    | none => exact Or.inl rfl
    | some k => exact Or.inr (fun e => by injection e with e; have := h3 k hv; omega))

theorem fd_at (h : Fd w base b rb v bs s) : Calls Try.prog 37 #[.pointer (some ⟨rb, 0, none⟩)] w fun e w' => ∃ A : Nat, e = .returned (.int .i64 A) ∧ w' = w ∧ (s.2.1 = 0 → A = s.1) := by
  obtain ⟨A, Y, T, nw, na, hr, hb, hn, hv, hl, hs⟩ := h
  refine (rat_any (h := hr)).mono ?_
  rintro e w' ⟨rfl, rfl⟩
  refine ⟨A, rfl, rfl, fun h0 => ?_⟩
  rcases hs with ⟨_, rfl⟩ | ⟨_, _, h2⟩
  · rfl
  · rw [h2] at h0
    exact absurd h0 (show ¬ (70 : Int) = 0 by decide)
theorem fd_uint (h : Fd w base b rb v bs s) : Calls Try.prog 35 #[.pointer (some ⟨rb, 0, none⟩)] w fun e w' => e = .returned (.int .u64 (uS bs s).1) ∧ Fd w' base b rb v bs (uS bs s).2 ∧ w.grownBy w' (some rb) := by
  obtain ⟨A, Y, T, nw, na, hr, hb, hn, hv, hl, hs⟩ := h
  refine (uint_R (h := hr)).mono ?_
  rintro e w' ⟨rfl, hr', hg⟩
  have hb' := (hg.block b (hp_lt hb) (fun e => hn (by injection e))).trans hb
  rcases hs with ⟨rfl, rfl⟩ | ⟨rfl, hY, h2⟩
  · exact ⟨rfl, ⟨_, _, _, 0, na, hr', hb', hn, hv, hl, Or.inl ⟨rfl, rfl⟩⟩, hg⟩
  · rw [over_u bs s (by rw [h2]; show (70 : Int) ≠ 0; decide)]
    have e := over_u bs (A, Y, T) hY
    unfold uS at e
    rw [e] at hr' ⊢
    exact ⟨rfl, ⟨_, _, _, 70, na, hr', hb', hn, hv, hl, Or.inr ⟨rfl, hY, h2⟩⟩, hg⟩
theorem fd_count (m : Int) (hm : m ≤ 9223372036854775807) (h : Fd w base b rb v bs s) : Calls Try.prog 68 #[.pointer (some ⟨rb, 0, none⟩), .int .i64 m] w fun e w' => e = .returned (.int .i64 (cS bs m s).1) ∧ Fd w' base b rb v bs (cS bs m s).2 ∧ w.grownBy w' (some rb) := by
  obtain ⟨A, Y, T, nw, na, hr, hb, hn, hv, hl, hs⟩ := h
  refine (count_R m hm (h := hr)).mono ?_
  rintro e w' ⟨rfl, hr', hg⟩
  have hb' := (hg.block b (hp_lt hb) (fun e => hn (by injection e))).trans hb
  rcases hs with ⟨rfl, rfl⟩ | ⟨rfl, hY, h2⟩
  · exact ⟨rfl, ⟨_, _, _, 0, na, hr', hb', hn, hv, hl, Or.inl ⟨rfl, rfl⟩⟩, hg⟩
  · rw [over_c bs m s (by rw [h2]; show (70 : Int) ≠ 0; decide)]
    have e := over_c bs m (A, Y, T) hY
    unfold cS at e
    rw [e] at hr' ⊢
    exact ⟨rfl, ⟨_, _, _, 70, na, hr', hb', hn, hv, hl, Or.inr ⟨rfl, hY, h2⟩⟩, hg⟩
theorem fd_text (m : Int) (hm : m ≤ 9223372036854775807) (hbl : bs.length ≤ 140737488355327) (h : Fd w base b rb v bs s) : Calls Try.prog 103 #[.pointer (some ⟨rb, 0, none⟩), .int .i64 m] w fun e w' => e = .returned (.string (mk (tS bs m s).1)) ∧ Fd w' base b rb v bs (tS bs m s).2 ∧ w.grownBy w' (some rb) := by
  obtain ⟨A, Y, T, nw, na, hr, hb, hn, hv, hl, hs⟩ := h
  refine (text_R m hm hbl (h := hr)).mono ?_
  rintro e w' ⟨rfl, hr', hg⟩
  have hb' := (hg.block b (hp_lt hb) (fun e => hn (by injection e))).trans hb
  rcases hs with ⟨rfl, rfl⟩ | ⟨rfl, hY, h2⟩
  · exact ⟨rfl, ⟨_, _, _, 0, na, hr', hb', hn, hv, hl, Or.inl ⟨rfl, rfl⟩⟩, hg⟩
  · rw [over_t bs m s (by rw [h2]; show (70 : Int) ≠ 0; decide)]
    have e := over_t bs m (A, Y, T) hY
    unfold tS at e
    rw [e] at hr' ⊢
    exact ⟨rfl, ⟨_, _, _, 70, na, hr', hb', hn, hv, hl, Or.inr ⟨rfl, hY, h2⟩⟩, hg⟩
theorem fd_list (m n : Int) (hm : m ≤ 9223372036854775807) (hn' : n ≤ 9223372036854775807) (hbl : bs.length ≤ 1099511627776) (h : Fd w base b rb v bs s) : Calls Try.prog 102 #[.pointer (some ⟨rb, 0, none⟩), .int .i64 m, .int .i64 n] w fun e w' => ∃ v', e = .returned v' ∧ WOwnS w' w.heap.size v' (lS bs m n s).1 ∧ Fd w' base b rb v bs (lS bs m n s).2 ∧ w.grownBy w' (some rb) := by
  obtain ⟨A, Y, T, nw, na, hr, hb, hn, hv, hl, hs⟩ := h
  refine (list_R m n hm hn' hbl (h := hr)).mono ?_
  rintro e w' ⟨v', rfl, ho, hr', hg⟩
  have hb' := (hg.block b (hp_lt hb) (fun e => hn (by injection e))).trans hb
  rcases hs with ⟨rfl, rfl⟩ | ⟨rfl, hY, h2⟩
  · exact ⟨v', rfl, ho, ⟨_, _, _, 0, na, hr', hb', hn, hv, hl, Or.inl ⟨rfl, rfl⟩⟩, hg⟩
  · rw [over_l bs m n s (by rw [h2]; show (70 : Int) ≠ 0; decide)]
    have e := over_l bs m n (A, Y, T) hY
    unfold lS at e
    rw [e] at hr' ho
    exact ⟨v', rfl, ho, ⟨_, _, _, 70, na, hr', hb', hn, hv, hl, Or.inr ⟨rfl, hY, h2⟩⟩, hg⟩
theorem fd_raw (m : Int) (hm : m ≤ 9223372036854775807) (hbl : bs.length ≤ 140737488355327) (h : Fd w base b rb v bs s) : Calls Try.prog 97 #[.pointer (some ⟨rb, 0, none⟩), .int .i64 m] w fun e w' => ∃ v', e = .returned v' ∧ OwnB w' w.heap.size v' (rS bs m s).1 ∧ Fd w' base b rb v bs (rS bs m s).2 ∧ w.grownBy w' (some rb) := by
  obtain ⟨A, Y, T, nw, na, hr, hb, hn, hv, hl, hs⟩ := h
  refine (raw_R m hm hbl (h := hr)).mono ?_
  rintro e w' ⟨v', rfl, ho, hr', hg⟩
  have hb' := (hg.block b (hp_lt hb) (fun e => hn (by injection e))).trans hb
  rcases hs with ⟨rfl, rfl⟩ | ⟨rfl, hY, h2⟩
  · exact ⟨v', rfl, ho, ⟨_, _, _, 0, na, hr', hb', hn, hv, hl, Or.inl ⟨rfl, rfl⟩⟩, hg⟩
  · rw [over_r bs m s (by rw [h2]; show (70 : Int) ≠ 0; decide)]
    have e := over_r bs m (A, Y, T) hY
    unfold rS at e
    rw [e] at hr' ho
    exact ⟨v', rfl, ho, ⟨_, _, _, 70, na, hr', hb', hn, hv, hl, Or.inr ⟨rfl, hY, h2⟩⟩, hg⟩
end

set_option maxRecDepth 100000 in
set_option maxHeartbeats 2000000 in
/-- a number that must not be 0 -/
theorem fd_some (base b rb : Nat) (v : Value) (bs : List UInt8) (s : St) (m : Int) (w : World) (hm : m ≤ 9223372036854775807) (h : Fd w base b rb v bs s) :
    Calls Try.prog 52 #[.pointer (some ⟨b, 0, none⟩), .int .i64 m] w fun e w' => e = .returned (.int .i64 (oS bs m s).1) ∧ Fd w' base b rb v bs (oS bs m s).2 ∧ G2 w w' b rb := by
  have HAT := hid (fd_at h)
  have HCO := hid (fd_count m hm h)
  have hp := h.ptr
  have hfw : ∀ (why wat : Int) (W : World), (Instr.field 47 (.agg #[.int .i64 why, .int .i64 wat]) 0).run Try.prog W = .ok (.int .i64 why) W := fun _ _ _ => by kernel_rfl
  have HH := hid h
  clear h
  go_enter Try.func52, Try.ntmps52
  go_wp2_with fail
  refine HAT.out.mono ?_
  rintro e w1 ⟨A1, rfl, hw1, hA1⟩
  have hw1 := hw1.symm
  subst hw1
  have HA1 := hid hA1
  clear hA1
  go_wp2_with fail
  refine HCO.out.mono ?_
  rintro e w2 ⟨rfl, hf2, hg2⟩
  obtain ⟨A, Y, T, nw, na, hr, hb, hn, hv, hl, hs⟩ := hf2
  have HR := hid hr
  have HBK := hid hb
  have HS := hid hs
  have HNE := hid hn
  have HNV := hid hv
  have HLO := hid hl
  have HG2 := hid hg2
  have p2 : w2.cell? ⟨b, 0, none⟩ = some (.pointer (some ⟨rb, 0, none⟩)) := by simp [World.cell?, hb]
  obtain ⟨N, HN⟩ : ∃ N : Nat, Hid ((cS bs m s).1 = N) := ⟨_, rfl⟩
  rw [HN.out]
  have HFA := hid (rfault_any (h := hr))
  clear hr hb hn hv hl hs hg2 hp HAT HCO
  by_cases h0 : N = 0
  · subst h0
    go_wp2_with fail
    refine HFA.out.mono ?_
    rintro e w3 ⟨rfl, hb3⟩
    have HR3 := hid (HR.out.below hb3)
    have HK3 := hid ((hb3.block b (hp_lt HBK.out)).trans HBK.out)
    have HB3 := hid hb3
    have p3 : w3.cell? ⟨b, 0, none⟩ = some (.pointer (some ⟨rb, 0, none⟩)) := by simp [World.cell?, HK3.out]
    have f1 := row_fz HK3.out 1
    have f2 := row_fz HK3.out 2
    have c1 : w3.cell? ⟨b, 1, none⟩ = some (.int .i64 nw) := by simp [World.cell?, HK3.out]
    have c2 : w3.cell? ⟨b, 2, none⟩ = some (.int .i64 na) := by simp [World.cell?, HK3.out]
    clear hb3 p2 HFA HR HBK
    by_cases hY : Y = 0
    · subst hY
      have HS0 := hid (show nw = 0 ∧ (cS bs m s).2 = (A, 0, T) by
        rcases HS.out with h | ⟨_, h, _⟩
        · exact h
        · exact absurd rfl h)
      have HO := hid (show oS bs m s = (0, s.1, 70, (s.1 : Int)) by
        unfold oS
        rw [if_pos ⟨HN.out, by rw [HS0.out.2]⟩])
      have HAS := hid (show A1 = s.1 from HA1.out (by
        by_cases h9 : s.2.1 = 0
        · exact h9
        · have h8 := HS0.out.2
          rw [over_c bs m s h9] at h8
          have := congrArg (fun x : St => x.2.1) h8
          exact this))
      go_wp2_with fail
      have HB4 := hid (show (((w3.setCell ⟨b, 1, none⟩ (.int .i64 70)).setCell ⟨b, 2, none⟩ (.int .i64 (A1 : Nat)))).heap[b]? = some (.cells #[.pointer (some ⟨rb, 0, none⟩), .int .i64 70, .int .i64 (A1 : Nat)] 93 (0, 0)) from blk_set (blk_set HK3.out _) _)
      have HG4 := hid (show w3.grownBy ((w3.setCell ⟨b, 1, none⟩ (.int .i64 70)).setCell ⟨b, 2, none⟩ (.int .i64 (A1 : Nat))) (some b) from gb_trans (gb_set _ _ _) (gb_set _ _ _))
      generalize (w3.setCell ⟨b, 1, none⟩ (.int .i64 70)).setCell ⟨b, 2, none⟩ (.int .i64 (A1 : Nat)) = w4 at HB4 HG4 ⊢
      have HR4 := hid (HR3.out.grown HG4.out (fun e => HNE.out (by injection e)) (Or.inr HNV.out))
      have p4 : w4.cell? ⟨b, 0, none⟩ = some (.pointer (some ⟨rb, 0, none⟩)) := by simp [World.cell?, HB4.out]
      clear p3 f1 f2 c1 c2
      have HFL := hid (rfail_any (n := 70) (h := HR4.out))
      go_wp2_with fail
      refine HFL.out.mono ?_
      rintro e w5 ⟨rfl, hr5, hg5⟩
      have HR5 := hid (show Rd w5 base rb v bs A 70 A by simpa using hr5)
      have HG5 := hid hg5
      clear hr5 hg5
      go_wp2
      go_ret
      rw [HO.out]
      refine ⟨rfl, ⟨_, _, _, 70, (A1 : Int), HR5.out, (HG5.out.block b (hp_lt HB4.out) (fun e => HNE.out (by injection e))).trans HB4.out, HNE.out, HNV.out, HLO.out, Or.inr ⟨rfl, by decide, ?_⟩⟩, ?_⟩
      · rw [HAS.out]
      · exact (G2.of_second HG2.out).trans ((G2.of_below HB3.out).trans ((G2.of_first HG4.out).trans (G2.of_second HG5.out)))
    · have q1 : (Y == 0) = false := by simpa using hY
      have HO := hid (show oS bs m s = cS bs m s by
        unfold oS
        rw [if_neg]
        rintro ⟨_, h9⟩
        rcases HS.out with ⟨_, h8⟩ | ⟨_, _, h8⟩
        · rw [h8] at h9; exact hY h9
        · rw [h8] at h9; exact absurd h9 (show ¬ (70 : Int) = 0 by decide))
      have HY := hid hY
      clear hY
      go_wp2
      go_ret
      rw [HO.out, HN.out]
      exact ⟨rfl, ⟨A, Y, T, nw, na, HR3.out, HK3.out, HNE.out, HNV.out, HLO.out, HS.out⟩, (G2.of_second HG2.out).trans (G2.of_below HB3.out)⟩
  · have q0 : ¬ (N : Int) = 0 := by omega
    have q1 : ((N : Int) == 0) = false := by simpa using q0
    have HO := hid (show oS bs m s = cS bs m s by
      unfold oS
      rw [if_neg (fun h9 => h0 (HN.out ▸ h9.1))])
    have H0 := hid h0
    clear h0
    go_wp2
    go_ret
    rw [HO.out, HN.out]
    exact ⟨rfl, ⟨A, Y, T, nw, na, HR.out, HBK.out, HNE.out, HNV.out, HLO.out, HS.out⟩, G2.of_second HG2.out⟩

theorem faultSize : (Try.prog.info? 47).map (·.size) = some 2 := by kernel_rfl

set_option maxRecDepth 100000 in
set_option maxHeartbeats 2000000 in
/-- the first fault; else the one of what is left -/
theorem fd_end (base b rb : Nat) (v : Value) (bs : List UInt8) (s : St) (w : World) (h : Fd w base b rb v bs s) :
    Calls Try.prog 53 #[.pointer (some ⟨b, 0, none⟩)] w fun e w' => e = .returned (.agg #[.int .i64 (eS bs s).1, .int .i64 (eS bs s).2]) ∧ G2 w w' b rb := by
  obtain ⟨A, Y, T, nw, na, hr, hb, hn, hv, hl, hs⟩ := h
  have HB0 := hid (below_walk w (.cells #[.int .i64 0, .int .i64 0] 47))
  have HN0 := hid (hp_new w (.cells #[.int .i64 0, .int .i64 0] 47))
  have HR := hid (hr.below HB0.out)
  have HBK := hid ((HB0.out.block b (hp_lt hb)).trans hb)
  have HS := hid hs
  have HNE := hid hn
  have HLB := hid (hp_lt hb)
  have HLR := hid hr.lt
  clear hr hb hn hv hl hs
  go_enter Try.func53, Try.ntmps53
  go_upto_region 1 with fail
  generalize w.alloc (.cells #[.int .i64 0, .int .i64 0] 47) = w1 at HB0 HN0 HR HBK ⊢
  have p1 : w1.cell? ⟨b, 0, none⟩ = some (.pointer (some ⟨rb, 0, none⟩)) := by simp [World.cell?, HBK.out]
  have c1 : w1.cell? ⟨b, 1, none⟩ = some (.int .i64 nw) := by simp [World.cell?, HBK.out]
  have c2 : w1.cell? ⟨b, 2, none⟩ = some (.int .i64 na) := by simp [World.cell?, HBK.out]
  have z1 : w1.cell? ⟨w.heap.size, 0, none⟩ = some (.int .i64 0) := by simp [World.cell?, HN0.out]
  have z2 : w1.cell? ⟨w.heap.size, 1, none⟩ = some (.int .i64 0) := by simp [World.cell?, HN0.out]
  have f1 := row_fz HN0.out 0
  have f2 := row_fz HN0.out 1
  by_cases h0 : nw = 0
  · have HS0 := hid (show s = (A, Y, T) by
      rcases HS.out with ⟨_, h⟩ | ⟨h, _⟩
      · exact h
      · rw [h0] at h; cases h)
    subst h0
    by_cases hmore : Y = 0 ∧ A < bs.length
    · obtain ⟨rfl, hlt⟩ := hmore
      have HE := hid (rend_more (h := HR.out) (hlt := hlt))
      have HES := hid (show eS bs s = (6, (A : Int)) by rw [HS0.out]; unfold eS; rw [if_neg (by simp), if_pos hlt])
      clear hlt
      go_wp2_with fail
      refine HE.out.mono ?_
      rintro e w2 ⟨rfl, hr2, hg2⟩
      have HN2 := hid ((hg2.block _ (hp_lt HN0.out) (fun e => by injection e with e; have := HLR.out; omega)).trans HN0.out)
      have HG := hid ((G2.of_below (b := b) HB0.out).trans (G2.of_second (b := b) hg2))
      have z3 : w2.cell? ⟨w.heap.size, 0, none⟩ = some (.int .i64 0) := by simp [World.cell?, HN2.out]
      have z4 : w2.cell? ⟨w.heap.size, 1, none⟩ = some (.int .i64 0) := by simp [World.cell?, HN2.out]
      have g1 := row_fz HN2.out 0
      have g2 := row_fz HN2.out 1
      clear hr2 hg2 p1 c1 c2 z1 z2 f1 f2 HE
      go_wp2
      refine ret_row 2 47 rfl w.heap.size rfl [_, _] 47 (blk_set (blk_set HN2.out _) _) _ Try.underlying47 rfl faultSize rfl ?_
      rw [HES.out]
      exact ⟨rfl, HG.out.then_new (gb_trans (gb_set _ _ _) (gb_set _ _ _)) (Nat.le_refl _)⟩
    · have hid0 : Y ≠ 0 ∨ A = bs.length := by
        by_cases h9 : Y = 0
        · exact Or.inr (by have := HR.out.le; have : ¬ A < bs.length := fun h => hmore ⟨h9, h⟩; omega)
        · exact Or.inl h9
      have HE := hid (rend_idle (h := HR.out) (hidle := hid0))
      have HES := hid (show eS bs s = (Y, T) by
        rw [HS0.out]
        unfold eS
        by_cases h9 : Y = 0
        · rw [if_neg (by simpa using h9), if_neg (fun h => hmore ⟨h9, h⟩)]
        · rw [if_pos h9])
      clear hid0 hmore
      go_wp2_with fail
      refine HE.out.mono ?_
      rintro e w2 ⟨rfl, hr2, hg2⟩
      have HN2 := hid ((hg2.block _ (hp_lt HN0.out) (fun e => by injection e with e; have := HLR.out; omega)).trans HN0.out)
      have HG := hid ((G2.of_below (b := b) HB0.out).trans (G2.of_second (b := b) hg2))
      have z3 : w2.cell? ⟨w.heap.size, 0, none⟩ = some (.int .i64 0) := by simp [World.cell?, HN2.out]
      have z4 : w2.cell? ⟨w.heap.size, 1, none⟩ = some (.int .i64 0) := by simp [World.cell?, HN2.out]
      have g1 := row_fz HN2.out 0
      have g2 := row_fz HN2.out 1
      clear hr2 hg2 p1 c1 c2 z1 z2 f1 f2 HE
      go_wp2
      refine ret_row 2 47 rfl w.heap.size rfl [_, _] 47 (blk_set (blk_set HN2.out _) _) _ Try.underlying47 rfl faultSize rfl ?_
      rw [HES.out]
      exact ⟨rfl, HG.out.then_new (gb_trans (gb_set _ _ _) (gb_set _ _ _)) (Nat.le_refl _)⟩
  · have q1 : (nw != 0) = true := by simpa using h0
    have q2 : (nw == 0) = false := by simpa using h0
    have HES := hid (show eS bs s = (nw, na) by
      rcases HS.out with ⟨h, _⟩ | ⟨h, _, h2⟩
      · exact absurd h h0
      · unfold eS
        rw [if_pos (by rw [h2]; show (70 : Int) ≠ 0; decide), h2, h])
    clear h0
    go_wp2
    refine ret_row 2 47 rfl w.heap.size rfl [_, _] 47 (blk_set (blk_set HN0.out _) _) _ Try.underlying47 rfl faultSize rfl ?_
    rw [HES.out]
    exact ⟨rfl, (G2.of_below HB0.out).then_new (gb_trans (gb_set _ _ _) (gb_set _ _ _)) (Nat.le_refl _)⟩
end Go.Proofs.Ytjinkahlfigdcaa

/- The fields of each kind as they stand in bytes, read by the program. -/
namespace Go.Proofs.Ytjinkahlfigdcaa
open Go.RowKit Go.BigFrame

theorem fset_id (f : Fr) (va : Value) (h : f.tool.length = 32) (x : Int) : (fcells f va).toArray.setIfInBounds 1 (.int .u64 x) = (fcells { f with id := x } va).toArray := by
  obtain ⟨t0, t1, t2, t3, t4, t5, t6, t7, t8, t9, t10, t11, t12, t13, t14, t15, t16, t17, t18, t19, t20, t21, t22, t23, t24, t25, t26, t27, t28, t29, t30, t31, hT⟩ := list32 h
  unfold fcells
  rw [hT]
  rfl
theorem fset_ver (f : Fr) (va : Value) (h : f.tool.length = 32) (x : Int) : (fcells f va).toArray.setIfInBounds 2 (.int .i64 x) = (fcells { f with ver := x } va).toArray := by
  obtain ⟨t0, t1, t2, t3, t4, t5, t6, t7, t8, t9, t10, t11, t12, t13, t14, t15, t16, t17, t18, t19, t20, t21, t22, t23, t24, t25, t26, t27, t28, t29, t30, t31, hT⟩ := list32 h
  unfold fcells
  rw [hT]
  rfl
theorem fset_slots (f : Fr) (va : Value) (h : f.tool.length = 32) (x : Int) : (fcells f va).toArray.setIfInBounds 3 (.int .i64 x) = (fcells { f with slots := x } va).toArray := by
  obtain ⟨t0, t1, t2, t3, t4, t5, t6, t7, t8, t9, t10, t11, t12, t13, t14, t15, t16, t17, t18, t19, t20, t21, t22, t23, t24, t25, t26, t27, t28, t29, t30, t31, hT⟩ := list32 h
  unfold fcells
  rw [hT]
  rfl
theorem fset_status (f : Fr) (va : Value) (h : f.tool.length = 32) (x : Int) : (fcells f va).toArray.setIfInBounds 36 (.int .i64 x) = (fcells { f with status := x } va).toArray := by
  obtain ⟨t0, t1, t2, t3, t4, t5, t6, t7, t8, t9, t10, t11, t12, t13, t14, t15, t16, t17, t18, t19, t20, t21, t22, t23, t24, t25, t26, t27, t28, t29, t30, t31, hT⟩ := list32 h
  unfold fcells
  rw [hT]
  rfl
theorem fset_l1 (f : Fr) (va : Value) (h : f.tool.length = 32) (x : Int) : (fcells f va).toArray.setIfInBounds 37 (.int .i64 x) = (fcells { f with lim := (x, f.lim.2.1, f.lim.2.2) } va).toArray := by
  obtain ⟨t0, t1, t2, t3, t4, t5, t6, t7, t8, t9, t10, t11, t12, t13, t14, t15, t16, t17, t18, t19, t20, t21, t22, t23, t24, t25, t26, t27, t28, t29, t30, t31, hT⟩ := list32 h
  unfold fcells
  rw [hT]
  rfl
theorem fset_l2 (f : Fr) (va : Value) (h : f.tool.length = 32) (x : Int) : (fcells f va).toArray.setIfInBounds 38 (.int .i64 x) = (fcells { f with lim := (f.lim.1, x, f.lim.2.2) } va).toArray := by
  obtain ⟨t0, t1, t2, t3, t4, t5, t6, t7, t8, t9, t10, t11, t12, t13, t14, t15, t16, t17, t18, t19, t20, t21, t22, t23, t24, t25, t26, t27, t28, t29, t30, t31, hT⟩ := list32 h
  unfold fcells
  rw [hT]
  rfl
theorem fset_l3 (f : Fr) (va : Value) (h : f.tool.length = 32) (x : Int) : (fcells f va).toArray.setIfInBounds 39 (.int .i64 x) = (fcells { f with lim := (f.lim.1, f.lim.2.1, x) } va).toArray := by
  obtain ⟨t0, t1, t2, t3, t4, t5, t6, t7, t8, t9, t10, t11, t12, t13, t14, t15, t16, t17, t18, t19, t20, t21, t22, t23, t24, t25, t26, t27, t28, t29, t30, t31, hT⟩ := list32 h
  unfold fcells
  rw [hT]
  rfl
theorem fset_body (f : Fr) (va : Value) (h : f.tool.length = 32) (x : List UInt8) : (fcells f va).toArray.setIfInBounds 41 (.string (mk x)) = (fcells { f with body := x } va).toArray := by
  obtain ⟨t0, t1, t2, t3, t4, t5, t6, t7, t8, t9, t10, t11, t12, t13, t14, t15, t16, t17, t18, t19, t20, t21, t22, t23, t24, t25, t26, t27, t28, t29, t30, t31, hT⟩ := list32 h
  unfold fcells
  rw [hT]
  rfl
theorem fset_args (f : Fr) (va : Value) (h : f.tool.length = 32) {A : List (List UInt8)} (x : Value) : (fcells f va).toArray.setIfInBounds 40 x = (fcells { f with args := A } x).toArray := by
  obtain ⟨t0, t1, t2, t3, t4, t5, t6, t7, t8, t9, t10, t11, t12, t13, t14, t15, t16, t17, t18, t19, t20, t21, t22, t23, t24, t25, t26, t27, t28, t29, t30, t31, hT⟩ := list32 h
  unfold fcells
  rw [hT]
  rfl
theorem wowns_shape {w : World} {base : Nat} {v : Value} {ts : List (List UInt8)} (h : WOwnS w base v ts) : ∃ a c, v = .slice a ts.length c := by
  rcases h.2 with ⟨h0, h1⟩ | ⟨g, cap, cur, hv, _⟩
  · exact ⟨none, 0, by rw [h0, h1]⟩
  · exact ⟨_, _, hv⟩
theorem WOwnS.le {w : World} {base base' : Nat} {v : Value} {ts : List (List UInt8)} (h : WOwnS w base v ts) (hb : base' ≤ base) : WOwnS w base' v ts :=
  ⟨h.1, h.2.elim Or.inl (fun ⟨g, cap, cur, hv, hg, r⟩ => Or.inr ⟨g, cap, cur, hv, Nat.le_trans hb hg, r⟩)⟩
theorem wowns_set {w : World} {n : Nat} {v : Value} {ts : List (List UInt8)} (h : WOwnS w (n + 2) v ts) (i : Nat) (u : Value) : WOwnS (w.setCell ⟨n, i, none⟩ u) (n + 2) v ts :=
  WOwnS.far h (gb_set w ⟨n, i, none⟩ u) (fun j e => by have e2 : n = j := Option.some.inj e; omega)
theorem wowns_far1 {w w' w0 : World} {n : Nat} {v : Value} {ts : List (List UInt8)} (h : WOwnS w (n + 2) v ts) (hg : w.grownBy w' (some (n + 1))) (h0 : w0.heap.size = n) : WOwnS w' w0.heap.size v ts :=
  (WOwnS.far h hg (fun j e => by have e2 : n + 1 = j := Option.some.inj e; omega)).le (by omega)
theorem rS_len (bs : List UInt8) (s : St) : (rS bs 32 s).1.length = 0 ∨ (rS bs 32 s).1.length = 32 := by
  unfold rS rawF
  repeat' split
  all_goals first | exact Or.inl rfl | skip
  rename_i h1 h2 h3
  refine Or.inr ?_
  rw [List.length_take, List.length_drop]
  have : (32 : Int).toNat = 32 := rfl
  omega
theorem fsplice (f : Fr) (va : Value) (h : f.tool.length = 32) (l : List UInt8) (hl : l.length = 0 ∨ l.length = 32) : splice (fcells f va) 4 (bytesV l) = fcells { f with tool := if l.length = 32 then l else f.tool } va := by
  rcases hl with h0 | h0
  · obtain rfl : l = [] := List.length_eq_zero_iff.1 h0
    rw [if_neg (by simp)]
    simp [splice, bytesV]
  · rw [if_pos h0]
    unfold splice fcells
    have e1 : (bytesV f.tool).length = 32 := by rw [bytesV_length]; exact h
    have e2 : (bytesV l).length = 32 := by rw [bytesV_length]; exact h0
    rw [List.take_left' (by rfl), e2, show 4 + 32 = 4 + 32 from rfl, ← List.drop_drop, List.drop_left' (by rfl), List.drop_left' e1]
theorem src_addr {w : World} {a : Option Addr} {n c : Nat} {bs : List UInt8} (h : Src w (.slice a n c) bs) (h0 : 0 < bs.length) : ∃ ad, a = some ad ∧ ∀ j v, (bytesV bs)[j]? = some v → w.cell? (ad.add j) = some v := by
  obtain ⟨_, ⟨_, rfl⟩ | ⟨ad, cap, e, _, _, _, hc⟩⟩ := h
  · simp at h0
  · simp only [Value.slice.injEq] at e
    exact ⟨ad, e.1, src_cells hc⟩
theorem step_copy_g {P : Program} {ops : Array Oper} {o : Oper} {a : Act} {w : World} {K : Act → World → Prop} {Q : Exit → Act → World → Prop} {E : Prop} (hgd : o.guard = none) (d s : Operand) (dT sT : TypeId)
    (ho : o.op = .call { callee := .builtin .copy, args := #[d, s], argTypes := #[dT, sT] }) (elem : TypeId) (hu : P.underlying dT = some (.slice elem)) (hsz : (P.info? elem).map (·.size) = some 1)
    (dp sp : Option Addr) (dLen dCap sLen sCap : Nat) (hd : a.eval d = .slice dp dLen dCap) (hs : a.eval s = .slice sp sLen sCap)
    (g off : Nat) (cur : List Value) (t : TypeId) (hg : w.heap[g]? = some (.cells cur.toArray t (0, 0))) (cs : List Value) (hn : cs.length = Nat.min sLen dLen)
    (hpos : 0 < cs.length → dp = some ⟨g, off, none⟩ ∧ ∃ ad, sp = some ad ∧ ∀ j v, cs[j]? = some v → w.cell? (ad.add j) = some v)
    (hfit : off + cs.length ≤ cur.length) (h1 : ∀ v ∈ cs, v.oneCell' = true)
    (h : ∀ w', w'.heap[g]? = some (.cells (splice cur off cs).toArray t (0, 0)) → w.grownBy w' (some g) → K (a.put o.dst (goInt cs.length)) w') :
    if Region.wanted o (yielded ops a.tmps) = true then Oper.wp P o a w K Q else E := by
  have hw : Region.wanted o (yielded ops a.tmps) = true := by simp [Region.wanted, hgd]
  rw [if_pos hw]
  by_cases h0 : cs.length = 0
  · obtain rfl : cs = [] := List.eq_nil_of_length_eq_zero h0
    have hrun := run_copy_none (P := P) w dT sT o.type elem dp sp dLen dCap sLen sCap hu hsz (by simpa using hn.symm)
    unfold Oper.wp
    simp [execOp, ho, resolve, invoke, builtin, hd, hs, hrun, Result.andThen]
    exact h w (by simpa [splice] using hg) (gb_refl _ _)
  · obtain ⟨rfl, ad, rfl, hsrc⟩ := hpos (by omega)
    have hrun := run_copy_row (P := P) w dT sT o.type elem g off dLen dCap ad sLen sCap cur.toArray t cs hu hsz hg hn hsrc (by simpa using hfit) h1
    unfold Oper.wp
    simp [execOp, ho, resolve, invoke, builtin, hd, hs, hrun, Result.andThen]
    refine h _ (by simpa [splice] using setRow_heap w g _ _ t _ hg) ⟨rfl, rfl, rfl, by simp [World.setRow], fun k hk hne => setRow_other w g k _ (fun e => hne (by rw [e]))⟩
theorem fieldsP_1 (bs : List UInt8) (s : St) : fieldsP bs 1 s = (⟨1, 0, ((oS bs 1 s).1 : Int), ((oS bs 64 (oS bs 1 s).2).1 : Int), pad32 (rS bs 32 (oS bs 64 (oS bs 1 s).2).2).1, 0, (0, 0, 0), [], []⟩, (rS bs 32 (oS bs 64 (oS bs 1 s).2).2).2) := rfl
theorem fieldsP_2 (bs : List UInt8) (s : St) : fieldsP bs 2 s = (reqF ((uS bs s).1 : Int) (((cS bs 2147483648 (uS bs s).2).1 : Int), ((cS bs 2147483648 (cS bs 2147483648 (uS bs s).2).2).1 : Int), ((cS bs 2147483648 (cS bs 2147483648 (cS bs 2147483648 (uS bs s).2).2).2).1 : Int))
      (lS bs 8 4096 (cS bs 2147483648 (cS bs 2147483648 (cS bs 2147483648 (uS bs s).2).2).2).2).1 (tS bs 2097152 (lS bs 8 4096 (cS bs 2147483648 (cS bs 2147483648 (cS bs 2147483648 (uS bs s).2).2).2).2).2).1,
     (tS bs 2097152 (lS bs 8 4096 (cS bs 2147483648 (cS bs 2147483648 (cS bs 2147483648 (uS bs s).2).2).2).2).2).2) := rfl
theorem fieldsP_3 (bs : List UInt8) (s : St) : fieldsP bs 3 s = (resF ((uS bs s).1 : Int) ((oS bs 3 (uS bs s).2).1 : Int) (tS bs 2097152 (oS bs 3 (uS bs s).2).2).1, (tS bs 2097152 (oS bs 3 (uS bs s).2).2).2) := rfl
theorem fieldsP_4 (bs : List UInt8) (s : St) : fieldsP bs 4 s = (canF ((uS bs s).1 : Int), (uS bs s).2) := rfl
theorem fieldsP_5 (bs : List UInt8) (s : St) : fieldsP bs 5 s = (byeF, s) := rfl
theorem fieldsP_6 (bs : List UInt8) (s : St) : fieldsP bs 6 s = (noteF (tS bs 2097152 s).1, (tS bs 2097152 s).2) := rfl

set_option maxRecDepth 100000 in
set_option maxHeartbeats 4000000 in
theorem readRequest_any (base b rb : Nat) (v : Value) (bs : List UInt8) (s : St) (w : World) (hbl : bs.length ≤ 1099511627776) (h : Fd w base b rb v bs s) :
    Calls Try.prog 80 #[.pointer (some ⟨b, 0, none⟩), .agg (fcells (kF 2) nS).toArray] w fun e w' => ∃ va, e = .returned (.agg (fcells (fieldsP bs 2 s).1 va).toArray) ∧ WOwnS w' w.heap.size va (fieldsP bs 2 s).1.args ∧ Fd w' base b rb v bs (fieldsP bs 2 s).2 ∧ G2 w w' b rb := by
  obtain ⟨n, HN⟩ : ∃ n, Hid (w.heap.size = n) := ⟨_, rfl⟩
  have HNB := hid (hp_two w (.cells (fcells (kF 2) nS).toArray 29) (.cells (fcells zF nS).toArray 29))
  have HBL := hid (below_walk2 w (.cells (fcells (kF 2) nS).toArray 29) (.cells (fcells zF nS).toArray 29))
  have HZ : Hid ((w.alloc (.cells (fcells (kF 2) nS).toArray 29)).heap.size = w.heap.size + 1) := hid (by simp)
  have HFD := hid (h.below HBL.out)
  have HB1 : Hid (b < n) := hid (HN.out ▸ h.lt.1)
  have HB2 : Hid (rb < n) := hid (HN.out ▸ h.lt.2.1)
  have HOW : Hid (∀ k, v.ownBlock = some k → k < n) := hid (HN.out ▸ h.own)
  have HG := hid (G2.of_below (b := b) (c := rb) HBL.out)
  have HLEN := hid hbl
  clear h
  go_enter Try.func80, Try.ntmps80
  go_upto_region 1 with (refine al_row (by rfl) 29 (by rfl) _ zeroFrame ?_)
  try rw [HZ.out]
  generalize (w.alloc (.cells (fcells (kF 2) nS).toArray 29)).alloc (.cells (fcells zF nS).toArray 29) = w0 at HNB HBL HFD HG ⊢
  rw [HN.out] at HNB ⊢
  have HA0 := hid (show w0.heap[n]? = some (.cells (fcells (⟨2, 0, 0, 0, z32f, 0, (0, 0, 0), [], []⟩ : Fr) nS).toArray 29 (0, 0)) from HNB.out.1)
  have HM0 := hid (show w0.heap[n + 1]? = some (.cells (fcells zF nS).toArray 29 (0, 0)) from HNB.out.2)
  clear HNB HBL HZ
  have p0 := HFD.out.ptr
  go_wp2_with fail
  refine (fd_uint HFD.out).mono ?_
  rintro e y0 ⟨rfl, hf0, hg0⟩
  have HA := hid ((hg0.block n (hp_lt HA0.out) (fun e => by injection e with e; have := HB2.out; omega)).trans HA0.out)
  have HM := hid ((hg0.block (n + 1) (hp_lt HM0.out) (fun e => by injection e with e; have := HB2.out; omega)).trans HM0.out)
  have HGn := hid (HG.out.trans (G2.of_second hg0))
  have HFn := hid hf0
  clear HFD HA0 HM0 HG hf0 hg0 p0
  have x0 := (Fb.of HA.out rfl).i
  have z0 := row_fz HA.out 1
  go_upto_region 2 with fail
  have HA0 := hid (show (y0.setCell ⟨n, 1, none⟩ (.int .u64 ((uS bs s).1 : Nat))).heap[n]? = some (.cells (fcells (⟨2, (((uS bs s).1 : Nat) : Int), 0, 0, z32f, 0, (0, 0, 0), [], []⟩ : Fr) nS).toArray 29 (0, 0)) from (blk_set HA.out _).trans (congrArg (fun a => some (Obj.cells a 29 (0, 0))) (fset_id (⟨2, 0, 0, 0, z32f, 0, (0, 0, 0), [], []⟩ : Fr) nS rfl _)))
  have HM0 := hid (show (y0.setCell ⟨n, 1, none⟩ (.int .u64 ((uS bs s).1 : Nat))).heap[n + 1]? = some (.cells (fcells zF nS).toArray 29 (0, 0)) from (Below.heap_setCell y0 _ _ (n + 1) (by simp)).trans HM.out)
  have HG := hid (HGn.out.then_new (gb_set y0 ⟨n, 1, none⟩ (.int .u64 ((uS bs s).1 : Nat))) (by rw [HN.out]; exact Nat.le_refl _))
  have HFD := hid (HFn.out.far (gb_set y0 ⟨n, 1, none⟩ (.int .u64 ((uS bs s).1 : Nat))) HB1.out HB2.out HOW.out)
  generalize y0.setCell ⟨n, 1, none⟩ (.int .u64 ((uS bs s).1 : Nat)) = w1 at HA0 HM0 HG HFD ⊢
  clear HA HM HGn HFn x0 z0
  have p1 := HFD.out.ptr
  go_wp2_with fail
  refine (fd_count 2147483648 (by omega) HFD.out).mono ?_
  rintro e y1 ⟨rfl, hf1, hg1⟩
  have HA := hid ((hg1.block n (hp_lt HA0.out) (fun e => by injection e with e; have := HB2.out; omega)).trans HA0.out)
  have HM := hid ((hg1.block (n + 1) (hp_lt HM0.out) (fun e => by injection e with e; have := HB2.out; omega)).trans HM0.out)
  have HGn := hid (HG.out.trans (G2.of_second hg1))
  have HFn := hid hf1
  clear HFD HA0 HM0 HG hf1 hg1 p1
  have x1 := (Fb.of HA.out rfl).l1
  have z1 := row_fz HA.out 37
  go_upto_region 3 with fail
  have HA0 := hid (show (y1.setCell ⟨n, 37, none⟩ (.int .i64 ((cS bs 2147483648 (uS bs s).2).1 : Nat))).heap[n]? = some (.cells (fcells (⟨2, (((uS bs s).1 : Nat) : Int), 0, 0, z32f, 0, ((((cS bs 2147483648 (uS bs s).2).1 : Nat) : Int), 0, 0), [], []⟩ : Fr) nS).toArray 29 (0, 0)) from (blk_set HA.out _).trans (congrArg (fun a => some (Obj.cells a 29 (0, 0))) (fset_l1 (⟨2, (((uS bs s).1 : Nat) : Int), 0, 0, z32f, 0, (0, 0, 0), [], []⟩ : Fr) nS rfl _)))
  have HM0 := hid (show (y1.setCell ⟨n, 37, none⟩ (.int .i64 ((cS bs 2147483648 (uS bs s).2).1 : Nat))).heap[n + 1]? = some (.cells (fcells zF nS).toArray 29 (0, 0)) from (Below.heap_setCell y1 _ _ (n + 1) (by simp)).trans HM.out)
  have HG := hid (HGn.out.then_new (gb_set y1 ⟨n, 37, none⟩ (.int .i64 ((cS bs 2147483648 (uS bs s).2).1 : Nat))) (by rw [HN.out]; exact Nat.le_refl _))
  have HFD := hid (HFn.out.far (gb_set y1 ⟨n, 37, none⟩ (.int .i64 ((cS bs 2147483648 (uS bs s).2).1 : Nat))) HB1.out HB2.out HOW.out)
  generalize y1.setCell ⟨n, 37, none⟩ (.int .i64 ((cS bs 2147483648 (uS bs s).2).1 : Nat)) = w2 at HA0 HM0 HG HFD ⊢
  clear HA HM HGn HFn x1 z1
  have p2 := HFD.out.ptr
  go_wp2_with fail
  refine (fd_count 2147483648 (by omega) HFD.out).mono ?_
  rintro e y2 ⟨rfl, hf2, hg2⟩
  have HA := hid ((hg2.block n (hp_lt HA0.out) (fun e => by injection e with e; have := HB2.out; omega)).trans HA0.out)
  have HM := hid ((hg2.block (n + 1) (hp_lt HM0.out) (fun e => by injection e with e; have := HB2.out; omega)).trans HM0.out)
  have HGn := hid (HG.out.trans (G2.of_second hg2))
  have HFn := hid hf2
  clear HFD HA0 HM0 HG hf2 hg2 p2
  have x2 := (Fb.of HA.out rfl).l2
  have z2 := row_fz HA.out 38
  go_upto_region 4 with fail
  have HA0 := hid (show (y2.setCell ⟨n, 38, none⟩ (.int .i64 ((cS bs 2147483648 (cS bs 2147483648 (uS bs s).2).2).1 : Nat))).heap[n]? = some (.cells (fcells (⟨2, (((uS bs s).1 : Nat) : Int), 0, 0, z32f, 0, ((((cS bs 2147483648 (uS bs s).2).1 : Nat) : Int), (((cS bs 2147483648 (cS bs 2147483648 (uS bs s).2).2).1 : Nat) : Int), 0), [], []⟩ : Fr) nS).toArray 29 (0, 0)) from (blk_set HA.out _).trans (congrArg (fun a => some (Obj.cells a 29 (0, 0))) (fset_l2 (⟨2, (((uS bs s).1 : Nat) : Int), 0, 0, z32f, 0, ((((cS bs 2147483648 (uS bs s).2).1 : Nat) : Int), 0, 0), [], []⟩ : Fr) nS rfl _)))
  have HM0 := hid (show (y2.setCell ⟨n, 38, none⟩ (.int .i64 ((cS bs 2147483648 (cS bs 2147483648 (uS bs s).2).2).1 : Nat))).heap[n + 1]? = some (.cells (fcells zF nS).toArray 29 (0, 0)) from (Below.heap_setCell y2 _ _ (n + 1) (by simp)).trans HM.out)
  have HG := hid (HGn.out.then_new (gb_set y2 ⟨n, 38, none⟩ (.int .i64 ((cS bs 2147483648 (cS bs 2147483648 (uS bs s).2).2).1 : Nat))) (by rw [HN.out]; exact Nat.le_refl _))
  have HFD := hid (HFn.out.far (gb_set y2 ⟨n, 38, none⟩ (.int .i64 ((cS bs 2147483648 (cS bs 2147483648 (uS bs s).2).2).1 : Nat))) HB1.out HB2.out HOW.out)
  generalize y2.setCell ⟨n, 38, none⟩ (.int .i64 ((cS bs 2147483648 (cS bs 2147483648 (uS bs s).2).2).1 : Nat)) = w3 at HA0 HM0 HG HFD ⊢
  clear HA HM HGn HFn x2 z2
  have p3 := HFD.out.ptr
  go_wp2_with fail
  refine (fd_count 2147483648 (by omega) HFD.out).mono ?_
  rintro e y3 ⟨rfl, hf3, hg3⟩
  have HA := hid ((hg3.block n (hp_lt HA0.out) (fun e => by injection e with e; have := HB2.out; omega)).trans HA0.out)
  have HM := hid ((hg3.block (n + 1) (hp_lt HM0.out) (fun e => by injection e with e; have := HB2.out; omega)).trans HM0.out)
  have HGn := hid (HG.out.trans (G2.of_second hg3))
  have HFn := hid hf3
  clear HFD HA0 HM0 HG hf3 hg3 p3
  have x3 := (Fb.of HA.out rfl).l3
  have z3 := row_fz HA.out 39
  go_upto_region 5 with fail
  have HA0 := hid (show (y3.setCell ⟨n, 39, none⟩ (.int .i64 ((cS bs 2147483648 (cS bs 2147483648 (cS bs 2147483648 (uS bs s).2).2).2).1 : Nat))).heap[n]? = some (.cells (fcells (⟨2, (((uS bs s).1 : Nat) : Int), 0, 0, z32f, 0, ((((cS bs 2147483648 (uS bs s).2).1 : Nat) : Int), (((cS bs 2147483648 (cS bs 2147483648 (uS bs s).2).2).1 : Nat) : Int), (((cS bs 2147483648 (cS bs 2147483648 (cS bs 2147483648 (uS bs s).2).2).2).1 : Nat) : Int)), [], []⟩ : Fr) nS).toArray 29 (0, 0)) from (blk_set HA.out _).trans (congrArg (fun a => some (Obj.cells a 29 (0, 0))) (fset_l3 (⟨2, (((uS bs s).1 : Nat) : Int), 0, 0, z32f, 0, ((((cS bs 2147483648 (uS bs s).2).1 : Nat) : Int), (((cS bs 2147483648 (cS bs 2147483648 (uS bs s).2).2).1 : Nat) : Int), 0), [], []⟩ : Fr) nS rfl _)))
  have HM0 := hid (show (y3.setCell ⟨n, 39, none⟩ (.int .i64 ((cS bs 2147483648 (cS bs 2147483648 (cS bs 2147483648 (uS bs s).2).2).2).1 : Nat))).heap[n + 1]? = some (.cells (fcells zF nS).toArray 29 (0, 0)) from (Below.heap_setCell y3 _ _ (n + 1) (by simp)).trans HM.out)
  have HG := hid (HGn.out.then_new (gb_set y3 ⟨n, 39, none⟩ (.int .i64 ((cS bs 2147483648 (cS bs 2147483648 (cS bs 2147483648 (uS bs s).2).2).2).1 : Nat))) (by rw [HN.out]; exact Nat.le_refl _))
  have HFD := hid (HFn.out.far (gb_set y3 ⟨n, 39, none⟩ (.int .i64 ((cS bs 2147483648 (cS bs 2147483648 (cS bs 2147483648 (uS bs s).2).2).2).1 : Nat))) HB1.out HB2.out HOW.out)
  generalize y3.setCell ⟨n, 39, none⟩ (.int .i64 ((cS bs 2147483648 (cS bs 2147483648 (cS bs 2147483648 (uS bs s).2).2).2).1 : Nat)) = w4 at HA0 HM0 HG HFD ⊢
  clear HA HM HGn HFn x3 z3
  have p4 := HFD.out.ptr
  go_wp2_with fail
  refine (fd_list 8 4096 (by omega) (by omega) (by omega) HFD.out).mono ?_
  rintro e y4 ⟨vl, rfl, hol, hf4, hg4⟩
  obtain ⟨al, cl, el⟩ := wowns_shape hol
  subst el
  have HOL := hid (hol.le (show n + 2 ≤ w4.heap.size by have := hp_lt HM0.out; omega))
  have HA := hid ((hg4.block n (hp_lt HA0.out) (fun e => by injection e with e; have := HB2.out; omega)).trans HA0.out)
  have HM := hid ((hg4.block (n + 1) (hp_lt HM0.out) (fun e => by injection e with e; have := HB2.out; omega)).trans HM0.out)
  have HGn := hid (HG.out.trans (G2.of_second hg4))
  have HFn := hid hf4
  clear HFD HA0 HM0 HG hf4 hg4 p4 hol
  have x4 := (Fb.of HA.out rfl).a
  have z4 := row_fz HA.out 40
  go_upto_region 6 with fail
  have HA0 := hid (show (y4.setCell ⟨n, 40, none⟩ (.slice al (lS bs 8 4096 (cS bs 2147483648 (cS bs 2147483648 (cS bs 2147483648 (uS bs s).2).2).2).2).1.length cl)).heap[n]? = some (.cells (fcells (⟨2, (((uS bs s).1 : Nat) : Int), 0, 0, z32f, 0, ((((cS bs 2147483648 (uS bs s).2).1 : Nat) : Int), (((cS bs 2147483648 (cS bs 2147483648 (uS bs s).2).2).1 : Nat) : Int), (((cS bs 2147483648 (cS bs 2147483648 (cS bs 2147483648 (uS bs s).2).2).2).1 : Nat) : Int)), (lS bs 8 4096 (cS bs 2147483648 (cS bs 2147483648 (cS bs 2147483648 (uS bs s).2).2).2).2).1, []⟩ : Fr) (.slice al (lS bs 8 4096 (cS bs 2147483648 (cS bs 2147483648 (cS bs 2147483648 (uS bs s).2).2).2).2).1.length cl)).toArray 29 (0, 0)) from (blk_set HA.out _).trans (congrArg (fun a => some (Obj.cells a 29 (0, 0))) (fset_args (⟨2, (((uS bs s).1 : Nat) : Int), 0, 0, z32f, 0, ((((cS bs 2147483648 (uS bs s).2).1 : Nat) : Int), (((cS bs 2147483648 (cS bs 2147483648 (uS bs s).2).2).1 : Nat) : Int), (((cS bs 2147483648 (cS bs 2147483648 (cS bs 2147483648 (uS bs s).2).2).2).1 : Nat) : Int)), [], []⟩ : Fr) nS rfl _)))
  have HM0 := hid (show (y4.setCell ⟨n, 40, none⟩ (.slice al (lS bs 8 4096 (cS bs 2147483648 (cS bs 2147483648 (cS bs 2147483648 (uS bs s).2).2).2).2).1.length cl)).heap[n + 1]? = some (.cells (fcells zF nS).toArray 29 (0, 0)) from (Below.heap_setCell y4 _ _ (n + 1) (by simp)).trans HM.out)
  have HG := hid (HGn.out.then_new (gb_set y4 ⟨n, 40, none⟩ (.slice al (lS bs 8 4096 (cS bs 2147483648 (cS bs 2147483648 (cS bs 2147483648 (uS bs s).2).2).2).2).1.length cl)) (by rw [HN.out]; exact Nat.le_refl _))
  have HFD := hid (HFn.out.far (gb_set y4 ⟨n, 40, none⟩ (.slice al (lS bs 8 4096 (cS bs 2147483648 (cS bs 2147483648 (cS bs 2147483648 (uS bs s).2).2).2).2).1.length cl)) HB1.out HB2.out HOW.out)
  have HOLn := hid (wowns_set HOL.out 40 (.slice al (lS bs 8 4096 (cS bs 2147483648 (cS bs 2147483648 (cS bs 2147483648 (uS bs s).2).2).2).2).1.length cl))
  generalize y4.setCell ⟨n, 40, none⟩ (.slice al (lS bs 8 4096 (cS bs 2147483648 (cS bs 2147483648 (cS bs 2147483648 (uS bs s).2).2).2).2).1.length cl) = w5 at HA0 HM0 HG HFD HOLn ⊢
  clear HA HM HGn HFn x4 z4
  clear HOL
  have HOL := hid HOLn.out
  clear HOLn
  have p5 := HFD.out.ptr
  go_wp2_with fail
  refine (fd_text 2097152 (by omega) (by omega) HFD.out).mono ?_
  rintro e y5 ⟨rfl, hf5, hg5⟩
  have HA := hid ((hg5.block n (hp_lt HA0.out) (fun e => by injection e with e; have := HB2.out; omega)).trans HA0.out)
  have HM := hid ((hg5.block (n + 1) (hp_lt HM0.out) (fun e => by injection e with e; have := HB2.out; omega)).trans HM0.out)
  have HGn := hid (HG.out.trans (G2.of_second hg5))
  have HOLn := hid (WOwnS.far HOL.out hg5 (fun j e => by injection e with e; have := HB2.out; omega))
  clear HOL
  have HOL := hid HOLn.out
  clear HOLn
  have HFn := hid hf5
  clear HFD HA0 HM0 HG hf5 hg5 p5
  have x5 := (Fb.of HA.out rfl).bd
  have z5 := row_fz HA.out 41
  go_upto_region 7 with fail
  have HA0 := hid (show (y5.setCell ⟨n, 41, none⟩ (.string (mk (tS bs 2097152 (lS bs 8 4096 (cS bs 2147483648 (cS bs 2147483648 (cS bs 2147483648 (uS bs s).2).2).2).2).2).1))).heap[n]? = some (.cells (fcells (⟨2, (((uS bs s).1 : Nat) : Int), 0, 0, z32f, 0, ((((cS bs 2147483648 (uS bs s).2).1 : Nat) : Int), (((cS bs 2147483648 (cS bs 2147483648 (uS bs s).2).2).1 : Nat) : Int), (((cS bs 2147483648 (cS bs 2147483648 (cS bs 2147483648 (uS bs s).2).2).2).1 : Nat) : Int)), (lS bs 8 4096 (cS bs 2147483648 (cS bs 2147483648 (cS bs 2147483648 (uS bs s).2).2).2).2).1, (tS bs 2097152 (lS bs 8 4096 (cS bs 2147483648 (cS bs 2147483648 (cS bs 2147483648 (uS bs s).2).2).2).2).2).1⟩ : Fr) (.slice al (lS bs 8 4096 (cS bs 2147483648 (cS bs 2147483648 (cS bs 2147483648 (uS bs s).2).2).2).2).1.length cl)).toArray 29 (0, 0)) from (blk_set HA.out _).trans (congrArg (fun a => some (Obj.cells a 29 (0, 0))) (fset_body (⟨2, (((uS bs s).1 : Nat) : Int), 0, 0, z32f, 0, ((((cS bs 2147483648 (uS bs s).2).1 : Nat) : Int), (((cS bs 2147483648 (cS bs 2147483648 (uS bs s).2).2).1 : Nat) : Int), (((cS bs 2147483648 (cS bs 2147483648 (cS bs 2147483648 (uS bs s).2).2).2).1 : Nat) : Int)), (lS bs 8 4096 (cS bs 2147483648 (cS bs 2147483648 (cS bs 2147483648 (uS bs s).2).2).2).2).1, []⟩ : Fr) (.slice al (lS bs 8 4096 (cS bs 2147483648 (cS bs 2147483648 (cS bs 2147483648 (uS bs s).2).2).2).2).1.length cl) rfl _)))
  have HM0 := hid (show (y5.setCell ⟨n, 41, none⟩ (.string (mk (tS bs 2097152 (lS bs 8 4096 (cS bs 2147483648 (cS bs 2147483648 (cS bs 2147483648 (uS bs s).2).2).2).2).2).1))).heap[n + 1]? = some (.cells (fcells zF nS).toArray 29 (0, 0)) from (Below.heap_setCell y5 _ _ (n + 1) (by simp)).trans HM.out)
  have HG := hid (HGn.out.then_new (gb_set y5 ⟨n, 41, none⟩ (.string (mk (tS bs 2097152 (lS bs 8 4096 (cS bs 2147483648 (cS bs 2147483648 (cS bs 2147483648 (uS bs s).2).2).2).2).2).1))) (by rw [HN.out]; exact Nat.le_refl _))
  have HFD := hid (HFn.out.far (gb_set y5 ⟨n, 41, none⟩ (.string (mk (tS bs 2097152 (lS bs 8 4096 (cS bs 2147483648 (cS bs 2147483648 (cS bs 2147483648 (uS bs s).2).2).2).2).2).1))) HB1.out HB2.out HOW.out)
  have HOLn := hid (wowns_set HOL.out 41 (.string (mk (tS bs 2097152 (lS bs 8 4096 (cS bs 2147483648 (cS bs 2147483648 (cS bs 2147483648 (uS bs s).2).2).2).2).2).1)))
  generalize y5.setCell ⟨n, 41, none⟩ (.string (mk (tS bs 2097152 (lS bs 8 4096 (cS bs 2147483648 (cS bs 2147483648 (cS bs 2147483648 (uS bs s).2).2).2).2).2).1)) = w6 at HA0 HM0 HG HFD HOLn ⊢
  clear HA HM HGn HFn x5 z5
  clear HOL
  have HOL := hid HOLn.out
  clear HOLn
  obtain ⟨FF, HFF⟩ : ∃ L, Hid (fcells (⟨2, (((uS bs s).1 : Nat) : Int), 0, 0, z32f, 0, ((((cS bs 2147483648 (uS bs s).2).1 : Nat) : Int), (((cS bs 2147483648 (cS bs 2147483648 (uS bs s).2).2).1 : Nat) : Int), (((cS bs 2147483648 (cS bs 2147483648 (cS bs 2147483648 (uS bs s).2).2).2).1 : Nat) : Int)), (lS bs 8 4096 (cS bs 2147483648 (cS bs 2147483648 (cS bs 2147483648 (uS bs s).2).2).2).2).1, (tS bs 2097152 (lS bs 8 4096 (cS bs 2147483648 (cS bs 2147483648 (cS bs 2147483648 (uS bs s).2).2).2).2).2).1⟩ : Fr) (.slice al (lS bs 8 4096 (cS bs 2147483648 (cS bs 2147483648 (cS bs 2147483648 (uS bs s).2).2).2).2).1.length cl) = L) := ⟨_, rfl⟩
  have HSZ := hid (frame_size (⟨2, (((uS bs s).1 : Nat) : Int), 0, 0, z32f, 0, ((((cS bs 2147483648 (uS bs s).2).1 : Nat) : Int), (((cS bs 2147483648 (cS bs 2147483648 (uS bs s).2).2).1 : Nat) : Int), (((cS bs 2147483648 (cS bs 2147483648 (cS bs 2147483648 (uS bs s).2).2).2).1 : Nat) : Int)), (lS bs 8 4096 (cS bs 2147483648 (cS bs 2147483648 (cS bs 2147483648 (uS bs s).2).2).2).2).1, (tS bs 2097152 (lS bs 8 4096 (cS bs 2147483648 (cS bs 2147483648 (cS bs 2147483648 (uS bs s).2).2).2).2).2).1⟩ : Fr) (.slice al (lS bs 8 4096 (cS bs 2147483648 (cS bs 2147483648 (cS bs 2147483648 (uS bs s).2).2).2).2).1.length cl) rfl)
  have HON := hid (fcells_one (⟨2, (((uS bs s).1 : Nat) : Int), 0, 0, z32f, 0, ((((cS bs 2147483648 (uS bs s).2).1 : Nat) : Int), (((cS bs 2147483648 (cS bs 2147483648 (uS bs s).2).2).1 : Nat) : Int), (((cS bs 2147483648 (cS bs 2147483648 (cS bs 2147483648 (uS bs s).2).2).2).1 : Nat) : Int)), (lS bs 8 4096 (cS bs 2147483648 (cS bs 2147483648 (cS bs 2147483648 (uS bs s).2).2).2).2).1, (tS bs 2097152 (lS bs 8 4096 (cS bs 2147483648 (cS bs 2147483648 (cS bs 2147483648 (uS bs s).2).2).2).2).2).1⟩ : Fr) (.slice al (lS bs 8 4096 (cS bs 2147483648 (cS bs 2147483648 (cS bs 2147483648 (uS bs s).2).2).2).2).1.length cl) rfl)
  have HOS := hid (show (fcells zF nS).toArray.size = (fcells (⟨2, (((uS bs s).1 : Nat) : Int), 0, 0, z32f, 0, ((((cS bs 2147483648 (uS bs s).2).1 : Nat) : Int), (((cS bs 2147483648 (cS bs 2147483648 (uS bs s).2).2).1 : Nat) : Int), (((cS bs 2147483648 (cS bs 2147483648 (cS bs 2147483648 (uS bs s).2).2).2).1 : Nat) : Int)), (lS bs 8 4096 (cS bs 2147483648 (cS bs 2147483648 (cS bs 2147483648 (uS bs s).2).2).2).2).1, (tS bs 2097152 (lS bs 8 4096 (cS bs 2147483648 (cS bs 2147483648 (cS bs 2147483648 (uS bs s).2).2).2).2).2).1⟩ : Fr) (.slice al (lS bs 8 4096 (cS bs 2147483648 (cS bs 2147483648 (cS bs 2147483648 (uS bs s).2).2).2).2).1.length cl)).length by rw [fcells_length _ _ rfl]; rfl)
  rw [HFF.out] at HA0 HSZ HON HOS
  go_wp2_with (first
    | (refine ld_row (by rfl) 29 (.tmp 3) (by rfl) n (by rfl) FF 29 HA0.out _ Try.underlying29 rfl HSZ.out ?_)
    | (refine st_row (by rfl) 29 _ _ (by rfl) (n + 1) FF (by rfl) (by rfl) 29 _ HM0.out HSZ.out HOS.out HON.out ?_; intro wz hwz))
  refine ret_row 4 29 rfl (n + 1) rfl FF 29 hwz.blk _ Try.underlying29 rfl HSZ.out rfl ⟨(.slice al (lS bs 8 4096 (cS bs 2147483648 (cS bs 2147483648 (cS bs 2147483648 (uS bs s).2).2).2).2).1.length cl), by rw [← HFF.out, fieldsP_2]; rfl, ?_, ?_, HG.out.then_new hwz.grown (by rw [HN.out]; omega)⟩
  · rw [fieldsP_2]
    exact wowns_far1 HOL.out hwz.grown HN.out
  · rw [fieldsP_2]
    exact HFD.out.far hwz.grown (by have := HB1.out; omega) (by have := HB2.out; omega) (fun k hk => by have := HOW.out k hk; omega)

set_option maxRecDepth 100000 in
set_option maxHeartbeats 4000000 in
theorem readCancel_any (base b rb : Nat) (v : Value) (bs : List UInt8) (s : St) (w : World) (hbl : bs.length ≤ 1099511627776) (h : Fd w base b rb v bs s) :
    Calls Try.prog 88 #[.pointer (some ⟨b, 0, none⟩), .agg (fcells (kF 4) nS).toArray] w fun e w' => ∃ va, e = .returned (.agg (fcells (fieldsP bs 4 s).1 va).toArray) ∧ WOwnS w' w.heap.size va (fieldsP bs 4 s).1.args ∧ Fd w' base b rb v bs (fieldsP bs 4 s).2 ∧ G2 w w' b rb := by
  obtain ⟨n, HN⟩ : ∃ n, Hid (w.heap.size = n) := ⟨_, rfl⟩
  have HNB := hid (hp_two w (.cells (fcells (kF 4) nS).toArray 29) (.cells (fcells zF nS).toArray 29))
  have HBL := hid (below_walk2 w (.cells (fcells (kF 4) nS).toArray 29) (.cells (fcells zF nS).toArray 29))
  have HZ : Hid ((w.alloc (.cells (fcells (kF 4) nS).toArray 29)).heap.size = w.heap.size + 1) := hid (by simp)
  have HFD := hid (h.below HBL.out)
  have HB1 : Hid (b < n) := hid (HN.out ▸ h.lt.1)
  have HB2 : Hid (rb < n) := hid (HN.out ▸ h.lt.2.1)
  have HOW : Hid (∀ k, v.ownBlock = some k → k < n) := hid (HN.out ▸ h.own)
  have HG := hid (G2.of_below (b := b) (c := rb) HBL.out)
  have HLEN := hid hbl
  clear h
  go_enter Try.func88, Try.ntmps88
  go_upto_region 1 with (refine al_row (by rfl) 29 (by rfl) _ zeroFrame ?_)
  try rw [HZ.out]
  generalize (w.alloc (.cells (fcells (kF 4) nS).toArray 29)).alloc (.cells (fcells zF nS).toArray 29) = w0 at HNB HBL HFD HG ⊢
  rw [HN.out] at HNB ⊢
  have HA0 := hid (show w0.heap[n]? = some (.cells (fcells (⟨4, 0, 0, 0, z32f, 0, (0, 0, 0), [], []⟩ : Fr) nS).toArray 29 (0, 0)) from HNB.out.1)
  have HM0 := hid (show w0.heap[n + 1]? = some (.cells (fcells zF nS).toArray 29 (0, 0)) from HNB.out.2)
  clear HNB HBL HZ
  have p0 := HFD.out.ptr
  go_wp2_with fail
  refine (fd_uint HFD.out).mono ?_
  rintro e y0 ⟨rfl, hf0, hg0⟩
  have HA := hid ((hg0.block n (hp_lt HA0.out) (fun e => by injection e with e; have := HB2.out; omega)).trans HA0.out)
  have HM := hid ((hg0.block (n + 1) (hp_lt HM0.out) (fun e => by injection e with e; have := HB2.out; omega)).trans HM0.out)
  have HGn := hid (HG.out.trans (G2.of_second hg0))
  have HFn := hid hf0
  clear HFD HA0 HM0 HG hf0 hg0 p0
  have x0 := (Fb.of HA.out rfl).i
  have z0 := row_fz HA.out 1
  go_upto_region 2 with fail
  have HA0 := hid (show (y0.setCell ⟨n, 1, none⟩ (.int .u64 ((uS bs s).1 : Nat))).heap[n]? = some (.cells (fcells (⟨4, (((uS bs s).1 : Nat) : Int), 0, 0, z32f, 0, (0, 0, 0), [], []⟩ : Fr) nS).toArray 29 (0, 0)) from (blk_set HA.out _).trans (congrArg (fun a => some (Obj.cells a 29 (0, 0))) (fset_id (⟨4, 0, 0, 0, z32f, 0, (0, 0, 0), [], []⟩ : Fr) nS rfl _)))
  have HM0 := hid (show (y0.setCell ⟨n, 1, none⟩ (.int .u64 ((uS bs s).1 : Nat))).heap[n + 1]? = some (.cells (fcells zF nS).toArray 29 (0, 0)) from (Below.heap_setCell y0 _ _ (n + 1) (by simp)).trans HM.out)
  have HG := hid (HGn.out.then_new (gb_set y0 ⟨n, 1, none⟩ (.int .u64 ((uS bs s).1 : Nat))) (by rw [HN.out]; exact Nat.le_refl _))
  have HFD := hid (HFn.out.far (gb_set y0 ⟨n, 1, none⟩ (.int .u64 ((uS bs s).1 : Nat))) HB1.out HB2.out HOW.out)
  generalize y0.setCell ⟨n, 1, none⟩ (.int .u64 ((uS bs s).1 : Nat)) = w1 at HA0 HM0 HG HFD ⊢
  clear HA HM HGn HFn x0 z0
  obtain ⟨FF, HFF⟩ : ∃ L, Hid (fcells (⟨4, (((uS bs s).1 : Nat) : Int), 0, 0, z32f, 0, (0, 0, 0), [], []⟩ : Fr) nS = L) := ⟨_, rfl⟩
  have HSZ := hid (frame_size (⟨4, (((uS bs s).1 : Nat) : Int), 0, 0, z32f, 0, (0, 0, 0), [], []⟩ : Fr) nS rfl)
  have HON := hid (fcells_one (⟨4, (((uS bs s).1 : Nat) : Int), 0, 0, z32f, 0, (0, 0, 0), [], []⟩ : Fr) nS rfl)
  have HOS := hid (show (fcells zF nS).toArray.size = (fcells (⟨4, (((uS bs s).1 : Nat) : Int), 0, 0, z32f, 0, (0, 0, 0), [], []⟩ : Fr) nS).length by rw [fcells_length _ _ rfl]; rfl)
  rw [HFF.out] at HA0 HSZ HON HOS
  go_wp2_with (first
    | (refine ld_row (by rfl) 29 (.tmp 3) (by rfl) n (by rfl) FF 29 HA0.out _ Try.underlying29 rfl HSZ.out ?_)
    | (refine st_row (by rfl) 29 _ _ (by rfl) (n + 1) FF (by rfl) (by rfl) 29 _ HM0.out HSZ.out HOS.out HON.out ?_; intro wz hwz))
  refine ret_row 4 29 rfl (n + 1) rfl FF 29 hwz.blk _ Try.underlying29 rfl HSZ.out rfl ⟨nS, by rw [← HFF.out, fieldsP_4]; rfl, ?_, ?_, HG.out.then_new hwz.grown (by rw [HN.out]; omega)⟩
  · rw [fieldsP_4]
    exact World.ownsRow_nil _ _ _ _
  · rw [fieldsP_4]
    exact HFD.out.far hwz.grown (by have := HB1.out; omega) (by have := HB2.out; omega) (fun k hk => by have := HOW.out k hk; omega)

set_option maxRecDepth 100000 in
set_option maxHeartbeats 4000000 in
theorem readBye_any (base b rb : Nat) (v : Value) (bs : List UInt8) (s : St) (w : World) (hbl : bs.length ≤ 1099511627776) (h : Fd w base b rb v bs s) :
    Calls Try.prog 91 #[.pointer (some ⟨b, 0, none⟩), .agg (fcells (kF 5) nS).toArray] w fun e w' => ∃ va, e = .returned (.agg (fcells (fieldsP bs 5 s).1 va).toArray) ∧ WOwnS w' w.heap.size va (fieldsP bs 5 s).1.args ∧ Fd w' base b rb v bs (fieldsP bs 5 s).2 ∧ G2 w w' b rb := by
  obtain ⟨n, HN⟩ : ∃ n, Hid (w.heap.size = n) := ⟨_, rfl⟩
  have HNB := hid (hp_two w (.cells (fcells (kF 5) nS).toArray 29) (.cells (fcells zF nS).toArray 29))
  have HBL := hid (below_walk2 w (.cells (fcells (kF 5) nS).toArray 29) (.cells (fcells zF nS).toArray 29))
  have HZ : Hid ((w.alloc (.cells (fcells (kF 5) nS).toArray 29)).heap.size = w.heap.size + 1) := hid (by simp)
  have HFD := hid (h.below HBL.out)
  have HB1 : Hid (b < n) := hid (HN.out ▸ h.lt.1)
  have HB2 : Hid (rb < n) := hid (HN.out ▸ h.lt.2.1)
  have HOW : Hid (∀ k, v.ownBlock = some k → k < n) := hid (HN.out ▸ h.own)
  have HG := hid (G2.of_below (b := b) (c := rb) HBL.out)
  have HLEN := hid hbl
  clear h
  go_enter Try.func91, Try.ntmps91
  go_upto_region 1 with (refine al_row (by rfl) 29 (by rfl) _ zeroFrame ?_)
  try rw [HZ.out]
  generalize (w.alloc (.cells (fcells (kF 5) nS).toArray 29)).alloc (.cells (fcells zF nS).toArray 29) = w0 at HNB HBL HFD HG ⊢
  rw [HN.out] at HNB ⊢
  have HA0 := hid (show w0.heap[n]? = some (.cells (fcells (⟨5, 0, 0, 0, z32f, 0, (0, 0, 0), [], []⟩ : Fr) nS).toArray 29 (0, 0)) from HNB.out.1)
  have HM0 := hid (show w0.heap[n + 1]? = some (.cells (fcells zF nS).toArray 29 (0, 0)) from HNB.out.2)
  clear HNB HBL HZ
  obtain ⟨FF, HFF⟩ : ∃ L, Hid (fcells (⟨5, 0, 0, 0, z32f, 0, (0, 0, 0), [], []⟩ : Fr) nS = L) := ⟨_, rfl⟩
  have HSZ := hid (frame_size (⟨5, 0, 0, 0, z32f, 0, (0, 0, 0), [], []⟩ : Fr) nS rfl)
  have HON := hid (fcells_one (⟨5, 0, 0, 0, z32f, 0, (0, 0, 0), [], []⟩ : Fr) nS rfl)
  have HOS := hid (show (fcells zF nS).toArray.size = (fcells (⟨5, 0, 0, 0, z32f, 0, (0, 0, 0), [], []⟩ : Fr) nS).length by rw [fcells_length _ _ rfl]; rfl)
  rw [HFF.out] at HA0 HSZ HON HOS
  go_wp2_with (first
    | (refine ld_row (by rfl) 29 (.tmp 3) (by rfl) n (by rfl) FF 29 HA0.out _ Try.underlying29 rfl HSZ.out ?_)
    | (refine st_row (by rfl) 29 _ _ (by rfl) (n + 1) FF (by rfl) (by rfl) 29 _ HM0.out HSZ.out HOS.out HON.out ?_; intro wz hwz))
  refine ret_row 4 29 rfl (n + 1) rfl FF 29 hwz.blk _ Try.underlying29 rfl HSZ.out rfl ⟨nS, by rw [← HFF.out, fieldsP_5]; rfl, ?_, ?_, HG.out.then_new hwz.grown (by rw [HN.out]; omega)⟩
  · rw [fieldsP_5]
    exact World.ownsRow_nil _ _ _ _
  · rw [fieldsP_5]
    exact HFD.out.far hwz.grown (by have := HB1.out; omega) (by have := HB2.out; omega) (fun k hk => by have := HOW.out k hk; omega)

set_option maxRecDepth 100000 in
set_option maxHeartbeats 4000000 in
theorem readNote_any (base b rb : Nat) (v : Value) (bs : List UInt8) (s : St) (w : World) (hbl : bs.length ≤ 1099511627776) (h : Fd w base b rb v bs s) :
    Calls Try.prog 94 #[.pointer (some ⟨b, 0, none⟩), .agg (fcells (kF 6) nS).toArray] w fun e w' => ∃ va, e = .returned (.agg (fcells (fieldsP bs 6 s).1 va).toArray) ∧ WOwnS w' w.heap.size va (fieldsP bs 6 s).1.args ∧ Fd w' base b rb v bs (fieldsP bs 6 s).2 ∧ G2 w w' b rb := by
  obtain ⟨n, HN⟩ : ∃ n, Hid (w.heap.size = n) := ⟨_, rfl⟩
  have HNB := hid (hp_two w (.cells (fcells (kF 6) nS).toArray 29) (.cells (fcells zF nS).toArray 29))
  have HBL := hid (below_walk2 w (.cells (fcells (kF 6) nS).toArray 29) (.cells (fcells zF nS).toArray 29))
  have HZ : Hid ((w.alloc (.cells (fcells (kF 6) nS).toArray 29)).heap.size = w.heap.size + 1) := hid (by simp)
  have HFD := hid (h.below HBL.out)
  have HB1 : Hid (b < n) := hid (HN.out ▸ h.lt.1)
  have HB2 : Hid (rb < n) := hid (HN.out ▸ h.lt.2.1)
  have HOW : Hid (∀ k, v.ownBlock = some k → k < n) := hid (HN.out ▸ h.own)
  have HG := hid (G2.of_below (b := b) (c := rb) HBL.out)
  have HLEN := hid hbl
  clear h
  go_enter Try.func94, Try.ntmps94
  go_upto_region 1 with (refine al_row (by rfl) 29 (by rfl) _ zeroFrame ?_)
  try rw [HZ.out]
  generalize (w.alloc (.cells (fcells (kF 6) nS).toArray 29)).alloc (.cells (fcells zF nS).toArray 29) = w0 at HNB HBL HFD HG ⊢
  rw [HN.out] at HNB ⊢
  have HA0 := hid (show w0.heap[n]? = some (.cells (fcells (⟨6, 0, 0, 0, z32f, 0, (0, 0, 0), [], []⟩ : Fr) nS).toArray 29 (0, 0)) from HNB.out.1)
  have HM0 := hid (show w0.heap[n + 1]? = some (.cells (fcells zF nS).toArray 29 (0, 0)) from HNB.out.2)
  clear HNB HBL HZ
  have p0 := HFD.out.ptr
  go_wp2_with fail
  refine (fd_text 2097152 (by omega) (by omega) HFD.out).mono ?_
  rintro e y0 ⟨rfl, hf0, hg0⟩
  have HA := hid ((hg0.block n (hp_lt HA0.out) (fun e => by injection e with e; have := HB2.out; omega)).trans HA0.out)
  have HM := hid ((hg0.block (n + 1) (hp_lt HM0.out) (fun e => by injection e with e; have := HB2.out; omega)).trans HM0.out)
  have HGn := hid (HG.out.trans (G2.of_second hg0))
  have HFn := hid hf0
  clear HFD HA0 HM0 HG hf0 hg0 p0
  have x0 := (Fb.of HA.out rfl).bd
  have z0 := row_fz HA.out 41
  go_upto_region 2 with fail
  have HA0 := hid (show (y0.setCell ⟨n, 41, none⟩ (.string (mk (tS bs 2097152 s).1))).heap[n]? = some (.cells (fcells (⟨6, 0, 0, 0, z32f, 0, (0, 0, 0), [], (tS bs 2097152 s).1⟩ : Fr) nS).toArray 29 (0, 0)) from (blk_set HA.out _).trans (congrArg (fun a => some (Obj.cells a 29 (0, 0))) (fset_body (⟨6, 0, 0, 0, z32f, 0, (0, 0, 0), [], []⟩ : Fr) nS rfl _)))
  have HM0 := hid (show (y0.setCell ⟨n, 41, none⟩ (.string (mk (tS bs 2097152 s).1))).heap[n + 1]? = some (.cells (fcells zF nS).toArray 29 (0, 0)) from (Below.heap_setCell y0 _ _ (n + 1) (by simp)).trans HM.out)
  have HG := hid (HGn.out.then_new (gb_set y0 ⟨n, 41, none⟩ (.string (mk (tS bs 2097152 s).1))) (by rw [HN.out]; exact Nat.le_refl _))
  have HFD := hid (HFn.out.far (gb_set y0 ⟨n, 41, none⟩ (.string (mk (tS bs 2097152 s).1))) HB1.out HB2.out HOW.out)
  generalize y0.setCell ⟨n, 41, none⟩ (.string (mk (tS bs 2097152 s).1)) = w1 at HA0 HM0 HG HFD ⊢
  clear HA HM HGn HFn x0 z0
  obtain ⟨FF, HFF⟩ : ∃ L, Hid (fcells (⟨6, 0, 0, 0, z32f, 0, (0, 0, 0), [], (tS bs 2097152 s).1⟩ : Fr) nS = L) := ⟨_, rfl⟩
  have HSZ := hid (frame_size (⟨6, 0, 0, 0, z32f, 0, (0, 0, 0), [], (tS bs 2097152 s).1⟩ : Fr) nS rfl)
  have HON := hid (fcells_one (⟨6, 0, 0, 0, z32f, 0, (0, 0, 0), [], (tS bs 2097152 s).1⟩ : Fr) nS rfl)
  have HOS := hid (show (fcells zF nS).toArray.size = (fcells (⟨6, 0, 0, 0, z32f, 0, (0, 0, 0), [], (tS bs 2097152 s).1⟩ : Fr) nS).length by rw [fcells_length _ _ rfl]; rfl)
  rw [HFF.out] at HA0 HSZ HON HOS
  go_wp2_with (first
    | (refine ld_row (by rfl) 29 (.tmp 3) (by rfl) n (by rfl) FF 29 HA0.out _ Try.underlying29 rfl HSZ.out ?_)
    | (refine st_row (by rfl) 29 _ _ (by rfl) (n + 1) FF (by rfl) (by rfl) 29 _ HM0.out HSZ.out HOS.out HON.out ?_; intro wz hwz))
  refine ret_row 4 29 rfl (n + 1) rfl FF 29 hwz.blk _ Try.underlying29 rfl HSZ.out rfl ⟨nS, by rw [← HFF.out, fieldsP_6]; rfl, ?_, ?_, HG.out.then_new hwz.grown (by rw [HN.out]; omega)⟩
  · rw [fieldsP_6]
    exact World.ownsRow_nil _ _ _ _
  · rw [fieldsP_6]
    exact HFD.out.far hwz.grown (by have := HB1.out; omega) (by have := HB2.out; omega) (fun k hk => by have := HOW.out k hk; omega)

set_option maxRecDepth 100000 in
set_option maxHeartbeats 4000000 in
theorem readResponse_any (base b rb : Nat) (v : Value) (bs : List UInt8) (s : St) (w : World) (hbl : bs.length ≤ 1099511627776) (h : Fd w base b rb v bs s) :
    Calls Try.prog 84 #[.pointer (some ⟨b, 0, none⟩), .agg (fcells (kF 3) nS).toArray] w fun e w' => ∃ va, e = .returned (.agg (fcells (fieldsP bs 3 s).1 va).toArray) ∧ WOwnS w' w.heap.size va (fieldsP bs 3 s).1.args ∧ Fd w' base b rb v bs (fieldsP bs 3 s).2 ∧ G2 w w' b rb := by
  obtain ⟨n, HN⟩ : ∃ n, Hid (w.heap.size = n) := ⟨_, rfl⟩
  have HNB := hid (hp_two w (.cells (fcells (kF 3) nS).toArray 29) (.cells (fcells zF nS).toArray 29))
  have HBL := hid (below_walk2 w (.cells (fcells (kF 3) nS).toArray 29) (.cells (fcells zF nS).toArray 29))
  have HZ : Hid ((w.alloc (.cells (fcells (kF 3) nS).toArray 29)).heap.size = w.heap.size + 1) := hid (by simp)
  have HFD := hid (h.below HBL.out)
  have HB1 : Hid (b < n) := hid (HN.out ▸ h.lt.1)
  have HB2 : Hid (rb < n) := hid (HN.out ▸ h.lt.2.1)
  have HOW : Hid (∀ k, v.ownBlock = some k → k < n) := hid (HN.out ▸ h.own)
  have HG := hid (G2.of_below (b := b) (c := rb) HBL.out)
  have HLEN := hid hbl
  clear h
  go_enter Try.func84, Try.ntmps84
  go_upto_region 1 with (refine al_row (by rfl) 29 (by rfl) _ zeroFrame ?_)
  try rw [HZ.out]
  generalize (w.alloc (.cells (fcells (kF 3) nS).toArray 29)).alloc (.cells (fcells zF nS).toArray 29) = w0 at HNB HBL HFD HG ⊢
  rw [HN.out] at HNB ⊢
  have HA0 := hid (show w0.heap[n]? = some (.cells (fcells (⟨3, 0, 0, 0, z32f, 0, (0, 0, 0), [], []⟩ : Fr) nS).toArray 29 (0, 0)) from HNB.out.1)
  have HM0 := hid (show w0.heap[n + 1]? = some (.cells (fcells zF nS).toArray 29 (0, 0)) from HNB.out.2)
  clear HNB HBL HZ
  have p0 := HFD.out.ptr
  go_wp2_with fail
  refine (fd_uint HFD.out).mono ?_
  rintro e y0 ⟨rfl, hf0, hg0⟩
  have HA := hid ((hg0.block n (hp_lt HA0.out) (fun e => by injection e with e; have := HB2.out; omega)).trans HA0.out)
  have HM := hid ((hg0.block (n + 1) (hp_lt HM0.out) (fun e => by injection e with e; have := HB2.out; omega)).trans HM0.out)
  have HGn := hid (HG.out.trans (G2.of_second hg0))
  have HFn := hid hf0
  clear HFD HA0 HM0 HG hf0 hg0 p0
  have x0 := (Fb.of HA.out rfl).i
  have z0 := row_fz HA.out 1
  go_upto_region 2 with fail
  have HA0 := hid (show (y0.setCell ⟨n, 1, none⟩ (.int .u64 ((uS bs s).1 : Nat))).heap[n]? = some (.cells (fcells (⟨3, (((uS bs s).1 : Nat) : Int), 0, 0, z32f, 0, (0, 0, 0), [], []⟩ : Fr) nS).toArray 29 (0, 0)) from (blk_set HA.out _).trans (congrArg (fun a => some (Obj.cells a 29 (0, 0))) (fset_id (⟨3, 0, 0, 0, z32f, 0, (0, 0, 0), [], []⟩ : Fr) nS rfl _)))
  have HM0 := hid (show (y0.setCell ⟨n, 1, none⟩ (.int .u64 ((uS bs s).1 : Nat))).heap[n + 1]? = some (.cells (fcells zF nS).toArray 29 (0, 0)) from (Below.heap_setCell y0 _ _ (n + 1) (by simp)).trans HM.out)
  have HG := hid (HGn.out.then_new (gb_set y0 ⟨n, 1, none⟩ (.int .u64 ((uS bs s).1 : Nat))) (by rw [HN.out]; exact Nat.le_refl _))
  have HFD := hid (HFn.out.far (gb_set y0 ⟨n, 1, none⟩ (.int .u64 ((uS bs s).1 : Nat))) HB1.out HB2.out HOW.out)
  generalize y0.setCell ⟨n, 1, none⟩ (.int .u64 ((uS bs s).1 : Nat)) = w1 at HA0 HM0 HG HFD ⊢
  clear HA HM HGn HFn x0 z0
  go_wp2_with fail
  refine (fd_some base b rb v bs _ 3 _ (by omega) HFD.out).mono ?_
  rintro e y1 ⟨rfl, hf1, hg1⟩
  have HA := hid ((hg1.block n (hp_lt HA0.out) (by have := HB1.out; omega) (by have := HB2.out; omega)).trans HA0.out)
  have HM := hid ((hg1.block (n + 1) (hp_lt HM0.out) (by have := HB1.out; omega) (by have := HB2.out; omega)).trans HM0.out)
  have HGn := hid (HG.out.trans hg1)
  have HFn := hid hf1
  clear HFD HA0 HM0 HG hf1 hg1
  have x1 := (Fb.of HA.out rfl).st
  have z1 := row_fz HA.out 36
  go_upto_region 3 with fail
  have HA0 := hid (show (y1.setCell ⟨n, 36, none⟩ (.int .i64 ((oS bs 3 (uS bs s).2).1 : Nat))).heap[n]? = some (.cells (fcells (⟨3, (((uS bs s).1 : Nat) : Int), 0, 0, z32f, (((oS bs 3 (uS bs s).2).1 : Nat) : Int), (0, 0, 0), [], []⟩ : Fr) nS).toArray 29 (0, 0)) from (blk_set HA.out _).trans (congrArg (fun a => some (Obj.cells a 29 (0, 0))) (fset_status (⟨3, (((uS bs s).1 : Nat) : Int), 0, 0, z32f, 0, (0, 0, 0), [], []⟩ : Fr) nS rfl _)))
  have HM0 := hid (show (y1.setCell ⟨n, 36, none⟩ (.int .i64 ((oS bs 3 (uS bs s).2).1 : Nat))).heap[n + 1]? = some (.cells (fcells zF nS).toArray 29 (0, 0)) from (Below.heap_setCell y1 _ _ (n + 1) (by simp)).trans HM.out)
  have HG := hid (HGn.out.then_new (gb_set y1 ⟨n, 36, none⟩ (.int .i64 ((oS bs 3 (uS bs s).2).1 : Nat))) (by rw [HN.out]; exact Nat.le_refl _))
  have HFD := hid (HFn.out.far (gb_set y1 ⟨n, 36, none⟩ (.int .i64 ((oS bs 3 (uS bs s).2).1 : Nat))) HB1.out HB2.out HOW.out)
  generalize y1.setCell ⟨n, 36, none⟩ (.int .i64 ((oS bs 3 (uS bs s).2).1 : Nat)) = w2 at HA0 HM0 HG HFD ⊢
  clear HA HM HGn HFn x1 z1
  have p2 := HFD.out.ptr
  go_wp2_with fail
  refine (fd_text 2097152 (by omega) (by omega) HFD.out).mono ?_
  rintro e y2 ⟨rfl, hf2, hg2⟩
  have HA := hid ((hg2.block n (hp_lt HA0.out) (fun e => by injection e with e; have := HB2.out; omega)).trans HA0.out)
  have HM := hid ((hg2.block (n + 1) (hp_lt HM0.out) (fun e => by injection e with e; have := HB2.out; omega)).trans HM0.out)
  have HGn := hid (HG.out.trans (G2.of_second hg2))
  have HFn := hid hf2
  clear HFD HA0 HM0 HG hf2 hg2 p2
  have x2 := (Fb.of HA.out rfl).bd
  have z2 := row_fz HA.out 41
  go_upto_region 4 with fail
  have HA0 := hid (show (y2.setCell ⟨n, 41, none⟩ (.string (mk (tS bs 2097152 (oS bs 3 (uS bs s).2).2).1))).heap[n]? = some (.cells (fcells (⟨3, (((uS bs s).1 : Nat) : Int), 0, 0, z32f, (((oS bs 3 (uS bs s).2).1 : Nat) : Int), (0, 0, 0), [], (tS bs 2097152 (oS bs 3 (uS bs s).2).2).1⟩ : Fr) nS).toArray 29 (0, 0)) from (blk_set HA.out _).trans (congrArg (fun a => some (Obj.cells a 29 (0, 0))) (fset_body (⟨3, (((uS bs s).1 : Nat) : Int), 0, 0, z32f, (((oS bs 3 (uS bs s).2).1 : Nat) : Int), (0, 0, 0), [], []⟩ : Fr) nS rfl _)))
  have HM0 := hid (show (y2.setCell ⟨n, 41, none⟩ (.string (mk (tS bs 2097152 (oS bs 3 (uS bs s).2).2).1))).heap[n + 1]? = some (.cells (fcells zF nS).toArray 29 (0, 0)) from (Below.heap_setCell y2 _ _ (n + 1) (by simp)).trans HM.out)
  have HG := hid (HGn.out.then_new (gb_set y2 ⟨n, 41, none⟩ (.string (mk (tS bs 2097152 (oS bs 3 (uS bs s).2).2).1))) (by rw [HN.out]; exact Nat.le_refl _))
  have HFD := hid (HFn.out.far (gb_set y2 ⟨n, 41, none⟩ (.string (mk (tS bs 2097152 (oS bs 3 (uS bs s).2).2).1))) HB1.out HB2.out HOW.out)
  generalize y2.setCell ⟨n, 41, none⟩ (.string (mk (tS bs 2097152 (oS bs 3 (uS bs s).2).2).1)) = w3 at HA0 HM0 HG HFD ⊢
  clear HA HM HGn HFn x2 z2
  obtain ⟨FF, HFF⟩ : ∃ L, Hid (fcells (⟨3, (((uS bs s).1 : Nat) : Int), 0, 0, z32f, (((oS bs 3 (uS bs s).2).1 : Nat) : Int), (0, 0, 0), [], (tS bs 2097152 (oS bs 3 (uS bs s).2).2).1⟩ : Fr) nS = L) := ⟨_, rfl⟩
  have HSZ := hid (frame_size (⟨3, (((uS bs s).1 : Nat) : Int), 0, 0, z32f, (((oS bs 3 (uS bs s).2).1 : Nat) : Int), (0, 0, 0), [], (tS bs 2097152 (oS bs 3 (uS bs s).2).2).1⟩ : Fr) nS rfl)
  have HON := hid (fcells_one (⟨3, (((uS bs s).1 : Nat) : Int), 0, 0, z32f, (((oS bs 3 (uS bs s).2).1 : Nat) : Int), (0, 0, 0), [], (tS bs 2097152 (oS bs 3 (uS bs s).2).2).1⟩ : Fr) nS rfl)
  have HOS := hid (show (fcells zF nS).toArray.size = (fcells (⟨3, (((uS bs s).1 : Nat) : Int), 0, 0, z32f, (((oS bs 3 (uS bs s).2).1 : Nat) : Int), (0, 0, 0), [], (tS bs 2097152 (oS bs 3 (uS bs s).2).2).1⟩ : Fr) nS).length by rw [fcells_length _ _ rfl]; rfl)
  rw [HFF.out] at HA0 HSZ HON HOS
  go_wp2_with (first
    | (refine ld_row (by rfl) 29 (.tmp 3) (by rfl) n (by rfl) FF 29 HA0.out _ Try.underlying29 rfl HSZ.out ?_)
    | (refine st_row (by rfl) 29 _ _ (by rfl) (n + 1) FF (by rfl) (by rfl) 29 _ HM0.out HSZ.out HOS.out HON.out ?_; intro wz hwz))
  refine ret_row 4 29 rfl (n + 1) rfl FF 29 hwz.blk _ Try.underlying29 rfl HSZ.out rfl ⟨nS, by rw [← HFF.out, fieldsP_3]; rfl, ?_, ?_, HG.out.then_new hwz.grown (by rw [HN.out]; omega)⟩
  · rw [fieldsP_3]
    exact World.ownsRow_nil _ _ _ _
  · rw [fieldsP_3]
    exact HFD.out.far hwz.grown (by have := HB1.out; omega) (by have := HB2.out; omega) (fun k hk => by have := HOW.out k hk; omega)

end Go.Proofs.Ytjinkahlfigdcaa

/- A hello's fields, read by the program. -/
namespace Go.Proofs.Ytjinkahlfigdcaa
open Go.RowKit Go.BigFrame

set_option maxRecDepth 100000 in
set_option maxHeartbeats 4000000 in
theorem readHello_any (base b rb : Nat) (v : Value) (bs : List UInt8) (s : St) (w : World) (hbl : bs.length ≤ 1099511627776) (h : Fd w base b rb v bs s) :
    Calls Try.prog 76 #[.pointer (some ⟨b, 0, none⟩), .agg (fcells (kF 1) nS).toArray] w fun e w' => ∃ va, e = .returned (.agg (fcells (fieldsP bs 1 s).1 va).toArray) ∧ WOwnS w' w.heap.size va (fieldsP bs 1 s).1.args ∧ Fd w' base b rb v bs (fieldsP bs 1 s).2 ∧ G2 w w' b rb := by
  obtain ⟨n, HN⟩ : ∃ n, Hid (w.heap.size = n) := ⟨_, rfl⟩
  have HNB := hid (hp_two w (.cells (fcells (kF 1) nS).toArray 29) (.cells (fcells zF nS).toArray 29))
  have HBL := hid (below_walk2 w (.cells (fcells (kF 1) nS).toArray 29) (.cells (fcells zF nS).toArray 29))
  have HZ : Hid ((w.alloc (.cells (fcells (kF 1) nS).toArray 29)).heap.size = w.heap.size + 1) := hid (by simp)
  have HFD := hid (h.below HBL.out)
  have HB1 : Hid (b < n) := hid (HN.out ▸ h.lt.1)
  have HB2 : Hid (rb < n) := hid (HN.out ▸ h.lt.2.1)
  have HOW : Hid (∀ k, v.ownBlock = some k → k < n) := hid (HN.out ▸ h.own)
  have HG := hid (G2.of_below (b := b) (c := rb) HBL.out)
  have HLEN := hid hbl
  clear h
  go_enter Try.func76, Try.ntmps76
  go_upto_region 1 with (refine al_row (by rfl) 29 (by rfl) _ zeroFrame ?_)
  try rw [HZ.out]
  generalize (w.alloc (.cells (fcells (kF 1) nS).toArray 29)).alloc (.cells (fcells zF nS).toArray 29) = w0 at HNB HBL HFD HG ⊢
  rw [HN.out] at HNB ⊢
  have HA0 := hid (show w0.heap[n]? = some (.cells (fcells (⟨1, 0, 0, 0, z32f, 0, (0, 0, 0), [], []⟩ : Fr) nS).toArray 29 (0, 0)) from HNB.out.1)
  have HM0 := hid (show w0.heap[n + 1]? = some (.cells (fcells zF nS).toArray 29 (0, 0)) from HNB.out.2)
  clear HNB HBL HZ
  go_wp2_with fail
  refine (fd_some base b rb v bs _ 1 _ (by omega) HFD.out).mono ?_
  rintro e y0 ⟨rfl, hf0, hg0⟩
  have HA := hid ((hg0.block n (hp_lt HA0.out) (by have := HB1.out; omega) (by have := HB2.out; omega)).trans HA0.out)
  have HM := hid ((hg0.block (n + 1) (hp_lt HM0.out) (by have := HB1.out; omega) (by have := HB2.out; omega)).trans HM0.out)
  have HGn := hid (HG.out.trans hg0)
  have HFn := hid hf0
  clear HFD HA0 HM0 HG hf0 hg0
  have x0 := (Fb.of HA.out rfl).v
  have z0 := row_fz HA.out 2
  go_upto_region 2 with fail
  have HA0 := hid (show (y0.setCell ⟨n, 2, none⟩ (.int .i64 ((oS bs 1 s).1 : Nat))).heap[n]? = some (.cells (fcells (⟨1, 0, (((oS bs 1 s).1 : Nat) : Int), 0, z32f, 0, (0, 0, 0), [], []⟩ : Fr) nS).toArray 29 (0, 0)) from (blk_set HA.out _).trans (congrArg (fun a => some (Obj.cells a 29 (0, 0))) (fset_ver (⟨1, 0, 0, 0, z32f, 0, (0, 0, 0), [], []⟩ : Fr) nS rfl _)))
  have HM0 := hid (show (y0.setCell ⟨n, 2, none⟩ (.int .i64 ((oS bs 1 s).1 : Nat))).heap[n + 1]? = some (.cells (fcells zF nS).toArray 29 (0, 0)) from (Below.heap_setCell y0 _ _ (n + 1) (by simp)).trans HM.out)
  have HG := hid (HGn.out.then_new (gb_set y0 ⟨n, 2, none⟩ (.int .i64 ((oS bs 1 s).1 : Nat))) (by rw [HN.out]; exact Nat.le_refl _))
  have HFD := hid (HFn.out.far (gb_set y0 ⟨n, 2, none⟩ (.int .i64 ((oS bs 1 s).1 : Nat))) HB1.out HB2.out HOW.out)
  generalize y0.setCell ⟨n, 2, none⟩ (.int .i64 ((oS bs 1 s).1 : Nat)) = w1 at HA0 HM0 HG HFD ⊢
  clear HA HM HGn HFn x0 z0
  go_wp2_with fail
  refine (fd_some base b rb v bs _ 64 _ (by omega) HFD.out).mono ?_
  rintro e y1 ⟨rfl, hf1, hg1⟩
  have HA := hid ((hg1.block n (hp_lt HA0.out) (by have := HB1.out; omega) (by have := HB2.out; omega)).trans HA0.out)
  have HM := hid ((hg1.block (n + 1) (hp_lt HM0.out) (by have := HB1.out; omega) (by have := HB2.out; omega)).trans HM0.out)
  have HGn := hid (HG.out.trans hg1)
  have HFn := hid hf1
  clear HFD HA0 HM0 HG hf1 hg1
  have x1 := (Fb.of HA.out rfl).s
  have z1 := row_fz HA.out 3
  go_upto_region 3 with fail
  have HA0 := hid (show (y1.setCell ⟨n, 3, none⟩ (.int .i64 ((oS bs 64 (oS bs 1 s).2).1 : Nat))).heap[n]? = some (.cells (fcells (⟨1, 0, (((oS bs 1 s).1 : Nat) : Int), (((oS bs 64 (oS bs 1 s).2).1 : Nat) : Int), z32f, 0, (0, 0, 0), [], []⟩ : Fr) nS).toArray 29 (0, 0)) from (blk_set HA.out _).trans (congrArg (fun a => some (Obj.cells a 29 (0, 0))) (fset_slots (⟨1, 0, (((oS bs 1 s).1 : Nat) : Int), 0, z32f, 0, (0, 0, 0), [], []⟩ : Fr) nS rfl _)))
  have HM0 := hid (show (y1.setCell ⟨n, 3, none⟩ (.int .i64 ((oS bs 64 (oS bs 1 s).2).1 : Nat))).heap[n + 1]? = some (.cells (fcells zF nS).toArray 29 (0, 0)) from (Below.heap_setCell y1 _ _ (n + 1) (by simp)).trans HM.out)
  have HG := hid (HGn.out.then_new (gb_set y1 ⟨n, 3, none⟩ (.int .i64 ((oS bs 64 (oS bs 1 s).2).1 : Nat))) (by rw [HN.out]; exact Nat.le_refl _))
  have HFD := hid (HFn.out.far (gb_set y1 ⟨n, 3, none⟩ (.int .i64 ((oS bs 64 (oS bs 1 s).2).1 : Nat))) HB1.out HB2.out HOW.out)
  generalize y1.setCell ⟨n, 3, none⟩ (.int .i64 ((oS bs 64 (oS bs 1 s).2).1 : Nat)) = w2 at HA0 HM0 HG HFD ⊢
  clear HA HM HGn HFn x1 z1
  have HP := hid HFD.out.ptr
  refine wp_noPanic (wp_region_held_drew (S := fun W => W.cell? ⟨b, 0, none⟩ = some (.pointer (some ⟨rb, 0, none⟩))) (by kernel_rfl) HP.out ?_)
  intro hHeld
  refine wpAnyH_take (i := 0) (v := .pointer (some ⟨n, 4, none⟩)) rfl (by kernel_rfl) (by kernel_rfl) (by kernel_rfl) (fun _ _ _ h => h) (Or.inl ⟨by rfl, fun W _ => by go_simp⟩) hHeld ?_
  simp only [Act.put, List.getElem_toArray, List.getElem_cons_zero, List.setIfInBounds_toArray, List.set_cons_succ, List.set_cons_zero]
  refine wpAnyH_take (i := 1) (v := .slice (some ⟨n, 4, none⟩) 32 32) rfl (by kernel_rfl) (by kernel_rfl) (by kernel_rfl) (fun _ _ _ h => h) (Or.inl ⟨by rfl, fun W _ => by go_simp⟩) hHeld ?_
  simp only [Act.put, List.getElem_toArray, List.getElem_cons_zero, List.getElem_cons_succ, List.setIfInBounds_toArray, List.set_cons_succ, List.set_cons_zero]
  refine wpAnyH_take (i := 2) (v := .pointer (some ⟨b, 0, none⟩)) rfl (by kernel_rfl) (by kernel_rfl) (by kernel_rfl) (fun _ _ _ h => h) (Or.inl ⟨by rfl, fun W _ => by go_simp⟩) hHeld ?_
  simp only [Act.put, List.getElem_toArray, List.getElem_cons_zero, List.getElem_cons_succ, List.setIfInBounds_toArray, List.set_cons_succ, List.set_cons_zero]
  refine wpAnyH_take (i := 3) (v := .pointer (some ⟨b, 0, none⟩)) rfl (by kernel_rfl) (by kernel_rfl) (by kernel_rfl) (fun _ _ _ h => h) (Or.inl ⟨by rfl, fun W _ => by go_simp⟩) hHeld ?_
  simp only [Act.put, List.getElem_toArray, List.getElem_cons_zero, List.getElem_cons_succ, List.setIfInBounds_toArray, List.set_cons_succ, List.set_cons_zero]
  refine wpAnyH_take (i := 4) (v := .pointer (some ⟨b, 0, none⟩)) rfl (by kernel_rfl) (by kernel_rfl) (by kernel_rfl) (fun _ _ _ h => h) (Or.inl ⟨by rfl, fun W _ => by go_simp⟩) hHeld ?_
  simp only [Act.put, List.getElem_toArray, List.getElem_cons_zero, List.getElem_cons_succ, List.setIfInBounds_toArray, List.set_cons_succ, List.set_cons_zero]
  refine wpAnyH_take (i := 5) (v := .pointer (some ⟨rb, 0, none⟩)) rfl (by kernel_rfl) (by kernel_rfl) (by kernel_rfl) (fun _ _ _ h => h) (Or.inl ⟨by rfl, fun W hW => by have hcell := hW; clear hW; go_simp⟩) hHeld ?_
  simp only [Act.put, List.getElem_toArray, List.getElem_cons_zero, List.getElem_cons_succ, List.setIfInBounds_toArray, List.set_cons_succ, List.set_cons_zero]
  have HFx := hid (show Fd w2.drew base b rb v bs (oS bs 64 (oS bs 1 s).2).2 from HFD.out.below ⟨rfl, rfl, rfl, Nat.le_refl _, fun _ _ => rfl⟩)
  have HAx := hid (show w2.drew.heap[n]? = some (.cells (fcells (⟨1, 0, (((oS bs 1 s).1 : Nat) : Int), (((oS bs 64 (oS bs 1 s).2).1 : Nat) : Int), z32f, 0, (0, 0, 0), [], []⟩ : Fr) nS).toArray 29 (0, 0)) from HA0.out)
  have HMx := hid (show w2.drew.heap[n + 1]? = some (.cells (fcells zF nS).toArray 29 (0, 0)) from HM0.out)
  have HGx := hid (show G2 w w2.drew b rb from HG.out.trans (G2.of_below ⟨rfl, rfl, rfl, Nat.le_refl _, fun _ _ => rfl⟩))
  obtain ⟨wx, HWX⟩ : ∃ x, Hid (w2.drew = x) := ⟨_, rfl⟩
  rw [HWX.out] at hHeld HFx HAx HMx HGx ⊢
  refine wpAnyH_ready (rs := [6]) (by kernel_rfl) (by simp) ?_
  refine AllReadyH.cons rfl (fun K9 hK9 => ?_) AllReadyH.nil
  go_simp
  refine (fd_raw 32 (by omega) (by omega) HFx.out).mono ?_
  rintro e y ⟨vr, rfl, hor, hfr, hgr⟩
  have HA := hid ((hgr.block n (hp_lt HAx.out) (fun e => by injection e with e; have := HB2.out; omega)).trans HAx.out)
  have HM := hid ((hgr.block (n + 1) (hp_lt HMx.out) (fun e => by injection e with e; have := HB2.out; omega)).trans HMx.out)
  have HGn := hid (HGx.out.trans (G2.of_second hgr))
  have HFn := hid hfr
  have HLR := hid (rS_len bs (oS bs 64 (oS bs 1 s).2).2)
  have HSR := hid (hor.src (by have := HLR.out; omega))
  obtain ⟨ar, cr, er⟩ := src_shape HSR.out
  obtain ⟨RL, HRL⟩ : ∃ l, Hid ((rS bs 32 (oS bs 64 (oS bs 1 s).2).2).1 = l) := ⟨_, rfl⟩
  rw [HRL.out] at er HLR HSR
  subst er
  have hq := hfr.ptr
  clear hor hfr hgr HFD HA0 HM0 HG HFx HAx HMx HGx HP
  go_wp2_with fail
  refine hK9.out _ _ hq (fun hHeld => ?_)
  clear hK9 K9
  try simp only [Act.put, List.getElem_toArray, List.getElem_cons_zero, List.getElem_cons_succ, List.setIfInBounds_toArray, List.set_cons_succ, List.set_cons_zero]
  refine wpAnyH_ready (rs := [7]) (by kernel_rfl) (by simp) ?_
  refine AllReadyH.cons rfl (fun K9 hK9 => ?_) AllReadyH.nil
  refine step_copy_g (by rfl) (.tmp 12) (.tmp 17) 30 30 (by rfl) 5 Try.underlying30 (by kernel_rfl) (some ⟨n, 4, none⟩) ar 32 32 RL.length cr (by rfl) (by rfl) n 4 _ 29 HA.out (bytesV RL) (by rw [bytesV_length]; have := HLR.out; simp only [Nat.min_def]; split <;> omega) (fun h9 => ⟨rfl, src_addr HSR.out (by rw [bytesV_length] at h9; exact h9)⟩) (by rw [bytesV_length, fcells_length _ _ rfl]; have := HLR.out; omega) (bytesV_one RL) ?_
  intro wz0 hz0 hgz
  have HA0 := hid (show wz0.heap[n]? = some (.cells (fcells (⟨1, 0, (((oS bs 1 s).1 : Nat) : Int), (((oS bs 64 (oS bs 1 s).2).1 : Nat) : Int), (pad32 RL), 0, (0, 0, 0), [], []⟩ : Fr) nS).toArray 29 (0, 0)) from hz0.trans (by rw [fsplice (⟨1, 0, (((oS bs 1 s).1 : Nat) : Int), (((oS bs 64 (oS bs 1 s).2).1 : Nat) : Int), z32f, 0, (0, 0, 0), [], []⟩ : Fr) nS rfl RL HLR.out]; rfl))
  have HM0 := hid ((hgz.block (n + 1) (hp_lt HM.out) (fun e => by injection e with e; omega)).trans HM.out)
  have HG := hid (HGn.out.then_new hgz (by rw [HN.out]; exact Nat.le_refl _))
  have HFD := hid (HFn.out.far hgz HB1.out HB2.out HOW.out)
  have hq2 := HFD.out.ptr
  clear hz0 hgz HA HM HGn HFn
  refine hK9.out _ _ hq2 (fun hHeld => ?_)
  clear hK9 K9
  try simp only [Act.put, List.getElem_toArray, List.getElem_cons_zero, List.getElem_cons_succ, List.setIfInBounds_toArray, List.set_cons_succ, List.set_cons_zero]
  refine wpAnyH_done (by kernel_rfl) ?_ _
  simp only [noPanic]
  clear hHeld
  rw [← HRL.out] at HA0
  obtain ⟨FF, HFF⟩ : ∃ L, Hid (fcells (⟨1, 0, (((oS bs 1 s).1 : Nat) : Int), (((oS bs 64 (oS bs 1 s).2).1 : Nat) : Int), (pad32 (rS bs 32 (oS bs 64 (oS bs 1 s).2).2).1), 0, (0, 0, 0), [], []⟩ : Fr) nS = L) := ⟨_, rfl⟩
  have HSZ := hid (frame_size (⟨1, 0, (((oS bs 1 s).1 : Nat) : Int), (((oS bs 64 (oS bs 1 s).2).1 : Nat) : Int), (pad32 (rS bs 32 (oS bs 64 (oS bs 1 s).2).2).1), 0, (0, 0, 0), [], []⟩ : Fr) nS (pad32_length _))
  have HON := hid (fcells_one (⟨1, 0, (((oS bs 1 s).1 : Nat) : Int), (((oS bs 64 (oS bs 1 s).2).1 : Nat) : Int), (pad32 (rS bs 32 (oS bs 64 (oS bs 1 s).2).2).1), 0, (0, 0, 0), [], []⟩ : Fr) nS rfl)
  have HOS := hid (show (fcells zF nS).toArray.size = (fcells (⟨1, 0, (((oS bs 1 s).1 : Nat) : Int), (((oS bs 64 (oS bs 1 s).2).1 : Nat) : Int), (pad32 (rS bs 32 (oS bs 64 (oS bs 1 s).2).2).1), 0, (0, 0, 0), [], []⟩ : Fr) nS).length by rw [fcells_length _ _ (pad32_length _)]; rfl)
  rw [HFF.out] at HA0 HSZ HON HOS
  go_wp2_with (first
    | (refine ld_row (by rfl) 29 (.tmp 3) (by rfl) n (by rfl) FF 29 HA0.out _ Try.underlying29 rfl HSZ.out ?_)
    | (refine st_row (by rfl) 29 _ _ (by rfl) (n + 1) FF (by rfl) (by rfl) 29 _ HM0.out HSZ.out HOS.out HON.out ?_; intro wz hwz))
  refine ret_row 4 29 rfl (n + 1) rfl FF 29 hwz.blk _ Try.underlying29 rfl HSZ.out rfl ⟨nS, by rw [← HFF.out, fieldsP_1], ?_, ?_, HG.out.then_new hwz.grown (by rw [HN.out]; omega)⟩
  · rw [fieldsP_1]
    exact World.ownsRow_nil _ _ _ _
  · rw [fieldsP_1]
    exact HFD.out.far hwz.grown (by have := HB1.out; omega) (by have := HB2.out; omega) (fun k hk => by have := HOW.out k hk; omega)

end Go.Proofs.Ytjinkahlfigdcaa
