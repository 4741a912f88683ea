/- Short numbers read: the plain mathematics. Nothing here speaks of the program. -/
import Derived.Test.YtggmgbdofjhkdaaSn
namespace Go.Proofs.Ytggmgbdofjhkdaa

/-- the number that stands there, behind i bytes that made acc: the error (0: none), the number, how many bytes it has -/
def dec : List UInt8 → Nat → Nat → Nat × Nat × Nat
  | [], _, _ => (4, 0, 0)
  | c :: r, i, acc => if i = 9 ∧ 1 < c.toNat then (10, 0, 0) else if 0 < i ∧ c.toNat = 0 then (5, 0, 0) else if c.toNat < 128 then (0, acc + c.toNat * 128 ^ i, i + 1) else dec r (i + 1) (acc + (c.toNat - 128) * 128 ^ i)

theorem dec_cons (c : UInt8) (r : List UInt8) (i acc : Nat) : dec (c :: r) i acc = if i = 9 ∧ 1 < c.toNat then (10, 0, 0) else if 0 < i ∧ c.toNat = 0 then (5, 0, 0) else if c.toNat < 128 then (0, acc + c.toNat * 128 ^ i, i + 1) else dec r (i + 1) (acc + (c.toNat - 128) * 128 ^ i) := rfl

theorem pow_mono {i : Nat} (h : i ≤ 9) : 128 ^ i ≤ 9223372036854775808 := by
  have : (128 : Nat) ^ i ≤ 128 ^ 9 := Nat.pow_le_pow_right (by decide) h
  omega
theorem pow_step {i : Nat} (h : i < 9) : 128 ^ i ≤ 72057594037927936 := by
  have : (128 : Nat) ^ i ≤ 128 ^ 8 := Nat.pow_le_pow_right (by decide) (by omega)
  omega

theorem dec_err : ∀ (l : List UInt8) (i acc : Nat), (dec l i acc).1 ≠ 0 → (dec l i acc).2 = (0, 0)
  | [], _, _, _ => rfl
  | c :: r, i, acc, h => by
    rw [dec_cons] at h ⊢
    split
    · rfl
    · split
      · rfl
      · split
        · rename_i h1 h2 h3
          rw [if_neg h1, if_neg h2, if_pos h3] at h
          exact absurd rfl h
        · rename_i h1 h2 h3
          rw [if_neg h1, if_neg h2, if_neg h3] at h
          exact dec_err r (i + 1) _ h

theorem dec_cases : ∀ (l : List UInt8) (i acc : Nat), (dec l i acc).1 = 0 ∨ (dec l i acc).1 = 4 ∨ (dec l i acc).1 = 5 ∨ (dec l i acc).1 = 10
  | [], _, _ => Or.inr (Or.inl rfl)
  | c :: r, i, acc => by
    rw [dec_cons]
    split
    · exact Or.inr (Or.inr (Or.inr rfl))
    · split
      · exact Or.inr (Or.inr (Or.inl rfl))
      · split
        · exact Or.inl rfl
        · exact dec_cases r (i + 1) _

/-- what is read is below 2^64, has that many bytes, and they are its own -/
theorem dec_sound : ∀ (l : List UInt8) (i acc n k : Nat), i ≤ 9 → acc < 128 ^ i → dec l i acc = (0, n, k) →
    i < k ∧ k ≤ i + l.length ∧ n < 18446744073709551616 ∧ ∃ m, n = acc + m * 128 ^ i ∧ l.take (k - i) = sn m ∧ (0 < i → 0 < m) ∧ m < 18446744073709551616
  | [], i, acc, n, k, _, _, h => by simp [dec] at h
  | c :: r, i, acc, n, k, hi, ha, h => by
    rw [dec_cons] at h
    have hc := UInt8.toNat_lt c
    have hp := pow_mono hi
    split at h
    · simp at h
    · rename_i h1
      split at h
      · simp at h
      · rename_i h2
        split at h
        · rename_i h3
          simp only [Prod.mk.injEq, true_and] at h
          obtain ⟨rfl, rfl⟩ := h
          refine ⟨by omega, by simp, ?_, c.toNat, rfl, ?_, by omega, by omega⟩
          · rcases Nat.lt_or_ge i 9 with h9 | h9
            · have := pow_step h9
              have h4 : c.toNat * 128 ^ i ≤ 127 * 72057594037927936 := Nat.mul_le_mul (by omega) this
              omega
            · obtain rfl : i = 9 := by omega
              have h5 : c.toNat ≤ 1 := by omega
              have h4 : c.toNat * 128 ^ 9 ≤ 1 * 128 ^ 9 := Nat.mul_le_mul_right _ h5
              omega
          · rw [sn_lt h3]
            have : i + 1 - i = 1 := by omega
            rw [this]
            simp
        · rename_i h3
          have hi9 : i < 9 := by
            rcases Nat.lt_or_ge i 9 with h9 | h9
            · exact h9
            · exact absurd ⟨by omega, by omega⟩ h1
          have hps : 128 ^ (i + 1) = 128 ^ i * 128 := Nat.pow_succ _ _
          have hacc : acc + (c.toNat - 128) * 128 ^ i < 128 ^ (i + 1) := by
            have : (c.toNat - 128) * 128 ^ i ≤ 127 * 128 ^ i := Nat.mul_le_mul_right _ (by omega)
            rw [hps]; omega
          obtain ⟨h4, h5, h6, m, h7, h8, h9, h10⟩ := dec_sound r (i + 1) _ n k (by omega) hacc h
          refine ⟨by omega, by simp; omega, h6, m * 128 + (c.toNat - 128), ?_, ?_, by have := h9 (by omega); omega, ?_⟩
          · rw [h7, hps, Nat.add_mul, Nat.mul_assoc m 128, Nat.mul_comm 128]; omega
          · have hm := h9 (by omega)
            have hlt : m * 128 + (c.toNat - 128) < 18446744073709551616 := by
              have hpp : 1 ≤ 128 ^ i := Nat.pow_pos (by decide)
              have : m * 128 * 1 ≤ m * 128 * 128 ^ i := Nat.mul_le_mul_left _ hpp
              have h11 : (c.toNat - 128) * 1 ≤ (c.toNat - 128) * 128 ^ i := Nat.mul_le_mul_left _ hpp
              rw [h7, hps] at h6
              have : m * (128 ^ i * 128) = m * 128 * 128 ^ i := by rw [Nat.mul_comm (128 ^ i), Nat.mul_assoc]
              omega
            rw [sn_ge (by omega) hlt]
            have e1 : (m * 128 + (c.toNat - 128)) % 128 + 128 = c.toNat := by omega
            have e2 : (m * 128 + (c.toNat - 128)) / 128 = m := by omega
            have e3 : k - i = (k - (i + 1)) + 1 := by omega
            rw [e1, e2, e3, List.take_succ_cons, h8]
            simp
          · have hpp : 1 ≤ 128 ^ i := Nat.pow_pos (by decide)
            have : m * 128 * 1 ≤ m * 128 * 128 ^ i := Nat.mul_le_mul_left _ hpp
            have h11 : (c.toNat - 128) * 1 ≤ (c.toNat - 128) * 128 ^ i := Nat.mul_le_mul_left _ hpp
            rw [h7, hps] at h6
            have : m * (128 ^ i * 128) = m * 128 * 128 ^ i := by rw [Nat.mul_comm (128 ^ i), Nat.mul_assoc]
            omega

/-- what was laid down is read back, with whatever behind it -/
theorem dec_snF : ∀ (f m i acc : Nat) (r : List UInt8), 0 < f → m < 128 ^ f → i ≤ 9 → m * 128 ^ i < 18446744073709551616 → (0 < i → 0 < m) → dec (snF f m ++ r) i acc = (0, acc + m * 128 ^ i, i + (snF f m).length)
  | 0, _, _, _, _, h, _, _, _, _ => absurd h (Nat.lt_irrefl _)
  | f + 1, m, i, acc, r, _, hm, hi, hlt, hpos => by
    rw [snF_succ]
    by_cases h : m < 128
    · rw [if_pos h]
      have e : (m.toUInt8).toNat = m := by simp; omega
      have h1 : ¬ (i = 9 ∧ 1 < (m.toUInt8).toNat) := by
        rw [e]
        rintro ⟨rfl, h2⟩
        have : 2 * 128 ^ 9 ≤ m * 128 ^ 9 := Nat.mul_le_mul_right _ h2
        omega
      have h2 : ¬ (0 < i ∧ (m.toUInt8).toNat = 0) := by
        rw [e]
        rintro ⟨h3, h4⟩
        have := hpos h3
        omega
      show dec (m.toUInt8 :: r) i acc = _
      rw [dec_cons, if_neg h1, if_neg h2, if_pos (by rw [e]; exact h), e]
      rfl
    · rw [if_neg h]
      have e : ((m % 128 + 128).toUInt8).toNat = m % 128 + 128 := by simp; omega
      have hi9 : i < 9 := by
        rcases Nat.lt_or_ge i 9 with h9 | h9
        · exact h9
        · obtain rfl : i = 9 := by omega
          have : 128 * 128 ^ 9 ≤ m * 128 ^ 9 := Nat.mul_le_mul_right _ (by omega)
          omega
      have hd : m / 128 < 128 ^ f := by
        rw [Nat.pow_succ] at hm
        exact Nat.div_lt_of_lt_mul (by rw [Nat.mul_comm]; exact hm)
      have hf : 0 < f := by
        rcases Nat.eq_zero_or_pos f with rfl | h'
        · simp at hd; omega
        · exact h'
      have hps : 128 ^ (i + 1) = 128 ^ i * 128 := Nat.pow_succ _ _
      have hmul : m / 128 * 128 ^ (i + 1) + m % 128 * 128 ^ i = m * 128 ^ i := by
        rw [hps, ← Nat.mul_assoc, Nat.mul_right_comm, ← Nat.add_mul, Nat.div_add_mod']
      show dec ((m % 128 + 128).toUInt8 :: (snF f (m / 128) ++ r)) i acc = _
      rw [dec_cons, if_neg (by omega), if_neg (by omega), if_neg (by omega), e, dec_snF f (m / 128) (i + 1) _ r hf hd (by omega) (by omega) (by omega)]
      simp only [List.length_cons, Prod.mk.injEq, true_and]
      constructor
      · have : m % 128 + 128 - 128 = m % 128 := by omega
        rw [this]; omega
      · omega
theorem dec_sn (n : Nat) (r : List UInt8) (hn : n < 18446744073709551616) : dec (sn n ++ r) 0 0 = (0, n, (sn n).length) := by
  have := dec_snF 10 n 0 0 r (by omega) (by omega) (by omega) (by omega) (by omega)
  unfold sn
  simpa using this

/-- a beginning: the same, or bytes are missing -/
theorem dec_begin : ∀ (l : List UInt8) (j i acc : Nat), dec (l.take j) i acc = dec l i acc ∨ dec (l.take j) i acc = (4, 0, 0)
  | [], _, _, _ => by simp
  | c :: r, 0, i, acc => Or.inr rfl
  | c :: r, j + 1, i, acc => by
    rw [List.take_succ_cons, dec_cons, dec_cons]
    split
    · exact Or.inl rfl
    · split
      · exact Or.inl rfl
      · split
        · exact Or.inl rfl
        · exact dec_begin r j _ _

theorem dec_ok {l : List UInt8} {n k : Nat} (h : dec l 0 0 = (0, n, k)) : 0 < k ∧ k ≤ l.length ∧ n < 18446744073709551616 ∧ l.take k = sn n := by
  obtain ⟨h1, h2, h3, m, h4, h5, _, _⟩ := dec_sound l 0 0 n k (by omega) (by simp) h
  have e : n = m := by simpa using h4
  subst e
  exact ⟨h1, by omega, h3, by simpa using h5⟩
theorem dec_ok_len {l : List UInt8} {n k : Nat} (h : dec l 0 0 = (0, n, k)) : k = (sn n).length := by
  obtain ⟨_, h2, _, h4⟩ := dec_ok h
  rw [← h4]; simp; omega
theorem dec_le (l : List UInt8) {e n k : Nat} (h : dec l 0 0 = (e, n, k)) : k ≤ l.length ∧ n < 18446744073709551616 ∧ e < 16 ∧ (e ≠ 0 → n = 0 ∧ k = 0) := by
  by_cases he : e = 0
  · subst he
    obtain ⟨_, h2, h3, _⟩ := dec_ok h
    exact ⟨h2, h3, by omega, fun h' => absurd rfl h'⟩
  · have h1 := dec_err l 0 0 (by rw [h]; exact he)
    rw [h] at h1
    simp at h1
    refine ⟨by omega, by omega, ?_, fun _ => h1⟩
    have := dec_cases l 0 0
    rw [h] at this
    simp at this
    omega

end Go.Proofs.Ytggmgbdofjhkdaa
