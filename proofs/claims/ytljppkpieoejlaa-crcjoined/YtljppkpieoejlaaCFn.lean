/- times: the program's and the document's. -/
import Derived.Test.YtljppkpieoejlaaCFn0
namespace Go.Proofs.Ytljppkpieoejlaa
open Go.RowKit

theorem and_pow (a i : Nat) : a &&& 2 ^ i = if a.testBit i then 2 ^ i else 0 := by
  refine Nat.eq_of_testBit_eq fun j => ?_
  rw [Nat.testBit_and, Nat.testBit_two_pow]
  by_cases h : i = j
  · subst h
    cases a.testBit i <;> simp
  · cases a.testBit i <;> simp [h]
/-- the power of step k -/
def pw (k : Nat) : Nat := 2147483648 / 2 ^ k
theorem pw_lt (k : Nat) (h : k < 32) : pw k = 2 ^ (31 - k) := by
  unfold pw
  rw [show (2147483648 : Nat) = 2 ^ 31 from rfl, Nat.pow_div (by omega) (by omega)]
theorem pw_end : pw 32 = 0 := rfl
theorem pw_succ (k : Nat) : pw k / 2 = pw (k + 1) := by
  unfold pw
  rw [Nat.div_div_eq_div_mul, Nat.pow_succ]
theorem tmK_yes {a b k : Nat} (h : a.testBit (31 - k) = true) : tmK a b (k + 1) = tmK a b k ^^^ shN k b := by rw [tmK, if_pos h]
theorem tmK_no {a b k : Nat} (h : a.testBit (31 - k) = false) : tmK a b (k + 1) = tmK a b k := by rw [tmK, if_neg (by simp [h]), Nat.xor_zero]

set_option maxHeartbeats 1000000 in
theorem times_any (a b : Nat) (ha : a < 4294967296) (hb : b < 4294967296) (w : World) :
    Calls Try.prog 24 #[.int .u32 (a : Int), .int .u32 (b : Int)] w fun e w' => e = .returned (.int .u32 (tm a b : Nat)) ∧ w' = w := by
  go_enter Try.func24, Try.ntmps24
  go_wp2
  go_loop [1, 5, 6] (fun vb vp vw => ∃ k : Nat, k ≤ 32 ∧ vb = .int .u32 (shN k b : Nat) ∧ vp = .int .u32 (tmK a b k : Nat) ∧ vw = .int .u32 (pw k : Nat)) (fun _ _ vw => (intOf vw).toNat)
  case atStart => exact ⟨0, by omega, rfl, rfl, rfl⟩
  case round =>
    obtain ⟨k, hk, rfl, rfl, rfl⟩ := hrel
    by_cases hlt : k < 32
    · have HP := hid (pw_lt k hlt)
      have HS := hid (pw_succ k)
      have hpos : 0 < pw k := by rw [HP.out]; exact Nat.two_pow_pos _
      have hp32 : pw k < 4294967296 := by unfold pw; exact Nat.lt_of_le_of_lt (Nat.div_le_self _ _) (by omega)
      have hne : (((pw k : Nat) : Int) != 0) = true := by simp only [bne_iff_ne, ne_eq]; omega
      have HA := hid (u32_and_nat a (pw k) ha hp32)
      have HX := hid (u32_xor_nat (tmK a b k) (shN k b) (tmK_lt hb k) (shN_lt hb k))
      have HB := hid (shN_lt hb k)
      have HK := hid hlt
      clear hlt
      cases ht : a.testBit (31 - k) with
      | true =>
        have HT := hid (tmK_yes (b := b) ht)
        have hand : bits .and .u32 (a : Int) ((pw k : Nat) : Int) = ((pw k : Nat) : Int) := by rw [HA.out, HP.out, and_pow, if_pos ht]
        clear ht
        go_wp2_with (go_at_call 23; refine (shift_any _ HB.out _).mono ?_; rintro e w' ⟨rfl, rfl⟩)
        refine ⟨⟨k + 1, HK.out, rfl, ?_, ?_⟩, ?_⟩
        · rw [HT.out, ← HX.out]
        · rw [← HS.out]; rfl
        · simp only [intOf]; omega
      | false =>
        have HT := hid (tmK_no (b := b) ht)
        have hand : bits .and .u32 (a : Int) ((pw k : Nat) : Int) = 0 := by rw [HA.out, HP.out, and_pow, if_neg (by simp [ht])]; rfl
        clear ht
        go_wp2_with (go_at_call 23; refine (shift_any _ HB.out _).mono ?_; rintro e w' ⟨rfl, rfl⟩)
        refine ⟨⟨k + 1, HK.out, rfl, ?_, ?_⟩, ?_⟩
        · rw [HT.out]
        · rw [← HS.out]; rfl
        · simp only [intOf]; omega
    · obtain rfl : k = 32 := by omega
      rw [pw_end]
      go_wp2
      go_ret
      exact ⟨rfl, rfl⟩

theorem bit_at (a s : Nat) : a / 2 ^ s % 2 = if a.testBit s then 1 else 0 := by
  rw [Nat.testBit_eq_decide_div_mod_eq]
  rcases Nat.mod_two_eq_zero_or_one (a / 2 ^ s) with h | h <;> simp [h]

set_option maxHeartbeats 1000000 in
theorem rtimes_any (a b : Nat) (ha : a < 4294967296) (hb : b < 4294967296) (w : World) :
    Calls Try.prog 25 #[.int .u32 (a : Int), .int .u32 (b : Int)] w fun e w' => e = .returned (.int .u32 (tm a b : Nat)) ∧ w' = w := by
  go_enter Try.func25, Try.ntmps25
  go_wp2
  go_loop [1, 5, 6] (fun vb vp vi => ∃ k : Nat, k ≤ 32 ∧ vb = .int .u32 (shN k b : Nat) ∧ vp = .int .u32 (tmK a b k : Nat) ∧ vi = .int .i64 k) (fun _ _ vi => 32 - (intOf vi).toNat)
  case atStart => exact ⟨0, by omega, rfl, rfl, rfl⟩
  case round =>
    obtain ⟨k, hk, rfl, rfl, rfl⟩ := hrel
    by_cases hlt : k < 32
    · obtain ⟨s, HS⟩ : ∃ s, Hid (s = 31 - k) := ⟨_, rfl⟩
      have hs2 : (31 : Int) - (k : Int) = (s : Int) := by rw [HS.out]; omega
      have hs31 : s ≤ 31 := by rw [HS.out]; omega
      have HD := hid (show ((a : Int) / 2 ^ s) = ((a / 2 ^ s : Nat) : Int) by push_cast; rfl)
      have HA := hid (and_one (a / 2 ^ s) (Nat.lt_of_le_of_lt (Nat.div_le_self _ _) ha))
      have HX := hid (u32_xor_nat (tmK a b k) (shN k b) (tmK_lt hb k) (shN_lt hb k))
      have HB := hid (shN_lt hb k)
      have hb1 := and_one (shN k b) (shN_lt hb k)
      have HXP := hid (xor_poly (shN k b / 2) (by have := HB.out; omega))
      have HN := hid (show shN (k + 1) b = sh (shN k b) from rfl)
      have hcase : (∃ P, Hid (tmK a b (k + 1) = P) ∧ (bits .and .u32 ((a : Int) / 2 ^ s) 1 = 1 ∧ Hid (P = tmK a b k ^^^ shN k b) ∨ bits .and .u32 ((a : Int) / 2 ^ s) 1 = 0 ∧ Hid (P = tmK a b k))) := by
        refine ⟨_, rfl, ?_⟩
        rw [HD.out, HA.out, bit_at]
        cases ht : a.testBit (31 - k) with
        | true => refine Or.inl ⟨?_, tmK_yes ht⟩; rw [HS.out, if_pos ht]; rfl
        | false => refine Or.inr ⟨?_, tmK_no ht⟩; rw [HS.out, if_neg (by simp [ht])]; rfl
      obtain ⟨P, HP, ⟨hand, HPV⟩ | ⟨hand, HPV⟩⟩ := hcase
      all_goals
        rcases Nat.mod_two_eq_zero_or_one (shN k b) with h | h
        all_goals
          rw [h] at hb1
          first | (have HE := hid (sh_even h)) | (have HE := hid (sh_odd h))
          clear h
          go_wp2
          refine ⟨⟨k + 1, hlt, ?_, ?_, by simp⟩, by simp [intOf]; omega⟩
          · rw [HN.out, HE.out]
            first | rfl | (rw [← HXP.out]; rfl)
          · first | (rw [HP.out, HPV.out, ← HX.out]) | (rw [HP.out, HPV.out])
    · obtain rfl : k = 32 := by omega
      go_wp2
      go_ret
      exact ⟨rfl, rfl⟩

end Go.Proofs.Ytljppkpieoejlaa
