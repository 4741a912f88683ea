/- shift and byteOn. -/
import Derived.Test.YtljppkpieoejlabCBase
namespace Go.Proofs.Ytljppkpieoejlab
open Go.RowKit

theorem and_one (c : Nat) (hc : c < 4294967296) : bits .and .u32 (c : Int) 1 = ((c % 2 : Nat) : Int) := by
  have := u32_and_nat c 1 hc (by omega)
  rw [Nat.and_one_is_mod] at this
  exact this
theorem half (c : Nat) : (c : Int) / 2 ^ 1 = ((c / 2 : Nat) : Int) := by omega
theorem xor_poly (c : Nat) (hc : c < 4294967296) : bits .xor .u32 (c : Int) 2197175160 = ((c ^^^ 2197175160 : Nat) : Int) := u32_xor_nat c 2197175160 hc (by omega)
theorem sh_odd {c : Nat} (h : c % 2 = 1) : sh c = (c / 2) ^^^ 2197175160 := by unfold sh; rw [if_pos h]
theorem sh_even {c : Nat} (h : c % 2 = 0) : sh c = c / 2 := by unfold sh; rw [if_neg (by omega)]

set_option maxHeartbeats 400000 in
theorem shift_any (c : Nat) (hc : c < 4294967296) (w : World) :
    Calls Try.prog 20 #[.int .u32 (c : Int)] w fun e w' => e = .returned (.int .u32 (sh c : Nat)) ∧ w' = w := by
  have ha := and_one c hc
  have hx := hid (xor_poly (c / 2) (by omega))
  rcases Nat.mod_two_eq_zero_or_one c with h | h
  · have HS := hid (sh_even h)
    rw [h] at ha
    clear h
    go_enter Try.func20, Try.ntmps20
    go_wp2
    go_ret
    exact ⟨by rw [HS.out]; rfl, rfl⟩
  · have HS := hid (sh_odd h)
    rw [h] at ha
    clear h
    go_enter Try.func20, Try.ntmps20
    go_wp2
    go_ret
    refine ⟨?_, rfl⟩
    rw [HS.out, ← hx.out]
    rfl

set_option maxHeartbeats 1000000 in
theorem byteOn_any (c b : Nat) (hc : c < 4294967296) (hb : b < 256) (w : World) :
    Calls Try.prog 18 #[.int .u32 (c : Int), .int .u8 (b : Int)] w fun e w' => e = .returned (.int .u32 (shN 8 (c ^^^ b) : Nat)) ∧ w' = w := by
  have HC := hid (u32_xor_nat c b hc (by omega))
  have HL := hid (xlt hc (show b < 4294967296 by omega))
  go_enter Try.func18, Try.ntmps18
  go_wp2
  go_loop [0, 5] (fun vc vi => ∃ k : Nat, k ≤ 8 ∧ vc = .int .u32 (shN k (c ^^^ b) : Nat) ∧ vi = .int .i64 k) (fun _ vi => 8 - (intOf vi).toNat)
  case atStart => exact ⟨0, by omega, by rw [show shN 0 (c ^^^ b) = c ^^^ b from rfl, ← HC.out], rfl⟩
  case round =>
    obtain ⟨k, hk, rfl, rfl⟩ := hrel
    have HN := hid (show shN (k + 1) (c ^^^ b) = sh (shN k (c ^^^ b)) from rfl)
    have HQ := hid (shN_lt HL.out k)
    by_cases hlt : k < 8
    · have hb1 := and_one (shN k (c ^^^ b)) HQ.out
      have HXP := hid (xor_poly (shN k (c ^^^ b) / 2) (by have := HQ.out; omega))
      rcases Nat.mod_two_eq_zero_or_one (shN k (c ^^^ b)) with h | h
      all_goals
        rw [h] at hb1
        first | (have HE := hid (sh_even h)) | (have HE := hid (sh_odd h))
        clear h
        go_wp2
        refine ⟨⟨k + 1, hlt, ?_, by simp⟩, by simp [intOf]; omega⟩
        rw [HN.out, HE.out]
        first | rfl | (rw [← HXP.out]; rfl)
    · obtain rfl : k = 8 := by omega
      go_wp2
      go_ret
      exact ⟨rfl, rfl⟩

end Go.Proofs.Ytljppkpieoejlab
