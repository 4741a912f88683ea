/- moved, Join, Turned: the program's and the document's. -/
import Derived.Test.YtljppkpieoejlaaCFn
namespace Go.Proofs.Ytljppkpieoejlaa
open Go.RowKit

theorem i64_and1 (n : Int) : bits .and .i64 n 1 = n % 2 := by
  have h1 : (BitVec.ofInt 64 1).toNat = 2 ^ 1 - 1 := by decide
  have key : (BitVec.ofInt 64 n &&& BitVec.ofInt 64 1).toNat = (n % ((2 ^ 64 : Nat) : Int)).toNat % 2 ^ 1 := by
    rw [BitVec.toNat_and, BitVec.toNat_ofInt, h1, Nat.and_two_pow_sub_one_eq_mod]
  show IntKind.i64.wrap ((BitVec.ofInt 64 n &&& BitVec.ofInt 64 1).toNat : Nat) = n % 2
  rw [key, IntKind.wrap_i64]
  omega
theorem one8 : shN 8 2147483648 = 8388608 := by decide +kernel
theorem mov_odd {E m c c0 N : Nat} (hc : c < 4294967296) (h : shN (E * (2 * m + 1)) c = shN (8 * N) c0) : shN ((E + E) * m) (tm c (shN E 2147483648)) = shN (8 * N) c0 := by
  rw [tm_pow c hc, ← shN_add, ← h]
  congr 1
  rw [Nat.mul_add, Nat.add_mul, Nat.mul_one, Nat.mul_left_comm]
  omega
theorem mov_even {E m c c0 N : Nat} (h : shN (E * (2 * m)) c = shN (8 * N) c0) : shN ((E + E) * m) c = shN (8 * N) c0 := by
  rw [← h]
  congr 1
  rw [Nat.add_mul, Nat.mul_left_comm]
  omega
theorem mov_end {E c c0 N : Nat} (h : shN (E * 0) c = shN (8 * N) c0) : c = shN (8 * N) c0 := by
  rw [Nat.mul_zero] at h
  rw [← h]
  rfl
theorem mov_step (E : Nat) : tm (shN E 2147483648) (shN E 2147483648) = shN (E + E) 2147483648 := by
  rw [tm_pow _ (shN_lt (by omega) E), ← shN_add]

set_option maxHeartbeats 1000000 in
theorem moved_any (c N : Nat) (hc : c < 4294967296) (hN : N < 9223372036854775808) (w : World) :
    Calls Try.prog 21 #[.int .u32 (c : Int), .int .i64 (N : Int)] w fun e w' => e = .returned (.int .u32 (shN (8 * N) c : Nat)) ∧ w' = w := by
  go_enter Try.func21, Try.ntmps21
  go_wp2
  go_loop [0, 1, 5] (fun vc vn vs => ∃ E n c' : Nat, n < 9223372036854775808 ∧ c' < 4294967296 ∧ vc = .int .u32 (c' : Nat) ∧ vn = .int .i64 n ∧ vs = .int .u32 (shN E 2147483648 : Nat) ∧ Hid (shN (E * n) c' = shN (8 * N) c)) (fun _ vn _ => (intOf vn).toNat)
  case atStart => exact ⟨8, N, c, hN, hc, rfl, rfl, by rw [one8]; rfl, rfl⟩
  case round =>
    obtain ⟨E, n, c', hn, hc', rfl, rfl, rfl, HI⟩ := hrel
    have HS := hid (mov_step E)
    have HL := hid (shN_lt (show 2147483648 < 4294967296 by omega) E)
    have HC := hid hc'
    clear hN hc hc'
    by_cases hpos : 0 < n
    · have hand := i64_and1 n
      obtain ⟨m, hm⟩ : ∃ m, n = 2 * m ∨ n = 2 * m + 1 := ⟨n / 2, by omega⟩
      rcases hm with hm | hm
      · have HI2 := hid (mov_even (E := E) (m := m) (c := c') (c0 := c) (N := N) (by rw [← hm]; exact HI.out))
        rw [show ((n : Int) % 2) = 0 by omega] at hand
        have HM := hid hm
        clear hm
        go_wp2_with (go_at_call 24; refine (times_any _ _ HL.out HL.out _).mono ?_; rintro e w' ⟨rfl, rfl⟩)
        refine ⟨⟨E + E, m, c', by have := HM.out; omega, HC.out, rfl, ?_, ?_, HI2⟩, ?_⟩
        · exact congrArg (Value.int .i64) (by have := HM.out; omega)
        · rw [HS.out]
        · simp only [intOf]; omega
      · have HI2 := hid (mov_odd (E := E) (m := m) (c := c') (c0 := c) (N := N) HC.out (by rw [← hm]; exact HI.out))
        rw [show ((n : Int) % 2) = 1 by omega] at hand
        have HM := hid hm
        clear hm
        go_wp2_with fail
        refine (times_any c' _ HC.out HL.out _).mono ?_
        rintro e w' ⟨rfl, rfl⟩
        go_wp2_with fail
        refine (times_any _ _ HL.out HL.out _).mono ?_
        rintro e w' ⟨rfl, rfl⟩
        go_wp2
        refine ⟨⟨E + E, m, _, by have := HM.out; omega, tm_lt HL.out, rfl, ?_, ?_, HI2⟩, ?_⟩
        · exact congrArg (Value.int .i64) (by have := HM.out; omega)
        · rw [HS.out]
        · simp only [intOf]; omega
    · have HI2 := hid (mov_end (E := E) (c := c') (c0 := c) (N := N) (by rw [← show n = 0 by omega]; exact HI.out))
      have hz : ¬ (0 : Int) < (n : Int) := by omega
      clear HI hpos
      go_wp2
      go_ret
      exact ⟨by rw [HI2.out]; rfl, rfl⟩

set_option maxHeartbeats 1000000 in
theorem rmoved_any (c N : Nat) (hc : c < 4294967296) (hN : N < 9223372036854775808) (w : World) :
    Calls Try.prog 22 #[.int .u32 (c : Int), .int .i64 (N : Int)] w fun e w' => e = .returned (.int .u32 (shN (8 * N) c : Nat)) ∧ w' = w := by
  go_enter Try.func22, Try.ntmps22
  go_wp2
  go_loop [0, 1, 5] (fun vc vn vs => ∃ E n c' : Nat, n < 9223372036854775808 ∧ c' < 4294967296 ∧ vc = .int .u32 (c' : Nat) ∧ vn = .int .i64 n ∧ vs = .int .u32 (shN E 2147483648 : Nat) ∧ Hid (shN (E * n) c' = shN (8 * N) c)) (fun _ vn _ => (intOf vn).toNat)
  case atStart => exact ⟨8, N, c, hN, hc, rfl, rfl, by rw [one8]; rfl, rfl⟩
  case round =>
    obtain ⟨E, n, c', hn, hc', rfl, rfl, rfl, HI⟩ := hrel
    have HS := hid (mov_step E)
    have HL := hid (shN_lt (show 2147483648 < 4294967296 by omega) E)
    have HC := hid hc'
    clear hN hc hc'
    by_cases hpos : 0 < n
    · obtain ⟨m, hm⟩ : ∃ m, n = 2 * m ∨ n = 2 * m + 1 := ⟨n / 2, by omega⟩
      rcases hm with hm | hm
      · have HI2 := hid (mov_even (E := E) (m := m) (c := c') (c0 := c) (N := N) (by rw [← hm]; exact HI.out))
        have hand : ((n : Int) % 2 == 1) = false := by simp; omega
        have hand2 : (n : Int) % 2 = 0 := by omega
        have HM := hid hm
        clear hm
        go_wp2_with (go_at_call 25; refine (rtimes_any _ _ HL.out HL.out _).mono ?_; rintro e w' ⟨rfl, rfl⟩)
        refine ⟨⟨E + E, m, c', by have := HM.out; omega, HC.out, rfl, ?_, ?_, HI2⟩, ?_⟩
        · exact congrArg (Value.int .i64) (by have := HM.out; omega)
        · rw [HS.out]
        · simp only [intOf]; omega
      · have HI2 := hid (mov_odd (E := E) (m := m) (c := c') (c0 := c) (N := N) HC.out (by rw [← hm]; exact HI.out))
        have hand2 : (n : Int) % 2 = 1 := by omega
        have HM := hid hm
        have HCM := hid (tm_comm c' (shN E 2147483648) HC.out HL.out)
        clear hm
        go_wp2_with fail
        refine (rtimes_any _ c' HL.out HC.out _).mono ?_
        rintro e w' ⟨rfl, rfl⟩
        go_wp2_with fail
        refine (rtimes_any _ _ HL.out HL.out _).mono ?_
        rintro e w' ⟨rfl, rfl⟩
        go_wp2
        refine ⟨⟨E + E, m, _, by have := HM.out; omega, tm_lt HL.out, by rw [HCM.out], ?_, ?_, HI2⟩, ?_⟩
        · exact congrArg (Value.int .i64) (by have := HM.out; omega)
        · rw [HS.out]
        · simp only [intOf]; omega
    · have HI2 := hid (mov_end (E := E) (c := c') (c0 := c) (N := N) (by rw [← show n = 0 by omega]; exact HI.out))
      have hz : ¬ (0 : Int) < (n : Int) := by omega
      clear HI hpos
      go_wp2
      go_ret
      exact ⟨by rw [HI2.out]; rfl, rfl⟩

/-- what Join says -/
def joinP (a b N : Nat) : Nat := shN (8 * N) a ^^^ b
set_option maxHeartbeats 1000000 in
theorem join_ok (a b N : Nat) (ha : a < 4294967296) (hb : b < 4294967296) (hN : N < 9223372036854775808) (w : World) :
    Calls Try.prog 14 #[.int .u32 (a : Int), .int .u32 (b : Int), .int .i64 (N : Int)] w fun e w' => e = .returned (.tuple #[.int .u32 (joinP a b N : Nat), .int .i64 0]) ∧ w' = w := by
  have HX := hid (u32_xor_nat (shN (8 * N) a) b (shN_lt ha _) hb)
  go_enter Try.func14, Try.ntmps14
  go_wp2_with (go_at_call 21; refine (moved_any a N ha hN _).mono ?_; rintro e w' ⟨rfl, rfl⟩)
  refine bodyPost_ret (results_tmp2 rfl _ _ _) rfl ⟨?_, rfl⟩
  unfold joinP
  rw [← HX.out]
  rfl
set_option maxHeartbeats 1000000 in
theorem join_no (a b n : Int) (hn : n < 0) (w : World) :
    Calls Try.prog 14 #[.int .u32 a, .int .u32 b, .int .i64 n] w fun e w' => e = .returned (.tuple #[.int .u32 0, .int .i64 1]) ∧ w' = w := by
  go_enter Try.func14, Try.ntmps14
  go_wp2
  exact bodyPost_ret (results_tmp2 rfl _ _ _) rfl ⟨rfl, rfl⟩
set_option maxHeartbeats 1000000 in
theorem rjoin_ok (a b N : Nat) (ha : a < 4294967296) (hb : b < 4294967296) (hN : N < 9223372036854775808) (w : World) :
    Calls Try.prog 15 #[.int .u32 (a : Int), .int .u32 (b : Int), .int .i64 (N : Int)] w fun e w' => e = .returned (.tuple #[.int .u32 (joinP a b N : Nat), .int .i64 0]) ∧ w' = w := by
  have HX := hid (u32_xor_nat (shN (8 * N) a) b (shN_lt ha _) hb)
  go_enter Try.func15, Try.ntmps15
  go_wp2_with (go_at_call 22; refine (rmoved_any a N ha hN _).mono ?_; rintro e w' ⟨rfl, rfl⟩)
  refine bodyPost_ret (results_tmp2 rfl _ _ _) rfl ⟨?_, rfl⟩
  unfold joinP
  rw [← HX.out]
  rfl
set_option maxHeartbeats 1000000 in
theorem rjoin_no (a b n : Int) (hn : n < 0) (w : World) :
    Calls Try.prog 15 #[.int .u32 a, .int .u32 b, .int .i64 n] w fun e w' => e = .returned (.tuple #[.int .u32 0, .int .i64 1]) ∧ w' = w := by
  go_enter Try.func15, Try.ntmps15
  go_wp2
  exact bodyPost_ret (results_tmp2 rfl _ _ _) rfl ⟨rfl, rfl⟩

/-- what Turned says -/
def turnP (c N a m : Nat) : Nat := c ^^^ shN (8 * (N - a)) m
theorem turnP_ref (c N a m : Nat) (h : a < N) : c ^^^ shN (8 * (N - 1 - a)) (shN 8 m) = turnP c N a m := by
  unfold turnP
  rw [← shN_add, show 8 + 8 * (N - 1 - a) = 8 * (N - a) by omega]
theorem byteOn_nil (m : Nat) (hm : m < 256) (w : World) :
    Calls Try.prog 20 #[.int .u32 0, .int .u8 (m : Int)] w fun e w' => e = .returned (.int .u32 (shN 8 m : Nat)) ∧ w' = w := by
  have := byteOn_any 0 m (by omega) hm w
  rw [Nat.zero_xor] at this
  exact this
set_option maxHeartbeats 1000000 in
theorem turned_ok (c N a m : Nat) (hc : c < 4294967296) (hm : m < 256) (hN : N < 9223372036854775808) (ha : a < N) (w : World) :
    Calls Try.prog 16 #[.int .u32 (c : Int), .int .i64 (N : Int), .int .i64 (a : Int), .int .u8 (m : Int)] w fun e w' => e = .returned (.tuple #[.int .u32 (turnP c N a m : Nat), .int .i64 0]) ∧ w' = w := by
  have HX := hid (u32_xor_nat c (shN (8 * (N - a)) m) hc (shN_lt (by omega) _))
  have hs : (N : Int) - (a : Int) = ((N - a : Nat) : Int) := by omega
  have HC := hid (moved_any m (N - a) (by omega) (by omega))
  go_enter Try.func16, Try.ntmps16
  go_wp2_with (go_at_call 21; refine (HC.out _).mono ?_; rintro e w' ⟨rfl, rfl⟩)
  refine bodyPost_ret (results_tmp2 rfl _ _ _) rfl ⟨?_, rfl⟩
  unfold turnP
  rw [← HX.out]
  rfl
set_option maxHeartbeats 1000000 in
theorem turned_arg (c n a m : Int) (hn : n < 0) (w : World) :
    Calls Try.prog 16 #[.int .u32 c, .int .i64 n, .int .i64 a, .int .u8 m] w fun e w' => e = .returned (.tuple #[.int .u32 0, .int .i64 1]) ∧ w' = w := by
  go_enter Try.func16, Try.ntmps16
  go_wp2
  exact bodyPost_ret (results_tmp2 rfl _ _ _) rfl ⟨rfl, rfl⟩
set_option maxHeartbeats 1000000 in
theorem turned_place (c n a m : Int) (hn : ¬ n < 0) (ha : a < 0 ∨ n ≤ a) (w : World) :
    Calls Try.prog 16 #[.int .u32 c, .int .i64 n, .int .i64 a, .int .u8 m] w fun e w' => e = .returned (.tuple #[.int .u32 0, .int .i64 30]) ∧ w' = w := by
  by_cases h0 : a < 0
  all_goals
    first | (have hge : n ≤ a := by omega) | skip
    clear ha
    go_enter Try.func16, Try.ntmps16
    go_wp2
    exact bodyPost_ret (results_tmp2 rfl _ _ _) rfl ⟨rfl, rfl⟩
set_option maxHeartbeats 1000000 in
theorem rturned_ok (c N a m : Nat) (hc : c < 4294967296) (hm : m < 256) (hN : N < 9223372036854775808) (ha : a < N) (w : World) :
    Calls Try.prog 17 #[.int .u32 (c : Int), .int .i64 (N : Int), .int .i64 (a : Int), .int .u8 (m : Int)] w fun e w' => e = .returned (.tuple #[.int .u32 (turnP c N a m : Nat), .int .i64 0]) ∧ w' = w := by
  have hl := shN_lt (c := m) (by omega) 8
  have HX := hid (u32_xor_nat c (shN (8 * (N - 1 - a)) (shN 8 m)) hc (shN_lt hl _))
  have HT := hid (turnP_ref c N a m ha)
  have hs : (N : Int) - 1 - (a : Int) = ((N - 1 - a : Nat) : Int) := by omega
  have HB := hid (byteOn_nil m hm)
  have HC := hid (rmoved_any (shN 8 m) (N - 1 - a) hl (by omega))
  clear hl
  go_enter Try.func17, Try.ntmps17
  go_wp2_with (go_at_call 20; refine (HB.out _).mono ?_; rintro e w' ⟨rfl, rfl⟩)
  refine (HC.out _).mono ?_
  rintro e w' ⟨rfl, rfl⟩
  go_wp2
  refine bodyPost_ret (results_tmp2 rfl _ _ _) rfl ⟨?_, rfl⟩
  rw [← HT.out, ← HX.out]
  rfl
set_option maxHeartbeats 1000000 in
theorem rturned_arg (c n a m : Int) (hn : n < 0) (w : World) :
    Calls Try.prog 17 #[.int .u32 c, .int .i64 n, .int .i64 a, .int .u8 m] w fun e w' => e = .returned (.tuple #[.int .u32 0, .int .i64 1]) ∧ w' = w := by
  go_enter Try.func17, Try.ntmps17
  go_wp2
  exact bodyPost_ret (results_tmp2 rfl _ _ _) rfl ⟨rfl, rfl⟩
set_option maxHeartbeats 1000000 in
theorem rturned_place (c n a m : Int) (hn : ¬ n < 0) (ha : a < 0 ∨ n ≤ a) (w : World) :
    Calls Try.prog 17 #[.int .u32 c, .int .i64 n, .int .i64 a, .int .u8 m] w fun e w' => e = .returned (.tuple #[.int .u32 0, .int .i64 30]) ∧ w' = w := by
  by_cases h0 : a < 0
  all_goals
    first | (have hge : n ≤ a := by omega) | skip
    clear ha
    go_enter Try.func17, Try.ntmps17
    go_wp2
    exact bodyPost_ret (results_tmp2 rfl _ _ _) rfl ⟨rfl, rfl⟩

end Go.Proofs.Ytljppkpieoejlaa
