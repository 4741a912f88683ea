/- CrcTurns, CrcJoined answer true. -/
import Derived.Test.YtljppkpieoejlaaCOver
import Derived.Test.YtljppkpieoejlaaCMov
namespace Go.Proofs.Ytljppkpieoejlaa
open Go.RowKit

set_option maxRecDepth 100000 in
set_option maxHeartbeats 1000000 in
theorem lawTurns_any (w : World) (c m : Nat) (n a : Int) (hc : c < 4294967296) (hm : m < 256) (hn : n < 9223372036854775808) :
    Calls Try.prog 7 #[.agg #[.int .u32 (c : Int), .int .i64 n, .int .i64 a, .int .u8 (m : Int)]] w fun e w' => e = .returned (.bool true) ∧ Below w.heap.size w w' := by
  have HB := hid (below_walk w (.cells #[.int .u32 (c : Int), .int .i64 n, .int .i64 a, .int .u8 (m : Int)] 39))
  have hcase : ∃ (r e : Int), (∀ w, Calls Try.prog 16 #[.int .u32 (c : Int), .int .i64 n, .int .i64 a, .int .u8 (m : Int)] w fun x w' => x = .returned (.tuple #[.int .u32 r, .int .i64 e]) ∧ w' = w) ∧ (∀ w, Calls Try.prog 17 #[.int .u32 (c : Int), .int .i64 n, .int .i64 a, .int .u8 (m : Int)] w fun x w' => x = .returned (.tuple #[.int .u32 r, .int .i64 e]) ∧ w' = w) := by
    by_cases h0 : n < 0
    · exact ⟨_, _, turned_arg c n a m h0, rturned_arg c n a m h0⟩
    · by_cases h1 : a < 0 ∨ n ≤ a
      · exact ⟨_, _, turned_place c n a m h0 h1, rturned_place c n a m h0 h1⟩
      · obtain ⟨N, rfl⟩ : ∃ N : Nat, n = (N : Int) := ⟨n.toNat, by omega⟩
        obtain ⟨A, rfl⟩ : ∃ A : Nat, a = (A : Int) := ⟨a.toNat, by omega⟩
        exact ⟨_, _, turned_ok c N A m hc hm (by omega) (by omega), rturned_ok c N A m hc hm (by omega) (by omega)⟩
  obtain ⟨r, e, h1, h2⟩ := hcase
  have H1 := hid h1
  have H2 := hid h2
  clear h1 h2 hc hm hn
  go_enter Try.func7, Try.ntmps7
  go_wp2_with fail
  refine (H1.out _).mono ?_
  rintro e w1 ⟨rfl, rfl⟩
  go_wp2_with fail
  refine (H2.out _).mono ?_
  rintro e w1 ⟨rfl, rfl⟩
  go_wp2_with fail
  refine (check_any _).mono ?_
  rintro e w3 ⟨rfl, hb3⟩
  have HB3 := hid (HB.out.trans (hb3.mono HB.out.size))
  clear hb3
  go_wp2
  go_ret
  exact ⟨rfl, HB3.out⟩

theorem sum_one (w : World) (v : Value) (bs : List UInt8) (hv : Src w v bs) :
    Calls Try.prog 11 #[.slice (some ⟨w.heap.size, 0, none⟩) 1 1] (w.alloc (.cells #[v] 24)) fun e w' => e = .returned (.int .u32 (sumP bs : Nat)) ∧ Below w.heap.size w w' := by
  refine (sum_any _ _ [bs] (lists_one hv) (by simp)).mono ?_
  rintro e w' ⟨rfl, hb⟩
  refine ⟨by simp [fl], (below_walk w _).trans (hb.mono (by rw [hp_size]; omega))⟩
theorem sum_two (w : World) (v u : Value) (bs cs : List UInt8) (hv : Src w v bs) (hu : Src w u cs) :
    Calls Try.prog 11 #[.slice (some ⟨w.heap.size, 0, none⟩) 2 2] (w.alloc (.cells #[v, u] 24)) fun e w' => e = .returned (.int .u32 (sumP (bs ++ cs) : Nat)) ∧ Below w.heap.size w w' := by
  refine (sum_any _ _ [bs, cs] (lists_two hv hu) (by simp)).mono ?_
  rintro e w' ⟨rfl, hb⟩
  refine ⟨by simp [fl], (below_walk w _).trans (hb.mono (by rw [hp_size]; omega))⟩

set_option maxRecDepth 100000 in
set_option maxHeartbeats 1000000 in
theorem lawJoined_any (w : World) (v u : Value) (bs cs : List UInt8) (hv : Src w v bs) (hu : Src w u cs) :
    Calls Try.prog 6 #[v, u] w fun e w' => e = .returned (.bool true) ∧ Below w.heap.size w w' := by
  obtain ⟨au, cu, rfl⟩ := src_shape hu
  obtain ⟨av, cv, rfl⟩ := src_shape hv
  have hl := hu.1
  have HV := hid hv
  have HU := hid hu
  clear hv hu
  have HJ := hid (show joinP (sumP bs) (sumP cs) cs.length = sumP (bs ++ cs) from sumP_join bs cs)
  go_enter Try.func6, Try.ntmps6
  go_wp2_with fail
  refine (sum_one w _ bs HV.out).mono ?_
  rintro e w1 ⟨rfl, hb1⟩
  have HB1 := hid hb1
  have HU1 := hid (HU.out.below hb1)
  have HV1 := hid (HV.out.below hb1)
  clear hb1
  go_wp2_with fail
  refine (sum_one w1 _ cs HU1.out).mono ?_
  rintro e w2 ⟨rfl, hb2⟩
  have HB2 := hid (HB1.out.trans (hb2.mono HB1.out.size))
  have HU2 := hid (HU1.out.below hb2)
  have HV2 := hid (HV1.out.below hb2)
  clear hb2
  go_wp2_with fail
  refine (join_ok _ _ cs.length (sumP_lt bs) (sumP_lt cs) (by omega) _).mono ?_
  rintro e w3 ⟨rfl, rfl⟩
  rw [HJ.out]
  go_wp2_with fail
  refine (sum_two w3 _ _ bs cs HV2.out HU2.out).mono ?_
  rintro e w4 ⟨rfl, hb4⟩
  have HB4 := hid (HB2.out.trans (hb4.mono HB2.out.size))
  clear hb4
  go_wp2_with fail
  refine (check_any _).mono ?_
  rintro e w5 ⟨rfl, hb5⟩
  have HB5 := hid (HB4.out.trans (hb5.mono HB4.out.size))
  clear hb5
  go_wp2
  go_ret
  exact ⟨rfl, HB5.out⟩

end Go.Proofs.Ytljppkpieoejlaa
