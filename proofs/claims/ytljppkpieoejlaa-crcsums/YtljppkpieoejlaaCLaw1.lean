/- CrcMores, CrcSums, CrcJoins answer true. -/
import Derived.Test.YtljppkpieoejlaaCOver
import Derived.Test.YtljppkpieoejlaaCMov
namespace Go.Proofs.Ytljppkpieoejlaa
open Go.RowKit

set_option maxRecDepth 100000 in
set_option maxHeartbeats 1000000 in
theorem lawMores_any (w : World) (c : Nat) (v : Value) (bs : List UInt8) (hc : c < 4294967296) (hv : Src w v bs) :
    Calls Try.prog 4 #[.int .u32 (c : Int), v] w fun e w' => e = .returned (.bool true) ∧ Below w.heap.size w w' := by
  have HV := hid hv
  clear hv
  go_enter Try.func4, Try.ntmps4
  go_wp2_with fail
  refine (more_any _ _ _ _ hc HV.out).mono ?_
  rintro e w1 ⟨rfl, hb⟩
  have HB := hid hb
  clear hb
  go_wp2_with fail
  refine (rmore_any _ _ _ _ hc (HV.out.below HB.out)).mono ?_
  rintro e w2 ⟨rfl, rfl⟩
  go_wp2_with fail
  refine (check_any _).mono ?_
  rintro e w3 ⟨rfl, hb3⟩
  have HB3 := hid (HB.out.trans (hb3.mono HB.out.size))
  clear hb3
  go_wp2
  go_ret
  exact ⟨rfl, HB3.out⟩

set_option maxRecDepth 100000 in
set_option maxHeartbeats 1000000 in
theorem lawSums_any (w : World) (v : Value) (pss : List (List UInt8)) (hv : Lists w v pss) (hn : pss.length ≤ 140737488355327) :
    Calls Try.prog 3 #[v] w fun e w' => e = .returned (.bool true) ∧ Below w.heap.size w w' := by
  obtain ⟨ao, cv, rfl⟩ := hv.shape
  have HV := hid hv
  clear hv
  have HQ := fun (k : Nat) => hid (moreP_lt (show 0 < 4294967296 by omega) (fl (pss.take k)))
  go_enter Try.func3, Try.ntmps3
  go_wp2
  go_loopw [3, 8] (fun vc vi wr => ∃ k : Nat, k ≤ pss.length ∧ vc = .int .u32 (moreP 0 (fl (pss.take k)) : Nat) ∧ vi = .int .i64 k ∧ Below w.heap.size w wr) (fun _ vi _ => pss.length - (intOf vi).toNat)
  case atStart => exact ⟨0, by omega, by rw [List.take_zero, fl_nil, moreP_nil]; rfl, rfl, Below.refl _ _⟩
  case round =>
    obtain ⟨k, hk, rfl, rfl, hb⟩ := hrel
    have HB := hid hb
    clear hb
    by_cases hlt : k < pss.length
    · obtain ⟨g, o, rfl, u, c1, hsrc⟩ := (HV.out.below HB.out).at k hlt
      obtain ⟨p, HP⟩ : ∃ p, Hid (p = pss.getD k []) := ⟨_, rfl⟩
      rw [← HP.out] at hsrc
      have HS := hid hsrc
      have HR := hid (moreP_take 0 pss k hlt)
      rw [← HP.out] at HR
      clear hsrc
      go_wp2_with fail
      refine (more_any _ _ _ _ (HQ k).out HS.out).mono ?_
      rintro e w1 ⟨rfl, hb⟩
      have HB1 := hid (HB.out.trans (hb.mono HB.out.size))
      clear hb HS c1
      go_wp2
      refine ⟨⟨k + 1, hlt, ?_, by simp, HB1.out⟩, by simp [intOf]; omega⟩
      rw [HR.out]
    · obtain rfl : k = pss.length := by omega
      rw [fl_all]
      have HV2 := hid (HV.out.below HB.out)
      have HS0 := hid (show sumP (fl pss) = moreP 0 (fl pss) from rfl)
      go_wp2_with fail
      refine (rsum_any _ _ _ HV2.out hn).mono ?_
      rintro e w1 ⟨rfl, rfl⟩
      rw [HS0.out]
      go_wp2_with fail
      refine (sum_any _ _ _ HV2.out hn).mono ?_
      rintro e w2 ⟨rfl, hb⟩
      rw [HS0.out]
      have HB2 := hid (HB.out.trans (hb.mono HB.out.size))
      clear hb HV2 HV
      go_wp2_with fail
      refine (check_any _).mono ?_
      rintro e w3 ⟨rfl, hb3⟩
      have HB3 := hid (HB2.out.trans (hb3.mono HB2.out.size))
      clear hb3
      go_wp2
      go_ret
      exact ⟨rfl, HB3.out⟩

set_option maxRecDepth 100000 in
set_option maxHeartbeats 1000000 in
theorem lawJoins_any (w : World) (a b : Nat) (n : Int) (ha : a < 4294967296) (hb : b < 4294967296) (hn : n < 9223372036854775808) :
    Calls Try.prog 5 #[.int .u32 (a : Int), .int .u32 (b : Int), .int .i64 n] w fun e w' => e = .returned (.bool true) ∧ Below w.heap.size w w' := by
  by_cases h0 : n < 0
  · go_enter Try.func5, Try.ntmps5
    go_wp2_with fail
    refine (join_no _ _ _ h0 _).mono ?_
    rintro e w1 ⟨rfl, rfl⟩
    go_wp2_with fail
    refine (rjoin_no _ _ _ h0 _).mono ?_
    rintro e w1 ⟨rfl, rfl⟩
    go_wp2_with fail
    refine (check_any _).mono ?_
    rintro e w3 ⟨rfl, hb3⟩
    have HB3 := hid hb3
    clear hb3
    go_wp2
    go_ret
    exact ⟨rfl, HB3.out⟩
  · obtain ⟨N, rfl⟩ : ∃ N : Nat, n = (N : Int) := ⟨n.toNat, by omega⟩
    have hN : N < 9223372036854775808 := by omega
    clear h0 hn
    go_enter Try.func5, Try.ntmps5
    go_wp2_with fail
    refine (join_ok a b N ha hb hN _).mono ?_
    rintro e w1 ⟨rfl, rfl⟩
    go_wp2_with fail
    refine (rjoin_ok a b N ha hb hN _).mono ?_
    rintro e w1 ⟨rfl, rfl⟩
    go_wp2_with fail
    refine (check_any _).mono ?_
    rintro e w3 ⟨rfl, hb3⟩
    have HB3 := hid hb3
    clear hb3
    go_wp2
    go_ret
    exact ⟨rfl, HB3.out⟩

end Go.Proofs.Ytljppkpieoejlaa
