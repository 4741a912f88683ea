/- ShaPads answers true. -/
import Derived.Test.YticmdmnjajjpbaaDoorSAwake
import Derived.Test.YticmdmnjajjpbaaDoorSRef1
namespace Go.Proofs.YticmdmnjajjpbaaDoor
open Go.RowKit

theorem src_nil (w : World) : Src w (.slice none 0 0) [] := ⟨by simp, Or.inl ⟨rfl, rfl⟩⟩

set_option maxRecDepth 100000 in
set_option maxHeartbeats 1000000 in
theorem pads_any (w : World) (n : Nat) (hT : Tabs w) :
    Calls Tryd.prog 4 #[.int .u64 n] w fun e w' => e = .returned (.bool true) ∧ Below w.heap.size w w' := by
  have HT := hid hT
  clear hT
  by_cases hn : n ≤ 2305843009213693951
  · have HN := hid hn
    clear hn
    go_enter Tryd.func4, Tryd.ntmps4
    go_wp2_with fail
    refine (pad_ok w n HN.out).mono ?_
    rintro e w1 ⟨v1, rfl, ho1, hb1⟩
    have HO1 := hid ho1
    have HB1 := hid hb1
    clear ho1 hb1
    go_wp2_with fail
    refine (rpad_ok w1 n HN.out).mono ?_
    rintro e w2 ⟨v2, rfl, ho2, hb2⟩
    have HO2 := hid ho2
    have HO12 := hid (HO1.out.below hb2)
    have HB2 := hid (HB1.out.trans (hb2.mono HB1.out.size))
    clear ho2 hb2
    go_wp2_with fail
    refine (num_any w2 _).mono ?_
    rintro e w3 ⟨rfl, rfl⟩
    go_wp2_with fail
    refine (alike_true _ _ (padB n) _ (HO12.out.src (by have := padB_le n; omega)) (HO2.out.src (by have := padB_le n; omega))).mono ?_
    rintro e w4 ⟨rfl, k, rfl⟩
    go_wp2_with fail
    refine (awake_any _ (HT.out.below (below_drewN HB2.out k))).mono ?_
    rintro e w5 ⟨rfl, hb5⟩
    have HB5 := hid ((below_drewN HB2.out k).trans (hb5.mono HB2.out.size))
    clear hb5
    go_wp2
    go_ret
    exact ⟨rfl, HB5.out⟩
  · have HN := hid hn
    clear hn
    go_enter Tryd.func4, Tryd.ntmps4
    go_wp2_with fail
    refine (pad_long w n HN.out).mono ?_
    rintro e w1 ⟨rfl, rfl⟩
    go_wp2_with fail
    refine (rpad_long w1 n HN.out).mono ?_
    rintro e w2 ⟨rfl, rfl⟩
    go_wp2_with fail
    refine (num_any w2 _).mono ?_
    rintro e w3 ⟨rfl, rfl⟩
    go_wp2_with fail
    refine (alike_true _ _ [] _ (src_nil _) (src_nil _)).mono ?_
    rintro e w4 ⟨rfl, k, rfl⟩
    go_wp2_with fail
    refine (awake_any _ (HT.out.below (below_drewN (Below.refl _ _) k))).mono ?_
    rintro e w5 ⟨rfl, hb5⟩
    have HB5 := hid ((below_drewN (Below.refl _ w3) k).trans hb5)
    clear hb5
    go_wp2
    go_ret
    exact ⟨rfl, HB5.out⟩

end Go.Proofs.YticmdmnjajjpbaaDoor
