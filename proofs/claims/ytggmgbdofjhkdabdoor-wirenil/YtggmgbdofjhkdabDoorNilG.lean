/- What a word read from a reader that no call made is: no bytes, or one byte 0. -/
import Derived.Test.YtggmgbdofjhkdabDoorNilF
namespace Go.Proofs.YtggmgbdofjhkdabDoor.nilr
open Go.RowKit

theorem uint_zero_z (w : World) :
    Calls Tryd.prog 23 #[.int .u64 0] w fun e w' => ∃ v, e = .returned v ∧ Zero1 w.heap.size w' v ∧ Below w.heap.size w w' := uint_zero w

set_option maxRecDepth 100000 in
set_option maxHeartbeats 1000000 in
theorem word_nil (r : Value) (K A B : Int) (w : World) (h : NilR w r) :
    Calls Tryd.prog 7 #[r, .agg #[.int .i64 K, .int .i64 A, .int .i64 B]] w fun e w' => ∃ v, e = .returned v ∧ Zs w' v ∧ Below w.heap.size w w' := by
  go_enter Tryd.func7, Tryd.ntmps7
  go_wp2_with fail
  · refine (byte_nil _ _ (h.below (below_walk _ _))).mono ?_
    rintro e w1 ⟨rfl, hb⟩
    go_wp2
    go_ret
    refine ⟨_, rfl, Or.inr ⟨_, 1, Nat.le_refl _, by unfold maxLen; omega, rfl, by simp⟩, ((below_walk _ _).trans (hb.mono (by simp))).alloc (by have := hb.size; simp at this; omega) _⟩
  · refine (uint_nil _ _ (h.below (below_walk _ _))).mono ?_
    rintro e w1 ⟨rfl, hb⟩
    go_wp2_with fail
    refine (uint_zero_z _).mono ?_
    rintro e w2 ⟨v, rfl, hz, hb2⟩
    go_wp2
    go_ret
    exact ⟨_, rfl, hz.zs, ((below_walk _ _).trans (hb.mono (by simp))).trans (hb2.mono (by have := hb.size; simp at this; omega))⟩
  · refine (int_nil _ _ (h.below (below_walk _ _))).mono ?_
    rintro e w1 ⟨rfl, hb⟩
    go_wp2_with fail
    refine (rint_zero _).mono ?_
    rintro e w2 ⟨v, rfl, hz, hb2⟩
    go_wp2
    go_ret
    exact ⟨_, rfl, hz.zs, ((below_walk _ _).trans (hb.mono (by simp))).trans (hb2.mono (by have := hb.size; simp at this; omega))⟩
  · refine (count_nil _ _ _ (h.below (below_walk _ _))).mono ?_
    rintro e w1 ⟨rfl, hb⟩
    go_wp2_with fail
    refine (rint_zero _).mono ?_
    rintro e w2 ⟨v, rfl, hz, hb2⟩
    go_wp2
    go_ret
    exact ⟨_, rfl, hz.zs, ((below_walk _ _).trans (hb.mono (by simp))).trans (hb2.mono (by have := hb.size; simp at this; omega))⟩
  · refine (bool_nil _ _ (h.below (below_walk _ _))).mono ?_
    rintro e w1 ⟨rfl, hb⟩
    go_wp2_with fail
    refine (rbool_false _).mono ?_
    rintro e w2 ⟨v, rfl, hz, hb2⟩
    go_wp2
    go_ret
    exact ⟨_, rfl, hz.zs, ((below_walk _ _).trans (hb.mono (by simp))).trans (hb2.mono (by have := hb.size; simp at this; omega))⟩
  · refine (text_nil _ _ _ (h.below (below_walk _ _))).mono ?_
    rintro e w1 ⟨rfl, hb⟩
    go_wp2_with fail
    refine (rtext_empty _).mono ?_
    rintro e w2 ⟨v, rfl, hz, hb2⟩
    go_wp2
    go_ret
    exact ⟨_, rfl, hz.zs, ((below_walk _ _).trans (hb.mono (by simp))).trans (hb2.mono (by have := hb.size; simp at this; omega))⟩
  · refine (list_nil _ _ _ _ (h.below (below_walk _ _))).mono ?_
    rintro e w1 ⟨rfl, hb⟩
    go_wp2_with fail
    refine (rlist_nil _).mono ?_
    rintro e w2 ⟨v, rfl, hz, hb2⟩
    go_wp2
    go_ret
    exact ⟨_, rfl, hz.zs, ((below_walk _ _).trans (hb.mono (by simp))).trans (hb2.mono (by have := hb.size; simp at this; omega))⟩
  · refine (raw_nil _ _ _ (h.below (below_walk _ _))).mono ?_
    rintro e w1 ⟨rfl, hb⟩
    go_wp2
    go_ret
    exact ⟨_, rfl, Or.inl rfl, (below_walk _ _).trans (hb.mono (by simp))⟩

end Go.Proofs.YtggmgbdofjhkdabDoor.nilr
