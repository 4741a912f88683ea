/- What mayRead does over a reader that NewReader gave: with no bounds, one, or two. -/
import Derived.Test.YtggmgbdofjhkdaaRdA
namespace Go.Proofs.Ytggmgbdofjhkdaa
open Go.RowKit

set_option maxHeartbeats 400000 in
theorem may_none (b : Nat) (why : Int) (w : World) (hc : w.cell? ⟨b, 2, none⟩ = some (.int .i64 why)) :
    Calls Try.prog 59 #[.pointer (some ⟨b, 0, none⟩), .slice none 0 0] w fun e w' => e = .returned (.bool (!(why != 0))) ∧ w' = w := by
  go_enter Try.func59, Try.ntmps59
  go_wp2
  go_loop [9] (fun i => i = .int .i64 0) (fun _ => 0)
  case atStart => rfl
  case round =>
    subst hrel
    go_wp2_with (go_at_call 66; refine (over_any _ _ _ (by assumption)).mono ?_; rintro e w' ⟨rfl, rfl⟩)
    go_ret
    exact ⟨rfl, rfl⟩

set_option maxHeartbeats 400000 in
/-- nothing is wrong with the bounds, or there is a fault already -/
theorem may_ok (b c n : Nat) (why : Int) (zs : Nat → Int) (w : World) (hn : n ≤ 2) (hc : w.cell? ⟨b, 2, none⟩ = some (.int .i64 why))
    (hz : ∀ i : Nat, i < n → w.cell? ⟨c, i, none⟩ = some (.int .i64 (zs i))) (hok : why ≠ 0 ∨ ∀ i : Nat, i < n → 0 ≤ zs i) :
    Calls Try.prog 59 #[.pointer (some ⟨b, 0, none⟩), .slice (some ⟨c, 0, none⟩) n n] w fun e w' => e = .returned (.bool (!(why != 0))) ∧ w' = w := by
  have HZ : Hid (∀ i : Nat, i < n → w.cell? ⟨c, i, none⟩ = some (.int .i64 (zs i))) := hz
  have HOK : Hid (why ≠ 0 ∨ ∀ i : Nat, i < n → 0 ≤ zs i) := hok
  clear hz hok
  go_enter Try.func59, Try.ntmps59
  go_wp2
  go_loop [9] (fun i => ∃ k : Nat, k ≤ n ∧ i = .int .i64 k) (fun i => n - (intOf i).toNat)
  case atStart => exact ⟨0, Nat.zero_le _, rfl⟩
  case round =>
    obtain ⟨k, hk, rfl⟩ := hrel
    by_cases hlt : k < n
    · have hzk := HZ.out k hlt
      have HN : Hid (zs k < 0 → why ≠ 0 ∨ (1 : Int) = 0) := fun hneg => HOK.out.elim Or.inl (fun h => absurd (h k hlt) (by omega))
      generalize zs k = z at *
      by_cases hneg : z < 0
      all_goals
        go_wp2_with (go_at_call 61; refine (fail_idle _ _ _ _ (by assumption) (HN.out hneg)).mono ?_; rintro e w' ⟨rfl, rfl⟩)
        go_round
        case rel => exact ⟨k + 1, by omega, by go_num⟩
        case measure => simp [intOf]; omega
    · go_wp2_with (go_at_call 66; refine (over_any _ _ _ (by assumption)).mono ?_; rintro e w' ⟨rfl, rfl⟩)
      go_ret
      exact ⟨rfl, rfl⟩

set_option maxHeartbeats 400000 in
/-- a bound is below 0, and there is no fault yet: ErrArg, at the place -/
theorem may_bad (b c n : Nat) (a : Int) (zs : Nat → Int) (x : Value) (w : World) (hn : n ≤ 2) (hbc : c ≠ b) (h1 : w.cell? ⟨b, 1, none⟩ = some (.int .i64 a)) (h2 : w.cell? ⟨b, 2, none⟩ = some (.int .i64 0)) (h3 : w.cell? ⟨b, 3, none⟩ = some x)
    (f2 : w.frozen? ⟨b, 2, none⟩ = false) (f3 : w.frozen? ⟨b, 3, none⟩ = false)
    (hz : ∀ i : Nat, i < n → w.cell? ⟨c, i, none⟩ = some (.int .i64 (zs i))) (hbad : ∃ i : Nat, i < n ∧ zs i < 0) :
    Calls Try.prog 59 #[.pointer (some ⟨b, 0, none⟩), .slice (some ⟨c, 0, none⟩) n n] w fun e w' => e = .returned (.bool false) ∧ w' = (w.setCell ⟨b, 2, none⟩ (.int .i64 1)).setCell ⟨b, 3, none⟩ (.int .i64 a) := by
  have HW : ∃ w1, Hid (w1 = (w.setCell ⟨b, 2, none⟩ (.int .i64 1)).setCell ⟨b, 3, none⟩ (.int .i64 a)) := ⟨_, rfl⟩
  obtain ⟨w1, HW⟩ := HW
  have g2 : w1.cell? ⟨b, 2, none⟩ = some (.int .i64 1) := by rw [HW.out]; go_simp
  have HZ : Hid (∀ i : Nat, i < n → w.cell? ⟨c, i, none⟩ = some (.int .i64 (zs i))) := hz
  have HZ1 : Hid (∀ i : Nat, i < n → w1.cell? ⟨c, i, none⟩ = some (.int .i64 (zs i))) := fun i hi => by
    have e : w1.cell? ⟨c, i, none⟩ = w.cell? ⟨c, i, none⟩ := by
      rw [HW.out]
      exact (World.cell?_of_block (Below.heap_setCell _ _ _ _ hbc)).trans (World.cell?_of_block (Below.heap_setCell _ _ _ _ hbc))
    rw [e]; exact hz i hi
  have HB : Hid (∃ i : Nat, i < n ∧ zs i < 0) := hbad
  clear hz hbad
  go_enter Try.func59, Try.ntmps59
  go_wp2
  go_loopw [9] (fun i wr => ∃ k : Nat, k ≤ n ∧ i = .int .i64 k ∧ ((wr = w ∧ ∀ i : Nat, i < k → 0 ≤ zs i) ∨ wr = w1)) (fun i _ => n - (intOf i).toNat)
  case atStart => exact ⟨0, Nat.zero_le _, rfl, Or.inl ⟨rfl, fun i hi => absurd hi (Nat.not_lt_zero _)⟩⟩
  case round =>
    obtain ⟨k, hk, rfl, ⟨rfl, hpos⟩ | rfl⟩ := hrel
    · have HP : Hid (∀ i : Nat, i < k → 0 ≤ zs i) := hpos
      clear hpos
      by_cases hlt : k < n
      · have hzk := HZ.out k hlt
        by_cases hneg : zs k < 0
        · go_wp2_with (go_at_call 61; refine (fail_sets _ _ _ _ h1 h2 _ h3 f2 f3 (by decide)).mono ?_; rintro e w' ⟨rfl, rfl⟩)
          go_roundw
          case rel => exact ⟨k + 1, by omega, by go_num, Or.inr HW.out.symm⟩
          case measure => simp [intOf]; omega
        · go_wp2_with fail
          go_roundw
          case rel =>
            refine ⟨k + 1, by omega, by go_num, Or.inl ⟨by trivial, fun i hi => ?_⟩⟩
            rcases Nat.lt_or_ge i k with h | h
            · exact HP.out i h
            · obtain rfl : i = k := by omega
              omega
          case measure => simp [intOf]; omega
      · exfalso
        obtain ⟨i, hi, hneg⟩ := HB.out
        have := HP.out i (by omega)
        omega
    · by_cases hlt : k < n
      · have hzk := HZ1.out k hlt
        by_cases hneg : zs k < 0
        all_goals
          go_wp2_with (go_at_call 61; refine (fail_idle _ _ _ _ g2 (Or.inl (by decide))).mono ?_; rintro e w' ⟨rfl, rfl⟩)
          go_roundw
          case rel => exact ⟨k + 1, by omega, by go_num, Or.inr (by trivial)⟩
          case measure => simp [intOf]; omega
      · go_wp2_with (go_at_call 66; refine (over_any _ _ _ g2).mono ?_; rintro e w' ⟨rfl, rfl⟩)
        go_ret
        exact ⟨rfl, HW.out⟩

end Go.Proofs.Ytggmgbdofjhkdaa
