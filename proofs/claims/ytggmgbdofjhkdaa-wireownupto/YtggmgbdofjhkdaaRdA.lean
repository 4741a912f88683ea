/- What the small methods of a reader that NewReader gave do: own, over, fail, mayRead, At, Left, Fault; and NewReader. -/
import Derived.Test.YtggmgbdofjhkdaaBase
namespace Go.Proofs.Ytggmgbdofjhkdaa
open Go.RowKit

set_option maxHeartbeats 400000 in
theorem own_made (b : Nat) (w : World) (hc : w.cell? ⟨b, 4, none⟩ = some (.bool true)) :
    Calls Try.prog 58 #[.pointer (some ⟨b, 0, none⟩)] w fun e w' => e = .returned (.pointer (some ⟨b, 0, none⟩)) ∧ w' = w := by
  go_enter Try.func58, Try.ntmps58
  go_wp2
  go_ret
  exact ⟨rfl, rfl⟩

set_option maxHeartbeats 400000 in
theorem over_any (b : Nat) (why : Int) (w : World) (hc : w.cell? ⟨b, 2, none⟩ = some (.int .i64 why)) :
    Calls Try.prog 66 #[.pointer (some ⟨b, 0, none⟩)] w fun e w' => e = .returned (.bool (why != 0)) ∧ w' = w := by
  go_enter Try.func66, Try.ntmps66
  go_wp2
  go_ret
  exact ⟨rfl, rfl⟩

set_option maxHeartbeats 400000 in
theorem pat_any (b : Nat) (a : Int) (w : World) (hc : w.cell? ⟨b, 1, none⟩ = some (.int .i64 a)) :
    Calls Try.prog 67 #[.pointer (some ⟨b, 0, none⟩)] w fun e w' => e = .returned (.int .i64 a) ∧ w' = w := by
  go_enter Try.func67, Try.ntmps67
  go_wp2
  go_ret
  exact ⟨rfl, rfl⟩

set_option maxHeartbeats 400000 in
theorem pleft_any (b n c : Nat) (a : Int) (v : Option Addr) (w : World) (hn : n ≤ maxLen) (h0 : 0 ≤ a) (ha : a ≤ n)
    (h1 : w.cell? ⟨b, 0, none⟩ = some (.slice v n c)) (h2 : w.cell? ⟨b, 1, none⟩ = some (.int .i64 a)) :
    Calls Try.prog 68 #[.pointer (some ⟨b, 0, none⟩)] w fun e w' => e = .returned (.int .i64 (n - a)) ∧ ∃ k, w' = w.drewN k := by
  unfold maxLen at hn
  go_enter Try.func68, Try.ntmps68
  go_wp2
  go_quiet (fail)
  go_wp2
  go_ret
  exact ⟨rfl, _, rfl⟩

set_option maxHeartbeats 400000 in
/-- fail, where there is a fault already or no error: nothing -/
theorem fail_idle (b : Nat) (why n : Int) (w : World) (hc : w.cell? ⟨b, 2, none⟩ = some (.int .i64 why)) (h : why ≠ 0 ∨ n = 0) :
    Calls Try.prog 61 #[.pointer (some ⟨b, 0, none⟩), .int .i64 n] w fun e w' => e = .returned (.tuple #[]) ∧ w' = w := by
  by_cases h1 : why = 0
  · obtain rfl : n = 0 := by rcases h with h | h; exact absurd h1 h; exact h
    subst h1
    go_enter Try.func61, Try.ntmps61
    go_wp2_with (go_at_call 66; refine (over_any _ _ _ (by assumption)).mono ?_; rintro e w' ⟨rfl, rfl⟩)
    go_end0
    exact ⟨rfl, rfl⟩
  · have hb : (why != 0) = true := by simpa using h1
    go_enter Try.func61, Try.ntmps61
    go_wp2_with (go_at_call 66; refine (over_any _ _ _ (by assumption)).mono ?_; rintro e w' ⟨rfl, rfl⟩)
    go_end0
    exact ⟨rfl, rfl⟩

set_option maxHeartbeats 400000 in
/-- fail, where there is no fault and an error: the fault is that, at the place -/
theorem fail_sets (b : Nat) (a n : Int) (w : World) (h1 : w.cell? ⟨b, 1, none⟩ = some (.int .i64 a)) (h2 : w.cell? ⟨b, 2, none⟩ = some (.int .i64 0)) (x : Value) (h3 : w.cell? ⟨b, 3, none⟩ = some x)
    (f2 : w.frozen? ⟨b, 2, none⟩ = false) (f3 : w.frozen? ⟨b, 3, none⟩ = false) (hn : n ≠ 0) :
    Calls Try.prog 61 #[.pointer (some ⟨b, 0, none⟩), .int .i64 n] w fun e w' => e = .returned (.tuple #[]) ∧ w' = (w.setCell ⟨b, 2, none⟩ (.int .i64 n)).setCell ⟨b, 3, none⟩ (.int .i64 a) := by
  have hb : (n != 0) = true := by simpa using hn
  go_enter Try.func61, Try.ntmps61
  go_wp2_with (first
    | (go_at_call 66; refine (over_any _ _ _ (by assumption)).mono ?_; rintro e w' ⟨rfl, rfl⟩)
    | (go_at_call 67; refine (pat_any _ _ _ (by assumption)).mono ?_; rintro e w' ⟨rfl, rfl⟩))
  go_end0
  exact ⟨rfl, rfl⟩

end Go.Proofs.Ytggmgbdofjhkdaa
