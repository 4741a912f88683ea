/- What each reading call of a reader that no call made answers: zero; it only makes memory. -/
import Derived.Test.YtggmgbdofjhkdabDoorNilB
namespace Go.Proofs.YtggmgbdofjhkdabDoor.nilr
open Go.RowKit

set_option maxHeartbeats 400000 in
theorem byte_nil (r : Value) (w : World) (h : NilR w r) :
    Calls Tryd.prog 13 #[r] w fun e w' => e = .returned (.int .u8 0) ∧ Below w.heap.size w w' := by
  go_enter Tryd.func13, Tryd.ntmps13
  go_wp2_with (first
    | (go_at_call 14; refine (own_any _ _ h).mono ?_; rintro e w' ⟨rfl, rfl⟩)
    | (go_at_call 37; refine (may_none _ _ (by go_simp)).mono ?_; rintro e w' ⟨rfl, rfl⟩))
  go_ret
  exact ⟨rfl, below_walk _ _⟩

set_option maxHeartbeats 400000 in
theorem uint_nil (r : Value) (w : World) (h : NilR w r) :
    Calls Tryd.prog 24 #[r] w fun e w' => e = .returned (.int .u64 0) ∧ Below w.heap.size w w' := by
  go_enter Tryd.func24, Tryd.ntmps24
  go_wp2_with (first
    | (go_at_call 14; refine (own_any _ _ h).mono ?_; rintro e w' ⟨rfl, rfl⟩)
    | (go_at_call 37; refine (may_none _ _ (by go_simp)).mono ?_; rintro e w' ⟨rfl, rfl⟩))
  go_ret
  exact ⟨rfl, below_walk _ _⟩

set_option maxHeartbeats 400000 in
theorem bool_nil (r : Value) (w : World) (h : NilR w r) :
    Calls Tryd.prog 29 #[r] w fun e w' => e = .returned (.bool false) ∧ Below w.heap.size w w' := by
  go_enter Tryd.func29, Tryd.ntmps29
  go_wp2_with (first
    | (go_at_call 14; refine (own_any _ _ h).mono ?_; rintro e w' ⟨rfl, rfl⟩)
    | (go_at_call 37; refine (may_none _ _ (by go_simp)).mono ?_; rintro e w' ⟨rfl, rfl⟩))
  go_ret
  exact ⟨rfl, below_walk _ _⟩

set_option maxHeartbeats 400000 in
theorem unfolded_zero (w : World) :
    Calls Tryd.prog 45 #[.int .u64 0] w fun e w' => e = .returned (.int .i64 0) ∧ w' = w := by
  go_enter Tryd.func45, Tryd.ntmps45
  go_wp2
  go_ret
  exact ⟨rfl, rfl⟩

set_option maxHeartbeats 400000 in
theorem int_nil (r : Value) (w : World) (h : NilR w r) :
    Calls Tryd.prog 26 #[r] w fun e w' => e = .returned (.int .i64 0) ∧ Below w.heap.size w w' := by
  go_enter Tryd.func26, Tryd.ntmps26
  go_wp2_with fail
  refine (uint_nil _ _ h).mono ?_
  rintro e w1 ⟨rfl, hb⟩
  go_wp2_with fail
  refine (unfolded_zero _).mono ?_
  rintro e w2 ⟨rfl, rfl⟩
  go_wp2
  go_ret
  exact ⟨rfl, hb⟩

set_option maxHeartbeats 400000 in
theorem count_nil (r : Value) (n : Int) (w : World) (h : NilR w r) :
    Calls Tryd.prog 27 #[r, .int .i64 n] w fun e w' => e = .returned (.int .i64 0) ∧ Below w.heap.size w w' := by
  go_enter Tryd.func27, Tryd.ntmps27
  go_wp2_with (first
    | (go_at_call 14; refine (own_any _ _ h).mono ?_; rintro e w' ⟨rfl, rfl⟩)
    | (go_at_call 37; refine (may_some _ _ 1 _ (by omega) (by go_simp) (by intro i hi; obtain rfl : i = 0 := (by omega); exact ⟨n, by go_simp⟩)).mono ?_; rintro e w' ⟨rfl, rfl⟩))
  go_ret
  exact ⟨rfl, below_walk2 _ _ _⟩

set_option maxHeartbeats 400000 in
theorem text_nil (r : Value) (n : Int) (w : World) (h : NilR w r) :
    Calls Tryd.prog 31 #[r, .int .i64 n] w fun e w' => e = .returned (.string ⟨#[]⟩) ∧ Below w.heap.size w w' := by
  go_enter Tryd.func31, Tryd.ntmps31
  go_wp2_with (first
    | (go_at_call 14; refine (own_any _ _ h).mono ?_; rintro e w' ⟨rfl, rfl⟩)
    | (go_at_call 37; refine (may_some _ _ 1 _ (by omega) (by go_simp) (by intro i hi; obtain rfl : i = 0 := (by omega); exact ⟨n, by go_simp⟩)).mono ?_; rintro e w' ⟨rfl, rfl⟩))
  go_ret
  exact ⟨rfl, below_walk2 _ _ _⟩

set_option maxHeartbeats 400000 in
theorem raw_nil (r : Value) (n : Int) (w : World) (h : NilR w r) :
    Calls Tryd.prog 34 #[r, .int .i64 n] w fun e w' => e = .returned (.slice none 0 0) ∧ Below w.heap.size w w' := by
  go_enter Tryd.func34, Tryd.ntmps34
  go_wp2_with (first
    | (go_at_call 14; refine (own_any _ _ h).mono ?_; rintro e w' ⟨rfl, rfl⟩)
    | (go_at_call 37; refine (may_some _ _ 1 _ (by omega) (by go_simp) (by intro i hi; obtain rfl : i = 0 := (by omega); exact ⟨n, by go_simp⟩)).mono ?_; rintro e w' ⟨rfl, rfl⟩))
  go_ret
  exact ⟨rfl, below_walk2 _ _ _⟩

set_option maxHeartbeats 400000 in
theorem list_nil (r : Value) (n m : Int) (w : World) (h : NilR w r) :
    Calls Tryd.prog 33 #[r, .int .i64 n, .int .i64 m] w fun e w' => e = .returned (.slice none 0 0) ∧ Below w.heap.size w w' := by
  go_enter Tryd.func33, Tryd.ntmps33
  go_wp2_with (first
    | (go_at_call 14; refine (own_any _ _ h).mono ?_; rintro e w' ⟨rfl, rfl⟩)
    | (go_at_call 37; refine (may_some _ _ 2 _ (by omega) (by go_simp) (by intro i hi; rcases (show i = 0 ∨ i = 1 by omega) with rfl | rfl; exact ⟨n, by go_simp⟩; exact ⟨m, by go_simp⟩)).mono ?_; rintro e w' ⟨rfl, rfl⟩))
  go_ret
  exact ⟨rfl, below_walk2 _ _ _⟩

set_option maxHeartbeats 400000 in
theorem failr_nil (r : Value) (n : Int) (w : World) (h : NilR w r) :
    Calls Tryd.prog 5 #[r, .int .i64 n] w fun e w' => e = .returned (.tuple #[]) ∧ Below w.heap.size w w' := by
  go_enter Tryd.func5, Tryd.ntmps5
  go_wp2_with (first
    | (go_at_call 14; refine (own_any _ _ h).mono ?_; rintro e w' ⟨rfl, rfl⟩)
    | (go_at_call 15; refine (fail_nil _ _ _ (by go_simp)).mono ?_; rintro e w' ⟨rfl, rfl⟩))
  go_end0
  exact ⟨rfl, below_walk _ _⟩

set_option maxHeartbeats 400000 in
theorem at_nil (r : Value) (w : World) (h : NilR w r) :
    Calls Tryd.prog 10 #[r] w fun e w' => e = .returned (.int .i64 0) ∧ Below w.heap.size w w' := by
  go_enter Tryd.func10, Tryd.ntmps10
  go_wp2_with (first
    | (go_at_call 14; refine (own_any _ _ h).mono ?_; rintro e w' ⟨rfl, rfl⟩)
    | go_in)
  go_ret
  exact ⟨rfl, below_walk _ _⟩

set_option maxHeartbeats 400000 in
theorem pleft_any (b o n c : Nat) (a : Int) (v : Option Addr) (w : World) (hn : n ≤ 281474976710656) (h0 : 0 ≤ a) (ha : a ≤ n)
    (h1 : w.cell? ⟨b, o, none⟩ = some (.slice v n c)) (h2 : w.cell? ⟨b, o + 1, none⟩ = some (.int .i64 a)) :
    Calls Tryd.prog 35 #[.pointer (some ⟨b, o, none⟩)] w fun e w' => e = .returned (.int .i64 (n - a)) ∧ ∃ k, w' = w.drewN k := by
  go_enter Tryd.func35, Tryd.ntmps35
  go_wp2
  go_quiet (fail)
  go_wp2
  go_ret
  exact ⟨rfl, _, rfl⟩

end Go.Proofs.YtggmgbdofjhkdabDoor.nilr
