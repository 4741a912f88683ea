/- What Left, Fault and End of a reader that no call made answer, and what the document's bytes of zero are. -/
import Derived.Test.YtggmgbdofjhkdabDoorNilC
import Derived.Laws.AppendOwnNone
import Derived.Lib.AppendStr
namespace Go.Proofs.YtggmgbdofjhkdabDoor.nilr
open Go.RowKit

set_option maxHeartbeats 400000 in
theorem left_nil (r : Value) (w : World) (h : NilR w r) :
    Calls Tryd.prog 11 #[r] w fun e w' => e = .returned (.int .i64 0) ∧ Below w.heap.size w w' := by
  go_enter Tryd.func11, Tryd.ntmps11
  go_wp2_with (first
    | (go_at_call 14; refine (own_any _ _ h).mono ?_; rintro e w' ⟨rfl, rfl⟩)
    | (go_at_call 35; refine (pleft_any _ _ 0 0 0 none _ (by omega) (by omega) (by omega) (by go_simp) (by go_simp)).mono ?_; rintro e w' ⟨rfl, k, rfl⟩))
  go_ret
  exact ⟨rfl, below_drewN (below_walk _ _) _⟩

set_option maxHeartbeats 400000 in
theorem fault_nil (r : Value) (w : World) (h : NilR w r) :
    Calls Tryd.prog 9 #[r] w fun e w' => e = .returned (.agg #[.int .i64 2, .int .i64 0]) ∧ Below w.heap.size w w' := by
  go_enter Tryd.func9, Tryd.ntmps9
  go_wp2_with (first
    | (go_at_call 14; refine (own_any _ _ (h.below (below_walk _ _))).mono ?_; rintro e w' ⟨rfl, rfl⟩))
  exact bodyPost_ret (v := .agg #[.int .i64 2, .int .i64 0]) (by simp [results, Tryd.results9, go_sem]) rfl ⟨rfl, below_walk2 _ _ _⟩

set_option maxHeartbeats 400000 in
theorem end_nil (r : Value) (w : World) (h : NilR w r) :
    Calls Tryd.prog 8 #[r] w fun e w' => e = .returned (.agg #[.int .i64 2, .int .i64 0]) ∧ Below w.heap.size w w' := by
  go_enter Tryd.func8, Tryd.ntmps8
  go_wp2_with (first
    | (go_at_call 14; refine (own_any _ _ (h.below (below_walk _ _))).mono ?_; rintro e w' ⟨rfl, rfl⟩)
    | (go_at_call 35; refine (pleft_any _ _ 0 0 0 none _ (by omega) (by omega) (by omega) (by go_simp) (by go_simp)).mono ?_; rintro e w' ⟨rfl, k, rfl⟩))
  exact bodyPost_ret (v := .agg #[.int .i64 2, .int .i64 0]) (by simp [results, Tryd.results8, go_sem]) rfl ⟨rfl, ((below_drewN (below_walk2 _ _ _) _).setCell (by simp) _).setCell (by simp) _⟩

set_option maxHeartbeats 400000 in
theorem uint_zero (w : World) :
    Calls Tryd.prog 23 #[.int .u64 0] w fun e w' => ∃ v, e = .returned v ∧ w'.ownsRow w.heap.size 5 1 v 1 [.int .u8 0] ∧ Below w.heap.size w w' := by
  obtain ⟨i0, hi, hz0, hz1, hz2⟩ := info_parts Tryd.infoU8
  go_enter Tryd.func23, Tryd.ntmps23
  go_wp2
  go_loop [0, 3] (fun n b => n = .int .u64 0 ∧ b = .slice none 0 0) (fun _ _ => 0)
  case atStart => exact ⟨rfl, rfl⟩
  case round =>
    obtain ⟨rfl, rfl⟩ := hrel
    go_wp2_with (first
      | (at_builtin; refine wpList_append_own _ rfl _ _ 25 rfl w.heap.size 5 i0 (.int .u8 0) 1 1 Tryd.underlying25 hi hz0 hz1 hz2 rfl (by decide) _ _ _ rfl (World.ownsRow_nil _ _ _ _) ⟨w.heap.size, 0, none⟩ 1 1 [.int .u8 0] rfl rfl ?c1 ?c2 ?c3 ?c4 ?c5 ?_))
    case c2 => rfl
    case c3 => unfold maxLen; omega
    intro v' w1 hown' hgrow _
    go_wp2
    go_ret
    exact ⟨_, rfl, hown', (below_walk _ _).grown hgrow (by simp) (by intro k hk; cases hk)⟩

end Go.Proofs.YtggmgbdofjhkdabDoor.nilr
