/- What the document's bytes of zero, false, the empty text and the empty list are: one byte 0, in new memory. -/
import Derived.Test.YtggmgbdofjhkdabDoorNilD
namespace Go.Proofs.YtggmgbdofjhkdabDoor.nilr
open Go.RowKit

/-- one byte 0 in memory from block 'base' on -/
def Zero1 (base : Nat) (w : World) (v : Value) : Prop := w.ownsRow base 5 1 v 1 [.int .u8 0]

set_option maxHeartbeats 400000 in
theorem rint_zero (w : World) :
    Calls Tryd.prog 25 #[.int .i64 0] w fun e w' => ∃ v, e = .returned v ∧ Zero1 w.heap.size w' v ∧ Below w.heap.size w w' := by
  go_enter Tryd.func25, Tryd.ntmps25
  go_wp2_with fail
  refine (uint_zero _).mono ?_
  rintro e w1 ⟨v, rfl, ho, hb⟩
  go_wp2
  go_ret
  exact ⟨_, rfl, ho, hb⟩

set_option maxHeartbeats 400000 in
theorem rbool_false (w : World) :
    Calls Tryd.prog 28 #[.bool false] w fun e w' => ∃ v, e = .returned v ∧ Zero1 w.heap.size w' v ∧ Below w.heap.size w w' := by
  go_enter Tryd.func28, Tryd.ntmps28
  go_wp2
  go_ret
  refine ⟨_, rfl, ?_, below_walk _ _⟩
  exact ⟨rfl, Or.inr ⟨w.heap.size, 1, #[.int .u8 0], rfl, Nat.le_refl _, heap_alloc_new w _, Nat.le_refl _, by unfold maxLen; omega, rfl, rfl⟩⟩

set_option maxHeartbeats 400000 in
theorem rtext_empty (w : World) :
    Calls Tryd.prog 30 #[.string ⟨#[]⟩] w fun e w' => ∃ v, e = .returned v ∧ Zero1 w.heap.size w' v ∧ Below w.heap.size w w' := by
  obtain ⟨i0, hi, hz0, hz1, hz2⟩ := info_parts Tryd.infoU8
  go_enter Tryd.func30, Tryd.ntmps30
  go_wp2_with fail
  refine (uint_zero _).mono ?_
  rintro e w1 ⟨v, rfl, ho, hb⟩
  have hsz := hb.size
  go_wp2_with (at_builtin; refine Lib.wpList_append_own_string _ rfl _ _ 25 9 rfl w.heap.size 5 i0 Tryd.underlying25 Tryd.underlying9 hi hz0 hz1 hz2 _ _ _ rfl ho ⟨#[]⟩ rfl ?c1 ?c2 ?c3 ?_)
  case c1 => unfold maxLen; decide
  case c2 => decide
  case c3 => exact hsz
  intro v' w2 hown' hgrow _
  go_wp2
  go_ret
  exact ⟨_, rfl, hown', hb.grown hgrow hsz (fun k hk => (ho.lt k hk).1)⟩

set_option maxHeartbeats 400000 in
theorem rtexts_nil (w : World) :
    Calls Tryd.prog 49 #[.slice none 0 0] w fun e w' => e = .returned (.slice none 0 0) ∧ w' = w := by
  go_enter Tryd.func49, Tryd.ntmps49
  go_wp2
  go_loop [3, 4] (fun b i => b = .slice none 0 0 ∧ i = .int .i64 0) (fun _ _ => 0)
  case atStart => exact ⟨rfl, rfl⟩
  case round =>
    obtain ⟨rfl, rfl⟩ := hrel
    go_wp2_with fail
    go_ret
    exact ⟨rfl, rfl⟩

set_option maxHeartbeats 400000 in
theorem rlist_nil (w : World) :
    Calls Tryd.prog 32 #[.slice none 0 0] w fun e w' => ∃ v, e = .returned v ∧ Zero1 w.heap.size w' v ∧ Below w.heap.size w w' := by
  obtain ⟨i0, hi, hz0, hz1, hz2⟩ := info_parts Tryd.infoU8
  go_enter Tryd.func32, Tryd.ntmps32
  go_wp2_with fail
  refine (uint_zero _).mono ?_
  rintro e w1 ⟨v, rfl, ho, hb⟩
  have hsz := hb.size
  go_wp2_with fail
  refine (rtexts_nil _).mono ?_
  rintro e w2 ⟨rfl, rfl⟩
  go_wp2_with (at_builtin; refine wpList_append_own_none rfl _ _ 25 rfl w.heap.size 5 i0 1 Tryd.underlying25 hi _ _ _ rfl ho rfl ?_)
  go_ret
  exact ⟨_, rfl, ho, hb⟩

end Go.Proofs.YtggmgbdofjhkdabDoor.nilr
