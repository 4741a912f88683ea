/- What the methods of a reader that no call made do: each answers zero and only makes memory. -/
import Derived.Test.YtggmgbdofjhkdabDoorAlive
namespace Go.Proofs.YtggmgbdofjhkdabDoor.nilr
open Go.RowKit

/-- a reader that no call made: nil, or one whose mark 'made' is not set -/
def NilR (w : World) (r : Value) : Prop :=
  r = .pointer none ∨ ∃ b, b < w.heap.size ∧ r = .pointer (some ⟨b, 0, none⟩) ∧ w.cell? ⟨b, 4, none⟩ = some (.bool false)

theorem NilR.below {w w' : World} {r : Value} (h : NilR w r) (hb : Below w.heap.size w w') : NilR w' r := by
  rcases h with h | ⟨b, hlt, rfl, hc⟩
  · exact Or.inl h
  · exact Or.inr ⟨b, Nat.lt_of_lt_of_le hlt hb.size, rfl, by rw [hb.cell (p := ⟨b, 4, none⟩) hlt]; exact hc⟩

set_option maxHeartbeats 400000 in
theorem own_any (r : Value) (w : World) (h : NilR w r) :
    Calls Tryd.prog 14 #[r] w fun e w' => e = .returned (.pointer (some ⟨w.heap.size, 0, none⟩)) ∧ w' = w.alloc (.cells #[.slice none 0 0, .int .i64 0, .int .i64 2, .int .i64 0] 32) := by
  rcases h with rfl | ⟨b, hlt, rfl, hc⟩
  · go_enter Tryd.func14, Tryd.ntmps14
    go_wp2
    go_ret
    exact ⟨rfl, rfl⟩
  · go_enter Tryd.func14, Tryd.ntmps14
    go_wp2
    go_ret
    exact ⟨rfl, rfl⟩

end Go.Proofs.YtggmgbdofjhkdabDoor.nilr
