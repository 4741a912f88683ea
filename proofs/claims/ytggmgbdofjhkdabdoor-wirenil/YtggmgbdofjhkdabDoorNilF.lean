/- What a word read from a reader that no call made is: no bytes, or one byte 0; and that nothing is left of it when zeros are trimmed. -/
import Derived.Test.YtggmgbdofjhkdabDoorNilE
namespace Go.Proofs.YtggmgbdofjhkdabDoor.nilr
open Go.RowKit

/-- no bytes, or one byte 0 -/
def Zs (w : World) (v : Value) : Prop :=
  v = .slice none 0 0 ∨ ∃ g cap, 1 ≤ cap ∧ cap ≤ maxLen ∧ v = .slice (some ⟨g, 0, none⟩) 1 cap ∧ w.cell? ⟨g, 0, none⟩ = some (.int .u8 0)

theorem Zero1.zs {base : Nat} {w : World} {v : Value} (h : Zero1 base w v) : Zs w v := by
  obtain ⟨_, h | ⟨g, cap, cur, rfl, _, hh, hn, hm, hs, ht⟩⟩ := id h
  · exact absurd h.2 (by decide)
  · refine Or.inr ⟨g, cap, hn, hm, rfl, ?_⟩
    have := World.ownsRow.cells h (g := g) rfl 0 (.int .u8 0) rfl
    simpa [Addr.add] using this

set_option maxHeartbeats 400000 in
theorem trimr_one (g cap : Nat) (w : World) (hc1 : 1 ≤ cap) (hc : w.cell? ⟨g, 0, none⟩ = some (.int .u8 0)) :
    Calls Tryd.prog 17 #[.slice (some ⟨g, 0, none⟩) 1 cap, .int .u8 0] w fun e w' => e = .returned (.slice (some ⟨g, 0, none⟩) 0 cap) ∧ w' = w := by
  go_enter Tryd.func17, Tryd.ntmps17
  go_wp2
  go_loop [0] (fun s => ∃ n : Nat, n ≤ 1 ∧ s = .slice (some ⟨g, 0, none⟩) n cap) (fun s => match s with | .slice _ n _ => n | _ => 0)
  case atStart => exact ⟨1, Nat.le_refl _, rfl⟩
  case round =>
    obtain ⟨n, hn, rfl⟩ := hrel
    rcases (show n = 0 ∨ n = 1 by omega) with rfl | rfl
    · go_wp2
      go_ret
      exact ⟨rfl, rfl⟩
    · go_wp2
      go_round
      case rel => exact ⟨0, by omega, rfl⟩
      case measure => simp

set_option maxHeartbeats 400000 in
theorem triml_none (g cap : Nat) (w : World) :
    Calls Tryd.prog 16 #[.slice (some ⟨g, 0, none⟩) 0 cap, .int .u8 0] w fun e w' => e = .returned (.slice none 0 0) ∧ w' = w := by
  go_enter Tryd.func16, Tryd.ntmps16
  go_wp2
  go_loop [0] (fun s => s = .slice (some ⟨g, 0, none⟩) 0 cap) (fun _ => 0)
  case atStart => rfl
  case round =>
    subst hrel
    go_wp2
    go_ret
    exact ⟨rfl, rfl⟩

set_option maxRecDepth 100000 in
set_option maxHeartbeats 400000 in
theorem trim_zs (v : Value) (w : World) (h : Zs w v) :
    Calls Tryd.prog 6 #[v, .string ⟨#[0]⟩] w fun e w' => e = .returned (.slice none 0 0) ∧ Below w.heap.size w w' := by
  rcases h with rfl | ⟨g, cap, hc1, hc2, rfl, hc⟩
  · go_enter Tryd.func6, Tryd.ntmps6
    go_wp2
    go_ret
    exact ⟨rfl, Below.refl _ _⟩
  · go_enter Tryd.func6, Tryd.ntmps6
    go_wp2_with fail
    go_quiet (first | (go_at_call 17; exact Calls.quiet_of_same (trimr_one _ _ _ hc1 (by go_simp))) | (go_at_call 16; exact Calls.quiet_of_same (triml_none _ _ _)))
    go_wp2
    go_ret
    exact ⟨rfl, below_drewN (Below.refl _ _) _⟩

end Go.Proofs.YtggmgbdofjhkdabDoor.nilr
