/- The document's Tag. -/
import Derived.Test.YticmdmnjajjpbacDoorSTag
namespace Go.Proofs.YticmdmnjajjpbacDoor
open Go.RowKit

set_option maxRecDepth 100000 in
set_option maxHeartbeats 1000000 in
theorem rtag_any (w : World) (s : ByteArray) (l : List UInt8) (hs : s.data.toList = l) (hlen : s.size ≤ 1048576) :
    Calls Tryd.prog 39 #[.string s] w fun e w' => e = .returned (.bool (tagP l)) ∧ w' = w := by
  have HS := hid hs
  have HSZ := hid (show s.size = l.length by rw [← hs]; simp)
  clear hs
  go_enter Tryd.func39, Tryd.ntmps39
  go_wp2
  go_loop [3] (fun vi => ∃ k : Nat, k ≤ s.size ∧ vi = .int .i64 k ∧ Hid ((l.take k).all okG = true)) (fun vi => s.size - (intOf vi).toNat)
  case atStart => exact ⟨0, by omega, rfl, rfl⟩
  case round =>
    obtain ⟨k, hk, rfl, HA⟩ := hrel
    by_cases hlt : k < s.size
    · have hi := str_at s l HS.out k (by rw [← HSZ.out]; exact hlt)
      have HN := hid (all_take l k (by rw [← HSZ.out]; exact hlt))
      have HBD := hid (all_bad l k (by rw [← HSZ.out]; exact hlt))
      obtain ⟨c, HC⟩ : ∃ c : UInt8, Hid (c = l.getD k 0) := ⟨_, rfl⟩
      rw [← HC.out] at hi HN HBD
      have hltI : (k : Int) < ((s.size : Nat) : Int) := by omega
      by_cases e46 : c.toNat = 46
      · have hne : (((c.toNat : Nat) : Int) != 46) = false := by rw [e46]; rfl
        have HOK := hid (show (l.take (k + 1)).all okG = true by rw [HN.out, HA.out, show okG c = true by unfold okG; exact decide_eq_true (Or.inl e46)]; rfl)
        clear e46
        go_wp2
        exact ⟨⟨k + 1, by omega, by simp, HOK⟩, by simp [intOf]; omega⟩
      · have hne : (((c.toNat : Nat) : Int) != 46) = true := by simp only [bne_iff_ne, ne_eq]; omega
        by_cases h97 : c.toNat < 97
        · have g1 : ((c.toNat : Nat) : Int) < 97 := by omega
          have HF := hid (tag_false (l := l) (fun h => by rw [HBD.out (by unfold okG; exact decide_eq_false (by omega))] at h; simp at h))
          clear e46
          go_wp2
          go_ret
          exact ⟨HF.out.symm, rfl⟩
        · have g1 : ¬ ((c.toNat : Nat) : Int) < 97 := by omega
          by_cases h122 : 122 < c.toNat
          · have g2 : (122 : Int) < ((c.toNat : Nat) : Int) := by omega
            have HF := hid (tag_false (l := l) (fun h => by rw [HBD.out (by unfold okG; exact decide_eq_false (by omega))] at h; simp at h))
            clear e46
            go_wp2
            go_ret
            exact ⟨HF.out.symm, rfl⟩
          · have g2 : ¬ (122 : Int) < ((c.toNat : Nat) : Int) := by omega
            have HOK := hid (show (l.take (k + 1)).all okG = true by rw [HN.out, HA.out, show okG c = true by unfold okG; exact decide_eq_true (Or.inr (by omega))]; rfl)
            clear e46
            go_wp2
            exact ⟨⟨k + 1, by omega, by simp, HOK⟩, by simp [intOf]; omega⟩
    · have hge : ¬ (k : Int) < ((s.size : Nat) : Int) := by omega
      have HAL := hid (show l.all okG = true by have := HA.out; rwa [List.take_of_length_le (by rw [← HSZ.out]; omega)] at this)
      by_cases h1 : 1 ≤ s.size
      · have g1 : (1 : Int) ≤ ((s.size : Nat) : Int) := by omega
        by_cases h2 : s.size ≤ 32
        · have g2 : ((s.size : Nat) : Int) ≤ 32 := by omega
          have HT := hid (tag_true (l := l) ⟨by rw [← HSZ.out]; exact h1, by rw [← HSZ.out]; exact h2, HAL.out⟩)
          go_wp2
          go_ret
          exact ⟨HT.out.symm, rfl⟩
        · have g2 : ¬ ((s.size : Nat) : Int) ≤ 32 := by omega
          have HF := hid (tag_false (l := l) (fun h => by have := HSZ.out; omega))
          go_wp2
          go_ret
          exact ⟨HF.out.symm, rfl⟩
      · have g1 : ¬ (1 : Int) ≤ ((s.size : Nat) : Int) := by omega
        have HF := hid (tag_false (l := l) (fun h => by have := HSZ.out; omega))
        go_wp2
        go_ret
        exact ⟨HF.out.symm, rfl⟩

end Go.Proofs.YticmdmnjajjpbacDoor
