/- The document's Name, Same, text; lists of one's own; Of of both sides. -/
import Derived.Test.YtoehopigjmmagaaDoorPJoin2
namespace Go.Proofs.YtoehopigjmmagaaDoor
open Go.RowKit

set_option maxRecDepth 100000 in
set_option maxHeartbeats 4000000 in
theorem rname_any (s : ByteArray) (w : World) :
    Calls Tryd.prog 12 #[.string s] w fun e w' => e = .returned (.bool (nmP (bl s))) ∧ w' = w := by
  have HAT := hid (bl_at s)
  have hsz := bl_size s
  obtain ⟨l, hl⟩ : ∃ l, bl s = l := ⟨_, rfl⟩
  have hl' : s.toList = l := hl
  rw [hl] at hsz HAT ⊢
  by_cases hok : 1 ≤ l.length ∧ l.length ≤ 64 ∧ l ≠ [46] ∧ l ≠ [46, 46]
  · have HOK := hid hok
    obtain ⟨o1, o2, o3, o4⟩ := hok
    have p1 : ¬ (l.length : Int) < 1 := by omega
    have p2 : ¬ (64 : Int) < (l.length : Int) := by omega
    have HL := hid hl
    have b3 : (l == [46]) = false := by simp [o3]
    have b4 : (l == [46, 46]) = false := by simp [o4]
    clear hl
    go_enter Tryd.func12, Tryd.ntmps12
    go_wp2
    go_loop [3] (fun i => ∃ k : Nat, i = .int .i64 k ∧ k ≤ l.length ∧ nbTo l k) (fun i => l.length - (intOf i).toNat)
    case atStart => exact ⟨0, rfl, by omega, fun j hj => by omega⟩
    case round =>
      obtain ⟨k, rfl, hk, hto⟩ := hrel
      have HTO := hid hto
      clear hto
      by_cases hlt : k < l.length
      · have q1 : (k : Int) < (l.length : Int) := by omega
        have i1 := HAT.out k hlt
        obtain ⟨C, HC⟩ : ∃ C : Int, Hid (((l.getD k 0).toNat : Int) = C) := ⟨_, rfl⟩
        rw [HC.out] at i1
        have fin : nbI C = false → nmN l = 42 := fun h => nmN_bad2 k hlt (by rw [HC.out]; exact h)
        have FB : Hid (nbI C = false → nmP l = false) := fun h => by
          have := fin h
          unfold nmN at this
          split at this
          · cases this
          · rename_i h2; simpa using h2
        have FG : Hid (nbI C = true → nbTo l (k + 1)) := fun h j hj => by
          by_cases hjk : j = k
          · subst hjk; rw [HC.out]; exact h
          · exact HTO.out j (by omega)
        clear fin
        go_wp2
        all_goals first
          | (go_ret
             refine ⟨ret_b ?_, rfl⟩
             rw [FB.out (by unfold nbI; simp at *; omega)])
          | (refine ⟨⟨k + 1, by simp, by omega, FG.out (by unfold nbI; simp at *; omega)⟩, by simp [intOf]; omega⟩)
      · have q1 : ¬ (k : Int) < (l.length : Int) := by omega
        obtain rfl : k = l.length := by omega
        have HP := hid (show nmP l = true by
          unfold nmP
          rw [decide_eq_true HOK.out, nbTo_all HTO.out]; rfl)
        go_wp2
        go_ret
        exact ⟨ret_b (by rw [HP.out]), rfl⟩
  · have HB := hid (show nmP l = false by unfold nmP; rw [decide_eq_false hok]; rfl)
    have HOK := hid hok
    clear hok hl
    go_enter Tryd.func12, Tryd.ntmps12
    go_wp2
    all_goals first
      | (go_ret; exact ⟨ret_b (by rw [HB.out]), rfl⟩)
      | (exfalso; refine HOK.out ?_; simp_all; done)
      | (exfalso; refine HOK.out ?_; simp_all; omega)

end Go.Proofs.YtoehopigjmmagaaDoor
