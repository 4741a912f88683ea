/- Tags; how many bytes a preimage has. -/
import Derived.Test.YticmdmnjajjpbacDoorSUnhex
import Derived.Test.YticmdmnjajjpbacDoorSRefP
namespace Go.Proofs.YticmdmnjajjpbacDoor
open Go.RowKit

/-- may a byte stand in a tag? -/
def okG (c : UInt8) : Bool := decide (c.toNat = 46 ∨ (97 ≤ c.toNat ∧ c.toNat ≤ 122))
/-- is it a tag? -/
def tagP (l : List UInt8) : Bool := decide (1 ≤ l.length ∧ l.length ≤ 32 ∧ l.all okG = true)
theorem all_take (l : List UInt8) (k : Nat) (h : k < l.length) : (l.take (k + 1)).all okG = ((l.take k).all okG && okG (l.getD k 0)) := by
  rw [List.take_succ_eq_append_getElem h, List.all_append]
  simp [List.getD_eq_getElem?_getD, List.getElem?_eq_getElem h]
theorem all_bad (l : List UInt8) (k : Nat) (h : k < l.length) (hb : okG (l.getD k 0) = false) : l.all okG = false := by
  have hm : l.getD k 0 ∈ l := by
    rw [List.getD_eq_getElem?_getD, List.getElem?_eq_getElem h]
    exact List.getElem_mem _
  cases e : l.all okG with
  | false => rfl
  | true => rw [List.all_eq_true] at e; rw [e _ hm] at hb; cases hb
theorem tag_false {l : List UInt8} (h : ¬ (1 ≤ l.length ∧ l.length ≤ 32 ∧ l.all okG = true)) : Ending.returned (.bool (tagP l)) = .returned (.bool false) := by
  unfold tagP; rw [decide_eq_false h]
theorem tag_true {l : List UInt8} (h : 1 ≤ l.length ∧ l.length ≤ 32 ∧ l.all okG = true) : Ending.returned (.bool (tagP l)) = .returned (.bool true) := by
  unfold tagP; rw [decide_eq_true h]

set_option maxRecDepth 100000 in
set_option maxHeartbeats 1000000 in
theorem isTag_any (w : World) (s : ByteArray) (l : List UInt8) (hs : s.data.toList = l) :
    Calls Tryd.prog 36 #[.string s] w fun e w' => e = .returned (.bool (tagP l)) ∧ w' = w := by
  have HS := hid hs
  have HSZ := hid (show s.size = l.length by rw [← hs]; simp)
  clear hs
  by_cases h0 : s.size = 0
  · have hb : (((s.size : Nat) : Int) == 0) = true := by rw [h0]; rfl
    have HF := hid (tag_false (l := l) (fun h => by have := HSZ.out; omega))
    clear h0
    go_enter Tryd.func36, Tryd.ntmps36
    go_wp2
    go_ret
    exact ⟨HF.out.symm, rfl⟩
  · have hb : (((s.size : Nat) : Int) == 0) = false := by simp only [beq_eq_false_iff_ne, ne_eq]; omega
    by_cases h32 : 32 < s.size
    · have hg : (32 : Int) < ((s.size : Nat) : Int) := by omega
      have HF := hid (tag_false (l := l) (fun h => by have := HSZ.out; omega))
      clear h0
      go_enter Tryd.func36, Tryd.ntmps36
      go_wp2
      go_ret
      exact ⟨HF.out.symm, rfl⟩
    · have hg : ¬ (32 : Int) < ((s.size : Nat) : Int) := by omega
      have HP := hid (show 1 ≤ l.length ∧ l.length ≤ 32 by have := HSZ.out; omega)
      clear h0
      go_enter Tryd.func36, Tryd.ntmps36
      go_wp2
      go_loop [15] (fun vi => ∃ k : Nat, k ≤ s.size ∧ vi = .int .i64 k ∧ Hid ((l.take k).all okG = true)) (fun vi => s.size - (intOf vi).toNat)
      case atStart => exact ⟨0, by omega, rfl, rfl⟩
      case round =>
        obtain ⟨k, hk, rfl, HA⟩ := hrel
        by_cases hlt : k < s.size
        · have hi := str_at s l HS.out k (by rw [← HSZ.out]; exact hlt)
          have HN := hid (all_take l k (by rw [← HSZ.out]; exact hlt))
          have HBD := hid (all_bad l k (by rw [← HSZ.out]; exact hlt))
          obtain ⟨c, HC⟩ : ∃ c : UInt8, Hid (c = l.getD k 0) := ⟨_, rfl⟩
          rw [← HC.out] at hi HN HBD
          have hltI : (k : Int) < ((s.size : Nat) : Int) := by omega
          by_cases e46 : c.toNat = 46
          · have hne : (((c.toNat : Nat) : Int) != 46) = false := by rw [e46]; rfl
            have HOK := hid (show (l.take (k + 1)).all okG = true by rw [HN.out, HA.out, show okG c = true by unfold okG; exact decide_eq_true (Or.inl e46)]; rfl)
            clear e46
            go_wp2
            exact ⟨⟨k + 1, by omega, by simp, HOK⟩, by simp [intOf]; omega⟩
          · have hne : (((c.toNat : Nat) : Int) != 46) = true := by simp only [bne_iff_ne, ne_eq]; omega
            by_cases h97 : c.toNat < 97
            · have g1 : ((c.toNat : Nat) : Int) < 97 := by omega
              have HF := hid (tag_false (l := l) (fun h => by rw [HBD.out (by unfold okG; exact decide_eq_false (by omega))] at h; simp at h))
              clear e46
              go_wp2
              go_ret
              exact ⟨HF.out.symm, rfl⟩
            · have g1 : ¬ ((c.toNat : Nat) : Int) < 97 := by omega
              by_cases h122 : 122 < c.toNat
              · have g2 : (122 : Int) < ((c.toNat : Nat) : Int) := by omega
                have HF := hid (tag_false (l := l) (fun h => by rw [HBD.out (by unfold okG; exact decide_eq_false (by omega))] at h; simp at h))
                clear e46
                go_wp2
                go_ret
                exact ⟨HF.out.symm, rfl⟩
              · have g2 : ¬ (122 : Int) < ((c.toNat : Nat) : Int) := by omega
                have HOK := hid (show (l.take (k + 1)).all okG = true by rw [HN.out, HA.out, show okG c = true by unfold okG; exact decide_eq_true (Or.inr (by omega))]; rfl)
                clear e46
                go_wp2
                exact ⟨⟨k + 1, by omega, by simp, HOK⟩, by simp [intOf]; omega⟩
        · have hge : ¬ (k : Int) < ((s.size : Nat) : Int) := by omega
          have HT := hid (tag_true (l := l) ⟨HP.out.1, HP.out.2, by have := HA.out; rwa [List.take_of_length_le (by rw [← HSZ.out]; omega)] at this⟩)
          go_wp2
          go_ret
          exact ⟨HT.out.symm, rfl⟩

end Go.Proofs.YticmdmnjajjpbacDoor
