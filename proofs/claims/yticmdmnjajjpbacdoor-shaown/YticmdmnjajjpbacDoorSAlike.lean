/- The document's Alike and SameParts of any bytes and parts. -/
import Derived.Test.YticmdmnjajjpbacDoorSRefP
namespace Go.Proofs.YticmdmnjajjpbacDoor
open Go.RowKit

theorem ret_b {a b : Bool} (h : a = b) : Ending.returned (.bool a) = .returned (.bool b) := by rw [h]
theorem take_one {α : Type} {x y : List α} {d : α} {k : Nat} (h1 : k < x.length) (h2 : k < y.length) (h : x.take k = y.take k) (e : x.getD k d = y.getD k d) : x.take (k + 1) = y.take (k + 1) := by
  rw [List.take_succ_eq_append_getElem h1, List.take_succ_eq_append_getElem h2, h]
  simp [List.getD_eq_getElem?_getD, h1, h2] at e
  rw [e]
theorem src_at {w : World} {ao : Option Addr} {n c : Nat} {bs : List UInt8} (h : Src w (.slice ao n c) bs) (k : Nat) (hk : k < bs.length) : ∃ ad, ao = some ad ∧ w.cell? (ad.add k) = some (.int .u8 (bs.getD k 0).toNat) := by
  rcases h.2 with ⟨_, h0⟩ | ⟨ad, cap, hv, _, _, _, hc⟩
  · rw [h0] at hk; simp at hk
  · injection hv with h1
    exact ⟨ad, h1, hc k hk⟩

set_option maxRecDepth 100000 in
set_option maxHeartbeats 1000000 in
theorem alike_any (va vb : Value) (bs cs : List UInt8) (w : World) (ha : Src w va bs) (hb : Src w vb cs) :
    Calls Tryd.prog 25 #[va, vb] w fun e w' => e = .returned (.bool (decide (bs = cs))) ∧ ∃ k, w' = w.drewN k := by
  obtain ⟨aa, ca, rfl⟩ := src_shape ha
  obtain ⟨ab, cb, rfl⟩ := src_shape hb
  have hl := ha.1
  have HA := hid ha
  have HB := hid hb
  clear ha hb
  by_cases hlen : bs.length = cs.length
  · have hlen' : (bs.length : Int) = (cs.length : Int) := by omega
    have HLEN := hid hlen
    go_enter Tryd.func25, Tryd.ntmps25
    rw [← hlen]
    clear hlen hlen'
    go_wp2
    go_loopw [5] (fun i wr => ∃ k q : Nat, k ≤ bs.length ∧ i = .int .i64 k ∧ wr = w.drewN q ∧ Hid (bs.take k = cs.take k)) (fun i _ => bs.length - (intOf i).toNat)
    case atStart => exact ⟨0, 0, by omega, rfl, rfl, rfl⟩
    case round =>
      obtain ⟨k, q, hk, rfl, rfl, HTK⟩ := hrel
      by_cases hlt : k < bs.length
      · obtain ⟨ad, rfl, c1⟩ := src_at HA.out k hlt
        obtain ⟨bd, rfl, c2⟩ := src_at HB.out k (by rw [← HLEN.out]; exact hlt)
        by_cases he : bs.getD k 0 = cs.getD k 0
        · have HN := hid (take_one hlt (by rw [← HLEN.out]; exact hlt) HTK.out he)
          rw [← he] at c2
          obtain ⟨x, hx⟩ : ∃ x : Nat, x = (bs.getD k 0).toNat := ⟨_, rfl⟩
          rw [← hx] at c1 c2
          clear hx he
          go_wp2
          go_quiet (fail)
          go_wp2
          exact ⟨⟨k + 1, _, by omega, by simp, rfl, HN⟩, by simp [intOf]; omega⟩
        · have HF := hid (show (false : Bool) = decide (bs = cs) from (decide_eq_false (fun e => he (by rw [e]))).symm)
          have hne : ¬ (bs.getD k 0).toNat = (cs.getD k 0).toNat := fun e => he (UInt8.toNat_inj.1 e)
          generalize (bs.getD k 0).toNat = x at c1 hne
          generalize (cs.getD k 0).toNat = y at c2 hne
          have q1 : ((x : Int) != (y : Int)) = true := by simp; omega
          have q2 : ((x : Int) == (y : Int)) = false := by simp; omega
          have q3 : ¬ (x : Int) = (y : Int) := by omega
          clear he hne
          go_wp2
          go_quiet (fail)
          go_wp2
          go_ret
          exact ⟨ret_b HF.out, _, World.drewN_drewN _ _ _⟩
      · obtain rfl : k = bs.length := by omega
        have HT := hid (show (true : Bool) = decide (bs = cs) from (decide_eq_true (by
          have h1 := HTK.out
          rw [List.take_length, HLEN.out, List.take_length] at h1
          exact h1)).symm)
        go_wp2
        go_ret
        exact ⟨ret_b HT.out, _, rfl⟩
  · have HF := hid (show (false : Bool) = decide (bs = cs) from (decide_eq_false (fun e => hlen (by rw [e]))).symm)
    have q1 : ((bs.length : Int) != (cs.length : Int)) = true := by simp; omega
    have q2 : ((bs.length : Int) == (cs.length : Int)) = false := by simp; omega
    have q3 : ¬ (bs.length : Int) = (cs.length : Int) := by omega
    clear hlen
    go_enter Tryd.func25, Tryd.ntmps25
    go_wp2
    go_ret
    exact ⟨ret_b HF.out, 0, rfl⟩

end Go.Proofs.YticmdmnjajjpbacDoor
