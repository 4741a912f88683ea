/- The document's Alike and SameParts of any bytes and parts. -/
import Derived.Test.YticmdmnjajjpbabDoorSRefP
namespace Go.Proofs.YticmdmnjajjpbabDoor
open Go.RowKit

theorem ret_b {a b : Bool} (h : a = b) : Ending.returned (.bool a) = .returned (.bool b) := by rw [h]
theorem take_one {α : Type} {x y : List α} {d : α} {k : Nat} (h1 : k < x.length) (h2 : k < y.length) (h : x.take k = y.take k) (e : x.getD k d = y.getD k d) : x.take (k + 1) = y.take (k + 1) := by
  rw [List.take_succ_eq_append_getElem h1, List.take_succ_eq_append_getElem h2, h]
  simp [List.getD_eq_getElem?_getD, h1, h2] at e
  rw [e]
theorem src_at {w : World} {ao : Option Addr} {n c : Nat} {bs : List UInt8} (h : Src w (.slice ao n c) bs) (k : Nat) (hk : k < bs.length) : ∃ ad, ao = some ad ∧ w.cell? (ad.add k) = some (.int .u8 (bs.getD k 0).toNat) := by
  rcases h.2 with ⟨_, h0⟩ | ⟨ad, cap, hv, _, _, _, hc⟩
  · rw [h0] at hk; simp at hk
  · injection hv with h1
    exact ⟨ad, h1, hc k hk⟩

set_option maxRecDepth 100000 in
set_option maxHeartbeats 1000000 in
theorem alike_any (va vb : Value) (bs cs : List UInt8) (w : World) (ha : Src w va bs) (hb : Src w vb cs) :
    Calls Tryd.prog 28 #[va, vb] w fun e w' => e = .returned (.bool (decide (bs = cs))) ∧ ∃ k, w' = w.drewN k := by
  obtain ⟨aa, ca, rfl⟩ := src_shape ha
  obtain ⟨ab, cb, rfl⟩ := src_shape hb
  have hl := ha.1
  have HA := hid ha
  have HB := hid hb
  clear ha hb
  by_cases hlen : bs.length = cs.length
  · have hlen' : (bs.length : Int) = (cs.length : Int) := by omega
    have HLEN := hid hlen
    go_enter Tryd.func28, Tryd.ntmps28
    rw [← hlen]
    clear hlen hlen'
    go_wp2
    go_loopw [5] (fun i wr => ∃ k q : Nat, k ≤ bs.length ∧ i = .int .i64 k ∧ wr = w.drewN q ∧ Hid (bs.take k = cs.take k)) (fun i _ => bs.length - (intOf i).toNat)
    case atStart => exact ⟨0, 0, by omega, rfl, rfl, rfl⟩
    case round =>
      obtain ⟨k, q, hk, rfl, rfl, HTK⟩ := hrel
      by_cases hlt : k < bs.length
      · obtain ⟨ad, rfl, c1⟩ := src_at HA.out k hlt
        obtain ⟨bd, rfl, c2⟩ := src_at HB.out k (by rw [← HLEN.out]; exact hlt)
        by_cases he : bs.getD k 0 = cs.getD k 0
        · have HN := hid (take_one hlt (by rw [← HLEN.out]; exact hlt) HTK.out he)
          rw [← he] at c2
          obtain ⟨x, hx⟩ : ∃ x : Nat, x = (bs.getD k 0).toNat := ⟨_, rfl⟩
          rw [← hx] at c1 c2
          clear hx he
          go_wp2
          go_quiet (fail)
          go_wp2
          exact ⟨⟨k + 1, _, by omega, by simp, rfl, HN⟩, by simp [intOf]; omega⟩
        · have HF := hid (show (false : Bool) = decide (bs = cs) from (decide_eq_false (fun e => he (by rw [e]))).symm)
          have hne : ¬ (bs.getD k 0).toNat = (cs.getD k 0).toNat := fun e => he (UInt8.toNat_inj.1 e)
          generalize (bs.getD k 0).toNat = x at c1 hne
          generalize (cs.getD k 0).toNat = y at c2 hne
          have q1 : ((x : Int) != (y : Int)) = true := by simp; omega
          have q2 : ((x : Int) == (y : Int)) = false := by simp; omega
          have q3 : ¬ (x : Int) = (y : Int) := by omega
          clear he hne
          go_wp2
          go_quiet (fail)
          go_wp2
          go_ret
          exact ⟨ret_b HF.out, _, World.drewN_drewN _ _ _⟩
      · obtain rfl : k = bs.length := by omega
        have HT := hid (show (true : Bool) = decide (bs = cs) from (decide_eq_true (by
          have h1 := HTK.out
          rw [List.take_length, HLEN.out, List.take_length] at h1
          exact h1)).symm)
        go_wp2
        go_ret
        exact ⟨ret_b HT.out, _, rfl⟩
  · have HF := hid (show (false : Bool) = decide (bs = cs) from (decide_eq_false (fun e => hlen (by rw [e]))).symm)
    have q1 : ((bs.length : Int) != (cs.length : Int)) = true := by simp; omega
    have q2 : ((bs.length : Int) == (cs.length : Int)) = false := by simp; omega
    have q3 : ¬ (bs.length : Int) = (cs.length : Int) := by omega
    clear hlen
    go_enter Tryd.func28, Tryd.ntmps28
    go_wp2
    go_ret
    exact ⟨ret_b HF.out, 0, rfl⟩

set_option maxRecDepth 100000 in
set_option maxHeartbeats 1000000 in
theorem same_parts_any (X Y : Nat → Prop) (w : World) (va vb : Value) (pss qss : List (List UInt8)) (ha : Lists X w va pss) (hb : Lists Y w vb qss) (hn : pss.length ≤ 1048576) (hm : qss.length ≤ 1048576) :
    Calls Tryd.prog 27 #[va, vb] w fun e w' => e = .returned (.bool (decide (pss = qss))) ∧ ∃ k, w' = w.drewN k := by
  obtain ⟨aa, ca, rfl⟩ : ∃ aa ca, va = .slice aa pss.length ca := by
    rcases ha with ⟨ao, c, rfl, rfl⟩ | ⟨g, o, c, rfl, _⟩
    · exact ⟨_, _, rfl⟩
    · exact ⟨_, _, rfl⟩
  obtain ⟨ab, cb, rfl⟩ : ∃ aa ca, vb = .slice aa qss.length ca := by
    rcases hb with ⟨ao, c, rfl, rfl⟩ | ⟨g, o, c, rfl, _⟩
    · exact ⟨_, _, rfl⟩
    · exact ⟨_, _, rfl⟩
  have HA := hid ha
  have HB := hid hb
  clear ha hb
  by_cases hlen : pss.length = qss.length
  · have HLEN := hid hlen
    go_enter Tryd.func27, Tryd.ntmps27
    rw [← hlen]
    clear hlen
    go_wp2
    go_loopw [5] (fun i wr => ∃ k q : Nat, k ≤ pss.length ∧ i = .int .i64 k ∧ wr = w.drewN q ∧ Hid (pss.take k = qss.take k)) (fun i _ => pss.length - (intOf i).toNat)
    case atStart => exact ⟨0, 0, by omega, rfl, rfl, rfl⟩
    case round =>
      obtain ⟨k, q, hk, rfl, rfl, HTK⟩ := hrel
      by_cases hlt : k < pss.length
      · have hlt2 : k < qss.length := by rw [← HLEN.out]; exact hlt
        obtain ⟨g1, o1, rfl, u1, c1, s1⟩ : ∃ g o, aa = some ⟨g, o, none⟩ ∧ ∃ u, w.cell? ⟨g, o + k, none⟩ = some u ∧ Src w u (pss.getD k []) := by
          rcases HA.out with ⟨ao, c, hv, h0⟩ | ⟨g, o, c, hv, _, _, hc⟩
          · rw [h0] at hlt; simp at hlt
          · injection hv with h1
            obtain ⟨u, h2, h3, _⟩ := hc k hlt
            exact ⟨g, o, h1, u, h2, h3⟩
        obtain ⟨g2, o2, rfl, u2, c2, s2⟩ : ∃ g o, ab = some ⟨g, o, none⟩ ∧ ∃ u, w.cell? ⟨g, o + k, none⟩ = some u ∧ Src w u (qss.getD k []) := by
          rcases HB.out with ⟨ao, c, hv, h0⟩ | ⟨g, o, c, hv, _, _, hc⟩
          · rw [h0] at hlt2; simp at hlt2
          · injection hv with h1
            obtain ⟨u, h2, h3, _⟩ := hc k hlt2
            exact ⟨g, o, h1, u, h2, h3⟩
        obtain ⟨W, HW⟩ : ∃ W, Hid (W = w.drewN q) := ⟨_, rfl⟩
        have d1 : W.cell? ⟨g1, o1 + k, none⟩ = some u1 := by rw [HW.out]; exact c1
        have d2 : W.cell? ⟨g2, o2 + k, none⟩ = some u2 := by rw [HW.out]; exact c2
        have HAL := hid (fun (n : Nat) => alike_any u1 u2 (pss.getD k []) (qss.getD k []) (W.drewN n) (by rw [HW.out]; exact s1) (by rw [HW.out]; exact s2))
        clear s1 s2 c1 c2
        rw [← HW.out]
        have hli : (k : Int) < (pss.length : Int) := by omega
        have hli2 : (k : Int) < (qss.length : Int) := by omega
        clear hlt2
        by_cases he : pss.getD k [] = qss.getD k []
        · have HN := hid (take_one hlt (by rw [← HLEN.out]; exact hlt) HTK.out he)
          rw [decide_eq_true he] at HAL
          clear he
          go_upto_region 6 with fail
          go_quiet (first
            | (go_at_call 28; exact Calls.quiet_of (HAL.out _)))
          go_wp2
          exact ⟨⟨k + 1, _, by omega, by simp, by rw [HW.out, World.drewN_drewN], HN⟩, by simp [intOf]; omega⟩
        · have HF := hid (show (false : Bool) = decide (pss = qss) from (decide_eq_false (fun e => he (by rw [e]))).symm)
          rw [decide_eq_false he] at HAL
          clear he
          go_upto_region 6 with fail
          go_quiet (first
            | (go_at_call 28; exact Calls.quiet_of (HAL.out _)))
          go_wp2
          go_ret
          exact ⟨ret_b HF.out, _, by rw [HW.out, World.drewN_drewN]⟩
      · obtain rfl : k = pss.length := by omega
        have HT := hid (show (true : Bool) = decide (pss = qss) from (decide_eq_true (by
          have h1 := HTK.out
          rw [List.take_length, HLEN.out, List.take_length] at h1
          exact h1)).symm)
        go_wp2
        go_ret
        exact ⟨ret_b HT.out, _, rfl⟩
  · have HF := hid (show (false : Bool) = decide (pss = qss) from (decide_eq_false (fun e => hlen (by rw [e]))).symm)
    have q1 : ((pss.length : Int) != (qss.length : Int)) = true := by simp; omega
    have q2 : ((pss.length : Int) == (qss.length : Int)) = false := by simp; omega
    have q3 : ¬ (pss.length : Int) = (qss.length : Int) := by omega
    clear hlen
    go_enter Tryd.func27, Tryd.ntmps27
    go_wp2
    go_ret
    exact ⟨ret_b HF.out, 0, rfl⟩

end Go.Proofs.YticmdmnjajjpbabDoor
