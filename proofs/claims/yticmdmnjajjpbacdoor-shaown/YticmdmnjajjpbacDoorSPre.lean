/- sizeOfPreimage, and what a preimage is. -/
import Derived.Test.YticmdmnjajjpbacDoorSRTag
namespace Go.Proofs.YticmdmnjajjpbacDoor
open Go.RowKit

/-- a part, its length ahead of it -/
def pre1 (p : List UInt8) : List UInt8 := be8 p.length ++ p
/-- all parts -/
def preQ (pss : List (List UInt8)) : List (List UInt8) := pss.map pre1
/-- what is hashed -/
def preP (l : List UInt8) (pss : List (List UInt8)) : List UInt8 := l.length.toUInt8 :: (l ++ fl (preQ pss))
theorem preQ_length (pss : List (List UInt8)) : (preQ pss).length = pss.length := by simp [preQ]
theorem preQ_get (pss : List (List UInt8)) (k : Nat) (h : k < pss.length) : (preQ pss).getD k [] = pre1 (pss.getD k []) := by
  simp [preQ, List.getD_eq_getElem?_getD, List.getElem?_eq_getElem h]
theorem preQ_snoc (pss : List (List UInt8)) (k : Nat) (h : k < pss.length) : fl ((preQ pss).take (k + 1)) = fl ((preQ pss).take k) ++ be8 (pss.getD k []).length ++ pss.getD k [] := by
  rw [fl_snoc _ k (by rw [preQ_length]; exact h), preQ_get pss k h, pre1, List.append_assoc]
theorem preQ_len (pss : List (List UInt8)) : (fl (preQ pss)).length = 8 * pss.length + (fl pss).length := by
  induction pss with
  | nil => rfl
  | cons p r ih =>
    have e1 : fl (preQ (p :: r)) = pre1 p ++ fl (preQ r) := rfl
    have e2 : fl (p :: r) = p ++ fl r := rfl
    rw [e1, e2, List.length_append, List.length_append, ih, pre1, List.length_append, be8_length, List.length_cons]
    omega

set_option maxRecDepth 100000 in
set_option maxHeartbeats 1000000 in
theorem sizeOf_any (X : Nat → Prop) (w : World) (s : ByteArray) (v : Value) (pss : List (List UInt8)) (hs : s.size ≤ 1048576) (hv : Lists X w v pss) (hn : pss.length ≤ 1048576) (hN : (fl pss).length ≤ 1048576) :
    Calls Tryd.prog 37 #[.string s, v] w fun e w' => e = .returned (.int .i64 ((1 + s.size + (fl (preQ pss)).length : Nat) : Int)) ∧ w' = w := by
  rcases hv with ⟨ao, c, rfl, rfl⟩ | ⟨g, o, c, rfl, hlt, hX, hc⟩
  · go_enter Tryd.func37, Tryd.ntmps37
    go_wp2
    go_loop [5, 13] (fun r i => r = .int .i64 (1 + (s.size : Int)) ∧ i = .int .i64 0) (fun _ _ => 0)
    case atStart => exact ⟨rfl, rfl⟩
    case round =>
      obtain ⟨rfl, rfl⟩ := hrel
      go_wp2
      go_ret
      refine ⟨?_, rfl⟩
      show Ending.returned (.int .i64 (1 + (s.size : Int))) = _
      congr 2
  · have HC := hid hc
    clear hc
    have hQ := preQ_len pss
    obtain ⟨T, HT⟩ : ∃ T, T = (fl (preQ pss)).length := ⟨_, rfl⟩
    rw [← HT] at hQ
    have HTH := hid HT
    clear HT
    go_enter Tryd.func37, Tryd.ntmps37
    go_wp2
    go_loop [5, 13] (fun r i => ∃ (k rr : Nat), k ≤ pss.length ∧ Hid (rr = 1 + s.size + (fl ((preQ pss).take k)).length) ∧ r = .int .i64 rr ∧ i = .int .i64 k) (fun _ i => pss.length - (intOf i).toNat)
    case atStart => exact ⟨0, 1 + s.size, by omega, rfl, by simp, rfl⟩
    case round =>
      obtain ⟨k, rr, hk, HSUM, rfl, rfl⟩ := hrel
      by_cases hkl : k < pss.length
      · obtain ⟨u, hcell, hsrc, _⟩ := HC.out k hkl
        obtain ⟨ao, cu, rfl⟩ := src_shape hsrc
        have HS1 := hid (preQ_snoc pss k hkl)
        have HS2 := hid (fl_le (preQ pss) (k + 1))
        clear hsrc
        obtain ⟨L, HL⟩ : ∃ L, Hid (L = (pss.getD k []).length) := ⟨_, rfl⟩
        rw [← HL.out] at hcell
        have HNX := hid (show (fl ((preQ pss).take (k + 1))).length = (fl ((preQ pss).take k)).length + 8 + L by rw [HS1.out, List.length_append, List.length_append, be8_length, HL.out])
        have hb : rr + 8 + L ≤ 1 + s.size + T := by have h1 := HNX.out; have h2 := HS2.out; have h3 := HTH.out; have h4 := HSUM.out; omega
        go_wp2
        refine ⟨⟨k + 1, rr + (8 + L), by omega, hid (by have h1 := HNX.out; have h4 := HSUM.out; omega), by simp, by simp⟩, by simp [intOf]; omega⟩
      · obtain rfl : k = pss.length := by omega
        have HFIN := hid (show rr = 1 + s.size + T by
          have h4 := HSUM.out
          rw [← preQ_length pss, fl_all, ← HTH.out] at h4
          exact h4)
        go_wp2
        go_ret
        refine ⟨?_, rfl⟩
        rw [← HTH.out]
        show Ending.returned (.int .i64 (rr : Int)) = Ending.returned (.int .i64 (1 + (s.size : Int) + (T : Int)))
        congr 2
        have := HFIN.out
        omega

end Go.Proofs.YticmdmnjajjpbacDoor
