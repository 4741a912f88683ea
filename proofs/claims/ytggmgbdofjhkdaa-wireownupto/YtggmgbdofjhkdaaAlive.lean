/- That a reader of one byte is one: alive answers true, and only makes memory. -/
import Derived.Test.YtggmgbdofjhkdaaRdD
namespace Go.Proofs.Ytggmgbdofjhkdaa
open Go.RowKit

theorem src_one (w : World) (x : UInt8) (n : Int) (hx : n = x.toNat) : Src (w.alloc (.cells #[.int .u8 n] 5)) (.slice (some ⟨w.heap.size, 0, none⟩) 1 1) [x] := by
  subst hx
  refine ⟨by simp, Or.inr ⟨⟨w.heap.size, 0, none⟩, 1, rfl, by simp, by unfold maxLen; omega, fun _ => by simp, fun j hj => ?_⟩⟩
  obtain rfl : j = 0 := by simpa using hj
  simp [Addr.add]

set_option maxHeartbeats 400000 in
theorem alive_true (w : World) :
    Calls Try.prog 16 #[] w fun e w' => e = .returned (.bool true) ∧ Below w.heap.size w w' := by
  go_enter Try.func16, Try.ntmps16
  go_wp2_with fail
  refine (newReader_any _ [9] _ (src_one w 9 9 rfl)).mono ?_
  rintro e w1 ⟨b, v, rfl, hR, hb⟩
  have HR : Hid _ := hR
  have HB : Hid _ := hb
  clear hR hb
  go_wp2_with fail
  refine (rleft_any _ _ _ _ _ _ _ _ HR.out).mono ?_
  rintro e w2 ⟨rfl, k, rfl⟩
  go_wp2_with fail
  refine (byte_some _ _ _ _ _ _ _ (HR.out.drewN k) (by simp)).mono ?_
  rintro e w2 ⟨rfl, hR2, hg⟩
  have HR2 : Hid _ := hR2
  have HG : Hid _ := hg
  clear hR2 hg
  go_wp2_with fail
  refine (rleft_any _ _ _ _ _ _ _ _ HR2.out).mono ?_
  rintro e w3 ⟨rfl, k2, rfl⟩
  go_wp2
  go_ret
  refine ⟨rfl, ?_⟩
  have e1 : w.heap.size ≤ w1.heap.size := by have := HB.out.size; simp at this; omega
  have e2 : w.heap.size ≤ b := by have := HR.out.lo; simp at this; omega
  exact below_drewN ((below_drewN ((below_walk _ _).trans (HB.out.mono (by simp))) k).grown HG.out e1 (by intro j hj; cases hj; exact e2)) _

end Go.Proofs.Ytggmgbdofjhkdaa
