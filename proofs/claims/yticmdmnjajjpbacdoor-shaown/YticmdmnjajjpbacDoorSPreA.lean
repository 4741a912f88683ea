/- Preimage. -/
import Derived.Test.YticmdmnjajjpbacDoorSPre
namespace Go.Proofs.YticmdmnjajjpbacDoor
open Go.RowKit

set_option maxRecDepth 100000 in
set_option maxHeartbeats 1000000 in
theorem pre_no (w : World) (s : ByteArray) (l : List UInt8) (v : Value) (hs : s.data.toList = l) (ht : tagP l = false) :
    Calls Tryd.prog 22 #[.string s, v] w fun e w' => e = .returned (.tuple #[.slice none 0 0, .int .i64 22]) ∧ w' = w := by
  have HS := hid hs
  have HT := hid ht
  clear hs ht
  go_enter Tryd.func22, Tryd.ntmps22
  go_wp2_with fail
  refine (isTag_any w s l HS.out).mono ?_
  rintro e w1 ⟨rfl, rfl⟩
  rw [HT.out]
  go_wp2
  exact bodyPost_ret (results_tmp2 rfl _ _ _) rfl ⟨rfl, rfl⟩

set_option maxRecDepth 100000 in
set_option maxHeartbeats 1000000 in
theorem rpre_no (w : World) (s : ByteArray) (l : List UInt8) (v : Value) (hs : s.data.toList = l) (hlen : s.size ≤ 1048576) (ht : tagP l = false) :
    Calls Tryd.prog 24 #[.string s, v] w fun e w' => e = .returned (.tuple #[.slice none 0 0, .int .i64 22]) ∧ w' = w := by
  have HS := hid hs
  have HT := hid ht
  clear hs ht
  go_enter Tryd.func24, Tryd.ntmps24
  go_wp2_with fail
  refine (rtag_any w s l HS.out hlen).mono ?_
  rintro e w1 ⟨rfl, rfl⟩
  rw [HT.out]
  go_wp2
  exact bodyPost_ret (results_tmp2 rfl _ _ _) rfl ⟨rfl, rfl⟩

end Go.Proofs.YticmdmnjajjpbacDoor
