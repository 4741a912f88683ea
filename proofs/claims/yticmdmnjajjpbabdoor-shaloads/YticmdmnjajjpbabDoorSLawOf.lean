/- ShaOf answers true. -/
import Derived.Test.YticmdmnjajjpbabDoorSAwake
import Derived.Test.YticmdmnjajjpbabDoorSLawBack
import Derived.Test.YticmdmnjajjpbabDoorSRefS
import Derived.Test.YticmdmnjajjpbabDoorSRefP
namespace Go.Proofs.YticmdmnjajjpbabDoor
open Go.RowKit

theorem of_eq (H : List Int) (h : H.length = 32) (W : World) : (binOp .eql 53 (.agg (u8V H).toArray) (.agg (u8V H).toArray)).run Tryd.prog W = .ok (.bool true) W :=
  eql_row W 53 5 32 .u8 Tryd.underlying53 Tryd.underlying5 (by kernel_rfl) _ h
theorem fl_each (pss : List (List UInt8)) (j : Nat) (hj : j < pss.length) : (pss.getD j []).length ≤ (fl pss).length := by
  have h1 := fl_length pss j hj
  have h2 := fl_le pss (j + 1)
  omega

end Go.Proofs.YticmdmnjajjpbabDoor
