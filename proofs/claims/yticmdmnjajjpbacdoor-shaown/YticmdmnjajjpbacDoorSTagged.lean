/- Tagged of both sides. -/
import Derived.Test.YticmdmnjajjpbacDoorSPreC
import Derived.Test.YticmdmnjajjpbacDoorSRefS
import Derived.Test.YticmdmnjajjpbacDoorSClone
namespace Go.Proofs.YticmdmnjajjpbacDoor
open Go.RowKit

/-- the digest of a preimage; noughts for what is no tag -/
def tgD (l : List UInt8) (pss : List (List UInt8)) : List Int := if tagP l then ofP (preP l pss) else zeros 32
def tgE (l : List UInt8) : Int := if tagP l then 0 else 22
theorem tgD_length (l : List UInt8) (pss : List (List UInt8)) : (tgD l pss).length = 32 := by
  unfold tgD
  split
  · exact ofP_length _
  · exact zeros_length _

end Go.Proofs.YticmdmnjajjpbacDoor
