/- The document's Preimage of a tag. -/
import Derived.Test.YticmdmnjajjpbabDoorSPreB
namespace Go.Proofs.YticmdmnjajjpbabDoor
open Go.RowKit

end Go.Proofs.YticmdmnjajjpbabDoor
