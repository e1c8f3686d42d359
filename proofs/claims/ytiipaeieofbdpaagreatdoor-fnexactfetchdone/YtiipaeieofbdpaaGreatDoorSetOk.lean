/- spec.l6Set: whether a list is a set. -/
import Derived.Test.YtiipaeieofbdpaaGreatDoorOrder
import Derived.Test.YtiipaeieofbdpaaGreatDoorHeld
namespace Go.Proofs.YtiipaeieofbdpaaGreatDoor
open Go.RowKit
/-- A list is a set of sums of so many bytes. -/
def IsSet (n : Int) (ts : List ByteArray) : Prop := isW n = true ∧ ts.length ≤ 500 ∧ okSums n ts
end Go.Proofs.YtiipaeieofbdpaaGreatDoor
