/- spec.l6Set: whether a list is a set. -/
import Derived.Test.YtmcipciimnncmaaOrder
import Derived.Test.YtmcipciimnncmaaHeld
namespace Go.Proofs.Ytmcipciimnncmaa
open Go.RowKit
/-- A list is a set of sums of so many bytes. -/
def IsSet (n : Int) (ts : List ByteArray) : Prop := isW n = true ∧ ts.length ≤ 500 ∧ okSums n ts
end Go.Proofs.Ytmcipciimnncmaa
