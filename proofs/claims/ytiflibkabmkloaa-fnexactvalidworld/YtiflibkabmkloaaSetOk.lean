/- spec.l6Set: whether a list is a set. -/
import Derived.Test.YtiflibkabmkloaaOrder
import Derived.Test.YtiflibkabmkloaaHeld
namespace Go.Proofs.Ytiflibkabmkloaa
open Go.RowKit
/-- A list is a set of sums of so many bytes. -/
def IsSet (n : Int) (ts : List ByteArray) : Prop := isW n = true ∧ ts.length ≤ 500 ∧ okSums n ts
end Go.Proofs.Ytiflibkabmkloaa
