/- spec.l6Set: whether a list is a set. -/
import Derived.Test.YtlnkhbnbcmllaaaGreatOrder
import Derived.Test.YtlnkhbnbcmllaaaGreatHeld
namespace Go.Proofs.YtlnkhbnbcmllaaaGreat
open Go.RowKit
/-- A list is a set of sums of so many bytes. -/
def IsSet (n : Int) (ts : List ByteArray) : Prop := isW n = true ∧ ts.length ≤ 500 ∧ okSums n ts
end Go.Proofs.YtlnkhbnbcmllaaaGreat
