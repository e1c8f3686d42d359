/- What the laws ask of lists: markList, heldList. -/
import Derived.Test.YtecdeelejhgooaaEqList
import Derived.Test.YtecdeelejhgooaaMark
namespace Go.Proofs.Ytecdeelejhgooaa
open Go.RowKit
end Go.Proofs.Ytecdeelejhgooaa
