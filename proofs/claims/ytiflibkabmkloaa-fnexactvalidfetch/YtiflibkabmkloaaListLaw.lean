/- What the laws ask of lists: markList, heldList. -/
import Derived.Test.YtiflibkabmkloaaEqList
import Derived.Test.YtiflibkabmkloaaMark
namespace Go.Proofs.Ytiflibkabmkloaa
open Go.RowKit
end Go.Proofs.Ytiflibkabmkloaa
