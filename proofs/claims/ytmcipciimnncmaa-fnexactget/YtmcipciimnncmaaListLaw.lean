/- What the laws ask of lists: markList, heldList. -/
import Derived.Test.YtmcipciimnncmaaEqList
import Derived.Test.YtmcipciimnncmaaMark
namespace Go.Proofs.Ytmcipciimnncmaa
open Go.RowKit
end Go.Proofs.Ytmcipciimnncmaa
