/- What the laws ask of lists: markList, heldList. -/
import Derived.Test.YtmfibonmdaanfaaEqList
import Derived.Test.YtmfibonmdaanfaaMark
namespace Go.Proofs.Ytmfibonmdaanfaa
open Go.RowKit
end Go.Proofs.Ytmfibonmdaanfaa
