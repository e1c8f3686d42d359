/- eqList: two lists are the same. -/
import Derived.Test.YtmcipciimnncmaaListBox
namespace Go.Proofs.Ytmcipciimnncmaa
open Go.RowKit
end Go.Proofs.Ytmcipciimnncmaa
