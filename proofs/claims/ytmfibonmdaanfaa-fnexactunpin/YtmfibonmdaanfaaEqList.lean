/- eqList: two lists are the same. -/
import Derived.Test.YtmfibonmdaanfaaListBox
namespace Go.Proofs.Ytmfibonmdaanfaa
open Go.RowKit
end Go.Proofs.Ytmfibonmdaanfaa
