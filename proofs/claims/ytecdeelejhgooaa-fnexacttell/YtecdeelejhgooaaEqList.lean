/- eqList: two lists are the same. -/
import Derived.Test.YtecdeelejhgooaaListBox
namespace Go.Proofs.Ytecdeelejhgooaa
open Go.RowKit
end Go.Proofs.Ytecdeelejhgooaa
