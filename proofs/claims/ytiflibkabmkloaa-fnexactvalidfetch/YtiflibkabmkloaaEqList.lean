/- eqList: two lists are the same. -/
import Derived.Test.YtiflibkabmkloaaListBox
namespace Go.Proofs.Ytiflibkabmkloaa
open Go.RowKit
end Go.Proofs.Ytiflibkabmkloaa
