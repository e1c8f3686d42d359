/- eqList: two lists are the same. -/
import Derived.Test.YtnpfnafalkejnaaListBox
namespace Go.Proofs.Ytnpfnafalkejnaa
open Go.RowKit
end Go.Proofs.Ytnpfnafalkejnaa
