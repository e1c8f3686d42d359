/- What the laws ask of lists: markList, heldList. -/
import Derived.Test.YtnpfnafalkejnaaEqList
import Derived.Test.YtnpfnafalkejnaaMark
namespace Go.Proofs.Ytnpfnafalkejnaa
open Go.RowKit
end Go.Proofs.Ytnpfnafalkejnaa
