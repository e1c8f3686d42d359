/- What the laws ask of lists: markList, heldList. -/
import Derived.Test.YtegdgdjileeklaaEqList
import Derived.Test.YtegdgdjileeklaaMark
namespace Go.Proofs.Ytegdgdjileeklaa
open Go.RowKit
end Go.Proofs.Ytegdgdjileeklaa
