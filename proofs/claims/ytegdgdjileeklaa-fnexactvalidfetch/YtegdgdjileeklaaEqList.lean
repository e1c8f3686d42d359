/- eqList: two lists are the same. -/
import Derived.Test.YtegdgdjileeklaaListBox
namespace Go.Proofs.Ytegdgdjileeklaa
open Go.RowKit
end Go.Proofs.Ytegdgdjileeklaa
