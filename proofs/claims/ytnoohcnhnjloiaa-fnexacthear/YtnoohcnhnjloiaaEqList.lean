/- eqList: two lists are the same. -/
import Derived.Test.YtnoohcnhnjloiaaListBox
namespace Go.Proofs.Ytnoohcnhnjloiaa
open Go.RowKit
end Go.Proofs.Ytnoohcnhnjloiaa
