/- What the laws ask of lists: markList, heldList. -/
import Derived.Test.YtnoohcnhnjloiaaEqList
import Derived.Test.YtnoohcnhnjloiaaMark
namespace Go.Proofs.Ytnoohcnhnjloiaa
open Go.RowKit
end Go.Proofs.Ytnoohcnhnjloiaa
