/- spec.Describe: the list of a text. -/
import Derived.Test.YtakldjpohflkmaaDoorListBox
import Derived.Test.YtakldjpohflkmaaDoorHeld
namespace Go.Proofs.YtakldjpohflkmaaDoor
open Go.RowKit
end Go.Proofs.YtakldjpohflkmaaDoor
