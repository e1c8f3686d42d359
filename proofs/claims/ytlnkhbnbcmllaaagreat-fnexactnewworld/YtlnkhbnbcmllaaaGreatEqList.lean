/- eqList: two lists are the same. -/
import Derived.Test.YtlnkhbnbcmllaaaGreatListBox
namespace Go.Proofs.YtlnkhbnbcmllaaaGreat
open Go.RowKit
end Go.Proofs.YtlnkhbnbcmllaaaGreat
