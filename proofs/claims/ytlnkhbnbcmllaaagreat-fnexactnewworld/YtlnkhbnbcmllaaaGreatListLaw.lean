/- What the laws ask of lists: markList, heldList. -/
import Derived.Test.YtlnkhbnbcmllaaaGreatEqList
import Derived.Test.YtlnkhbnbcmllaaaGreatMark
namespace Go.Proofs.YtlnkhbnbcmllaaaGreat
open Go.RowKit
end Go.Proofs.YtlnkhbnbcmllaaaGreat
