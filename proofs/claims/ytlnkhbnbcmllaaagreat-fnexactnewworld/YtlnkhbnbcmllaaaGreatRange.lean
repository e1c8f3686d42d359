/- A range over a function that keeps its state in cells of its own: the loop's law, where the body never leaves. -/
import Derived.RangeFuncBox
import Derived.RangeFuncLeaves
import Derived.WalkKit
import Derived.OwnWalkIn
import Derived.TacticsInMore
import Derived.LoopNIn
import Derived.LoopIn
import Derived.Maps.AppendAt
import Derived.Test.YtlnkhbnbcmllaaaGreatRows
namespace Go.Proofs.YtlnkhbnbcmllaaaGreat
open Go.RowKit

end Go.Proofs.YtlnkhbnbcmllaaaGreat
