/- spec.ReadList: read loosely, written again, compared. -/
import Derived.Test.YtlnkhbnbcmllaaaGreatReadTurned
namespace Go.Proofs.YtlnkhbnbcmllaaaGreat
open Go.RowKit
end Go.Proofs.YtlnkhbnbcmllaaaGreat
