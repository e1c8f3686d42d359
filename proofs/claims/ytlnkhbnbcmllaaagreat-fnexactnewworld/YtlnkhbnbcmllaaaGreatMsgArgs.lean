/- Messages as arguments. -/
import Derived.Test.YtlnkhbnbcmllaaaGreatArgs
namespace Go.Proofs.YtlnkhbnbcmllaaaGreat
open Go.RowKit
end Go.Proofs.YtlnkhbnbcmllaaaGreat
