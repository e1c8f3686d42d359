/- strings.Builder: what is written into it, it gives. -/
import Derived.Shelf.Strings.Builder1
import Derived.Test.YtlnkhbnbcmllaaaGreatRows
namespace Go.Proofs.YtlnkhbnbcmllaaaGreat
open Go.RowKit Go.Shelf
end Go.Proofs.YtlnkhbnbcmllaaaGreat
