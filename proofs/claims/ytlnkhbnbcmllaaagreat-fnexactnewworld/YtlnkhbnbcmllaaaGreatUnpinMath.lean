import Derived.Shelf.Spec.SearchS
import Derived.Shelf.Strings.OnBuilder
import Derived.Test.YtlnkhbnbcmllaaaGreatOrder
import Derived.Shelf.Slices.Cells
import Derived.Test.YtlnkhbnbcmllaaaGreatFetchTo
/- slices.BinarySearch at []string and strings.Join, laid at this program. -/
namespace Go.Proofs.YtlnkhbnbcmllaaaGreat
open Go.RowKit Go.Shelf
end Go.Proofs.YtlnkhbnbcmllaaaGreat
/- slices.Delete of one text; (*shelf).unpin. -/
namespace Go.Proofs.YtlnkhbnbcmllaaaGreat
open Go.RowKit Go.Shelf
end Go.Proofs.YtlnkhbnbcmllaaaGreat
/- (*shelf).unpin, (*shelf).answer. -/
namespace Go.Proofs.YtlnkhbnbcmllaaaGreat
open Go.RowKit
end Go.Proofs.YtlnkhbnbcmllaaaGreat
/- impl.Unpin. -/
namespace Go.Proofs.YtlnkhbnbcmllaaaGreat
open Go.RowKit
end Go.Proofs.YtlnkhbnbcmllaaaGreat
/- spec.Unpin: left out. -/
namespace Go.Proofs.YtlnkhbnbcmllaaaGreat
open Go.RowKit
end Go.Proofs.YtlnkhbnbcmllaaaGreat
