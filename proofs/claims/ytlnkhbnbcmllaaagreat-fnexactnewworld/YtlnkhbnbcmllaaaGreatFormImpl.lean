import Derived.Shelf.Strings.Builder1
import Derived.Test.YtlnkhbnbcmllaaaGreatRows
import Derived.Shelf.Strconv.Itoa3
import Derived.Lib.AppendIntMem
import Derived.Test.YtlnkhbnbcmllaaaGreatDigits
import Derived.Lib.SmallJoins
/- strings.Builder: what is written into it, it gives. -/
namespace Go.Proofs.YtlnkhbnbcmllaaaGreat
open Go.RowKit Go.Shelf
end Go.Proofs.YtlnkhbnbcmllaaaGreat
/- strconv.Itoa: the decimal of a number. -/
namespace Go.Proofs.YtlnkhbnbcmllaaaGreat
open Go.RowKit Go.Shelf
end Go.Proofs.YtlnkhbnbcmllaaaGreat
/- impl.FormList writes a list. -/
namespace Go.Proofs.YtlnkhbnbcmllaaaGreat
open Go.RowKit
end Go.Proofs.YtlnkhbnbcmllaaaGreat
