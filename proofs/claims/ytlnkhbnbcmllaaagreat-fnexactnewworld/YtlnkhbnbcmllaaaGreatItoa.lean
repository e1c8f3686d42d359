/- strconv.Itoa: the decimal of a number. -/
import Derived.Shelf.Strconv.Itoa3
import Derived.Lib.AppendIntMem
import Derived.Test.YtlnkhbnbcmllaaaGreatDec
namespace Go.Proofs.YtlnkhbnbcmllaaaGreat
open Go.RowKit Go.Shelf
end Go.Proofs.YtlnkhbnbcmllaaaGreat
