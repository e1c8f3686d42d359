import Derived.Shelf.Small.Strs
import Derived.Shelf.Small.Wraps
import Derived.Shelf.Strconv.AtoiAll
import Derived.Shelf.Strings.Search2
import Derived.Test.YtlnkhbnbcmllaaaGreatBytes
import Derived.Test.YtlnkhbnbcmllaaaGreatReadTurned
import Derived.Laws.MakeOwn
import Derived.BigQuiet
import Derived.LaidEql
import Derived.Stop.Asserts
import Derived.RowKitTokens
/- The library functions that reading a list calls, laid at this program. -/
namespace Go.Proofs.YtlnkhbnbcmllaaaGreat
open Go.RowKit Go.Shelf
end Go.Proofs.YtlnkhbnbcmllaaaGreat
/- impl.readSize: the first line. -/
namespace Go.Proofs.YtlnkhbnbcmllaaaGreat
open Go.RowKit Go.Shelf
/-! What strconv.Atoi makes of a decimal -/
end Go.Proofs.YtlnkhbnbcmllaaaGreat
/- impl.readSum: a line of digits. -/
namespace Go.Proofs.YtlnkhbnbcmllaaaGreat
open Go.RowKit Go.Shelf
end Go.Proofs.YtlnkhbnbcmllaaaGreat
/- impl.readSum, walked. -/
namespace Go.Proofs.YtlnkhbnbcmllaaaGreat
open Go.RowKit Go.Shelf
end Go.Proofs.YtlnkhbnbcmllaaaGreat
/- strings.Cut at a newline. -/
namespace Go.Proofs.YtlnkhbnbcmllaaaGreat
open Go.RowKit Go.Shelf
end Go.Proofs.YtlnkhbnbcmllaaaGreat
/- impl.readLine: one line into a list. -/
namespace Go.Proofs.YtlnkhbnbcmllaaaGreat
open Go.RowKit Go.Shelf
end Go.Proofs.YtlnkhbnbcmllaaaGreat
/- impl.readLines: line by line. -/
namespace Go.Proofs.YtlnkhbnbcmllaaaGreat
open Go.RowKit Go.Shelf
end Go.Proofs.YtlnkhbnbcmllaaaGreat
/- errors.As at the target *lineError: a nil error, and an error that is one. -/
namespace Go.Proofs.YtlnkhbnbcmllaaaGreat
open Go.RowKit Go.Extern.Stop Go.Stop Go.Extern
/-! What the entries of reflectlite answer at these types. -/
end Go.Proofs.YtlnkhbnbcmllaaaGreat
/- impl.ReadList. -/
namespace Go.Proofs.YtlnkhbnbcmllaaaGreat
open Go.RowKit Go.Shelf
end Go.Proofs.YtlnkhbnbcmllaaaGreat
