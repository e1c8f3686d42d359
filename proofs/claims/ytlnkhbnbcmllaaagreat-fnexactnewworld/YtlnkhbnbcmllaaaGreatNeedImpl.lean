import Derived.Test.YtlnkhbnbcmllaaaGreatPutMath
import Derived.Test.YtlnkhbnbcmllaaaGreatReadSpec
import Derived.Test.YtlnkhbnbcmllaaaGreatReadImpl
import Derived.Test.YtlnkhbnbcmllaaaGreatShelfStore
import Derived.Test.YtlnkhbnbcmllaaaGreatOpenStore
import Derived.Test.YtlnkhbnbcmllaaaGreatMark2
import Derived.Test.YtlnkhbnbcmllaaaGreatCopySpec
import Derived.Deep.CutRange
import Derived.Deep.DeepCutAuto
import Derived.Test.YtlnkhbnbcmllaaaGreatSetIs
/- The list that the item with a sum is read as: spec.l4List, (*shelf).listUnder. -/
namespace Go.Proofs.YtlnkhbnbcmllaaaGreat
open Go.RowKit
end Go.Proofs.YtlnkhbnbcmllaaaGreat
/- spec.l4Needed and spec.Needed: what pins need. -/
namespace Go.Proofs.YtlnkhbnbcmllaaaGreat
open Go.RowKit
end Go.Proofs.YtlnkhbnbcmllaaaGreat
/- (*shelf).needed and impl.Needed: what pins need. -/
namespace Go.Proofs.YtlnkhbnbcmllaaaGreat
open Go.RowKit Go.Sort
end Go.Proofs.YtlnkhbnbcmllaaaGreat
