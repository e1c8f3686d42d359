/- slices.Delete of one text; (*shelf).unpin. -/
import Derived.Shelf.Slices.Cells
import Derived.Test.YtlnkhbnbcmllaaaGreatGetLaw
import Derived.Test.YtlnkhbnbcmllaaaGreatSearchJoin
namespace Go.Proofs.YtlnkhbnbcmllaaaGreat
open Go.RowKit Go.Shelf
theorem grown_setCells (b : Nat) : ∀ (vs : List Value) (o : Nat) (w : World), w.grownBy (w.setCells b o vs) (some b)
  | [], _, w => grown_refl2 w _
  | v :: vs, o, w => grown_same (grownBy_setCellAt w b o v) (grown_setCells b vs (o + 1) _)
end Go.Proofs.YtlnkhbnbcmllaaaGreat
