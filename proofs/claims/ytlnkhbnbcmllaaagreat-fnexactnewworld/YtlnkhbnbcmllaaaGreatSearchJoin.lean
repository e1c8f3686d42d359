/- slices.BinarySearch at []string and strings.Join, laid at this program. -/
import Derived.Shelf.Spec.SearchS
import Derived.Shelf.Strings.OnBuilder
import Derived.Test.YtlnkhbnbcmllaaaGreatOrder
namespace Go.Proofs.YtlnkhbnbcmllaaaGreat
open Go.RowKit Go.Shelf
theorem join_flat : ∀ xs : List (List UInt8), Lib.join xs [] = xs.flatten
  | [] => rfl
  | x :: r => by
    rw [Lib.join_cons]
    simp [Lib.joinTail]
end Go.Proofs.YtlnkhbnbcmllaaaGreat
