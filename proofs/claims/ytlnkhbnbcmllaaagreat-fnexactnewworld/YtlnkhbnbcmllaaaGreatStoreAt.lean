/- spec.l4At: the place of the item with a sum. -/
import Derived.Test.YtlnkhbnbcmllaaaGreatValidSpec
import Derived.Test.YtlnkhbnbcmllaaaGreatOpenStore
namespace Go.Proofs.YtlnkhbnbcmllaaaGreat
open Go.RowKit
/-- Where a sum is found. -/
def AtR (wd : Int) (its : Itms) (s : ByteArray) (r : Int) : Prop := (r = -1 ∧ ∀ i, i < its.length → sumX wd (itx its i) ≠ s) ∨ ∃ i : Nat, i < its.length ∧ r = (i : Int) ∧ sumX wd (itx its i) = s
end Go.Proofs.YtlnkhbnbcmllaaaGreat
