/- spec.Unpin: left out. -/
import Derived.Test.YtlnkhbnbcmllaaaGreatUnpinMath
import Derived.Test.YtlnkhbnbcmllaaaGreatRowRd
namespace Go.Proofs.YtlnkhbnbcmllaaaGreat
open Go.RowKit
/-- What an append into a store's row of pins leaves. -/
theorem text_stored {W w6 : World} {n₀ tb k m : Nat} {v v' : Value} {xs ys : List Value} {tmp : Obj} {T : TypeId} {cs : Array Value} (hB : Blk W tb T cs) (hrow : W.ownsRow n₀ 9 1 v k xs) (htb : tb < n₀) (hown' : w6.ownsRow n₀ 9 1 v' m ys) (hgrow : (W.alloc tmp).grownBy w6 v.ownBlock) :
    Blk w6 tb T cs ∧ (w6.setCell ⟨tb, 3, none⟩ v').ownsRow n₀ 9 1 v' m ys := by
  have hlt : ∀ g, v.ownBlock = some g → n₀ ≤ g := fun g e => (hrow.lt g e).1
  have hlt' : ∀ g, v'.ownBlock = some g → n₀ ≤ g := fun g e => (hown'.lt g e).1
  exact ⟨(hB.alloc tmp).kept hgrow (fun e => by have := hlt tb e.symm; omega), hown'.kept (grownBy_setCellAt w6 tb 3 v') (.inr fun e => by have := hlt' tb e; omega)⟩
end Go.Proofs.YtlnkhbnbcmllaaaGreat
