/- impl.digitsOf: two digits for each byte. -/
import Derived.Test.YtlnkhbnbcmllaaaGreatHex
import Derived.Laws.MakeOwn
namespace Go.Proofs.YtlnkhbnbcmllaaaGreat
open Go.RowKit
theorem and15 (b : Nat) (h : b < 256) : bits BinOp.and IntKind.u8 (b : Int) 15 = (b : Int) % 16 :=
  (show ∀ x : Fin 256, bits BinOp.and IntKind.u8 (x.val : Int) 15 = (x.val : Int) % 16 by decide +kernel) ⟨b, h⟩
end Go.Proofs.YtlnkhbnbcmllaaaGreat
