import Derived.Test.YtlnkhbnbcmllaaaGreatBytes
import Derived.Test.YtlnkhbnbcmllaaaGreatShort
import Derived.Test.YtlnkhbnbcmllaaaGreatArgs
import Derived.Lib.ItoaNum
import Derived.Shelf.Abstract
import Derived.Lib.AppendStr
import Derived.Lib.UnsafeStr
import Derived.Test.YtlnkhbnbcmllaaaGreatMarked
import Derived.Laws.MakeOwn
/- spec.l3Dec: the decimal of a number. -/
namespace Go.Proofs.YtlnkhbnbcmllaaaGreat
open Go.RowKit
end Go.Proofs.YtlnkhbnbcmllaaaGreat
/- spec.l3Hex and impl.digitsOf: two digits for each byte. -/
namespace Go.Proofs.YtlnkhbnbcmllaaaGreat
open Go.RowKit
def hexD : List UInt8 := [48, 49, 50, 51, 52, 53, 54, 55, 56, 57, 97, 98, 99, 100, 101, 102]
def hx (j : Nat) : UInt8 := hexD.getD j 0
def hexL (l : List UInt8) : List UInt8 := l.flatMap fun b => [hx (b.toNat / 16), hx (b.toNat % 16)]
end Go.Proofs.YtlnkhbnbcmllaaaGreat
/- spec.l3Ok and impl.isList say whether a list is valid for a width. -/
namespace Go.Proofs.YtlnkhbnbcmllaaaGreat
open Go.RowKit
/-- A list is valid for a width. -/
def okL (n : Int) (ss : List ByteArray) (m : Int) : Bool := isW m && (decide (0 ≤ n ∧ n ≤ 3000) && (decide (ss.length ≤ 375) && ss.all fun s => decide ((s.size : Int) = m)))
end Go.Proofs.YtlnkhbnbcmllaaaGreat
/- spec.FormList writes a list. -/
namespace Go.Proofs.YtlnkhbnbcmllaaaGreat
open Go.RowKit
/-- The form of a list, byte by byte. -/
def headL (n : Nat) : List UInt8 := [115, 105, 122, 101, 32] ++ Lib.decDigits n ++ [10]
def rowsL (ss : List ByteArray) : List UInt8 := ss.flatMap fun s => hexL s.data.toList ++ [10]
def formL (n : Nat) (ss : List ByteArray) : List UInt8 := headL n ++ rowsL ss
def formR (n : Int) (ss : List ByteArray) (m : Int) : ByteArray := if okL n ss m then ⟨(formL n.toNat ss).toArray⟩ else ⟨#[]⟩
def fc (n : Nat) (ss : List ByteArray) (k : Nat) : List Value := Lib.byteCells (headL n ++ rowsL (ss.take k))
end Go.Proofs.YtlnkhbnbcmllaaaGreat
/- impl.digitsOf: two digits for each byte. -/
namespace Go.Proofs.YtlnkhbnbcmllaaaGreat
open Go.RowKit
end Go.Proofs.YtlnkhbnbcmllaaaGreat
