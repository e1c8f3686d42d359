import Derived.Test.YtkghbegdjeehaaaGreatDoorShort
import Derived.Test.YtkghbegdjeehaaaGreatDoorDigits
import Derived.Test.YtkghbegdjeehaaaGreatDoorFormImpl
import Derived.Test.YtkghbegdjeehaaaGreatDoorNamesLaw
/- The parts of Build: impl.haveSize, impl.haveSums, spec.l3Same. -/
namespace Go.Proofs.YtkghbegdjeehaaaGreatDoor
open Go.RowKit
/-- How many bytes texts have together. -/
def total : List ByteArray → Nat
 | [] => 0
 | p :: ps => p.size + total ps
end Go.Proofs.YtkghbegdjeehaaaGreatDoor
/- spec.l3Same and slices.Equal: two lists are the same. -/
namespace Go.Proofs.YtkghbegdjeehaaaGreatDoor
open Go.RowKit
end Go.Proofs.YtkghbegdjeehaaaGreatDoor
/- impl.Build puts pieces together. -/
namespace Go.Proofs.YtkghbegdjeehaaaGreatDoor
open Go.RowKit
/-- The bytes of texts, one behind the other. -/
def catL (ps : List ByteArray) : List UInt8 := ps.flatMap fun p => p.data.toList
def catB (ps : List ByteArray) : ByteArray := ⟨(catL ps).toArray⟩
def buildOk (n : Int) (ss ps : List ByteArray) (m : Int) : Bool := okL n ss m && (decide ((total ps : Int) = n) && (decide (ps.map (sumT m) = ss) && decide (descS (catB ps) m = ss)))
def buildR (n : Int) (ss ps : List ByteArray) (m : Int) : Value := if buildOk n ss ps m then .tuple #[.string (catB ps), .bool true] else .tuple #[.string ⟨#[]⟩, .bool false]
end Go.Proofs.YtkghbegdjeehaaaGreatDoor
