import Derived.Test.YtkjdabnglcabiaaGreatDoorHeapMath
import Derived.Test.YtkjdabnglcabiaaGreatDoorBytes
import Derived.Test.YtkjdabnglcabiaaGreatDoorStrs
import Derived.Deep.RegionWith
/- eqList: two lists are the same. -/
namespace Go.Proofs.YtkjdabnglcabiaaGreatDoor
open Go.RowKit
end Go.Proofs.YtkjdabnglcabiaaGreatDoor
/- The marks that the exact laws lay into an answer: markText, markStringS, heldStringS. -/
namespace Go.Proofs.YtkjdabnglcabiaaGreatDoor
open Go.RowKit
/-- The decimal digits of a number, by fuel. -/
def decsF : Nat → Nat → List UInt8
 | 0, _ => []
 | f + 1, m => if m = 0 then [] else decsF f (m / 10) ++ [(48 + UInt8.ofNat (m % 10))]
def decs (m : Nat) : List UInt8 := decsF m m
def markB (k : Nat) : ByteArray := ⟨(109 :: decs k).toArray⟩
def marks (k n : Nat) : List ByteArray := (List.range n).map fun t => markB (k + t)
/-- A row of which the first m strings bear marks. -/
def mixed (k m : Nat) (xs : List ByteArray) : List Value := (marks k m ++ xs.drop m).map Value.string
end Go.Proofs.YtkjdabnglcabiaaGreatDoor
/- What the laws ask of lists: markList, heldList. -/
namespace Go.Proofs.YtkjdabnglcabiaaGreatDoor
open Go.RowKit
end Go.Proofs.YtkjdabnglcabiaaGreatDoor
/- markStringS turns the row's own block alone. -/
namespace Go.Proofs.YtkjdabnglcabiaaGreatDoor
open Go.RowKit
theorem grown_same {A B C : World} {o : Option Nat} (h : A.grownBy B o) (k : B.grownBy C o) : A.grownBy C o :=
 ⟨k.os.trans h.os, k.tape.trans h.tape, k.output.trans h.output, Nat.le_trans h.size k.size, fun j hj hne => (k.block j (Nat.lt_of_lt_of_le hj h.size) hne).trans (h.block j hj hne)⟩
theorem grown_below' {A B : World} {o : Option Nat} (h : Below A.heap.size A B) : A.grownBy B o := ⟨h.os, h.tape, h.output, h.size, fun k hk _ => h.block k hk⟩
end Go.Proofs.YtkjdabnglcabiaaGreatDoor
