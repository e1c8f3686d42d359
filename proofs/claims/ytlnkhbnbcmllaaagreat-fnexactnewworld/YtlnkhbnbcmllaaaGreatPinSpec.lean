/- spec.Pin. -/
import Derived.Test.YtlnkhbnbcmllaaaGreatAddSpec
import Derived.Test.YtlnkhbnbcmllaaaGreatRowRd
namespace Go.Proofs.YtlnkhbnbcmllaaaGreat
open Go.RowKit
/-- A text put into an ascending list. -/
def addT (s : ByteArray) (ts : List ByteArray) : List ByteArray := if cutN s ts < ts.length ∧ tv ts (cutN s ts) = s then ts else ts.take (cutN s ts) ++ s :: ts.drop (cutN s ts)
/-- What Pin answers. -/
def PinR (wd room : Int) (its : Itms) (ts : List ByteArray) (name : ByteArray) (wd' room' : Int) (its' : Itms) (ts' : List ByteArray) (code : Int) : Prop :=
  (¬ (ValidSt wd room its ts ∧ (name.size : Int) = wd) ∧ wd' = 0 ∧ room' = 0 ∧ its' = [] ∧ ts' = [] ∧ code = 1) ∨
  ((ValidSt wd room its ts ∧ (name.size : Int) = wd) ∧ 10 < (addT name ts).length ∧ wd' = 0 ∧ room' = 0 ∧ its' = [] ∧ ts' = [] ∧ code = 2) ∨
  ((ValidSt wd room its ts ∧ (name.size : Int) = wd) ∧ (addT name ts).length ≤ 10 ∧ wd' = wd ∧ room' = room ∧ its' = its ∧ ts' = addT name ts ∧ code = 0)
end Go.Proofs.YtlnkhbnbcmllaaaGreat
