/- impl.Unpin. -/
import Derived.Test.YtlnkhbnbcmllaaaGreatShelfUnpin
namespace Go.Proofs.YtlnkhbnbcmllaaaGreat
open Go.RowKit
/-- What Unpin answers. -/
def UnpinR (wd room : Int) (its : Itms) (ts : List ByteArray) (name : ByteArray) (wd' room' : Int) (its' : Itms) (ts' : List ByteArray) (code : Int) : Prop :=
  (¬ (ValidSt wd room its ts ∧ (name.size : Int) = wd) ∧ wd' = 0 ∧ room' = 0 ∧ its' = [] ∧ ts' = [] ∧ code = 1) ∨
  ((ValidSt wd room its ts ∧ (name.size : Int) = wd) ∧ (∀ i, i < ts.length → tv ts i ≠ name) ∧ wd' = 0 ∧ room' = 0 ∧ its' = [] ∧ ts' = [] ∧ code = 2) ∨
  ((ValidSt wd room its ts ∧ (name.size : Int) = wd) ∧ wd' = wd ∧ room' = room ∧ its' = its ∧ code = 0 ∧ ∃ i, i < ts.length ∧ tv ts i = name ∧ ts' = ts.eraseIdx i)
end Go.Proofs.YtlnkhbnbcmllaaaGreat
