/- spec.l3Ok and impl.isList say whether a list is valid for a width. -/
import Derived.Test.YtlnkhbnbcmllaaaGreatListBox
namespace Go.Proofs.YtlnkhbnbcmllaaaGreat
open Go.RowKit
theorem all_true {ss : List ByteArray} {f : ByteArray → Bool} (h : ∀ i, i < ss.length → f (ss.getD i ByteArray.empty) = true) : ss.all f = true := by
  rw [List.all_eq_true]
  intro x hx
  obtain ⟨i, hi, rfl⟩ := List.getElem_of_mem hx
  have := h i hi
  rwa [List.getD_eq_getElem?_getD, List.getElem?_eq_getElem hi] at this
theorem all_false {ss : List ByteArray} {f : ByteArray → Bool} (i : Nat) (hi : i < ss.length) (h : f (ss.getD i ByteArray.empty) = false) : ss.all f = false := by
  rw [Bool.eq_false_iff]
  intro hc
  rw [List.all_eq_true] at hc
  have := hc _ (List.getElem_mem hi)
  rw [List.getD_eq_getElem?_getD, List.getElem?_eq_getElem hi] at h
  rw [Option.getD_some] at h
  rw [h] at this; cases this
/-- A list is valid for a width. -/
def okL (n : Int) (ss : List ByteArray) (m : Int) : Bool := isW m && (decide (0 ≤ n ∧ n ≤ 3000) && (decide (ss.length ≤ 375) && ss.all fun s => decide ((s.size : Int) = m)))
end Go.Proofs.YtlnkhbnbcmllaaaGreat
