import Derived.Test.YtlnkhbnbcmllaaaGreatArgs
import Derived.Test.YtlnkhbnbcmllaaaGreatShort
import Derived.Test.YtlnkhbnbcmllaaaGreatFormImpl
import Derived.Test.YtlnkhbnbcmllaaaGreatRingA
/- spec.Describe: the list of a text. -/
namespace Go.Proofs.YtlnkhbnbcmllaaaGreat
open Go.RowKit
end Go.Proofs.YtlnkhbnbcmllaaaGreat
/- impl.Describe: the list of a text. -/
namespace Go.Proofs.YtlnkhbnbcmllaaaGreat
open Go.RowKit
attribute [local go_sem] Oper.semAt_some
end Go.Proofs.YtlnkhbnbcmllaaaGreat
/- spec.Name and impl.Name: the name of a text. -/
namespace Go.Proofs.YtlnkhbnbcmllaaaGreat
open Go.RowKit
end Go.Proofs.YtlnkhbnbcmllaaaGreat
/- The pieces from a cut on hang on the bytes from there on alone. -/
namespace Go.Proofs.YtlnkhbnbcmllaaaGreat
open Go.RowKit
end Go.Proofs.YtlnkhbnbcmllaaaGreat
/- What it is for texts to have one sum. -/
namespace Go.Proofs.YtlnkhbnbcmllaaaGreat
open Go.RowKit
def tx (ts : List ByteArray) (i : Nat) : ByteArray := ts.getD i ByteArray.empty
def sumB (t : ByteArray) (n : Int) : ByteArray := ⟨(sumOf t.data.toList n).toArray⟩
/-- Texts i and j have one sum, and are different. -/
def clB (ts : List ByteArray) (n : Int) (i j : Nat) : Bool := ((sumB (tx ts i) n).toList == (sumB (tx ts j) n).toList) && !((tx ts i).toList == (tx ts j).toList)
def NoC (ts : List ByteArray) (n : Int) (J : Nat) : Prop := ∀ j, j < J → ∀ i, i < j → clB ts n i j = false
def ClRes (ts : List ByteArray) (n : Int) (x y : ByteArray) (b : Bool) : Prop :=
  (x = ⟨#[]⟩ ∧ y = ⟨#[]⟩ ∧ b = false ∧ (isW n = false ∨ 2000 < ts.length ∨ NoC ts n ts.length)) ∨
  (b = true ∧ isW n = true ∧ ts.length ≤ 2000 ∧ ∃ i j, i < j ∧ j < ts.length ∧ clB ts n i j = true ∧ NoC ts n j ∧ (∀ i', i' < i → clB ts n i' j = false) ∧ x = tx ts i ∧ y = tx ts j)
theorem ClRes.same {ts : List ByteArray} {n : Int} {x y x' y' : ByteArray} {b b' : Bool} (h : ClRes ts n x y b) (h' : ClRes ts n x' y' b') : x = x' ∧ y = y' ∧ b = b' := by
  rcases h with ⟨rfl, rfl, rfl, h1⟩ | ⟨rfl, hw, hl, i, j, hij, hj, hc, hn, hi, rfl, rfl⟩
  · rcases h' with ⟨rfl, rfl, rfl, _⟩ | ⟨rfl, hw, hl, i, j, hij, hj, hc, hn, hi, rfl, rfl⟩
    · exact ⟨rfl, rfl, rfl⟩
    · rcases h1 with h1 | h1 | h1
      · rw [hw] at h1; cases h1
      · omega
      · rw [h1 j hj i hij] at hc; cases hc
  · rcases h' with ⟨rfl, rfl, rfl, h1⟩ | ⟨rfl, _, _, i2, j2, hij2, hj2, hc2, hn2, hi2, rfl, rfl⟩
    · rcases h1 with h1 | h1 | h1
      · rw [hw] at h1; cases h1
      · omega
      · rw [h1 j hj i hij] at hc; cases hc
    · have ej : j = j2 := by
        rcases Nat.lt_trichotomy j j2 with h | h | h
        · rw [hn2 j h i hij] at hc; cases hc
        · exact h
        · rw [hn j2 h i2 hij2] at hc2; cases hc2
      subst ej
      have ei : i = i2 := by
        rcases Nat.lt_trichotomy i i2 with h | h | h
        · rw [hi2 i h] at hc; cases hc
        · exact h
        · rw [hi i2 h] at hc2; cases hc2
      subst ei
      exact ⟨rfl, rfl, rfl⟩
end Go.Proofs.YtlnkhbnbcmllaaaGreat
/- Two different texts with one name show two different texts with one sum. -/
namespace Go.Proofs.YtlnkhbnbcmllaaaGreat
open Go.RowKit
end Go.Proofs.YtlnkhbnbcmllaaaGreat
