/- The order of texts; those of an ascending list from a text to another. -/
import Derived.Test.YtlnkhbnbcmllaaaGreatArgs
import Derived.Shelf.Spec.SearchS
namespace Go.Proofs.YtlnkhbnbcmllaaaGreat
open Go.RowKit
theorem bl_irrefl : ∀ x : List UInt8, Op.bytesLess x x = false
  | [] => rfl
  | a :: x => by simp [Op.bytesLess, bl_irrefl x]
theorem bl_trans : ∀ x y z : List UInt8, Op.bytesLess x y = true → Op.bytesLess y z = true → Op.bytesLess x z = true
  | _, [], _, h, _ => by simp [Op.bytesLess] at h
  | _, _ :: _, [], _, h => by simp [Op.bytesLess] at h
  | [], _ :: _, _ :: _, _, _ => rfl
  | a :: x, b :: y, c :: z, h, k => by
    simp only [Op.bytesLess, Bool.or_eq_true, Bool.and_eq_true, decide_eq_true_eq, beq_iff_eq] at h k ⊢
    rcases h with h | ⟨rfl, h⟩ <;> rcases k with k | ⟨rfl, k⟩
    · exact .inl (UInt8.lt_trans h k)
    · exact .inl h
    · exact .inl k
    · exact .inr ⟨rfl, bl_trans x y z h k⟩
theorem bl_total : ∀ x y : List UInt8, Op.bytesLess x y = false → Op.bytesLess y x = false → x = y
  | [], [], _, _ => rfl
  | [], _ :: _, h, _ => by simp [Op.bytesLess] at h
  | _ :: _, [], _, h => by simp [Op.bytesLess] at h
  | a :: x, b :: y, h, k => by
    simp only [Op.bytesLess, Bool.or_eq_false_iff, Bool.and_eq_false_iff, decide_eq_false_iff_not, UInt8.not_lt] at h k
    have e : a = b := UInt8.le_antisymm k.1 h.1
    subst e
    simp only [beq_self_eq_true, Bool.true_eq_false, false_or] at h k
    rw [bl_total x y h.2 k.2]
/-- One text is less than another. -/
def tlt (a b : ByteArray) : Bool := Op.bytesLess a.toList b.toList
theorem tlt_irrefl (a : ByteArray) : tlt a a = false := bl_irrefl _
theorem tlt_trans {a b c : ByteArray} (h : tlt a b = true) (k : tlt b c = true) : tlt a c = true := bl_trans _ _ _ h k
theorem text_eq {a b : ByteArray} (h : a.toList = b.toList) : a = b := by
  rw [ByteArray.toList_eq, ByteArray.toList_eq] at h
  exact ByteArray.ext (Array.ext' h)
theorem tlt_leq (a b : ByteArray) : (Op.bytesLess a.toList b.toList || a.toList == b.toList) = !tlt b a := by
  unfold tlt
  cases h : Op.bytesLess b.toList a.toList
  · cases k : Op.bytesLess a.toList b.toList
    · simp [bl_total _ _ k h]
    · rfl
  · have k : Op.bytesLess a.toList b.toList = false := by
      cases e : Op.bytesLess a.toList b.toList
      · rfl
      · exact absurd (bl_trans _ _ _ h e) (by rw [bl_irrefl]; simp)
    have n : a.toList ≠ b.toList := fun e => by rw [e, bl_irrefl] at h; cases h
    rw [k]
    simpa using n
/-- A list of texts, ascending. -/
def Asc (ts : List ByteArray) : Prop := ts.Pairwise fun a b => tlt a b = true
/-- How many at the head are less than a text. -/
def cutN (x : ByteArray) (ts : List ByteArray) : Nat := (ts.takeWhile (tlt · x)).length
/-- The texts of a list, ascending and each of so many bytes, as far as the i-th. -/
def okAt (n : Int) (ts : List ByteArray) (i : Nat) : Prop := ((tv ts i).size : Int) = n ∧ (0 < i → tlt (tv ts (i - 1)) (tv ts i) = true)
def okSums (n : Int) (ts : List ByteArray) : Prop := ∀ i, i < ts.length → okAt n ts i
theorem asc_of : ∀ (ts : List ByteArray), (∀ i, 0 < i → i < ts.length → tlt (tv ts (i - 1)) (tv ts i) = true) → Asc ts
  | [], _ => List.Pairwise.nil
  | a :: l, h => by
    have ih : Asc l := asc_of l fun i h0 hi => by
      have := h (i + 1) (by omega) (by simpa using hi)
      obtain ⟨j, rfl⟩ : ∃ j, i = j + 1 := ⟨i - 1, by omega⟩
      simpa [tv] using this
    refine List.pairwise_cons.2 ⟨fun b hb => ?_, ih⟩
    cases l with
    | nil => simp at hb
    | cons c l =>
      have h1 : tlt a c = true := by simpa [tv] using h 1 (by omega) (by simp)
      rcases List.mem_cons.1 hb with rfl | hb
      · exact h1
      · exact tlt_trans h1 ((List.pairwise_cons.1 ih).1 b hb)
end Go.Proofs.YtlnkhbnbcmllaaaGreat
