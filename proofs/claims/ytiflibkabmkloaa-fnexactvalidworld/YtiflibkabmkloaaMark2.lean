import Derived.Test.YtiflibkabmkloaaListBox
import Derived.Test.YtiflibkabmkloaaBytes
import Derived.Test.YtiflibkabmkloaaStrs
import Derived.Deep.RegionWith
/- eqList: two lists are the same. -/
namespace Go.Proofs.Ytiflibkabmkloaa
open Go.RowKit
end Go.Proofs.Ytiflibkabmkloaa
/- The marks that the exact laws lay into an answer: markText, markStringS, heldStringS. -/
namespace Go.Proofs.Ytiflibkabmkloaa
open Go.RowKit
/-- The decimal digits of a number, by fuel. -/
def decsF : Nat → Nat → List UInt8
  | 0, _ => []
  | f + 1, m => if m = 0 then [] else decsF f (m / 10) ++ [(48 + UInt8.ofNat (m % 10))]
theorem decsF_same : ∀ (f g m : Nat), m ≤ f → m ≤ g → decsF f m = decsF g m
  | 0, 0, _, _, _ => rfl
  | 0, g + 1, m, h, _ => by obtain rfl : m = 0 := by omega
                            simp [decsF]
  | f + 1, 0, m, _, h => by obtain rfl : m = 0 := by omega
                            simp [decsF]
  | f + 1, g + 1, m, h1, h2 => by
    unfold decsF
    by_cases e : m = 0
    · simp [e]
    · rw [if_neg e, if_neg e, decsF_same f g (m / 10) (by omega) (by omega)]
def decs (m : Nat) : List UInt8 := decsF m m
theorem decs_zero : decs 0 = [] := rfl
theorem decs_step (m : Nat) (h : 0 < m) : decs m = decs (m / 10) ++ [(48 + UInt8.ofNat (m % 10))] := by
  obtain ⟨k, rfl⟩ : ∃ k, m = k + 1 := ⟨m - 1, by omega⟩
  show decsF (k + 1) (k + 1) = _
  unfold decsF
  rw [if_neg (by omega), decsF_same k ((k + 1) / 10) ((k + 1) / 10) (by omega) (Nat.le_refl _)]
  rfl
theorem decsF_len : ∀ (f m : Nat), (decsF f m).length ≤ m
  | 0, _ => by simp [decsF]
  | f + 1, m => by
    unfold decsF
    split
    · simp
    · have := decsF_len f (m / 10)
      simp; omega
theorem decs_len (m : Nat) : (decs m).length ≤ m := decsF_len m m
def markB (k : Nat) : ByteArray := ⟨(109 :: decs k).toArray⟩
def marks (k n : Nat) : List ByteArray := (List.range n).map fun t => markB (k + t)
theorem marks_length (k n : Nat) : (marks k n).length = n := by simp [marks]
theorem marks_get (k n i : Nat) (h : i < n) : (marks k n).getD i ByteArray.empty = markB (k + i) := by simp [marks, h]
/-- A row of which the first m strings bear marks. -/
def mixed (k m : Nat) (xs : List ByteArray) : List Value := (marks k m ++ xs.drop m).map Value.string
theorem mixed_get (k m : Nat) (xs : List ByteArray) (h : m < xs.length) : (mixed k m xs)[m]? = some (.string (xs.getD m ByteArray.empty)) := by
  simp [mixed, List.getElem?_append, marks_length, h]
theorem mixed_set (k m : Nat) (xs : List ByteArray) (h : m < xs.length) : (mixed k m xs).set m (.string (markB (k + m))) = mixed k (m + 1) xs := by
  unfold mixed
  rw [← List.map_set, List.set_append_right _ _ (by rw [marks_length]; exact Nat.le_refl _), marks_length, Nat.sub_self]
  congr 1
  rw [List.drop_eq_getElem_cons h, List.set_cons_zero]
  unfold marks
  rw [List.range_succ, List.map_append]
  simp
end Go.Proofs.Ytiflibkabmkloaa
/- What the laws ask of lists: markList, heldList. -/
namespace Go.Proofs.Ytiflibkabmkloaa
open Go.RowKit
end Go.Proofs.Ytiflibkabmkloaa
/- markStringS turns the row's own block alone. -/
namespace Go.Proofs.Ytiflibkabmkloaa
open Go.RowKit
theorem grown_same {A B C : World} {o : Option Nat} (h : A.grownBy B o) (k : B.grownBy C o) : A.grownBy C o :=
  ⟨k.os.trans h.os, k.tape.trans h.tape, k.output.trans h.output, Nat.le_trans h.size k.size, fun j hj hne => (k.block j (Nat.lt_of_lt_of_le hj h.size) hne).trans (h.block j hj hne)⟩
theorem grown_below' {A B : World} {o : Option Nat} (h : Below A.heap.size A B) : A.grownBy B o := ⟨h.os, h.tape, h.output, h.size, fun k hk _ => h.block k hk⟩
theorem grown_refl (A : World) (o : Option Nat) : A.grownBy A o := ⟨rfl, rfl, rfl, Nat.le_refl _, fun _ _ _ => rfl⟩
end Go.Proofs.Ytiflibkabmkloaa
