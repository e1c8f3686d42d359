/- laws.markStore and laws.heldStore. -/
import Derived.Test.YtiflibkabmkloaaGetSpec
import Derived.Test.YtiflibkabmkloaaMark2
namespace Go.Proofs.Ytiflibkabmkloaa
open Go.RowKit
/-- Items with marks: the k-th on. -/
def marksI (k n : Nat) : Itms := (List.range n).map fun i => (markB (k + 2 * i), ((k + 2 * i + 1 : Nat) : Int))
theorem marksI_len (k n : Nat) : (marksI k n).length = n := by simp [marksI]
theorem marksI_tx (k n i : Nat) (h : i < n) : itx (marksI k n) i = markB (k + 2 * i) := by simp [marksI, itx, h]
theorem marksI_us (k n i : Nat) (h : i < n) : itu (marksI k n) i = ((k + 2 * i + 1 : Nat) : Int) := by simp [marksI, itu, h]
/-- Items of which the first m have been marked. -/
def mixI (k m : Nat) (its : Itms) : Itms := (marksI k m) ++ its.drop m
theorem mixI_len (k m : Nat) (its : Itms) (h : m ≤ its.length) : (mixI k m its).length = its.length := by simp [mixI, marksI_len]; omega
theorem mixI_zero (k : Nat) (its : Itms) : mixI k 0 its = its := by simp [mixI, marksI]
theorem mixI_all (k : Nat) (its : Itms) : mixI k its.length its = marksI k its.length := by simp [mixI]
theorem mixI_succ (k m : Nat) (its : Itms) (h : m < its.length) : (mixI k m its).set m (markB (k + 2 * m), ((k + 2 * m + 1 : Nat) : Int)) = mixI k (m + 1) its := by
  unfold mixI
  rw [List.set_append_right _ _ (by rw [marksI_len]; exact Nat.le_refl _), marksI_len, Nat.sub_self, List.drop_eq_getElem_cons h, List.set_cons_zero]
  unfold marksI
  rw [List.range_succ, List.map_append]
  simp
theorem cellsI_set2 (its : Itms) (i : Nat) (t : ByteArray) (u : Int) (h : i < its.length) : ((cellsI its).set (i * 2) (.string t)).set (i * 2 + 1) (.int .i64 u) = cellsI (its.set i (t, u)) := by
  induction its generalizing i with
  | nil => simp at h
  | cons p r ih =>
    cases i with
    | zero => simp [cellsI]
    | succ i =>
      have := ih i (by simpa using h)
      have e : (i + 1) * 2 = i * 2 + 1 + 1 := by omega
      rw [e]
      simpa [cellsI] using this
end Go.Proofs.Ytiflibkabmkloaa
