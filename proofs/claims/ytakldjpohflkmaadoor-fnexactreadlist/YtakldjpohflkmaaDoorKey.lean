/- impl.keyOf: the key of a text. -/
import Derived.Test.YtakldjpohflkmaaDoorBytes
namespace Go.Proofs.YtakldjpohflkmaaDoor
open Go.RowKit
/-- The cells of a key when k bytes have been laid. -/
def keyC (v : Int) (m k : Nat) : Array Value := ((List.range 8).map fun t => .int .u8 (if t < m ∧ m ≤ t + k then v / 256 ^ (m - 1 - t) % 256 else 0)).toArray
theorem keyC_size (v : Int) (m k : Nat) : (keyC v m k).size = 8 := by simp [keyC]
theorem keyC_get (v : Int) (m k t : Nat) (h : t < 8) : (keyC v m k)[t]? = some (.int .u8 (if t < m ∧ m ≤ t + k then v / 256 ^ (m - 1 - t) % 256 else 0)) := by
  simp [keyC, h]
theorem keyC_zero (v : Int) (m : Nat) : keyC v m 0 = #[.int .u8 0, .int .u8 0, .int .u8 0, .int .u8 0, .int .u8 0, .int .u8 0, .int .u8 0, .int .u8 0] := by
  have : ∀ t, (if t < m ∧ m ≤ t + 0 then v / 256 ^ (m - 1 - t) % 256 else 0) = 0 := fun t => by rw [if_neg (by omega)]
  simp only [keyC, this]; rfl
theorem keyC_succ (v : Int) (k j : Nat) (_h : k + j + 1 ≤ 8) : (keyC v (k + j + 1) k).setIfInBounds j (.int .u8 (v / 256 ^ k % 256)) = keyC v (k + j + 1) (k + 1) := by
  apply Array.ext
  · simp [keyC]
  · intro t h1 h2
    simp [keyC] at h1
    by_cases e : j = t
    · subst e
      simp only [keyC, Array.getElem_setIfInBounds_self, List.getElem_toArray, List.getElem_map, List.getElem_range]
      rw [if_pos (by omega), show k + j + 1 - 1 - j = k by omega]
    · rw [Array.getElem_setIfInBounds_ne (by simp [keyC]; omega) e]
      simp only [keyC, List.getElem_toArray, List.getElem_map, List.getElem_range]
      congr 1
      by_cases g : t < k + j + 1 ∧ k + j + 1 ≤ t + k
      · rw [if_pos g, if_pos (by omega)]
      · rw [if_neg g, if_neg (by omega)]
theorem keyC_lit (v : Int) (m k : Nat) : ∃ c0 c1 c2 c3 c4 c5 c6 c7 : Int, keyC v m k = #[.int .u8 c0, .int .u8 c1, .int .u8 c2, .int .u8 c3, .int .u8 c4, .int .u8 c5, .int .u8 c6, .int .u8 c7] :=
  ⟨_, _, _, _, _, _, _, _, rfl⟩
end Go.Proofs.YtakldjpohflkmaaDoor
