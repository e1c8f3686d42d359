/- impl.keyOf: the key of a text. -/
import Derived.Test.YtlnkhbnbcmllaaaGreatBytes
namespace Go.Proofs.YtlnkhbnbcmllaaaGreat
open Go.RowKit
/-- The cells of a key when k bytes have been laid. -/
def keyC (v : Int) (m k : Nat) : Array Value := ((List.range 8).map fun t => .int .u8 (if t < m ∧ m ≤ t + k then v / 256 ^ (m - 1 - t) % 256 else 0)).toArray
theorem keyC_size (v : Int) (m k : Nat) : (keyC v m k).size = 8 := by simp [keyC]
theorem keyC_get (v : Int) (m k t : Nat) (h : t < 8) : (keyC v m k)[t]? = some (.int .u8 (if t < m ∧ m ≤ t + k then v / 256 ^ (m - 1 - t) % 256 else 0)) := by
  simp [keyC, h]
theorem keyC_zero (v : Int) (m : Nat) : keyC v m 0 = #[.int .u8 0, .int .u8 0, .int .u8 0, .int .u8 0, .int .u8 0, .int .u8 0, .int .u8 0, .int .u8 0] := by
  have : ∀ t, (if t < m ∧ m ≤ t + 0 then v / 256 ^ (m - 1 - t) % 256 else 0) = 0 := fun t => by rw [if_neg (by omega)]
  simp only [keyC, this]; rfl
theorem keyC_succ (v : Int) (k j : Nat) (_h : k + j + 1 ≤ 8) : (keyC v (k + j + 1) k).setIfInBounds j (.int .u8 (v / 256 ^ k % 256)) = keyC v (k + j + 1) (k + 1) := by
  apply Array.ext
  · simp [keyC]
  · intro t h1 h2
    simp [keyC] at h1
    by_cases e : j = t
    · subst e
      simp only [keyC, Array.getElem_setIfInBounds_self, List.getElem_toArray, List.getElem_map, List.getElem_range]
      rw [if_pos (by omega), show k + j + 1 - 1 - j = k by omega]
    · rw [Array.getElem_setIfInBounds_ne (by simp [keyC]; omega) e]
      simp only [keyC, List.getElem_toArray, List.getElem_map, List.getElem_range]
      congr 1
      by_cases g : t < k + j + 1 ∧ k + j + 1 ≤ t + k
      · rw [if_pos g, if_pos (by omega)]
      · rw [if_neg g, if_neg (by omega)]
theorem keyC_lit (v : Int) (m k : Nat) : ∃ c0 c1 c2 c3 c4 c5 c6 c7 : Int, keyC v m k = #[.int .u8 c0, .int .u8 c1, .int .u8 c2, .int .u8 c3, .int .u8 c4, .int .u8 c5, .int .u8 c6, .int .u8 c7] :=
  ⟨_, _, _, _, _, _, _, _, rfl⟩
set_option maxRecDepth 100000 in
set_option maxHeartbeats 400000 in
theorem keyOf_any (s : ByteArray) (n : Int) (w : World) (hs : s.size ≤ maxLen) (h1 : 1 ≤ n) (h2 : n ≤ 8) :
    Calls Tryz.prog 90 #[.string s, .int .i64 n] w fun e w' => e = .returned (.agg (keyC (fnvList s.data.toList) n.toNat n.toNat)) ∧ Below w.heap.size w w' := by
  obtain ⟨m, rfl⟩ := Int.eq_ofNat_of_zero_le (show 0 ≤ n by omega)
  have hu := fnvList_u64 s.data.toList
  go_enter Tryz.func90, Tryz.ntmps90
  go_wp2_with (go_at_call 94; refine (sum64_any _ _ hs).mono ?_; rintro e w' ⟨rfl, rfl⟩)
  rw [← keyC_zero (fnvList s.data.toList) m]
  generalize hv : fnvList s.data.toList = v at *
  have HV : Hid (fnvList s.data.toList = v) := hv
  clear hv
  go_loopw [5, 7] (fun x i wr => ∃ k : Nat, k ≤ m ∧ i = .int .i64 ((m : Int) - 1 - k) ∧ x = .int .u64 (v / 256 ^ k) ∧ wr = (w.alloc (.cells (keyC v m 0) 138)).alloc (.cells (keyC v m k) 138)) (fun _ i _ => (intOf i + 1).toNat)
  case atStart => exact ⟨0, Nat.zero_le _, by simp, by simp, rfl⟩
  case round =>
    obtain ⟨k, hk, rfl, rfl, rfl⟩ := hrel
    have hx : 0 ≤ v / 256 ^ k := (hu.div k).1
    by_cases hlt : k < m
    · obtain ⟨j, rfl⟩ : ∃ j, m = k + j + 1 := ⟨m - k - 1, by omega⟩
      rw [show (((k + j + 1 : Nat) : Int) - 1 - k) = (j : Int) by omega]
      have hg := keyC_get v (k + j + 1) k j (by omega)
      have hz := keyC_size v (k + j + 1) k
      go_wp2
      rw [keyC_succ v k j (by omega), div_succ]
      exact ⟨⟨k + 1, by omega, by go_num, rfl, rfl⟩, by simp [intOf]⟩
    · obtain rfl : k = m := by omega
      obtain ⟨c0, c1, c2, c3, c4, c5, c6, c7, hE⟩ := keyC_lit v k k
      have HE : Hid (keyC v k k = #[.int .u8 c0, .int .u8 c1, .int .u8 c2, .int .u8 c3, .int .u8 c4, .int .u8 c5, .int .u8 c6, .int .u8 c7]) := hE
      rw [hE, keyC_zero, show ((k : Int) - 1 - k) = -1 by omega]
      clear hE
      go_wp2
      exact bodyPost_ret (v := .agg #[.int .u8 c0, .int .u8 c1, .int .u8 c2, .int .u8 c3, .int .u8 c4, .int .u8 c5, .int .u8 c6, .int .u8 c7]) (by simp [results, Tryz.results90, go_sem]) rfl ⟨by rw [HV.out, Int.toNat_natCast, HE.out], ((Below.refl _ _).alloc (Nat.le_refl _) _).alloc (by simp) _⟩
end Go.Proofs.YtlnkhbnbcmllaaaGreat
