/- The ring of a text's last bytes, as the text's bytes come. -/
import Derived.Test.YtlnkhbnbcmllaaaGreatRing
namespace Go.Proofs.YtlnkhbnbcmllaaaGreat
open Go.RowKit
def byteAt (s : ByteArray) (k : Nat) : Int := ((s.data.toList.getD k 0).toNat : Int)
theorem byteAt_get (s : ByteArray) (k : Nat) (h : k < s.size) : (s[k].toNat : Int) = byteAt s k := by
  have h' : k < s.data.toList.length := by simpa using h
  unfold byteAt
  rw [List.getD_eq_getElem?_getD, List.getElem?_eq_getElem h']; rfl
def ringZ (s : ByteArray) : Nat → Nat → Int
  | 0, _ => 0
  | k + 1, t => if k % 8 = t then byteAt s k else ringZ s k t
theorem ringZ_at (s : ByteArray) (j : Nat) : ∀ k, j < k → k ≤ j + 8 → ringZ s k (j % 8) = byteAt s j
  | 0, h, _ => by omega
  | k + 1, h, h8 => by
    unfold ringZ
    by_cases e : k = j
    · subst e; rw [if_pos rfl]
    · rw [if_neg (by omega)]
      exact ringZ_at s j k (by omega) (by omega)
theorem extract_list (s : ByteArray) (k : Nat) (h : k + 8 ≤ s.size) : (s.extract k (k + 8)).data.toList = (List.range 8).map fun q => s.data.toList.getD (k + q) 0 := by
  have h' : k + 8 ≤ s.data.toList.length := by simpa using h
  apply List.ext_getElem
  · simp; omega
  · intro i h1 h2
    simp at h2
    have hi : k + i < s.data.toList.length := by omega
    have hd : k + i < s.data.size := by simpa using hi
    simp [Array.getElem?_eq_getElem hd]
theorem foldl_same (f g : Int → Nat → Int) : ∀ (l : List Nat) (v : Int), (∀ q ∈ l, ∀ v, f v q = g v q) → l.foldl f v = l.foldl g v
  | [], _, _ => rfl
  | q :: l, v, h => by
    rw [List.foldl_cons, List.foldl_cons, h q (by simp) v]
    exact foldl_same f g l _ (fun q' h' => h q' (by simp [h']))
theorem ringSum_eq (s : ByteArray) (k : Nat) (h : k + 8 ≤ s.size) : ringSum (ringZ s (k + 8)) ((k + 8) % 8) = fnvList (s.extract k (k + 8)).data.toList := by
  unfold ringSum fnvList
  rw [extract_list s k h, List.foldl_map]
  refine foldl_same _ _ _ _ (fun q hq v => ?_)
  have hq8 : q < 8 := by simpa using hq
  have e : ((k + 8) % 8 + q) % 8 = (k + q) % 8 := by omega
  rw [e, ringZ_at s (k + q) (k + 8) (by omega) (by omega)]
  unfold byteAt
  with_reducible rfl
/-- What isCut reckons is what l2Ends asks of the open piece. -/
theorem ends_ring (s : ByteArray) (f k : Nat) (hf : f ≤ k) (hk : k ≤ s.size) :
    (decide (64 ≤ ((k - f : Nat) : Int)) || (decide (8 ≤ ((k - f : Nat) : Int)) && decide (ringSum (ringZ s k) (k % 8) % 16 = 0))) = endsB (s.extract f k) := by
  have hz : (s.extract f k).size = k - f := by simp; omega
  unfold endsB
  rw [hz]
  by_cases h8 : k - f < 8
  · rw [if_pos h8]; simp; omega
  · rw [if_neg h8]
    obtain ⟨m, rfl⟩ : ∃ m, k = m + 8 := ⟨k - 8, by omega⟩
    have e : ((s.extract f (m + 8)).extract (m + 8 - f - 8) (m + 8 - f)) = s.extract m (m + 8) := by
      rw [ByteArray.extract_extract]; congr 1 <;> omega
    unfold cutHere
    rw [hz, e, ringSum_eq s m hk]
    have h8' : (8 : Int) ≤ ((m + 8 - f : Nat) : Int) := by omega
    simp only [h8', decide_true, Bool.true_and]
    congr 1
    simp; omega
/-- The ring's cells when k bytes have come. -/
def ringA (s : ByteArray) (k : Nat) : Array Value := ((List.range 8).map (fun t => Value.int .u8 (ringZ s k t)) ++ [Value.int .i64 ((k % 8 : Nat) : Int)]).toArray
theorem ringA_zero (s : ByteArray) : ringA s 0 = #[.int .u8 0, .int .u8 0, .int .u8 0, .int .u8 0, .int .u8 0, .int .u8 0, .int .u8 0, .int .u8 0, .int .i64 0] := rfl
theorem ringA_get (s : ByteArray) (k t : Nat) (h : t < 8) : (ringA s k)[t]? = some (.int .u8 (ringZ s k t)) := by
  simp [ringA, List.getElem?_append, h]
theorem ringA_last (s : ByteArray) (k : Nat) : (ringA s k)[8]? = some (.int .i64 ((k % 8 : Nat) : Int)) := by
  simp [ringA]
theorem ringA_succ (s : ByteArray) (k : Nat) : ((ringA s k).setIfInBounds (k % 8) (.int .u8 (byteAt s k))).setIfInBounds 8 (.int .i64 ((((k % 8) + 1) % 8 : Nat) : Int)) = ringA s (k + 1) := by
  apply Array.ext
  · simp [ringA]
  · intro t h1 h2
    have ht : t < 9 := by simpa [ringA] using h2
    have hz : (ringA s k).size = 9 := by simp [ringA]
    by_cases e8 : t = 8
    · subst e8
      rw [Array.getElem_setIfInBounds_self]
      have := ringA_last s (k + 1)
      rw [Array.getElem?_eq_getElem h2] at this
      rw [Option.some.inj this]
      congr 2; omega
    · rw [Array.getElem_setIfInBounds_ne (by simp [hz]; omega) (by omega)]
      have h3 := ringA_get s (k + 1) t (by omega)
      rw [Array.getElem?_eq_getElem h2] at h3
      rw [Option.some.inj h3]
      by_cases ek : k % 8 = t
      · subst ek
        rw [Array.getElem_setIfInBounds_self]
        simp [ringZ]
      · rw [Array.getElem_setIfInBounds_ne (by simp [hz]; omega) ek]
        have h4 := ringA_get s k t (by omega)
        rw [Array.getElem?_eq_getElem (by omega)] at h4
        rw [Option.some.inj h4]
        simp [ringZ, ek]
end Go.Proofs.YtlnkhbnbcmllaaaGreat
