/- impl.Sum and spec.Sum answer the same; laws.FnExactSum returns true. -/
import Derived.Test.YtlnkhbnbcmllaaaGreatKey
namespace Go.Proofs.YtlnkhbnbcmllaaaGreat
open Go.RowKit
theorem lowB_get (v : Int) : ∀ (m t : Nat), t < m → (lowB v m)[t]? = some (by8 (v / 256 ^ (m - 1 - t)))
  | 0, _, h => by omega
  | m + 1, 0, _ => by simp [lowB]
  | m + 1, t + 1, h => by
    simp only [lowB, List.getElem?_cons_succ]
    rw [lowB_get v m t (by omega), show m - 1 - t = m + 1 - 1 - (t + 1) by omega]
/-- The numbers of a key's first bytes. -/
def keyN (v : Int) (m : Nat) : List Int := (List.range m).map fun t => v / 256 ^ (m - 1 - t) % 256
theorem keyN_str (v : Int) (m : Nat) : strOfNums (keyN v m) = ⟨(lowB v m).toArray⟩ := by
  unfold strOfNums keyN
  congr 2
  apply List.ext_getElem?
  intro t
  by_cases h : t < m
  · rw [lowB_get v m t h]; simp [h, by8]
  · rw [List.getElem?_eq_none (by simp; omega), List.getElem?_eq_none (by rw [lowB_length]; omega)]
theorem conv_key (v : Int) (m : Nat) (hm : m ≤ 8) (A : Array Value) (hA : keyC v m m = A) (wx : World) :
    (convert 135 9 (.slice (some ⟨wx.heap.size, 0, none⟩) m 8)).run Tryz.prog (wx.alloc (.cells A 138)) = .ok (.string ⟨(lowB v m).toArray⟩) (wx.alloc (.cells A 138)) := by
  subst hA
  rw [← keyN_str]
  refine run_convert_bytes_arg _ 135 5 Tryz.underlying135 Tryz.underlying5 wx.heap.size 0 m 8 (keyN v m) (by simp [keyN]) (fun i hi => ?_) 9 Tryz.underlying9
  rw [Nat.zero_add, World.cell?_alloc_new, keyC_get v m m i (by omega)]
  simp [keyN, hi]
def sumOf (l : List UInt8) (n : Int) : List UInt8 := if isW n then lowB (fnvList l) n.toNat else []
theorem sumOf_len (l : List UInt8) (n : Int) : (sumOf l n).length ≤ 8 := by
  unfold sumOf
  split
  · next h => rw [lowB_length]; simp [isW] at h; omega
  · simp
set_option maxRecDepth 100000 in
set_option maxHeartbeats 400000 in
theorem specSum_any (s : ByteArray) (n : Int) (w : World) (hs : s.size ≤ maxLen) :
    Calls Tryz.prog 47 #[.string s, .int .i64 n] w fun e w' => e = .returned (.string ⟨(sumOf s.data.toList n).toArray⟩) ∧ Below w.heap.size w w' := by
  have hu := fnvList_u64 s.data.toList
  cases hw : isW n with
  | false =>
    have e1 : sumOf s.data.toList n = [] := by simp [sumOf, hw]
    rw [e1]; clear e1
    go_enter Tryz.func47, Tryz.ntmps47
    go_wp2_with (go_at_call 46; refine (l1Width_any _ _).mono ?_; rintro e w' ⟨rfl, rfl⟩)
    go_ret
    exact ⟨by simp, Below.refl _ _⟩
  | true =>
    have e1 : sumOf s.data.toList n = lowB (fnvList s.data.toList) n.toNat := by simp [sumOf, hw]
    rw [e1]; clear e1
    have h12 : 1 ≤ n ∧ n ≤ 8 := by simpa [isW] using hw
    obtain ⟨h1, h2⟩ := h12
    go_enter Tryz.func47, Tryz.ntmps47
    go_wp2_with (first | (go_at_call 46; refine (l1Width_any _ _).mono ?_; rintro e w' ⟨rfl, rfl⟩) | (go_at_call 71; refine (l1Sum64_any _ _ hs).mono ?_; rintro e w' ⟨rfl, rfl⟩) | (go_at_call 70; refine (l1Bytes_any _ _ _ hu (by omega) (by omega)).mono ?_; rintro e w' ⟨rfl, hb⟩))
    go_ret
    exact ⟨by simp, hb⟩
set_option maxRecDepth 100000 in
set_option maxHeartbeats 400000 in
theorem implSum_any (s : ByteArray) (n : Int) (w : World) (hs : s.size ≤ maxLen) :
    Calls Tryz.prog 83 #[.string s, .int .i64 n] w fun e w' => e = .returned (.string ⟨(sumOf s.data.toList n).toArray⟩) ∧ Below w.heap.size w w' := by
  cases hw : isW n with
  | false =>
    have e1 : sumOf s.data.toList n = [] := by simp [sumOf, hw]
    rw [e1]; clear e1
    go_enter Tryz.func83, Tryz.ntmps83
    go_wp2_with (go_at_call 79; refine (isWidth_any _ _).mono ?_; rintro e w' ⟨rfl, rfl⟩)
    go_ret
    exact ⟨by simp, Below.refl _ _⟩
  | true =>
    have e1 : sumOf s.data.toList n = lowB (fnvList s.data.toList) n.toNat := by simp [sumOf, hw]
    rw [e1]; clear e1
    have h12 : 1 ≤ n ∧ n ≤ 8 := by simpa [isW] using hw
    obtain ⟨h1, h2⟩ := h12
    obtain ⟨m, rfl⟩ := Int.eq_ofNat_of_zero_le (show 0 ≤ n by omega)
    rw [Int.toNat_natCast]
    have hk := keyOf_any s (m : Int) w hs h1 h2
    rw [Int.toNat_natCast] at hk
    generalize fnvList s.data.toList = v at *
    obtain ⟨c0, c1, c2, c3, c4, c5, c6, c7, hE⟩ := keyC_lit v m m
    have hcv := conv_key v m (by omega) _ hE
    rw [hE] at hk
    have HK := hk
    clear hE hk
    go_enter Tryz.func83, Tryz.ntmps83
    go_wp2_with (first | (go_at_call 79; refine (isWidth_any _ _).mono ?_; rintro e w' ⟨rfl, rfl⟩) | (go_at_call 90; refine HK.mono ?_; rintro e w1 ⟨rfl, hb⟩))
    go_ret
    exact ⟨by simp, hb.alloc hb.size _⟩
end Go.Proofs.YtlnkhbnbcmllaaaGreat
