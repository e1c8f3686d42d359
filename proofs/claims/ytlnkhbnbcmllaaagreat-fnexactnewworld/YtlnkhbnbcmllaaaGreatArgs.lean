import Derived.Test.YtlnkhbnbcmllaaaGreatBytes
import Derived.Test.YtlnkhbnbcmllaaaGreatPiecesBase
import Derived.Laws.MakeOwn
/- impl.keyOf: the key of a text. -/
namespace Go.Proofs.YtlnkhbnbcmllaaaGreat
open Go.RowKit
/-- The cells of a key when k bytes have been laid. -/
def keyC (v : Int) (m k : Nat) : Array Value := ((List.range 8).map fun t => .int .u8 (if t < m ∧ m ≤ t + k then v / 256 ^ (m - 1 - t) % 256 else 0)).toArray
theorem keyC_size (v : Int) (m k : Nat) : (keyC v m k).size = 8 := by simp [keyC]
theorem keyC_get (v : Int) (m k t : Nat) (h : t < 8) : (keyC v m k)[t]? = some (.int .u8 (if t < m ∧ m ≤ t + k then v / 256 ^ (m - 1 - t) % 256 else 0)) := by
  simp [keyC, h]
theorem keyC_zero (v : Int) (m : Nat) : keyC v m 0 = #[.int .u8 0, .int .u8 0, .int .u8 0, .int .u8 0, .int .u8 0, .int .u8 0, .int .u8 0, .int .u8 0] := by
  have : ∀ t, (if t < m ∧ m ≤ t + 0 then v / 256 ^ (m - 1 - t) % 256 else 0) = 0 := fun t => by rw [if_neg (by omega)]
  simp only [keyC, this]; rfl
theorem keyC_succ (v : Int) (k j : Nat) (_h : k + j + 1 ≤ 8) : (keyC v (k + j + 1) k).setIfInBounds j (.int .u8 (v / 256 ^ k % 256)) = keyC v (k + j + 1) (k + 1) := by
  apply Array.ext
  · simp [keyC]
  · intro t h1 h2
    simp [keyC] at h1
    by_cases e : j = t
    · subst e
      simp only [keyC, Array.getElem_setIfInBounds_self, List.getElem_toArray, List.getElem_map, List.getElem_range]
      rw [if_pos (by omega), show k + j + 1 - 1 - j = k by omega]
    · rw [Array.getElem_setIfInBounds_ne (by simp [keyC]; omega) e]
      simp only [keyC, List.getElem_toArray, List.getElem_map, List.getElem_range]
      congr 1
      by_cases g : t < k + j + 1 ∧ k + j + 1 ≤ t + k
      · rw [if_pos g, if_pos (by omega)]
      · rw [if_neg g, if_neg (by omega)]
theorem keyC_lit (v : Int) (m k : Nat) : ∃ c0 c1 c2 c3 c4 c5 c6 c7 : Int, keyC v m k = #[.int .u8 c0, .int .u8 c1, .int .u8 c2, .int .u8 c3, .int .u8 c4, .int .u8 c5, .int .u8 c6, .int .u8 c7] :=
  ⟨_, _, _, _, _, _, _, _, rfl⟩
set_option maxRecDepth 100000 in
set_option maxHeartbeats 400000 in
theorem keyOf_any (s : ByteArray) (n : Int) (w : World) (hs : s.size ≤ maxLen) (h1 : 1 ≤ n) (h2 : n ≤ 8) :
    Calls Tryz.prog 90 #[.string s, .int .i64 n] w fun e w' => e = .returned (.agg (keyC (fnvList s.data.toList) n.toNat n.toNat)) ∧ Below w.heap.size w w' := by
  obtain ⟨m, rfl⟩ := Int.eq_ofNat_of_zero_le (show 0 ≤ n by omega)
  have hu := fnvList_u64 s.data.toList
  go_enter Tryz.func90, Tryz.ntmps90
  go_wp2_with (go_at_call 94; refine (sum64_any _ _ hs).mono ?_; rintro e w' ⟨rfl, rfl⟩)
  rw [← keyC_zero (fnvList s.data.toList) m]
  generalize hv : fnvList s.data.toList = v at *
  have HV : Hid (fnvList s.data.toList = v) := hv
  clear hv
  go_loopw [5, 7] (fun x i wr => ∃ k : Nat, k ≤ m ∧ i = .int .i64 ((m : Int) - 1 - k) ∧ x = .int .u64 (v / 256 ^ k) ∧ wr = (w.alloc (.cells (keyC v m 0) 138)).alloc (.cells (keyC v m k) 138)) (fun _ i _ => (intOf i + 1).toNat)
  case atStart => exact ⟨0, Nat.zero_le _, by simp, by simp, rfl⟩
  case round =>
    obtain ⟨k, hk, rfl, rfl, rfl⟩ := hrel
    have hx : 0 ≤ v / 256 ^ k := (hu.div k).1
    by_cases hlt : k < m
    · obtain ⟨j, rfl⟩ : ∃ j, m = k + j + 1 := ⟨m - k - 1, by omega⟩
      rw [show (((k + j + 1 : Nat) : Int) - 1 - k) = (j : Int) by omega]
      have hg := keyC_get v (k + j + 1) k j (by omega)
      have hz := keyC_size v (k + j + 1) k
      go_wp2
      rw [keyC_succ v k j (by omega), div_succ]
      exact ⟨⟨k + 1, by omega, by go_num, rfl, rfl⟩, by simp [intOf]⟩
    · obtain rfl : k = m := by omega
      obtain ⟨c0, c1, c2, c3, c4, c5, c6, c7, hE⟩ := keyC_lit v k k
      have HE : Hid (keyC v k k = #[.int .u8 c0, .int .u8 c1, .int .u8 c2, .int .u8 c3, .int .u8 c4, .int .u8 c5, .int .u8 c6, .int .u8 c7]) := hE
      rw [hE, keyC_zero, show ((k : Int) - 1 - k) = -1 by omega]
      clear hE
      go_wp2
      exact bodyPost_ret (v := .agg #[.int .u8 c0, .int .u8 c1, .int .u8 c2, .int .u8 c3, .int .u8 c4, .int .u8 c5, .int .u8 c6, .int .u8 c7]) (by simp [results, Tryz.results90, go_sem]) rfl ⟨by rw [HV.out, Int.toNat_natCast, HE.out], ((Below.refl _ _).alloc (Nat.le_refl _) _).alloc (by simp) _⟩
end Go.Proofs.YtlnkhbnbcmllaaaGreat
/- impl.Sum and spec.Sum answer the same; laws.FnExactSum returns true. -/
namespace Go.Proofs.YtlnkhbnbcmllaaaGreat
open Go.RowKit
theorem lowB_get (v : Int) : ∀ (m t : Nat), t < m → (lowB v m)[t]? = some (by8 (v / 256 ^ (m - 1 - t)))
  | 0, _, h => by omega
  | m + 1, 0, _ => by simp [lowB]
  | m + 1, t + 1, h => by
    simp only [lowB, List.getElem?_cons_succ]
    rw [lowB_get v m t (by omega), show m - 1 - t = m + 1 - 1 - (t + 1) by omega]
/-- The numbers of a key's first bytes. -/
def keyN (v : Int) (m : Nat) : List Int := (List.range m).map fun t => v / 256 ^ (m - 1 - t) % 256
theorem keyN_str (v : Int) (m : Nat) : strOfNums (keyN v m) = ⟨(lowB v m).toArray⟩ := by
  unfold strOfNums keyN
  congr 2
  apply List.ext_getElem?
  intro t
  by_cases h : t < m
  · rw [lowB_get v m t h]; simp [h, by8]
  · rw [List.getElem?_eq_none (by simp; omega), List.getElem?_eq_none (by rw [lowB_length]; omega)]
theorem conv_key (v : Int) (m : Nat) (hm : m ≤ 8) (A : Array Value) (hA : keyC v m m = A) (wx : World) :
    (convert 135 9 (.slice (some ⟨wx.heap.size, 0, none⟩) m 8)).run Tryz.prog (wx.alloc (.cells A 138)) = .ok (.string ⟨(lowB v m).toArray⟩) (wx.alloc (.cells A 138)) := by
  subst hA
  rw [← keyN_str]
  refine run_convert_bytes_arg _ 135 5 Tryz.underlying135 Tryz.underlying5 wx.heap.size 0 m 8 (keyN v m) (by simp [keyN]) (fun i hi => ?_) 9 Tryz.underlying9
  rw [Nat.zero_add, World.cell?_alloc_new, keyC_get v m m i (by omega)]
  simp [keyN, hi]
def sumOf (l : List UInt8) (n : Int) : List UInt8 := if isW n then lowB (fnvList l) n.toNat else []
theorem sumOf_len (l : List UInt8) (n : Int) : (sumOf l n).length ≤ 8 := by
  unfold sumOf
  split
  · next h => rw [lowB_length]; simp [isW] at h; omega
  · simp
set_option maxRecDepth 100000 in
set_option maxHeartbeats 400000 in
theorem specSum_any (s : ByteArray) (n : Int) (w : World) (hs : s.size ≤ maxLen) :
    Calls Tryz.prog 47 #[.string s, .int .i64 n] w fun e w' => e = .returned (.string ⟨(sumOf s.data.toList n).toArray⟩) ∧ Below w.heap.size w w' := by
  have hu := fnvList_u64 s.data.toList
  cases hw : isW n with
  | false =>
    have e1 : sumOf s.data.toList n = [] := by simp [sumOf, hw]
    rw [e1]; clear e1
    go_enter Tryz.func47, Tryz.ntmps47
    go_wp2_with (go_at_call 46; refine (l1Width_any _ _).mono ?_; rintro e w' ⟨rfl, rfl⟩)
    go_ret
    exact ⟨by simp, Below.refl _ _⟩
  | true =>
    have e1 : sumOf s.data.toList n = lowB (fnvList s.data.toList) n.toNat := by simp [sumOf, hw]
    rw [e1]; clear e1
    have h12 : 1 ≤ n ∧ n ≤ 8 := by simpa [isW] using hw
    obtain ⟨h1, h2⟩ := h12
    go_enter Tryz.func47, Tryz.ntmps47
    go_wp2_with (first | (go_at_call 46; refine (l1Width_any _ _).mono ?_; rintro e w' ⟨rfl, rfl⟩) | (go_at_call 71; refine (l1Sum64_any _ _ hs).mono ?_; rintro e w' ⟨rfl, rfl⟩) | (go_at_call 70; refine (l1Bytes_any _ _ _ hu (by omega) (by omega)).mono ?_; rintro e w' ⟨rfl, hb⟩))
    go_ret
    exact ⟨by simp, hb⟩
set_option maxRecDepth 100000 in
set_option maxHeartbeats 400000 in
theorem implSum_any (s : ByteArray) (n : Int) (w : World) (hs : s.size ≤ maxLen) :
    Calls Tryz.prog 83 #[.string s, .int .i64 n] w fun e w' => e = .returned (.string ⟨(sumOf s.data.toList n).toArray⟩) ∧ Below w.heap.size w w' := by
  cases hw : isW n with
  | false =>
    have e1 : sumOf s.data.toList n = [] := by simp [sumOf, hw]
    rw [e1]; clear e1
    go_enter Tryz.func83, Tryz.ntmps83
    go_wp2_with (go_at_call 79; refine (isWidth_any _ _).mono ?_; rintro e w' ⟨rfl, rfl⟩)
    go_ret
    exact ⟨by simp, Below.refl _ _⟩
  | true =>
    have e1 : sumOf s.data.toList n = lowB (fnvList s.data.toList) n.toNat := by simp [sumOf, hw]
    rw [e1]; clear e1
    have h12 : 1 ≤ n ∧ n ≤ 8 := by simpa [isW] using hw
    obtain ⟨h1, h2⟩ := h12
    obtain ⟨m, rfl⟩ := Int.eq_ofNat_of_zero_le (show 0 ≤ n by omega)
    rw [Int.toNat_natCast]
    have hk := keyOf_any s (m : Int) w hs h1 h2
    rw [Int.toNat_natCast] at hk
    generalize fnvList s.data.toList = v at *
    obtain ⟨c0, c1, c2, c3, c4, c5, c6, c7, hE⟩ := keyC_lit v m m
    have hcv := conv_key v m (by omega) _ hE
    rw [hE] at hk
    have HK := hk
    clear hE hk
    go_enter Tryz.func83, Tryz.ntmps83
    go_wp2_with (first | (go_at_call 79; refine (isWidth_any _ _).mono ?_; rintro e w' ⟨rfl, rfl⟩) | (go_at_call 90; refine HK.mono ?_; rintro e w1 ⟨rfl, hb⟩))
    go_ret
    exact ⟨by simp, hb.alloc hb.size _⟩
end Go.Proofs.YtlnkhbnbcmllaaaGreat
/- A list in a block of its own: its size and its row of sums. -/
namespace Go.Proofs.YtlnkhbnbcmllaaaGreat
open Go.RowKit
theorem grownBy_setCellAt (W : World) (b o : Nat) (v : Value) : W.grownBy (W.setCell ⟨b, o, none⟩ v) (some b) :=
  ⟨rfl, rfl, rfl, (KeepsWalks.setCell W _ v).size, fun k _ hk => Below.heap_setCell _ _ _ k (fun e => hk (by rw [e]))⟩
theorem row_kept {W W' : World} {base B : Nat} {e : TypeId} {v : Value} {n : Nat} {xs : List Value} (h : W.ownsRow base e 1 v n xs) (hg : W.grownBy W' (some B)) (hB : B < base) : W'.ownsRow base e 1 v n xs := by
  refine h.kept hg ?_
  rcases h with ⟨_, ⟨rfl, _⟩ | ⟨g, cap, cur, rfl, hb, _⟩⟩
  · exact .inl rfl
  · refine .inr fun e => ?_
    have : g = B := by simpa [Value.ownBlock] using e
    omega
theorem grownBy_trans {A B C : World} {b : Nat} {o : Option Nat} (h : A.grownBy B (some b)) (k : B.grownBy C o) (ho : ∀ g, o = some g → g = b ∨ A.heap.size ≤ g) : A.grownBy C (some b) :=
  ⟨k.os.trans h.os, k.tape.trans h.tape, k.output.trans h.output, Nat.le_trans h.size k.size, fun j hj hne =>
    (k.block j (Nat.lt_of_lt_of_le hj h.size) (fun e => (ho j e.symm).elim (fun h1 => hne (by rw [h1])) (fun h1 => by omega))).trans (h.block j hj hne)⟩
end Go.Proofs.YtlnkhbnbcmllaaaGreat
/- The arguments of laws: how long they are; copies of them. -/
namespace Go.Proofs.YtlnkhbnbcmllaaaGreat
open Go.RowKit
def tv (ts : List ByteArray) (i : Nat) : ByteArray := ts.getD i ByteArray.empty
/-- A row of which the first m strings have been copied. -/
def halfA (m : Nat) (ts : List ByteArray) (M : List Value) : List Value := (ts.take m).map Value.string ++ M.drop m
theorem halfA_get (m : Nat) (ts : List ByteArray) (M : List Value) (h : m < M.length) (hl : ts.length = M.length) : (halfA m ts M)[m]? = M[m]? := by
  simp [halfA, List.getElem?_append, show min m ts.length = m by omega]
theorem halfA_set (m : Nat) (ts : List ByteArray) (M : List Value) (h : m < M.length) (hl : ts.length = M.length) : (halfA m ts M).set m (.string (tv ts m)) = halfA (m + 1) ts M := by
  have ht : m < ts.length := by omega
  unfold halfA
  rw [List.set_append_right _ _ (by simp; omega)]
  simp only [List.length_map, List.length_take, show min m ts.length = m by omega, Nat.sub_self]
  rw [List.drop_eq_getElem_cons h, List.set_cons_zero, List.take_succ_eq_append_getElem ht, List.map_append]
  simp [tv, ht]
set_option maxRecDepth 100000 in
set_option maxHeartbeats 1000000 in
theorem toStrs_any (v : Value) (ts : List ByteArray) (w : World) (hv : Reads w v ts) (hl : ts.length ≤ 1048576) :
    Calls Tryz.prog 50 #[v] w fun e w' => ∃ v', e = .returned v' ∧ w'.ownsRow w.heap.size 9 1 v' ts.length (ts.map Value.string) ∧ Below w.heap.size w w' := by
  obtain ⟨i0, hi, hz0, hz1, hz2⟩ := info_parts Tryz.info9
  obtain ⟨a, ca, rfl, hca⟩ := hv.form
  have HC : Hid (∀ i, i < ts.length → ∃ b off, a = some ⟨b, off, none⟩ ∧ b < w.heap.size ∧ w.cell? ⟨b, off + i, none⟩ = some (.string (tv ts i))) := hca
  obtain ⟨M, hM⟩ : ∃ M, M = madeCells (Value.string ⟨#[]⟩).cells (((ts.length : Nat) : Int).toNat * i0.size) := ⟨_, rfl⟩
  have hMs : M.size = ts.length := by rw [hM, size_madeCells, hz1]; simp
  have hMv : ∀ j, j < ts.length → M[j]? = some (.string ⟨#[]⟩) := fun j hj => by
    rw [hM, hz1]; simp [madeCells, Value.cells, hj, Nat.mod_one]
  have hmk : ∀ W : World, (Instr.makeSlice 23 (.int .i64 (ts.length : Int)) (.int .i64 (ts.length : Int))).run Tryz.prog W = .ok (.slice (some ⟨W.heap.size, 0, none⟩) ts.length ts.length) (W.alloc (.cells M 9)) := fun W => by
    have h := run_make (P := Tryz.prog) W 23 9 i0 (.string ⟨#[]⟩) Tryz.underlying23 hi hz0 .i64 .i64 (ts.length : Int) (ts.length : Int) (by omega) (by omega) (by rw [hz2]; omega) (by omega)
    rw [← hM] at h
    simpa using h
  clear hM hca hv
  have HMV := hid hMv
  clear hMv
  have ho : (w.alloc (.cells M 9)).ownsRow w.heap.size 9 1 (.slice (some ⟨w.heap.size, 0, none⟩) ts.length ts.length) ts.length (halfA 0 ts M.toList) := by
    have := World.ownsRow_lit (base := w.heap.size) (e := 9) (size := 1) w M ts.length (Nat.le_refl _) (by unfold maxLen; omega) (by omega)
    simpa [halfA] using this
  have HO := hid ho
  clear ho
  go_enter Tryz.func50, Tryz.ntmps50
  go_wp2
  go_loopw [4] (fun i' wr => ∃ i : Nat, i ≤ ts.length ∧ i' = .int .i64 i ∧ wr.ownsRow w.heap.size 9 1 (.slice (some ⟨w.heap.size, 0, none⟩) ts.length ts.length) ts.length (halfA i ts M.toList) ∧ Below w.heap.size w wr) (fun i' _ => ts.length - (intOf i').toNat)
  case atStart => exact ⟨0, Nat.zero_le _, rfl, HO.out, (Below.refl _ _).alloc (Nat.le_refl _) _⟩
  case round =>
    obtain ⟨i, hil, rfl, hr, hb⟩ := hrel
    by_cases hlt : i < ts.length
    · obtain ⟨b, o, rfl, hbw, hc⟩ := HC.out i hlt
      have hc1 := (hb.cell (p := ⟨b, o + i, none⟩) hbw).trans hc
      have hc2 := (hr.cellAt i (by omega)).trans ((halfA_get i ts M.toList (by simp; omega) (by simp; omega)).trans ((by simp : M.toList[i]? = M[i]?).trans (HMV.out i hlt)))
      have hf2 := hr.frozenAt i
      have HX := hid (halfA_set i ts M.toList (by simp; omega) (by simp; omega))
      generalize tv ts i = t at *
      clear hc
      go_wp2
      have hst := (hr.stored i (.string t)).1
      rw [HX.out] at hst
      refine ⟨⟨i + 1, by omega, by go_num, hst, hb.setCell (p := ⟨w.heap.size, i, none⟩) (Nat.le_refl _) _⟩, by simp [intOf]; omega⟩
    · obtain rfl : i = ts.length := by omega
      go_wp2
      go_ret
      refine ⟨_, rfl, ?_, hb⟩
      have e : halfA ts.length ts M.toList = ts.map Value.string := by
        unfold halfA; rw [List.drop_of_length_le (by simp; omega)]; simp
      rw [e] at hr; exact hr
end Go.Proofs.YtlnkhbnbcmllaaaGreat
