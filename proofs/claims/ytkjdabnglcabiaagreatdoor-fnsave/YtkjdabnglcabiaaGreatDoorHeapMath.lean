import Derived.Test.YtkjdabnglcabiaaGreatDoorBytes
import Derived.Test.YtkjdabnglcabiaaGreatDoorPiecesBase
import Derived.Laws.MakeOwn
import Derived.Shelf.Spec.SearchS
/- impl.keyOf: the key of a text. -/
namespace Go.Proofs.YtkjdabnglcabiaaGreatDoor
open Go.RowKit
/-- The cells of a key when k bytes have been laid. -/
def keyC (v : Int) (m k : Nat) : Array Value := ((List.range 8).map fun t => .int .u8 (if t < m ∧ m ≤ t + k then v / 256 ^ (m - 1 - t) % 256 else 0)).toArray
theorem keyC_size (v : Int) (m k : Nat) : (keyC v m k).size = 8 := by simp [keyC]
theorem keyC_get (v : Int) (m k t : Nat) (h : t < 8) : (keyC v m k)[t]? = some (.int .u8 (if t < m ∧ m ≤ t + k then v / 256 ^ (m - 1 - t) % 256 else 0)) := by
 simp [keyC, h]
theorem keyC_zero (v : Int) (m : Nat) : keyC v m 0 = #[.int .u8 0, .int .u8 0, .int .u8 0, .int .u8 0, .int .u8 0, .int .u8 0, .int .u8 0, .int .u8 0] := by
 have : ∀ t, (if t < m ∧ m ≤ t + 0 then v / 256 ^ (m - 1 - t) % 256 else 0) = 0 := fun t => by rw [if_neg (by omega)]
 simp only [keyC, this]; rfl
theorem keyC_succ (v : Int) (k j : Nat) (_h : k + j + 1 ≤ 8) : (keyC v (k + j + 1) k).setIfInBounds j (.int .u8 (v / 256 ^ k % 256)) = keyC v (k + j + 1) (k + 1) := by
 apply Array.ext
 ·simp [keyC]
 ·intro t h1 h2
  simp [keyC] at h1
  by_cases e : j = t
  ·subst e
   simp only [keyC, Array.getElem_setIfInBounds_self, List.getElem_toArray, List.getElem_map, List.getElem_range]
   rw [if_pos (by omega), show k + j + 1 - 1 - j = k by omega]
  ·rw [Array.getElem_setIfInBounds_ne (by simp [keyC]; omega) e]
   simp only [keyC, List.getElem_toArray, List.getElem_map, List.getElem_range]
   congr 1
   by_cases g : t < k + j + 1 ∧ k + j + 1 ≤ t + k
   ·rw [if_pos g, if_pos (by omega)]
   ·rw [if_neg g, if_neg (by omega)]
theorem keyC_lit (v : Int) (m k : Nat) : ∃ c0 c1 c2 c3 c4 c5 c6 c7 : Int, keyC v m k = #[.int .u8 c0, .int .u8 c1, .int .u8 c2, .int .u8 c3, .int .u8 c4, .int .u8 c5, .int .u8 c6, .int .u8 c7] :=
 ⟨_, _, _, _, _, _, _, _, rfl⟩
set_option maxRecDepth 100000 in
set_option maxHeartbeats 400000 in
theorem keyOf_any (s : ByteArray) (n : Int) (w : World) (hs : s.size ≤ maxLen) (h1 : 1 ≤ n) (h2 : n ≤ 8) :
  Calls Tryz.prog 68 #[.string s, .int .i64 n] w fun e w' => e = .returned (.agg (keyC (fnvList s.data.toList) n.toNat n.toNat)) ∧ Below w.heap.size w w' := by
 obtain ⟨m, rfl⟩ := Int.eq_ofNat_of_zero_le (show 0 ≤ n by omega)
 have hu := fnvList_u64 s.data.toList
 go_enter Tryz.func68, Tryz.ntmps68
 go_wp2_with (go_at_call 89; refine (sum64_any _ _ hs).mono ?_; rintro e w' ⟨rfl, rfl⟩)
 rw [← keyC_zero (fnvList s.data.toList) m]
 generalize hv : fnvList s.data.toList = v at *
 have HV : Hid (fnvList s.data.toList = v) := hv
 clear hv
 go_loopw [5, 7] (fun x i wr => ∃ k : Nat, k ≤ m ∧ i = .int .i64 ((m : Int) - 1 - k) ∧ x = .int .u64 (v / 256 ^ k) ∧ wr = (w.alloc (.cells (keyC v m 0) 105)).alloc (.cells (keyC v m k) 105)) (fun _ i _ => (intOf i + 1).toNat)
 case atStart => exact ⟨0, Nat.zero_le _, by simp, by simp, rfl⟩
 case round =>
  obtain ⟨k, hk, rfl, rfl, rfl⟩ := hrel
  have hx : 0 ≤ v / 256 ^ k := (hu.div k).1
  by_cases hlt : k < m
  ·obtain ⟨j, rfl⟩ : ∃ j, m = k + j + 1 := ⟨m - k - 1, by omega⟩
   rw [show (((k + j + 1 : Nat) : Int) - 1 - k) = (j : Int) by omega]
   have hg := keyC_get v (k + j + 1) k j (by omega)
   have hz := keyC_size v (k + j + 1) k
   go_wp2
   rw [keyC_succ v k j (by omega), div_succ]
   exact ⟨⟨k + 1, by omega, by go_num, rfl, rfl⟩, by simp [intOf]⟩
  ·obtain rfl : k = m := by omega
   obtain ⟨c0, c1, c2, c3, c4, c5, c6, c7, hE⟩ := keyC_lit v k k
   have HE : Hid (keyC v k k = #[.int .u8 c0, .int .u8 c1, .int .u8 c2, .int .u8 c3, .int .u8 c4, .int .u8 c5, .int .u8 c6, .int .u8 c7]) := hE
   rw [hE, keyC_zero, show ((k : Int) - 1 - k) = -1 by omega]
   clear hE
   go_wp2
   exact bodyPost_ret (v := .agg #[.int .u8 c0, .int .u8 c1, .int .u8 c2, .int .u8 c3, .int .u8 c4, .int .u8 c5, .int .u8 c6, .int .u8 c7]) (by simp [results, Tryz.results68, go_sem]) rfl ⟨by rw [HV.out, Int.toNat_natCast, HE.out], ((Below.refl _ _).alloc (Nat.le_refl _) _).alloc (by simp) _⟩
end Go.Proofs.YtkjdabnglcabiaaGreatDoor
/- impl.Sum and spec.Sum answer the same; laws.FnExactSum returns true. -/
namespace Go.Proofs.YtkjdabnglcabiaaGreatDoor
open Go.RowKit
theorem lowB_get (v : Int) : ∀ (m t : Nat), t < m → (lowB v m)[t]? = some (by8 (v / 256 ^ (m - 1 - t)))
 | 0, _, h => by omega
 | m + 1, 0, _ => by simp [lowB]
 | m + 1, t + 1, h => by
  simp only [lowB, List.getElem?_cons_succ]
  rw [lowB_get v m t (by omega), show m - 1 - t = m + 1 - 1 - (t + 1) by omega]
/-- The numbers of a key's first bytes. -/
def keyN (v : Int) (m : Nat) : List Int := (List.range m).map fun t => v / 256 ^ (m - 1 - t) % 256
theorem keyN_str (v : Int) (m : Nat) : strOfNums (keyN v m) = ⟨(lowB v m).toArray⟩ := by
 unfold strOfNums keyN
 congr 2
 apply List.ext_getElem?
 intro t
 by_cases h : t < m
 ·rw [lowB_get v m t h]; simp [h, by8]
 ·rw [List.getElem?_eq_none (by simp; omega), List.getElem?_eq_none (by rw [lowB_length]; omega)]
theorem conv_key (v : Int) (m : Nat) (hm : m ≤ 8) (A : Array Value) (hA : keyC v m m = A) (wx : World) :
  (convert 22 9 (.slice (some ⟨wx.heap.size, 0, none⟩) m 8)).run Tryz.prog (wx.alloc (.cells A 105)) = .ok (.string ⟨(lowB v m).toArray⟩) (wx.alloc (.cells A 105)) := by
 subst hA
 rw [← keyN_str]
 refine run_convert_bytes_arg _ 22 5 Tryz.underlying22 Tryz.underlying5 wx.heap.size 0 m 8 (keyN v m) (by simp [keyN]) (fun i hi => ?_) 9 Tryz.underlying9
 rw [Nat.zero_add, World.cell?_alloc_new, keyC_get v m m i (by omega)]
 simp [keyN, hi]
def sumOf (l : List UInt8) (n : Int) : List UInt8 := if isW n then lowB (fnvList l) n.toNat else []
theorem sumOf_len (l : List UInt8) (n : Int) : (sumOf l n).length ≤ 8 := by
 unfold sumOf
 split
 ·next h => rw [lowB_length]; simp [isW] at h; omega
 ·simp
set_option maxRecDepth 100000 in
set_option maxHeartbeats 400000 in
theorem specSum_any (s : ByteArray) (n : Int) (w : World) (hs : s.size ≤ maxLen) :
  Calls Tryz.prog 30 #[.string s, .int .i64 n] w fun e w' => e = .returned (.string ⟨(sumOf s.data.toList n).toArray⟩) ∧ Below w.heap.size w w' := by
 have hu := fnvList_u64 s.data.toList
 cases hw : isW n with
 | false =>
  have e1 : sumOf s.data.toList n = [] := by simp [sumOf, hw]
  rw [e1]; clear e1
  go_enter Tryz.func30, Tryz.ntmps30
  go_wp2_with (go_at_call 48; refine (l1Width_any _ _).mono ?_; rintro e w' ⟨rfl, rfl⟩)
  go_ret
  exact ⟨by simp, Below.refl _ _⟩
 | true =>
  have e1 : sumOf s.data.toList n = lowB (fnvList s.data.toList) n.toNat := by simp [sumOf, hw]
  rw [e1]; clear e1
  have h12 : 1 ≤ n ∧ n ≤ 8 := by simpa [isW] using hw
  obtain ⟨h1, h2⟩ := h12
  go_enter Tryz.func30, Tryz.ntmps30
  go_wp2_with (first | (go_at_call 48; refine (l1Width_any _ _).mono ?_; rintro e w' ⟨rfl, rfl⟩) | (go_at_call 60; refine (l1Sum64_any _ _ hs).mono ?_; rintro e w' ⟨rfl, rfl⟩) | (go_at_call 59; refine (l1Bytes_any _ _ _ hu (by omega) (by omega)).mono ?_; rintro e w' ⟨rfl, hb⟩))
  go_ret
  exact ⟨by simp, hb⟩
set_option maxRecDepth 100000 in
set_option maxHeartbeats 400000 in
theorem implSum_any (s : ByteArray) (n : Int) (w : World) (hs : s.size ≤ maxLen) :
  Calls Tryz.prog 41 #[.string s, .int .i64 n] w fun e w' => e = .returned (.string ⟨(sumOf s.data.toList n).toArray⟩) ∧ Below w.heap.size w w' := by
 cases hw : isW n with
 | false =>
  have e1 : sumOf s.data.toList n = [] := by simp [sumOf, hw]
  rw [e1]; clear e1
  go_enter Tryz.func41, Tryz.ntmps41
  go_wp2_with (go_at_call 37; refine (isWidth_any _ _).mono ?_; rintro e w' ⟨rfl, rfl⟩)
  go_ret
  exact ⟨by simp, Below.refl _ _⟩
 | true =>
  have e1 : sumOf s.data.toList n = lowB (fnvList s.data.toList) n.toNat := by simp [sumOf, hw]
  rw [e1]; clear e1
  have h12 : 1 ≤ n ∧ n ≤ 8 := by simpa [isW] using hw
  obtain ⟨h1, h2⟩ := h12
  obtain ⟨m, rfl⟩ := Int.eq_ofNat_of_zero_le (show 0 ≤ n by omega)
  rw [Int.toNat_natCast]
  have hk := keyOf_any s (m : Int) w hs h1 h2
  rw [Int.toNat_natCast] at hk
  generalize fnvList s.data.toList = v at *
  obtain ⟨c0, c1, c2, c3, c4, c5, c6, c7, hE⟩ := keyC_lit v m m
  have hcv := conv_key v m (by omega) _ hE
  rw [hE] at hk
  have HK := hk
  clear hE hk
  go_enter Tryz.func41, Tryz.ntmps41
  go_wp2_with (first | (go_at_call 37; refine (isWidth_any _ _).mono ?_; rintro e w' ⟨rfl, rfl⟩) | (go_at_call 68; refine HK.mono ?_; rintro e w1 ⟨rfl, hb⟩))
  go_ret
  exact ⟨by simp, hb.alloc hb.size _⟩
end Go.Proofs.YtkjdabnglcabiaaGreatDoor
/- A list in a block of its own: its size and its row of sums. -/
namespace Go.Proofs.YtkjdabnglcabiaaGreatDoor
open Go.RowKit
def LBox (W : World) (b : Nat) (n : Int) (v : Value) : Prop := W.heap[b]? = some (.cells #[.int .i64 n, v] 54 (0, 0))
theorem LBox.lt {W : World} {b : Nat} {n : Int} {v : Value} (h : LBox W b n v) : b < W.heap.size := (Array.getElem?_eq_some_iff.1 h).1
theorem LBox.c0 {W : World} {b : Nat} {n : Int} {v : Value} (h : LBox W b n v) : W.cell? ⟨b, 0, none⟩ = some (.int .i64 n) := by simp [World.cell?, show W.heap[b]? = _ from h]
theorem LBox.c1 {W : World} {b : Nat} {n : Int} {v : Value} (h : LBox W b n v) : W.cell? ⟨b, 1, none⟩ = some v := by simp [World.cell?, show W.heap[b]? = _ from h]
theorem LBox.fz {W : World} {b : Nat} {n : Int} {v : Value} (h : LBox W b n v) (k : Nat) : W.frozen? ⟨b, k, none⟩ = false := by simp [World.frozen?, show W.heap[b]? = _ from h]
theorem LBox.kept {W W' : World} {row : Option Nat} {b : Nat} {n : Int} {v : Value} (h : LBox W b n v) (hg : W.grownBy W' row) (hne : some b ≠ row) : LBox W' b n v := (hg.block b h.lt hne).trans h
theorem LBox.below {W W' : World} {b : Nat} {n : Int} {v : Value} (h : LBox W b n v) (hb : Below W.heap.size W W') : LBox W' b n v := (hb.block b h.lt).trans h
theorem LBox.alloc {W : World} {b : Nat} {n : Int} {v : Value} (h : LBox W b n v) (o : Obj) : LBox (W.alloc o) b n v := h.kept (World.grownBy_alloc W o none) (by simp)
theorem LBox.drew {W : World} {b : Nat} {n : Int} {v : Value} (h : LBox W b n v) : LBox W.drew b n v := h
theorem LBox.set1 {W : World} {b : Nat} {n : Int} {v : Value} (v' : Value) (h : LBox W b n v) : LBox (W.setCell ⟨b, 1, none⟩ v') b n v' := by
 obtain ⟨hlt, hk⟩ := Array.getElem?_eq_some_iff.1 h
 show (W.heap.modify b _)[b]? = _
 rw [Array.getElem?_eq_getElem (by rw [Array.size_modify]; exact hlt), Array.getElem_modify_self, hk]
 rfl
theorem LBox.set0 {W : World} {b : Nat} {n : Int} {v : Value} (n' : Int) (h : LBox W b n v) : LBox (W.setCell ⟨b, 0, none⟩ (.int .i64 n')) b n' v := by
 obtain ⟨hlt, hk⟩ := Array.getElem?_eq_some_iff.1 h
 show (W.heap.modify b _)[b]? = _
 rw [Array.getElem?_eq_getElem (by rw [Array.size_modify]; exact hlt), Array.getElem_modify_self, hk]
 rfl
theorem grownBy_setCellAt (W : World) (b o : Nat) (v : Value) : W.grownBy (W.setCell ⟨b, o, none⟩ v) (some b) :=
 ⟨rfl, rfl, rfl, (KeepsWalks.setCell W _ v).size, fun k _ hk => Below.heap_setCell _ _ _ k (fun e => hk (by rw [e]))⟩
theorem row_kept {W W' : World} {base B : Nat} {e : TypeId} {v : Value} {n : Nat} {xs : List Value} (h : W.ownsRow base e 1 v n xs) (hg : W.grownBy W' (some B)) (hB : B < base) : W'.ownsRow base e 1 v n xs := by
 refine h.kept hg ?_
 rcases h with ⟨_, ⟨rfl, _⟩ | ⟨g, cap, cur, rfl, hb, _⟩⟩
 ·exact .inl rfl
 ·refine .inr fun e => ?_
  have : g = B := by simpa [Value.ownBlock] using e
  omega
theorem grownBy_trans {A B C : World} {b : Nat} {o : Option Nat} (h : A.grownBy B (some b)) (k : B.grownBy C o) (ho : ∀ g, o = some g → g = b ∨ A.heap.size ≤ g) : A.grownBy C (some b) :=
 ⟨k.os.trans h.os, k.tape.trans h.tape, k.output.trans h.output, Nat.le_trans h.size k.size, fun j hj hne =>
  (k.block j (Nat.lt_of_lt_of_le hj h.size) (fun e => (ho j e.symm).elim (fun h1 => hne (by rw [h1])) (fun h1 => by omega))).trans (h.block j hj hne)⟩
/-- What an append into a list's row leaves. -/
theorem lbox_stored {W w1 : World} {n₀ b : Nat} {n : Int} {v v' : Value} {k m : Nat} {xs ys : List Value} {tmp : Obj} (hv : LBox W b n v) (hrow : W.ownsRow n₀ 9 1 v k xs) (hB : b < n₀) (hn : n₀ ≤ W.heap.size)
  (hown' : w1.ownsRow n₀ 9 1 v' m ys) (hgrow : (W.alloc tmp).grownBy w1 v.ownBlock) :
  LBox w1 b n v ∧ LBox (w1.setCell ⟨b, 1, none⟩ v') b n v' ∧ (w1.setCell ⟨b, 1, none⟩ v').ownsRow n₀ 9 1 v' m ys ∧ Below b W (w1.setCell ⟨b, 1, none⟩ v') ∧
   ∀ (j : Nat) (o : Obj), W.heap[j]? = some o → j ≠ b → (j < n₀ ∨ ∀ c, o ≠ .cells c 9 (0, 0)) → (w1.setCell ⟨b, 1, none⟩ v').heap[j]? = some o := by
 have hlt : ∀ g, v.ownBlock = some g → n₀ ≤ g := fun g e => (hrow.lt g e).1
 have hv1 : LBox w1 b n v := (hv.alloc tmp).kept hgrow (fun e => by have := hlt b e.symm; omega)
 have hbe : Below b W w1 := ((Below.refl b W).alloc (by omega) tmp).grown hgrow (by simp; omega) (fun g e => by have := hlt g e; omega)
 refine ⟨hv1, hv1.set1 v', row_kept hown' (grownBy_setCellAt w1 b 1 v') hB, hbe.setCell (p := ⟨b, 1, none⟩) (Nat.le_refl _) _, ?_⟩
 intro j o hj hne ho
 have hjl := (Array.getElem?_eq_some_iff.1 hj).1
 have h1 : (W.alloc tmp).heap[j]? = some o := (Below.heap_alloc W tmp j hjl).trans hj
 have h2 : w1.heap[j]? = some o := by
  refine (hgrow.block j (by simp; omega) (fun e => ?_)).trans h1
  rcases ho with ho | ho
  ·have := hlt j e.symm; omega
  ·rcases hrow with ⟨_, ⟨rfl, _⟩ | ⟨g, cap, cur, rfl, _, hgc, _⟩⟩
   ·simp [Value.ownBlock] at e
   ·have : j = g := by simpa [Value.ownBlock] using e
    subst this
    rw [hj] at hgc
    exact ho cur (Option.some.inj hgc)
 exact ((grownBy_setCellAt w1 b 1 v').block j (Array.getElem?_eq_some_iff.1 h2).1 (fun e => hne (by cases e; rfl))).trans h2
/-- The sum of a text, as a text. -/
def sumT (n : Int) (p : ByteArray) : ByteArray := ⟨(sumOf p.data.toList n).toArray⟩
theorem sumT_size (n : Int) (p : ByteArray) : (sumT n p).size ≤ 8 := by
 show (sumOf p.data.toList n).toArray.size ≤ 8
 rw [List.size_toArray]; exact sumOf_len _ _
/-- The list of a text: its size and its sums. -/
def hasL (s : ByteArray) (n : Int) : Bool := isW n && decide (s.size ≤ 3000)
def descN (s : ByteArray) (n : Int) : Int := if hasL s n then (s.size : Int) else 0
def descS (s : ByteArray) (n : Int) : List ByteArray := if hasL s n then (piecesOf s).map (sumT n) else []
theorem descS_len (s : ByteArray) (n : Int) : (descS s n).length ≤ 3000 := by
 unfold descS
 split
 ·rw [List.length_map]; exact piecesOf_len s
 ·simp
end Go.Proofs.YtkjdabnglcabiaaGreatDoor
/- The arguments of laws: how long they are; copies of them. -/
namespace Go.Proofs.YtkjdabnglcabiaaGreatDoor
open Go.RowKit
def tv (ts : List ByteArray) (i : Nat) : ByteArray := ts.getD i ByteArray.empty
end Go.Proofs.YtkjdabnglcabiaaGreatDoor
/- The order of texts; those of an ascending list from a text to another. -/
namespace Go.Proofs.YtkjdabnglcabiaaGreatDoor
open Go.RowKit
theorem bl_irrefl : ∀ x : List UInt8, Op.bytesLess x x = false
 | [] => rfl
 | a :: x => by simp [Op.bytesLess, bl_irrefl x]
theorem bl_trans : ∀ x y z : List UInt8, Op.bytesLess x y = true → Op.bytesLess y z = true → Op.bytesLess x z = true
 | _, [], _, h, _ => by simp [Op.bytesLess] at h
 | _, _ :: _, [], _, h => by simp [Op.bytesLess] at h
 | [], _ :: _, _ :: _, _, _ => rfl
 | a :: x, b :: y, c :: z, h, k => by
  simp only [Op.bytesLess, Bool.or_eq_true, Bool.and_eq_true, decide_eq_true_eq, beq_iff_eq] at h k ⊢
  rcases h with h | ⟨rfl, h⟩ <;> rcases k with k | ⟨rfl, k⟩
  ·exact .inl (UInt8.lt_trans h k)
  ·exact .inl h
  ·exact .inl k
  ·exact .inr ⟨rfl, bl_trans x y z h k⟩
theorem bl_total : ∀ x y : List UInt8, Op.bytesLess x y = false → Op.bytesLess y x = false → x = y
 | [], [], _, _ => rfl
 | [], _ :: _, h, _ => by simp [Op.bytesLess] at h
 | _ :: _, [], _, h => by simp [Op.bytesLess] at h
 | a :: x, b :: y, h, k => by
  simp only [Op.bytesLess, Bool.or_eq_false_iff, Bool.and_eq_false_iff, decide_eq_false_iff_not, UInt8.not_lt] at h k
  have e : a = b := UInt8.le_antisymm k.1 h.1
  subst e
  simp only [beq_self_eq_true, Bool.true_eq_false, false_or] at h k
  rw [bl_total x y h.2 k.2]
/-- One text is less than another. -/
def tlt (a b : ByteArray) : Bool := Op.bytesLess a.toList b.toList
theorem tlt_irrefl (a : ByteArray) : tlt a a = false := bl_irrefl _
theorem tlt_trans {a b c : ByteArray} (h : tlt a b = true) (k : tlt b c = true) : tlt a c = true := bl_trans _ _ _ h k
theorem text_eq {a b : ByteArray} (h : a.toList = b.toList) : a = b := by
 rw [ByteArray.toList_eq, ByteArray.toList_eq] at h
 exact ByteArray.ext (Array.ext' h)
theorem tlt_leq (a b : ByteArray) : (Op.bytesLess a.toList b.toList || a.toList == b.toList) = !tlt b a := by
 unfold tlt
 cases h : Op.bytesLess b.toList a.toList
 ·cases k : Op.bytesLess a.toList b.toList
  ·simp [bl_total _ _ k h]
  ·rfl
 ·have k : Op.bytesLess a.toList b.toList = false := by
   cases e : Op.bytesLess a.toList b.toList
   ·rfl
   ·exact absurd (bl_trans _ _ _ h e) (by rw [bl_irrefl]; simp)
  have n : a.toList ≠ b.toList := fun e => by rw [e, bl_irrefl] at h; cases h
  rw [k]
  simpa using n
/-- A list of texts, ascending. -/
def Asc (ts : List ByteArray) : Prop := ts.Pairwise fun a b => tlt a b = true
/-- How many at the head are less than a text. -/
def cutN (x : ByteArray) (ts : List ByteArray) : Nat := (ts.takeWhile (tlt · x)).length
theorem cutN_le (x : ByteArray) : ∀ ts : List ByteArray, cutN x ts ≤ ts.length
 | [] => by simp [cutN]
 | a :: l => by
  have := cutN_le x l
  unfold cutN at this ⊢
  by_cases h : tlt a x = true
  ·simp [h]; omega
  ·simp [h]
theorem cutN_cons (x a : ByteArray) (l : List ByteArray) : cutN x (a :: l) = if tlt a x = true then cutN x l + 1 else 0 := by
 unfold cutN
 by_cases h : tlt a x = true <;> simp [h]
theorem asc_all {a x : ByteArray} {l : List ByteArray} (h : Asc (a :: l)) (k : ¬ tlt a x = true) : ∀ b ∈ l, tlt b x = false := fun b hb => by
 have h1 : tlt a b = true := (List.pairwise_cons.1 h).1 b hb
 cases e : tlt b x
 ·rfl
 ·exact absurd (tlt_trans h1 e) k
theorem cut_drop (x : ByteArray) : ∀ ts : List ByteArray, Asc ts → ts.filter (fun t => !tlt t x) = ts.drop (cutN x ts)
 | [], _ => by simp
 | a :: l, h => by
  have ih := cut_drop x l (List.pairwise_cons.1 h).2
  rw [cutN_cons]
  by_cases k : tlt a x = true
  ·simp [k, ih]
  ·rw [if_neg k, List.drop_zero, List.filter_cons_of_pos (by simpa using k)]
   rw [List.filter_eq_self.2 fun b hb => by simp [asc_all h k b hb]]
theorem cut_take (x : ByteArray) : ∀ ts : List ByteArray, Asc ts → ts.filter (fun t => tlt t x) = ts.take (cutN x ts)
 | [], _ => by simp
 | a :: l, h => by
  have ih := cut_take x l (List.pairwise_cons.1 h).2
  rw [cutN_cons]
  by_cases k : tlt a x = true
  ·simp [k, ih]
  ·rw [if_neg k, List.take_zero, List.filter_cons_of_neg (p := fun t => tlt t x) k, List.filter_eq_nil_iff]
   exact fun b hb => by simp [asc_all h k b hb]
theorem cut_below (x : ByteArray) : ∀ (ts : List ByteArray) (i : Nat), i < cutN x ts → tlt (tv ts i) x = true
 | [], i, h => by simp [cutN] at h
 | a :: l, i, h => by
  rw [cutN_cons] at h
  by_cases k : tlt a x = true
  ·rw [if_pos k] at h
   cases i with
   | zero => simpa [tv] using k
   | succ i => simpa [tv] using cut_below x l i (by omega)
  ·rw [if_neg k] at h; omega
theorem cut_above (x : ByteArray) : ∀ (ts : List ByteArray), Asc ts → ∀ (i : Nat), cutN x ts ≤ i → i < ts.length → tlt (tv ts i) x = false
 | [], _, i, _, h => by simp at h
 | a :: l, hA, i, h, hl => by
  rw [cutN_cons] at h
  by_cases k : tlt a x = true
  ·rw [if_pos k] at h
   cases i with
   | zero => omega
   | succ i => simpa [tv] using cut_above x l (List.pairwise_cons.1 hA).2 i (by omega) (by simpa using hl)
  ·cases i with
   | zero => simpa [tv] using k
   | succ i =>
    have hm : tv (a :: l) (i + 1) ∈ l := by
     have : i < l.length := by simpa using hl
     simp [tv, this]
    exact asc_all hA k _ hm
/-- What the library's search finds in an ascending list. -/
theorem search_cut (x : ByteArray) (ts : List ByteArray) (h : Asc ts) :
  Lib.bsGo (fun t => Op.bytesLess ((if t < ts.length then tv ts t else x) : ByteArray).toList x.toList) ts.length 0 ts.length = cutN x ts := by
 refine Lib.bsGo_spec _ _ (fun t ht => ?_) (fun t ht => ?_) _ _ _ (by omega) (Nat.zero_le _) (cutN_le x ts)
 ·rw [if_pos (Nat.lt_of_lt_of_le ht (cutN_le x ts))]
  exact cut_below x ts t ht
 ·by_cases k : t < ts.length
  ·rw [if_pos k]; exact cut_above x ts h t ht k
  ·rw [if_neg k]; exact bl_irrefl _
theorem asc_drop {ts : List ByteArray} (h : Asc ts) (n : Nat) : Asc (ts.drop n) := h.sublist (List.drop_sublist n ts)
theorem asc_take {ts : List ByteArray} (h : Asc ts) (n : Nat) : Asc (ts.take n) := h.sublist (List.take_sublist n ts)
/-- The texts of a list, ascending and each of so many bytes, as far as the i-th. -/
def okAt (n : Int) (ts : List ByteArray) (i : Nat) : Prop := ((tv ts i).size : Int) = n ∧ (0 < i → tlt (tv ts (i - 1)) (tv ts i) = true)
def okSums (n : Int) (ts : List ByteArray) : Prop := ∀ i, i < ts.length → okAt n ts i
theorem asc_of : ∀ (ts : List ByteArray), (∀ i, 0 < i → i < ts.length → tlt (tv ts (i - 1)) (tv ts i) = true) → Asc ts
 | [], _ => List.Pairwise.nil
 | a :: l, h => by
  have ih : Asc l := asc_of l fun i h0 hi => by
   have := h (i + 1) (by omega) (by simpa using hi)
   obtain ⟨j, rfl⟩ : ∃ j, i = j + 1 := ⟨i - 1, by omega⟩
   simpa [tv] using this
  refine List.pairwise_cons.2 ⟨fun b hb => ?_, ih⟩
  cases l with
  | nil => simp at hb
  | cons c l =>
   have h1 : tlt a c = true := by simpa [tv] using h 1 (by omega) (by simp)
   rcases List.mem_cons.1 hb with rfl | hb
   ·exact h1
   ·exact tlt_trans h1 ((List.pairwise_cons.1 ih).1 b hb)
theorem okSums_asc {n : Int} {ts : List ByteArray} (h : okSums n ts) : Asc ts := asc_of ts fun i h0 hi => (h i hi).2 h0
theorem okSums_size {n : Int} {ts : List ByteArray} (h : okSums n ts) : ∀ t ∈ ts, (t.size : Int) = n := fun t ht => by
 obtain ⟨i, hi, rfl⟩ := List.getElem_of_mem ht
 have := (h i hi).1
 simpa [tv, hi] using this
end Go.Proofs.YtkjdabnglcabiaaGreatDoor
/- A heap in a list. -/
namespace Go.Proofs.YtkjdabnglcabiaaGreatDoor
/-! A heap in a list: who stands above is not behind who stands below. -/
section
variable {α : Type} (lt : α → α → Bool) (d : α)
def ha (hs : List α) (i : Nat) : α := hs.getD i d
/-- Two places changed with each other. -/
def swp (hs : List α) (i j : Nat) : List α := (hs.set i (ha d hs j)).set j (ha d hs i)
theorem swp_len (hs : List α) (i j : Nat) : (swp d hs i j).length = hs.length := by simp [swp]
theorem swp_at (hs : List α) (i j k : Nat) (hi : i < hs.length) (hj : j < hs.length) : ha d (swp d hs i j) k = if k = j then ha d hs i else if k = i then ha d hs j else ha d hs k := by
 unfold swp
 by_cases hkj : k = j
 ·subst hkj
  rw [if_pos rfl]
  unfold ha
  simp [hj]
 ·rw [if_neg hkj]
  by_cases hki : k = i
  ·subst hki
   rw [if_pos rfl]
   unfold ha
   rw [List.getD_eq_getElem?_getD, List.getElem?_set_ne (fun e => hkj e.symm), List.getElem?_set_self hi]
   rfl
  ·rw [if_neg hki]
   unfold ha
   rw [List.getD_eq_getElem?_getD, List.getElem?_set_ne (fun e => hkj e.symm), List.getElem?_set_ne (fun e => hki e.symm), ← List.getD_eq_getElem?_getD]
theorem ha_get (hs : List α) (i : Nat) (h : i < hs.length) : ha d hs i = hs[i] := by simp [ha, h]
theorem set_perm : ∀ (l : List α) (j : Nat) (a : α) (h : j < l.length), (l[j] :: l.set j a).Perm (a :: l)
 | [], _, _, h => absurd h (by simp)
 | x :: l, 0, a, _ => by simpa using List.Perm.swap a x l
 | x :: l, j + 1, a, h => by
  have h' : j < l.length := by simpa using h
  have ih := set_perm l j a h'
  show (l[j] :: x :: l.set j a).Perm (a :: x :: l)
  exact (List.Perm.swap x l[j] _).trans ((ih.cons x).trans (List.Perm.swap a x l))
theorem swp_perm (hs : List α) (i j : Nat) (hi : i < hs.length) (hj : j < hs.length) (hij : i ≠ j) : (swp d hs i j).Perm hs := by
 have h1 := set_perm hs i (ha d hs j) hi
 have h2 := set_perm (hs.set i (ha d hs j)) j (ha d hs i) (by simpa using hj)
 have e : (hs.set i (ha d hs j))[j]'(by simpa using hj) = ha d hs j := by
  rw [List.getElem_set_ne hij, ← ha_get d hs j hj]
 rw [e] at h2
 rw [← ha_get d hs i hi] at h1
 have h3 : (ha d hs j :: swp d hs i j).Perm (ha d hs j :: hs) := h2.trans h1
 exact h3.cons_inv
def Hp (hs : List α) : Prop := ∀ i, 0 < i → i < hs.length → lt (ha d hs i) (ha d hs ((i - 1) / 2)) = false
/-- A heap but at one place that may have to go up. -/
structure Up (hs : List α) (k : Nat) : Prop where
 hlt : k < hs.length
 all : ∀ i, 0 < i → i < hs.length → i ≠ k → lt (ha d hs i) (ha d hs ((i - 1) / 2)) = false
 kids : 0 < k → ∀ c, 0 < c → c < hs.length → (c - 1) / 2 = k → lt (ha d hs c) (ha d hs ((k - 1) / 2)) = false
theorem Up.push {hs : List α} (h : Hp lt d hs) (a : α) : Up lt d (hs ++ [a]) hs.length where
 hlt := by simp
 all := fun i h0 hi hne => by
  have hi' : i < hs.length := by simp at hi; omega
  have e1 : ∀ j, j < hs.length → ha d (hs ++ [a]) j = ha d hs j := fun j hj => by
   unfold ha; rw [List.getD_eq_getElem?_getD, List.getElem?_append_left hj, ← List.getD_eq_getElem?_getD]
  rw [e1 i hi', e1 _ (by omega)]
  exact h i h0 hi'
 kids := fun h0 c hc hl e => by simp at hl; omega
theorem Up.done {hs : List α} {k : Nat} (h : Up lt d hs k) (hk : k = 0 ∨ lt (ha d hs k) (ha d hs ((k - 1) / 2)) = false) : Hp lt d hs := fun i h0 hi => by
 by_cases e : i = k
 ·subst e
  rcases hk with rfl | hk
  ·omega
  ·exact hk
 ·exact h.all i h0 hi e
variable (hco : ∀ a b c, lt a b = false → lt b c = false → lt a c = false) (has : ∀ a b, lt a b = true → lt b a = false)
include hco has in
theorem Up.step {hs : List α} {k : Nat} (h : Up lt d hs k) (h0 : 0 < k) (hf : lt (ha d hs k) (ha d hs ((k - 1) / 2)) = true) : Up lt d (swp d hs k ((k - 1) / 2)) ((k - 1) / 2) := by
 have hk := h.hlt
 have hp : (k - 1) / 2 < k := by omega
 have A := fun i => swp_at d hs k ((k - 1) / 2) i hk (by omega)
 have hrev := has _ _ hf
 refine ⟨by rw [swp_len]; omega, fun i hi0 hi hne => ?_, fun hp0 c hc0 hc he => ?_⟩
 ·rw [swp_len] at hi
  rw [A, A, if_neg hne]
  by_cases e1 : i = k
  ·subst e1
   rw [if_pos rfl, if_pos rfl]
   exact hrev
  ·rw [if_neg e1]
   by_cases e2 : (i - 1) / 2 = (k - 1) / 2
   ·rw [if_pos e2]
    have h1 := h.all i hi0 hi e1
    rw [e2] at h1
    exact hco _ _ _ h1 hrev
   ·rw [if_neg e2]
    by_cases e3 : (i - 1) / 2 = k
    ·rw [if_pos e3]
     exact h.kids h0 i hi0 hi e3
    ·rw [if_neg e3]
     exact h.all i hi0 hi e1
 ·rw [swp_len] at hc
  rw [A, A, if_neg (show ¬ c = (k - 1) / 2 by omega), if_neg (show ¬ ((k - 1) / 2 - 1) / 2 = (k - 1) / 2 by omega), if_neg (show ¬ ((k - 1) / 2 - 1) / 2 = k by omega)]
  have hpp := h.all ((k - 1) / 2) hp0 (by omega) (by omega)
  by_cases e1 : c = k
  ·subst e1
   rw [if_pos rfl]
   exact hpp
  ·rw [if_neg e1]
   have h1 := h.all c hc0 hc e1
   rw [he] at h1
   exact hco _ _ _ h1 hpp
/-- A heap but at one place that may have to go down. -/
structure Dn (hs : List α) (k : Nat) : Prop where
 all : ∀ i, 0 < i → i < hs.length → (i - 1) / 2 ≠ k → lt (ha d hs i) (ha d hs ((i - 1) / 2)) = false
 kids : 0 < k → ∀ c, 0 < c → c < hs.length → (c - 1) / 2 = k → lt (ha d hs c) (ha d hs ((k - 1) / 2)) = false
theorem Dn.start {hs : List α} (h : ∀ i, 0 < i → i < hs.length → (i - 1) / 2 ≠ 0 → lt (ha d hs i) (ha d hs ((i - 1) / 2)) = false) : Dn lt d hs 0 := ⟨h, fun h0 => absurd h0 (by omega)⟩
theorem Dn.done {hs : List α} {k : Nat} (h : Dn lt d hs k) (hk : ∀ c, 0 < c → c < hs.length → (c - 1) / 2 = k → lt (ha d hs c) (ha d hs k) = false) : Hp lt d hs := fun i h0 hi => by
 by_cases e : (i - 1) / 2 = k
 ·rw [e]; exact hk i h0 hi e
 ·exact h.all i h0 hi e
include has in
theorem Dn.step {hs : List α} {k m : Nat} (h : Dn lt d hs k) (hm0 : 0 < m) (hm : m < hs.length) (hmk : (m - 1) / 2 = k) (hf : lt (ha d hs m) (ha d hs k) = true) (hb : ∀ c, 0 < c → c < hs.length → (c - 1) / 2 = k → lt (ha d hs c) (ha d hs m) = false) : Dn lt d (swp d hs k m) m := by
 have hkm : k < m := by omega
 have A := fun i => swp_at d hs k m i (by omega) hm
 have hrev := has _ _ hf
 refine ⟨fun i hi0 hi hne => ?_, fun _ c hc0 hc he => ?_⟩
 ·rw [swp_len] at hi
  rw [A, A]
  rw [if_neg hne]
  by_cases e1 : i = m
  ·subst e1
   rw [if_pos rfl, if_pos hmk]
   exact hrev
  ·rw [if_neg e1]
   by_cases e2 : i = k
   ·subst e2
    rw [if_pos rfl, if_neg (by omega)]
    exact h.kids (by omega) m hm0 hm hmk
   ·rw [if_neg e2]
    by_cases e3 : (i - 1) / 2 = k
    ·rw [if_pos e3]; exact hb i hi0 hi e3
    ·rw [if_neg e3]; exact h.all i hi0 hi e3
 ·rw [swp_len] at hc
  rw [A, A, if_neg (by omega), if_neg (by omega)]
  rw [hmk, if_neg (by omega), if_pos rfl]
  have h1 := h.all c hc0 hc (by omega)
  rw [he] at h1
  exact h1
include hco in
theorem Hp.least {hs : List α} (h : Hp lt d hs) (hirr : ∀ a, lt a a = false) : ∀ n i, i ≤ n → i < hs.length → lt (ha d hs i) (ha d hs 0) = false
 | 0, i, hi, _ => by
  obtain rfl : i = 0 := by omega
  exact hirr _
 | n + 1, i, hi, hl => by
  by_cases e : i = 0
  ·subst e; exact hirr _
  ·exact hco _ _ _ (h i (by omega) hl) (Hp.least h hirr n ((i - 1) / 2) (by omega) (by omega))
/-- The last in place of the first. -/
theorem pop_perm (hs : List α) (h : 0 < hs.length) : (ha d hs 0 :: (hs.set 0 (ha d hs (hs.length - 1))).take (hs.length - 1)).Perm hs := by
 match hs with
 | [] => simp at h
 | [a] => simp [ha]
 | a :: b :: l =>
  have e : ha d (a :: b :: l) ((a :: b :: l).length - 1) = (b :: l).getLast (by simp) := by
   unfold ha
   rw [List.getLast_eq_getElem, List.getD_eq_getElem?_getD]
   simp
  rw [e]
  show (a :: ((b :: l).getLast _ :: (b :: l).take ((b :: l).length - 1))).Perm (a :: b :: l)
  refine List.Perm.cons a ?_
  have h2 : (b :: l).take ((b :: l).length - 1) = (b :: l).dropLast := by rw [List.dropLast_eq_take]
  rw [h2]
  have h3 := List.dropLast_concat_getLast (l := b :: l) (by simp)
  have h4 : ((b :: l).dropLast ++ [(b :: l).getLast (by simp)]).Perm (b :: l) := by rw [h3]
  exact (List.perm_append_singleton _ _).symm.trans h4
theorem pop_dn {hs : List α} (h : Hp lt d hs) (h0 : 0 < hs.length) : Dn lt d ((hs.set 0 (ha d hs (hs.length - 1))).take (hs.length - 1)) 0 := by
 refine Dn.start lt d fun i hi0 hi hne => ?_
 have hl : i < hs.length - 1 := by simp at hi; omega
 have e : ∀ j, 0 < j → j < hs.length - 1 → ha d ((hs.set 0 (ha d hs (hs.length - 1))).take (hs.length - 1)) j = ha d hs j := fun j hj0 hj => by
  unfold ha
  rw [List.getD_eq_getElem?_getD, List.getElem?_take_of_lt hj, List.getElem?_set_ne (by omega), ← List.getD_eq_getElem?_getD]
 rw [e i hi0 hl, e _ (by omega) (by omega)]
 exact h i hi0 (by omega)
end
/-! What leaves first. -/
abbrev Lv := ByteArray × Int
def lv0 : Lv := (⟨#[]⟩, 0)
def lfB (a b : Lv) : Bool := decide (a.2 < b.2) || (decide (a.2 = b.2) && tlt a.1 b.1)
theorem tlt_total {a b : ByteArray} (h : tlt a b = false) (k : tlt b a = false) : a = b := text_eq (bl_total _ _ h k)
theorem tlt_co {a b c : ByteArray} (h : tlt a b = false) (k : tlt b c = false) : tlt a c = false := by
 cases e : tlt a c with
 | false => rfl
 | true =>
  cases e2 : tlt b a with
  | true => rw [tlt_trans e2 e] at k; cases k
  | false =>
   have := tlt_total h e2
   subst this
   rw [e] at k; cases k
theorem tlt_as {a b : ByteArray} (h : tlt a b = true) : tlt b a = false := by
 cases e : tlt b a with
 | false => rfl
 | true => have := tlt_trans h e; rw [tlt_irrefl] at this; cases this
theorem lfB_iff (a b : Lv) : lfB a b = true ↔ a.2 < b.2 ∨ (a.2 = b.2 ∧ tlt a.1 b.1 = true) := by simp [lfB]
theorem lfB_not (a b : Lv) : lfB a b = false ↔ b.2 < a.2 ∨ (a.2 = b.2 ∧ tlt a.1 b.1 = false) := by
 rw [← Bool.not_eq_true, lfB_iff]
 constructor
 ·intro h
  rcases Int.lt_trichotomy a.2 b.2 with h1 | h1 | h1
  ·exact absurd (.inl h1) h
  ·exact .inr ⟨h1, by cases e : tlt a.1 b.1 with | false => rfl | true => exact absurd (.inr ⟨h1, e⟩) h⟩
  ·exact .inl h1
 ·rintro (h | ⟨h1, h2⟩) (k | ⟨k1, k2⟩)
  ·omega
  ·omega
  ·omega
  ·rw [h2] at k2; cases k2
theorem lfB_irr (a : Lv) : lfB a a = false := (lfB_not a a).2 (.inr ⟨rfl, tlt_irrefl _⟩)
theorem lfB_as (a b : Lv) (h : lfB a b = true) : lfB b a = false := by
 rw [lfB_not]
 rcases (lfB_iff a b).1 h with h | ⟨h1, h2⟩
 ·exact .inl h
 ·exact .inr ⟨h1.symm, tlt_as h2⟩
theorem lfB_co (a b c : Lv) (h : lfB a b = false) (k : lfB b c = false) : lfB a c = false := by
 rw [lfB_not] at *
 rcases h with h | ⟨h1, h2⟩ <;> rcases k with k | ⟨k1, k2⟩
 ·exact .inl (by omega)
 ·exact .inl (by omega)
 ·exact .inl (by omega)
 ·exact .inr ⟨by omega, tlt_co h2 k2⟩
theorem lfB_eq {a b : Lv} (h : lfB a b = false) (k : lfB b a = false) : a = b := by
 rw [lfB_not] at *
 rcases h with h | ⟨h1, h2⟩ <;> rcases k with k | ⟨k1, k2⟩
 ·omega
 ·omega
 ·omega
 ·exact Prod.ext (tlt_total h2 k2) h1
abbrev hv (hs : List Lv) (i : Nat) : Lv := ha lv0 hs i
abbrev HpL (hs : List Lv) : Prop := Hp lfB lv0 hs
theorem HpL.least {hs : List Lv} (h : HpL hs) (l : Lv) (hl : l ∈ hs) : lfB l (hv hs 0) = false := by
 obtain ⟨i, hi, rfl⟩ := List.getElem_of_mem hl
 rw [← ha_get lv0 hs i hi]
 exact Hp.least lfB lv0 lfB_co h lfB_irr i i (Nat.le_refl _) hi
end Go.Proofs.YtkjdabnglcabiaaGreatDoor
