import Derived.Test.YtkghbegdjeehaaaGreatDoorShort
import Derived.Test.YtkghbegdjeehaaaGreatDoorToItems
import Derived.Test.YtkghbegdjeehaaaGreatDoorArgs
import Derived.Shelf.Spec.SearchS
/- Stores as arguments: how large, copies, whether two are the same. -/
namespace Go.Proofs.YtkghbegdjeehaaaGreatDoor
open Go.RowKit
structure Store4 (u : World) (b : Nat) (T : TypeId) (c0 c1 c2 c3 d0 d1 d2 d3 : Value) : Prop where
 a0 : u.cell? ⟨b, 0, none⟩ = some c0
 f0 : u.frozen? ⟨b, 0, none⟩ = false
 a1 : (u.setCell ⟨b, 0, none⟩ d0).cell? ⟨b, 1, none⟩ = some c1
 f1 : (u.setCell ⟨b, 0, none⟩ d0).frozen? ⟨b, 1, none⟩ = false
 a2 : ((u.setCell ⟨b, 0, none⟩ d0).setCell ⟨b, 1, none⟩ d1).cell? ⟨b, 2, none⟩ = some c2
 f2 : ((u.setCell ⟨b, 0, none⟩ d0).setCell ⟨b, 1, none⟩ d1).frozen? ⟨b, 2, none⟩ = false
 a3 : (((u.setCell ⟨b, 0, none⟩ d0).setCell ⟨b, 1, none⟩ d1).setCell ⟨b, 2, none⟩ d2).cell? ⟨b, 3, none⟩ = some c3
 f3 : (((u.setCell ⟨b, 0, none⟩ d0).setCell ⟨b, 1, none⟩ d1).setCell ⟨b, 2, none⟩ d2).frozen? ⟨b, 3, none⟩ = false
 z : Blk ((((u.setCell ⟨b, 0, none⟩ d0).setCell ⟨b, 1, none⟩ d1).setCell ⟨b, 2, none⟩ d2).setCell ⟨b, 3, none⟩ d3) b T #[d0, d1, d2, d3]
theorem Blk.store4 {u : World} {b : Nat} {T : TypeId} {c0 c1 c2 c3 : Value} (h : Blk u b T #[c0, c1, c2, c3]) (d0 d1 d2 d3 : Value) : Store4 u b T c0 c1 c2 c3 d0 d1 d2 d3 where
 a0 := h.cell 0
 f0 := h.fz 0
 a1 := (h.set 0 d0).cell 1
 f1 := (h.set 0 d0).fz 1
 a2 := ((h.set 0 d0).set 1 d1).cell 2
 f2 := ((h.set 0 d0).set 1 d1).fz 2
 a3 := (((h.set 0 d0).set 1 d1).set 2 d2).cell 3
 f3 := (((h.set 0 d0).set 1 d1).set 2 d2).fz 3
 z := ((((h.set 0 d0).set 1 d1).set 2 d2).set 3 d3)

set_option maxRecDepth 100000 in
set_option maxHeartbeats 400000 in
theorem eqItem_any (t : ByteArray) (u : Int) (w : World) :
  Calls Tryz.prog 81 #[.agg #[.string t, .int .i64 u], .agg #[.string t, .int .i64 u]] w fun e w' => e = .returned (.bool true) ∧ Below w.heap.size w w' := by
 go_enter Tryz.func81, Tryz.ntmps81
 go_wp2
 go_ret
 exact ⟨by simp, ((Below.refl _ _).alloc (Nat.le_refl _) _).alloc (by simp) _⟩
set_option maxRecDepth 100000 in
set_option maxHeartbeats 1000000 in
theorem eqItemS_any (va vb : Value) (its : Itms) (w : World) (ha : RdI w va its) (hb : RdI w vb its) (hl : its.length ≤ maxLen) :
  Calls Tryz.prog 56 #[va, vb] w fun e w' => e = .returned (.bool true) ∧ Below w.heap.size w w' := by
 unfold maxLen at hl
 obtain ⟨a, ca, rfl, hca⟩ := ha
 obtain ⟨b, cb, rfl, hcb⟩ := hb
 have HCA := hid hca
 have HCB := hid hcb
 have HE := hid fun t u W => eqItem_any t u W
 clear hca hcb
 go_enter Tryz.func56, Tryz.ntmps56
 go_wp2
 go_loopw [5] (fun i wr => ∃ k : Nat, k ≤ its.length ∧ i = .int .i64 k ∧ Below w.heap.size w wr) (fun i _ => its.length - (intOf i).toNat)
 case atStart => exact ⟨0, Nat.zero_le _, rfl, Below.refl _ _⟩
 case round =>
  obtain ⟨k, hk, rfl, hbl⟩ := hrel
  by_cases hlt : k < its.length
  ·obtain ⟨b1, o1, rfl, hb1, hx1, hy1⟩ := HCA.out k hlt
   obtain ⟨b2, o2, rfl, hb2, hx2, hy2⟩ := HCB.out k hlt
   have p1 := (hbl.cell (p := ⟨b1, o1 + k * 2, none⟩) hb1).trans hx1
   have q1 := (hbl.cell (p := ⟨b1, o1 + k * 2 + 1, none⟩) hb1).trans hy1
   have p2 := (hbl.cell (p := ⟨b2, o2 + k * 2, none⟩) hb2).trans hx2
   have q2 := (hbl.cell (p := ⟨b2, o2 + k * 2 + 1, none⟩) hb2).trans hy2
   have hc1 : b1 < wr.heap.size := Nat.lt_of_lt_of_le hb1 hbl.size
   have hc2 : b2 < wr.heap.size := Nat.lt_of_lt_of_le hb2 hbl.size
   generalize itx its k = t at *
   generalize itu its k = u at *
   have HBL := hid hbl
   clear hx1 hy1 hx2 hy2 hbl hb1 hb2
   go_wp2_with fail
   refine wp_region_held (S := fun w' => w'.cell? ⟨b1, o1 + k * 2, none⟩ = some (.string t) ∧ w'.cell? ⟨b1, o1 + k * 2 + 1, none⟩ = some (.int .i64 u) ∧ w'.cell? ⟨b2, o2 + k * 2, none⟩ = some (.string t) ∧ w'.cell? ⟨b2, o2 + k * 2 + 1, none⟩ = some (.int .i64 u)) (by kernel_rfl) ?_
   change wpAnyH _ _ _ _ _ _ _ _ (World.drew _)
   have hS0 : wr.drew.cell? ⟨b1, o1 + k * 2, none⟩ = some (.string t) ∧ wr.drew.cell? ⟨b1, o1 + k * 2 + 1, none⟩ = some (.int .i64 u) ∧ wr.drew.cell? ⟨b2, o2 + k * 2, none⟩ = some (.string t) ∧ wr.drew.cell? ⟨b2, o2 + k * 2 + 1, none⟩ = some (.int .i64 u) := ⟨p1, q1, p2, q2⟩
   refine tkA 0 (.slice (some ⟨b1, o1, none⟩) its.length ca) rfl hS0 ?_
   refine tkA 1 (.int .i64 (k : Nat)) rfl hS0 ?_
   refine tkA 2 (.pointer (some ⟨b1, o1 + k * 2, none⟩)) rfl hS0 ?_
   refine tkA 3 (.agg #[.string t, .int .i64 u]) rfl hS0 ?_
   refine tkA 4 (.slice (some ⟨b2, o2, none⟩) its.length cb) rfl hS0 ?_
   refine tkA 5 (.int .i64 (k : Nat)) rfl hS0 ?_
   refine tkA 6 (.pointer (some ⟨b2, o2 + k * 2, none⟩)) rfl hS0 ?_
   refine tkA 7 (.agg #[.string t, .int .i64 u]) rfl hS0 ?_
   have hec := enters_of Tryz.func81 (by kernel_rfl) rfl
   refine held_one 8 (by kernel_rfl) (op_calls (f := 81) (args := #[.agg #[.string t, .int .i64 u], .agg #[.string t, .int .i64 u]]) rfl rfl (by go_simp) (HE.out t u _) ?_)
   rintro e w1 ⟨rfl, hb1⟩
   have hb1' : Below wr.heap.size wr w1 := ⟨hb1.os, hb1.tape, hb1.output, hb1.size, hb1.block⟩
   have hS1 : w1.cell? ⟨b1, o1 + k * 2, none⟩ = some (.string t) ∧ w1.cell? ⟨b1, o1 + k * 2 + 1, none⟩ = some (.int .i64 u) ∧ w1.cell? ⟨b2, o2 + k * 2, none⟩ = some (.string t) ∧ w1.cell? ⟨b2, o2 + k * 2 + 1, none⟩ = some (.int .i64 u) := ⟨(hb1'.cell (p := ⟨b1, o1 + k * 2, none⟩) hc1).trans p1, (hb1'.cell (p := ⟨b1, o1 + k * 2 + 1, none⟩) hc1).trans q1, (hb1'.cell (p := ⟨b2, o2 + k * 2, none⟩) hc2).trans p2, (hb1'.cell (p := ⟨b2, o2 + k * 2 + 1, none⟩) hc2).trans q2⟩
   have HB1 := hid (HBL.out.trans (hb1'.mono HBL.out.size))
   clear hb1 hb1' hS0 p1 q1 p2 q2
   refine ⟨_, rfl, hS1, ?_⟩
   refine tkA 9 (.bool false) rfl hS1 ?_
   refine wpAnyH_done (by kernel_rfl) ?_ _
   clear hS1
   go_simp
   go_wp2
   go_roundw
   case rel => exact ⟨k + 1, by omega, by go_num, HB1.out⟩
   case measure => simp [intOf]; omega
  ·go_wp2
   go_ret
   exact ⟨by simp, hbl⟩
end Go.Proofs.YtkghbegdjeehaaaGreatDoor
/- Copies of stores; whether two are the same. -/
namespace Go.Proofs.YtkghbegdjeehaaaGreatDoor
open Go.RowKit
set_option maxRecDepth 100000 in
set_option maxHeartbeats 400000 in
theorem eqStore_any (wd room : Int) (vi vp vj vq : Value) (its : Itms) (ts : List ByteArray) (w : World) (hi : RdI w vi its) (hp : Reads w vp ts) (hj : RdI w vj its) (hq : Reads w vq ts) (hli : its.length ≤ maxLen) (hlp : ts.length ≤ maxLen) :
  Calls Tryz.prog 26 #[.agg #[.int .i64 wd, .int .i64 room, vi, vp], .agg #[.int .i64 wd, .int .i64 room, vj, vq]] w fun e w' => e = .returned (.bool true) ∧ Below w.heap.size w w' := by
 have hA := ((Below.refl w.heap.size w).alloc (Nat.le_refl _) (.cells #[.int .i64 wd, .int .i64 room, vi, vp] 32)).alloc (by simp) (.cells #[.int .i64 wd, .int .i64 room, vj, vq] 32)
 have HE := hid (eqItemS_any vi vj its _ (hi.below hA) (hj.below hA) hli)
 have HF := hid fun W h k => eqStringS_any vp vq ts W h k hlp
 have HP := hid (hp.below hA)
 have HQ := hid (hq.below hA)
 have HN1 := hid ((Blk.new w 32 #[.int .i64 wd, .int .i64 room, vi, vp]).alloc (.cells #[.int .i64 wd, .int .i64 room, vj, vq] 32))
 have hN2 := Blk.new (w.alloc (.cells #[.int .i64 wd, .int .i64 room, vi, vp] 32)) 32 #[.int .i64 wd, .int .i64 room, vj, vq]
 rw [World.size_alloc] at hN2
 have HN2 := hid hN2
 obtain ⟨ai, ci, rfl, _⟩ := hi
 obtain ⟨aj, cj, rfl, _⟩ := hj
 obtain ⟨ap, cp, rfl, _⟩ := hp.form
 obtain ⟨aq, cq, rfl, _⟩ := hq.form
 have HA := hid hA
 clear hp hq hA hN2
 go_enter Tryz.func26, Tryz.ntmps26
 go_wp2_with fail
 refine HE.out.mono ?_
 rintro e w1 ⟨rfl, hb1⟩
 have c1 : w1.cell? ⟨w.heap.size, 3, none⟩ = some (.slice ap ts.length cp) := (HN1.out.below hb1).cell 3
 have c2 : w1.cell? ⟨w.heap.size + 1, 3, none⟩ = some (.slice aq ts.length cq) := (HN2.out.below hb1).cell 3
 have HF1 := hid (HF.out w1 (HP.out.below hb1) (HQ.out.below hb1))
 have HB := hid (HA.out.trans (hb1.mono (by simp; omega)))
 clear hb1
 go_wp2_with fail
 refine HF1.out.mono ?_
 rintro e w2 ⟨rfl, hb2⟩
 have HB2 := hid (HB.out.trans (hb2.mono HB.out.size))
 clear hb2
 go_wp2
 go_ret
 exact ⟨by simp, HB2.out⟩
end Go.Proofs.YtkghbegdjeehaaaGreatDoor
/- The order of texts; those of an ascending list from a text to another. -/
namespace Go.Proofs.YtkghbegdjeehaaaGreatDoor
open Go.RowKit
theorem bl_irrefl : ∀ x : List UInt8, Op.bytesLess x x = false
 | [] => rfl
 | a :: x => by simp [Op.bytesLess, bl_irrefl x]
theorem bl_trans : ∀ x y z : List UInt8, Op.bytesLess x y = true → Op.bytesLess y z = true → Op.bytesLess x z = true
 | _, [], _, h, _ => by simp [Op.bytesLess] at h
 | _, _ :: _, [], _, h => by simp [Op.bytesLess] at h
 | [], _ :: _, _ :: _, _, _ => rfl
 | a :: x, b :: y, c :: z, h, k => by
  simp only [Op.bytesLess, Bool.or_eq_true, Bool.and_eq_true, decide_eq_true_eq, beq_iff_eq] at h k ⊢
  rcases h with h | ⟨rfl, h⟩ <;> rcases k with k | ⟨rfl, k⟩
  ·exact .inl (UInt8.lt_trans h k)
  ·exact .inl h
  ·exact .inl k
  ·exact .inr ⟨rfl, bl_trans x y z h k⟩
theorem bl_total : ∀ x y : List UInt8, Op.bytesLess x y = false → Op.bytesLess y x = false → x = y
 | [], [], _, _ => rfl
 | [], _ :: _, h, _ => by simp [Op.bytesLess] at h
 | _ :: _, [], _, h => by simp [Op.bytesLess] at h
 | a :: x, b :: y, h, k => by
  simp only [Op.bytesLess, Bool.or_eq_false_iff, Bool.and_eq_false_iff, decide_eq_false_iff_not, UInt8.not_lt] at h k
  have e : a = b := UInt8.le_antisymm k.1 h.1
  subst e
  simp only [beq_self_eq_true, Bool.true_eq_false, false_or] at h k
  rw [bl_total x y h.2 k.2]
/-- One text is less than another. -/
def tlt (a b : ByteArray) : Bool := Op.bytesLess a.toList b.toList
theorem tlt_irrefl (a : ByteArray) : tlt a a = false := bl_irrefl _
theorem tlt_trans {a b c : ByteArray} (h : tlt a b = true) (k : tlt b c = true) : tlt a c = true := bl_trans _ _ _ h k
theorem text_eq {a b : ByteArray} (h : a.toList = b.toList) : a = b := by
 rw [ByteArray.toList_eq, ByteArray.toList_eq] at h
 exact ByteArray.ext (Array.ext' h)
theorem tlt_leq (a b : ByteArray) : (Op.bytesLess a.toList b.toList || a.toList == b.toList) = !tlt b a := by
 unfold tlt
 cases h : Op.bytesLess b.toList a.toList
 ·cases k : Op.bytesLess a.toList b.toList
  ·simp [bl_total _ _ k h]
  ·rfl
 ·have k : Op.bytesLess a.toList b.toList = false := by
   cases e : Op.bytesLess a.toList b.toList
   ·rfl
   ·exact absurd (bl_trans _ _ _ h e) (by rw [bl_irrefl]; simp)
  have n : a.toList ≠ b.toList := fun e => by rw [e, bl_irrefl] at h; cases h
  rw [k]
  simpa using n
/-- A list of texts, ascending. -/
def Asc (ts : List ByteArray) : Prop := ts.Pairwise fun a b => tlt a b = true
/-- How many at the head are less than a text. -/
def cutN (x : ByteArray) (ts : List ByteArray) : Nat := (ts.takeWhile (tlt · x)).length
theorem cutN_le (x : ByteArray) : ∀ ts : List ByteArray, cutN x ts ≤ ts.length
 | [] => by simp [cutN]
 | a :: l => by
  have := cutN_le x l
  unfold cutN at this ⊢
  by_cases h : tlt a x = true
  ·simp [h]; omega
  ·simp [h]
theorem cutN_cons (x a : ByteArray) (l : List ByteArray) : cutN x (a :: l) = if tlt a x = true then cutN x l + 1 else 0 := by
 unfold cutN
 by_cases h : tlt a x = true <;> simp [h]
theorem asc_all {a x : ByteArray} {l : List ByteArray} (h : Asc (a :: l)) (k : ¬ tlt a x = true) : ∀ b ∈ l, tlt b x = false := fun b hb => by
 have h1 : tlt a b = true := (List.pairwise_cons.1 h).1 b hb
 cases e : tlt b x
 ·rfl
 ·exact absurd (tlt_trans h1 e) k
theorem cut_drop (x : ByteArray) : ∀ ts : List ByteArray, Asc ts → ts.filter (fun t => !tlt t x) = ts.drop (cutN x ts)
 | [], _ => by simp
 | a :: l, h => by
  have ih := cut_drop x l (List.pairwise_cons.1 h).2
  rw [cutN_cons]
  by_cases k : tlt a x = true
  ·simp [k, ih]
  ·rw [if_neg k, List.drop_zero, List.filter_cons_of_pos (by simpa using k)]
   rw [List.filter_eq_self.2 fun b hb => by simp [asc_all h k b hb]]
theorem cut_take (x : ByteArray) : ∀ ts : List ByteArray, Asc ts → ts.filter (fun t => tlt t x) = ts.take (cutN x ts)
 | [], _ => by simp
 | a :: l, h => by
  have ih := cut_take x l (List.pairwise_cons.1 h).2
  rw [cutN_cons]
  by_cases k : tlt a x = true
  ·simp [k, ih]
  ·rw [if_neg k, List.take_zero, List.filter_cons_of_neg (p := fun t => tlt t x) k, List.filter_eq_nil_iff]
   exact fun b hb => by simp [asc_all h k b hb]
theorem cut_below (x : ByteArray) : ∀ (ts : List ByteArray) (i : Nat), i < cutN x ts → tlt (tv ts i) x = true
 | [], i, h => by simp [cutN] at h
 | a :: l, i, h => by
  rw [cutN_cons] at h
  by_cases k : tlt a x = true
  ·rw [if_pos k] at h
   cases i with
   | zero => simpa [tv] using k
   | succ i => simpa [tv] using cut_below x l i (by omega)
  ·rw [if_neg k] at h; omega
theorem cut_above (x : ByteArray) : ∀ (ts : List ByteArray), Asc ts → ∀ (i : Nat), cutN x ts ≤ i → i < ts.length → tlt (tv ts i) x = false
 | [], _, i, _, h => by simp at h
 | a :: l, hA, i, h, hl => by
  rw [cutN_cons] at h
  by_cases k : tlt a x = true
  ·rw [if_pos k] at h
   cases i with
   | zero => omega
   | succ i => simpa [tv] using cut_above x l (List.pairwise_cons.1 hA).2 i (by omega) (by simpa using hl)
  ·cases i with
   | zero => simpa [tv] using k
   | succ i =>
    have hm : tv (a :: l) (i + 1) ∈ l := by
     have : i < l.length := by simpa using hl
     simp [tv, this]
    exact asc_all hA k _ hm
/-- What the library's search finds in an ascending list. -/
theorem search_cut (x : ByteArray) (ts : List ByteArray) (h : Asc ts) :
  Lib.bsGo (fun t => Op.bytesLess ((if t < ts.length then tv ts t else x) : ByteArray).toList x.toList) ts.length 0 ts.length = cutN x ts := by
 refine Lib.bsGo_spec _ _ (fun t ht => ?_) (fun t ht => ?_) _ _ _ (by omega) (Nat.zero_le _) (cutN_le x ts)
 ·rw [if_pos (Nat.lt_of_lt_of_le ht (cutN_le x ts))]
  exact cut_below x ts t ht
 ·by_cases k : t < ts.length
  ·rw [if_pos k]; exact cut_above x ts h t ht k
  ·rw [if_neg k]; exact bl_irrefl _
theorem asc_drop {ts : List ByteArray} (h : Asc ts) (n : Nat) : Asc (ts.drop n) := h.sublist (List.drop_sublist n ts)
theorem asc_take {ts : List ByteArray} (h : Asc ts) (n : Nat) : Asc (ts.take n) := h.sublist (List.take_sublist n ts)
/-- The texts of a list, ascending and each of so many bytes, as far as the i-th. -/
def okAt (n : Int) (ts : List ByteArray) (i : Nat) : Prop := ((tv ts i).size : Int) = n ∧ (0 < i → tlt (tv ts (i - 1)) (tv ts i) = true)
def okSums (n : Int) (ts : List ByteArray) : Prop := ∀ i, i < ts.length → okAt n ts i
theorem asc_of : ∀ (ts : List ByteArray), (∀ i, 0 < i → i < ts.length → tlt (tv ts (i - 1)) (tv ts i) = true) → Asc ts
 | [], _ => List.Pairwise.nil
 | a :: l, h => by
  have ih : Asc l := asc_of l fun i h0 hi => by
   have := h (i + 1) (by omega) (by simpa using hi)
   obtain ⟨j, rfl⟩ : ∃ j, i = j + 1 := ⟨i - 1, by omega⟩
   simpa [tv] using this
  refine List.pairwise_cons.2 ⟨fun b hb => ?_, ih⟩
  cases l with
  | nil => simp at hb
  | cons c l =>
   have h1 : tlt a c = true := by simpa [tv] using h 1 (by omega) (by simp)
   rcases List.mem_cons.1 hb with rfl | hb
   ·exact h1
   ·exact tlt_trans h1 ((List.pairwise_cons.1 ih).1 b hb)
theorem okSums_asc {n : Int} {ts : List ByteArray} (h : okSums n ts) : Asc ts := asc_of ts fun i h0 hi => (h i hi).2 h0
theorem okSums_size {n : Int} {ts : List ByteArray} (h : okSums n ts) : ∀ t ∈ ts, (t.size : Int) = n := fun t ht => by
 obtain ⟨i, hi, rfl⟩ := List.getElem_of_mem ht
 have := (h i hi).1
 simpa [tv, hi] using this
end Go.Proofs.YtkghbegdjeehaaaGreatDoor
/- spec.l4Bytes; what a valid store is. -/
namespace Go.Proofs.YtkghbegdjeehaaaGreatDoor
open Go.RowKit
/-- How many bytes items have together. -/
def totI : Itms → Nat
 | [] => 0
 | p :: r => p.1.size + totI r
theorem totI_append : ∀ (a b : Itms), totI (a ++ b) = totI a + totI b
 | [], b => by simp [totI]
 | p :: a, b => by simp [totI, totI_append a b]; omega
theorem totI_take (its : Itms) (k : Nat) (h : k < its.length) : totI (its.take (k + 1)) = totI (its.take k) + (itx its k).size := by
 rw [List.take_add_one, totI_append, List.getElem?_eq_getElem h]
 simp [totI, itx, h]
theorem totI_mono (its : Itms) (k : Nat) : totI (its.take k) ≤ totI its := by
 have := totI_append (its.take k) (its.drop k)
 rw [List.take_append_drop] at this
 omega
theorem totI_le (M : Nat) : ∀ its : Itms, (∀ i, i < its.length → (itx its i).size ≤ M) → totI its ≤ its.length * M
 | [], _ => by simp [totI]
 | p :: r, h => by
  have h0 : p.1.size ≤ M := by simpa [itx] using h 0 (by simp)
  have ih := totI_le M r fun i hi => by simpa [itx] using h (i + 1) (by simpa using hi)
  simp only [totI, List.length_cons, Nat.succ_mul]
  omega
/-- The sum of a text. -/
def sumX (n : Int) (p : ByteArray) : ByteArray := ⟨(sumOf p.data.toList n).toArray⟩
def itemOk (n : Int) (its : Itms) (i : Nat) : Prop :=
 (1 ≤ (itx its i).size ∧ (itx its i).size ≤ 7000) ∧ (0 ≤ itu its i ∧ itu its i ≤ 1000000) ∧ (0 < i → tlt (sumX n (itx its (i - 1))) (sumX n (itx its i)) = true)
/-- A valid store. -/
structure ValidSt (wd room : Int) (its : Itms) (ts : List ByteArray) : Prop where
 width : isW wd = true
 room0 : 0 ≤ room
 room1 : room ≤ 60000
 items : its.length ≤ 1000
 pins : ts.length ≤ 10
 each : ∀ i, i < its.length → itemOk wd its i
 sums : okSums wd ts
 fits : (totI its : Int) ≤ room
set_option maxRecDepth 100000 in
set_option maxHeartbeats 1000000 in
theorem l4Bytes_any (wd room : Int) (vi vp : Value) (its : Itms) (w : World) (hi : RdI w vi its) (hp : ∃ a l c, vp = .slice a l c) (hl : its.length ≤ 1000) (hsz : ∀ i, i < its.length → (itx its i).size ≤ 7000) :
  Calls Tryz.prog 66 #[.agg #[.int .i64 wd, .int .i64 room, vi, vp]] w fun e w' => e = .returned (.int .i64 (totI its : Nat)) ∧ Below w.heap.size w w' := by
 obtain ⟨ap, lp, cp, rfl⟩ := hp
 have HTL := hid (totI_le 7000 its hsz)
 have HRI := hid hi
 obtain ⟨a, ca, rfl, _⟩ := hi
 have HN := hid (Blk.new w 32 #[.int .i64 wd, .int .i64 room, .slice a its.length ca, .slice ap lp cp])
 have HA := hid ((Below.refl w.heap.size w).alloc (Nat.le_refl _) (.cells #[.int .i64 wd, .int .i64 room, .slice a its.length ca, .slice ap lp cp] 32))
 have HSZ := hid hsz
 clear hsz
 go_enter Tryz.func66, Tryz.ntmps66
 go_wp2
 go_loop [3, 4] (fun n i => ∃ k : Nat, k ≤ its.length ∧ i = .int .i64 k ∧ n = .int .i64 (totI (its.take k) : Nat)) (fun _ i => its.length - (intOf i).toNat)
 case atStart => exact ⟨0, Nat.zero_le _, rfl, rfl⟩
 case round =>
  obtain ⟨k, hk, rfl, rfl⟩ := hrel
  by_cases hlt : k < its.length
  ·obtain ⟨a', c', e, hc⟩ := HRI.out.below HA.out
   cases e
   obtain ⟨b, o, rfl, hb, h1, _⟩ := hc k hlt
   have hz := HSZ.out k hlt
   have HT := hid (totI_take its k hlt)
   have ht := totI_mono its k
   have htt := HTL.out
   have hbig : totI (its.take k) ≤ 7000000 := by omega
   generalize itx its k = t at *
   generalize totI (its.take k) = n at *
   clear hc ht htt
   go_wp2
   go_round
   case rel => exact ⟨k + 1, by omega, by go_num, by rw [HT.out]; go_num⟩
   case measure => simp [intOf]; omega
  ·obtain rfl : k = its.length := by omega
   rw [List.take_length] at *
   have HB := HA
   go_wp2
   go_ret
   exact ⟨rfl, HB.out⟩
end Go.Proofs.YtkghbegdjeehaaaGreatDoor
