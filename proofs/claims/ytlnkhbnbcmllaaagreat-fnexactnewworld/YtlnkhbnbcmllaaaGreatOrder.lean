/- The order of texts; those of an ascending list from a text to another. -/
import Derived.Test.YtlnkhbnbcmllaaaGreatArgs
import Derived.Shelf.Spec.SearchS
namespace Go.Proofs.YtlnkhbnbcmllaaaGreat
open Go.RowKit
theorem bl_irrefl : ∀ x : List UInt8, Op.bytesLess x x = false
  | [] => rfl
  | a :: x => by simp [Op.bytesLess, bl_irrefl x]
theorem bl_trans : ∀ x y z : List UInt8, Op.bytesLess x y = true → Op.bytesLess y z = true → Op.bytesLess x z = true
  | _, [], _, h, _ => by simp [Op.bytesLess] at h
  | _, _ :: _, [], _, h => by simp [Op.bytesLess] at h
  | [], _ :: _, _ :: _, _, _ => rfl
  | a :: x, b :: y, c :: z, h, k => by
    simp only [Op.bytesLess, Bool.or_eq_true, Bool.and_eq_true, decide_eq_true_eq, beq_iff_eq] at h k ⊢
    rcases h with h | ⟨rfl, h⟩ <;> rcases k with k | ⟨rfl, k⟩
    · exact .inl (UInt8.lt_trans h k)
    · exact .inl h
    · exact .inl k
    · exact .inr ⟨rfl, bl_trans x y z h k⟩
theorem bl_total : ∀ x y : List UInt8, Op.bytesLess x y = false → Op.bytesLess y x = false → x = y
  | [], [], _, _ => rfl
  | [], _ :: _, h, _ => by simp [Op.bytesLess] at h
  | _ :: _, [], _, h => by simp [Op.bytesLess] at h
  | a :: x, b :: y, h, k => by
    simp only [Op.bytesLess, Bool.or_eq_false_iff, Bool.and_eq_false_iff, decide_eq_false_iff_not, UInt8.not_lt] at h k
    have e : a = b := UInt8.le_antisymm k.1 h.1
    subst e
    simp only [beq_self_eq_true, Bool.true_eq_false, false_or] at h k
    rw [bl_total x y h.2 k.2]
/-- One text is less than another. -/
def tlt (a b : ByteArray) : Bool := Op.bytesLess a.toList b.toList
theorem tlt_irrefl (a : ByteArray) : tlt a a = false := bl_irrefl _
theorem tlt_trans {a b c : ByteArray} (h : tlt a b = true) (k : tlt b c = true) : tlt a c = true := bl_trans _ _ _ h k
theorem text_eq {a b : ByteArray} (h : a.toList = b.toList) : a = b := by
  rw [ByteArray.toList_eq, ByteArray.toList_eq] at h
  exact ByteArray.ext (Array.ext' h)
theorem tlt_leq (a b : ByteArray) : (Op.bytesLess a.toList b.toList || a.toList == b.toList) = !tlt b a := by
  unfold tlt
  cases h : Op.bytesLess b.toList a.toList
  · cases k : Op.bytesLess a.toList b.toList
    · simp [bl_total _ _ k h]
    · rfl
  · have k : Op.bytesLess a.toList b.toList = false := by
      cases e : Op.bytesLess a.toList b.toList
      · rfl
      · exact absurd (bl_trans _ _ _ h e) (by rw [bl_irrefl]; simp)
    have n : a.toList ≠ b.toList := fun e => by rw [e, bl_irrefl] at h; cases h
    rw [k]
    simpa using n
/-- A list of texts, ascending. -/
def Asc (ts : List ByteArray) : Prop := ts.Pairwise fun a b => tlt a b = true
/-- How many at the head are less than a text. -/
def cutN (x : ByteArray) (ts : List ByteArray) : Nat := (ts.takeWhile (tlt · x)).length
theorem cutN_le (x : ByteArray) : ∀ ts : List ByteArray, cutN x ts ≤ ts.length
  | [] => by simp [cutN]
  | a :: l => by
    have := cutN_le x l
    unfold cutN at this ⊢
    by_cases h : tlt a x = true
    · simp [h]; omega
    · simp [h]
theorem cutN_cons (x a : ByteArray) (l : List ByteArray) : cutN x (a :: l) = if tlt a x = true then cutN x l + 1 else 0 := by
  unfold cutN
  by_cases h : tlt a x = true <;> simp [h]
theorem asc_all {a x : ByteArray} {l : List ByteArray} (h : Asc (a :: l)) (k : ¬ tlt a x = true) : ∀ b ∈ l, tlt b x = false := fun b hb => by
  have h1 : tlt a b = true := (List.pairwise_cons.1 h).1 b hb
  cases e : tlt b x
  · rfl
  · exact absurd (tlt_trans h1 e) k
theorem cut_drop (x : ByteArray) : ∀ ts : List ByteArray, Asc ts → ts.filter (fun t => !tlt t x) = ts.drop (cutN x ts)
  | [], _ => by simp
  | a :: l, h => by
    have ih := cut_drop x l (List.pairwise_cons.1 h).2
    rw [cutN_cons]
    by_cases k : tlt a x = true
    · simp [k, ih]
    · rw [if_neg k, List.drop_zero, List.filter_cons_of_pos (by simpa using k)]
      rw [List.filter_eq_self.2 fun b hb => by simp [asc_all h k b hb]]
theorem cut_take (x : ByteArray) : ∀ ts : List ByteArray, Asc ts → ts.filter (fun t => tlt t x) = ts.take (cutN x ts)
  | [], _ => by simp
  | a :: l, h => by
    have ih := cut_take x l (List.pairwise_cons.1 h).2
    rw [cutN_cons]
    by_cases k : tlt a x = true
    · simp [k, ih]
    · rw [if_neg k, List.take_zero, List.filter_cons_of_neg (p := fun t => tlt t x) k, List.filter_eq_nil_iff]
      exact fun b hb => by simp [asc_all h k b hb]
theorem cut_below (x : ByteArray) : ∀ (ts : List ByteArray) (i : Nat), i < cutN x ts → tlt (tv ts i) x = true
  | [], i, h => by simp [cutN] at h
  | a :: l, i, h => by
    rw [cutN_cons] at h
    by_cases k : tlt a x = true
    · rw [if_pos k] at h
      cases i with
      | zero => simpa [tv] using k
      | succ i => simpa [tv] using cut_below x l i (by omega)
    · rw [if_neg k] at h; omega
theorem cut_above (x : ByteArray) : ∀ (ts : List ByteArray), Asc ts → ∀ (i : Nat), cutN x ts ≤ i → i < ts.length → tlt (tv ts i) x = false
  | [], _, i, _, h => by simp at h
  | a :: l, hA, i, h, hl => by
    rw [cutN_cons] at h
    by_cases k : tlt a x = true
    · rw [if_pos k] at h
      cases i with
      | zero => omega
      | succ i => simpa [tv] using cut_above x l (List.pairwise_cons.1 hA).2 i (by omega) (by simpa using hl)
    · cases i with
      | zero => simpa [tv] using k
      | succ i =>
        have hm : tv (a :: l) (i + 1) ∈ l := by
          have : i < l.length := by simpa using hl
          simp [tv, this]
        exact asc_all hA k _ hm
/-- What the library's search finds in an ascending list. -/
theorem search_cut (x : ByteArray) (ts : List ByteArray) (h : Asc ts) :
    Lib.bsGo (fun t => Op.bytesLess ((if t < ts.length then tv ts t else x) : ByteArray).toList x.toList) ts.length 0 ts.length = cutN x ts := by
  refine Lib.bsGo_spec _ _ (fun t ht => ?_) (fun t ht => ?_) _ _ _ (by omega) (Nat.zero_le _) (cutN_le x ts)
  · rw [if_pos (Nat.lt_of_lt_of_le ht (cutN_le x ts))]
    exact cut_below x ts t ht
  · by_cases k : t < ts.length
    · rw [if_pos k]; exact cut_above x ts h t ht k
    · rw [if_neg k]; exact bl_irrefl _
/-- Those of a list from a text to another. -/
def fromTo (f t : ByteArray) (ts : List ByteArray) : List ByteArray := ts.filter fun x => !tlt x f && (decide (t.toList = []) || tlt x t)
theorem asc_drop {ts : List ByteArray} (h : Asc ts) (n : Nat) : Asc (ts.drop n) := h.sublist (List.drop_sublist n ts)
theorem asc_take {ts : List ByteArray} (h : Asc ts) (n : Nat) : Asc (ts.take n) := h.sublist (List.take_sublist n ts)
theorem fromTo_all (f t : ByteArray) (ts : List ByteArray) (h : Asc ts) (ht : t.toList = []) : fromTo f t ts = ts.drop (cutN f ts) := by
  rw [← cut_drop f ts h]
  unfold fromTo
  simp [ht]
theorem fromTo_cut (f t : ByteArray) (ts : List ByteArray) (h : Asc ts) (ht : ¬ t.toList = []) : fromTo f t ts = (ts.drop (cutN f ts)).take (cutN t (ts.drop (cutN f ts))) := by
  rw [← cut_take t _ (asc_drop h _), ← cut_drop f ts h, List.filter_filter]
  unfold fromTo
  refine List.filter_congr fun x _ => ?_
  simp [ht, Bool.and_comm]
/-- The texts of a list, ascending and each of so many bytes, as far as the i-th. -/
def okAt (n : Int) (ts : List ByteArray) (i : Nat) : Prop := ((tv ts i).size : Int) = n ∧ (0 < i → tlt (tv ts (i - 1)) (tv ts i) = true)
def okSums (n : Int) (ts : List ByteArray) : Prop := ∀ i, i < ts.length → okAt n ts i
theorem asc_of : ∀ (ts : List ByteArray), (∀ i, 0 < i → i < ts.length → tlt (tv ts (i - 1)) (tv ts i) = true) → Asc ts
  | [], _ => List.Pairwise.nil
  | a :: l, h => by
    have ih : Asc l := asc_of l fun i h0 hi => by
      have := h (i + 1) (by omega) (by simpa using hi)
      obtain ⟨j, rfl⟩ : ∃ j, i = j + 1 := ⟨i - 1, by omega⟩
      simpa [tv] using this
    refine List.pairwise_cons.2 ⟨fun b hb => ?_, ih⟩
    cases l with
    | nil => simp at hb
    | cons c l =>
      have h1 : tlt a c = true := by simpa [tv] using h 1 (by omega) (by simp)
      rcases List.mem_cons.1 hb with rfl | hb
      · exact h1
      · exact tlt_trans h1 ((List.pairwise_cons.1 ih).1 b hb)
theorem okSums_asc {n : Int} {ts : List ByteArray} (h : okSums n ts) : Asc ts := asc_of ts fun i h0 hi => (h i hi).2 h0
theorem okSums_size {n : Int} {ts : List ByteArray} (h : okSums n ts) : ∀ t ∈ ts, (t.size : Int) = n := fun t ht => by
  obtain ⟨i, hi, rfl⟩ := List.getElem_of_mem ht
  have := (h i hi).1
  simpa [tv, hi] using this
/-- Texts put together. -/
def joinB (ts : List ByteArray) : List UInt8 := (ts.map (·.data.toList)).flatten
theorem joinB_len (m : Nat) : ∀ ts : List ByteArray, (∀ t ∈ ts, t.size ≤ m) → (joinB ts).length ≤ m * ts.length
  | [], _ => by simp [joinB]
  | a :: l, h => by
    have ih := joinB_len m l fun t ht => h t (List.mem_cons_of_mem _ ht)
    have ha : a.data.size ≤ m := h a (List.mem_cons_self ..)
    simp only [joinB, List.map_cons, List.flatten_cons, List.length_append, List.length_cons, Nat.mul_add, Nat.mul_one, Array.length_toList] at ih ⊢
    omega
end Go.Proofs.YtlnkhbnbcmllaaaGreat
