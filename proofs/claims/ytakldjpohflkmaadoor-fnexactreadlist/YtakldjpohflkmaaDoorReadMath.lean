/- What reading a list means. -/
import Derived.Test.YtakldjpohflkmaaDoorReadLaw
namespace Go.Proofs.YtakldjpohflkmaaDoor
open Go.RowKit
/-- What ReadList answers: the valid list whose form the text is, or nothing. -/
def ReadR (s : ByteArray) (m n : Int) (ss : List ByteArray) (ok : Bool) : Prop :=
  (ok = true ∧ okL n ss m = true ∧ formR n ss m = s) ∨ (ok = false ∧ n = 0 ∧ ss = [] ∧ ∀ n' ss', okL n' ss' m = true → formR n' ss' m ≠ s)
theorem okL_parts {n m : Int} {ss : List ByteArray} (h : okL n ss m = true) : isW m = true ∧ (0 ≤ n ∧ n ≤ 3000) ∧ ss.length ≤ 375 ∧ ∀ s ∈ ss, (s.size : Int) = m := by
  unfold okL at h
  simp only [Bool.and_eq_true, decide_eq_true_eq, List.all_eq_true] at h
  exact ⟨h.1, h.2.1, h.2.2.1, h.2.2.2⟩
theorem okL_of {n m : Int} {ss : List ByteArray} (h1 : isW m = true) (h2 : 0 ≤ n ∧ n ≤ 3000) (h3 : ss.length ≤ 375) (h4 : ∀ s ∈ ss, (s.size : Int) = m) : okL n ss m = true := by
  unfold okL
  simp only [Bool.and_eq_true, decide_eq_true_eq, List.all_eq_true]
  exact ⟨h1, h2, h3, h4⟩
theorem formR_data {n m : Int} {ss : List ByteArray} (h : okL n ss m = true) : (formR n ss m).data.toList = formL n.toNat ss := by
  unfold formR; rw [if_pos h]
theorem bytes_ext {a b : ByteArray} (h : a.data.toList = b.data.toList) : a = b := by
  rcases a with ⟨⟨a⟩⟩
  rcases b with ⟨⟨b⟩⟩
  simp at h
  rw [h]
theorem formR_iff {n m : Int} {ss : List ByteArray} {s : ByteArray} (h : okL n ss m = true) : formR n ss m = s ↔ formL n.toNat ss = s.data.toList := by
  rw [← formR_data h]
  exact ⟨fun e => by rw [e], bytes_ext⟩
theorem ReadR.uniq {s : ByteArray} {m n n' : Int} {ss ss' : List ByteArray} {ok ok' : Bool} (h : ReadR s m n ss ok) (h' : ReadR s m n' ss' ok') : n = n' ∧ ss = ss' ∧ ok = ok' := by
  rcases h with ⟨rfl, h1, h2⟩ | ⟨rfl, rfl, rfl, h2⟩
  · rcases h' with ⟨rfl, h1', h2'⟩ | ⟨_, _, _, h2'⟩
    · rw [formR_iff h1] at h2
      rw [formR_iff h1', ← h2] at h2'
      obtain ⟨e1, e2⟩ := formL_inj h2'
      have p1 := (okL_parts h1).2.1
      have p2 := (okL_parts h1').2.1
      exact ⟨by omega, e2.symm, rfl⟩
    · exact absurd h2 (h2' n ss h1)
  · rcases h' with ⟨rfl, h1', h2'⟩ | ⟨rfl, rfl, rfl, h2'⟩
    · exact absurd h2' (h2 n' ss' h1')
    · exact ⟨rfl, rfl, rfl⟩
theorem form_len {n m : Int} {ss : List ByteArray} (h : okL n ss m = true) : 7 ≤ (formR n ss m).size ∧ (formR n ss m).size ≤ 7000 := by
  have e : (formR n ss m).size = (formL n.toNat ss).length := by
    rw [← formR_data h, Array.length_toList]; rfl
  obtain ⟨hw, hn, hl, hall⟩ := okL_parts h
  have hm8 : 1 ≤ m ∧ m ≤ 8 := by simpa [isW] using hw
  have h1 := rowsL_len 8 ss (fun x hx => by have := hall x hx; omega)
  have h2 := dec_len4 n.toNat (by omega)
  have h5 : ss.length * (2 * 8 + 1) ≤ 375 * 17 := Nat.mul_le_mul hl (by omega)
  rw [e]
  unfold formL headL
  simp only [List.length_append, List.length_cons, List.length_nil]
  omega
theorem form_word {n m : Int} {ss : List ByteArray} (h : okL n ss m = true) : (formR n ss m).data.toList.take 5 = [115, 105, 122, 101, 32] := by
  rw [formR_data h]
  unfold formL headL
  simp
/-- Texts that no valid list has as its form. -/
def NoForm (s : ByteArray) (m : Int) : Prop := ∀ n' ss', okL n' ss' m = true → formR n' ss' m ≠ s
theorem noForm_size {s : ByteArray} {m : Int} (h : s.size < 6 ∨ 7000 < s.size) : NoForm s m := fun n' ss' h1 e => by
  have := form_len h1
  rw [e] at this
  omega
theorem noForm_word {s : ByteArray} {m : Int} (h : s.data.toList.take 5 ≠ [115, 105, 122, 101, 32]) : NoForm s m := fun n' ss' h1 e => by
  have := form_word h1
  rw [e] at this
  exact h this
theorem noForm_width {s : ByteArray} {m : Int} (h : isW m = false) : NoForm s m := fun n' ss' h1 _ => by
  have := (okL_parts h1).1
  rw [h] at this; cases this
theorem lines_form {n m : Int} {ss : List ByteArray} (h : okL n ss m = true) : (linesOf (formR n ss m)).map (fun p => p.data.toList) = ([115, 105, 122, 101, 32] ++ Lib.decDigits n.toNat) :: (ss.map (fun s => hexL s.data.toList) ++ [[]]) := by
  rw [linesOf_cut, formR_data h]
  have e : formL n.toNat ss = ([115, 105, 122, 101, 32] ++ Lib.decDigits n.toNat) ++ 10 :: rowsL ss := by simp [formL, headL]
  rw [e, cutL_line _ _ _ ?_, cutL_rows]
  · simp
  · intro b hb
    rcases List.mem_append.1 hb with hb | hb
    · simp only [List.mem_cons, List.not_mem_nil, or_false] at hb
      rcases hb with rfl | rfl | rfl | rfl | rfl <;> decide
    · exact (valD_dec n.toNat n.toNat (Nat.le_refl _)).2 b hb
/-- Digits read loosely, a line. -/
def byB (p : ByteArray) : ByteArray := ⟨(byL p.data.toList).toArray⟩
/-- The sums that the lines are read as. -/
def secs (ls : List ByteArray) : List ByteArray := (ls.drop 1).dropLast.map byB
theorem secs_form {n m : Int} {ss : List ByteArray} (h : okL n ss m = true) : secs (linesOf (formR n ss m)) = ss := by
  have hl := lines_form h
  generalize linesOf (formR n ss m) = ls at *
  cases ls with
  | nil => simp at hl
  | cons a r =>
    simp only [List.map_cons, List.cons.injEq] at hl
    have h2 := congrArg List.dropLast hl.2
    rw [List.dropLast_concat, ← List.map_dropLast] at h2
    have h3 := congrArg (List.map (fun l => (⟨(byL l).toArray⟩ : ByteArray))) h2
    rw [List.map_map, List.map_map] at h3
    have e1 : ((fun l => (⟨(byL l).toArray⟩ : ByteArray)) ∘ fun p : ByteArray => p.data.toList) = byB := rfl
    rw [e1] at h3
    show ((a :: r).drop 1).dropLast.map byB = ss
    rw [List.drop_one, List.tail_cons, h3]
    conv => rhs; rw [← List.map_id ss]
    congr 1
    funext s
    show (⟨(byL (hexL s.data.toList)).toArray⟩ : ByteArray) = s
    rw [byL_hexL]
theorem first_form {n m : Int} {ss : List ByteArray} (h : okL n ss m = true) {L0 : ByteArray} (h0 : (linesOf (formR n ss m)).head? = some L0) : L0.extract 5 L0.size = decB n.toNat := by
  have hl := lines_form h
  generalize linesOf (formR n ss m) = ls at *
  cases ls with
  | nil => simp at hl
  | cons a r =>
    simp only [List.map_cons, List.cons.injEq] at hl
    simp only [List.head?_cons, Option.some.injEq] at h0
    subst h0
    apply bytes_ext
    rw [ext_list, hl.1]
    have e : a.size = 5 + (Lib.decDigits n.toNat).length := by
      have := congrArg List.length hl.1
      rw [Array.length_toList] at this
      simp only [List.length_append, List.length_cons, List.length_nil] at this
      exact this
    rw [e]
    simp [decB]
theorem decB_inj {n n' : Nat} (h : decB n = decB n') : n = n' := by
  have h1 := decB_data h
  have h2 := decB_data (n := n') rfl
  rw [← h2] at h1
  rw [← (valD_dec n n (Nat.le_refl _)).1, h1, (valD_dec n' n' (Nat.le_refl _)).1]
/-- What spec.ReadList reads loosely and writes again is the text just where a valid list has the text as its form. -/
theorem loose_no {s L0 : ByteArray} {m r : Int} (h0 : (linesOf s).head? = some L0) (hr : NumR (L0.extract 5 L0.size) r) (hn : formR r (secs (linesOf s)) m ≠ s) : NoForm s m := fun n' ss' h1 e => by
  subst e
  rw [secs_form h1] at hn
  rw [first_form h1 h0] at hr
  have p := (okL_parts h1).2.1
  rcases hr with ⟨k, _, hk, rfl⟩ | ⟨_, hk⟩
  · have := decB_inj hk
    subst this
    exact hn (by rw [Int.toNat_of_nonneg p.1])
  · exact hk n'.toNat (by omega) rfl
theorem loose_yes {s : ByteArray} {m r : Int} {ss : List ByteArray} (hs : 6 ≤ s.size) (h : formR r ss m = s) : ReadR s m r ss true := by
  refine .inl ⟨rfl, ?_, h⟩
  cases hok : okL r ss m with
  | true => rfl
  | false =>
    have : formR r ss m = ⟨#[]⟩ := by simp [formR, hok]
    rw [this] at h
    subst h
    simp [ByteArray.size] at hs
theorem cutL_begin : ∀ (l A cur : List UInt8), (∀ b ∈ l, b ≠ 10) → cutL cur (l ++ A) = cutL (cur ++ l) A
  | [], A, cur, _ => by simp
  | b :: l, A, cur, h => by
    have hb : b ≠ 10 := h b (by simp)
    show (if b = 10 then _ else cutL (cur ++ [b]) (l ++ A)) = _
    rw [if_neg hb, cutL_begin l A (cur ++ [b]) (fun x hx => h x (by simp [hx]))]
    simp
theorem cutL_head : ∀ (A cur : List UInt8), ∃ t r, cutL cur A = (cur ++ t) :: r
  | [], cur => ⟨[], [], by simp [cutL]⟩
  | b :: A, cur => by
    unfold cutL
    split
    · exact ⟨[], cutL [] A, by simp⟩
    · obtain ⟨t, r, h⟩ := cutL_head A (cur ++ [b])
      exact ⟨b :: t, r, by rw [h]; simp⟩
theorem first_len {s : ByteArray} (h : s.data.toList.take 5 = [115, 105, 122, 101, 32]) : ∃ L0 r, linesOf s = L0 :: r ∧ 5 ≤ L0.size := by
  have hl := linesOf_cut s
  rw [← List.take_append_drop 5 s.data.toList, h, cutL_begin _ _ _ (by decide)] at hl
  obtain ⟨t, r, ht⟩ := cutL_head (s.data.toList.drop 5) ([] ++ [115, 105, 122, 101, 32])
  rw [ht] at hl
  cases hls : linesOf s with
  | nil => rw [hls] at hl; simp at hl
  | cons a q =>
    rw [hls] at hl
    simp only [List.map_cons, List.cons.injEq] at hl
    refine ⟨a, q, rfl, ?_⟩
    have := congrArg List.length hl.1
    rw [Array.length_toList] at this
    simp only [List.length_append, List.length_cons, List.length_nil] at this
    have e : a.data.size = a.size := rfl
    omega
/-! The lines one by one -/
theorem rows_begin : ∀ (ss ss' : List ByteArray) (rest : List UInt8), rowsL ss ++ rest = rowsL ss' → ∃ t, ss' = ss ++ t ∧ rest = rowsL t
  | [], ss', rest, h => ⟨ss', rfl, by simpa [rowsL] using h⟩
  | a :: ss, [], rest, h => by simp [rowsL] at h
  | a :: ss, b :: ss', rest, h => by
    have e : ∀ (x : ByteArray) (t : List ByteArray), rowsL (x :: t) = hexL x.data.toList ++ 10 :: rowsL t := fun x t => by simp [rowsL]
    rw [e, e, List.append_assoc, List.cons_append] at h
    obtain ⟨h1, h2⟩ := no_sep _ _ (hexL_no _) (hexL_no _) h
    have hab : a = b := bytes_ext (hexL_inj _ _ h1)
    obtain ⟨t, ht, hr⟩ := rows_begin ss ss' rest h2
    exact ⟨t, by rw [hab, ht]; rfl, hr⟩
theorem form_begin {n n' : Nat} {ss ss' : List ByteArray} {rest : List UInt8} (h : formL n ss ++ rest = formL n' ss') : n = n' ∧ ∃ t, ss' = ss ++ t ∧ rest = rowsL t := by
  unfold formL headL at h
  simp only [List.append_assoc, List.append_cancel_left_eq, List.singleton_append] at h
  have d := valD_dec n n (Nat.le_refl _)
  have d' := valD_dec n' n' (Nat.le_refl _)
  obtain ⟨h1, h2⟩ := no_sep _ _ d.2 d'.2 (by simpa using h)
  exact ⟨by rw [← d.1, ← d'.1, h1], rows_begin _ _ _ h2⟩
/-- Behind the first line there is something, and no line ends in it. -/
theorem noForm_end {s : ByteArray} {m : Int} {n : Nat} {ss : List ByteArray} {rest : List UInt8} (hs : s.data.toList = formL n ss ++ rest) (hne : rest ≠ []) (h : ∀ b ∈ rest, b ≠ 10) : NoForm s m := fun n' ss' h1 e => by
  rw [formR_iff h1, hs] at e
  obtain ⟨_, t, _, ht⟩ := form_begin e.symm
  cases t with
  | nil => exact hne (by simpa [rowsL] using ht)
  | cons a t =>
    refine h 10 ?_ rfl
    rw [ht]
    simp [rowsL]
theorem noForm_end0 {s : ByteArray} {m : Int} (h : ∀ b ∈ s.data.toList, b ≠ 10) : NoForm s m := fun n' ss' h1 e => by
  rw [formR_iff h1] at e
  refine h 10 ?_ rfl
  rw [← e]
  simp [formL, headL]
/-- The next line is no sum. -/
theorem noForm_sum {s : ByteArray} {m : Int} {n : Nat} {ss : List ByteArray} {line rest : List UInt8} (hs : s.data.toList = formL n ss ++ (line ++ 10 :: rest)) (hl : ∀ b ∈ line, b ≠ 10) (h : ∀ p : ByteArray, (p.size : Int) = m → hexL p.data.toList ≠ line) : NoForm s m := fun n' ss' h1 e => by
  rw [formR_iff h1, hs] at e
  obtain ⟨_, t, rfl, ht⟩ := form_begin e.symm
  cases t with
  | nil => simp [rowsL] at ht
  | cons a t =>
    have e2 : rowsL (a :: t) = hexL a.data.toList ++ 10 :: rowsL t := by simp [rowsL]
    rw [e2] at ht
    obtain ⟨h3, _⟩ := no_sep _ _ hl (hexL_no _) ht
    exact h a ((okL_parts h1).2.2.2 a (by simp)) h3.symm
/-- There are too many. -/
theorem noForm_many {s : ByteArray} {m : Int} {n : Nat} {ss : List ByteArray} {rest : List UInt8} (hs : s.data.toList = formL n ss ++ rest) (hne : rest ≠ []) (h : ss.length = 375) : NoForm s m := fun n' ss' h1 e => by
  rw [formR_iff h1, hs] at e
  obtain ⟨_, t, rfl, ht⟩ := form_begin e.symm
  cases t with
  | nil => exact hne (by simpa [rowsL] using ht)
  | cons a t =>
    have := (okL_parts h1).2.2.1
    simp at this
    omega
/-- The first line is no size. -/
theorem noForm_head {s : ByteArray} {m : Int} {line rest : List UInt8} (hs : s.data.toList = line ++ 10 :: rest) (hl : ∀ b ∈ line, b ≠ 10) (h : ∀ n : Nat, n ≤ 3000 → [115, 105, 122, 101, 32] ++ Lib.decDigits n ≠ line) : NoForm s m := fun n' ss' h1 e => by
  rw [formR_iff h1, hs] at e
  have e2 : formL n'.toNat ss' = ([115, 105, 122, 101, 32] ++ Lib.decDigits n'.toNat) ++ 10 :: rowsL ss' := by simp [formL, headL]
  rw [e2] at e
  have hno : ∀ b ∈ [115, 105, 122, 101, 32] ++ Lib.decDigits n'.toNat, b ≠ 10 := by
    intro b hb
    rcases List.mem_append.1 hb with hb | hb
    · simp only [List.mem_cons, List.not_mem_nil, or_false] at hb
      rcases hb with rfl | rfl | rfl | rfl | rfl <;> decide
    · exact (valD_dec n'.toNat n'.toNat (Nat.le_refl _)).2 b hb
  obtain ⟨h3, _⟩ := no_sep _ _ hno hl e
  have p := (okL_parts h1).2.1
  exact h n'.toNat (by omega) h3
end Go.Proofs.YtakldjpohflkmaaDoor
