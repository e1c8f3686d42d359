import Derived.Test.YtkekajnbblifoaaGreatDoorLines
/- Reading what was written: digits, lines. -/
namespace Go.Proofs.YtkekajnbblifoaaGreatDoor
open Go.RowKit
theorem digI_hx : ∀ j : Fin 16, digI (hx j.val).toNat = (j.val : Int) := by decide
theorem byL_hexL : ∀ l : List UInt8, byL (hexL l) = l
  | [] => rfl
  | b :: l => by
    have e : hexL (b :: l) = hx (b.toNat / 16) :: hx (b.toNat % 16) :: hexL l := by simp [hexL]
    have hb := b.toNat_lt
    have d1 := digI_hx ⟨b.toNat / 16, by omega⟩
    have d2 := digI_hx ⟨b.toNat % 16, by omega⟩
    rw [e]
    show UInt8.ofNat (byI (hx (b.toNat / 16)).toNat (hx (b.toNat % 16)).toNat).toNat :: byL (hexL l) = b :: l
    rw [byL_hexL l]
    unfold byI
    rw [d1, d2]
    have : ((16 * ((b.toNat / 16 : Nat) : Int) + ((b.toNat % 16 : Nat) : Int)) % 256).toNat = b.toNat := by omega
    rw [show ((16 * (((⟨b.toNat / 16, by omega⟩ : Fin 16).val : Nat) : Int) + (((⟨b.toNat % 16, by omega⟩ : Fin 16).val : Nat) : Int)) % 256).toNat = b.toNat from this]
    congr 1
    exact UInt8.toNat_inj.1 (by rw [UInt8.toNat_ofNat']; omega)
/-- The lines of a list of bytes; the last is what lies behind the last newline. -/
def cutL : List UInt8 → List UInt8 → List (List UInt8)
  | cur, [] => [cur]
  | cur, b :: l => if b = 10 then cur :: cutL [] l else cutL (cur ++ [b]) l
theorem cutL_line : ∀ (l A cur : List UInt8), (∀ b ∈ l, b ≠ 10) → cutL cur (l ++ 10 :: A) = (cur ++ l) :: cutL [] A
  | [], A, cur, _ => by simp [cutL]
  | b :: l, A, cur, h => by
    have hb : b ≠ 10 := h b (by simp)
    show (if b = 10 then _ else cutL (cur ++ [b]) (l ++ 10 :: A)) = _
    rw [if_neg hb, cutL_line l A (cur ++ [b]) (fun x hx => h x (by simp [hx]))]
    simp
theorem cutL_rows : ∀ ss : List ByteArray, cutL [] (rowsL ss) = ss.map (fun s => hexL s.data.toList) ++ [[]]
  | [] => rfl
  | s :: r => by
    have e : rowsL (s :: r) = hexL s.data.toList ++ 10 :: rowsL r := by simp [rowsL]
    rw [e, cutL_line _ _ _ (hexL_no _), cutL_rows r]
    simp
theorem ext_list (s : ByteArray) (f k : Nat) : (s.extract f k).data.toList = (s.data.toList.drop f).take (k - f) := by
  simp [ByteArray.data_extract, Array.toList_extract, List.extract]
theorem lines_cut (s : ByteArray) : ∀ k, k ≤ s.size → cutL [] s.data.toList = (linesTo s k).2.map (fun p => p.data.toList) ++ cutL (s.extract (linesTo s k).1 k).data.toList (s.data.toList.drop k)
  | 0, _ => by
    rw [ext_list]
    simp [linesTo]
  | k + 1, h => by
    have ih := lines_cut s k (by omega)
    have hk : k < s.data.toList.length := by rw [Array.length_toList]; exact h
    have hle := (linesTo_le s k).1
    rw [List.drop_eq_getElem_cons hk] at ih
    have hg : s.data.toList.getD k 0 = s.data.toList[k] := by rw [List.getD_eq_getElem?_getD, List.getElem?_eq_getElem hk]; rfl
    by_cases h10 : s.data.toList.getD k 0 = 10
    · rw [linesTo_cut s k h10]
      rw [ih]
      have e0 : (s.extract (k + 1) (k + 1)).data.toList = [] := by rw [ext_list]; simp
      simp only [e0]
      rw [hg] at h10
      show _ ++ (if s.data.toList[k] = 10 then _ else _) = _
      rw [if_pos h10]
      simp
    · rw [linesTo_on s k h10]
      rw [ih]
      rw [hg] at h10
      show _ ++ (if s.data.toList[k] = 10 then _ else _) = _
      rw [if_neg h10]
      congr 2
      rw [ext_list, ext_list, show k + 1 - (linesTo s k).1 = k - (linesTo s k).1 + 1 by omega, List.take_succ_eq_append_getElem (by rw [List.length_drop]; omega)]
      congr 2
      rw [List.getElem_drop]
      congr 1
      omega
theorem linesOf_cut (s : ByteArray) : (linesOf s).map (fun p => p.data.toList) = cutL [] s.data.toList := by
  rw [lines_cut s s.size (Nat.le_refl _)]
  have : s.data.toList.drop s.size = [] := List.drop_eq_nil_of_le (by rw [Array.length_toList]; exact Nat.le_refl _)
  rw [this]
  simp [linesOf, cutL]
end Go.Proofs.YtkekajnbblifoaaGreatDoor
/- What reading a list means. -/
namespace Go.Proofs.YtkekajnbblifoaaGreatDoor
open Go.RowKit
/-- What ReadList answers: the valid list whose form the text is, or nothing. -/
def ReadR (s : ByteArray) (m n : Int) (ss : List ByteArray) (ok : Bool) : Prop :=
  (ok = true ∧ okL n ss m = true ∧ formR n ss m = s) ∨ (ok = false ∧ n = 0 ∧ ss = [] ∧ ∀ n' ss', okL n' ss' m = true → formR n' ss' m ≠ s)
theorem okL_parts {n m : Int} {ss : List ByteArray} (h : okL n ss m = true) : isW m = true ∧ (0 ≤ n ∧ n ≤ 3000) ∧ ss.length ≤ 375 ∧ ∀ s ∈ ss, (s.size : Int) = m := by
  unfold okL at h
  simp only [Bool.and_eq_true, decide_eq_true_eq, List.all_eq_true] at h
  exact ⟨h.1, h.2.1, h.2.2.1, h.2.2.2⟩
theorem okL_of {n m : Int} {ss : List ByteArray} (h1 : isW m = true) (h2 : 0 ≤ n ∧ n ≤ 3000) (h3 : ss.length ≤ 375) (h4 : ∀ s ∈ ss, (s.size : Int) = m) : okL n ss m = true := by
  unfold okL
  simp only [Bool.and_eq_true, decide_eq_true_eq, List.all_eq_true]
  exact ⟨h1, h2, h3, h4⟩
theorem formR_data {n m : Int} {ss : List ByteArray} (h : okL n ss m = true) : (formR n ss m).data.toList = formL n.toNat ss := by
  unfold formR; rw [if_pos h]
theorem bytes_ext {a b : ByteArray} (h : a.data.toList = b.data.toList) : a = b := by
  rcases a with ⟨⟨a⟩⟩
  rcases b with ⟨⟨b⟩⟩
  simp at h
  rw [h]
theorem formR_iff {n m : Int} {ss : List ByteArray} {s : ByteArray} (h : okL n ss m = true) : formR n ss m = s ↔ formL n.toNat ss = s.data.toList := by
  rw [← formR_data h]
  exact ⟨fun e => by rw [e], bytes_ext⟩
theorem ReadR.uniq {s : ByteArray} {m n n' : Int} {ss ss' : List ByteArray} {ok ok' : Bool} (h : ReadR s m n ss ok) (h' : ReadR s m n' ss' ok') : n = n' ∧ ss = ss' ∧ ok = ok' := by
  rcases h with ⟨rfl, h1, h2⟩ | ⟨rfl, rfl, rfl, h2⟩
  · rcases h' with ⟨rfl, h1', h2'⟩ | ⟨_, _, _, h2'⟩
    · rw [formR_iff h1] at h2
      rw [formR_iff h1', ← h2] at h2'
      obtain ⟨e1, e2⟩ := formL_inj h2'
      have p1 := (okL_parts h1).2.1
      have p2 := (okL_parts h1').2.1
      exact ⟨by omega, e2.symm, rfl⟩
    · exact absurd h2 (h2' n ss h1)
  · rcases h' with ⟨rfl, h1', h2'⟩ | ⟨rfl, rfl, rfl, h2'⟩
    · exact absurd h2' (h2 n' ss' h1')
    · exact ⟨rfl, rfl, rfl⟩
theorem form_len {n m : Int} {ss : List ByteArray} (h : okL n ss m = true) : 7 ≤ (formR n ss m).size ∧ (formR n ss m).size ≤ 7000 := by
  have e : (formR n ss m).size = (formL n.toNat ss).length := by
    rw [← formR_data h, Array.length_toList]; rfl
  obtain ⟨hw, hn, hl, hall⟩ := okL_parts h
  have hm8 : 1 ≤ m ∧ m ≤ 8 := by simpa [isW] using hw
  have h1 := rowsL_len 8 ss (fun x hx => by have := hall x hx; omega)
  have h2 := dec_len4 n.toNat (by omega)
  have h5 : ss.length * (2 * 8 + 1) ≤ 375 * 17 := Nat.mul_le_mul hl (by omega)
  rw [e]
  unfold formL headL
  simp only [List.length_append, List.length_cons, List.length_nil]
  omega
theorem form_word {n m : Int} {ss : List ByteArray} (h : okL n ss m = true) : (formR n ss m).data.toList.take 5 = [115, 105, 122, 101, 32] := by
  rw [formR_data h]
  unfold formL headL
  simp
/-- Texts that no valid list has as its form. -/
def NoForm (s : ByteArray) (m : Int) : Prop := ∀ n' ss', okL n' ss' m = true → formR n' ss' m ≠ s
theorem noForm_size {s : ByteArray} {m : Int} (h : s.size < 6 ∨ 7000 < s.size) : NoForm s m := fun n' ss' h1 e => by
  have := form_len h1
  rw [e] at this
  omega
theorem noForm_word {s : ByteArray} {m : Int} (h : s.data.toList.take 5 ≠ [115, 105, 122, 101, 32]) : NoForm s m := fun n' ss' h1 e => by
  have := form_word h1
  rw [e] at this
  exact h this
theorem noForm_width {s : ByteArray} {m : Int} (h : isW m = false) : NoForm s m := fun n' ss' h1 _ => by
  have := (okL_parts h1).1
  rw [h] at this; cases this
theorem lines_form {n m : Int} {ss : List ByteArray} (h : okL n ss m = true) : (linesOf (formR n ss m)).map (fun p => p.data.toList) = ([115, 105, 122, 101, 32] ++ Lib.decDigits n.toNat) :: (ss.map (fun s => hexL s.data.toList) ++ [[]]) := by
  rw [linesOf_cut, formR_data h]
  have e : formL n.toNat ss = ([115, 105, 122, 101, 32] ++ Lib.decDigits n.toNat) ++ 10 :: rowsL ss := by simp [formL, headL]
  rw [e, cutL_line _ _ _ ?_, cutL_rows]
  · simp
  · intro b hb
    rcases List.mem_append.1 hb with hb | hb
    · simp only [List.mem_cons, List.not_mem_nil, or_false] at hb
      rcases hb with rfl | rfl | rfl | rfl | rfl <;> decide
    · exact (valD_dec n.toNat n.toNat (Nat.le_refl _)).2 b hb
/-- Digits read loosely, a line. -/
def byB (p : ByteArray) : ByteArray := ⟨(byL p.data.toList).toArray⟩
/-- The sums that the lines are read as. -/
def secs (ls : List ByteArray) : List ByteArray := (ls.drop 1).dropLast.map byB
theorem secs_form {n m : Int} {ss : List ByteArray} (h : okL n ss m = true) : secs (linesOf (formR n ss m)) = ss := by
  have hl := lines_form h
  generalize linesOf (formR n ss m) = ls at *
  cases ls with
  | nil => simp at hl
  | cons a r =>
    simp only [List.map_cons, List.cons.injEq] at hl
    have h2 := congrArg List.dropLast hl.2
    rw [List.dropLast_concat, ← List.map_dropLast] at h2
    have h3 := congrArg (List.map (fun l => (⟨(byL l).toArray⟩ : ByteArray))) h2
    rw [List.map_map, List.map_map] at h3
    have e1 : ((fun l => (⟨(byL l).toArray⟩ : ByteArray)) ∘ fun p : ByteArray => p.data.toList) = byB := rfl
    rw [e1] at h3
    show ((a :: r).drop 1).dropLast.map byB = ss
    rw [List.drop_one, List.tail_cons, h3]
    conv => rhs; rw [← List.map_id ss]
    congr 1
    funext s
    show (⟨(byL (hexL s.data.toList)).toArray⟩ : ByteArray) = s
    rw [byL_hexL]
theorem first_form {n m : Int} {ss : List ByteArray} (h : okL n ss m = true) {L0 : ByteArray} (h0 : (linesOf (formR n ss m)).head? = some L0) : L0.extract 5 L0.size = decB n.toNat := by
  have hl := lines_form h
  generalize linesOf (formR n ss m) = ls at *
  cases ls with
  | nil => simp at hl
  | cons a r =>
    simp only [List.map_cons, List.cons.injEq] at hl
    simp only [List.head?_cons, Option.some.injEq] at h0
    subst h0
    apply bytes_ext
    rw [ext_list, hl.1]
    have e : a.size = 5 + (Lib.decDigits n.toNat).length := by
      have := congrArg List.length hl.1
      rw [Array.length_toList] at this
      simp only [List.length_append, List.length_cons, List.length_nil] at this
      exact this
    rw [e]
    simp [decB]
theorem decB_inj {n n' : Nat} (h : decB n = decB n') : n = n' := by
  have h1 := decB_data h
  have h2 := decB_data (n := n') rfl
  rw [← h2] at h1
  rw [← (valD_dec n n (Nat.le_refl _)).1, h1, (valD_dec n' n' (Nat.le_refl _)).1]
/-- What spec.ReadList reads loosely and writes again is the text just where a valid list has the text as its form. -/
theorem loose_no {s L0 : ByteArray} {m r : Int} (h0 : (linesOf s).head? = some L0) (hr : NumR (L0.extract 5 L0.size) r) (hn : formR r (secs (linesOf s)) m ≠ s) : NoForm s m := fun n' ss' h1 e => by
  subst e
  rw [secs_form h1] at hn
  rw [first_form h1 h0] at hr
  have p := (okL_parts h1).2.1
  rcases hr with ⟨k, _, hk, rfl⟩ | ⟨_, hk⟩
  · have := decB_inj hk
    subst this
    exact hn (by rw [Int.toNat_of_nonneg p.1])
  · exact hk n'.toNat (by omega) rfl
theorem loose_yes {s : ByteArray} {m r : Int} {ss : List ByteArray} (hs : 6 ≤ s.size) (h : formR r ss m = s) : ReadR s m r ss true := by
  refine .inl ⟨rfl, ?_, h⟩
  cases hok : okL r ss m with
  | true => rfl
  | false =>
    have : formR r ss m = ⟨#[]⟩ := by simp [formR, hok]
    rw [this] at h
    subst h
    simp [ByteArray.size] at hs
theorem cutL_begin : ∀ (l A cur : List UInt8), (∀ b ∈ l, b ≠ 10) → cutL cur (l ++ A) = cutL (cur ++ l) A
  | [], A, cur, _ => by simp
  | b :: l, A, cur, h => by
    have hb : b ≠ 10 := h b (by simp)
    show (if b = 10 then _ else cutL (cur ++ [b]) (l ++ A)) = _
    rw [if_neg hb, cutL_begin l A (cur ++ [b]) (fun x hx => h x (by simp [hx]))]
    simp
theorem cutL_head : ∀ (A cur : List UInt8), ∃ t r, cutL cur A = (cur ++ t) :: r
  | [], cur => ⟨[], [], by simp [cutL]⟩
  | b :: A, cur => by
    unfold cutL
    split
    · exact ⟨[], cutL [] A, by simp⟩
    · obtain ⟨t, r, h⟩ := cutL_head A (cur ++ [b])
      exact ⟨b :: t, r, by rw [h]; simp⟩
theorem first_len {s : ByteArray} (h : s.data.toList.take 5 = [115, 105, 122, 101, 32]) : ∃ L0 r, linesOf s = L0 :: r ∧ 5 ≤ L0.size := by
  have hl := linesOf_cut s
  rw [← List.take_append_drop 5 s.data.toList, h, cutL_begin _ _ _ (by decide)] at hl
  obtain ⟨t, r, ht⟩ := cutL_head (s.data.toList.drop 5) ([] ++ [115, 105, 122, 101, 32])
  rw [ht] at hl
  cases hls : linesOf s with
  | nil => rw [hls] at hl; simp at hl
  | cons a q =>
    rw [hls] at hl
    simp only [List.map_cons, List.cons.injEq] at hl
    refine ⟨a, q, rfl, ?_⟩
    have := congrArg List.length hl.1
    rw [Array.length_toList] at this
    simp only [List.length_append, List.length_cons, List.length_nil] at this
    have e : a.data.size = a.size := rfl
    omega
/-! The lines one by one -/
theorem rows_begin : ∀ (ss ss' : List ByteArray) (rest : List UInt8), rowsL ss ++ rest = rowsL ss' → ∃ t, ss' = ss ++ t ∧ rest = rowsL t
  | [], ss', rest, h => ⟨ss', rfl, by simpa [rowsL] using h⟩
  | a :: ss, [], rest, h => by simp [rowsL] at h
  | a :: ss, b :: ss', rest, h => by
    have e : ∀ (x : ByteArray) (t : List ByteArray), rowsL (x :: t) = hexL x.data.toList ++ 10 :: rowsL t := fun x t => by simp [rowsL]
    rw [e, e, List.append_assoc, List.cons_append] at h
    obtain ⟨h1, h2⟩ := no_sep _ _ (hexL_no _) (hexL_no _) h
    have hab : a = b := bytes_ext (hexL_inj _ _ h1)
    obtain ⟨t, ht, hr⟩ := rows_begin ss ss' rest h2
    exact ⟨t, by rw [hab, ht]; rfl, hr⟩
theorem form_begin {n n' : Nat} {ss ss' : List ByteArray} {rest : List UInt8} (h : formL n ss ++ rest = formL n' ss') : n = n' ∧ ∃ t, ss' = ss ++ t ∧ rest = rowsL t := by
  unfold formL headL at h
  simp only [List.append_assoc, List.append_cancel_left_eq, List.singleton_append] at h
  have d := valD_dec n n (Nat.le_refl _)
  have d' := valD_dec n' n' (Nat.le_refl _)
  obtain ⟨h1, h2⟩ := no_sep _ _ d.2 d'.2 (by simpa using h)
  exact ⟨by rw [← d.1, ← d'.1, h1], rows_begin _ _ _ h2⟩
/-- Behind the first line there is something, and no line ends in it. -/
theorem noForm_end {s : ByteArray} {m : Int} {n : Nat} {ss : List ByteArray} {rest : List UInt8} (hs : s.data.toList = formL n ss ++ rest) (hne : rest ≠ []) (h : ∀ b ∈ rest, b ≠ 10) : NoForm s m := fun n' ss' h1 e => by
  rw [formR_iff h1, hs] at e
  obtain ⟨_, t, _, ht⟩ := form_begin e.symm
  cases t with
  | nil => exact hne (by simpa [rowsL] using ht)
  | cons a t =>
    refine h 10 ?_ rfl
    rw [ht]
    simp [rowsL]
theorem noForm_end0 {s : ByteArray} {m : Int} (h : ∀ b ∈ s.data.toList, b ≠ 10) : NoForm s m := fun n' ss' h1 e => by
  rw [formR_iff h1] at e
  refine h 10 ?_ rfl
  rw [← e]
  simp [formL, headL]
/-- The next line is no sum. -/
theorem noForm_sum {s : ByteArray} {m : Int} {n : Nat} {ss : List ByteArray} {line rest : List UInt8} (hs : s.data.toList = formL n ss ++ (line ++ 10 :: rest)) (hl : ∀ b ∈ line, b ≠ 10) (h : ∀ p : ByteArray, (p.size : Int) = m → hexL p.data.toList ≠ line) : NoForm s m := fun n' ss' h1 e => by
  rw [formR_iff h1, hs] at e
  obtain ⟨_, t, rfl, ht⟩ := form_begin e.symm
  cases t with
  | nil => simp [rowsL] at ht
  | cons a t =>
    have e2 : rowsL (a :: t) = hexL a.data.toList ++ 10 :: rowsL t := by simp [rowsL]
    rw [e2] at ht
    obtain ⟨h3, _⟩ := no_sep _ _ hl (hexL_no _) ht
    exact h a ((okL_parts h1).2.2.2 a (by simp)) h3.symm
/-- There are too many. -/
theorem noForm_many {s : ByteArray} {m : Int} {n : Nat} {ss : List ByteArray} {rest : List UInt8} (hs : s.data.toList = formL n ss ++ rest) (hne : rest ≠ []) (h : ss.length = 375) : NoForm s m := fun n' ss' h1 e => by
  rw [formR_iff h1, hs] at e
  obtain ⟨_, t, rfl, ht⟩ := form_begin e.symm
  cases t with
  | nil => exact hne (by simpa [rowsL] using ht)
  | cons a t =>
    have := (okL_parts h1).2.2.1
    simp at this
    omega
/-- The first line is no size. -/
theorem noForm_head {s : ByteArray} {m : Int} {line rest : List UInt8} (hs : s.data.toList = line ++ 10 :: rest) (hl : ∀ b ∈ line, b ≠ 10) (h : ∀ n : Nat, n ≤ 3000 → [115, 105, 122, 101, 32] ++ Lib.decDigits n ≠ line) : NoForm s m := fun n' ss' h1 e => by
  rw [formR_iff h1, hs] at e
  have e2 : formL n'.toNat ss' = ([115, 105, 122, 101, 32] ++ Lib.decDigits n'.toNat) ++ 10 :: rowsL ss' := by simp [formL, headL]
  rw [e2] at e
  have hno : ∀ b ∈ [115, 105, 122, 101, 32] ++ Lib.decDigits n'.toNat, b ≠ 10 := by
    intro b hb
    rcases List.mem_append.1 hb with hb | hb
    · simp only [List.mem_cons, List.not_mem_nil, or_false] at hb
      rcases hb with rfl | rfl | rfl | rfl | rfl <;> decide
    · exact (valD_dec n'.toNat n'.toNat (Nat.le_refl _)).2 b hb
  obtain ⟨h3, _⟩ := no_sep _ _ hno hl e
  have p := (okL_parts h1).2.1
  exact h n'.toNat (by omega) h3
end Go.Proofs.YtkekajnbblifoaaGreatDoor
/- spec.ReadList: what is turned away at once. -/
namespace Go.Proofs.YtkekajnbblifoaaGreatDoor
open Go.RowKit
theorem word_eq (s : ByteArray) : ((s.extract 0 5).toList == [115, 105, 122, 101, 32]) = decide (s.data.toList.take 5 = [115, 105, 122, 101, 32]) := by
  rw [ByteArray.toList_eq, ext_list]
  simp only [List.drop_zero, Nat.sub_zero]
  rw [Bool.eq_iff_iff]
  simp
theorem lines_sizes (s : ByteArray) (h : s.size ≤ 7000) : (linesOf s).length ≤ 7001 ∧ ∀ i, ((linesOf s).getD i ByteArray.empty).size ≤ 7000 := by
  have key : ∀ k, k ≤ s.size → ∀ p ∈ (linesTo s k).2, p.size ≤ 7000 := by
    intro k
    induction k with
    | zero => intro _ p hp; simp [linesTo] at hp
    | succ k ih =>
      intro hk p hp
      unfold linesTo at hp
      split at hp
      · rcases List.mem_append.1 hp with hp | hp
        · exact ih (by omega) p hp
        · simp only [List.mem_cons, List.not_mem_nil, or_false] at hp
          rw [hp, ByteArray.size_extract]; omega
      · exact ih (by omega) p hp
  have hl := (linesTo_le s s.size).2
  refine ⟨by unfold linesOf; rw [List.length_append]; simp; omega, fun i => ?_⟩
  by_cases hi : i < (linesOf s).length
  · rw [List.getD_eq_getElem?_getD, List.getElem?_eq_getElem hi]
    have hm := List.getElem_mem hi
    simp only [Option.getD_some]
    generalize (linesOf s)[i] = p at *
    unfold linesOf at hm
    rcases List.mem_append.1 hm with hp | hp
    · exact key _ (Nat.le_refl _) p hp
    · simp only [List.mem_cons, List.not_mem_nil, or_false] at hp
      rw [hp, ByteArray.size_extract]; omega
  · rw [List.getD_eq_getElem?_getD, List.getElem?_eq_none (by omega)]
    simp
theorem byL_len : ∀ l : List UInt8, (byL l).length ≤ l.length
  | [] => by simp [byL]
  | [a] => by simp [byL]
  | a :: b :: r => by
    have := byL_len r
    show ((_ : UInt8) :: byL r).length ≤ _
    simp only [List.length_cons]; omega
theorem byB_size (p : ByteArray) : (byB p).size ≤ p.size := by
  show (byL p.data.toList).toArray.size ≤ _
  rw [List.size_toArray]
  have := byL_len p.data.toList
  rw [Array.length_toList] at this
  exact this
theorem secs_sizes (s : ByteArray) (h : s.size ≤ 7000) : (secs (linesOf s)).length ≤ 7001 ∧ ∀ i, ((secs (linesOf s)).getD i ByteArray.empty).size ≤ 7000 := by
  obtain ⟨h1, h2⟩ := lines_sizes s h
  refine ⟨by unfold secs; rw [List.length_map, List.length_dropLast, List.length_drop]; omega, fun i => ?_⟩
  unfold secs
  by_cases hi : i < (((linesOf s).drop 1).dropLast.map byB).length
  · rw [List.getD_eq_getElem?_getD, List.getElem?_eq_getElem hi, Option.getD_some, List.getElem_map]
    refine Nat.le_trans (byB_size _) ?_
    rw [List.getElem_dropLast, List.getElem_drop]
    have := h2 (1 + i)
    rw [List.length_map, List.length_dropLast, List.length_drop] at hi
    rwa [List.getD_eq_getElem?_getD, List.getElem?_eq_getElem (by omega), Option.getD_some] at this
  · rw [List.getD_eq_getElem?_getD, List.getElem?_eq_none (by omega)]
    simp
/-- The sums of the first j lines behind the first. -/
def secTo (ls : List ByteArray) (j : Nat) : List ByteArray := ((ls.drop 1).take j).map byB
theorem secTo_step (ls : List ByteArray) (j : Nat) (h : j + 1 < ls.length) : secTo ls (j + 1) = secTo ls j ++ [byB (ls.getD (j + 1) ByteArray.empty)] := by
  unfold secTo
  rw [List.take_add_one, List.map_append]
  congr 1
  rw [List.getElem?_drop, Nat.add_comm 1 j, List.getD_eq_getElem?_getD, List.getElem?_eq_getElem h]
  rfl
theorem secTo_end (ls : List ByteArray) : secTo ls (ls.length - 2) = secs ls := by
  unfold secTo secs
  rw [List.dropLast_eq_take, List.length_drop]
  congr 2
theorem secTo_len (ls : List ByteArray) (j : Nat) (h : j ≤ ls.length - 2) : (secTo ls j).length = j := by
  unfold secTo
  rw [List.length_map, List.length_take, List.length_drop]; omega
/-- What the two readers answer. -/
def ReadA (s : ByteArray) (m : Int) (w : World) (e : Ending) (w' : World) : Prop :=
  ∃ (v : Value) (n : Int) (ss : List ByteArray) (ok : Bool), e = .returned (.tuple #[.agg #[.int .i64 n, v], .bool ok]) ∧ ReadR s m n ss ok ∧ w'.ownsRow w.heap.size 9 1 v ss.length (ss.map Value.string) ∧ Below w.heap.size w w'
theorem ReadA.no {s : ByteArray} {m : Int} {w w' : World} (h : NoForm s m) (hb : Below w.heap.size w w') : ReadA s m w (.returned (.tuple #[.agg #[.int .i64 0, .slice none 0 0], .bool false])) w' :=
  ⟨_, 0, [], false, rfl, .inr ⟨rfl, rfl, rfl, h⟩, World.ownsRow_nil _ _ _ _, hb⟩
set_option maxRecDepth 100000 in
set_option maxHeartbeats 1000000 in
theorem specReadList_turned (s : ByteArray) (m : Int) (w : World) (hs : s.size ≤ maxLen) (h : s.size < 6 ∨ 7000 < s.size ∨ (6 ≤ s.size ∧ s.size ≤ 7000 ∧ s.data.toList.take 5 ≠ [115, 105, 122, 101, 32])) :
    Calls Tryz.prog 48 #[.string s, .int .i64 m] w (ReadA s m w) := by
  unfold maxLen at hs
  have HB := hid ((Below.refl w.heap.size w).alloc (Nat.le_refl _) (.cells #[.int .i64 0, .slice none 0 0] 53))
  rcases h with h | h | ⟨h6, h7, hw⟩
  · have hN := hid (noForm_size (m := m) (s := s) (.inl h))
    have h' : (s.size : Int) < 6 := by omega
    go_enter Tryz.func48, Tryz.ntmps48
    go_wp2
    exact bodyPost_ret (v := .tuple #[.agg #[.int .i64 0, .slice none 0 0], .bool false]) (by simp [results, Tryz.results48, go_sem]) rfl (ReadA.no hN.out HB.out)
  · have hN := hid (noForm_size (m := m) (s := s) (.inr h))
    have h' : ¬ ((s.size : Int) < 6) := by omega
    have h'' : (7000 : Int) < (s.size : Int) := by omega
    go_enter Tryz.func48, Tryz.ntmps48
    go_wp2
    exact bodyPost_ret (v := .tuple #[.agg #[.int .i64 0, .slice none 0 0], .bool false]) (by simp [results, Tryz.results48, go_sem]) rfl (ReadA.no hN.out HB.out)
  · have hN := hid (noForm_word (m := m) hw)
    have h' : ¬ ((s.size : Int) < 6) := by omega
    have h'' : ¬ ((7000 : Int) < (s.size : Int)) := by omega
    have hq : ((s.extract 0 5).toList == [115, 105, 122, 101, 32]) = false := by rw [word_eq s]; simpa using hw
    have h5 : (5 : Int) ≤ (s.size : Int) := by omega
    clear hw
    go_enter Tryz.func48, Tryz.ntmps48
    go_wp2
    exact bodyPost_ret (v := .tuple #[.agg #[.int .i64 0, .slice none 0 0], .bool false]) (by simp [results, Tryz.results48, go_sem]) rfl (ReadA.no hN.out HB.out)
end Go.Proofs.YtkekajnbblifoaaGreatDoor
