/- Two different texts with one name show two different texts with one sum. -/
import Derived.Test.YtooodilbehnnfaaDoorNames
import Derived.Test.YtooodilbehnnfaaDoorTail
import Derived.Test.YtooodilbehnnfaaDoorClashDef
namespace Go.Proofs.YtooodilbehnnfaaDoor
open Go.RowKit
theorem pcs_text (s : ByteArray) : ∀ (ps : List ByteArray) (f : Nat), Pcs s f ps → s.data.toList.drop f = (ps.map fun p => p.data.toList).flatten
  | [], f, h => by
    unfold Pcs at h
    subst h
    have : s.size = s.data.toList.length := by
      show s.data.size = s.data.toList.length
      rw [Array.length_toList]
    rw [this, List.drop_length]
    rfl
  | p :: r, f, h => by
    unfold Pcs at h
    obtain ⟨hp, _, _, _, _, _, hr⟩ := h
    have ih := pcs_text s r _ hr
    have hp' : p.data.toList = (s.data.toList.drop f).take p.size := by
      have := congrArg (fun b : ByteArray => b.data.toList) hp
      simpa [ByteArray.data_extract, Array.toList_extract, List.extract] using this
    rw [List.map_cons, List.flatten_cons, ← ih, hp', ← List.drop_drop, List.take_append_drop]
theorem pcs_len (s : ByteArray) : ∀ (ps : List ByteArray) (f : Nat), Pcs s f ps → f ≤ s.size → 8 * ps.length ≤ s.size - f + 7
  | [], f, h, hf => by simp
  | p :: r, f, h, hf => by
    unfold Pcs at h
    obtain ⟨_, h1, _, hle, h8, _, hr⟩ := h
    have ih := pcs_len s r _ hr hle
    simp only [List.length_cons]
    by_cases e : r = []
    · subst e; simp; omega
    · have := h8 e; omega
theorem piecesOf_len375 (s : ByteArray) (h : s.size ≤ 3000) : (piecesOf s).length ≤ 375 := by
  have := pcs_len s _ 0 (piecesOf_pcs s h) (Nat.zero_le _)
  omega
theorem text_of_pieces {a b : ByteArray} (ha : a.size ≤ 3000) (hb : b.size ≤ 3000) (h : piecesOf a = piecesOf b) : a = b := by
  have h1 := pcs_text a _ 0 (piecesOf_pcs a ha)
  have h2 := pcs_text b _ 0 (piecesOf_pcs b hb)
  rw [h, ← h2] at h1
  simp only [List.drop_zero] at h1
  rcases a with ⟨⟨la⟩⟩
  rcases b with ⟨⟨lb⟩⟩
  simp at h1
  rw [h1]
theorem no_sep {A A' : List UInt8} : ∀ l l' : List UInt8, (∀ b ∈ l, b ≠ 10) → (∀ b ∈ l', b ≠ 10) → l ++ 10 :: A = l' ++ 10 :: A' → l = l' ∧ A = A'
  | [], [], _, _, h => by simpa using h
  | [], b :: l', _, h2, h => by simp at h; exact absurd h.1.symm (h2 b (by simp))
  | b :: l, [], h1, _, h => by simp at h; exact absurd h.1 (h1 b (by simp))
  | b :: l, b' :: l', h1, h2, h => by
    simp only [List.cons_append, List.cons.injEq] at h
    obtain ⟨rfl, h⟩ := h
    obtain ⟨e1, e2⟩ := no_sep l l' (fun x hx => h1 x (by simp [hx])) (fun x hx => h2 x (by simp [hx])) h
    exact ⟨by rw [e1], e2⟩
def valD (l : List UInt8) : Nat := l.foldl (fun v b => v * 10 + (b.toNat - 48)) 0
theorem dig_nat (j : Nat) (h : j < 10) : (UInt8.ofNat (48 + j)).toNat = 48 + j := by
  rw [UInt8.toNat_ofNat']; omega
theorem valD_dec : ∀ f n : Nat, n ≤ f → valD (Lib.decDigits n) = n ∧ ∀ b ∈ Lib.decDigits n, b ≠ 10
  | f, n, h => by
    by_cases h10 : n < 10
    · rw [Lib.decDigits, dif_pos h10]
      have e := dig_nat n h10
      refine ⟨by simp only [valD, List.foldl_cons, List.foldl_nil]; rw [e]; omega, fun b hb => ?_⟩
      simp only [List.mem_cons, List.not_mem_nil, or_false] at hb
      intro hb'
      rw [hb'] at hb
      rw [← hb] at e
      have : (10 : UInt8).toNat = 10 := rfl
      omega
    · rw [Lib.decDigits, dif_neg h10]
      cases f with
      | zero => omega
      | succ f =>
      obtain ⟨ih, ih2⟩ := valD_dec f (n / 10) (by omega)
      have e := dig_nat (n % 10) (by omega)
      refine ⟨?_, fun b hb => ?_⟩
      · unfold valD at ih ⊢
        rw [List.foldl_append, ih]
        simp only [List.foldl_cons, List.foldl_nil]
        rw [e]; omega
      · rcases List.mem_append.1 hb with hb | hb
        · exact ih2 b hb
        · simp only [List.mem_cons, List.not_mem_nil, or_false] at hb
          intro hb'
          rw [hb'] at hb
          rw [← hb] at e
          have : (10 : UInt8).toNat = 10 := rfl
          omega
theorem hx_inj : ∀ i : Fin 16, ∀ j : Fin 16, hx i.val = hx j.val → i = j := by decide
theorem hx_no : ∀ i : Fin 16, hx i.val ≠ 10 := by decide
theorem hexL_no (l : List UInt8) : ∀ b ∈ hexL l, b ≠ 10 := by
  intro b hb
  unfold hexL at hb
  obtain ⟨c, _, hc⟩ := List.mem_flatMap.1 hb
  have hc256 := c.toNat_lt
  simp only [List.mem_cons, List.not_mem_nil, or_false] at hc
  rcases hc with rfl | rfl
  · exact hx_no ⟨c.toNat / 16, by omega⟩
  · exact hx_no ⟨c.toNat % 16, by omega⟩
theorem hexL_inj : ∀ l l' : List UInt8, hexL l = hexL l' → l = l'
  | [], [], _ => rfl
  | [], b :: l', h => by simp [hexL] at h
  | b :: l, [], h => by simp [hexL] at h
  | b :: l, c :: l', h => by
    have e : ∀ (x : UInt8) (t : List UInt8), hexL (x :: t) = hx (x.toNat / 16) :: hx (x.toNat % 16) :: hexL t := fun x t => by simp [hexL]
    rw [e, e] at h
    simp only [List.cons.injEq] at h
    obtain ⟨h1, h2, h3⟩ := h
    have hb := b.toNat_lt
    have hc := c.toNat_lt
    have g1 := Fin.mk.inj (hx_inj ⟨b.toNat / 16, by omega⟩ ⟨c.toNat / 16, by omega⟩ h1)
    have g2 := Fin.mk.inj (hx_inj ⟨b.toNat % 16, by omega⟩ ⟨c.toNat % 16, by omega⟩ h2)
    have : b = c := UInt8.toNat_inj.1 (by omega)
    rw [this, hexL_inj l l' h3]
theorem rowsL_inj : ∀ ss ss' : List ByteArray, rowsL ss = rowsL ss' → ss = ss'
  | [], [], _ => rfl
  | [], b :: l', h => by simp [rowsL] at h
  | b :: l, [], h => by simp [rowsL] at h
  | b :: l, c :: l', h => by
    have e : ∀ (x : ByteArray) (t : List ByteArray), rowsL (x :: t) = hexL x.data.toList ++ 10 :: rowsL t := fun x t => by simp [rowsL]
    rw [e, e] at h
    obtain ⟨h1, h2⟩ := no_sep _ _ (hexL_no _) (hexL_no _) h
    have h3 := hexL_inj _ _ h1
    have : b = c := by
      rcases b with ⟨⟨b⟩⟩
      rcases c with ⟨⟨c⟩⟩
      simp at h3
      rw [h3]
    rw [this, rowsL_inj l l' h2]
theorem formL_inj {n n' : Nat} {ss ss' : List ByteArray} (h : formL n ss = formL n' ss') : n = n' ∧ ss = ss' := by
  unfold formL headL at h
  simp only [List.append_assoc, List.append_cancel_left_eq, List.singleton_append] at h
  have d := valD_dec n n (Nat.le_refl _)
  have d' := valD_dec n' n' (Nat.le_refl _)
  obtain ⟨h1, h2⟩ := no_sep _ _ d.2 d'.2 h
  exact ⟨by rw [← d.1, ← d'.1, h1], rowsL_inj _ _ h2⟩
theorem sumT_exact {m : Int} (h : isW m = true) (p : ByteArray) : ((sumT m p).size : Int) = m := by
  show ((sumOf p.data.toList m).toArray.size : Int) = m
  rw [List.size_toArray]
  unfold sumOf
  rw [if_pos h, lowB_length]
  simp [isW] at h
  omega
theorem desc_ok {s : ByteArray} {m : Int} (hw : isW m = true) (hs : s.size ≤ 3000) : okL (descN s m) (descS s m) m = true := by
  have hh : hasL s m = true := by simp [hasL, hw, hs]
  unfold okL descN descS
  rw [hh, hw]
  simp only [if_true, Bool.true_and, Bool.and_eq_true, decide_eq_true_eq, List.length_map, List.all_eq_true]
  refine ⟨by omega, piecesOf_len375 s hs, fun x hx => ?_⟩
  obtain ⟨p, _, rfl⟩ := List.mem_map.1 hx
  exact sumT_exact hw p
/-- The form of the list of a text. -/
def formT (s : ByteArray) (m : Int) : ByteArray := formR (descN s m) (descS s m) m
theorem formT_inj {a b : ByteArray} {m : Int} (hw : isW m = true) (ha : a.size ≤ 3000) (hb : b.size ≤ 3000) (h : formT a m = formT b m) : (piecesOf a).map (sumT m) = (piecesOf b).map (sumT m) := by
  have la : hasL a m = true := by simp [hasL, hw, ha]
  have lb : hasL b m = true := by simp [hasL, hw, hb]
  unfold formT formR at h
  rw [if_pos (desc_ok hw ha), if_pos (desc_ok hw hb)] at h
  have h' : formL (descN a m).toNat (descS a m) = formL (descN b m).toNat (descS b m) := by
    have := congrArg (fun x : ByteArray => x.data.toList) h
    simpa using this
  have := (formL_inj h').2
  unfold descS at this
  rwa [la, lb, if_pos rfl, if_pos rfl] at this
/-- The texts that two texts show. -/
def shown (a b : ByteArray) (m : Int) : List ByteArray := formT a m :: piecesOf a ++ (formT b m :: piecesOf b)
theorem clB_of {ts : List ByteArray} {m : Int} {i j : Nat} {x y : ByteArray} (hi : ts[i]? = some x) (hj : ts[j]? = some y) (hs : sumT m x = sumT m y) (hn : x ≠ y) : clB ts m i j = true := by
  have e1 : tx ts i = x := by simp [tx, hi]
  have e2 : tx ts j = y := by simp [tx, hj]
  unfold clB
  rw [e1, e2]
  have e3 : sumB x m = sumB y m := hs
  rw [e3]
  simp only [beq_self_eq_true, Bool.true_and, Bool.not_eq_true', beq_eq_false_iff_ne]
  intro h
  rw [ByteArray.toList_eq, ByteArray.toList_eq] at h
  rcases x with ⟨⟨x⟩⟩
  rcases y with ⟨⟨y⟩⟩
  simp at h
  exact hn (by rw [h])
theorem lists_part {f : ByteArray → ByteArray} : ∀ l l' : List ByteArray, l.map f = l'.map f → l ≠ l' → ∃ (x y : ByteArray) (k : Nat), l[k]? = some x ∧ l'[k]? = some y ∧ f x = f y ∧ x ≠ y
  | [], [], _, h => absurd rfl h
  | [], b :: l', h, _ => by simp at h
  | b :: l, [], h, _ => by simp at h
  | b :: l, c :: l', h, hn => by
    simp only [List.map_cons, List.cons.injEq] at h
    by_cases e : b = c
    · subst e
      obtain ⟨x, y, k, h1, h2, h3, h4⟩ := lists_part l l' h.2 (fun e => hn (by rw [e]))
      exact ⟨x, y, k + 1, by simpa using h1, by simpa using h2, h3, h4⟩
    · exact ⟨b, c, 0, rfl, rfl, h.1, e⟩
theorem shown_clash {a b : ByteArray} {m : Int} (hw : isW m = true) (ha : a.size ≤ 3000) (hb : b.size ≤ 3000) (hn : a ≠ b) (h : nameB a m = nameB b m) :
    ∃ i j, i < j ∧ j < (shown a b m).length ∧ clB (shown a b m) m i j = true := by
  have la : hasL a m = true := by simp [hasL, hw, ha]
  have lb : hasL b m = true := by simp [hasL, hw, hb]
  unfold nameB at h
  rw [if_pos la, if_pos lb] at h
  have h0 : (shown a b m)[0]? = some (formT a m) := by simp [shown]
  have h1 : (shown a b m)[(piecesOf a).length + 1]? = some (formT b m) := by simp [shown]
  have hlen : (shown a b m).length = (piecesOf a).length + (piecesOf b).length + 2 := by simp [shown]; omega
  by_cases e : formT a m = formT b m
  · have hm := formT_inj hw ha hb e
    have hne : piecesOf a ≠ piecesOf b := fun e => hn (text_of_pieces ha hb e)
    obtain ⟨x, y, k, hx, hy, hs, hxy⟩ := lists_part _ _ hm hne
    have hk := (List.getElem?_eq_some_iff.1 hx).1
    have hk' := (List.getElem?_eq_some_iff.1 hy).1
    have gx : (shown a b m)[k + 1]? = some x := by
      unfold shown
      rw [List.getElem?_append_left (by simp; omega)]
      simpa using hx
    have gy : (shown a b m)[(piecesOf a).length + 1 + (k + 1)]? = some y := by
      unfold shown
      rw [List.getElem?_append_right (by simp)]
      simp only [List.length_cons, Nat.add_sub_cancel_left]
      simpa using hy
    exact ⟨k + 1, (piecesOf a).length + 1 + (k + 1), by omega, by omega, clB_of gx gy hs hxy⟩
  · exact ⟨0, (piecesOf a).length + 1, by omega, by omega, clB_of h0 h1 h e⟩
/-- What spec.Clash answers on them. -/
theorem shown_told {a b x y : ByteArray} {m : Int} {ok : Bool} (hw : isW m = true) (ha : a.size ≤ 3000) (hb : b.size ≤ 3000) (hn : a ≠ b) (h : nameB a m = nameB b m) (hr : ClRes (shown a b m) m x y ok) : ok = true ∧ x ≠ y := by
  obtain ⟨i, j, hij, hj, hc⟩ := shown_clash hw ha hb hn h
  have hlen : (shown a b m).length = (piecesOf a).length + (piecesOf b).length + 2 := by simp [shown]; omega
  have l1 := piecesOf_len375 a ha
  have l2 := piecesOf_len375 b hb
  rcases hr with ⟨_, _, _, h1⟩ | ⟨rfl, _, _, i2, j2, _, _, hc2, _, _, rfl, rfl⟩
  · rcases h1 with h1 | h1 | h1
    · rw [hw] at h1; cases h1
    · omega
    · rw [h1 j hj i hij] at hc; cases hc
  · refine ⟨rfl, fun e => ?_⟩
    unfold clB at hc2
    rw [e] at hc2
    simp at hc2
end Go.Proofs.YtooodilbehnnfaaDoor
