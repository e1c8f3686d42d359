import Derived.Test.YtegomgcekklhaaaGreatDoorListBox
import Derived.Test.YtegomgcekklhaaaGreatDoorHeld
import Derived.Test.YtegomgcekklhaaaGreatDoorFormImpl
import Derived.Test.YtegomgcekklhaaaGreatDoorCut
import Derived.Test.YtegomgcekklhaaaGreatDoorSum
/- spec.Describe: the list of a text. -/
namespace Go.Proofs.YtegomgcekklhaaaGreatDoor
open Go.RowKit
end Go.Proofs.YtegomgcekklhaaaGreatDoor
/- impl.Describe: the list of a text. -/
namespace Go.Proofs.YtegomgcekklhaaaGreatDoor
open Go.RowKit
attribute [local go_sem] Oper.semAt_some
/-- What holds between two rounds. -/
def DI (w : World) (s : ByteArray) (n : Int) (pre : List ByteArray) (W : World) : Prop :=
  (∃ v, LBox W (w.heap.size + 2) s.size v ∧ W.ownsRow (w.heap.size + 4) 9 1 v pre.length ((pre.map (sumT n)).map Value.string)) ∧ Boxed W w.heap.size 3 (.int .i64 n) ∧ LBox W (w.heap.size + 1) 0 (.slice none 0 0) ∧ Below w.heap.size w W ∧ w.heap.size + 4 ≤ W.heap.size
theorem DI.grown {w : World} {s : ByteArray} {n : Int} {pre : List ByteArray} {A A' : World} {row : Option Nat} (h : DI w s n pre A) (hg : A.grownBy A' row) (hr : ∀ r, row = some r → w.heap.size + 4 ≤ r ∧ ∀ c, A.heap[r]? ≠ some (.cells c 9 (0, 0))) : DI w s n pre A' := by
  obtain ⟨⟨v, hv, hrow⟩, hn, hl, hB, hsz⟩ := h
  have ne : ∀ j, j < w.heap.size + 4 → some j ≠ row := fun j hj e => by have := (hr j e.symm).1; omega
  refine ⟨⟨v, hv.kept hg (ne _ (by omega)), hrow.kept hg ?_⟩, hn.kept hg (ne _ (by omega)), hl.kept hg (ne _ (by omega)), hB.grown hg (by omega) (fun r e => by have := (hr r e).1; omega), Nat.le_trans hsz hg.size⟩
  rcases hrow with ⟨_, ⟨rfl, _⟩ | ⟨g, cap, cur, rfl, _, hgc, _⟩⟩
  · exact .inl rfl
  · refine .inr fun e => ?_
    exact (hr g (by rw [← e]; rfl)).2 cur hgc
theorem DI.own (w : World) (s : ByteArray) (n : Int) : OwnFrom (w.heap.size + 4) (DI w s n) := fun pre W W' row h hg hr =>
  h.grown hg fun r e => ⟨(hr r e).1, fun c hc => by obtain ⟨_, o, ho, hn⟩ := hr r e; rw [ho] at hc; cases hc; cases hn⟩
end Go.Proofs.YtegomgcekklhaaaGreatDoor
/- spec.Name and impl.Name: the name of a text. -/
namespace Go.Proofs.YtegomgcekklhaaaGreatDoor
open Go.RowKit
/-- The name of a text. -/
def nameB (s : ByteArray) (m : Int) : ByteArray := if hasL s m then sumT m (formR (descN s m) (descS s m) m) else ⟨#[]⟩
theorem sumT_no {m : Int} (h : isW m = false) (s : ByteArray) : sumT m s = ⟨#[]⟩ := by
  unfold sumT sumOf
  rw [h]; simp
theorem descS_size (s : ByteArray) (m : Int) : ∀ i, ((descS s m).getD i ByteArray.empty).size ≤ maxLen := by
  intro i
  have key : ∀ x ∈ descS s m, x.size ≤ 8 := by
    intro x hx
    unfold descS at hx
    split at hx
    · obtain ⟨p, _, rfl⟩ := List.mem_map.1 hx
      exact sumT_size m p
    · simp at hx
  by_cases h : i < (descS s m).length
  · rw [List.getD_eq_getElem?_getD, List.getElem?_eq_getElem h]
    have := key _ (List.getElem_mem h)
    unfold maxLen
    simp only [Option.getD_some]
    omega
  · rw [List.getD_eq_getElem?_getD, List.getElem?_eq_none (by omega)]
    simp
theorem formR_size (s : ByteArray) (m : Int) : (formR (descN s m) (descS s m) m).size ≤ maxLen := by
  unfold formR
  split
  · next h =>
    unfold okL at h
    simp only [Bool.and_eq_true, decide_eq_true_eq, List.all_eq_true] at h
    obtain ⟨hw, hn, hl, hall⟩ := h
    have hm8 : 1 ≤ m ∧ m ≤ 8 := by simpa [isW] using hw
    show (formL (descN s m).toNat (descS s m)).toArray.size ≤ maxLen
    rw [List.size_toArray]
    have h1 := rowsL_len 8 (descS s m) (fun x hx => by have := hall x hx; omega)
    have h2 := decB_len4 (descN s m).toNat (by omega)
    have h5 : (descS s m).length * (2 * 8 + 1) ≤ 375 * 17 := Nat.mul_le_mul hl (by omega)
    unfold formL headL maxLen
    simp only [List.length_append, List.length_cons, List.length_nil]
    omega
  · simp [maxLen, ByteArray.size]
end Go.Proofs.YtegomgcekklhaaaGreatDoor
/- The pieces from a cut on hang on the bytes from there on alone. -/
namespace Go.Proofs.YtegomgcekklhaaaGreatDoor
open Go.RowKit
/-- The pieces that come of n bytes more, where the open piece began at f and k bytes have come. -/
def tp (s : ByteArray) : Nat → Nat → Nat → List ByteArray
  | 0, _, _ => []
  | n + 1, f, k => if endsB (s.extract f (k + 1)) || decide (k + 1 = s.size) then s.extract f (k + 1) :: tp s n (k + 1) (k + 1) else tp s n f (k + 1)
theorem tp_cut (s : ByteArray) (n f k : Nat) (h : (endsB (s.extract f (k + 1)) || decide (k + 1 = s.size)) = true) : tp s (n + 1) f k = s.extract f (k + 1) :: tp s n (k + 1) (k + 1) := by
  conv => lhs; unfold tp
  rw [h, if_pos rfl]
theorem tp_on (s : ByteArray) (n f k : Nat) (h : (endsB (s.extract f (k + 1)) || decide (k + 1 = s.size)) = false) : tp s (n + 1) f k = tp s n f (k + 1) := by
  conv => lhs; unfold tp
  rw [h, if_neg (by simp)]
theorem cutTo_tp (s : ByteArray) : ∀ (n k : Nat), (cutTo s (k + n)).2 = (cutTo s k).2 ++ tp s n (cutTo s k).1 k
  | 0, k => by simp [tp]
  | n + 1, k => by
    rw [show k + (n + 1) = (k + 1) + n by omega, cutTo_tp s n (k + 1)]
    cases h : (endsB (s.extract (cutTo s k).1 (k + 1)) || decide (k + 1 = s.size)) with
    | true => rw [cutTo_cut s k h, tp_cut s n _ k h]; simp
    | false => rw [cutTo_on s k h, tp_on s n _ k h]
theorem piecesOf_tp (s : ByteArray) (h : s.size ≤ 3000) : piecesOf s = tp s s.size 0 0 := by
  unfold piecesOf
  rw [if_neg (by omega)]
  have := cutTo_tp s s.size 0
  rw [Nat.zero_add] at this
  rw [this]; rfl
theorem shift_extract {s t : ByteArray} {f g x y : Nat} (h : s.extract f s.size = t.extract g t.size) (hs : s.size - f = t.size - g) (hy : f + y ≤ s.size) (hg : g ≤ t.size) (hf : f ≤ s.size) : s.extract (f + x) (f + y) = t.extract (g + x) (g + y) := by
  have e1 : (s.extract f s.size).extract x y = s.extract (f + x) (f + y) := by rw [ByteArray.extract_extract]; congr 1; omega
  have e2 : (t.extract g t.size).extract x y = t.extract (g + x) (g + y) := by rw [ByteArray.extract_extract]; congr 1; omega
  rw [← e1, ← e2, h]
theorem tp_shift {s t : ByteArray} {f g : Nat} (h : s.extract f s.size = t.extract g t.size) (hs : s.size - f = t.size - g) (hg : g ≤ t.size) (hf : f ≤ s.size) :
    ∀ (n x y : Nat), f + y + n = s.size → tp s n (f + x) (f + y) = tp t n (g + x) (g + y)
  | 0, _, _, _ => rfl
  | n + 1, x, y, hn => by
    unfold tp
    have e : s.extract (f + x) (f + y + 1) = t.extract (g + x) (g + y + 1) := shift_extract (y := y + 1) h hs (by omega) hg hf
    have d : decide (f + y + 1 = s.size) = decide (g + y + 1 = t.size) := by
      rw [decide_eq_decide]; omega
    rw [e, d]
    have i1 := tp_shift h hs hg hf n (y + 1) (y + 1) (by omega)
    have i2 := tp_shift h hs hg hf n x (y + 1) (by omega)
    rw [show f + (y + 1) = f + y + 1 by omega, show g + (y + 1) = g + y + 1 by omega] at i1 i2
    rw [i1, i2]
theorem tp_same {s t : ByteArray} {f g : Nat} (h : s.extract f s.size = t.extract g t.size) (hs : s.size - f = t.size - g) (hg : g ≤ t.size) (hf : f ≤ s.size) :
    tp s (s.size - f) f f = tp t (t.size - g) g g := by
  have := tp_shift h hs hg hf (s.size - f) 0 0 (by omega)
  rw [hs] at this ⊢
  simpa using this
/-- The pieces of a text from f on. -/
def Pcs (s : ByteArray) : Nat → List ByteArray → Prop
  | f, [] => f = s.size
  | f, p :: r => p = s.extract f (f + p.size) ∧ 1 ≤ p.size ∧ p.size ≤ 64 ∧ f + p.size ≤ s.size ∧ (r ≠ [] → 8 ≤ p.size) ∧ r = tp s (s.size - (f + p.size)) (f + p.size) (f + p.size) ∧ Pcs s (f + p.size) r
theorem tp_pcs (s : ByteArray) : ∀ (n f k : Nat), f ≤ k → k + n = s.size → k - f ≤ 63 → (n = 0 → f = k) → Pcs s f (tp s n f k)
  | 0, f, k, _, hn, _, h0 => by unfold tp Pcs; have := h0 rfl; omega
  | n + 1, f, k, hf, hn, h63, _ => by
    unfold tp
    have hz : (s.extract f (k + 1)).size = k + 1 - f := by simp; omega
    cases h : (endsB (s.extract f (k + 1)) || decide (k + 1 = s.size)) with
    | true =>
      rw [if_pos rfl]
      unfold Pcs
      rw [hz, show f + (k + 1 - f) = k + 1 by omega]
      refine ⟨rfl, by omega, by omega, by omega, fun hr => ?_, ?_, tp_pcs s n (k + 1) (k + 1) (Nat.le_refl _) (by omega) (by omega) (fun _ => rfl)⟩
      · have hn0 : n ≠ 0 := fun e => hr (by subst e; rfl)
        have hd : decide (k + 1 = s.size) = false := by simp; omega
        rw [hd, Bool.or_false] at h
        unfold endsB at h
        split at h
        · cases h
        · omega
      · rw [show s.size - (k + 1) = n by omega]
    | false =>
      rw [if_neg (by simp)]
      simp only [Bool.or_eq_false_iff, decide_eq_false_iff_not] at h
      refine tp_pcs s n f (k + 1) (by omega) (by omega) ?_ (fun e => by omega)
      have h1 := h.1
      unfold endsB at h1
      rw [hz] at h1
      split at h1
      · omega
      · simp at h1; omega
theorem piecesOf_pcs (s : ByteArray) (h : s.size ≤ 3000) : Pcs s 0 (piecesOf s) := by
  rw [piecesOf_tp s h]; exact tp_pcs s s.size 0 0 (Nat.le_refl _) (by omega) (by omega) (fun e => rfl)
end Go.Proofs.YtegomgcekklhaaaGreatDoor
/- What it is for texts to have one sum. -/
namespace Go.Proofs.YtegomgcekklhaaaGreatDoor
open Go.RowKit
def tx (ts : List ByteArray) (i : Nat) : ByteArray := ts.getD i ByteArray.empty
def sumB (t : ByteArray) (n : Int) : ByteArray := ⟨(sumOf t.data.toList n).toArray⟩
/-- Texts i and j have one sum, and are different. -/
def clB (ts : List ByteArray) (n : Int) (i j : Nat) : Bool := ((sumB (tx ts i) n).toList == (sumB (tx ts j) n).toList) && !((tx ts i).toList == (tx ts j).toList)
def NoC (ts : List ByteArray) (n : Int) (J : Nat) : Prop := ∀ j, j < J → ∀ i, i < j → clB ts n i j = false
def ClRes (ts : List ByteArray) (n : Int) (x y : ByteArray) (b : Bool) : Prop :=
  (x = ⟨#[]⟩ ∧ y = ⟨#[]⟩ ∧ b = false ∧ (isW n = false ∨ 2000 < ts.length ∨ NoC ts n ts.length)) ∨
  (b = true ∧ isW n = true ∧ ts.length ≤ 2000 ∧ ∃ i j, i < j ∧ j < ts.length ∧ clB ts n i j = true ∧ NoC ts n j ∧ (∀ i', i' < i → clB ts n i' j = false) ∧ x = tx ts i ∧ y = tx ts j)
theorem ClRes.same {ts : List ByteArray} {n : Int} {x y x' y' : ByteArray} {b b' : Bool} (h : ClRes ts n x y b) (h' : ClRes ts n x' y' b') : x = x' ∧ y = y' ∧ b = b' := by
  rcases h with ⟨rfl, rfl, rfl, h1⟩ | ⟨rfl, hw, hl, i, j, hij, hj, hc, hn, hi, rfl, rfl⟩
  · rcases h' with ⟨rfl, rfl, rfl, _⟩ | ⟨rfl, hw, hl, i, j, hij, hj, hc, hn, hi, rfl, rfl⟩
    · exact ⟨rfl, rfl, rfl⟩
    · rcases h1 with h1 | h1 | h1
      · rw [hw] at h1; cases h1
      · omega
      · rw [h1 j hj i hij] at hc; cases hc
  · rcases h' with ⟨rfl, rfl, rfl, h1⟩ | ⟨rfl, _, _, i2, j2, hij2, hj2, hc2, hn2, hi2, rfl, rfl⟩
    · rcases h1 with h1 | h1 | h1
      · rw [hw] at h1; cases h1
      · omega
      · rw [h1 j hj i hij] at hc; cases hc
    · have ej : j = j2 := by
        rcases Nat.lt_trichotomy j j2 with h | h | h
        · rw [hn2 j h i hij] at hc; cases hc
        · exact h
        · rw [hn j2 h i2 hij2] at hc2; cases hc2
      subst ej
      have ei : i = i2 := by
        rcases Nat.lt_trichotomy i i2 with h | h | h
        · rw [hi2 i h] at hc; cases hc
        · exact h
        · rw [hi i2 h] at hc2; cases hc2
      subst ei
      exact ⟨rfl, rfl, rfl⟩
end Go.Proofs.YtegomgcekklhaaaGreatDoor
/- Two different texts with one name show two different texts with one sum. -/
namespace Go.Proofs.YtegomgcekklhaaaGreatDoor
open Go.RowKit
theorem pcs_text (s : ByteArray) : ∀ (ps : List ByteArray) (f : Nat), Pcs s f ps → s.data.toList.drop f = (ps.map fun p => p.data.toList).flatten
  | [], f, h => by
    unfold Pcs at h
    subst h
    have : s.size = s.data.toList.length := by
      show s.data.size = s.data.toList.length
      rw [Array.length_toList]
    rw [this, List.drop_length]
    rfl
  | p :: r, f, h => by
    unfold Pcs at h
    obtain ⟨hp, _, _, _, _, _, hr⟩ := h
    have ih := pcs_text s r _ hr
    have hp' : p.data.toList = (s.data.toList.drop f).take p.size := by
      have := congrArg (fun b : ByteArray => b.data.toList) hp
      simpa [ByteArray.data_extract, Array.toList_extract, List.extract] using this
    rw [List.map_cons, List.flatten_cons, ← ih, hp', ← List.drop_drop, List.take_append_drop]
theorem pcs_len (s : ByteArray) : ∀ (ps : List ByteArray) (f : Nat), Pcs s f ps → f ≤ s.size → 8 * ps.length ≤ s.size - f + 7
  | [], f, h, hf => by simp
  | p :: r, f, h, hf => by
    unfold Pcs at h
    obtain ⟨_, h1, _, hle, h8, _, hr⟩ := h
    have ih := pcs_len s r _ hr hle
    simp only [List.length_cons]
    by_cases e : r = []
    · subst e; simp; omega
    · have := h8 e; omega
theorem piecesOf_len375 (s : ByteArray) (h : s.size ≤ 3000) : (piecesOf s).length ≤ 375 := by
  have := pcs_len s _ 0 (piecesOf_pcs s h) (Nat.zero_le _)
  omega
theorem text_of_pieces {a b : ByteArray} (ha : a.size ≤ 3000) (hb : b.size ≤ 3000) (h : piecesOf a = piecesOf b) : a = b := by
  have h1 := pcs_text a _ 0 (piecesOf_pcs a ha)
  have h2 := pcs_text b _ 0 (piecesOf_pcs b hb)
  rw [h, ← h2] at h1
  simp only [List.drop_zero] at h1
  rcases a with ⟨⟨la⟩⟩
  rcases b with ⟨⟨lb⟩⟩
  simp at h1
  rw [h1]
theorem no_sep {A A' : List UInt8} : ∀ l l' : List UInt8, (∀ b ∈ l, b ≠ 10) → (∀ b ∈ l', b ≠ 10) → l ++ 10 :: A = l' ++ 10 :: A' → l = l' ∧ A = A'
  | [], [], _, _, h => by simpa using h
  | [], b :: l', _, h2, h => by simp at h; exact absurd h.1.symm (h2 b (by simp))
  | b :: l, [], h1, _, h => by simp at h; exact absurd h.1 (h1 b (by simp))
  | b :: l, b' :: l', h1, h2, h => by
    simp only [List.cons_append, List.cons.injEq] at h
    obtain ⟨rfl, h⟩ := h
    obtain ⟨e1, e2⟩ := no_sep l l' (fun x hx => h1 x (by simp [hx])) (fun x hx => h2 x (by simp [hx])) h
    exact ⟨by rw [e1], e2⟩
def valD (l : List UInt8) : Nat := l.foldl (fun v b => v * 10 + (b.toNat - 48)) 0
theorem dig_nat (j : Nat) (h : j < 10) : (UInt8.ofNat (48 + j)).toNat = 48 + j := by
  rw [UInt8.toNat_ofNat']; omega
theorem valD_dec : ∀ f n : Nat, n ≤ f → valD (Lib.decDigits n) = n ∧ ∀ b ∈ Lib.decDigits n, b ≠ 10
  | f, n, h => by
    by_cases h10 : n < 10
    · rw [Lib.decDigits, dif_pos h10]
      have e := dig_nat n h10
      refine ⟨by simp only [valD, List.foldl_cons, List.foldl_nil]; rw [e]; omega, fun b hb => ?_⟩
      simp only [List.mem_cons, List.not_mem_nil, or_false] at hb
      intro hb'
      rw [hb'] at hb
      rw [← hb] at e
      have : (10 : UInt8).toNat = 10 := rfl
      omega
    · rw [Lib.decDigits, dif_neg h10]
      cases f with
      | zero => omega
      | succ f =>
      obtain ⟨ih, ih2⟩ := valD_dec f (n / 10) (by omega)
      have e := dig_nat (n % 10) (by omega)
      refine ⟨?_, fun b hb => ?_⟩
      · unfold valD at ih ⊢
        rw [List.foldl_append, ih]
        simp only [List.foldl_cons, List.foldl_nil]
        rw [e]; omega
      · rcases List.mem_append.1 hb with hb | hb
        · exact ih2 b hb
        · simp only [List.mem_cons, List.not_mem_nil, or_false] at hb
          intro hb'
          rw [hb'] at hb
          rw [← hb] at e
          have : (10 : UInt8).toNat = 10 := rfl
          omega
theorem hx_inj : ∀ i : Fin 16, ∀ j : Fin 16, hx i.val = hx j.val → i = j := by decide
theorem hx_no : ∀ i : Fin 16, hx i.val ≠ 10 := by decide
theorem hexL_no (l : List UInt8) : ∀ b ∈ hexL l, b ≠ 10 := by
  intro b hb
  unfold hexL at hb
  obtain ⟨c, _, hc⟩ := List.mem_flatMap.1 hb
  have hc256 := c.toNat_lt
  simp only [List.mem_cons, List.not_mem_nil, or_false] at hc
  rcases hc with rfl | rfl
  · exact hx_no ⟨c.toNat / 16, by omega⟩
  · exact hx_no ⟨c.toNat % 16, by omega⟩
theorem hexL_inj : ∀ l l' : List UInt8, hexL l = hexL l' → l = l'
  | [], [], _ => rfl
  | [], b :: l', h => by simp [hexL] at h
  | b :: l, [], h => by simp [hexL] at h
  | b :: l, c :: l', h => by
    have e : ∀ (x : UInt8) (t : List UInt8), hexL (x :: t) = hx (x.toNat / 16) :: hx (x.toNat % 16) :: hexL t := fun x t => by simp [hexL]
    rw [e, e] at h
    simp only [List.cons.injEq] at h
    obtain ⟨h1, h2, h3⟩ := h
    have hb := b.toNat_lt
    have hc := c.toNat_lt
    have g1 := Fin.mk.inj (hx_inj ⟨b.toNat / 16, by omega⟩ ⟨c.toNat / 16, by omega⟩ h1)
    have g2 := Fin.mk.inj (hx_inj ⟨b.toNat % 16, by omega⟩ ⟨c.toNat % 16, by omega⟩ h2)
    have : b = c := UInt8.toNat_inj.1 (by omega)
    rw [this, hexL_inj l l' h3]
theorem rowsL_inj : ∀ ss ss' : List ByteArray, rowsL ss = rowsL ss' → ss = ss'
  | [], [], _ => rfl
  | [], b :: l', h => by simp [rowsL] at h
  | b :: l, [], h => by simp [rowsL] at h
  | b :: l, c :: l', h => by
    have e : ∀ (x : ByteArray) (t : List ByteArray), rowsL (x :: t) = hexL x.data.toList ++ 10 :: rowsL t := fun x t => by simp [rowsL]
    rw [e, e] at h
    obtain ⟨h1, h2⟩ := no_sep _ _ (hexL_no _) (hexL_no _) h
    have h3 := hexL_inj _ _ h1
    have : b = c := by
      rcases b with ⟨⟨b⟩⟩
      rcases c with ⟨⟨c⟩⟩
      simp at h3
      rw [h3]
    rw [this, rowsL_inj l l' h2]
theorem formL_inj {n n' : Nat} {ss ss' : List ByteArray} (h : formL n ss = formL n' ss') : n = n' ∧ ss = ss' := by
  unfold formL headL at h
  simp only [List.append_assoc, List.append_cancel_left_eq, List.singleton_append] at h
  have d := valD_dec n n (Nat.le_refl _)
  have d' := valD_dec n' n' (Nat.le_refl _)
  obtain ⟨h1, h2⟩ := no_sep _ _ d.2 d'.2 h
  exact ⟨by rw [← d.1, ← d'.1, h1], rowsL_inj _ _ h2⟩
theorem sumT_exact {m : Int} (h : isW m = true) (p : ByteArray) : ((sumT m p).size : Int) = m := by
  show ((sumOf p.data.toList m).toArray.size : Int) = m
  rw [List.size_toArray]
  unfold sumOf
  rw [if_pos h, lowB_length]
  simp [isW] at h
  omega
theorem desc_ok {s : ByteArray} {m : Int} (hw : isW m = true) (hs : s.size ≤ 3000) : okL (descN s m) (descS s m) m = true := by
  have hh : hasL s m = true := by simp [hasL, hw, hs]
  unfold okL descN descS
  rw [hh, hw]
  simp only [if_true, Bool.true_and, Bool.and_eq_true, decide_eq_true_eq, List.length_map, List.all_eq_true]
  refine ⟨by omega, piecesOf_len375 s hs, fun x hx => ?_⟩
  obtain ⟨p, _, rfl⟩ := List.mem_map.1 hx
  exact sumT_exact hw p
/-- The form of the list of a text. -/
def formT (s : ByteArray) (m : Int) : ByteArray := formR (descN s m) (descS s m) m
theorem formT_inj {a b : ByteArray} {m : Int} (hw : isW m = true) (ha : a.size ≤ 3000) (hb : b.size ≤ 3000) (h : formT a m = formT b m) : (piecesOf a).map (sumT m) = (piecesOf b).map (sumT m) := by
  have la : hasL a m = true := by simp [hasL, hw, ha]
  have lb : hasL b m = true := by simp [hasL, hw, hb]
  unfold formT formR at h
  rw [if_pos (desc_ok hw ha), if_pos (desc_ok hw hb)] at h
  have h' : formL (descN a m).toNat (descS a m) = formL (descN b m).toNat (descS b m) := by
    have := congrArg (fun x : ByteArray => x.data.toList) h
    simpa using this
  have := (formL_inj h').2
  unfold descS at this
  rwa [la, lb, if_pos rfl, if_pos rfl] at this
/-- The texts that two texts show. -/
def shown (a b : ByteArray) (m : Int) : List ByteArray := formT a m :: piecesOf a ++ (formT b m :: piecesOf b)
theorem clB_of {ts : List ByteArray} {m : Int} {i j : Nat} {x y : ByteArray} (hi : ts[i]? = some x) (hj : ts[j]? = some y) (hs : sumT m x = sumT m y) (hn : x ≠ y) : clB ts m i j = true := by
  have e1 : tx ts i = x := by simp [tx, hi]
  have e2 : tx ts j = y := by simp [tx, hj]
  unfold clB
  rw [e1, e2]
  have e3 : sumB x m = sumB y m := hs
  rw [e3]
  simp only [beq_self_eq_true, Bool.true_and, Bool.not_eq_true', beq_eq_false_iff_ne]
  intro h
  rw [ByteArray.toList_eq, ByteArray.toList_eq] at h
  rcases x with ⟨⟨x⟩⟩
  rcases y with ⟨⟨y⟩⟩
  simp at h
  exact hn (by rw [h])
theorem lists_part {f : ByteArray → ByteArray} : ∀ l l' : List ByteArray, l.map f = l'.map f → l ≠ l' → ∃ (x y : ByteArray) (k : Nat), l[k]? = some x ∧ l'[k]? = some y ∧ f x = f y ∧ x ≠ y
  | [], [], _, h => absurd rfl h
  | [], b :: l', h, _ => by simp at h
  | b :: l, [], h, _ => by simp at h
  | b :: l, c :: l', h, hn => by
    simp only [List.map_cons, List.cons.injEq] at h
    by_cases e : b = c
    · subst e
      obtain ⟨x, y, k, h1, h2, h3, h4⟩ := lists_part l l' h.2 (fun e => hn (by rw [e]))
      exact ⟨x, y, k + 1, by simpa using h1, by simpa using h2, h3, h4⟩
    · exact ⟨b, c, 0, rfl, rfl, h.1, e⟩
theorem shown_clash {a b : ByteArray} {m : Int} (hw : isW m = true) (ha : a.size ≤ 3000) (hb : b.size ≤ 3000) (hn : a ≠ b) (h : nameB a m = nameB b m) :
    ∃ i j, i < j ∧ j < (shown a b m).length ∧ clB (shown a b m) m i j = true := by
  have la : hasL a m = true := by simp [hasL, hw, ha]
  have lb : hasL b m = true := by simp [hasL, hw, hb]
  unfold nameB at h
  rw [if_pos la, if_pos lb] at h
  have h0 : (shown a b m)[0]? = some (formT a m) := by simp [shown]
  have h1 : (shown a b m)[(piecesOf a).length + 1]? = some (formT b m) := by simp [shown]
  have hlen : (shown a b m).length = (piecesOf a).length + (piecesOf b).length + 2 := by simp [shown]; omega
  by_cases e : formT a m = formT b m
  · have hm := formT_inj hw ha hb e
    have hne : piecesOf a ≠ piecesOf b := fun e => hn (text_of_pieces ha hb e)
    obtain ⟨x, y, k, hx, hy, hs, hxy⟩ := lists_part _ _ hm hne
    have hk := (List.getElem?_eq_some_iff.1 hx).1
    have hk' := (List.getElem?_eq_some_iff.1 hy).1
    have gx : (shown a b m)[k + 1]? = some x := by
      unfold shown
      rw [List.getElem?_append_left (by simp; omega)]
      simpa using hx
    have gy : (shown a b m)[(piecesOf a).length + 1 + (k + 1)]? = some y := by
      unfold shown
      rw [List.getElem?_append_right (by simp)]
      simp only [List.length_cons, Nat.add_sub_cancel_left]
      simpa using hy
    exact ⟨k + 1, (piecesOf a).length + 1 + (k + 1), by omega, by omega, clB_of gx gy hs hxy⟩
  · exact ⟨0, (piecesOf a).length + 1, by omega, by omega, clB_of h0 h1 h e⟩
/-- What spec.Clash answers on them. -/
theorem shown_told {a b x y : ByteArray} {m : Int} {ok : Bool} (hw : isW m = true) (ha : a.size ≤ 3000) (hb : b.size ≤ 3000) (hn : a ≠ b) (h : nameB a m = nameB b m) (hr : ClRes (shown a b m) m x y ok) : ok = true ∧ x ≠ y := by
  obtain ⟨i, j, hij, hj, hc⟩ := shown_clash hw ha hb hn h
  have hlen : (shown a b m).length = (piecesOf a).length + (piecesOf b).length + 2 := by simp [shown]; omega
  have l1 := piecesOf_len375 a ha
  have l2 := piecesOf_len375 b hb
  rcases hr with ⟨_, _, _, h1⟩ | ⟨rfl, _, _, i2, j2, _, _, hc2, _, _, rfl, rfl⟩
  · rcases h1 with h1 | h1 | h1
    · rw [hw] at h1; cases h1
    · omega
    · rw [h1 j hj i hij] at hc; cases hc
  · refine ⟨rfl, fun e => ?_⟩
    unfold clB at hc2
    rw [e] at hc2
    simp at hc2
end Go.Proofs.YtegomgcekklhaaaGreatDoor
