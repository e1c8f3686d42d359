import Derived.Test.YtkghbegdjeehaaaGreatDoorShort
import Derived.Test.YtkghbegdjeehaaaGreatDoorArgs
import Derived.Test.YtkghbegdjeehaaaGreatDoorFormImpl
import Derived.Test.YtkghbegdjeehaaaGreatDoorRingA
/- spec.Describe: the list of a text. -/
namespace Go.Proofs.YtkghbegdjeehaaaGreatDoor
open Go.RowKit
end Go.Proofs.YtkghbegdjeehaaaGreatDoor
/- impl.Describe: the list of a text. -/
namespace Go.Proofs.YtkghbegdjeehaaaGreatDoor
open Go.RowKit
attribute [local go_sem] Oper.semAt_some
/-- What holds between two rounds. -/
def DI (w : World) (s : ByteArray) (n : Int) (pre : List ByteArray) (W : World) : Prop :=
 (∃ v, LBox W (w.heap.size + 2) s.size v ∧ W.ownsRow (w.heap.size + 4) 9 1 v pre.length ((pre.map (sumT n)).map Value.string)) ∧ Boxed W w.heap.size 3 (.int .i64 n) ∧ LBox W (w.heap.size + 1) 0 (.slice none 0 0) ∧ Below w.heap.size w W ∧ w.heap.size + 4 ≤ W.heap.size
theorem DI.grown {w : World} {s : ByteArray} {n : Int} {pre : List ByteArray} {A A' : World} {row : Option Nat} (h : DI w s n pre A) (hg : A.grownBy A' row) (hr : ∀ r, row = some r → w.heap.size + 4 ≤ r ∧ ∀ c, A.heap[r]? ≠ some (.cells c 9 (0, 0))) : DI w s n pre A' := by
 obtain ⟨⟨v, hv, hrow⟩, hn, hl, hB, hsz⟩ := h
 have ne : ∀ j, j < w.heap.size + 4 → some j ≠ row := fun j hj e => by have := (hr j e.symm).1; omega
 refine ⟨⟨v, hv.kept hg (ne _ (by omega)), hrow.kept hg ?_⟩, hn.kept hg (ne _ (by omega)), hl.kept hg (ne _ (by omega)), hB.grown hg (by omega) (fun r e => by have := (hr r e).1; omega), Nat.le_trans hsz hg.size⟩
 rcases hrow with ⟨_, ⟨rfl, _⟩ | ⟨g, cap, cur, rfl, _, hgc, _⟩⟩
 ·exact .inl rfl
 ·refine .inr fun e => ?_
  exact (hr g (by rw [← e]; rfl)).2 cur hgc
theorem DI.own (w : World) (s : ByteArray) (n : Int) : OwnFrom (w.heap.size + 4) (DI w s n) := fun pre W W' row h hg hr =>
 h.grown hg fun r e => ⟨(hr r e).1, fun c hc => by obtain ⟨_, o, ho, hn⟩ := hr r e; rw [ho] at hc; cases hc; cases hn⟩
end Go.Proofs.YtkghbegdjeehaaaGreatDoor
/- spec.Name and impl.Name: the name of a text. -/
namespace Go.Proofs.YtkghbegdjeehaaaGreatDoor
open Go.RowKit
end Go.Proofs.YtkghbegdjeehaaaGreatDoor
/- The pieces from a cut on hang on the bytes from there on alone. -/
namespace Go.Proofs.YtkghbegdjeehaaaGreatDoor
open Go.RowKit
/-- The pieces that come of n bytes more, where the open piece began at f and k bytes have come. -/
def tp (s : ByteArray) : Nat → Nat → Nat → List ByteArray
 | 0, _, _ => []
 | n + 1, f, k => if endsB (s.extract f (k + 1)) || decide (k + 1 = s.size) then s.extract f (k + 1) :: tp s n (k + 1) (k + 1) else tp s n f (k + 1)
end Go.Proofs.YtkghbegdjeehaaaGreatDoor
/- What it is for texts to have one sum. -/
namespace Go.Proofs.YtkghbegdjeehaaaGreatDoor
open Go.RowKit
def tx (ts : List ByteArray) (i : Nat) : ByteArray := ts.getD i ByteArray.empty
def sumB (t : ByteArray) (n : Int) : ByteArray := ⟨(sumOf t.data.toList n).toArray⟩
/-- Texts i and j have one sum, and are different. -/
def clB (ts : List ByteArray) (n : Int) (i j : Nat) : Bool := ((sumB (tx ts i) n).toList == (sumB (tx ts j) n).toList) && !((tx ts i).toList == (tx ts j).toList)
def NoC (ts : List ByteArray) (n : Int) (J : Nat) : Prop := ∀ j, j < J → ∀ i, i < j → clB ts n i j = false
def ClRes (ts : List ByteArray) (n : Int) (x y : ByteArray) (b : Bool) : Prop :=
 (x = ⟨#[]⟩ ∧ y = ⟨#[]⟩ ∧ b = false ∧ (isW n = false ∨ 2000 < ts.length ∨ NoC ts n ts.length)) ∨
 (b = true ∧ isW n = true ∧ ts.length ≤ 2000 ∧ ∃ i j, i < j ∧ j < ts.length ∧ clB ts n i j = true ∧ NoC ts n j ∧ (∀ i', i' < i → clB ts n i' j = false) ∧ x = tx ts i ∧ y = tx ts j)
theorem ClRes.same {ts : List ByteArray} {n : Int} {x y x' y' : ByteArray} {b b' : Bool} (h : ClRes ts n x y b) (h' : ClRes ts n x' y' b') : x = x' ∧ y = y' ∧ b = b' := by
 rcases h with ⟨rfl, rfl, rfl, h1⟩ | ⟨rfl, hw, hl, i, j, hij, hj, hc, hn, hi, rfl, rfl⟩
 ·rcases h' with ⟨rfl, rfl, rfl, _⟩ | ⟨rfl, hw, hl, i, j, hij, hj, hc, hn, hi, rfl, rfl⟩
  ·exact ⟨rfl, rfl, rfl⟩
  ·rcases h1 with h1 | h1 | h1
   ·rw [hw] at h1; cases h1
   ·omega
   ·rw [h1 j hj i hij] at hc; cases hc
 ·rcases h' with ⟨rfl, rfl, rfl, h1⟩ | ⟨rfl, _, _, i2, j2, hij2, hj2, hc2, hn2, hi2, rfl, rfl⟩
  ·rcases h1 with h1 | h1 | h1
   ·rw [hw] at h1; cases h1
   ·omega
   ·rw [h1 j hj i hij] at hc; cases hc
  ·have ej : j = j2 := by
    rcases Nat.lt_trichotomy j j2 with h | h | h
    ·rw [hn2 j h i hij] at hc; cases hc
    ·exact h
    ·rw [hn j2 h i2 hij2] at hc2; cases hc2
   subst ej
   have ei : i = i2 := by
    rcases Nat.lt_trichotomy i i2 with h | h | h
    ·rw [hi2 i h] at hc; cases hc
    ·exact h
    ·rw [hi i2 h] at hc2; cases hc2
   subst ei
   exact ⟨rfl, rfl, rfl⟩
end Go.Proofs.YtkghbegdjeehaaaGreatDoor
/- Two different texts with one name show two different texts with one sum. -/
namespace Go.Proofs.YtkghbegdjeehaaaGreatDoor
open Go.RowKit
theorem no_sep {A A' : List UInt8} : ∀ l l' : List UInt8, (∀ b ∈ l, b ≠ 10) → (∀ b ∈ l', b ≠ 10) → l ++ 10 :: A = l' ++ 10 :: A' → l = l' ∧ A = A'
 | [], [], _, _, h => by simpa using h
 | [], b :: l', _, h2, h => by simp at h; exact absurd h.1.symm (h2 b (by simp))
 | b :: l, [], h1, _, h => by simp at h; exact absurd h.1 (h1 b (by simp))
 | b :: l, b' :: l', h1, h2, h => by
  simp only [List.cons_append, List.cons.injEq] at h
  obtain ⟨rfl, h⟩ := h
  obtain ⟨e1, e2⟩ := no_sep l l' (fun x hx => h1 x (by simp [hx])) (fun x hx => h2 x (by simp [hx])) h
  exact ⟨by rw [e1], e2⟩
def valD (l : List UInt8) : Nat := l.foldl (fun v b => v * 10 + (b.toNat - 48)) 0
theorem dig_nat (j : Nat) (h : j < 10) : (UInt8.ofNat (48 + j)).toNat = 48 + j := by
 rw [UInt8.toNat_ofNat']; omega
theorem valD_dec : ∀ f n : Nat, n ≤ f → valD (Lib.decDigits n) = n ∧ ∀ b ∈ Lib.decDigits n, b ≠ 10
 | f, n, h => by
  by_cases h10 : n < 10
  ·rw [Lib.decDigits, dif_pos h10]
   have e := dig_nat n h10
   refine ⟨by simp only [valD, List.foldl_cons, List.foldl_nil]; rw [e]; omega, fun b hb => ?_⟩
   simp only [List.mem_cons, List.not_mem_nil, or_false] at hb
   intro hb'
   rw [hb'] at hb
   rw [← hb] at e
   have : (10 : UInt8).toNat = 10 := rfl
   omega
  ·rw [Lib.decDigits, dif_neg h10]
   cases f with
   | zero => omega
   | succ f =>
   obtain ⟨ih, ih2⟩ := valD_dec f (n / 10) (by omega)
   have e := dig_nat (n % 10) (by omega)
   refine ⟨?_, fun b hb => ?_⟩
   ·unfold valD at ih ⊢
    rw [List.foldl_append, ih]
    simp only [List.foldl_cons, List.foldl_nil]
    rw [e]; omega
   ·rcases List.mem_append.1 hb with hb | hb
    ·exact ih2 b hb
    ·simp only [List.mem_cons, List.not_mem_nil, or_false] at hb
     intro hb'
     rw [hb'] at hb
     rw [← hb] at e
     have : (10 : UInt8).toNat = 10 := rfl
     omega
theorem hx_inj : ∀ i : Fin 16, ∀ j : Fin 16, hx i.val = hx j.val → i = j := by decide
theorem hx_no : ∀ i : Fin 16, hx i.val ≠ 10 := by decide
theorem hexL_no (l : List UInt8) : ∀ b ∈ hexL l, b ≠ 10 := by
 intro b hb
 unfold hexL at hb
 obtain ⟨c, _, hc⟩ := List.mem_flatMap.1 hb
 have hc256 := c.toNat_lt
 simp only [List.mem_cons, List.not_mem_nil, or_false] at hc
 rcases hc with rfl | rfl
 ·exact hx_no ⟨c.toNat / 16, by omega⟩
 ·exact hx_no ⟨c.toNat % 16, by omega⟩
theorem hexL_inj : ∀ l l' : List UInt8, hexL l = hexL l' → l = l'
 | [], [], _ => rfl
 | [], b :: l', h => by simp [hexL] at h
 | b :: l, [], h => by simp [hexL] at h
 | b :: l, c :: l', h => by
  have e : ∀ (x : UInt8) (t : List UInt8), hexL (x :: t) = hx (x.toNat / 16) :: hx (x.toNat % 16) :: hexL t := fun x t => by simp [hexL]
  rw [e, e] at h
  simp only [List.cons.injEq] at h
  obtain ⟨h1, h2, h3⟩ := h
  have hb := b.toNat_lt
  have hc := c.toNat_lt
  have g1 := Fin.mk.inj (hx_inj ⟨b.toNat / 16, by omega⟩ ⟨c.toNat / 16, by omega⟩ h1)
  have g2 := Fin.mk.inj (hx_inj ⟨b.toNat % 16, by omega⟩ ⟨c.toNat % 16, by omega⟩ h2)
  have : b = c := UInt8.toNat_inj.1 (by omega)
  rw [this, hexL_inj l l' h3]
theorem rowsL_inj : ∀ ss ss' : List ByteArray, rowsL ss = rowsL ss' → ss = ss'
 | [], [], _ => rfl
 | [], b :: l', h => by simp [rowsL] at h
 | b :: l, [], h => by simp [rowsL] at h
 | b :: l, c :: l', h => by
  have e : ∀ (x : ByteArray) (t : List ByteArray), rowsL (x :: t) = hexL x.data.toList ++ 10 :: rowsL t := fun x t => by simp [rowsL]
  rw [e, e] at h
  obtain ⟨h1, h2⟩ := no_sep _ _ (hexL_no _) (hexL_no _) h
  have h3 := hexL_inj _ _ h1
  have : b = c := by
   rcases b with ⟨⟨b⟩⟩
   rcases c with ⟨⟨c⟩⟩
   simp at h3
   rw [h3]
  rw [this, rowsL_inj l l' h2]
theorem formL_inj {n n' : Nat} {ss ss' : List ByteArray} (h : formL n ss = formL n' ss') : n = n' ∧ ss = ss' := by
 unfold formL headL at h
 simp only [List.append_assoc, List.append_cancel_left_eq, List.singleton_append] at h
 have d := valD_dec n n (Nat.le_refl _)
 have d' := valD_dec n' n' (Nat.le_refl _)
 obtain ⟨h1, h2⟩ := no_sep _ _ d.2 d'.2 h
 exact ⟨by rw [← d.1, ← d'.1, h1], rowsL_inj _ _ h2⟩
end Go.Proofs.YtkghbegdjeehaaaGreatDoor
