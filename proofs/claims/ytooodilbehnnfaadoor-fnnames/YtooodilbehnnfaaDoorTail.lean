/- The pieces from a cut on hang on the bytes from there on alone. -/
import Derived.Test.YtooodilbehnnfaaDoorCut
namespace Go.Proofs.YtooodilbehnnfaaDoor
open Go.RowKit
/-- The pieces that come of n bytes more, where the open piece began at f and k bytes have come. -/
def tp (s : ByteArray) : Nat → Nat → Nat → List ByteArray
  | 0, _, _ => []
  | n + 1, f, k => if endsB (s.extract f (k + 1)) || decide (k + 1 = s.size) then s.extract f (k + 1) :: tp s n (k + 1) (k + 1) else tp s n f (k + 1)
theorem tp_cut (s : ByteArray) (n f k : Nat) (h : (endsB (s.extract f (k + 1)) || decide (k + 1 = s.size)) = true) : tp s (n + 1) f k = s.extract f (k + 1) :: tp s n (k + 1) (k + 1) := by
  conv => lhs; unfold tp
  rw [h, if_pos rfl]
theorem tp_on (s : ByteArray) (n f k : Nat) (h : (endsB (s.extract f (k + 1)) || decide (k + 1 = s.size)) = false) : tp s (n + 1) f k = tp s n f (k + 1) := by
  conv => lhs; unfold tp
  rw [h, if_neg (by simp)]
theorem cutTo_tp (s : ByteArray) : ∀ (n k : Nat), (cutTo s (k + n)).2 = (cutTo s k).2 ++ tp s n (cutTo s k).1 k
  | 0, k => by simp [tp]
  | n + 1, k => by
    rw [show k + (n + 1) = (k + 1) + n by omega, cutTo_tp s n (k + 1)]
    cases h : (endsB (s.extract (cutTo s k).1 (k + 1)) || decide (k + 1 = s.size)) with
    | true => rw [cutTo_cut s k h, tp_cut s n _ k h]; simp
    | false => rw [cutTo_on s k h, tp_on s n _ k h]
theorem piecesOf_tp (s : ByteArray) (h : s.size ≤ 3000) : piecesOf s = tp s s.size 0 0 := by
  unfold piecesOf
  rw [if_neg (by omega)]
  have := cutTo_tp s s.size 0
  rw [Nat.zero_add] at this
  rw [this]; rfl
theorem shift_extract {s t : ByteArray} {f g x y : Nat} (h : s.extract f s.size = t.extract g t.size) (hs : s.size - f = t.size - g) (hy : f + y ≤ s.size) (hg : g ≤ t.size) (hf : f ≤ s.size) : s.extract (f + x) (f + y) = t.extract (g + x) (g + y) := by
  have e1 : (s.extract f s.size).extract x y = s.extract (f + x) (f + y) := by rw [ByteArray.extract_extract]; congr 1; omega
  have e2 : (t.extract g t.size).extract x y = t.extract (g + x) (g + y) := by rw [ByteArray.extract_extract]; congr 1; omega
  rw [← e1, ← e2, h]
theorem tp_shift {s t : ByteArray} {f g : Nat} (h : s.extract f s.size = t.extract g t.size) (hs : s.size - f = t.size - g) (hg : g ≤ t.size) (hf : f ≤ s.size) :
    ∀ (n x y : Nat), f + y + n = s.size → tp s n (f + x) (f + y) = tp t n (g + x) (g + y)
  | 0, _, _, _ => rfl
  | n + 1, x, y, hn => by
    unfold tp
    have e : s.extract (f + x) (f + y + 1) = t.extract (g + x) (g + y + 1) := shift_extract (y := y + 1) h hs (by omega) hg hf
    have d : decide (f + y + 1 = s.size) = decide (g + y + 1 = t.size) := by
      rw [decide_eq_decide]; omega
    rw [e, d]
    have i1 := tp_shift h hs hg hf n (y + 1) (y + 1) (by omega)
    have i2 := tp_shift h hs hg hf n x (y + 1) (by omega)
    rw [show f + (y + 1) = f + y + 1 by omega, show g + (y + 1) = g + y + 1 by omega] at i1 i2
    rw [i1, i2]
theorem tp_same {s t : ByteArray} {f g : Nat} (h : s.extract f s.size = t.extract g t.size) (hs : s.size - f = t.size - g) (hg : g ≤ t.size) (hf : f ≤ s.size) :
    tp s (s.size - f) f f = tp t (t.size - g) g g := by
  have := tp_shift h hs hg hf (s.size - f) 0 0 (by omega)
  rw [hs] at this ⊢
  simpa using this
/-- The pieces of a text from f on. -/
def Pcs (s : ByteArray) : Nat → List ByteArray → Prop
  | f, [] => f = s.size
  | f, p :: r => p = s.extract f (f + p.size) ∧ 1 ≤ p.size ∧ p.size ≤ 64 ∧ f + p.size ≤ s.size ∧ (r ≠ [] → 8 ≤ p.size) ∧ r = tp s (s.size - (f + p.size)) (f + p.size) (f + p.size) ∧ Pcs s (f + p.size) r
theorem tp_pcs (s : ByteArray) : ∀ (n f k : Nat), f ≤ k → k + n = s.size → k - f ≤ 63 → (n = 0 → f = k) → Pcs s f (tp s n f k)
  | 0, f, k, _, hn, _, h0 => by unfold tp Pcs; have := h0 rfl; omega
  | n + 1, f, k, hf, hn, h63, _ => by
    unfold tp
    have hz : (s.extract f (k + 1)).size = k + 1 - f := by simp; omega
    cases h : (endsB (s.extract f (k + 1)) || decide (k + 1 = s.size)) with
    | true =>
      rw [if_pos rfl]
      unfold Pcs
      rw [hz, show f + (k + 1 - f) = k + 1 by omega]
      refine ⟨rfl, by omega, by omega, by omega, fun hr => ?_, ?_, tp_pcs s n (k + 1) (k + 1) (Nat.le_refl _) (by omega) (by omega) (fun _ => rfl)⟩
      · have hn0 : n ≠ 0 := fun e => hr (by subst e; rfl)
        have hd : decide (k + 1 = s.size) = false := by simp; omega
        rw [hd, Bool.or_false] at h
        unfold endsB at h
        split at h
        · cases h
        · omega
      · rw [show s.size - (k + 1) = n by omega]
    | false =>
      rw [if_neg (by simp)]
      simp only [Bool.or_eq_false_iff, decide_eq_false_iff_not] at h
      refine tp_pcs s n f (k + 1) (by omega) (by omega) ?_ (fun e => by omega)
      have h1 := h.1
      unfold endsB at h1
      rw [hz] at h1
      split at h1
      · omega
      · simp at h1; omega
theorem piecesOf_pcs (s : ByteArray) (h : s.size ≤ 3000) : Pcs s 0 (piecesOf s) := by
  rw [piecesOf_tp s h]; exact tp_pcs s s.size 0 0 (Nat.le_refl _) (by omega) (by omega) (fun e => rfl)
end Go.Proofs.YtooodilbehnnfaaDoor
