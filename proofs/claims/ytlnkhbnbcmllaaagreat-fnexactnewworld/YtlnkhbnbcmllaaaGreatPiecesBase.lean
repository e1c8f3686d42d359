/- Small facts on pieces, boxes and rows. -/
import Derived.Test.YtlnkhbnbcmllaaaGreatIter
import Derived.RangeFuncCalls
namespace Go.Proofs.YtlnkhbnbcmllaaaGreat
open Go.RowKit
theorem cutTo_size (s : ByteArray) (k : Nat) : ∀ p ∈ (cutTo s k).2, p.size ≤ s.size := by
  induction k with
  | zero => intro p hp; simp [cutTo] at hp
  | succ k ih =>
    intro p hp
    unfold cutTo at hp
    split at hp
    · simp only [List.mem_append, List.mem_singleton] at hp
      rcases hp with hp | rfl
      · exact ih p hp
      · simp; omega
    · exact ih p hp
theorem piecesOf_size (s : ByteArray) : ∀ p ∈ piecesOf s, p.size ≤ 3000 := by
  intro p hp
  unfold piecesOf at hp
  split at hp
  · simp at hp
  · exact Nat.le_trans (cutTo_size s _ p hp) (by omega)
theorem Below.boxed {W w1 : World} {B : Nat} {t : TypeId} {v : Value} (h : Below W.heap.size W w1) (hv : Boxed W B t v) : Boxed w1 B t v := (h.block B hv.lt).trans hv
theorem ownsRow_base {W : World} {b b' : Nat} {e : TypeId} {size : Nat} {v : Value} {n : Nat} {xs : List Value} (h : W.ownsRow b e size v n xs) (hb : b' ≤ b) : W.ownsRow b' e size v n xs := by
  obtain ⟨h1, h2⟩ := h
  refine ⟨h1, ?_⟩
  rcases h2 with h2 | ⟨g, cap, cur, e1, h3, h4⟩
  · exact .inl h2
  · exact .inr ⟨g, cap, cur, e1, Nat.le_trans hb h3, h4⟩
end Go.Proofs.YtlnkhbnbcmllaaaGreat
