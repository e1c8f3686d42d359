import Derived.Test.YtlnkhbnbcmllaaaGreatRingA
import Derived.Test.YtlnkhbnbcmllaaaGreatRange
import Derived.RangeFuncCalls
/- impl.eachPiece: the iterator over a text's pieces. -/
namespace Go.Proofs.YtlnkhbnbcmllaaaGreat
open Go.RowKit
attribute [local go_sem] Oper.semAt_some
theorem cell_of_heap {w : World} {b : Nat} {A : Array Value} {t : TypeId} (h : w.heap[b]? = some (.cells A t (0, 0))) (i : Nat) : w.cell? ⟨b, i, none⟩ = A[i]? := by
  simp [World.cell?, h]
theorem hid {p : Prop} (h : p) : Hid p := h
end Go.Proofs.YtlnkhbnbcmllaaaGreat
/- Small facts on pieces, boxes and rows. -/
namespace Go.Proofs.YtlnkhbnbcmllaaaGreat
open Go.RowKit
theorem ownsRow_base {W : World} {b b' : Nat} {e : TypeId} {size : Nat} {v : Value} {n : Nat} {xs : List Value} (h : W.ownsRow b e size v n xs) (hb : b' ≤ b) : W.ownsRow b' e size v n xs := by
  obtain ⟨h1, h2⟩ := h
  refine ⟨h1, ?_⟩
  rcases h2 with h2 | ⟨g, cap, cur, e1, h3, h4⟩
  · exact .inl h2
  · exact .inr ⟨g, cap, cur, e1, Nat.le_trans hb h3, h4⟩
end Go.Proofs.YtlnkhbnbcmllaaaGreat
