/- impl.eachPiece: the iterator over a text's pieces. -/
import Derived.Test.YtlnkhbnbcmllaaaGreatRingA
import Derived.Test.YtlnkhbnbcmllaaaGreatRange
namespace Go.Proofs.YtlnkhbnbcmllaaaGreat
open Go.RowKit
attribute [local go_sem] Oper.semAt_some
theorem cell_of_heap {w : World} {b : Nat} {A : Array Value} {t : TypeId} (h : w.heap[b]? = some (.cells A t (0, 0))) (i : Nat) : w.cell? ⟨b, i, none⟩ = A[i]? := by
  simp [World.cell?, h]
theorem frozen_of_heap {w : World} {b : Nat} {A : Array Value} {t : TypeId} (h : w.heap[b]? = some (.cells A t (0, 0))) (i : Nat) : w.frozen? ⟨b, i, none⟩ = false := by
  simp [World.frozen?, h]
theorem cutTo_grows (s : ByteArray) (k : Nat) : ∀ j, k ≤ j → (cutTo s k).2 <+: (cutTo s j).2
  | 0, h => by
    obtain rfl : k = 0 := by omega
    exact List.prefix_refl _
  | j + 1, h => by
    by_cases e : k = j + 1
    · subst e; exact List.prefix_refl _
    · refine (cutTo_grows s k j (by omega)).trans ?_
      conv => rhs; unfold cutTo
      split
      · exact List.prefix_append _ _
      · exact List.prefix_refl _
theorem hid {p : Prop} (h : p) : Hid p := h
theorem box_kept {wr w1 : World} {Bn b : Nat} {o : Obj} (hb : wr.heap[Bn]? = some o) (hg : wr.grownBy w1 (some b)) (h : Bn < b) : w1.heap[Bn]? = some o :=
  (hg.block Bn (Array.getElem?_eq_some_iff.1 hb).1 (fun e => by cases e; omega)).trans hb
theorem cell_box {w : World} {b : Nat} {v : Value} {t : TypeId} (h : w.heap[b]? = some (.cells #[v] t (0, 0))) : w.cell? ⟨b, 0, none⟩ = some v := by rw [cell_of_heap h]; rfl
end Go.Proofs.YtlnkhbnbcmllaaaGreat
