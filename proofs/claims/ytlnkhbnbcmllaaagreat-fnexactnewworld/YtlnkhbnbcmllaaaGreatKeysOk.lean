/- What is asked of maps.Keys and slices.Sorted. -/
import Derived.Test.YtlnkhbnbcmllaaaGreatMapMath
namespace Go.Proofs.YtlnkhbnbcmllaaaGreat
open Go.RowKit Go.Sort
/-- maps.Keys and slices.Sorted of it, at the map of items. -/
def KeysOK : Prop :=
  (∀ (mb : Nat) (W : World), Calls Tryz.prog 86 #[.map (some mb)] W fun e w' => e = .returned (.func (.func 93) #[] #[.pointer (some ⟨W.heap.size, 0, none⟩)]) ∧ w' = W.alloc (.cells #[.map (some mb)] 107)) ∧
  ∀ (b nn : Nat) (D : DataW Unit) (w : World), w.ownsMap Tryz.prog 9 itemElem b nn D → Maps.Tidy D → ∀ S : List (List UInt8), S.Pairwise (· < ·) → (∀ x, x ∈ S ↔ Maps.has D (.string x) = true) → S.length ≤ 1048576 →
    Calls Tryz.prog 85 #[.func (.func 93) #[] #[.pointer (some ⟨w.heap.size, 0, none⟩)]] (w.alloc (.cells #[.map (some b)] 107)) fun e w' => ∃ v, e = .returned v ∧ w'.ownsRow (w.heap.size + 1) 9 1 v S.length (S.map encStr) ∧ Below (w.heap.size + 1) (w.alloc (.cells #[.map (some b)] 107)) w'
end Go.Proofs.YtlnkhbnbcmllaaaGreat
