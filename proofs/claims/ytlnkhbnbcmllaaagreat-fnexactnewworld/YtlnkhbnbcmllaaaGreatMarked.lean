/- Bytes that were converted from a text lie in a row that bears a mark behind its last cell: append goes on there as elsewhere. -/
import Derived.Lib.AppendStr
import Derived.Lib.ConvBytes
import Derived.Lib.FrozenHead
import Derived.Maps.AppendAt
import Derived.Test.YtlnkhbnbcmllaaaGreatRows
namespace Go.Proofs.YtlnkhbnbcmllaaaGreat
open Go.RowKit Go.Lib
/-- A row of bytes that is owned; its mark, if it has one, stands behind its cells. -/
def MRow (w : World) (base : Nat) (v : Value) (n : Nat) (xs : List Value) : Prop :=
  xs.length = n ∧ ∃ g cap cur fz, v = .slice (some ⟨g, 0, none⟩) n cap ∧ base ≤ g ∧ w.heap[g]? = some (.cells cur 5 fz) ∧ (fz = (0, 0) ∨ cap ≤ fz.1) ∧ n ≤ cap ∧ cap ≤ maxLen ∧ cur.size = cap ∧ cur.toList.take n = xs
theorem MRow.lt {w : World} {base n : Nat} {v : Value} {xs : List Value} (h : MRow w base v n xs) : ∀ k, v.ownBlock = some k → base ≤ k ∧ k < w.heap.size := by
  intro k hk
  obtain ⟨_, g, cap, cur, fz, rfl, hb, hg, _⟩ := h
  have : g = k := by simpa [Value.ownBlock] using hk
  subst this
  exact ⟨hb, (Array.getElem?_eq_some_iff.1 hg).1⟩
theorem MRow.form {w : World} {base n : Nat} {v : Value} {xs : List Value} (h : MRow w base v n xs) : ∃ g cap, v = .slice (some ⟨g, 0, none⟩) n cap := by
  obtain ⟨_, g, cap, cur, fz, rfl, _⟩ := h
  exact ⟨g, cap, rfl⟩
theorem MRow.below {w w' : World} {base n : Nat} {v : Value} {xs : List Value} (h : MRow w base v n xs) (hb : Below w.heap.size w w') : MRow w' base v n xs := by
  obtain ⟨h1, g, cap, cur, fz, rfl, h2, hg, rest⟩ := h
  exact ⟨h1, g, cap, cur, fz, rfl, h2, (hb.block g (Array.getElem?_eq_some_iff.1 hg).1).trans hg, rest⟩
theorem MRow.cell {w : World} {base n g cap : Nat} {xs : List Value} (h : MRow w base (.slice (some ⟨g, 0, none⟩) n cap) n xs) (j : Nat) (u : Value) (hu : xs[j]? = some u) : w.cell? ⟨g, j, none⟩ = some u := by
  obtain ⟨_, g', cap', cur, fz, e, _, hg, _, _, _, _, ht⟩ := h
  simp only [Value.slice.injEq, Option.some.injEq, Addr.mk.injEq] at e
  obtain ⟨⟨rfl, _⟩, _, _⟩ := e
  rw [cell_of_heap hg]
  rw [← ht, List.getElem?_take] at hu
  split at hu
  · simpa using hu
  · cases hu
/-- What is left in the row where there is room. -/
theorem MRow.stored {w : World} {base n g cap : Nat} {xs news : List Value} {cur : Array Value} {fz : Nat × Nat} (hx : xs.length = n) (hb : base ≤ g) (hg : w.heap[g]? = some (.cells cur 5 fz)) (hfz : fz = (0, 0) ∨ cap ≤ fz.1) (hcm : cap ≤ maxLen) (hcs : cur.size = cap) (ht : cur.toList.take n = xs) (hr : n + news.length ≤ cap) :
    MRow (w.setRow g (cur.toList.take n ++ news ++ cur.toList.drop (n + news.length)).toArray) base (.slice (some ⟨g, 0, none⟩) (n + news.length) cap) (n + news.length) (xs ++ news) := by
  refine ⟨by simp [hx], g, cap, _, fz, rfl, hb, setRow_heap w g cur _ 5 _ hg, hfz, hr, hcm, ?_, ?_⟩
  · simp only [List.size_toArray, List.length_append, List.length_take, List.length_drop, Array.length_toList]
    omega
  · rw [ht]
    have : n + news.length = (xs ++ news).length := by simp [hx]
    rw [this]
    exact List.take_left
end Go.Proofs.YtlnkhbnbcmllaaaGreat
