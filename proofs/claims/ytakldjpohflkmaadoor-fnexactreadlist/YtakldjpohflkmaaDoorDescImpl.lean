/- impl.Describe: the list of a text. -/
import Derived.Test.YtakldjpohflkmaaDoorListBox
import Derived.Test.YtakldjpohflkmaaDoorHeld
namespace Go.Proofs.YtakldjpohflkmaaDoor
open Go.RowKit
attribute [local go_sem] Oper.semAt_some
/-- What holds between two rounds. -/
def DI (w : World) (s : ByteArray) (n : Int) (pre : List ByteArray) (W : World) : Prop :=
  (∃ v, LBox W (w.heap.size + 2) s.size v ∧ W.ownsRow (w.heap.size + 4) 9 1 v pre.length ((pre.map (sumT n)).map Value.string)) ∧ Boxed W w.heap.size 3 (.int .i64 n) ∧ LBox W (w.heap.size + 1) 0 (.slice none 0 0) ∧ Below w.heap.size w W ∧ w.heap.size + 4 ≤ W.heap.size
theorem DI.grown {w : World} {s : ByteArray} {n : Int} {pre : List ByteArray} {A A' : World} {row : Option Nat} (h : DI w s n pre A) (hg : A.grownBy A' row) (hr : ∀ r, row = some r → w.heap.size + 4 ≤ r ∧ ∀ c, A.heap[r]? ≠ some (.cells c 9 (0, 0))) : DI w s n pre A' := by
  obtain ⟨⟨v, hv, hrow⟩, hn, hl, hB, hsz⟩ := h
  have ne : ∀ j, j < w.heap.size + 4 → some j ≠ row := fun j hj e => by have := (hr j e.symm).1; omega
  refine ⟨⟨v, hv.kept hg (ne _ (by omega)), hrow.kept hg ?_⟩, hn.kept hg (ne _ (by omega)), hl.kept hg (ne _ (by omega)), hB.grown hg (by omega) (fun r e => by have := (hr r e).1; omega), Nat.le_trans hsz hg.size⟩
  rcases hrow with ⟨_, ⟨rfl, _⟩ | ⟨g, cap, cur, rfl, _, hgc, _⟩⟩
  · exact .inl rfl
  · refine .inr fun e => ?_
    exact (hr g (by rw [← e]; rfl)).2 cur hgc
theorem DI.own (w : World) (s : ByteArray) (n : Int) : OwnFrom (w.heap.size + 4) (DI w s n) := fun pre W W' row h hg hr =>
  h.grown hg fun r e => ⟨(hr r e).1, fun c hc => by obtain ⟨_, o, ho, hn⟩ := hr r e; rw [ho] at hc; cases hc; cases hn⟩
end Go.Proofs.YtakldjpohflkmaaDoor
