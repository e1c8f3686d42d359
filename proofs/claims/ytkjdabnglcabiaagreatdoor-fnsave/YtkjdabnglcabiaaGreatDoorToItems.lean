import Derived.Test.YtkjdabnglcabiaaGreatDoorHeapMath
import Derived.Laws.MakeOwn
/- A block whose cells are known: stores into it, one after another. -/
namespace Go.Proofs.YtkjdabnglcabiaaGreatDoor
open Go.RowKit
def Blk (W : World) (b : Nat) (T : TypeId) (cs : Array Value) : Prop := W.heap[b]? = some (.cells cs T (0, 0))
theorem Blk.lt {W : World} {b : Nat} {T : TypeId} {cs : Array Value} (h : Blk W b T cs) : b < W.heap.size := (Array.getElem?_eq_some_iff.1 h).1
theorem Blk.cell {W : World} {b : Nat} {T : TypeId} {cs : Array Value} (h : Blk W b T cs) (i : Nat) : W.cell? ⟨b, i, none⟩ = cs[i]? := by simp [World.cell?, show W.heap[b]? = _ from h]
theorem Blk.fz {W : World} {b : Nat} {T : TypeId} {cs : Array Value} (h : Blk W b T cs) (k : Nat) : W.frozen? ⟨b, k, none⟩ = false := by simp [World.frozen?, show W.heap[b]? = _ from h]
theorem Blk.below {W W' : World} {b : Nat} {T : TypeId} {cs : Array Value} (h : Blk W b T cs) (hb : Below W.heap.size W W') : Blk W' b T cs := (hb.block b h.lt).trans h
theorem Blk.kept {W W' : World} {row : Option Nat} {b : Nat} {T : TypeId} {cs : Array Value} (h : Blk W b T cs) (hg : W.grownBy W' row) (hne : some b ≠ row) : Blk W' b T cs := (hg.block b h.lt hne).trans h
theorem Blk.alloc {W : World} {b : Nat} {T : TypeId} {cs : Array Value} (h : Blk W b T cs) (o : Obj) : Blk (W.alloc o) b T cs := h.kept (World.grownBy_alloc W o none) (by simp)
theorem Blk.new (W : World) (T : TypeId) (cs : Array Value) : Blk (W.alloc (.cells cs T)) W.heap.size T cs := World.alloc_heap_new W _
theorem Blk.set {W : World} {b : Nat} {T : TypeId} {cs : Array Value} (h : Blk W b T cs) (i : Nat) (v : Value) : Blk (W.setCell ⟨b, i, none⟩ v) b T (cs.setIfInBounds i v) := by
 obtain ⟨hlt, hk⟩ := Array.getElem?_eq_some_iff.1 h
 show (W.heap.modify b _)[b]? = _
 rw [Array.getElem?_eq_getElem (by rw [Array.size_modify]; exact hlt), Array.getElem_modify_self, hk]
 rfl
end Go.Proofs.YtkjdabnglcabiaaGreatDoor
/- Rows of items: two cells an item. -/
namespace Go.Proofs.YtkjdabnglcabiaaGreatDoor
open Go.RowKit
abbrev Itms := List (ByteArray × Int)
def itx (its : Itms) (i : Nat) : ByteArray := (its.getD i (ByteArray.empty, 0)).1
def itu (its : Itms) (i : Nat) : Int := (its.getD i (ByteArray.empty, 0)).2
/-- A slice that reads as a list of items. -/
def RdI (w : World) (v : Value) (its : Itms) : Prop :=
 ∃ a cap, v = .slice a its.length cap ∧ ∀ i, i < its.length → ∃ b off, a = some ⟨b, off, none⟩ ∧ b < w.heap.size ∧ w.cell? ⟨b, off + i * 2, none⟩ = some (.string (itx its i)) ∧ w.cell? ⟨b, off + i * 2 + 1, none⟩ = some (.int .i64 (itu its i))
theorem RdI.below {w w' : World} {v : Value} {its : Itms} (h : RdI w v its) (hb : Below w.heap.size w w') : RdI w' v its := by
 obtain ⟨a, cap, e, hc⟩ := h
 refine ⟨a, cap, e, fun i hi => ?_⟩
 obtain ⟨b, off, ha, hl, h1, h2⟩ := hc i hi
 exact ⟨b, off, ha, Nat.lt_of_lt_of_le hl hb.size, (hb.cell (p := ⟨b, off + i * 2, none⟩) hl).trans h1, (hb.cell (p := ⟨b, off + i * 2 + 1, none⟩) hl).trans h2⟩
end Go.Proofs.YtkjdabnglcabiaaGreatDoor
/- Copies of items, in rows of their own. -/
namespace Go.Proofs.YtkjdabnglcabiaaGreatDoor
open Go.RowKit
def cellsI (its : Itms) : List Value := its.flatMap fun p => [Value.string p.1, Value.int .i64 p.2]
theorem cellsI_len : ∀ its : Itms, (cellsI its).length = its.length * 2
 | [] => rfl
 | p :: r => by
  have := cellsI_len r
  simp only [cellsI, List.flatMap_cons, List.length_append, List.length_cons, List.length_nil] at this ⊢
  omega
theorem cellsI_at : ∀ (its : Itms) (i : Nat), i < its.length → (cellsI its)[i * 2]? = some (.string (itx its i)) ∧ (cellsI its)[i * 2 + 1]? = some (.int .i64 (itu its i))
 | [], i, h => absurd h (by simp)
 | p :: r, 0, _ => by simp [cellsI, itx, itu]
 | p :: r, i + 1, h => by
  have ih := cellsI_at r i (by simpa using h)
  have e : (i + 1) * 2 = i * 2 + 1 + 1 := by omega
  rw [e]
  simpa [cellsI, itx, itu] using ih
theorem cellsI_take (its : Itms) (m : Nat) (h : m < its.length) : cellsI (its.take (m + 1)) = cellsI (its.take m) ++ [.string (itx its m), .int .i64 (itu its m)] := by
 unfold cellsI
 rw [List.take_succ_eq_append_getElem h, List.flatMap_append]
 simp [itx, itu, h]
/-- A slice that is a row of items of its own. -/
def OwnI (w : World) (base : Nat) (v : Value) (its : Itms) : Prop :=
 ∃ g, v = .slice (some ⟨g, 0, none⟩) its.length its.length ∧ base ≤ g ∧ Blk w g 59 (cellsI its).toArray
theorem OwnI.below {w w' : World} {base : Nat} {v : Value} {its : Itms} (h : OwnI w base v its) (hb : Below w.heap.size w w') : OwnI w' base v its := by
 obtain ⟨g, e, hg, hk⟩ := h
 exact ⟨g, e, hg, hk.below hb⟩
theorem OwnI.base {w : World} {base b' : Nat} {v : Value} {its : Itms} (h : OwnI w base v its) (hb : b' ≤ base) : OwnI w b' v its := by
 obtain ⟨g, e, hg, hk⟩ := h
 exact ⟨g, e, Nat.le_trans hb hg, hk⟩
theorem OwnI.rdi {w : World} {base : Nat} {v : Value} {its : Itms} (h : OwnI w base v its) : RdI w v its := by
 obtain ⟨g, e, hg, hk⟩ := h
 refine ⟨_, _, e, fun i hi => ⟨g, 0, rfl, hk.lt, ?_, ?_⟩⟩
 ·rw [Nat.zero_add, hk.cell]; simpa using (cellsI_at its i hi).1
 ·rw [Nat.zero_add, hk.cell]; simpa using (cellsI_at its i hi).2
theorem Tryz.infoItem : (Tryz.prog.info? 59).map (fun i => (i.zero, i.size, i.bytes)) = some (some (.agg #[.string ⟨#[]⟩, .int .i64 0]), 2, 24) := by kernel_rfl
end Go.Proofs.YtkjdabnglcabiaaGreatDoor
