/- A block whose cells are known: stores into it, one after another. -/
import Derived.Test.YtlnkhbnbcmllaaaGreatListBox
namespace Go.Proofs.YtlnkhbnbcmllaaaGreat
open Go.RowKit
def Blk (W : World) (b : Nat) (T : TypeId) (cs : Array Value) : Prop := W.heap[b]? = some (.cells cs T (0, 0))
theorem Blk.lt {W : World} {b : Nat} {T : TypeId} {cs : Array Value} (h : Blk W b T cs) : b < W.heap.size := (Array.getElem?_eq_some_iff.1 h).1
theorem Blk.cell {W : World} {b : Nat} {T : TypeId} {cs : Array Value} (h : Blk W b T cs) (i : Nat) : W.cell? ⟨b, i, none⟩ = cs[i]? := by simp [World.cell?, show W.heap[b]? = _ from h]
theorem Blk.fz {W : World} {b : Nat} {T : TypeId} {cs : Array Value} (h : Blk W b T cs) (k : Nat) : W.frozen? ⟨b, k, none⟩ = false := by simp [World.frozen?, show W.heap[b]? = _ from h]
theorem Blk.below {W W' : World} {b : Nat} {T : TypeId} {cs : Array Value} (h : Blk W b T cs) (hb : Below W.heap.size W W') : Blk W' b T cs := (hb.block b h.lt).trans h
theorem Blk.kept {W W' : World} {row : Option Nat} {b : Nat} {T : TypeId} {cs : Array Value} (h : Blk W b T cs) (hg : W.grownBy W' row) (hne : some b ≠ row) : Blk W' b T cs := (hg.block b h.lt hne).trans h
theorem Blk.alloc {W : World} {b : Nat} {T : TypeId} {cs : Array Value} (h : Blk W b T cs) (o : Obj) : Blk (W.alloc o) b T cs := h.kept (World.grownBy_alloc W o none) (by simp)
theorem Blk.new (W : World) (T : TypeId) (cs : Array Value) : Blk (W.alloc (.cells cs T)) W.heap.size T cs := World.alloc_heap_new W _
theorem Blk.set {W : World} {b : Nat} {T : TypeId} {cs : Array Value} (h : Blk W b T cs) (i : Nat) (v : Value) : Blk (W.setCell ⟨b, i, none⟩ v) b T (cs.setIfInBounds i v) := by
  obtain ⟨hlt, hk⟩ := Array.getElem?_eq_some_iff.1 h
  show (W.heap.modify b _)[b]? = _
  rw [Array.getElem?_eq_getElem (by rw [Array.size_modify]; exact hlt), Array.getElem_modify_self, hk]
  rfl
/-- A block of six cells, all of them stored anew. -/
structure Store6 (u : World) (b : Nat) (T : TypeId) (c0 c1 c2 c3 c4 c5 d0 d1 d2 d3 d4 d5 : Value) : Prop where
  a0 : u.cell? ⟨b, 0, none⟩ = some c0
  f0 : u.frozen? ⟨b, 0, none⟩ = false
  a1 : (u.setCell ⟨b, 0, none⟩ d0).cell? ⟨b, 1, none⟩ = some c1
  f1 : (u.setCell ⟨b, 0, none⟩ d0).frozen? ⟨b, 1, none⟩ = false
  a2 : ((u.setCell ⟨b, 0, none⟩ d0).setCell ⟨b, 1, none⟩ d1).cell? ⟨b, 2, none⟩ = some c2
  f2 : ((u.setCell ⟨b, 0, none⟩ d0).setCell ⟨b, 1, none⟩ d1).frozen? ⟨b, 2, none⟩ = false
  a3 : (((u.setCell ⟨b, 0, none⟩ d0).setCell ⟨b, 1, none⟩ d1).setCell ⟨b, 2, none⟩ d2).cell? ⟨b, 3, none⟩ = some c3
  f3 : (((u.setCell ⟨b, 0, none⟩ d0).setCell ⟨b, 1, none⟩ d1).setCell ⟨b, 2, none⟩ d2).frozen? ⟨b, 3, none⟩ = false
  a4 : ((((u.setCell ⟨b, 0, none⟩ d0).setCell ⟨b, 1, none⟩ d1).setCell ⟨b, 2, none⟩ d2).setCell ⟨b, 3, none⟩ d3).cell? ⟨b, 4, none⟩ = some c4
  f4 : ((((u.setCell ⟨b, 0, none⟩ d0).setCell ⟨b, 1, none⟩ d1).setCell ⟨b, 2, none⟩ d2).setCell ⟨b, 3, none⟩ d3).frozen? ⟨b, 4, none⟩ = false
  a5 : (((((u.setCell ⟨b, 0, none⟩ d0).setCell ⟨b, 1, none⟩ d1).setCell ⟨b, 2, none⟩ d2).setCell ⟨b, 3, none⟩ d3).setCell ⟨b, 4, none⟩ d4).cell? ⟨b, 5, none⟩ = some c5
  f5 : (((((u.setCell ⟨b, 0, none⟩ d0).setCell ⟨b, 1, none⟩ d1).setCell ⟨b, 2, none⟩ d2).setCell ⟨b, 3, none⟩ d3).setCell ⟨b, 4, none⟩ d4).frozen? ⟨b, 5, none⟩ = false
  z : Blk ((((((u.setCell ⟨b, 0, none⟩ d0).setCell ⟨b, 1, none⟩ d1).setCell ⟨b, 2, none⟩ d2).setCell ⟨b, 3, none⟩ d3).setCell ⟨b, 4, none⟩ d4).setCell ⟨b, 5, none⟩ d5) b T #[d0, d1, d2, d3, d4, d5]
theorem Blk.store6 {u : World} {b : Nat} {T : TypeId} {c0 c1 c2 c3 c4 c5 : Value} (h : Blk u b T #[c0, c1, c2, c3, c4, c5]) (d0 d1 d2 d3 d4 d5 : Value) : Store6 u b T c0 c1 c2 c3 c4 c5 d0 d1 d2 d3 d4 d5 where
  a0 := h.cell 0
  f0 := h.fz 0
  a1 := (h.set 0 d0).cell 1
  f1 := (h.set 0 d0).fz 1
  a2 := ((h.set 0 d0).set 1 d1).cell 2
  f2 := ((h.set 0 d0).set 1 d1).fz 2
  a3 := (((h.set 0 d0).set 1 d1).set 2 d2).cell 3
  f3 := (((h.set 0 d0).set 1 d1).set 2 d2).fz 3
  a4 := ((((h.set 0 d0).set 1 d1).set 2 d2).set 3 d3).cell 4
  f4 := ((((h.set 0 d0).set 1 d1).set 2 d2).set 3 d3).fz 4
  a5 := (((((h.set 0 d0).set 1 d1).set 2 d2).set 3 d3).set 4 d4).cell 5
  f5 := (((((h.set 0 d0).set 1 d1).set 2 d2).set 3 d3).set 4 d4).fz 5
  z := (((((h.set 0 d0).set 1 d1).set 2 d2).set 3 d3).set 4 d4).set 5 d5
/-- Six stores into a block leave what lies below it. -/
theorem below_store6 {w u : World} {b : Nat} (hb : Below b w u) (d0 d1 d2 d3 d4 d5 : Value) :
    Below b w ((((((u.setCell ⟨b, 0, none⟩ d0).setCell ⟨b, 1, none⟩ d1).setCell ⟨b, 2, none⟩ d2).setCell ⟨b, 3, none⟩ d3).setCell ⟨b, 4, none⟩ d4).setCell ⟨b, 5, none⟩ d5) :=
  (((((hb.setCell (p := ⟨b, 0, none⟩) (Nat.le_refl _) d0).setCell (p := ⟨b, 1, none⟩) (Nat.le_refl _) d1).setCell (p := ⟨b, 2, none⟩) (Nat.le_refl _) d2).setCell (p := ⟨b, 3, none⟩) (Nat.le_refl _) d3).setCell (p := ⟨b, 4, none⟩) (Nat.le_refl _) d4).setCell (p := ⟨b, 5, none⟩) (Nat.le_refl _) d5
end Go.Proofs.YtlnkhbnbcmllaaaGreat
