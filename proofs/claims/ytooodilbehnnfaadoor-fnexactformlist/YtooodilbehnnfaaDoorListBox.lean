/- A list in a block of its own: its size and its row of sums. -/
import Derived.Test.YtooodilbehnnfaaDoorPiecesBase
import Derived.Test.YtooodilbehnnfaaDoorSum
namespace Go.Proofs.YtooodilbehnnfaaDoor
open Go.RowKit
def LBox (W : World) (b : Nat) (n : Int) (v : Value) : Prop := W.heap[b]? = some (.cells #[.int .i64 n, v] 27 (0, 0))
theorem LBox.lt {W : World} {b : Nat} {n : Int} {v : Value} (h : LBox W b n v) : b < W.heap.size := (Array.getElem?_eq_some_iff.1 h).1
theorem LBox.c0 {W : World} {b : Nat} {n : Int} {v : Value} (h : LBox W b n v) : W.cell? ⟨b, 0, none⟩ = some (.int .i64 n) := by simp [World.cell?, show W.heap[b]? = _ from h]
theorem LBox.c1 {W : World} {b : Nat} {n : Int} {v : Value} (h : LBox W b n v) : W.cell? ⟨b, 1, none⟩ = some v := by simp [World.cell?, show W.heap[b]? = _ from h]
theorem LBox.fz {W : World} {b : Nat} {n : Int} {v : Value} (h : LBox W b n v) (k : Nat) : W.frozen? ⟨b, k, none⟩ = false := by simp [World.frozen?, show W.heap[b]? = _ from h]
theorem LBox.kept {W W' : World} {row : Option Nat} {b : Nat} {n : Int} {v : Value} (h : LBox W b n v) (hg : W.grownBy W' row) (hne : some b ≠ row) : LBox W' b n v := (hg.block b h.lt hne).trans h
theorem LBox.below {W W' : World} {b : Nat} {n : Int} {v : Value} (h : LBox W b n v) (hb : Below W.heap.size W W') : LBox W' b n v := (hb.block b h.lt).trans h
theorem LBox.alloc {W : World} {b : Nat} {n : Int} {v : Value} (h : LBox W b n v) (o : Obj) : LBox (W.alloc o) b n v := h.kept (World.grownBy_alloc W o none) (by simp)
theorem LBox.drew {W : World} {b : Nat} {n : Int} {v : Value} (h : LBox W b n v) : LBox W.drew b n v := h
theorem LBox.set1 {W : World} {b : Nat} {n : Int} {v : Value} (v' : Value) (h : LBox W b n v) : LBox (W.setCell ⟨b, 1, none⟩ v') b n v' := by
  obtain ⟨hlt, hk⟩ := Array.getElem?_eq_some_iff.1 h
  show (W.heap.modify b _)[b]? = _
  rw [Array.getElem?_eq_getElem (by rw [Array.size_modify]; exact hlt), Array.getElem_modify_self, hk]
  rfl
theorem LBox.set0 {W : World} {b : Nat} {n : Int} {v : Value} (n' : Int) (h : LBox W b n v) : LBox (W.setCell ⟨b, 0, none⟩ (.int .i64 n')) b n' v := by
  obtain ⟨hlt, hk⟩ := Array.getElem?_eq_some_iff.1 h
  show (W.heap.modify b _)[b]? = _
  rw [Array.getElem?_eq_getElem (by rw [Array.size_modify]; exact hlt), Array.getElem_modify_self, hk]
  rfl
theorem grownBy_setCellAt (W : World) (b o : Nat) (v : Value) : W.grownBy (W.setCell ⟨b, o, none⟩ v) (some b) :=
  ⟨rfl, rfl, rfl, (KeepsWalks.setCell W _ v).size, fun k _ hk => Below.heap_setCell _ _ _ k (fun e => hk (by rw [e]))⟩
theorem row_not {W : World} {base B : Nat} {e : TypeId} {v : Value} {n : Nat} {xs : List Value} (h : W.ownsRow base e 1 v n xs) (hB : B < base) : v.ownBlock ≠ some B :=
  fun e => by have := (h.lt B e).1; omega
theorem row_kept {W W' : World} {base B : Nat} {e : TypeId} {v : Value} {n : Nat} {xs : List Value} (h : W.ownsRow base e 1 v n xs) (hg : W.grownBy W' (some B)) (hB : B < base) : W'.ownsRow base e 1 v n xs := by
  refine h.kept hg ?_
  rcases h with ⟨_, ⟨rfl, _⟩ | ⟨g, cap, cur, rfl, hb, _⟩⟩
  · exact .inl rfl
  · refine .inr fun e => ?_
    have : g = B := by simpa [Value.ownBlock] using e
    omega
theorem grownBy_trans {A B C : World} {b : Nat} {o : Option Nat} (h : A.grownBy B (some b)) (k : B.grownBy C o) (ho : ∀ g, o = some g → g = b ∨ A.heap.size ≤ g) : A.grownBy C (some b) :=
  ⟨k.os.trans h.os, k.tape.trans h.tape, k.output.trans h.output, Nat.le_trans h.size k.size, fun j hj hne =>
    (k.block j (Nat.lt_of_lt_of_le hj h.size) (fun e => (ho j e.symm).elim (fun h1 => hne (by rw [h1])) (fun h1 => by omega))).trans (h.block j hj hne)⟩
/-- What an append into a list's row leaves. -/
theorem lbox_stored {W w1 : World} {n₀ b : Nat} {n : Int} {v v' : Value} {k m : Nat} {xs ys : List Value} {tmp : Obj} (hv : LBox W b n v) (hrow : W.ownsRow n₀ 9 1 v k xs) (hB : b < n₀) (hn : n₀ ≤ W.heap.size)
    (hown' : w1.ownsRow n₀ 9 1 v' m ys) (hgrow : (W.alloc tmp).grownBy w1 v.ownBlock) :
    LBox w1 b n v ∧ LBox (w1.setCell ⟨b, 1, none⟩ v') b n v' ∧ (w1.setCell ⟨b, 1, none⟩ v').ownsRow n₀ 9 1 v' m ys ∧ Below b W (w1.setCell ⟨b, 1, none⟩ v') ∧
      ∀ (j : Nat) (o : Obj), W.heap[j]? = some o → j ≠ b → (j < n₀ ∨ ∀ c, o ≠ .cells c 9 (0, 0)) → (w1.setCell ⟨b, 1, none⟩ v').heap[j]? = some o := by
  have hlt : ∀ g, v.ownBlock = some g → n₀ ≤ g := fun g e => (hrow.lt g e).1
  have hv1 : LBox w1 b n v := (hv.alloc tmp).kept hgrow (fun e => by have := hlt b e.symm; omega)
  have hbe : Below b W w1 := ((Below.refl b W).alloc (by omega) tmp).grown hgrow (by simp; omega) (fun g e => by have := hlt g e; omega)
  refine ⟨hv1, hv1.set1 v', row_kept hown' (grownBy_setCellAt w1 b 1 v') hB, hbe.setCell (p := ⟨b, 1, none⟩) (Nat.le_refl _) _, ?_⟩
  intro j o hj hne ho
  have hjl := (Array.getElem?_eq_some_iff.1 hj).1
  have h1 : (W.alloc tmp).heap[j]? = some o := (Below.heap_alloc W tmp j hjl).trans hj
  have h2 : w1.heap[j]? = some o := by
    refine (hgrow.block j (by simp; omega) (fun e => ?_)).trans h1
    rcases ho with ho | ho
    · have := hlt j e.symm; omega
    · rcases hrow with ⟨_, ⟨rfl, _⟩ | ⟨g, cap, cur, rfl, _, hgc, _⟩⟩
      · simp [Value.ownBlock] at e
      · have : j = g := by simpa [Value.ownBlock] using e
        subst this
        rw [hj] at hgc
        exact ho cur (Option.some.inj hgc)
  exact ((grownBy_setCellAt w1 b 1 v').block j (Array.getElem?_eq_some_iff.1 h2).1 (fun e => hne (by cases e; rfl))).trans h2
/-- The sum of a text, as a text. -/
def sumT (n : Int) (p : ByteArray) : ByteArray := ⟨(sumOf p.data.toList n).toArray⟩
theorem sumT_size (n : Int) (p : ByteArray) : (sumT n p).size ≤ 8 := by
  show (sumOf p.data.toList n).toArray.size ≤ 8
  rw [List.size_toArray]; exact sumOf_len _ _
/-- The list of a text: its size and its sums. -/
def hasL (s : ByteArray) (n : Int) : Bool := isW n && decide (s.size ≤ 3000)
def descN (s : ByteArray) (n : Int) : Int := if hasL s n then (s.size : Int) else 0
def descS (s : ByteArray) (n : Int) : List ByteArray := if hasL s n then (piecesOf s).map (sumT n) else []
theorem descS_len (s : ByteArray) (n : Int) : (descS s n).length ≤ 3000 := by
  unfold descS
  split
  · rw [List.length_map]; exact piecesOf_len s
  · simp
end Go.Proofs.YtooodilbehnnfaaDoor
