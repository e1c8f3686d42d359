/- A list in a block of its own: its size and its row of sums. -/
import Derived.Test.YtlnkhbnbcmllaaaGreatPiecesBase
import Derived.Test.YtlnkhbnbcmllaaaGreatSum
namespace Go.Proofs.YtlnkhbnbcmllaaaGreat
open Go.RowKit
theorem grownBy_setCellAt (W : World) (b o : Nat) (v : Value) : W.grownBy (W.setCell ⟨b, o, none⟩ v) (some b) :=
  ⟨rfl, rfl, rfl, (KeepsWalks.setCell W _ v).size, fun k _ hk => Below.heap_setCell _ _ _ k (fun e => hk (by rw [e]))⟩
theorem row_not {W : World} {base B : Nat} {e : TypeId} {v : Value} {n : Nat} {xs : List Value} (h : W.ownsRow base e 1 v n xs) (hB : B < base) : v.ownBlock ≠ some B :=
  fun e => by have := (h.lt B e).1; omega
theorem row_kept {W W' : World} {base B : Nat} {e : TypeId} {v : Value} {n : Nat} {xs : List Value} (h : W.ownsRow base e 1 v n xs) (hg : W.grownBy W' (some B)) (hB : B < base) : W'.ownsRow base e 1 v n xs := by
  refine h.kept hg ?_
  rcases h with ⟨_, ⟨rfl, _⟩ | ⟨g, cap, cur, rfl, hb, _⟩⟩
  · exact .inl rfl
  · refine .inr fun e => ?_
    have : g = B := by simpa [Value.ownBlock] using e
    omega
theorem grownBy_trans {A B C : World} {b : Nat} {o : Option Nat} (h : A.grownBy B (some b)) (k : B.grownBy C o) (ho : ∀ g, o = some g → g = b ∨ A.heap.size ≤ g) : A.grownBy C (some b) :=
  ⟨k.os.trans h.os, k.tape.trans h.tape, k.output.trans h.output, Nat.le_trans h.size k.size, fun j hj hne =>
    (k.block j (Nat.lt_of_lt_of_le hj h.size) (fun e => (ho j e.symm).elim (fun h1 => hne (by rw [h1])) (fun h1 => by omega))).trans (h.block j hj hne)⟩
/-- The sum of a text, as a text. -/
def sumT (n : Int) (p : ByteArray) : ByteArray := ⟨(sumOf p.data.toList n).toArray⟩
theorem sumT_size (n : Int) (p : ByteArray) : (sumT n p).size ≤ 8 := by
  show (sumOf p.data.toList n).toArray.size ≤ 8
  rw [List.size_toArray]; exact sumOf_len _ _
/-- The list of a text: its size and its sums. -/
def hasL (s : ByteArray) (n : Int) : Bool := isW n && decide (s.size ≤ 3000)
def descN (s : ByteArray) (n : Int) : Int := if hasL s n then (s.size : Int) else 0
def descS (s : ByteArray) (n : Int) : List ByteArray := if hasL s n then (piecesOf s).map (sumT n) else []
theorem descS_len (s : ByteArray) (n : Int) : (descS s n).length ≤ 3000 := by
  unfold descS
  split
  · rw [List.length_map]; exact piecesOf_len s
  · simp
end Go.Proofs.YtlnkhbnbcmllaaaGreat
