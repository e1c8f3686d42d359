/- The pieces of a text: spec.l2Ends, spec.Pieces. -/
import Derived.Test.YtlnkhbnbcmllaaaGreatBytes
import Derived.Test.YtlnkhbnbcmllaaaGreatStrs
namespace Go.Proofs.YtlnkhbnbcmllaaaGreat
open Go.RowKit
def cutHere (p : ByteArray) : Bool := decide (fnvList (p.extract (p.size - 8) p.size).data.toList % 16 = 0)
def endsB (p : ByteArray) : Bool := if p.size < 8 then false else (decide (64 ≤ p.size) || cutHere p)
/-- What has been cut when k bytes have come: where the open piece begins, and the pieces ahead of it. -/
def cutTo (s : ByteArray) : Nat → Nat × List ByteArray
  | 0 => (0, [])
  | k + 1 => if endsB (s.extract (cutTo s k).1 (k + 1)) || decide (k + 1 = s.size) then (k + 1, (cutTo s k).2 ++ [s.extract (cutTo s k).1 (k + 1)]) else cutTo s k
def piecesOf (s : ByteArray) : List ByteArray := if 3000 < s.size then [] else (cutTo s s.size).2
theorem cutTo_le (s : ByteArray) (k : Nat) : (cutTo s k).1 ≤ k ∧ (cutTo s k).2.length ≤ k := by
  induction k with
  | zero => simp [cutTo]
  | succ k ih => unfold cutTo; split <;> first | (simp; omega) | omega
theorem piecesOf_len (s : ByteArray) : (piecesOf s).length ≤ 3000 := by
  unfold piecesOf; split
  · simp
  · have := (cutTo_le s s.size).2; omega
theorem cutTo_cut (s : ByteArray) (k : Nat) (h : (endsB (s.extract (cutTo s k).1 (k + 1)) || decide (k + 1 = s.size)) = true) :
    cutTo s (k + 1) = (k + 1, (cutTo s k).2 ++ [s.extract (cutTo s k).1 (k + 1)]) := by
  conv => lhs; unfold cutTo
  rw [if_pos h]
theorem cutTo_on (s : ByteArray) (k : Nat) (h : (endsB (s.extract (cutTo s k).1 (k + 1)) || decide (k + 1 = s.size)) = false) :
    cutTo s (k + 1) = cutTo s k := by
  conv => lhs; unfold cutTo
  rw [if_neg (by simp [h])]
theorem Tryz.info9 : (Tryz.prog.info? 9).map (fun i => (i.zero, i.size, i.bytes)) = some (some (.string ⟨#[]⟩), 1, 16) := by kernel_rfl
theorem append_below {w w' w1 : World} {B : Nat} {e : TypeId} {n : Nat} {xs : List Value} {v : Value} {o : Obj} (hb : Below B w w') (hown : w'.ownsRow B e 1 v n xs) (hg : (w'.alloc o).grownBy w1 v.ownBlock) (hB : B ≤ w'.heap.size := by first | exact Below.size (by assumption) | omega) : Below B w w1 :=
  (hb.alloc hB _).grown hg (by simp; omega) (fun k e => (hown.lt k e).1)
end Go.Proofs.YtlnkhbnbcmllaaaGreat
