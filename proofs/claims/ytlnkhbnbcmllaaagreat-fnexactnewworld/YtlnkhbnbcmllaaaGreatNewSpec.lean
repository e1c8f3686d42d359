/- spec.NewFetch. -/
import Derived.Test.YtlnkhbnbcmllaaaGreatPinSpec
import Derived.Test.YtlnkhbnbcmllaaaGreatFetchOwn
namespace Go.Proofs.YtlnkhbnbcmllaaaGreat
open Go.RowKit
def newp : Pr := ⟨0, 0, -1, ⟨#[]⟩, []⟩
def newQ (n : Nat) : PV := List.replicate n (newp, .slice none 0 0)
theorem newQ_len (n : Nat) : (newQ n).length = n := by simp [newQ]
theorem newQ_succ (n : Nat) : cellsQ (newQ (n + 1)) = cellsQ (newQ n) ++ [.int .i64 0, .int .i64 0, .int .i64 (-1), .string ⟨#[]⟩, .slice none 0 0] := by
  unfold newQ cellsQ
  rw [List.replicate_succ', List.flatMap_append]
  simp [newp]
theorem newQ_at (n i : Nat) (h : i < n) : qp (newQ n) i = newp ∧ qv (newQ n) i = .slice none 0 0 := by simp [qp, qv, newQ, h]
theorem newQ_own {w : World} {B n : Nat} {v : Value} (h : w.ownsRow B 81 5 v n (cellsQ (newQ n))) : PeersOwn w B v (newQ n) := by
  refine ⟨by rw [newQ_len]; exact h, fun i hi => ?_, fun i hi g e => ?_, fun i j hi hj _ g e => ?_⟩
  · rw [newQ_len] at hi
    rw [(newQ_at n i hi).1, (newQ_at n i hi).2]
    exact World.ownsRow_nil _ _ _ _
  · rw [newQ_len] at hi
    rw [(newQ_at n i hi).2] at e
    simp [Value.ownBlock] at e
  · rw [newQ_len] at hi
    rw [(newQ_at n i hi).2] at e
    simp [Value.ownBlock] at e
theorem newQ_blk {n : Nat} {v : Value} {g : Nat} (h : PBlk v (newQ n) g) : v.ownBlock = some g := by
  rcases h with h | ⟨i, hi, h⟩
  · exact h
  · rw [newQ_len] at hi
    rw [(newQ_at n i hi).2] at h
    simp [Value.ownBlock] at h
/-- What NewFetch answers. -/
def NewR (wd room : Int) (its : Itms) (ts : List ByteArray) (name : ByteArray) (np : Int) (nm' : ByteArray) (wd' room' : Int) (its' : Itms) (ts' : List ByteArray) (n' : Nat) : Prop :=
  ∃ w1 r1 i1 t1 c, PinR wd room its ts name w1 r1 i1 t1 c ∧
    ((c = 0 ∧ (1 ≤ np ∧ np ≤ 5) ∧ nm' = name ∧ wd' = w1 ∧ room' = r1 ∧ its' = i1 ∧ ts' = t1 ∧ (n' : Int) = np) ∨
     (¬ (c = 0 ∧ (1 ≤ np ∧ np ≤ 5)) ∧ nm' = ⟨#[]⟩ ∧ wd' = 0 ∧ room' = 0 ∧ its' = [] ∧ ts' = [] ∧ n' = 0))
abbrev fzero : Array Value := #[.string ⟨#[]⟩, .int .i64 0, .bool false, .int .i64 0, .int .i64 0, .slice none 0 0, .slice none 0 0, .slice none 0 0]
end Go.Proofs.YtlnkhbnbcmllaaaGreat
