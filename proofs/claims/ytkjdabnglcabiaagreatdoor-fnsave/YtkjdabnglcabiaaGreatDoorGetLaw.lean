import Derived.Test.YtkjdabnglcabiaaGreatDoorPutMath
import Derived.Test.YtkjdabnglcabiaaGreatDoorMark2
/- laws.markStore and laws.heldStore. -/
namespace Go.Proofs.YtkjdabnglcabiaaGreatDoor
open Go.RowKit
theorem cellsI_set2 (its : Itms) (i : Nat) (t : ByteArray) (u : Int) (h : i < its.length) : ((cellsI its).set (i * 2) (.string t)).set (i * 2 + 1) (.int .i64 u) = cellsI (its.set i (t, u)) := by
 induction its generalizing i with
 | nil => simp at h
 | cons p r ih =>
  cases i with
  | zero => simp [cellsI]
  | succ i =>
   have := ih i (by simpa using h)
   have e : (i + 1) * 2 = i * 2 + 1 + 1 := by omega
   rw [e]
   simpa [cellsI] using this
end Go.Proofs.YtkjdabnglcabiaaGreatDoor
/- What laws.FnExactGet holds against each other. -/
namespace Go.Proofs.YtkjdabnglcabiaaGreatDoor
open Go.RowKit
theorem OwnI.row {w : World} {B : Nat} {v : Value} {its : Itms} (h : OwnI w B v its) (hl : its.length ≤ 1048576) : w.ownsRow B 59 2 v its.length (cellsI its) := by
 obtain ⟨g, rfl, hg, hG⟩ := h
 exact ⟨cellsI_len its, .inr ⟨g, its.length, (cellsI its).toArray, rfl, hg, hG, Nat.le_refl _, by unfold maxLen; omega, by simp [cellsI_len], by show List.take (its.length * 2) (cellsI its).toArray.toList = _; rw [← cellsI_len, List.toList_toArray, List.take_length]⟩⟩
theorem row_same {w w' : World} {B n size : Nat} {e : TypeId} {v : Value} {xs : List Value} (h : w.ownsRow B e size v n xs) (hs : ∀ g, v.ownBlock = some g → w'.heap[g]? = w.heap[g]?) : w'.ownsRow B e size v n xs := by
 obtain ⟨h1, h2⟩ := h
 refine ⟨h1, ?_⟩
 rcases h2 with h2 | ⟨g, cap, cur, e1, hb, hg, r⟩
 ·exact .inl h2
 ·exact .inr ⟨g, cap, cur, e1, hb, (hs g (by rw [e1]; rfl)).trans hg, r⟩
theorem StoreOwn.same {w w' : World} {B : Nat} {vi vp : Value} {its : Itms} {ts : List ByteArray} (h : StoreOwn w B vi vp its ts) (h1 : ∀ g, vi.ownBlock = some g → w'.heap[g]? = w.heap[g]?) (h2 : ∀ g, vp.ownBlock = some g → w'.heap[g]? = w.heap[g]?) : StoreOwn w' B vi vp its ts := ⟨row_same h.items h1, row_same h.pins h2, h.apart⟩
theorem GetR.same {wd room : Int} {its : Itms} {ts : List ByteArray} {s : ByteArray} {now : Int} {x y : ByteArray} {w1 r1 w2 r2 : Int} {i1 i2 : Itms} {t1 t2 : List ByteArray} {b1 b2 : Bool} (h : GetR wd room its ts s now x w1 r1 i1 t1 b1) (k : GetR wd room its ts s now y w2 r2 i2 t2 b2) : x = y ∧ w1 = w2 ∧ r1 = r2 ∧ i1 = i2 ∧ t1 = t2 ∧ b1 = b2 := by
 rcases h with ⟨rfl, rfl, rfl, rfl, rfl, rfl, hn⟩ | ⟨rfl, rfl, rfl, rfl, ho, i, hi, hs, rfl, rfl⟩ <;> rcases k with ⟨rfl, rfl, rfl, rfl, rfl, rfl, kn⟩ | ⟨rfl, rfl, rfl, rfl, ko, j, hj, ks, rfl, rfl⟩
 ·exact ⟨rfl, rfl, rfl, rfl, rfl, rfl⟩
 ·exact absurd ko hn
 ·exact absurd ho kn
 ·have e : i = j := sums_inj (sums_asc ho.1.each) hi hj (by rw [hs, ks])
  subst e
  exact ⟨rfl, rfl, rfl, rfl, rfl, rfl⟩
theorem GetR.len {wd room : Int} {its : Itms} {ts : List ByteArray} {s : ByteArray} {now : Int} {x : ByteArray} {w1 r1 : Int} {i1 : Itms} {t1 : List ByteArray} {b1 : Bool} (h : GetR wd room its ts s now x w1 r1 i1 t1 b1) : i1.length ≤ its.length ∧ t1.length ≤ ts.length := by
 rcases h with ⟨_, _, _, rfl, rfl, _⟩ | ⟨_, _, _, rfl, _, i, _, _, _, rfl⟩
 ·simp
 ·simp
end Go.Proofs.YtkjdabnglcabiaaGreatDoor
