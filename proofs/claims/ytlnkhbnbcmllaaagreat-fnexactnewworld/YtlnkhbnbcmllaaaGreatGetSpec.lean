/- spec.Get: looked for. -/
import Derived.Test.YtlnkhbnbcmllaaaGreatStoreCopy
namespace Go.Proofs.YtlnkhbnbcmllaaaGreat
open Go.RowKit
/-- A store in rows of its own. -/
structure StoreOwn (w : World) (B : Nat) (vi vp : Value) (its : Itms) (ts : List ByteArray) : Prop where
  items : w.ownsRow B 84 2 vi its.length (cellsI its)
  pins : w.ownsRow B 9 1 vp ts.length (ts.map Value.string)
  apart : ∀ g, vi.ownBlock = some g → vp.ownBlock ≠ some g
theorem StoreOwn.none (w : World) (B : Nat) : StoreOwn w B (.slice .none 0 0) (.slice .none 0 0) [] [] := ⟨World.ownsRow_nil _ _ _ _, World.ownsRow_nil _ _ _ _, fun g e => by simp [Value.ownBlock] at e⟩
theorem StoreOwn.below {w w' : World} {B : Nat} {vi vp : Value} {its : Itms} {ts : List ByteArray} (h : StoreOwn w B vi vp its ts) (hb : Below w.heap.size w w') : StoreOwn w' B vi vp its ts :=
  ⟨h.items.kept (grown_of_below hb) (by cases hv : vi.ownBlock <;> simp), Below.row hb h.pins, h.apart⟩
theorem StoreOwn.base {w : World} {B B' : Nat} {vi vp : Value} {its : Itms} {ts : List ByteArray} (h : StoreOwn w B vi vp its ts) (hb : B' ≤ B) : StoreOwn w B' vi vp its ts := ⟨ownsRow_base2 h.items hb, ownsRow_base2 h.pins hb, h.apart⟩
theorem StoreOwn.kept {w w' : World} {B k : Nat} {vi vp : Value} {its : Itms} {ts : List ByteArray} (h : StoreOwn w B vi vp its ts) (hg : w.grownBy w' (some k)) (hk : k < B) : StoreOwn w' B vi vp its ts :=
  ⟨h.items.kept hg (.inr fun e => by have := (h.items.lt _ e).1; omega), h.pins.kept hg (.inr fun e => by have := (h.pins.lt _ e).1; omega), h.apart⟩
theorem StoreOwn.rdi {w : World} {B : Nat} {vi vp : Value} {its : Itms} {ts : List ByteArray} (h : StoreOwn w B vi vp its ts) : RdI w vi its := by
  have hr := h.items
  rcases h.items with ⟨_, ⟨rfl, h0⟩ | ⟨g, cap, cur, rfl, hb, hg, _⟩⟩
  · have : its = [] := List.eq_nil_of_length_eq_zero h0
    subst this
    exact ⟨_, 0, rfl, fun i hi => absurd hi (by simp)⟩
  · refine ⟨_, cap, rfl, fun i hi => ⟨g, 0, rfl, (Array.getElem?_eq_some_iff.1 hg).1, ?_, ?_⟩⟩
    · rw [Nat.zero_add, hr.cellAt _ (by omega)]; exact (cellsI_at its i hi).1
    · rw [Nat.zero_add, hr.cellAt _ (by omega)]; exact (cellsI_at its i hi).2
/-- What Get answers. -/
def GetOk (wd room : Int) (its : Itms) (ts : List ByteArray) (s : ByteArray) (now : Int) : Prop := ValidSt wd room its ts ∧ (0 ≤ now ∧ now ≤ 1000000) ∧ ∃ i, i < its.length ∧ sumX wd (itx its i) = s
def GetR (wd room : Int) (its : Itms) (ts : List ByteArray) (s : ByteArray) (now : Int) (x : ByteArray) (wd' room' : Int) (its' : Itms) (ts' : List ByteArray) (b : Bool) : Prop :=
  (x = ⟨#[]⟩ ∧ wd' = 0 ∧ room' = 0 ∧ its' = [] ∧ ts' = [] ∧ b = false ∧ ¬ GetOk wd room its ts s now) ∨
  (b = true ∧ wd' = wd ∧ room' = room ∧ ts' = ts ∧ GetOk wd room its ts s now ∧ ∃ i, i < its.length ∧ sumX wd (itx its i) = s ∧ x = itx its i ∧ its' = its.set i (itx its i, now))
theorem cell_drew (X : World) (p : Addr) : X.drew.cell? p = X.cell? p := rfl
theorem cellsI_set (its : Itms) (i : Nat) (now : Int) (h : i < its.length) : (cellsI its).set (i * 2 + 1) (.int .i64 now) = cellsI (its.set i (itx its i, now)) := by
  induction its generalizing i with
  | nil => simp at h
  | cons p r ih =>
    cases i with
    | zero => simp [cellsI, itx]
    | succ i =>
      have := ih i (by simpa using h)
      have e : (i + 1) * 2 + 1 = i * 2 + 1 + 1 + 1 := by omega
      rw [e]
      simpa [cellsI, itx] using this
end Go.Proofs.YtlnkhbnbcmllaaaGreat
