/- Rows of items of their own, read. -/
import Derived.Test.YtlnkhbnbcmllaaaGreatGetSpec
import Derived.Test.YtlnkhbnbcmllaaaGreatStoreCopyR
namespace Go.Proofs.YtlnkhbnbcmllaaaGreat
open Go.RowKit
theorem rdi_row {w : World} {B : Nat} {v : Value} {its : Itms} (h : w.ownsRow B 84 2 v its.length (cellsI its)) : RdI w v its := StoreOwn.rdi (w := w) (B := B) (vp := .slice none 0 0) (ts := []) ⟨h, World.ownsRow_nil _ _ _ _, fun _ _ e => by cases e⟩
theorem row_below {w w' : World} {B n size : Nat} {e : TypeId} {v : Value} {xs : List Value} (h : w.ownsRow B e size v n xs) (hb : Below w.heap.size w w') : w'.ownsRow B e size v n xs := Below.row hb h
theorem own_row {w : World} {B : Nat} {v : Value} {its : Itms} (h : OwnI w B v its) (hl : its.length ≤ 1048576) : w.ownsRow B 84 2 v its.length (cellsI its) := by
  obtain ⟨g, rfl, hg, hG⟩ := h
  exact ⟨cellsI_len its, .inr ⟨g, its.length, (cellsI its).toArray, rfl, hg, hG, Nat.le_refl _, by unfold maxLen; omega, by simp [cellsI_len], by show List.take (its.length * 2) (cellsI its).toArray.toList = _; rw [← cellsI_len, List.toList_toArray, List.take_length]⟩⟩
end Go.Proofs.YtlnkhbnbcmllaaaGreat
