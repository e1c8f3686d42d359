/- impl.Get. -/
import Derived.Test.YtlnkhbnbcmllaaaGreatGetSpec
import Derived.Test.YtlnkhbnbcmllaaaGreatKeysLay
namespace Go.Proofs.YtlnkhbnbcmllaaaGreat
open Go.RowKit Go.Sort
theorem itx_set (its : Itms) (i : Nat) (now : Int) (h : i < its.length) (j : Nat) : itx (its.set i (itx its i, now)) j = itx its j := by
  by_cases e : i = j
  · subst e; simp [itx, h]
  · simp [itx, List.getElem?_set_ne e]
theorem itu_same (its : Itms) (i : Nat) (now : Int) (h : i < its.length) : itu (its.set i (itx its i, now)) i = now := by simp [itu, h]
theorem itu_other (its : Itms) (i : Nat) (now : Int) (j : Nat) (e : i ≠ j) : itu (its.set i (itx its i, now)) j = itu its j := by simp [itu, List.getElem?_set_ne e]
theorem sumsL_set (n : Int) (its : Itms) (i : Nat) (now : Int) (h : i < its.length) : sumsL n (its.set i (itx its i, now)) = sumsL n its := by
  apply List.ext_getElem?
  intro j
  by_cases hj : j < its.length
  · rw [sumsL_get n _ j (by simpa using hj), sumsL_get n _ j hj, itx_set its i now h j]
  · rw [List.getElem?_eq_none (by rw [sumsL_len]; simp; omega), List.getElem?_eq_none (by rw [sumsL_len]; omega)]
theorem sums_inj {n : Int} {its : Itms} (hN : (sumsL n its).Pairwise (· < ·)) {i j : Nat} (hi : i < its.length) (hj : j < its.length) (h : (sumX n (itx its i)).data.toList = (sumX n (itx its j)).data.toList) : i = j := by
  obtain ⟨_, g1⟩ := List.getElem_of_getElem? (sumsL_get n its i hi)
  obtain ⟨_, g2⟩ := List.getElem_of_getElem? (sumsL_get n its j hj)
  rcases Nat.lt_trichotomy i j with hl | hl | hl
  · have h1 := List.pairwise_iff_getElem.1 hN i j (by rw [sumsL_len]; omega) (by rw [sumsL_len]; omega) hl
    rw [g1, g2, h] at h1
    exact absurd h1 (List.lt_irrefl _)
  · exact hl
  · have h1 := List.pairwise_iff_getElem.1 hN j i (by rw [sumsL_len]; omega) (by rw [sumsL_len]; omega) hl
    rw [g1, g2, h] at h1
    exact absurd h1 (List.lt_irrefl _)
/-- 'v, ok := m[k]' of the map of items. -/
theorem wpList_look_item {ops : Array Oper} {rest : List Oper} {o : Oper} {a : Act} {Q : Exit → Act → World → Prop} (w : World) (hg : o.guard = none) (m x : Operand) (hop : o.op = Op.lookup 107 m x true) (b n : Nat) (D : DataW Unit)
    (hm : a.eval m = .map (some b)) (hown : w.ownsMap Tryz.prog 9 itemElem b n D) (s : ByteArray) (hs : s.size ≤ maxLen) (hx : a.eval x = .string s) (t : ByteArray) (u : Int) (hat : D.atKey (.string s.data.toList) (datI (⟨#[]⟩, 0)) = datI (t, u)) (hh : Bool) (hhas : Maps.has D (.string s.data.toList) = hh)
    (hK : wpList Tryz.prog ops Q rest (a.put o.dst (.tuple #[.agg #[.string t, .int .i64 u], .bool hh])) w) : wpList Tryz.prog ops Q (o :: rest) a w := by
  refine wpList_lookup_own_ok w hg m x 107 hop 9 84 keyed9 Tryz.underlying107 itemElem (zvItem w) (datI (⟨#[]⟩, 0)) [] (itemElem_mk ⟨#[]⟩ 0) b n D hm hown (.string s) _ hx (key9 s hs) ?_
  intro v ps hv
  rw [hat] at hv
  obtain rfl := itemElem_inv hv
  rw [hhas]
  exact hK
end Go.Proofs.YtlnkhbnbcmllaaaGreat
