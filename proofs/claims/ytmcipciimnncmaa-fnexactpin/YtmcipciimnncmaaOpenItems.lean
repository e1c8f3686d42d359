/- A slice of items that came in, as a list. -/
import Derived.Test.YtmcipciimnncmaaItems
import Derived.Lib.SmallJoins
import Derived.Below
import Derived.DataElems
import Derived.WalkKit
import Derived.ProofKit
import Derived.OpenShut
import Derived.ShutString
import Derived.ChangeOld
import Derived.SliceStrings
namespace Go.Proofs.Ytmcipciimnncmaa
open Go.ChangeShapes Go.WideShapes Go.ChangeAt Go.RowKit
theorem list_of {α : Type} (d : α) (Q : Nat → α → Prop) : ∀ n : Nat, (∀ i, i < n → ∃ p, Q i p) → ∃ l : List α, l.length = n ∧ ∀ i, i < n → Q i (l.getD i d)
  | 0, _ => ⟨[], rfl, fun i hi => absurd hi (by omega)⟩
  | n + 1, h => by
    obtain ⟨l, hl, hq⟩ := list_of d Q n fun i hi => h i (by omega)
    obtain ⟨p, hp⟩ := h n (by omega)
    refine ⟨l ++ [p], by simp [hl], fun i hi => ?_⟩
    rcases Nat.lt_or_eq_of_le (Nat.le_of_lt_succ hi) with h1 | h1
    · rw [List.getD_eq_getElem?_getD, List.getElem?_append_left (by omega), ← List.getD_eq_getElem?_getD]
      exact hq i h1
    · subst hl
      subst h1
      simpa using hp
theorem cellsItem : Try.prog.cellsOf 79 = 2 := by kernel_rfl
theorem cells9 : Try.prog.cellsOf 9 = 1 := by kernel_rfl
theorem cells3 : Try.prog.cellsOf 3 = 1 := by kernel_rfl
set_option maxRecDepth 100000 in
theorem open_items {H : Type} {enc : TypeId × Value → H} {W : World} {base : Nat} {spare : Nat → Bool} {held : Bool} {fuel : Nat} {v : Value} {x : DataW H × List MemPlace} (h : DataW.trod enc Try.prog W base spare held fuel 22 [v] = some x) :
    ∃ its : Itms, RdI W v its ∧ its.length ≤ maxLen ∧ ∀ i, (itx its i).size ≤ maxLen := by
  rcases DataW.trod_slice Try.underlying22 h with ⟨hcs, _⟩ | ⟨a, len, cap, elems, rest, n, _, hcs, _, _, hl, hm, hlen, hel, _, _⟩
  · simp at hcs
    subst hcs
    exact ⟨[], ⟨none, 0, rfl, fun i hi => absurd hi (by simp)⟩, by simp, fun i => by simp [itx]⟩
  · simp at hcs
    subst hcs
    have each : ∀ i, i < len → ∃ p : ByteArray × Int, p.1.size ≤ maxLen ∧ W.cell? (a.add (i * 2)) = some (.string p.1) ∧ W.cell? (a.add (i * 2 + 1)) = some (.int .i64 p.2) := by
      intro i hi
      have h1 := hel i hi
      rw [cellsItem, List.getElem?_eq_getElem (by omega), Option.bind_eq_some_iff] at h1
      obtain ⟨cs, h2, h3⟩ := h1
      obtain ⟨hc1, hc2⟩ : cs.length = 2 ∧ ∀ j, j < 2 → W.cell? ((a.add (i * 2)).add j) = cs[j]? := by
        exact (World.cells?_some h2).2
      obtain ⟨xs, m, _, _, _, hxl, hf⟩ := DataW.trod_struct Try.underlying79 h3
      match cs, hc1 with
      | [c0, c1], _ =>
        match xs, hxl with
        | [y0, y1], _ =>
          have g0 : DataW.trod enc Try.prog W base spare held m 9 [c0] = some y0 := by simpa [cells9] using hf 0 _ rfl
          have g1 : DataW.trod enc Try.prog W base spare held m 3 [c1] = some y1 := by simpa [cells3] using hf 1 _ rfl
          obtain ⟨s, e0, _, hw⟩ := DataW.trod_string Try.underlying9 g0
          obtain ⟨u, e1, _, _⟩ := DataW.trod_int Try.underlying3 g1
          simp at e0 e1
          subst e0 e1
          refine ⟨(s, u), hw, ?_, ?_⟩
          · have := hc2 0 (by omega)
            simpa [Addr.add] using this
          · have := hc2 1 (by omega)
            rw [Addr.add_add] at this
            simpa using this
    obtain ⟨its, hn, hq⟩ := list_of (ByteArray.empty, (0 : Int)) _ len each
    subst hn
    refine ⟨its, ⟨some a, cap, rfl, fun i hi => ?_⟩, Nat.le_trans hl hm, fun i => ?_⟩
    · obtain ⟨b, off, spot⟩ := a
      obtain ⟨_, q1, q2⟩ := hq i hi
      have hspot : spot = none := by
        have := (hq 0 (by omega)).2.1
        simpa [Addr.add] using World.cell?_spot this
      subst hspot
      have ea : ∀ j, (⟨b, off, none⟩ : Addr).add j = ⟨b, off + j, none⟩ := fun j => by simp [Addr.add]
      rw [ea] at q1 q2
      exact ⟨b, off, rfl, World.block_lt_of_cell? W _ q1, q1, by rw [Nat.add_assoc]; exact q2⟩
    · by_cases hi : i < its.length
      · exact (hq i hi).1
      · have : itx its i = ByteArray.empty := by simp [itx, hi]
        rw [this]; simp
end Go.Proofs.Ytmcipciimnncmaa
