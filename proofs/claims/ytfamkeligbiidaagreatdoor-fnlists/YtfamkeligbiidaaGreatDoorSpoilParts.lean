/- What l3Spoil does with a row of sums in a list. -/
import Derived.Test.YtfamkeligbiidaaGreatDoorBend
import Derived.Test.YtfamkeligbiidaaGreatDoorHeld
import Derived.Laws.AppendOwnNone
namespace Go.Proofs.YtfamkeligbiidaaGreatDoor
open Go.RowKit
theorem row_box_ne {W : World} {b base k : Nat} {n : Int} {v vr : Value} {xs : List Value} (hx : LBox W b n v) (hr : W.ownsRow base 9 1 vr k xs) : vr.ownBlock ≠ some b := by
  rcases hr with ⟨_, ⟨rfl, _⟩ | ⟨g, cap, cur, rfl, _, hg, _⟩⟩
  · simp [Value.ownBlock]
  · intro e
    have : g = b := by simpa [Value.ownBlock] using e
    subst this
    unfold LBox at hx
    rw [hg] at hx
    simp at hx
theorem row_rd_ne {W : World} {rb base k : Nat} {a : Option Addr} {nn cap p : Nat} {bs : List Int} {vr : Value} {xs : List Value} (hx : Rd W rb a nn cap bs p) (hr : W.ownsRow base 9 1 vr k xs) : vr.ownBlock ≠ some rb := by
  rcases hr with ⟨_, ⟨rfl, _⟩ | ⟨g, cap, cur, rfl, _, hg, _⟩⟩
  · simp [Value.ownBlock]
  · intro e
    have : g = rb := by simpa [Value.ownBlock] using e
    subst this
    have hx1 := hx.1
    rw [hg] at hx1
    simp at hx1
theorem box_rd_ne {W : World} {rb b : Nat} {a : Option Addr} {nn cap p : Nat} {bs : List Int} {n : Int} {v : Value} (hx : Rd W rb a nn cap bs p) (hl : LBox W b n v) : b ≠ rb := by
  rintro rfl
  have hx1 := hx.1
  unfold LBox at hl
  rw [hl] at hx1
  simp at hx1
/-- append of a row of strings onto an own one, as a step of a region. -/
theorem wp_append_rows {o : Oper} {a : Act} {w : World} {K : Act → World → Prop} {Q : Exit → Act → World → Prop} (s x : Operand)
    (ho : o.op = .call { callee := .builtin .append, args := #[s, x], argTypes := #[25, 25] }) (B : Nat) (v : Value) (n : Nat) (xs : List Value) (hs : a.eval s = v) (hown : w.ownsRow B 9 1 v n xs)
    (b2 : Nat) (v2 : Value) (k : Nat) (ys : List Value) (hx : a.eval x = v2) (hrow : w.ownsRow b2 9 1 v2 k ys) (h1 : ∀ u ∈ ys, u.oneCell' = true) (hlen : n + k ≤ 100000) (hB : B ≤ w.heap.size)
    (h : ∀ v' w', w'.ownsRow B 9 1 v' (n + k) (xs ++ ys) → w.grownBy w' v.ownBlock → K (a.put o.dst v') w') : o.wp Tryz.prog a w K Q := by
  obtain ⟨i0, hi, hz0, hz1, hz2⟩ := info_parts Tryz.info9
  have hrow0 := hrow
  rcases hrow with ⟨hl, ⟨rfl, rfl⟩ | ⟨g, cap, cur, rfl, hb, hg, hn, hm, hsz, hxs⟩⟩
  · obtain rfl : ys = [] := List.eq_nil_of_length_eq_zero (by simpa using hl)
    have hrun := run_append_owned_none (P := Tryz.prog) (w := w) B 25 o.type 9 i0 1 Tryz.underlying25 hi v n xs hown
    unfold Oper.wp
    simp [execOp, ho, resolve, invoke, builtin, hs, hx, hrun, Result.andThen]
    exact h v w (by simpa using hown) ⟨rfl, rfl, rfl, Nat.le_refl _, fun _ _ _ => rfl⟩
  · refine wp_append_own w s x 25 ho B 9 i0 (.string ⟨#[]⟩) 1 16 Tryz.underlying25 hi hz0 hz1 hz2 rfl (by decide) v n xs hs hown ⟨g, 0, none⟩ k cap ys hx hl (fun j u hj => ?_) h1 (by unfold maxLen; omega) (by omega) hB ?_
    · have hjl := (List.getElem?_eq_some_iff.1 hj).1
      have hc := hrow0.cellAt j (by omega)
      have e : (⟨g, 0, none⟩ : Addr).add j = ⟨g, j, none⟩ := by simp [Addr.add]; intro h; exact h.symm
      rw [e, hc, hj]
    · intro v' w' ho' hg' _
      exact h v' w' ho' hg'
end Go.Proofs.YtfamkeligbiidaaGreatDoor
