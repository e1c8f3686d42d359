/- spec.l4Add: a text put into an ascending row. -/
import Derived.Test.YtlnkhbnbcmllaaaGreatUnpinSpec
namespace Go.Proofs.YtlnkhbnbcmllaaaGreat
open Go.RowKit
/-- append of cells that lie somewhere onto an own row, as a step of a region. -/
theorem wp_append_cells {o : Oper} {a : Act} {w : World} {K : Act → World → Prop} {Q : Exit → Act → World → Prop} (s x : Operand)
    (ho : o.op = .call { callee := .builtin .append, args := #[s, x], argTypes := #[23, 23] }) (B : Nat) (v : Value) (n : Nat) (xs : List Value) (hs : a.eval s = v) (hown : w.ownsRow B 9 1 v n xs)
    (ad : Addr) (k c : Nat) (ys : List Value) (hx : a.eval x = .slice (some ad) k c) (hl : ys.length = k) (hc : ∀ j u, ys[j]? = some u → w.cell? (ad.add j) = some u) (h1 : ∀ u ∈ ys, u.oneCell' = true) (hlen : n + k ≤ 2097152) (hB : B ≤ w.heap.size)
    (h : ∀ v' w', w'.ownsRow B 9 1 v' (n + k) (xs ++ ys) → Below B w w' → w.grownBy w' v.ownBlock → K (a.put o.dst v') w') : o.wp Tryz.prog a w K Q := by
  obtain ⟨i0, hi, hz0, hz1, hz2⟩ := info_parts Tryz.info9
  refine wp_append_own w s x 23 ho B 9 i0 (.string ⟨#[]⟩) 1 16 Tryz.underlying23 hi hz0 hz1 hz2 rfl (by decide) v n xs hs hown ad k c ys hx (by omega) hc h1 (by unfold maxLen; omega) (by omega) hB ?_
  intro v' w' ho' hg' _
  exact h v' w' ho' ((Below.refl B w).grown hg' hB (fun g e => (hown.lt g e).1)) hg'
/-- append of nothing. -/
theorem wp_append_nil {o : Oper} {a : Act} {w : World} {K : Act → World → Prop} {Q : Exit → Act → World → Prop} (s x : Operand)
    (ho : o.op = .call { callee := .builtin .append, args := #[s, x], argTypes := #[23, 23] }) (B : Nat) (v : Value) (n : Nat) (xs : List Value) (hs : a.eval s = v) (hown : w.ownsRow B 9 1 v n xs)
    (hx : a.eval x = .slice none 0 0) (h : K (a.put o.dst v) w) : o.wp Tryz.prog a w K Q := by
  obtain ⟨i0, hi, hz0, hz1, hz2⟩ := info_parts Tryz.info9
  have hrun := run_append_owned_none (P := Tryz.prog) (w := w) B 23 o.type 9 i0 1 Tryz.underlying23 hi v n xs hown
  unfold Oper.wp
  simp [execOp, ho, resolve, invoke, builtin, hs, hx, hrun, Result.andThen]
  exact h
theorem addr_add (g f j : Nat) : (⟨g, f, none⟩ : Addr).add j = ⟨g, f + j, none⟩ := by simp [Addr.add]
theorem part_cells {w : World} {b2 g ca : Nat} {ts : List ByteArray} (hrow : w.ownsRow b2 9 1 (.slice (some ⟨g, 0, none⟩) ts.length ca) ts.length (ts.map Value.string)) (f m : Nat) (j : Nat) (u : Value) (h : (((ts.drop f).take m).map Value.string)[j]? = some u) :
    w.cell? ((⟨g, f, none⟩ : Addr).add j) = some u := by
  have hj := (List.getElem?_eq_some_iff.1 h).1
  simp at hj
  have hc := hrow.cellAt (f + j) (by omega)
  have e : (⟨g, f, none⟩ : Addr).add j = ⟨g, f + j, none⟩ := by simp [Addr.add]
  rw [e, hc]
  rw [List.getElem?_map, List.getElem?_take, if_pos (by omega), List.getElem?_drop] at h
  rw [List.getElem?_map]
  exact h
end Go.Proofs.YtlnkhbnbcmllaaaGreat
