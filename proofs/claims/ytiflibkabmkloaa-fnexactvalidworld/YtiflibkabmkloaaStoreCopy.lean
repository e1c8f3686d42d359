/- spec.l4Copy: a store in rows of its own. -/
import Derived.Test.YtiflibkabmkloaaStoreAt
import Derived.Test.YtiflibkabmkloaaShelfStore
import Derived.Laws.AppendOwnNone
namespace Go.Proofs.Ytiflibkabmkloaa
open Go.RowKit
theorem Blk.belowAt {W W' : World} {b B : Nat} {T : TypeId} {cs : Array Value} (h : Blk W b T cs) (hb : Below B W W') (hlt : b < B) : Blk W' b T cs := (hb.block b hlt).trans h
theorem cellsI_one (its : Itms) : ∀ u ∈ cellsI its, u.oneCell' = true := by
  intro u hu
  unfold cellsI at hu
  rw [List.mem_flatMap] at hu
  obtain ⟨p, _, hp⟩ := hu
  simp only [List.mem_cons, List.not_mem_nil, or_false] at hp
  rcases hp with rfl | rfl <;> rfl
/-- append of items onto an own row of none. -/
theorem append_items {ops : Array Oper} {rest : List Oper} {o : Oper} {a : Act} {w : World} {Q : Exit → Act → World → Prop} (hgd : o.guard = none) (s x : Operand)
    (ho : o.op = .call { callee := .builtin .append, args := #[s, x], argTypes := #[31, 31] }) (B : Nat) (v : Value) (hs : a.eval s = v) (hown : w.ownsRow B 88 2 v 0 [])
    (b2 : Nat) (v2 : Value) (its : Itms) (hx : a.eval x = v2) (hrow : OwnI w b2 v2 its) (hlen : its.length ≤ 1048576) (hB : B ≤ w.heap.size)
    (h : ∀ v' w', w'.ownsRow B 88 2 v' its.length (cellsI its) → Below B w w' → wpList Try.prog ops Q rest (a.put o.dst v') w') : wpList Try.prog ops Q (o :: rest) a w := by
  obtain ⟨i0, hi, hz0, hz1, hz2⟩ := info_parts Try.infoItem
  obtain ⟨g, rfl, _, hG⟩ := hrow
  refine wpList_append_own w hgd s x 31 ho B 88 i0 (.agg #[.string ⟨#[]⟩, .int .i64 0]) 2 24 Try.underlying31 hi hz0 hz1 hz2 rfl (by decide) v 0 [] hs hown ⟨g, 0, none⟩ its.length its.length (cellsI its) hx (cellsI_len its) (fun j u hj => ?_) (cellsI_one its) (by unfold maxLen; omega) (by omega) hB ?_
  · have e : (⟨g, 0, none⟩ : Addr).add j = ⟨g, j, none⟩ := by simp [Addr.add]; intro h; exact h.symm
    rw [e, hG.cell]
    simpa using hj
  · intro v' w' ho' hg' _
    refine h v' w' ?_ ((Below.refl B w).grown hg' hB (fun g e => (hown.lt g e).1))
    rw [Nat.zero_add, List.nil_append] at ho'
    exact ho'
/-- append of a row of texts onto an own row of none. -/
theorem append_texts {ops : Array Oper} {rest : List Oper} {o : Oper} {a : Act} {w : World} {Q : Exit → Act → World → Prop} (hgd : o.guard = none) (s x : Operand)
    (ho : o.op = .call { callee := .builtin .append, args := #[s, x], argTypes := #[23, 23] }) (B : Nat) (v : Value) (hs : a.eval s = v) (hown : w.ownsRow B 9 1 v 0 [])
    (b2 : Nat) (v2 : Value) (ts : List ByteArray) (hx : a.eval x = v2) (hrow : w.ownsRow b2 9 1 v2 ts.length (ts.map Value.string)) (hlen : ts.length ≤ 1048576) (hB : B ≤ w.heap.size)
    (h : ∀ v' w', w'.ownsRow B 9 1 v' ts.length (ts.map Value.string) → Below B w w' → wpList Try.prog ops Q rest (a.put o.dst v') w') : wpList Try.prog ops Q (o :: rest) a w := by
  obtain ⟨i0, hi, hz0, hz1, hz2⟩ := info_parts Try.info9
  have hrow0 := hrow
  rcases hrow with ⟨hl, ⟨rfl, h0⟩ | ⟨g, cap, cur, rfl, hb, hg, hn, hm, hsz, hxs⟩⟩
  · have : ts = [] := List.eq_nil_of_length_eq_zero h0
    subst this
    exact wpList_append_own_none hgd s x 23 ho B 9 i0 1 Try.underlying23 hi v 0 [] hs hown hx (h v w hown (Below.refl _ _))
  · refine wpList_append_own w hgd s x 23 ho B 9 i0 (.string ⟨#[]⟩) 1 16 Try.underlying23 hi hz0 hz1 hz2 rfl (by decide) v 0 [] hs hown ⟨g, 0, none⟩ ts.length cap (ts.map Value.string) hx hl (fun j u hj => ?_) (by simp [Value.oneCell']) (by unfold maxLen; omega) (by omega) hB ?_
    · have hjl := (List.getElem?_eq_some_iff.1 hj).1
      have hc := hrow0.cellAt j (by simp at hjl; omega)
      have e : (⟨g, 0, none⟩ : Addr).add j = ⟨g, j, none⟩ := by simp [Addr.add]; intro h; exact h.symm
      rw [e, hc, hj]
    · intro v' w' ho' hg' _
      refine h v' w' ?_ ((Below.refl B w).grown hg' hB (fun g e => (hown.lt g e).1))
      rw [Nat.zero_add, List.nil_append] at ho'
      exact ho'
theorem row_any {w : World} {base n size : Nat} {e : TypeId} {v : Value} {xs : List Value} (h : w.ownsRow base e size v n xs) : ∃ a cap, v = .slice a n cap := by
  rcases h with ⟨_, ⟨rfl, rfl⟩ | ⟨g, cap, cur, rfl, hb, _⟩⟩
  · exact ⟨none, 0, rfl⟩
  · exact ⟨_, cap, rfl⟩
end Go.Proofs.Ytiflibkabmkloaa
