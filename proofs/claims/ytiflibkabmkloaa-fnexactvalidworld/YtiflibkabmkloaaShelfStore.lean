/- (*shelf).store: the shelf as a store, in memory of its own. -/
import Derived.Test.YtiflibkabmkloaaKeysOk
import Derived.Test.YtiflibkabmkloaaStoreTo
import Derived.Deep.AppendLies
namespace Go.Proofs.Ytiflibkabmkloaa
open Go.RowKit Go.Sort
theorem itemElem_inv {v : Value} {t : ByteArray} {u : Int} {ps : List MemPlace} (h : itemElem v = some (datI (t, u), ps)) : v = .agg #[.string t, .int .i64 u] := by
  unfold itemElem at h
  split at h
  · rename_i cs
    split at h
    · rename_i t' u' e
      simp only [datI, Option.some.injEq, Prod.mk.injEq, DataW.agg.injEq, List.cons.injEq, DataW.lit.injEq, Lit.string.injEq, Lit.int.injEq, true_and, and_true] at h
      obtain ⟨⟨h1, h2⟩, _⟩ := h
      have e1 : t' = t := text_eq (by rw [ByteArray.toList_eq, ByteArray.toList_eq]; exact h1)
      subst e1 h2
      have : cs = #[Value.string t', Value.int .i64 u'] := by
        apply Array.ext'
        exact e
      rw [this]
    · cases h
  · cases h
theorem zvItem (w : World) : (zeroValue 88).run Try.prog w = .ok (.agg #[.string ⟨#[]⟩, .int .i64 0]) w := by kernel_rfl
/-- 'm[k]' of the map of items. -/
theorem wpList_lookup_item {ops : Array Oper} {rest : List Oper} {o : Oper} {a : Act} {Q : Exit → Act → World → Prop} (w : World) (hg : o.guard = none) (m x : Operand) (hop : o.op = Op.lookup 97 m x false) (b n : Nat) (D : DataW Unit)
    (hm : a.eval m = .map (some b)) (hown : w.ownsMap Try.prog 9 itemElem b n D) (s : ByteArray) (hs : s.size ≤ maxLen) (hx : a.eval x = .string s) (t : ByteArray) (u : Int) (hat : ∀ z, D.atKey (.string s.data.toList) z = datI (t, u))
    (hK : wpList Try.prog ops Q rest (a.put o.dst (.agg #[.string t, .int .i64 u])) w) : wpList Try.prog ops Q (o :: rest) a w := by
  refine wpList_plain hg fun K' hK' => ?_
  obtain ⟨v, ps, hrun, hv⟩ := hown.lookup keyed9 Try.underlying97 (zvItem w) (itemElem_mk ⟨#[]⟩ 0) (key9 s hs)
  rw [hat] at hv
  obtain rfl := itemElem_inv hv
  unfold Oper.wp
  simp [execOp, hop, hm, hx, hrun, Result.andThen]
  exact hK' _ _ hK
theorem ownsRow_base2 {w : World} {base base' size n : Nat} {e : TypeId} {v : Value} {xs : List Value} (h : w.ownsRow base e size v n xs) (hb : base' ≤ base) : w.ownsRow base' e size v n xs := by
  obtain ⟨h1, h2⟩ := h
  refine ⟨h1, ?_⟩
  rcases h2 with h2 | ⟨g, cap, cur, e1, hg, r⟩
  · exact .inl h2
  · exact .inr ⟨g, cap, cur, e1, Nat.le_trans hb hg, r⟩
theorem grown_refl2 (A : World) (o : Option Nat) : A.grownBy A o := ⟨rfl, rfl, rfl, Nat.le_refl _, fun _ _ _ => rfl⟩
/-- What an append into a store's row of items leaves. -/
theorem item_stored {W w6 : World} {n₀ tb k m : Nat} {v v' : Value} {xs ys : List Value} {tmp : Obj} {T : TypeId} {cs : Array Value} (hB : Blk W tb T cs) (hrow : W.ownsRow n₀ 88 2 v k xs) (htb : tb < n₀) (hown' : w6.ownsRow n₀ 88 2 v' m ys) (hgrow : (W.alloc tmp).grownBy w6 v.ownBlock) :
    Blk w6 tb T cs ∧ (w6.setCell ⟨tb, 2, none⟩ v').ownsRow n₀ 88 2 v' m ys ∧ ∀ A : World, A.grownBy W (some tb) → A.heap.size = n₀ → A.grownBy (w6.setCell ⟨tb, 2, none⟩ v') (some tb) := by
  have hlt : ∀ g, v.ownBlock = some g → n₀ ≤ g := fun g e => (hrow.lt g e).1
  have hlt' : ∀ g, v'.ownBlock = some g → n₀ ≤ g := fun g e => (hown'.lt g e).1
  refine ⟨(hB.alloc tmp).kept hgrow (fun e => by have := hlt tb e.symm; omega), hown'.kept (grownBy_setCellAt w6 tb 2 v') (.inr fun e => by have := hlt' tb e; omega), fun A hA hn => ?_⟩
  exact grownBy_trans (grownBy_trans (grownBy_trans hA (World.grownBy_alloc W tmp none) (fun g e => by cases e)) hgrow (fun g e => .inr (by have := hlt g e; omega))) (grownBy_setCellAt w6 tb 2 v') (fun g e => .inl (by cases e; rfl))
theorem two_new (w : World) (x y : Value) (t : TypeId) : ∀ j u, [x, y][j]? = some u → (w.alloc (.cells #[x, y] t)).cell? ((⟨w.heap.size, 0, none⟩ : Addr).add j) = some u := by
  intro j u hj
  have e : (⟨w.heap.size, 0, none⟩ : Addr).add j = ⟨w.heap.size, j, none⟩ := by simp [Addr.add]; intro h; exact h.symm
  rw [e, World.cell?_alloc_new]
  simpa using hj
end Go.Proofs.Ytiflibkabmkloaa
