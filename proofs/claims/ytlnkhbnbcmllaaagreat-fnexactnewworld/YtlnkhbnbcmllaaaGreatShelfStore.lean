import Derived.Test.YtlnkhbnbcmllaaaGreatValidSpec
import Derived.Test.YtlnkhbnbcmllaaaGreatOpenStore
import Derived.Sort.KeysCollected
import Derived.Sort.Walk0
import Derived.Maps.Views
import Derived.Test.YtlnkhbnbcmllaaaGreatStoreTo
import Derived.Deep.AppendLies
/- spec.l4At: the place of the item with a sum. -/
namespace Go.Proofs.YtlnkhbnbcmllaaaGreat
open Go.RowKit
end Go.Proofs.YtlnkhbnbcmllaaaGreat
/- The map of a valid store's items: its keys in order, what lies under them. -/
namespace Go.Proofs.YtlnkhbnbcmllaaaGreat
open Go.RowKit Go.Sort
/-- The sums of items. -/
def sumsL (n : Int) (its : Itms) : List (List UInt8) := its.map fun p => (sumX n p.1).data.toList
/-- An item as a datum. -/
def datI (p : ByteArray × Int) : DataW Unit := .agg [.lit (.string p.1.data.toList), .lit (.int .i64 p.2)]
theorem sumsL_len (n : Int) (its : Itms) : (sumsL n its).length = its.length := by simp [sumsL]
theorem sumsL_get (n : Int) (its : Itms) (i : Nat) (h : i < its.length) : (sumsL n its)[i]? = some (sumX n (itx its i)).data.toList := by simp [sumsL, itx, h]
theorem tlt_lt {a b : ByteArray} (h : tlt a b = true) : a.data.toList < b.data.toList := by
  unfold tlt at h
  rw [bytesLess_eq, decide_eq_true_eq, ByteArray.toList_eq, ByteArray.toList_eq] at h
  exact h
/-- A valid store's sums ascend. -/
theorem sums_asc {n : Int} : ∀ {its : Itms}, (∀ i, i < its.length → itemOk n its i) → (sumsL n its).Pairwise (· < ·) := by
  intro its h
  have hA : Asc (its.map fun p => sumX n p.1) := by
    refine asc_of _ fun i h0 hi => ?_
    have hl : i < its.length := by simpa using hi
    have h1 := (h i hl).2.2 h0
    have e : ∀ j, j < its.length → tv (its.map fun p => sumX n p.1) j = sumX n (itx its j) := fun j hj => by simp [tv, itx, hj]
    rw [e i hl, e (i - 1) (by omega)]
    exact h1
  have := List.Pairwise.map (f := fun b : ByteArray => b.data.toList) (S := (· < ·)) (fun a b hab => tlt_lt hab) hA
  simpa [sumsL, Function.comp_def] using this
theorem mapI_succ (n : Int) (its : Itms) (k : Nat) : mapI n its (k + 1) = (mapI n its k).put (.string (sumX n (itx its k)).data.toList) (datI (itx its k, itu its k)) := rfl
theorem key_lit9 (x : List UInt8) : WideAt.IsKeyLit (.string x) := trivial
theorem mapI_tidy (n : Int) (its : Itms) : ∀ k, Maps.Tidy (mapI n its k)
  | 0 => Maps.tidy_empty
  | k + 1 => (mapI_tidy n its k).put (key_lit9 _) _
theorem mapI_has (n : Int) (its : Itms) (x : List UInt8) : ∀ k, k ≤ its.length → (Maps.has (mapI n its k) (.string x) = true ↔ x ∈ (sumsL n its).take k)
  | 0, _ => by simp [mapI, Maps.has_eq]
  | k + 1, h => by
    have ih := mapI_has n its x k (by omega)
    have hg := sumsL_get n its k (by omega)
    have e : (sumsL n its).take (k + 1) = (sumsL n its).take k ++ [(sumX n (itx its k)).data.toList] := by
      rw [List.take_add_one, hg]; rfl
    rw [e, List.mem_append, List.mem_singleton]
    by_cases hx : x = (sumX n (itx its k)).data.toList
    · subst hx
      exact ⟨fun _ => .inr rfl, fun _ => by rw [mapI_succ]; exact Maps.has_put_same (mapI_tidy n its k).isMap (key_lit9 _) _⟩
    · rw [mapI_succ, Maps.has_put_other (k := .string (sumX n (itx its k)).data.toList) (k' := .string x) (fun e => hx (by injection e)), ih]
      exact ⟨.inl, fun h => h.elim id (fun e => absurd e hx)⟩
theorem mapI_at (n : Int) (its : Itms) (hN : (sumsL n its).Pairwise (· < ·)) (z : DataW Unit) : ∀ k, k ≤ its.length → ∀ i, i < k → (mapI n its k).atKey (.string (sumX n (itx its i)).data.toList) z = datI (itx its i, itu its i)
  | 0, _, i, hi => by omega
  | k + 1, h, i, hi => by
    by_cases e : i = k
    · subst e
      rw [mapI_succ]
      exact Maps.atKey_put_same (mapI_tidy n its i).isMap (key_lit9 _) _ _
    · rw [mapI_succ, Maps.atKey_put_other (k := .string (sumX n (itx its k)).data.toList) (k' := .string (sumX n (itx its i)).data.toList) (fun e2 => ?_)]
      · exact mapI_at n its hN z k (by omega) i (by omega)
      · have e3 : (sumX n (itx its i)).data.toList = (sumX n (itx its k)).data.toList := by injection e2
        have h1 := List.pairwise_iff_getElem.1 hN i k (by rw [sumsL_len]; omega) (by rw [sumsL_len]; omega) (by omega)
        have g1 := List.getElem_of_getElem? (sumsL_get n its i (by omega))
        have g2 := List.getElem_of_getElem? (sumsL_get n its k (by omega))
        obtain ⟨_, g1⟩ := g1
        obtain ⟨_, g2⟩ := g2
        rw [g1, g2, e3] at h1
        exact absurd h1 (List.lt_irrefl _)
/-- The keys of a map, sorted. -/
theorem sorted_keys {w : World} {b m : Nat} {D : DataW Unit} (hown : w.ownsMap Tryz.prog 9 itemElem b m D) (ht : Maps.Tidy D) {S : List (List UInt8)} (hS : S.Pairwise (· < ·)) (hm : ∀ x, x ∈ S ↔ Maps.has D (.string x) = true) {ss : List (List UInt8)} (hp : ss.Perm (strKeys D)) :
    ss.mergeSort (fun x y => decide (x ≤ y)) = S := by
  obtain ⟨es, rfl, he⟩ := ht
  have hk : ∀ p ∈ es, ∃ x, p.1 = .string x := by
    obtain ⟨es', e', hk'⟩ := hown.keysOf
    cases e'
    intro p hp
    obtain ⟨key, hkey⟩ := hk' p hp
    obtain ⟨x, _, h2, _⟩ := Maps.keyOf_str Tryz.underlying9 hkey
    exact ⟨x, h2⟩
  have hnd : S.Nodup := hS.imp fun h e => by subst e; exact List.lt_irrefl _ h
  have h1 : ss.Perm S := hp.trans (perm_strKeys he hk hnd hm).symm
  rw [mergeSort_of_perm h1]
  refine List.mergeSort_of_pairwise (hS.imp fun h => ?_)
  simpa using List.le_of_lt h
end Go.Proofs.YtlnkhbnbcmllaaaGreat
/- What is asked of maps.Keys and slices.Sorted. -/
namespace Go.Proofs.YtlnkhbnbcmllaaaGreat
open Go.RowKit Go.Sort
/-- maps.Keys and slices.Sorted of it, at the map of items. -/
def KeysOK : Prop :=
  (∀ (mb : Nat) (W : World), Calls Tryz.prog 86 #[.map (some mb)] W fun e w' => e = .returned (.func (.func 93) #[] #[.pointer (some ⟨W.heap.size, 0, none⟩)]) ∧ w' = W.alloc (.cells #[.map (some mb)] 107)) ∧
  ∀ (b nn : Nat) (D : DataW Unit) (w : World), w.ownsMap Tryz.prog 9 itemElem b nn D → Maps.Tidy D → ∀ S : List (List UInt8), S.Pairwise (· < ·) → (∀ x, x ∈ S ↔ Maps.has D (.string x) = true) → S.length ≤ 1048576 →
    Calls Tryz.prog 85 #[.func (.func 93) #[] #[.pointer (some ⟨w.heap.size, 0, none⟩)]] (w.alloc (.cells #[.map (some b)] 107)) fun e w' => ∃ v, e = .returned v ∧ w'.ownsRow (w.heap.size + 1) 9 1 v S.length (S.map encStr) ∧ Below (w.heap.size + 1) (w.alloc (.cells #[.map (some b)] 107)) w'
end Go.Proofs.YtlnkhbnbcmllaaaGreat
/- (*shelf).store: the shelf as a store, in memory of its own. -/
namespace Go.Proofs.YtlnkhbnbcmllaaaGreat
open Go.RowKit Go.Sort
theorem itemElem_inv {v : Value} {t : ByteArray} {u : Int} {ps : List MemPlace} (h : itemElem v = some (datI (t, u), ps)) : v = .agg #[.string t, .int .i64 u] := by
  unfold itemElem at h
  split at h
  · rename_i cs
    split at h
    · rename_i t' u' e
      simp only [datI, Option.some.injEq, Prod.mk.injEq, DataW.agg.injEq, List.cons.injEq, DataW.lit.injEq, Lit.string.injEq, Lit.int.injEq, true_and, and_true] at h
      obtain ⟨⟨h1, h2⟩, _⟩ := h
      have e1 : t' = t := text_eq (by rw [ByteArray.toList_eq, ByteArray.toList_eq]; exact h1)
      subst e1 h2
      have : cs = #[Value.string t', Value.int .i64 u'] := by
        apply Array.ext'
        exact e
      rw [this]
    · cases h
  · cases h
theorem zvItem (w : World) : (zeroValue 84).run Tryz.prog w = .ok (.agg #[.string ⟨#[]⟩, .int .i64 0]) w := by kernel_rfl
/-- 'm[k]' of the map of items. -/
theorem wpList_lookup_item {ops : Array Oper} {rest : List Oper} {o : Oper} {a : Act} {Q : Exit → Act → World → Prop} (w : World) (hg : o.guard = none) (m x : Operand) (hop : o.op = Op.lookup 107 m x false) (b n : Nat) (D : DataW Unit)
    (hm : a.eval m = .map (some b)) (hown : w.ownsMap Tryz.prog 9 itemElem b n D) (s : ByteArray) (hs : s.size ≤ maxLen) (hx : a.eval x = .string s) (t : ByteArray) (u : Int) (hat : ∀ z, D.atKey (.string s.data.toList) z = datI (t, u))
    (hK : wpList Tryz.prog ops Q rest (a.put o.dst (.agg #[.string t, .int .i64 u])) w) : wpList Tryz.prog ops Q (o :: rest) a w := by
  refine wpList_plain hg fun K' hK' => ?_
  obtain ⟨v, ps, hrun, hv⟩ := hown.lookup keyed9 Tryz.underlying107 (zvItem w) (itemElem_mk ⟨#[]⟩ 0) (key9 s hs)
  rw [hat] at hv
  obtain rfl := itemElem_inv hv
  unfold Oper.wp
  simp [execOp, hop, hm, hx, hrun, Result.andThen]
  exact hK' _ _ hK
theorem ownsRow_base2 {w : World} {base base' size n : Nat} {e : TypeId} {v : Value} {xs : List Value} (h : w.ownsRow base e size v n xs) (hb : base' ≤ base) : w.ownsRow base' e size v n xs := by
  obtain ⟨h1, h2⟩ := h
  refine ⟨h1, ?_⟩
  rcases h2 with h2 | ⟨g, cap, cur, e1, hg, r⟩
  · exact .inl h2
  · exact .inr ⟨g, cap, cur, e1, Nat.le_trans hb hg, r⟩
theorem grown_refl2 (A : World) (o : Option Nat) : A.grownBy A o := ⟨rfl, rfl, rfl, Nat.le_refl _, fun _ _ _ => rfl⟩
/-- What an append into a store's row of items leaves. -/
theorem item_stored {W w6 : World} {n₀ tb k m : Nat} {v v' : Value} {xs ys : List Value} {tmp : Obj} {T : TypeId} {cs : Array Value} (hB : Blk W tb T cs) (hrow : W.ownsRow n₀ 84 2 v k xs) (htb : tb < n₀) (hown' : w6.ownsRow n₀ 84 2 v' m ys) (hgrow : (W.alloc tmp).grownBy w6 v.ownBlock) :
    Blk w6 tb T cs ∧ (w6.setCell ⟨tb, 2, none⟩ v').ownsRow n₀ 84 2 v' m ys ∧ ∀ A : World, A.grownBy W (some tb) → A.heap.size = n₀ → A.grownBy (w6.setCell ⟨tb, 2, none⟩ v') (some tb) := by
  have hlt : ∀ g, v.ownBlock = some g → n₀ ≤ g := fun g e => (hrow.lt g e).1
  have hlt' : ∀ g, v'.ownBlock = some g → n₀ ≤ g := fun g e => (hown'.lt g e).1
  refine ⟨(hB.alloc tmp).kept hgrow (fun e => by have := hlt tb e.symm; omega), hown'.kept (grownBy_setCellAt w6 tb 2 v') (.inr fun e => by have := hlt' tb e; omega), fun A hA hn => ?_⟩
  exact grownBy_trans (grownBy_trans (grownBy_trans hA (World.grownBy_alloc W tmp none) (fun g e => by cases e)) hgrow (fun g e => .inr (by have := hlt g e; omega))) (grownBy_setCellAt w6 tb 2 v') (fun g e => .inl (by cases e; rfl))
theorem two_new (w : World) (x y : Value) (t : TypeId) : ∀ j u, [x, y][j]? = some u → (w.alloc (.cells #[x, y] t)).cell? ((⟨w.heap.size, 0, none⟩ : Addr).add j) = some u := by
  intro j u hj
  have e : (⟨w.heap.size, 0, none⟩ : Addr).add j = ⟨w.heap.size, j, none⟩ := by simp [Addr.add]; intro h; exact h.symm
  rw [e, World.cell?_alloc_new]
  simpa using hj
set_option maxRecDepth 100000 in
set_option maxHeartbeats 4000000 in
theorem shelfStore_any (hKO : KeysOK) (sb mb m : Nat) (vc : Value) (wd room tot : Int) (its : Itms) (ts : List ByteArray) (D : DataW Unit) (w : World) (hbox : Blk w sb 109 #[.int .i64 wd, .int .i64 room, .int .i64 tot, .map (some mb), vc]) (hmap : w.ownsMap Tryz.prog 9 itemElem mb m D) (hD : Maps.Tidy D)
    (hasc : (sumsL wd its).Pairwise (· < ·)) (hhas : ∀ x, x ∈ sumsL wd its ↔ Maps.has D (.string x) = true) (hat : ∀ i, i < its.length → ∀ z, D.atKey (.string (sumX wd (itx its i)).data.toList) z = datI (itx its i, itu its i))
    (hrow : Reads w vc ts) (hl : its.length ≤ 1048576) (hts : ts.length ≤ 1048576) (hsp : ∀ i, (tv ts i).size ≤ 1048576) (hsi : ∀ i, (itx its i).size ≤ 1048576) :
    Calls Tryz.prog 58 #[.pointer (some ⟨sb, 0, none⟩)] w fun e w' => ∃ vi vp, e = .returned (.agg #[.int .i64 wd, .int .i64 room, vi, vp]) ∧ w'.ownsRow (w.heap.size + 1) 84 2 vi its.length (cellsI its) ∧ w'.ownsRow (w.heap.size + 1) 9 1 vp ts.length (ts.map Value.string) ∧ (∀ g, vi.ownBlock = some g → vp.ownBlock ≠ some g) ∧ Below w.heap.size w w' := by
  have hA := (Below.refl w.heap.size w).alloc (Nat.le_refl _) (.cells #[.int .i64 0, .int .i64 0, .slice none 0 0, .slice none 0 0] 34)
  obtain ⟨ac, cc, rfl, _⟩ := hrow.form
  have HBX := hid (hbox.alloc (.cells #[.int .i64 0, .int .i64 0, .slice none 0 0, .slice none 0 0] 34))
  have HMP := hid (hmap.alloc (.cells #[.int .i64 0, .int .i64 0, .slice none 0 0, .slice none 0 0] 34))
  have HR0 := hid (Blk.new w 34 #[.int .i64 0, .int .i64 0, .slice none 0 0, .slice none 0 0])
  have HCT := hid fun W h => cloneTexts_any (.slice ac ts.length cc) ts W h hts hsp
  have HRW := hid (hrow.below hA)
  have HA := hid hA
  have HAT := hid hat
  have HSI := hid hsi
  have HSK := hid fun W n (h : W.ownsMap Tryz.prog 9 itemElem mb n D) => hKO.2 mb n D W h hD _ hasc hhas (by rw [sumsL_len]; exact hl)
  have hsbw := hbox.lt
  have hmbw := hmap.lt
  clear hbox hmap hrow hA hat hsi hsp hhas hasc
  have hS0 : (w.alloc (.cells #[.int .i64 0, .int .i64 0, .slice none 0 0, .slice none 0 0] 34)).drew.cell? ⟨sb, 0, none⟩ = some (.int .i64 wd) ∧ (w.alloc (.cells #[.int .i64 0, .int .i64 0, .slice none 0 0, .slice none 0 0] 34)).drew.cell? ⟨sb, 1, none⟩ = some (.int .i64 room) ∧ (w.alloc (.cells #[.int .i64 0, .int .i64 0, .slice none 0 0, .slice none 0 0] 34)).drew.cell? ⟨sb, 4, none⟩ = some (.slice ac ts.length cc) := ⟨HBX.out.cell 0, HBX.out.cell 1, HBX.out.cell 4⟩
  have hec := enters_of Tryz.func84 (by kernel_rfl) rfl
  go_enter Tryz.func58, Tryz.ntmps58
  go_upto_region 1 with fail
  go_cut [3] from 7 to 20 (fun s3 wx => ∃ tb vp, s3 = .pointer (some ⟨tb, 0, none⟩) ∧ Blk wx tb 34 #[.int .i64 wd, .int .i64 room, .slice none 0 0, vp] ∧ wx.ownsRow (w.heap.size + 1) 9 1 vp ts.length (ts.map Value.string) ∧ vp.ownBlock ≠ some tb ∧ w.heap.size + 1 ≤ tb ∧ Below (w.heap.size + 1) (w.alloc (.cells #[.int .i64 0, .int .i64 0, .slice none 0 0, .slice none 0 0] 34)) wx)
  case first =>
    refine wp_region_held (S := fun w' => w'.cell? ⟨sb, 0, none⟩ = some (.int .i64 wd) ∧ w'.cell? ⟨sb, 1, none⟩ = some (.int .i64 room) ∧ w'.cell? ⟨sb, 4, none⟩ = some (.slice ac ts.length cc)) (by kernel_rfl) ?_
    change wpAnyH _ _ _ _ _ _ _ _ (World.drew _)
    refine wpAnyH_take (i := 0) (v := .pointer (some ⟨sb, 0, none⟩)) rfl (by kernel_rfl) (by kernel_rfl) (by kernel_rfl) (fun _ _ _ h => h) (.inl ⟨rfl, fun w' hS => by obtain ⟨s1, s2, s3⟩ := hS; go_simp⟩) hS0 ?_
    refine wpAnyH_take (i := 1) (v := .pointer (some ⟨sb, 0, none⟩)) rfl (by kernel_rfl) (by kernel_rfl) (by kernel_rfl) (fun _ _ _ h => h) (.inl ⟨rfl, fun w' hS => by obtain ⟨s1, s2, s3⟩ := hS; go_simp⟩) hS0 ?_
    refine wpAnyH_take (i := 2) (v := .pointer (some ⟨sb, 0, none⟩)) rfl (by kernel_rfl) (by kernel_rfl) (by kernel_rfl) (fun _ _ _ h => h) (.inl ⟨rfl, fun w' hS => by obtain ⟨s1, s2, s3⟩ := hS; go_simp⟩) hS0 ?_
    refine wpAnyH_take (i := 3) (v := .int .i64 wd) rfl (by kernel_rfl) (by kernel_rfl) (by kernel_rfl) (fun _ _ _ h => h) (.inl ⟨rfl, fun w' hS => by obtain ⟨s1, s2, s3⟩ := hS; go_simp⟩) hS0 ?_
    refine wpAnyH_take (i := 4) (v := .pointer (some ⟨sb, 0, none⟩)) rfl (by kernel_rfl) (by kernel_rfl) (by kernel_rfl) (fun _ _ _ h => h) (.inl ⟨rfl, fun w' hS => by obtain ⟨s1, s2, s3⟩ := hS; go_simp⟩) hS0 ?_
    refine wpAnyH_take (i := 5) (v := .pointer (some ⟨sb, 0, none⟩)) rfl (by kernel_rfl) (by kernel_rfl) (by kernel_rfl) (fun _ _ _ h => h) (.inl ⟨rfl, fun w' hS => by obtain ⟨s1, s2, s3⟩ := hS; go_simp⟩) hS0 ?_
    refine wpAnyH_take (i := 6) (v := .pointer (some ⟨sb, 1, none⟩)) rfl (by kernel_rfl) (by kernel_rfl) (by kernel_rfl) (fun _ _ _ h => h) (.inl ⟨rfl, fun w' hS => by obtain ⟨s1, s2, s3⟩ := hS; go_simp⟩) hS0 ?_
    refine wpAnyH_take (i := 7) (v := .int .i64 room) rfl (by kernel_rfl) (by kernel_rfl) (by kernel_rfl) (fun _ _ _ h => h) (.inl ⟨rfl, fun w' hS => by obtain ⟨s1, s2, s3⟩ := hS; go_simp⟩) hS0 ?_
    refine wpAnyH_take (i := 8) (v := .pointer (some ⟨sb, 0, none⟩)) rfl (by kernel_rfl) (by kernel_rfl) (by kernel_rfl) (fun _ _ _ h => h) (.inl ⟨rfl, fun w' hS => by obtain ⟨s1, s2, s3⟩ := hS; go_simp⟩) hS0 ?_
    refine wpAnyH_take (i := 9) (v := .pointer (some ⟨sb, 0, none⟩)) rfl (by kernel_rfl) (by kernel_rfl) (by kernel_rfl) (fun _ _ _ h => h) (.inl ⟨rfl, fun w' hS => by obtain ⟨s1, s2, s3⟩ := hS; go_simp⟩) hS0 ?_
    refine wpAnyH_take (i := 10) (v := .pointer (some ⟨sb, 4, none⟩)) rfl (by kernel_rfl) (by kernel_rfl) (by kernel_rfl) (fun _ _ _ h => h) (.inl ⟨rfl, fun w' hS => by obtain ⟨s1, s2, s3⟩ := hS; go_simp⟩) hS0 ?_
    refine wpAnyH_take (i := 11) (v := .slice ac ts.length cc) rfl (by kernel_rfl) (by kernel_rfl) (by kernel_rfl) (fun _ _ _ h => h) (.inl ⟨rfl, fun w' hS => by obtain ⟨s1, s2, s3⟩ := hS; go_simp⟩) hS0 ?_
    refine held_two 12 14 (by kernel_rfl) ?A ?B
    case A =>
      refine op_calls (f := 84) (args := #[.slice ac ts.length cc]) rfl rfl (by go_simp) (HCT.out _ (HRW.out.below (below_drewN (Below.refl _ _) 1))) ?_
      rintro e w1 ⟨v1, rfl, ho1, hb1⟩
      obtain ⟨a1, c1, rfl, _⟩ := row_form ho1
      have hb1' : Below (w.alloc (.cells #[.int .i64 0, .int .i64 0, .slice none 0 0, .slice none 0 0] 34)).heap.size (w.alloc (.cells #[.int .i64 0, .int .i64 0, .slice none 0 0, .slice none 0 0] 34)) w1 := ⟨hb1.os, hb1.tape, hb1.output, hb1.size, hb1.block⟩
      have X1 := HBX.out.below hb1'
      have hs1 := hb1'.size
      rw [World.size_alloc] at hs1
      have hS1 : w1.cell? ⟨sb, 0, none⟩ = some (.int .i64 wd) ∧ w1.cell? ⟨sb, 1, none⟩ = some (.int .i64 room) ∧ w1.cell? ⟨sb, 4, none⟩ = some (.slice ac ts.length cc) := ⟨X1.cell 0, X1.cell 1, X1.cell 4⟩
      refine ⟨_, rfl, hS1, ?_⟩
      refine wpAnyH_take (i := 13) (v := .agg #[.int .i64 wd, .int .i64 room, .slice none 0 0, .slice a1 ts.length c1]) rfl (by kernel_rfl) (by kernel_rfl) (by kernel_rfl) (fun _ _ _ h => h) (.inl ⟨rfl, fun w' hS => by obtain ⟨s1, s2, s3⟩ := hS; go_simp⟩) hS1 ?_
      have X2 := X1.alloc (.cells #[.int .i64 0, .int .i64 0, .slice none 0 0, .slice none 0 0] 34)
      have X3 := X1.alloc (.cells #[.int .i64 wd, .int .i64 room, .slice none 0 0, .slice a1 ts.length c1] 34)
      have hS2 : (w1.alloc (.cells #[.int .i64 0, .int .i64 0, .slice none 0 0, .slice none 0 0] 34)).cell? ⟨sb, 0, none⟩ = some (.int .i64 wd) ∧ (w1.alloc (.cells #[.int .i64 0, .int .i64 0, .slice none 0 0, .slice none 0 0] 34)).cell? ⟨sb, 1, none⟩ = some (.int .i64 room) ∧ (w1.alloc (.cells #[.int .i64 0, .int .i64 0, .slice none 0 0, .slice none 0 0] 34)).cell? ⟨sb, 4, none⟩ = some (.slice ac ts.length cc) := ⟨X2.cell 0, X2.cell 1, X2.cell 4⟩
      have hS3 : (w1.alloc (.cells #[.int .i64 wd, .int .i64 room, .slice none 0 0, .slice a1 ts.length c1] 34)).cell? ⟨sb, 0, none⟩ = some (.int .i64 wd) ∧ (w1.alloc (.cells #[.int .i64 wd, .int .i64 room, .slice none 0 0, .slice a1 ts.length c1] 34)).cell? ⟨sb, 1, none⟩ = some (.int .i64 room) ∧ (w1.alloc (.cells #[.int .i64 wd, .int .i64 room, .slice none 0 0, .slice a1 ts.length c1] 34)).cell? ⟨sb, 4, none⟩ = some (.slice ac ts.length cc) := ⟨X3.cell 0, X3.cell 1, X3.cell 4⟩
      have hsa : (w.alloc (.cells #[.int .i64 0, .int .i64 0, .slice none 0 0, .slice none 0 0] 34)).drew.heap.size = w.heap.size + 1 := by show (w.alloc (.cells #[.int .i64 0, .int .i64 0, .slice none 0 0, .slice none 0 0] 34)).heap.size = _; simp
      rw [hsa] at ho1
      have HL1 := hid fun g (e : (Value.slice a1 ts.length c1).ownBlock = some g) => ho1.lt g e
      have O1 := hid (ho1.alloc (.cells #[.int .i64 wd, .int .i64 room, .slice none 0 0, .slice a1 ts.length c1] 34))
      have B1 := hid (((Below.refl (w.heap.size + 1) (w.alloc (.cells #[.int .i64 0, .int .i64 0, .slice none 0 0, .slice none 0 0] 34))).trans (hb1'.mono (by simp))).alloc (by omega) (.cells #[.int .i64 wd, .int .i64 room, .slice none 0 0, .slice a1 ts.length c1] 34))
      refine held_one 14 (by kernel_rfl) (op_value (v := .pointer (some ⟨w1.heap.size, 0, none⟩)) (w' := w1.alloc (.cells #[.int .i64 0, .int .i64 0, .slice none 0 0, .slice none 0 0] 34)) rfl rfl (by go_simp) ⟨hS2, ?_⟩)
      refine held_one 15 (by kernel_rfl) (op_skip (w' := w1.alloc (.cells #[.int .i64 wd, .int .i64 room, .slice none 0 0, .slice a1 ts.length c1] 34)) rfl rfl (by go_simp) ⟨hS3, wpAnyH_done (by kernel_rfl) ?_ _⟩)
      clear hS0 hS1 hS2 hS3 X1 X2 X3 ho1 hb1 hb1' hsa
      go_simp
      go_wp2_with fail
      go_meet
      exact ⟨w1.heap.size, _, rfl, Blk.new w1 34 _, O1.out, fun e => by have := (HL1.out _ e).2; omega, by omega, B1.out⟩
    case B =>
      have Y0 := HBX.out.alloc (.cells #[.int .i64 0, .int .i64 0, .slice none 0 0, .slice none 0 0] 34)
      have hSb : ((w.alloc (.cells #[.int .i64 0, .int .i64 0, .slice none 0 0, .slice none 0 0] 34)).alloc (.cells #[.int .i64 0, .int .i64 0, .slice none 0 0, .slice none 0 0] 34)).drew.cell? ⟨sb, 0, none⟩ = some (.int .i64 wd) ∧ ((w.alloc (.cells #[.int .i64 0, .int .i64 0, .slice none 0 0, .slice none 0 0] 34)).alloc (.cells #[.int .i64 0, .int .i64 0, .slice none 0 0, .slice none 0 0] 34)).drew.cell? ⟨sb, 1, none⟩ = some (.int .i64 room) ∧ ((w.alloc (.cells #[.int .i64 0, .int .i64 0, .slice none 0 0, .slice none 0 0] 34)).alloc (.cells #[.int .i64 0, .int .i64 0, .slice none 0 0, .slice none 0 0] 34)).drew.cell? ⟨sb, 4, none⟩ = some (.slice ac ts.length cc) := ⟨Y0.cell 0, Y0.cell 1, Y0.cell 4⟩
      refine op_value (v := .pointer (some ⟨w.heap.size + 1, 0, none⟩)) (w' := ((w.alloc (.cells #[.int .i64 0, .int .i64 0, .slice none 0 0, .slice none 0 0] 34)).alloc (.cells #[.int .i64 0, .int .i64 0, .slice none 0 0, .slice none 0 0] 34)).drew) rfl rfl (by go_simp) ⟨hSb, ?_⟩
      refine held_one 12 (by kernel_rfl) (op_calls (f := 84) (args := #[.slice ac ts.length cc]) rfl rfl (by go_simp) (HCT.out _ (HRW.out.below (below_drewN ((Below.refl _ _).alloc (Nat.le_refl _) _) 1))) ?_)
      rintro e w1 ⟨v1, rfl, ho1, hb1⟩
      obtain ⟨a1, c1, rfl, _⟩ := row_form ho1
      have hb1' : Below ((w.alloc (.cells #[.int .i64 0, .int .i64 0, .slice none 0 0, .slice none 0 0] 34)).alloc (.cells #[.int .i64 0, .int .i64 0, .slice none 0 0, .slice none 0 0] 34)).heap.size ((w.alloc (.cells #[.int .i64 0, .int .i64 0, .slice none 0 0, .slice none 0 0] 34)).alloc (.cells #[.int .i64 0, .int .i64 0, .slice none 0 0, .slice none 0 0] 34)) w1 := ⟨hb1.os, hb1.tape, hb1.output, hb1.size, hb1.block⟩
      have X1 := Y0.below hb1'
      have N0 := Blk.new (w.alloc (.cells #[.int .i64 0, .int .i64 0, .slice none 0 0, .slice none 0 0] 34)) 34 #[.int .i64 0, .int .i64 0, .slice none 0 0, .slice none 0 0]
      rw [World.size_alloc] at N0
      have N1 := N0.below hb1'
      have s := N1.store4 (.int .i64 wd) (.int .i64 room) (.slice none 0 0) (.slice a1 ts.length c1)
      have s0 := s.a0; have s1 := s.a1; have s2 := s.a2; have s3 := s.a3
      have f0 := s.f0; have f1 := s.f1; have f2 := s.f2; have f3 := s.f3
      have Z := hid s.z
      have hs1 := hb1'.size
      rw [World.size_alloc, World.size_alloc] at hs1
      have hne : sb ≠ w.heap.size + 1 := by omega
      have X4 := (((X1.kept (grownBy_setCellAt _ (w.heap.size + 1) 0 (.int .i64 wd)) (fun e => hne (by cases e; rfl))).kept (grownBy_setCellAt _ (w.heap.size + 1) 1 (.int .i64 room)) (fun e => hne (by cases e; rfl))).kept (grownBy_setCellAt _ (w.heap.size + 1) 2 (.slice none 0 0)) (fun e => hne (by cases e; rfl))).kept (grownBy_setCellAt _ (w.heap.size + 1) 3 (.slice a1 ts.length c1)) (fun e => hne (by cases e; rfl))
      have hS1 : w1.cell? ⟨sb, 0, none⟩ = some (.int .i64 wd) ∧ w1.cell? ⟨sb, 1, none⟩ = some (.int .i64 room) ∧ w1.cell? ⟨sb, 4, none⟩ = some (.slice ac ts.length cc) := ⟨X1.cell 0, X1.cell 1, X1.cell 4⟩
      have hS4 : ((((w1.setCell ⟨w.heap.size + 1, 0, none⟩ (.int .i64 wd)).setCell ⟨w.heap.size + 1, 1, none⟩ (.int .i64 room)).setCell ⟨w.heap.size + 1, 2, none⟩ (.slice none 0 0)).setCell ⟨w.heap.size + 1, 3, none⟩ (.slice a1 ts.length c1)).cell? ⟨sb, 0, none⟩ = some (.int .i64 wd) ∧ ((((w1.setCell ⟨w.heap.size + 1, 0, none⟩ (.int .i64 wd)).setCell ⟨w.heap.size + 1, 1, none⟩ (.int .i64 room)).setCell ⟨w.heap.size + 1, 2, none⟩ (.slice none 0 0)).setCell ⟨w.heap.size + 1, 3, none⟩ (.slice a1 ts.length c1)).cell? ⟨sb, 1, none⟩ = some (.int .i64 room) ∧ ((((w1.setCell ⟨w.heap.size + 1, 0, none⟩ (.int .i64 wd)).setCell ⟨w.heap.size + 1, 1, none⟩ (.int .i64 room)).setCell ⟨w.heap.size + 1, 2, none⟩ (.slice none 0 0)).setCell ⟨w.heap.size + 1, 3, none⟩ (.slice a1 ts.length c1)).cell? ⟨sb, 4, none⟩ = some (.slice ac ts.length cc) := ⟨X4.cell 0, X4.cell 1, X4.cell 4⟩
      have hsa : ((w.alloc (.cells #[.int .i64 0, .int .i64 0, .slice none 0 0, .slice none 0 0] 34)).alloc (.cells #[.int .i64 0, .int .i64 0, .slice none 0 0, .slice none 0 0] 34)).drew.heap.size = w.heap.size + 1 + 1 := by show ((w.alloc (.cells #[.int .i64 0, .int .i64 0, .slice none 0 0, .slice none 0 0] 34)).alloc (.cells #[.int .i64 0, .int .i64 0, .slice none 0 0, .slice none 0 0] 34)).heap.size = _; simp
      rw [hsa] at ho1
      have HL1 := hid fun g (e : (Value.slice a1 ts.length c1).ownBlock = some g) => ho1.lt g e
      have O1 := hid (row_kept (row_kept (row_kept (row_kept ho1 (grownBy_setCellAt _ (w.heap.size + 1) 0 (.int .i64 wd)) (by omega)) (grownBy_setCellAt _ (w.heap.size + 1) 1 (.int .i64 room)) (by omega)) (grownBy_setCellAt _ (w.heap.size + 1) 2 (.slice none 0 0)) (by omega)) (grownBy_setCellAt _ (w.heap.size + 1) 3 (.slice a1 ts.length c1)) (by omega))
      have B1 := hid ((((((((Below.refl (w.heap.size + 1) (w.alloc (.cells #[.int .i64 0, .int .i64 0, .slice none 0 0, .slice none 0 0] 34))).alloc (by simp) (.cells #[.int .i64 0, .int .i64 0, .slice none 0 0, .slice none 0 0] 34)).trans (hb1'.mono (by simp)))).setCell (p := ⟨w.heap.size + 1, 0, none⟩) (Nat.le_refl _) (.int .i64 wd)).setCell (p := ⟨w.heap.size + 1, 1, none⟩) (Nat.le_refl _) (.int .i64 room)).setCell (p := ⟨w.heap.size + 1, 2, none⟩) (Nat.le_refl _) (.slice none 0 0)).setCell (p := ⟨w.heap.size + 1, 3, none⟩) (Nat.le_refl _) (.slice a1 ts.length c1))
      refine ⟨_, rfl, hS1, ?_⟩
      refine wpAnyH_take (i := 13) (v := .agg #[.int .i64 wd, .int .i64 room, .slice none 0 0, .slice a1 ts.length c1]) rfl (by kernel_rfl) (by kernel_rfl) (by kernel_rfl) (fun _ _ _ h => h) (.inl ⟨rfl, fun w' hS => by obtain ⟨s1, s2, s3⟩ := hS; go_simp⟩) hS1 ?_
      refine held_one 15 (by kernel_rfl) (op_skip (w' := ((((w1.setCell ⟨w.heap.size + 1, 0, none⟩ (.int .i64 wd)).setCell ⟨w.heap.size + 1, 1, none⟩ (.int .i64 room)).setCell ⟨w.heap.size + 1, 2, none⟩ (.slice none 0 0)).setCell ⟨w.heap.size + 1, 3, none⟩ (.slice a1 ts.length c1))) rfl rfl (by go_simp) ⟨hS4, wpAnyH_done (by kernel_rfl) ?_ _⟩)
      clear hS0 hS1 hSb hS4 X1 X4 Y0 ho1 hb1 hb1' hsa s N0 N1
      go_simp
      go_wp2_with fail
      go_meet
      exact ⟨w.heap.size + 1, _, rfl, Z.out, ownsRow_base O1.out (by omega), fun e => by have := (HL1.out _ e).1; omega, Nat.le_refl _, B1.out⟩
  case rest =>
    obtain ⟨tb, vp, rfl, hT, hvr, hvn, htb, hb⟩ := hcut
    have hbS : Below (w.alloc (.cells #[.int .i64 0, .int .i64 0, .slice none 0 0, .slice none 0 0] 34)).heap.size (w.alloc (.cells #[.int .i64 0, .int .i64 0, .slice none 0 0, .slice none 0 0] 34)) wc := by rw [World.size_alloc]; exact hb
    have XB := HBX.out.below hbS
    have MP := HMP.out.kept (grown_of_below hbS) (by simp)
    have R0 := HR0.out.below hbS
    have c3 : wc.cell? ⟨sb, 3, none⟩ = some (.map (some mb)) := XB.cell 3
    have hszc := hb.size
    rw [World.size_alloc] at hszc
    have HSK1 := hid (HSK.out wc m MP)
    have HWB := hid (HA.out.trans (hb.mono (by omega)))
    obtain ⟨ap, cp, rfl, _⟩ := row_form hvr
    have htlt := hT.lt
    go_wp2_with fail
    refine (hKO.1 mb _).mono ?_
    rintro e w2 ⟨rfl, rfl⟩
    go_wp2_with fail
    refine HSK1.out.mono ?_
    rintro e w3 ⟨v3, rfl, ho3, hb3⟩
    have hb3' : Below (wc.alloc (.cells #[.map (some mb)] 107)).heap.size (wc.alloc (.cells #[.map (some mb)] 107)) w3 := by rw [World.size_alloc]; exact hb3
    have hbc : Below wc.heap.size wc w3 := ((Below.refl wc.heap.size wc).alloc (Nat.le_refl _) (.cells #[.map (some mb)] 107)).trans (hb3.mono (by omega))
    have e3 : (sumsL wd its).map encStr = (its.map fun p => sumX wd p.1).map Value.string := by simp [sumsL, encStr]
    rw [e3, sumsL_len] at ho3
    have hlen3 : (its.map fun p => sumX wd p.1).length = its.length := by simp
    have ho3' : w3.ownsRow (wc.heap.size + 1) 9 1 v3 (its.map fun p => sumX wd p.1).length ((its.map fun p => sumX wd p.1).map Value.string) := by rw [hlen3]; exact ho3
    obtain ⟨a3, cc3, rfl, hform⟩ := row_form ho3
    have HRD := hid (Reads.of_row ho3').form
    have X3 := hid (XB.below hbc)
    have M3 := hid (MP.kept (grown_of_below hbc) (by simp))
    have T3 := hid (hT.below hbc)
    have P3 := hid (Below.row hbc hvr)
    have R3 := hid (R0.below hbc)
    have hs3 := hbc.size
    have B3 := hid (HWB.out.trans (hbc.mono HWB.out.size))
    have HLP := hid fun g (e : (Value.slice ap ts.length cp).ownBlock = some g) => hvr.lt g e
    clear hb3 hb3' hbc ho3 e3 XB MP R0 c3 HSK1 hT hvr hb hbS
    obtain ⟨i0, hi, hz0, hz1, hz2⟩ := info_parts Tryz.infoItem
    go_wp2
    go_loopw [28] (fun i wr => ∃ (k : Nat) (v : Value), k ≤ its.length ∧ i = .int .i64 k ∧ Blk wr tb 34 #[.int .i64 wd, .int .i64 room, v, .slice ap ts.length cp] ∧ wr.ownsRow w3.heap.size 84 2 v k (cellsI (its.take k)) ∧ w3.grownBy wr (some tb)) (fun i _ => its.length - (intOf i).toNat)
    case atStart => exact ⟨0, _, Nat.zero_le _, rfl, T3.out, World.ownsRow_nil _ _ _ _, grown_refl2 _ _⟩
    case round =>
      obtain ⟨k, v, hk, rfl, hbx, hrow, hg⟩ := hrel
      have hgs := hg.size
      by_cases hlt : k < its.length
      · obtain ⟨a3', cc3', e3', hc3⟩ := HRD.out
        rw [hlen3] at e3'
        cases e3'
        obtain ⟨g, o, rfl, hgw, hcell⟩ := hc3 k (by rw [hlen3]; exact hlt)
        have htx : (its.map fun p => sumX wd p.1).getD k ByteArray.empty = sumX wd (itx its k) := by simp [itx, hlt]
        rw [htx] at hcell
        obtain ⟨g', hga, hgb⟩ := hform (by omega)
        cases hga
        rw [Nat.zero_add] at hcell
        have hgne : g ≠ tb := by omega
        have hcr := (hg.cell_far ⟨g, k, none⟩ hgw (fun e => hgne (by cases e; rfl))).trans hcell
        have hnm : mb ≠ tb := by omega
        have hns : sb ≠ tb := by omega
        have MR := M3.out.kept hg (fun e => hnm (by cases e; rfl))
        have XR := X3.out.kept hg (fun e => hns (by cases e; rfl))
        have cs3 : wr.cell? ⟨sb, 3, none⟩ = some (.map (some mb)) := XR.cell 3
        have hss := sumX_size wd (itx its k)
        have HATk := hid (HAT.out k hlt)
        have HCLk := hid fun W => stringsClone_any (itx its k) W (by have := HSI.out k; omega)
        have HTK := hid (cellsI_take its k hlt)
        generalize sumX wd (itx its k) = s at *
        generalize itx its k = t at *
        generalize itu its k = u at *
        have HBX1 := hid hbx
        have HROW := hid hrow
        have HG := hid hg
        clear hcell hc3 htx XR hbx hrow hg
        go_wp2_with (at_lookup; refine wpList_lookup_item _ rfl _ _ rfl mb m D (by go_simp) MR s (by unfold maxLen; omega) (by go_simp) t u HATk.out ?_)
        have XN := Blk.new wr 84 #[.string t, .int .i64 u]
        have hS0 : (wr.alloc (.cells #[.string t, .int .i64 u] 84)).drew.cell? ⟨wr.heap.size, 0, none⟩ = some (.string t) ∧ (wr.alloc (.cells #[.string t, .int .i64 u] 84)).drew.cell? ⟨wr.heap.size, 1, none⟩ = some (.int .i64 u) := ⟨XN.cell 0, XN.cell 1⟩
        have l0 : (wr.alloc (.cells #[.string t, .int .i64 u] 84)).drew.cell? ⟨tb, 2, none⟩ = some v := (HBX1.out.alloc (.cells #[.string t, .int .i64 u] 84)).cell 2
        have hvw := hid fun g (e : v.ownBlock = some g) => HROW.out.lt g e
        have hec := enters_of Tryz.func59 (by kernel_rfl) rfl
        have HF : Hid (∀ w5, Below (wr.alloc (.cells #[.string t, .int .i64 u] 84)).drew.heap.size (wr.alloc (.cells #[.string t, .int .i64 u] 84)).drew w5 → (w5.cell? ⟨wr.heap.size, 0, none⟩ = some (.string t) ∧ w5.cell? ⟨wr.heap.size, 1, none⟩ = some (.int .i64 u)) ∧ Blk w5 tb 34 #[.int .i64 wd, .int .i64 room, v, .slice ap ts.length cp] ∧ w5.ownsRow w3.heap.size 84 2 v k (cellsI (its.take k)) ∧ w3.grownBy w5 (some tb) ∧ wr.heap.size + 1 ≤ w5.heap.size) := fun w5 hb => by
          have hb' : Below (wr.alloc (.cells #[.string t, .int .i64 u] 84)).heap.size (wr.alloc (.cells #[.string t, .int .i64 u] 84)) w5 := ⟨hb.os, hb.tape, hb.output, hb.size, hb.block⟩
          have hs := hb'.size
          rw [World.size_alloc] at hs
          have X5 := XN.below hb'
          exact ⟨⟨X5.cell 0, X5.cell 1⟩, (HBX1.out.alloc _).below hb', (HROW.out.alloc _).kept (grown_of_below hb') (by cases hv : v.ownBlock <;> simp), grownBy_trans (grownBy_trans HG.out (World.grownBy_alloc wr _ none) (fun g e => by cases e)) (grown_of_below hb') (fun g e => by cases e), hs⟩
        clear XN cs3 hcr
        refine wp_region_held (S := fun w' => w'.cell? ⟨wr.heap.size, 0, none⟩ = some (.string t) ∧ w'.cell? ⟨wr.heap.size, 1, none⟩ = some (.int .i64 u)) (by kernel_rfl) ?_
        change wpAnyH _ _ _ _ _ _ _ _ (World.drew _)
        refine wpAnyH_take (i := 0) (v := .pointer (some ⟨tb, 2, none⟩)) rfl (by kernel_rfl) (by kernel_rfl) (by kernel_rfl) (fun _ _ _ h => h) (.inl ⟨rfl, fun w' hS => by obtain ⟨s1, s2⟩ := hS; go_simp⟩) hS0 ?_
        refine wpAnyH_take (i := 2) (v := .pointer (some ⟨wr.heap.size, 0, none⟩)) rfl (by kernel_rfl) (by kernel_rfl) (by kernel_rfl) (fun _ _ _ h => h) (.inl ⟨rfl, fun w' hS => by obtain ⟨s1, s2⟩ := hS; go_simp⟩) hS0 ?_
        refine wpAnyH_take (i := 3) (v := .string t) rfl (by kernel_rfl) (by kernel_rfl) (by kernel_rfl) (fun _ _ _ h => h) (.inl ⟨rfl, fun w' hS => by obtain ⟨s1, s2⟩ := hS; go_simp⟩) hS0 ?_
        refine wpAnyH_take (i := 5) (v := .pointer (some ⟨wr.heap.size, 1, none⟩)) rfl (by kernel_rfl) (by kernel_rfl) (by kernel_rfl) (fun _ _ _ h => h) (.inl ⟨rfl, fun w' hS => by obtain ⟨s1, s2⟩ := hS; go_simp⟩) hS0 ?_
        refine wpAnyH_take (i := 6) (v := .int .i64 u) rfl (by kernel_rfl) (by kernel_rfl) (by kernel_rfl) (fun _ _ _ h => h) (.inl ⟨rfl, fun w' hS => by obtain ⟨s1, s2⟩ := hS; go_simp⟩) hS0 ?_
        refine held_two 1 4 (by kernel_rfl) (op_value (v := v) (w' := (wr.alloc (.cells #[.string t, .int .i64 u] 84)).drew) rfl rfl (by go_simp) ⟨hS0, ?_⟩) (op_calls (f := 59) (args := #[.string t]) rfl rfl (by go_simp) (HCLk.out _) ?_)
        refine held_one 4 (by kernel_rfl) (op_calls (f := 59) (args := #[.string t]) rfl rfl (by go_simp) (HCLk.out _) ?_)
        rintro e w5 ⟨rfl, hb5⟩
        obtain ⟨hS5, hbx5, hrow5, hg5, hs5⟩ := HF.out w5 hb5
        have hS5a : (w5.alloc (.cells #[.string t, .int .i64 u] 84)).cell? ⟨wr.heap.size, 0, none⟩ = some (.string t) ∧ (w5.alloc (.cells #[.string t, .int .i64 u] 84)).cell? ⟨wr.heap.size, 1, none⟩ = some (.int .i64 u) := ⟨((Below.refl w5.heap.size w5).alloc (Nat.le_refl _) (.cells #[.string t, .int .i64 u] 84) |>.cell (p := ⟨wr.heap.size, 0, none⟩) (by show wr.heap.size < w5.heap.size; omega)).trans hS5.1, ((Below.refl w5.heap.size w5).alloc (Nat.le_refl _) (.cells #[.string t, .int .i64 u] 84) |>.cell (p := ⟨wr.heap.size, 1, none⟩) (by show wr.heap.size < w5.heap.size; omega)).trans hS5.2⟩
        have l5 : w5.cell? ⟨tb, 2, none⟩ = some v := hbx5.cell 2
        have l5a : (w5.alloc (.cells #[.string t, .int .i64 u] 84)).cell? ⟨tb, 2, none⟩ = some v := (hbx5.alloc (.cells #[.string t, .int .i64 u] 84)).cell 2
        refine ⟨_, rfl, hS5, ?_⟩
        refine wpAnyH_take (i := 7) (v := .agg #[.string t, .int .i64 u]) rfl (by kernel_rfl) (by kernel_rfl) (by kernel_rfl) (fun _ _ _ h => h) (.inl ⟨rfl, fun w' hS => by obtain ⟨s1, s2⟩ := hS; go_simp⟩) hS5 ?_
        refine held_one 8 (by kernel_rfl) (op_value (v := .slice (some ⟨w5.heap.size, 0, none⟩) 1 1) (w' := (w5.alloc (.cells #[.string t, .int .i64 u] 84))) rfl rfl (by go_simp) ⟨hS5a, ?_⟩)
        rotate_left
        rintro e w5 ⟨rfl, hb5⟩
        obtain ⟨hS5, hbx5, hrow5, hg5, hs5⟩ := HF.out w5 hb5
        have hS5a : (w5.alloc (.cells #[.string t, .int .i64 u] 84)).cell? ⟨wr.heap.size, 0, none⟩ = some (.string t) ∧ (w5.alloc (.cells #[.string t, .int .i64 u] 84)).cell? ⟨wr.heap.size, 1, none⟩ = some (.int .i64 u) := ⟨((Below.refl w5.heap.size w5).alloc (Nat.le_refl _) (.cells #[.string t, .int .i64 u] 84) |>.cell (p := ⟨wr.heap.size, 0, none⟩) (by show wr.heap.size < w5.heap.size; omega)).trans hS5.1, ((Below.refl w5.heap.size w5).alloc (Nat.le_refl _) (.cells #[.string t, .int .i64 u] 84) |>.cell (p := ⟨wr.heap.size, 1, none⟩) (by show wr.heap.size < w5.heap.size; omega)).trans hS5.2⟩
        have l5 : w5.cell? ⟨tb, 2, none⟩ = some v := hbx5.cell 2
        have l5a : (w5.alloc (.cells #[.string t, .int .i64 u] 84)).cell? ⟨tb, 2, none⟩ = some v := (hbx5.alloc (.cells #[.string t, .int .i64 u] 84)).cell 2
        refine ⟨_, rfl, hS5, ?_⟩
        refine wpAnyH_take (i := 7) (v := .agg #[.string t, .int .i64 u]) rfl (by kernel_rfl) (by kernel_rfl) (by kernel_rfl) (fun _ _ _ h => h) (.inl ⟨rfl, fun w' hS => by obtain ⟨s1, s2⟩ := hS; go_simp⟩) hS5 ?_
        refine held_two 1 8 (by kernel_rfl) (op_value (v := v) (w' := w5) rfl rfl (by go_simp) ⟨hS5, ?_⟩) (op_value (v := .slice (some ⟨w5.heap.size, 0, none⟩) 1 1) (w' := (w5.alloc (.cells #[.string t, .int .i64 u] 84))) rfl rfl (by go_simp) ⟨hS5a, ?_⟩)
        refine held_one 8 (by kernel_rfl) (op_value (v := .slice (some ⟨w5.heap.size, 0, none⟩) 1 1) (w' := (w5.alloc (.cells #[.string t, .int .i64 u] 84))) rfl rfl (by go_simp) ⟨hS5a, ?_⟩)
        rotate_left
        refine held_one 1 (by kernel_rfl) (op_value (v := v) (w' := (w5.alloc (.cells #[.string t, .int .i64 u] 84))) rfl rfl (by go_simp) ⟨hS5a, ?_⟩)
        all_goals
          refine held_one 9 (by kernel_rfl) (op_wp rfl rfl (wp_append_lies _ (.tmp 39) (.tmp 46) 32 rfl w3.heap.size 84 i0 (.agg #[.string ⟨#[]⟩, .int .i64 0]) 2 24 Tryz.underlying32 hi hz0 hz1 hz2 rfl (by decide) v k _ (by go_simp) (hrow5.alloc _) ⟨w5.heap.size, 0, none⟩ 1 1 [.string t, .int .i64 u] (by go_simp) rfl (two_new _ _ _ _) (by simp [Value.oneCell']) (by decide) (by unfold maxLen; omega) (by omega) (by simp; omega) (w5.heap.size + 1) (by simp) ?_))
          intro g' cap' w6 hown6 hgrow6 _ hlt6
          obtain ⟨hbx6, hrow7, hgA⟩ := item_stored hbx5 hrow5 (by omega) hown6 hgrow6
          have hvb : v.ownBlock ≠ some wr.heap.size := fun e => by have := (hvw.out _ e).2; omega
          have q0 := (hgrow6.cell_far ⟨wr.heap.size, 0, none⟩ (by simp; omega) (fun e => hvb e.symm)).trans hS5a.1
          have q1 := (hgrow6.cell_far ⟨wr.heap.size, 1, none⟩ (by simp; omega) (fun e => hvb e.symm)).trans hS5a.2
          have hxt : wr.heap.size ≠ tb := by omega
          have q2 := ((grownBy_setCellAt w6 tb 2 (.slice (some ⟨g', 0, none⟩) (k + 1) cap')).cell_far ⟨wr.heap.size, 0, none⟩ (by have := hgrow6.size; simp at this; simp; omega) (fun e => hxt (by cases e; rfl))).trans q0
          have q3 := ((grownBy_setCellAt w6 tb 2 (.slice (some ⟨g', 0, none⟩) (k + 1) cap')).cell_far ⟨wr.heap.size, 1, none⟩ (by have := hgrow6.size; simp at this; simp; omega) (fun e => hxt (by cases e; rfl))).trans q1
          have c6 : w6.cell? ⟨tb, 2, none⟩ = some v := hbx6.cell 2
          have f6 := hbx6.fz 2
          have hS6 : w6.cell? ⟨wr.heap.size, 0, none⟩ = some (.string t) ∧ w6.cell? ⟨wr.heap.size, 1, none⟩ = some (.int .i64 u) := ⟨q0, q1⟩
          have hS7 : (w6.setCell ⟨tb, 2, none⟩ (.slice (some ⟨g', 0, none⟩) (k + 1) cap')).cell? ⟨wr.heap.size, 0, none⟩ = some (.string t) ∧ (w6.setCell ⟨tb, 2, none⟩ (.slice (some ⟨g', 0, none⟩) (k + 1) cap')).cell? ⟨wr.heap.size, 1, none⟩ = some (.int .i64 u) := ⟨q2, q3⟩
          refine ⟨hS6, ?_⟩
          refine wpAnyH_take (i := 10) (v := .pointer (some ⟨tb, 2, none⟩)) rfl (by kernel_rfl) (by kernel_rfl) (by kernel_rfl) (fun _ _ _ h => h) (.inl ⟨rfl, fun w' hS => by obtain ⟨s1, s2⟩ := hS; go_simp⟩) hS6 ?_
          refine held_one 11 (by kernel_rfl) (op_skip (w' := w6.setCell ⟨tb, 2, none⟩ (.slice (some ⟨g', 0, none⟩) (k + 1) cap')) rfl rfl (by go_simp) ⟨hS7, wpAnyH_done (by kernel_rfl) ?_ _⟩)
          have Z7 := hid (hbx6.set 2 (.slice (some ⟨g', 0, none⟩) (k + 1) cap'))
          have O7 := hid hrow7
          have G7 := hid (hgA w3 hg5 rfl)
          clear hS0 hS5 hS5a hS6 hS7 q0 q1 q2 q3 hbx6 hrow7 hgA hown6 hgrow6 c6 f6 l5 l5a l0 hbx5 hrow5 hg5 hb5
          go_simp
          go_wp2
          refine ⟨⟨k + 1, _, by omega, by go_num, Z7.out, by rw [HTK.out]; exact O7.out, G7.out⟩, by simp [intOf]; omega⟩
      · obtain rfl : k = its.length := by omega
        rw [List.take_length] at hrow
        have hvf : ∃ av cv, v = .slice av its.length cv := by
          rcases hrow with ⟨_, ⟨rfl, h0⟩ | ⟨g, cap, cur, rfl, _⟩⟩
          · exact ⟨none, 0, by rw [h0]⟩
          · exact ⟨_, cap, rfl⟩
        obtain ⟨av, cv, rfl⟩ := hvf
        have hne0 : w.heap.size ≠ tb := by omega
        have RR := R3.out.kept hg (fun e => hne0 (by cases e; rfl))
        have PP := P3.out.kept hg (.inr hvn)
        have HBR := hid (B3.out.grown hg (by omega) (fun g e => by cases e; omega))
        have b0 : wr.cell? ⟨tb, 0, none⟩ = some (.int .i64 wd) := hbx.cell 0
        have b1 : wr.cell? ⟨tb, 1, none⟩ = some (.int .i64 room) := hbx.cell 1
        have b2 : wr.cell? ⟨tb, 2, none⟩ = some (.slice av its.length cv) := hbx.cell 2
        have b3 : wr.cell? ⟨tb, 3, none⟩ = some (.slice ap ts.length cp) := hbx.cell 3
        have s := RR.store4 (.int .i64 wd) (.int .i64 room) (.slice av its.length cv) (.slice ap ts.length cp)
        have s0 := s.a0; have s1 := s.a1; have s2 := s.a2; have s3 := s.a3
        have f0 := s.f0; have f1 := s.f1; have f2 := s.f2; have f3 := s.f3
        have Z := hid s.z
        have GG := fun (x : World) (i : Nat) (y : Value) => grownBy_setCellAt x w.heap.size i y
        have hv1 : (Value.slice av its.length cv).ownBlock ≠ some w.heap.size := fun e => by have := (hrow.lt _ e).1; omega
        have hv2 : (Value.slice ap ts.length cp).ownBlock ≠ some w.heap.size := fun e => by have := (HLP.out _ e).1; omega
        have OI := hid ((((hrow.kept (GG _ 0 (.int .i64 wd)) (.inr hv1)).kept (GG _ 1 (.int .i64 room)) (.inr hv1)).kept (GG _ 2 (.slice av its.length cv)) (.inr hv1)).kept (GG _ 3 (.slice ap ts.length cp)) (.inr hv1))
        have OP := hid ((((PP.kept (GG _ 0 (.int .i64 wd)) (.inr hv2)).kept (GG _ 1 (.int .i64 room)) (.inr hv2)).kept (GG _ 2 (.slice av its.length cv)) (.inr hv2)).kept (GG _ 3 (.slice ap ts.length cp)) (.inr hv2))
        have BB := hid ((((HBR.out.setCell (p := ⟨w.heap.size, 0, none⟩) (Nat.le_refl _) (.int .i64 wd)).setCell (p := ⟨w.heap.size, 1, none⟩) (Nat.le_refl _) (.int .i64 room)).setCell (p := ⟨w.heap.size, 2, none⟩) (Nat.le_refl _) (.slice av its.length cv)).setCell (p := ⟨w.heap.size, 3, none⟩) (Nat.le_refl _) (.slice ap ts.length cp))
        have HAP : Hid (∀ g, (Value.slice av its.length cv).ownBlock = some g → (Value.slice ap ts.length cp).ownBlock ≠ some g) := fun g e e2 => by have h1 := (hrow.lt g e).1; have h2 := (P3.out.lt g e2).2; have h3 := (HLP.out g e2).2; omega
        clear s RR PP GG hbx hrow hg
        go_wp2
        refine bodyPost_ret (v := .agg #[.int .i64 wd, .int .i64 room, .slice av its.length cv, .slice ap ts.length cp]) (by simp [results, Tryz.results58, go_sem, Z.out.cell]) rfl ⟨_, _, rfl, ownsRow_base2 OI.out (by omega), OP.out, HAP.out, BB.out⟩
end Go.Proofs.YtlnkhbnbcmllaaaGreat
