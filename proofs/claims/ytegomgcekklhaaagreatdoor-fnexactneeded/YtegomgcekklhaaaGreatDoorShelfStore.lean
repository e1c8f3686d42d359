import Derived.Test.YtegomgcekklhaaaGreatDoorValidSpec
import Derived.Test.YtegomgcekklhaaaGreatDoorOpenStore
import Derived.Sort.KeysCollected
import Derived.Sort.Walk0
import Derived.Maps.Views
import Derived.Test.YtegomgcekklhaaaGreatDoorStoreTo
import Derived.Deep.AppendLies
/- spec.l4At: the place of the item with a sum. -/
namespace Go.Proofs.YtegomgcekklhaaaGreatDoor
open Go.RowKit
/-- Where a sum is found. -/
def AtR (wd : Int) (its : Itms) (s : ByteArray) (r : Int) : Prop := (r = -1 ∧ ∀ i, i < its.length → sumX wd (itx its i) ≠ s) ∨ ∃ i : Nat, i < its.length ∧ r = (i : Int) ∧ sumX wd (itx its i) = s
set_option maxRecDepth 100000 in
set_option maxHeartbeats 1000000 in
theorem l4At_any (wd room : Int) (vi vp : Value) (its : Itms) (s : ByteArray) (w : World) (hi : RdI w vi its) (hp : ∃ a l c, vp = .slice a l c) (hl : its.length ≤ 1048576) (hsz : ∀ i, (itx its i).size ≤ 1048576) :
    Calls Tryz.prog 49 #[.agg #[.int .i64 wd, .int .i64 room, vi, vp], .string s] w fun e w' => ∃ r, e = .returned (.int .i64 r) ∧ AtR wd its s r ∧ Below w.heap.size w w' := by
  obtain ⟨ap, lp, cp, rfl⟩ := hp
  obtain ⟨ai, ci, rfl, hci⟩ := hi
  have hA := (Below.refl w.heap.size w).alloc (Nat.le_refl _) (.cells #[.int .i64 wd, .int .i64 room, .slice ai its.length ci, .slice ap lp cp] 30)
  have HN := hid (Blk.new w 30 #[.int .i64 wd, .int .i64 room, .slice ai its.length ci, .slice ap lp cp])
  have HRI := hid (show RdI w (.slice ai its.length ci) its from ⟨ai, ci, rfl, hci⟩)
  have HA := hid hA
  have HSZ := hid hsz
  have HS := hid fun (t : ByteArray) (ht : t.size ≤ 1048576) W => specSum_any t wd W (by unfold maxLen; omega)
  have hec := enters_of Tryz.func30 (by kernel_rfl) rfl
  clear hci hA hsz
  go_enter Tryz.func49, Tryz.ntmps49
  go_wp2
  go_loopw [5] (fun i wr => ∃ k : Nat, k ≤ its.length ∧ i = .int .i64 k ∧ (∀ j, j < k → sumX wd (itx its j) ≠ s) ∧ Blk wr w.heap.size 30 #[.int .i64 wd, .int .i64 room, .slice ai its.length ci, .slice ap lp cp] ∧ Below w.heap.size w wr) (fun i _ => its.length - (intOf i).toNat)
  case atStart => exact ⟨0, Nat.zero_le _, rfl, fun j hj => absurd hj (by omega), HN.out, HA.out⟩
  case round =>
    obtain ⟨k, hk, rfl, hno, hbx, hb⟩ := hrel
    have x0 : wr.cell? ⟨w.heap.size, 0, none⟩ = some (.int .i64 wd) := hbx.cell 0
    have x2 : wr.cell? ⟨w.heap.size, 2, none⟩ = some (.slice ai its.length ci) := hbx.cell 2
    have HBX := hid hbx
    have HNO := hid hno
    have HB := hid hb
    clear hno
    by_cases hlt : k < its.length
    · obtain ⟨a', c', e', hc⟩ := HRI.out.below hb
      cases e'
      obtain ⟨b, o, rfl, hbk, h3, _⟩ := hc k hlt
      have HSk : Hid (∀ W, Calls Tryz.prog 30 #[.string (itx its k), .int .i64 wd] W fun e w' => e = .returned (.string (sumX wd (itx its k))) ∧ Below W.heap.size W w') := fun W => HS.out (itx its k) (HSZ.out k) W
      generalize hsx : sumX wd (itx its k) = x at *
      have HSX := hid hsx
      generalize htx : itx its k = t at *
      have HTX := hid htx
      clear hc hbx hb hsx htx
      have hS0 : wr.drew.cell? ⟨w.heap.size, 0, none⟩ = some (.int .i64 wd) ∧ wr.drew.cell? ⟨w.heap.size, 2, none⟩ = some (.slice (some ⟨b, o, none⟩) its.length ci) ∧ wr.drew.cell? ⟨b, o + k * 2, none⟩ = some (.string t) := ⟨x0, x2, h3⟩
      go_wp2_with fail
      refine wp_region_held (S := fun w' => w'.cell? ⟨w.heap.size, 0, none⟩ = some (.int .i64 wd) ∧ w'.cell? ⟨w.heap.size, 2, none⟩ = some (.slice (some ⟨b, o, none⟩) its.length ci) ∧ w'.cell? ⟨b, o + k * 2, none⟩ = some (.string t)) (by kernel_rfl) ?_
      change wpAnyH _ _ _ _ _ _ _ _ (World.drew _)
      refine wpAnyH_take (i := 0) (v := .pointer (some ⟨w.heap.size, 2, none⟩)) rfl (by kernel_rfl) (by kernel_rfl) (by kernel_rfl) (fun _ _ _ h => h) (.inl ⟨rfl, fun w' hS => by obtain ⟨s1, s2, s3⟩ := hS; go_simp⟩) hS0 ?_
      refine wpAnyH_take (i := 1) (v := .slice (some ⟨b, o, none⟩) its.length ci) rfl (by kernel_rfl) (by kernel_rfl) (by kernel_rfl) (fun _ _ _ h => h) (.inl ⟨rfl, fun w' hS => by obtain ⟨s1, s2, s3⟩ := hS; go_simp⟩) hS0 ?_
      refine wpAnyH_take (i := 2) (v := .int .i64 (k : Nat)) rfl (by kernel_rfl) (by kernel_rfl) (by kernel_rfl) (fun _ _ _ h => h) (.inl ⟨rfl, fun w' hS => by obtain ⟨s1, s2, s3⟩ := hS; go_simp⟩) hS0 ?_
      refine wpAnyH_take (i := 3) (v := .pointer (some ⟨b, o + k * 2, none⟩)) rfl (by kernel_rfl) (by kernel_rfl) (by kernel_rfl) (fun _ _ _ h => h) (.inl ⟨rfl, fun w' hS => by obtain ⟨s1, s2, s3⟩ := hS; go_simp⟩) hS0 ?_
      refine wpAnyH_take (i := 4) (v := .pointer (some ⟨b, o + k * 2, none⟩)) rfl (by kernel_rfl) (by kernel_rfl) (by kernel_rfl) (fun _ _ _ h => h) (.inl ⟨rfl, fun w' hS => by obtain ⟨s1, s2, s3⟩ := hS; go_simp⟩) hS0 ?_
      refine wpAnyH_take (i := 5) (v := .string t) rfl (by kernel_rfl) (by kernel_rfl) (by kernel_rfl) (fun _ _ _ h => h) (.inl ⟨rfl, fun w' hS => by obtain ⟨s1, s2, s3⟩ := hS; go_simp⟩) hS0 ?_
      refine wpAnyH_take (i := 6) (v := .pointer (some ⟨w.heap.size, 0, none⟩)) rfl (by kernel_rfl) (by kernel_rfl) (by kernel_rfl) (fun _ _ _ h => h) (.inl ⟨rfl, fun w' hS => by obtain ⟨s1, s2, s3⟩ := hS; go_simp⟩) hS0 ?_
      refine wpAnyH_take (i := 7) (v := .int .i64 wd) rfl (by kernel_rfl) (by kernel_rfl) (by kernel_rfl) (fun _ _ _ h => h) (.inl ⟨rfl, fun w' hS => by obtain ⟨s1, s2, s3⟩ := hS; go_simp⟩) hS0 ?_
      refine wpAnyH_take (i := 9) (v := .string s) rfl (by kernel_rfl) (by kernel_rfl) (by kernel_rfl) (fun _ _ _ h => h) (.inl ⟨rfl, fun w' hS => by obtain ⟨s1, s2, s3⟩ := hS; go_simp⟩) hS0 ?_
      refine held_one 8 (by kernel_rfl) (op_calls (f := 30) (args := #[.string t, .int .i64 wd]) rfl rfl (by go_simp) (HSk.out _) ?_)
      rintro e w1 ⟨rfl, hb1⟩
      have hb1' : Below wr.heap.size wr w1 := ⟨hb1.os, hb1.tape, hb1.output, hb1.size, hb1.block⟩
      have X1 := HBX.out.below hb1'
      have hS1 : w1.cell? ⟨w.heap.size, 0, none⟩ = some (.int .i64 wd) ∧ w1.cell? ⟨w.heap.size, 2, none⟩ = some (.slice (some ⟨b, o, none⟩) its.length ci) ∧ w1.cell? ⟨b, o + k * 2, none⟩ = some (.string t) := ⟨X1.cell 0, X1.cell 2, (hb1'.cell (p := ⟨b, o + k * 2, none⟩) hbk).trans h3⟩
      have HB1 := hid (HB.out.trans (hb1'.mono HB.out.size))
      have HX1 := hid X1
      clear hb1 hb1' hS0 x0 x2 h3 X1
      refine ⟨_, rfl, hS1, ?_⟩
      cases hx : (x.toList == s.toList) with
      | true =>
        have HE : Hid (x = s) := text_eq (eq_of_beq hx)
        refine wpAnyH_take (i := 10) (v := .bool true) rfl (by kernel_rfl) (by kernel_rfl) (by kernel_rfl) (fun _ _ _ h => h) (.inl ⟨rfl, fun w' hS => by obtain ⟨s1, s2, s3⟩ := hS; go_simp⟩) hS1 ?_
        refine wpAnyH_done (by kernel_rfl) ?_ _
        clear hS1 hx
        go_simp
        go_wp2
        go_ret
        exact ⟨_, rfl, .inr ⟨k, hlt, rfl, by rw [HTX.out, HSX.out]; exact HE.out⟩, HB1.out⟩
      | false =>
        have HE : Hid (x ≠ s) := fun e => by rw [e] at hx; simp at hx
        refine wpAnyH_take (i := 10) (v := .bool false) rfl (by kernel_rfl) (by kernel_rfl) (by kernel_rfl) (fun _ _ _ h => h) (.inl ⟨rfl, fun w' hS => by obtain ⟨s1, s2, s3⟩ := hS; go_simp⟩) hS1 ?_
        refine wpAnyH_done (by kernel_rfl) ?_ _
        clear hS1 hx
        go_simp
        go_wp2
        refine ⟨⟨k + 1, by omega, by go_num, fun j hj => (Nat.lt_or_eq_of_le (Nat.le_of_lt_succ hj)).elim (HNO.out j) (fun e => by rw [e, HTX.out, HSX.out]; exact HE.out), HX1.out, HB1.out⟩, by simp [intOf]; omega⟩
    · obtain rfl : k = its.length := by omega
      clear hbx hb
      go_wp2
      go_ret
      exact ⟨-1, rfl, .inl ⟨rfl, HNO.out⟩, HB.out⟩
end Go.Proofs.YtegomgcekklhaaaGreatDoor
/- The map of a valid store's items: its keys in order, what lies under them. -/
namespace Go.Proofs.YtegomgcekklhaaaGreatDoor
open Go.RowKit Go.Sort
/-- The sums of items. -/
def sumsL (n : Int) (its : Itms) : List (List UInt8) := its.map fun p => (sumX n p.1).data.toList
/-- An item as a datum. -/
def datI (p : ByteArray × Int) : DataW Unit := .agg [.lit (.string p.1.data.toList), .lit (.int .i64 p.2)]
theorem sumsL_len (n : Int) (its : Itms) : (sumsL n its).length = its.length := by simp [sumsL]
theorem sumsL_get (n : Int) (its : Itms) (i : Nat) (h : i < its.length) : (sumsL n its)[i]? = some (sumX n (itx its i)).data.toList := by simp [sumsL, itx, h]
theorem tlt_lt {a b : ByteArray} (h : tlt a b = true) : a.data.toList < b.data.toList := by
  unfold tlt at h
  rw [bytesLess_eq, decide_eq_true_eq, ByteArray.toList_eq, ByteArray.toList_eq] at h
  exact h
/-- A valid store's sums ascend. -/
theorem sums_asc {n : Int} : ∀ {its : Itms}, (∀ i, i < its.length → itemOk n its i) → (sumsL n its).Pairwise (· < ·) := by
  intro its h
  have hA : Asc (its.map fun p => sumX n p.1) := by
    refine asc_of _ fun i h0 hi => ?_
    have hl : i < its.length := by simpa using hi
    have h1 := (h i hl).2.2 h0
    have e : ∀ j, j < its.length → tv (its.map fun p => sumX n p.1) j = sumX n (itx its j) := fun j hj => by simp [tv, itx, hj]
    rw [e i hl, e (i - 1) (by omega)]
    exact h1
  have := List.Pairwise.map (f := fun b : ByteArray => b.data.toList) (S := (· < ·)) (fun a b hab => tlt_lt hab) hA
  simpa [sumsL, Function.comp_def] using this
theorem mapI_succ (n : Int) (its : Itms) (k : Nat) : mapI n its (k + 1) = (mapI n its k).put (.string (sumX n (itx its k)).data.toList) (datI (itx its k, itu its k)) := rfl
theorem key_lit9 (x : List UInt8) : WideAt.IsKeyLit (.string x) := trivial
theorem mapI_tidy (n : Int) (its : Itms) : ∀ k, Maps.Tidy (mapI n its k)
  | 0 => Maps.tidy_empty
  | k + 1 => (mapI_tidy n its k).put (key_lit9 _) _
theorem mapI_has (n : Int) (its : Itms) (x : List UInt8) : ∀ k, k ≤ its.length → (Maps.has (mapI n its k) (.string x) = true ↔ x ∈ (sumsL n its).take k)
  | 0, _ => by simp [mapI, Maps.has_eq]
  | k + 1, h => by
    have ih := mapI_has n its x k (by omega)
    have hg := sumsL_get n its k (by omega)
    have e : (sumsL n its).take (k + 1) = (sumsL n its).take k ++ [(sumX n (itx its k)).data.toList] := by
      rw [List.take_add_one, hg]; rfl
    rw [e, List.mem_append, List.mem_singleton]
    by_cases hx : x = (sumX n (itx its k)).data.toList
    · subst hx
      exact ⟨fun _ => .inr rfl, fun _ => by rw [mapI_succ]; exact Maps.has_put_same (mapI_tidy n its k).isMap (key_lit9 _) _⟩
    · rw [mapI_succ, Maps.has_put_other (k := .string (sumX n (itx its k)).data.toList) (k' := .string x) (fun e => hx (by injection e)), ih]
      exact ⟨.inl, fun h => h.elim id (fun e => absurd e hx)⟩
theorem mapI_at (n : Int) (its : Itms) (hN : (sumsL n its).Pairwise (· < ·)) (z : DataW Unit) : ∀ k, k ≤ its.length → ∀ i, i < k → (mapI n its k).atKey (.string (sumX n (itx its i)).data.toList) z = datI (itx its i, itu its i)
  | 0, _, i, hi => by omega
  | k + 1, h, i, hi => by
    by_cases e : i = k
    · subst e
      rw [mapI_succ]
      exact Maps.atKey_put_same (mapI_tidy n its i).isMap (key_lit9 _) _ _
    · rw [mapI_succ, Maps.atKey_put_other (k := .string (sumX n (itx its k)).data.toList) (k' := .string (sumX n (itx its i)).data.toList) (fun e2 => ?_)]
      · exact mapI_at n its hN z k (by omega) i (by omega)
      · have e3 : (sumX n (itx its i)).data.toList = (sumX n (itx its k)).data.toList := by injection e2
        have h1 := List.pairwise_iff_getElem.1 hN i k (by rw [sumsL_len]; omega) (by rw [sumsL_len]; omega) (by omega)
        have g1 := List.getElem_of_getElem? (sumsL_get n its i (by omega))
        have g2 := List.getElem_of_getElem? (sumsL_get n its k (by omega))
        obtain ⟨_, g1⟩ := g1
        obtain ⟨_, g2⟩ := g2
        rw [g1, g2, e3] at h1
        exact absurd h1 (List.lt_irrefl _)
/-- The keys of a map, sorted. -/
theorem sorted_keys {w : World} {b m : Nat} {D : DataW Unit} (hown : w.ownsMap Tryz.prog 9 itemElem b m D) (ht : Maps.Tidy D) {S : List (List UInt8)} (hS : S.Pairwise (· < ·)) (hm : ∀ x, x ∈ S ↔ Maps.has D (.string x) = true) {ss : List (List UInt8)} (hp : ss.Perm (strKeys D)) :
    ss.mergeSort (fun x y => decide (x ≤ y)) = S := by
  obtain ⟨es, rfl, he⟩ := ht
  have hk : ∀ p ∈ es, ∃ x, p.1 = .string x := by
    obtain ⟨es', e', hk'⟩ := hown.keysOf
    cases e'
    intro p hp
    obtain ⟨key, hkey⟩ := hk' p hp
    obtain ⟨x, _, h2, _⟩ := Maps.keyOf_str Tryz.underlying9 hkey
    exact ⟨x, h2⟩
  have hnd : S.Nodup := hS.imp fun h e => by subst e; exact List.lt_irrefl _ h
  have h1 : ss.Perm S := hp.trans (perm_strKeys he hk hnd hm).symm
  rw [mergeSort_of_perm h1]
  refine List.mergeSort_of_pairwise (hS.imp fun h => ?_)
  simpa using List.le_of_lt h
end Go.Proofs.YtegomgcekklhaaaGreatDoor
/- What is asked of maps.Keys and slices.Sorted. -/
namespace Go.Proofs.YtegomgcekklhaaaGreatDoor
open Go.RowKit Go.Sort
end Go.Proofs.YtegomgcekklhaaaGreatDoor
/- (*shelf).store: the shelf as a store, in memory of its own. -/
namespace Go.Proofs.YtegomgcekklhaaaGreatDoor
open Go.RowKit Go.Sort
theorem itemElem_inv {v : Value} {t : ByteArray} {u : Int} {ps : List MemPlace} (h : itemElem v = some (datI (t, u), ps)) : v = .agg #[.string t, .int .i64 u] := by
  unfold itemElem at h
  split at h
  · rename_i cs
    split at h
    · rename_i t' u' e
      simp only [datI, Option.some.injEq, Prod.mk.injEq, DataW.agg.injEq, List.cons.injEq, DataW.lit.injEq, Lit.string.injEq, Lit.int.injEq, true_and, and_true] at h
      obtain ⟨⟨h1, h2⟩, _⟩ := h
      have e1 : t' = t := text_eq (by rw [ByteArray.toList_eq, ByteArray.toList_eq]; exact h1)
      subst e1 h2
      have : cs = #[Value.string t', Value.int .i64 u'] := by
        apply Array.ext'
        exact e
      rw [this]
    · cases h
  · cases h
theorem zvItem (w : World) : (zeroValue 59).run Tryz.prog w = .ok (.agg #[.string ⟨#[]⟩, .int .i64 0]) w := by kernel_rfl
/-- 'm[k]' of the map of items. -/
theorem wpList_lookup_item {ops : Array Oper} {rest : List Oper} {o : Oper} {a : Act} {Q : Exit → Act → World → Prop} (w : World) (hg : o.guard = none) (m x : Operand) (hop : o.op = Op.lookup 69 m x false) (b n : Nat) (D : DataW Unit)
    (hm : a.eval m = .map (some b)) (hown : w.ownsMap Tryz.prog 9 itemElem b n D) (s : ByteArray) (hs : s.size ≤ maxLen) (hx : a.eval x = .string s) (t : ByteArray) (u : Int) (hat : ∀ z, D.atKey (.string s.data.toList) z = datI (t, u))
    (hK : wpList Tryz.prog ops Q rest (a.put o.dst (.agg #[.string t, .int .i64 u])) w) : wpList Tryz.prog ops Q (o :: rest) a w := by
  refine wpList_plain hg fun K' hK' => ?_
  obtain ⟨v, ps, hrun, hv⟩ := hown.lookup keyed9 Tryz.underlying69 (zvItem w) (itemElem_mk ⟨#[]⟩ 0) (key9 s hs)
  rw [hat] at hv
  obtain rfl := itemElem_inv hv
  unfold Oper.wp
  simp [execOp, hop, hm, hx, hrun, Result.andThen]
  exact hK' _ _ hK
theorem ownsRow_base2 {w : World} {base base' size n : Nat} {e : TypeId} {v : Value} {xs : List Value} (h : w.ownsRow base e size v n xs) (hb : base' ≤ base) : w.ownsRow base' e size v n xs := by
  obtain ⟨h1, h2⟩ := h
  refine ⟨h1, ?_⟩
  rcases h2 with h2 | ⟨g, cap, cur, e1, hg, r⟩
  · exact .inl h2
  · exact .inr ⟨g, cap, cur, e1, Nat.le_trans hb hg, r⟩
theorem grown_refl2 (A : World) (o : Option Nat) : A.grownBy A o := ⟨rfl, rfl, rfl, Nat.le_refl _, fun _ _ _ => rfl⟩
/-- What an append into a store's row of items leaves. -/
theorem item_stored {W w6 : World} {n₀ tb k m : Nat} {v v' : Value} {xs ys : List Value} {tmp : Obj} {T : TypeId} {cs : Array Value} (hB : Blk W tb T cs) (hrow : W.ownsRow n₀ 59 2 v k xs) (htb : tb < n₀) (hown' : w6.ownsRow n₀ 59 2 v' m ys) (hgrow : (W.alloc tmp).grownBy w6 v.ownBlock) :
    Blk w6 tb T cs ∧ (w6.setCell ⟨tb, 2, none⟩ v').ownsRow n₀ 59 2 v' m ys ∧ ∀ A : World, A.grownBy W (some tb) → A.heap.size = n₀ → A.grownBy (w6.setCell ⟨tb, 2, none⟩ v') (some tb) := by
  have hlt : ∀ g, v.ownBlock = some g → n₀ ≤ g := fun g e => (hrow.lt g e).1
  have hlt' : ∀ g, v'.ownBlock = some g → n₀ ≤ g := fun g e => (hown'.lt g e).1
  refine ⟨(hB.alloc tmp).kept hgrow (fun e => by have := hlt tb e.symm; omega), hown'.kept (grownBy_setCellAt w6 tb 2 v') (.inr fun e => by have := hlt' tb e; omega), fun A hA hn => ?_⟩
  exact grownBy_trans (grownBy_trans (grownBy_trans hA (World.grownBy_alloc W tmp none) (fun g e => by cases e)) hgrow (fun g e => .inr (by have := hlt g e; omega))) (grownBy_setCellAt w6 tb 2 v') (fun g e => .inl (by cases e; rfl))
theorem two_new (w : World) (x y : Value) (t : TypeId) : ∀ j u, [x, y][j]? = some u → (w.alloc (.cells #[x, y] t)).cell? ((⟨w.heap.size, 0, none⟩ : Addr).add j) = some u := by
  intro j u hj
  have e : (⟨w.heap.size, 0, none⟩ : Addr).add j = ⟨w.heap.size, j, none⟩ := by simp [Addr.add]; intro h; exact h.symm
  rw [e, World.cell?_alloc_new]
  simpa using hj
end Go.Proofs.YtegomgcekklhaaaGreatDoor
