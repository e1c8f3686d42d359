/- The map of a valid store's items: its keys in order, what lies under them. -/
import Derived.Test.YtlnkhbnbcmllaaaGreatOpenStore
import Derived.Sort.KeysCollected
import Derived.Sort.Walk0
import Derived.Maps.Views
namespace Go.Proofs.YtlnkhbnbcmllaaaGreat
open Go.RowKit Go.Sort
/-- The sums of items. -/
def sumsL (n : Int) (its : Itms) : List (List UInt8) := its.map fun p => (sumX n p.1).data.toList
/-- An item as a datum. -/
def datI (p : ByteArray × Int) : DataW Unit := .agg [.lit (.string p.1.data.toList), .lit (.int .i64 p.2)]
theorem sumsL_len (n : Int) (its : Itms) : (sumsL n its).length = its.length := by simp [sumsL]
theorem sumsL_get (n : Int) (its : Itms) (i : Nat) (h : i < its.length) : (sumsL n its)[i]? = some (sumX n (itx its i)).data.toList := by simp [sumsL, itx, h]
theorem tlt_lt {a b : ByteArray} (h : tlt a b = true) : a.data.toList < b.data.toList := by
  unfold tlt at h
  rw [bytesLess_eq, decide_eq_true_eq, ByteArray.toList_eq, ByteArray.toList_eq] at h
  exact h
/-- A valid store's sums ascend. -/
theorem sums_asc {n : Int} : ∀ {its : Itms}, (∀ i, i < its.length → itemOk n its i) → (sumsL n its).Pairwise (· < ·) := by
  intro its h
  have hA : Asc (its.map fun p => sumX n p.1) := by
    refine asc_of _ fun i h0 hi => ?_
    have hl : i < its.length := by simpa using hi
    have h1 := (h i hl).2.2 h0
    have e : ∀ j, j < its.length → tv (its.map fun p => sumX n p.1) j = sumX n (itx its j) := fun j hj => by simp [tv, itx, hj]
    rw [e i hl, e (i - 1) (by omega)]
    exact h1
  have := List.Pairwise.map (f := fun b : ByteArray => b.data.toList) (S := (· < ·)) (fun a b hab => tlt_lt hab) hA
  simpa [sumsL, Function.comp_def] using this
theorem mapI_succ (n : Int) (its : Itms) (k : Nat) : mapI n its (k + 1) = (mapI n its k).put (.string (sumX n (itx its k)).data.toList) (datI (itx its k, itu its k)) := rfl
theorem key_lit9 (x : List UInt8) : WideAt.IsKeyLit (.string x) := trivial
theorem mapI_tidy (n : Int) (its : Itms) : ∀ k, Maps.Tidy (mapI n its k)
  | 0 => Maps.tidy_empty
  | k + 1 => (mapI_tidy n its k).put (key_lit9 _) _
theorem mapI_has (n : Int) (its : Itms) (x : List UInt8) : ∀ k, k ≤ its.length → (Maps.has (mapI n its k) (.string x) = true ↔ x ∈ (sumsL n its).take k)
  | 0, _ => by simp [mapI, Maps.has_eq]
  | k + 1, h => by
    have ih := mapI_has n its x k (by omega)
    have hg := sumsL_get n its k (by omega)
    have e : (sumsL n its).take (k + 1) = (sumsL n its).take k ++ [(sumX n (itx its k)).data.toList] := by
      rw [List.take_add_one, hg]; rfl
    rw [e, List.mem_append, List.mem_singleton]
    by_cases hx : x = (sumX n (itx its k)).data.toList
    · subst hx
      exact ⟨fun _ => .inr rfl, fun _ => by rw [mapI_succ]; exact Maps.has_put_same (mapI_tidy n its k).isMap (key_lit9 _) _⟩
    · rw [mapI_succ, Maps.has_put_other (k := .string (sumX n (itx its k)).data.toList) (k' := .string x) (fun e => hx (by injection e)), ih]
      exact ⟨.inl, fun h => h.elim id (fun e => absurd e hx)⟩
theorem mapI_at (n : Int) (its : Itms) (hN : (sumsL n its).Pairwise (· < ·)) (z : DataW Unit) : ∀ k, k ≤ its.length → ∀ i, i < k → (mapI n its k).atKey (.string (sumX n (itx its i)).data.toList) z = datI (itx its i, itu its i)
  | 0, _, i, hi => by omega
  | k + 1, h, i, hi => by
    by_cases e : i = k
    · subst e
      rw [mapI_succ]
      exact Maps.atKey_put_same (mapI_tidy n its i).isMap (key_lit9 _) _ _
    · rw [mapI_succ, Maps.atKey_put_other (k := .string (sumX n (itx its k)).data.toList) (k' := .string (sumX n (itx its i)).data.toList) (fun e2 => ?_)]
      · exact mapI_at n its hN z k (by omega) i (by omega)
      · have e3 : (sumX n (itx its i)).data.toList = (sumX n (itx its k)).data.toList := by injection e2
        have h1 := List.pairwise_iff_getElem.1 hN i k (by rw [sumsL_len]; omega) (by rw [sumsL_len]; omega) (by omega)
        have g1 := List.getElem_of_getElem? (sumsL_get n its i (by omega))
        have g2 := List.getElem_of_getElem? (sumsL_get n its k (by omega))
        obtain ⟨_, g1⟩ := g1
        obtain ⟨_, g2⟩ := g2
        rw [g1, g2, e3] at h1
        exact absurd h1 (List.lt_irrefl _)
/-- The keys of a map, sorted. -/
theorem sorted_keys {w : World} {b m : Nat} {D : DataW Unit} (hown : w.ownsMap Tryz.prog 9 itemElem b m D) (ht : Maps.Tidy D) {S : List (List UInt8)} (hS : S.Pairwise (· < ·)) (hm : ∀ x, x ∈ S ↔ Maps.has D (.string x) = true) {ss : List (List UInt8)} (hp : ss.Perm (strKeys D)) :
    ss.mergeSort (fun x y => decide (x ≤ y)) = S := by
  obtain ⟨es, rfl, he⟩ := ht
  have hk : ∀ p ∈ es, ∃ x, p.1 = .string x := by
    obtain ⟨es', e', hk'⟩ := hown.keysOf
    cases e'
    intro p hp
    obtain ⟨key, hkey⟩ := hk' p hp
    obtain ⟨x, _, h2, _⟩ := Maps.keyOf_str Tryz.underlying9 hkey
    exact ⟨x, h2⟩
  have hnd : S.Nodup := hS.imp fun h e => by subst e; exact List.lt_irrefl _ h
  have h1 : ss.Perm S := hp.trans (perm_strKeys he hk hnd hm).symm
  rw [mergeSort_of_perm h1]
  refine List.mergeSort_of_pairwise (hS.imp fun h => ?_)
  simpa using List.le_of_lt h
end Go.Proofs.YtlnkhbnbcmllaaaGreat
