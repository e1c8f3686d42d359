/- An item put in among items, and into their map. -/
import Derived.Test.YtffpdgpcjgfgcaaGreatDoorMakeRoom
namespace Go.Proofs.YtffpdgpcjgfgcaaGreatDoor
open Go.RowKit
abbrev AscI (wd : Int) (its : Itms) : Prop := Asc (its.map fun p => sumX wd p.1)
theorem AscI.lt {wd : Int} {its : Itms} (h : AscI wd its) : (sumsL wd its).Pairwise (· < ·) := by
  have := List.Pairwise.map (f := fun b : ByteArray => b.data.toList) (S := (· < ·)) (fun a b hab => tlt_lt hab) h
  simpa [sumsL, Function.comp_def] using this
theorem ascI_of {wd : Int} {its : Itms} (h : ∀ i, i < its.length → itemOk wd its i) : AscI wd its := by
  refine asc_of _ fun i h0 hi => ?_
  have hl : i < its.length := by simpa using hi
  have h1 := (h i hl).2.2 h0
  have e : ∀ j, j < its.length → tv (its.map fun p => sumX wd p.1) j = sumX wd (itx its j) := fun j hj => by simp [tv, itx, hj]
  rw [e i hl, e (i - 1) (by omega)]
  exact h1
theorem AscI.sub {wd : Int} {a b : Itms} (h : AscI wd b) (hs : a.Sublist b) : AscI wd a := List.Pairwise.sublist (hs.map _) h
theorem ins_map (wd : Int) (its : Itms) (t : ByteArray) (now : Int) (hn : ∀ p, p ∈ its → sumX wd p.1 ≠ sumX wd t) : (insI wd its t now).map (fun p => sumX wd p.1) = putT (sumX wd t) (its.map fun p => sumX wd p.1) := by
  unfold insI putT
  rw [if_neg]
  · rw [List.map_append, List.map_cons, List.map_take, List.map_drop]
    rfl
  · rintro ⟨h1, h2⟩
    have hl : cutN (sumX wd t) (its.map fun p => sumX wd p.1) < its.length := by simpa using h1
    refine hn _ (List.getElem_mem hl) (Eq.trans ?_ h2)
    simp [tv, hl]
theorem ins_asc {wd : Int} {its : Itms} {t : ByteArray} {now : Int} (h : AscI wd its) (hn : ∀ p, p ∈ its → sumX wd p.1 ≠ sumX wd t) : AscI wd (insI wd its t now) := by
  unfold AscI
  rw [ins_map wd its t now hn]
  exact putT_asc h
theorem ins_mem (wd : Int) (its : Itms) (t : ByteArray) (now : Int) (p : ByteArray × Int) : p ∈ insI wd its t now ↔ p = (t, now) ∨ p ∈ its := by
  unfold insI
  constructor
  · intro h
    rcases List.mem_append.1 h with h | h
    · exact .inr (List.mem_of_mem_take h)
    · rcases List.mem_cons.1 h with h | h
      · exact .inl h
      · exact .inr (List.mem_of_mem_drop h)
  · rintro (rfl | h)
    · simp
    · rw [← List.take_append_drop (cutI wd (sumX wd t) its) its] at h
      rcases List.mem_append.1 h with h | h
      · exact List.mem_append.2 (.inl h)
      · exact List.mem_append.2 (.inr (List.mem_cons_of_mem _ h))
theorem ins_tot (wd : Int) (its : Itms) (t : ByteArray) (now : Int) : totI (insI wd its t now) = totI its + t.size := by
  unfold insI
  have h := totI_append (its.take (cutI wd (sumX wd t) its)) (its.drop (cutI wd (sumX wd t) its))
  rw [List.take_append_drop] at h
  rw [totI_append, totI, h]
  show totI _ + (t.size + totI _) = _
  omega
theorem ins_len (wd : Int) (its : Itms) (t : ByteArray) (now : Int) : (insI wd its t now).length = its.length + 1 := by
  unfold insI
  have h := congrArg List.length (List.take_append_drop (cutI wd (sumX wd t) its) its)
  rw [List.length_append] at h
  rw [List.length_append, List.length_cons]
  omega
theorem set_mem {wd : Int} {its : Itms} (hN : (sumsL wd its).Pairwise (· < ·)) (i : Nat) (hi : i < its.length) (q p : ByteArray × Int) : p ∈ its.set i q ↔ p = q ∨ (p ∈ its ∧ p ≠ its[i]) := by
  have e : its.set i q = its.take i ++ q :: its.drop (i + 1) := by rw [List.set_eq_take_append_cons_drop, if_pos hi]
  have e2 : its.eraseIdx i = its.take i ++ its.drop (i + 1) := List.eraseIdx_eq_take_drop_succ _ _
  rw [← mem_erase hN i hi, e, e2]
  simp only [List.mem_append, List.mem_cons]
  constructor
  · rintro (h | h | h)
    · exact .inr (.inl h)
    · exact .inl h
    · exact .inr (.inr h)
  · rintro (h | h | h)
    · exact .inr (.inl h)
    · exact .inl h
    · exact .inr (.inr h)
theorem set_map (wd : Int) (its : Itms) (i : Nat) (t : ByteArray) (now : Int) (hi : i < its.length) (ht : itx its i = t) : (its.set i (t, now)).map (fun p => sumX wd p.1) = its.map fun p => sumX wd p.1 := by
  rw [List.map_set]
  apply List.ext_getElem?
  intro j
  by_cases e : i = j
  · subst e
    rw [List.getElem?_set_self (by simpa using hi), List.getElem?_map, List.getElem?_eq_getElem hi]
    simp [← ht, itx, hi]
  · rw [List.getElem?_set_ne e]
theorem set_tot : ∀ (its : Itms) (i : Nat) (t : ByteArray) (now : Int), i < its.length → itx its i = t → totI (its.set i (t, now)) = totI its
  | [], _, _, _, h, _ => absurd h (by simp)
  | p :: r, 0, t, now, _, ht => by
    have : p.1 = t := ht
    simp [totI, this]
  | p :: r, i + 1, t, now, h, ht => by
    have := set_tot r i t now (by simpa using h) ht
    simp [totI, this]
/-- The map of items with one put in. -/
theorem put_ins {w : World} {b m : Nat} {wd : Int} {its : Itms} {t : ByteArray} {now : Int} (hown : w.ownsMap Tryz.prog 9 itemElem b m ((mapI wd its its.length).put (.string (sumX wd t).data.toList) (datI (t, now)))) (h : AscI wd its) (hn : ∀ p, p ∈ its → sumX wd p.1 ≠ sumX wd t) : (mapI wd its its.length).put (.string (sumX wd t).data.toList) (datI (t, now)) = mapI wd (insI wd its t now) (insI wd its t now).length := by
  refine map_is hown (ins_asc h hn).lt (fun x => ?_) (fun p hp z => ?_)
  · by_cases e : x = (sumX wd t).data.toList
    · subst e
      rw [Maps.has_put_same (mapI_tidy wd its its.length).isMap (key_lit9 _) _]
      exact ⟨fun _ => mem_sumsL ((ins_mem wd its t now (t, now)).2 (.inl rfl)), fun _ => rfl⟩
    · rw [Maps.has_put_other (k := .string (sumX wd t).data.toList) (k' := .string x) (fun e' => e (by injection e')), mapI_all]
      constructor
      · intro hx
        obtain ⟨p, hp, rfl⟩ := List.mem_map.1 hx
        exact mem_sumsL ((ins_mem wd its t now p).2 (.inr hp))
      · intro hx
        obtain ⟨p, hp, rfl⟩ := List.mem_map.1 hx
        rcases (ins_mem wd its t now p).1 hp with rfl | hp
        · exact absurd rfl e
        · exact mem_sumsL hp
  · rcases (ins_mem wd its t now p).1 hp with rfl | hp
    · exact Maps.atKey_put_same (mapI_tidy wd its its.length).isMap (key_lit9 _) _ _
    · rw [Maps.atKey_put_other (k := .string (sumX wd t).data.toList) (k' := .string (sumX wd p.1).data.toList) (fun e' => hn p hp (bytes_ext (by injection e')))]
      obtain ⟨i, hi, rfl⟩ := List.getElem_of_mem hp
      have h1 := mapI_at wd its h.lt z its.length (Nat.le_refl _) i hi
      rw [itx_get its i hi, itu_get its i hi] at h1
      exact h1
/-- The map of items with one put in anew. -/
theorem put_set {w : World} {b m : Nat} {wd : Int} {its : Itms} {i : Nat} {t : ByteArray} {now : Int} (hown : w.ownsMap Tryz.prog 9 itemElem b m ((mapI wd its its.length).put (.string (sumX wd t).data.toList) (datI (t, now)))) (h : AscI wd its) (hi : i < its.length) (ht : itx its i = t) : (mapI wd its its.length).put (.string (sumX wd t).data.toList) (datI (t, now)) = mapI wd (its.set i (t, now)) (its.set i (t, now)).length := by
  have hs : AscI wd (its.set i (t, now)) := by unfold AscI; rw [set_map wd its i t now hi ht]; exact h
  have hti : its[i].1 = t := by rw [← itx_get its i hi]; exact ht
  have hsums : sumsL wd (its.set i (t, now)) = sumsL wd its := by
    have := congrArg (List.map fun b : ByteArray => b.data.toList) (set_map wd its i t now hi ht)
    simpa [sumsL, Function.comp_def] using this
  refine map_is hown hs.lt (fun x => ?_) (fun p hp z => ?_)
  · rw [hsums]
    by_cases e : x = (sumX wd t).data.toList
    · subst e
      rw [Maps.has_put_same (mapI_tidy wd its its.length).isMap (key_lit9 _) _]
      exact ⟨fun _ => by rw [← hti]; exact mem_sumsL (List.getElem_mem hi), fun _ => rfl⟩
    · rw [Maps.has_put_other (k := .string (sumX wd t).data.toList) (k' := .string x) (fun e' => e (by injection e')), mapI_all]
  · rcases (set_mem h.lt i hi (t, now) p).1 hp with rfl | ⟨hp, hne⟩
    · exact Maps.atKey_put_same (mapI_tidy wd its its.length).isMap (key_lit9 _) _ _
    · have hk : sumX wd p.1 ≠ sumX wd t := fun e => by
        obtain ⟨j, hj, rfl⟩ := List.getElem_of_mem hp
        have := sums_inj (n := wd) h.lt hj hi (by rw [itx_get its j hj, e, ht])
        subst this
        exact hne rfl
      rw [Maps.atKey_put_other (k := .string (sumX wd t).data.toList) (k' := .string (sumX wd p.1).data.toList) (fun e' => hk (bytes_ext (by injection e')))]
      obtain ⟨j, hj, rfl⟩ := List.getElem_of_mem hp
      have h1 := mapI_at wd its h.lt z its.length (Nat.le_refl _) j hj
      rw [itx_get its j hj, itu_get its j hj] at h1
      exact h1
/-- As many entries as the map has. -/
theorem map_tight {w : World} {b m : Nat} {wd : Int} {its : Itms} (h : w.ownsMap Tryz.prog 9 itemElem b m (mapI wd its its.length)) (hN : (sumsL wd its).Pairwise (· < ·)) : w.ownsMap Tryz.prog 9 itemElem b its.length (mapI wd its its.length) := by
  have hs := mapI_size hN its.length (Nat.le_refl _)
  obtain ⟨es, clock, h1, h2, h3, h4⟩ := h
  refine ⟨es, clock, h1, h2, ?_, h4⟩
  rw [h4] at hs
  have hl : ((es.toList.map (WideElems.rg Tryz.prog 9 itemElem)).foldr DataW.insert []).length = es.size := by rw [length_sorted]; simp
  have hs' : ((es.toList.map (WideElems.rg Tryz.prog 9 itemElem)).foldr DataW.insert []).length = its.length := hs
  omega
end Go.Proofs.YtffpdgpcjgfgcaaGreatDoor
