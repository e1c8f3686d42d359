import Derived.Test.YtkjdabnglcabiaaGreatDoorMakeRoom
import Derived.Test.YtkjdabnglcabiaaGreatDoorUnpinMath
/- An item put in among items, and into their map. -/
namespace Go.Proofs.YtkjdabnglcabiaaGreatDoor
open Go.RowKit
abbrev AscI (wd : Int) (its : Itms) : Prop := Asc (its.map fun p => sumX wd p.1)
theorem AscI.lt {wd : Int} {its : Itms} (h : AscI wd its) : (sumsL wd its).Pairwise (· < ·) := by
 have := List.Pairwise.map (f := fun b : ByteArray => b.data.toList) (S := (· < ·)) (fun a b hab => tlt_lt hab) h
 simpa [sumsL, Function.comp_def] using this
theorem ascI_of {wd : Int} {its : Itms} (h : ∀ i, i < its.length → itemOk wd its i) : AscI wd its := by
 refine asc_of _ fun i h0 hi => ?_
 have hl : i < its.length := by simpa using hi
 have h1 := (h i hl).2.2 h0
 have e : ∀ j, j < its.length → tv (its.map fun p => sumX wd p.1) j = sumX wd (itx its j) := fun j hj => by simp [tv, itx, hj]
 rw [e i hl, e (i - 1) (by omega)]
 exact h1
theorem AscI.sub {wd : Int} {a b : Itms} (h : AscI wd b) (hs : a.Sublist b) : AscI wd a := List.Pairwise.sublist (hs.map _) h
theorem ins_map (wd : Int) (its : Itms) (t : ByteArray) (now : Int) (hn : ∀ p, p ∈ its → sumX wd p.1 ≠ sumX wd t) : (insI wd its t now).map (fun p => sumX wd p.1) = putT (sumX wd t) (its.map fun p => sumX wd p.1) := by
 unfold insI putT
 rw [if_neg]
 ·rw [List.map_append, List.map_cons, List.map_take, List.map_drop]
  rfl
 ·rintro ⟨h1, h2⟩
  have hl : cutN (sumX wd t) (its.map fun p => sumX wd p.1) < its.length := by simpa using h1
  refine hn _ (List.getElem_mem hl) (Eq.trans ?_ h2)
  simp [tv, hl]
theorem ins_asc {wd : Int} {its : Itms} {t : ByteArray} {now : Int} (h : AscI wd its) (hn : ∀ p, p ∈ its → sumX wd p.1 ≠ sumX wd t) : AscI wd (insI wd its t now) := by
 unfold AscI
 rw [ins_map wd its t now hn]
 exact putT_asc h
theorem ins_mem (wd : Int) (its : Itms) (t : ByteArray) (now : Int) (p : ByteArray × Int) : p ∈ insI wd its t now ↔ p = (t, now) ∨ p ∈ its := by
 unfold insI
 constructor
 ·intro h
  rcases List.mem_append.1 h with h | h
  ·exact .inr (List.mem_of_mem_take h)
  ·rcases List.mem_cons.1 h with h | h
   ·exact .inl h
   ·exact .inr (List.mem_of_mem_drop h)
 ·rintro (rfl | h)
  ·simp
  ·rw [← List.take_append_drop (cutI wd (sumX wd t) its) its] at h
   rcases List.mem_append.1 h with h | h
   ·exact List.mem_append.2 (.inl h)
   ·exact List.mem_append.2 (.inr (List.mem_cons_of_mem _ h))
theorem ins_tot (wd : Int) (its : Itms) (t : ByteArray) (now : Int) : totI (insI wd its t now) = totI its + t.size := by
 unfold insI
 have h := totI_append (its.take (cutI wd (sumX wd t) its)) (its.drop (cutI wd (sumX wd t) its))
 rw [List.take_append_drop] at h
 rw [totI_append, totI, h]
 show totI _ + (t.size + totI _) = _
 omega
theorem ins_len (wd : Int) (its : Itms) (t : ByteArray) (now : Int) : (insI wd its t now).length = its.length + 1 := by
 unfold insI
 have h := congrArg List.length (List.take_append_drop (cutI wd (sumX wd t) its) its)
 rw [List.length_append] at h
 rw [List.length_append, List.length_cons]
 omega
theorem set_mem {wd : Int} {its : Itms} (hN : (sumsL wd its).Pairwise (· < ·)) (i : Nat) (hi : i < its.length) (q p : ByteArray × Int) : p ∈ its.set i q ↔ p = q ∨ (p ∈ its ∧ p ≠ its[i]) := by
 have e : its.set i q = its.take i ++ q :: its.drop (i + 1) := by rw [List.set_eq_take_append_cons_drop, if_pos hi]
 have e2 : its.eraseIdx i = its.take i ++ its.drop (i + 1) := List.eraseIdx_eq_take_drop_succ _ _
 rw [← mem_erase hN i hi, e, e2]
 simp only [List.mem_append, List.mem_cons]
 constructor
 ·rintro (h | h | h)
  ·exact .inr (.inl h)
  ·exact .inl h
  ·exact .inr (.inr h)
 ·rintro (h | h | h)
  ·exact .inr (.inl h)
  ·exact .inl h
  ·exact .inr (.inr h)
theorem set_map (wd : Int) (its : Itms) (i : Nat) (t : ByteArray) (now : Int) (hi : i < its.length) (ht : itx its i = t) : (its.set i (t, now)).map (fun p => sumX wd p.1) = its.map fun p => sumX wd p.1 := by
 rw [List.map_set]
 apply List.ext_getElem?
 intro j
 by_cases e : i = j
 ·subst e
  rw [List.getElem?_set_self (by simpa using hi), List.getElem?_map, List.getElem?_eq_getElem hi]
  simp [← ht, itx, hi]
 ·rw [List.getElem?_set_ne e]
theorem set_tot : ∀ (its : Itms) (i : Nat) (t : ByteArray) (now : Int), i < its.length → itx its i = t → totI (its.set i (t, now)) = totI its
 | [], _, _, _, h, _ => absurd h (by simp)
 | p :: r, 0, t, now, _, ht => by
  have : p.1 = t := ht
  simp [totI, this]
 | p :: r, i + 1, t, now, h, ht => by
  have := set_tot r i t now (by simpa using h) ht
  simp [totI, this]
/-- The map of items with one put in. -/
theorem put_ins {w : World} {b m : Nat} {wd : Int} {its : Itms} {t : ByteArray} {now : Int} (hown : w.ownsMap Tryz.prog 9 itemElem b m ((mapI wd its its.length).put (.string (sumX wd t).data.toList) (datI (t, now)))) (h : AscI wd its) (hn : ∀ p, p ∈ its → sumX wd p.1 ≠ sumX wd t) : (mapI wd its its.length).put (.string (sumX wd t).data.toList) (datI (t, now)) = mapI wd (insI wd its t now) (insI wd its t now).length := by
 refine map_is hown (ins_asc h hn).lt (fun x => ?_) (fun p hp z => ?_)
 ·by_cases e : x = (sumX wd t).data.toList
  ·subst e
   rw [Maps.has_put_same (mapI_tidy wd its its.length).isMap (key_lit9 _) _]
   exact ⟨fun _ => mem_sumsL ((ins_mem wd its t now (t, now)).2 (.inl rfl)), fun _ => rfl⟩
  ·rw [Maps.has_put_other (k := .string (sumX wd t).data.toList) (k' := .string x) (fun e' => e (by injection e')), mapI_all]
   constructor
   ·intro hx
    obtain ⟨p, hp, rfl⟩ := List.mem_map.1 hx
    exact mem_sumsL ((ins_mem wd its t now p).2 (.inr hp))
   ·intro hx
    obtain ⟨p, hp, rfl⟩ := List.mem_map.1 hx
    rcases (ins_mem wd its t now p).1 hp with rfl | hp
    ·exact absurd rfl e
    ·exact mem_sumsL hp
 ·rcases (ins_mem wd its t now p).1 hp with rfl | hp
  ·exact Maps.atKey_put_same (mapI_tidy wd its its.length).isMap (key_lit9 _) _ _
  ·rw [Maps.atKey_put_other (k := .string (sumX wd t).data.toList) (k' := .string (sumX wd p.1).data.toList) (fun e' => hn p hp (bytes_ext (by injection e')))]
   obtain ⟨i, hi, rfl⟩ := List.getElem_of_mem hp
   have h1 := mapI_at wd its h.lt z its.length (Nat.le_refl _) i hi
   rw [itx_get its i hi, itu_get its i hi] at h1
   exact h1
/-- The map of items with one put in anew. -/
theorem put_set {w : World} {b m : Nat} {wd : Int} {its : Itms} {i : Nat} {t : ByteArray} {now : Int} (hown : w.ownsMap Tryz.prog 9 itemElem b m ((mapI wd its its.length).put (.string (sumX wd t).data.toList) (datI (t, now)))) (h : AscI wd its) (hi : i < its.length) (ht : itx its i = t) : (mapI wd its its.length).put (.string (sumX wd t).data.toList) (datI (t, now)) = mapI wd (its.set i (t, now)) (its.set i (t, now)).length := by
 have hs : AscI wd (its.set i (t, now)) := by unfold AscI; rw [set_map wd its i t now hi ht]; exact h
 have hti : its[i].1 = t := by rw [← itx_get its i hi]; exact ht
 have hsums : sumsL wd (its.set i (t, now)) = sumsL wd its := by
  have := congrArg (List.map fun b : ByteArray => b.data.toList) (set_map wd its i t now hi ht)
  simpa [sumsL, Function.comp_def] using this
 refine map_is hown hs.lt (fun x => ?_) (fun p hp z => ?_)
 ·rw [hsums]
  by_cases e : x = (sumX wd t).data.toList
  ·subst e
   rw [Maps.has_put_same (mapI_tidy wd its its.length).isMap (key_lit9 _) _]
   exact ⟨fun _ => by rw [← hti]; exact mem_sumsL (List.getElem_mem hi), fun _ => rfl⟩
  ·rw [Maps.has_put_other (k := .string (sumX wd t).data.toList) (k' := .string x) (fun e' => e (by injection e')), mapI_all]
 ·rcases (set_mem h.lt i hi (t, now) p).1 hp with rfl | ⟨hp, hne⟩
  ·exact Maps.atKey_put_same (mapI_tidy wd its its.length).isMap (key_lit9 _) _ _
  ·have hk : sumX wd p.1 ≠ sumX wd t := fun e => by
    obtain ⟨j, hj, rfl⟩ := List.getElem_of_mem hp
    have := sums_inj (n := wd) h.lt hj hi (by rw [itx_get its j hj, e, ht])
    subst this
    exact hne rfl
   rw [Maps.atKey_put_other (k := .string (sumX wd t).data.toList) (k' := .string (sumX wd p.1).data.toList) (fun e' => hk (bytes_ext (by injection e')))]
   obtain ⟨j, hj, rfl⟩ := List.getElem_of_mem hp
   have h1 := mapI_at wd its h.lt z its.length (Nat.le_refl _) j hj
   rw [itx_get its j hj, itu_get its j hj] at h1
   exact h1
/-- As many entries as the map has. -/
theorem map_tight {w : World} {b m : Nat} {wd : Int} {its : Itms} (h : w.ownsMap Tryz.prog 9 itemElem b m (mapI wd its its.length)) (hN : (sumsL wd its).Pairwise (· < ·)) : w.ownsMap Tryz.prog 9 itemElem b its.length (mapI wd its its.length) := by
 have hs := mapI_size hN its.length (Nat.le_refl _)
 obtain ⟨es, clock, h1, h2, h3, h4⟩ := h
 refine ⟨es, clock, h1, h2, ?_, h4⟩
 rw [h4] at hs
 have hl : ((es.toList.map (WideElems.rg Tryz.prog 9 itemElem)).foldr DataW.insert []).length = es.size := by rw [length_sorted]; simp
 have hs' : ((es.toList.map (WideElems.rg Tryz.prog 9 itemElem)).foldr DataW.insert []).length = its.length := hs
 omega
end Go.Proofs.YtkjdabnglcabiaaGreatDoor
/- (*impl.shelf).put. -/
namespace Go.Proofs.YtkjdabnglcabiaaGreatDoor
open Go.RowKit
/-- A text and a time that may be put in. -/
def Puts (t : ByteArray) (now : Int) : Prop := (1 ≤ t.size ∧ t.size ≤ 7000) ∧ (0 ≤ now ∧ now ≤ 1000000)
/-- What put answers, and what it leaves. -/
def PutW (sb mb : Nat) (vc : Value) (wd room : Int) (Q : ByteArray → Prop) (its : Itms) (t : ByteArray) (now : Int) (w : World) (e : Ending) (w' : World) : Prop :=
 (¬ Puts t now ∧ e = .returned (.int .i64 1) ∧ Below w.heap.size w w') ∨
 (Puts t now ∧ ∃ code its', PutI wd room Q its t now code its' ∧ e = .returned (.int .i64 code) ∧ ((code ≠ 0 ∧ Below w.heap.size w w') ∨ (code = 0 ∧ Blk w' sb 74 #[.int .i64 wd, .int .i64 room, .int .i64 (totI its' : Nat), .map (some mb), vc] ∧ w'.ownsMap Tryz.prog 9 itemElem mb its'.length (mapI wd its' its'.length) ∧ But (fun b => b = sb ∨ b = mb) w w')))
set_option maxRecDepth 100000 in
set_option maxHeartbeats 8000000 in
theorem shelfPut_any (sb mb : Nat) (ac : Option Addr) (cc : Nat) (wd room : Int) (its : Itms) (ts : List ByteArray) (t : ByteArray) (now : Int) (w : World) (hbox : Blk w sb 74 #[.int .i64 wd, .int .i64 room, .int .i64 (totI its : Nat), .map (some mb), .slice ac ts.length cc]) (hmap : w.ownsMap Tryz.prog 9 itemElem mb its.length (mapI wd its its.length)) (hrow : Reads w (.slice ac ts.length cc) ts) (hA : AscI wd its) (hli : its.length ≤ 1000) (hlp : ts.length ≤ 10) (hsp : ∀ i, (tv ts i).size ≤ 1048576) (hsi : ∀ i, (itx its i).size ≤ 1048576) (hW : wd ≤ 8) (hE : Errs w) (htot : totI its ≤ 60000) (hts : t.size ≤ 1048576) (hsm : sb ≠ mb) :
  Calls Tryz.prog 34 #[.pointer (some ⟨sb, 0, none⟩), .string t, .int .i64 now] w (PutW sb mb (.slice ac ts.length cc) wd room (NeedTo wd its ts ts.length) its t now w) := by
 have hBL := fun W => isBlob_any t W (by unfold maxLen; omega)
 have hTM := fun W => isTime_any now W
 by_cases hb : 1 ≤ t.size ∧ t.size ≤ 7000
 case neg =>
  have HNO : Hid (¬ Puts t now) := hid fun h => hb h.1
  rw [decide_eq_false hb] at hBL
  have HBL := hid hBL
  clear hbox hmap hrow hA hsp hsi hE hBL hTM
  go_enter Tryz.func34, Tryz.ntmps34
  go_wp2_with (go_at_call 40; refine (HBL.out _).mono ?_; rintro e w' ⟨rfl, rfl⟩)
  go_ret
  exact .inl ⟨HNO.out, rfl, Below.refl _ _⟩
 by_cases htm : 0 ≤ now ∧ now ≤ 1000000
 case neg =>
  have HNO : Hid (¬ Puts t now) := hid fun h => htm h.2
  rw [decide_eq_true hb] at hBL
  rw [decide_eq_false htm] at hTM
  have HBL := hid hBL
  have HTM := hid hTM
  clear hbox hmap hrow hA hsp hsi hE hBL hTM htm
  go_enter Tryz.func34, Tryz.ntmps34
  go_wp2_with (first | (go_at_call 40; refine (HBL.out _).mono ?_; rintro e w' ⟨rfl, rfl⟩) | (go_at_call 19; refine (HTM.out _).mono ?_; rintro e w' ⟨rfl, rfl⟩))
  go_ret
  exact .inl ⟨HNO.out, rfl, Below.refl _ _⟩
 have HYES : Hid (Puts t now) := hid ⟨hb, htm⟩
 rw [decide_eq_true hb] at hBL
 rw [decide_eq_true htm] at hTM
 have HBL := hid hBL
 have HTM := hid hTM
 have HSM : Hid (Calls Tryz.prog 41 #[.string t, .int .i64 wd] w fun e w' => e = .returned (.string (sumX wd t)) ∧ Below w.heap.size w w') := hid (implSum_any t wd w (by unfold maxLen; omega))
 have hxs := sumX_size wd t
 have HBX := hid hbox
 have HMP := hid hmap
 have HRW := hid hrow
 have HAS := hid hA
 have HER := hid hE
 have HMR := hid fun (W : World) (h1 : Blk W sb 74 #[.int .i64 wd, .int .i64 room, .int .i64 (totI its : Nat), .map (some mb), .slice ac ts.length cc]) (h2 : W.ownsMap Tryz.prog 9 itemElem mb its.length (mapI wd its its.length)) (h3 : Reads W (.slice ac ts.length cc) ts) (h4 : Errs W) => makeRoom_any sb mb ac cc wd room its ts t.size W h1 h2 h3 hA.lt hli hlp hsp hsi hW h4 htot hb.2 hsm
 have y0 : w.cell? ⟨sb, 0, none⟩ = some (.int .i64 wd) := hbox.cell 0
 have hmbl := hmap.lt
 have hsbl := hbox.lt
 clear hbox hmap hrow hA hsp hsi hE hBL hTM htm
 go_enter Tryz.func34, Tryz.ntmps34
 go_wp2_with (first | (go_at_call 40; refine (HBL.out _).mono ?_; rintro e w' ⟨rfl, hw'⟩; have hw'' := hw'.symm; subst hw''; clear hw') | (go_at_call 19; refine (HTM.out _).mono ?_; rintro e w' ⟨rfl, hw'⟩; have hw'' := hw'.symm; subst hw''; clear hw'))
 refine HSM.out.mono ?_
 rintro e w1 ⟨rfl, hb1⟩
 have HB1 := hid hb1
 have X1 := HBX.out.below hb1
 have M1 := HMP.out.kept (grown_of_below hb1) (by simp)
 have y3 : w1.cell? ⟨sb, 3, none⟩ = some (.map (some mb)) := X1.cell 3
 have y3' : ∀ o, (w1.alloc o).cell? ⟨sb, 3, none⟩ = some (.map (some mb)) := fun o => (X1.alloc o).cell 3
 have HX1 := hid X1
 have HM1 := hid M1
 have hs1 := hb1.size
 clear hb1 y0 X1
 by_cases hfound : ∃ i, i < its.length ∧ sumX wd (itx its i) = sumX wd t
 ·obtain ⟨i, hil, hsum⟩ := hfound
  have hh : Maps.has (mapI wd its its.length) (.string (sumX wd t).data.toList) = true := (mapI_all wd its _).2 (by rw [← hsum, itx_get its i hil]; exact mem_sumsL (List.getElem_mem hil))
  have hat : (mapI wd its its.length).atKey (.string (sumX wd t).data.toList) (datI (⟨#[]⟩, 0)) = datI (itx its i, itu its i) := by rw [← hsum]; exact mapI_at wd its HAS.out.lt _ its.length (Nat.le_refl _) i hil
  obtain ⟨t0, ht0⟩ : ∃ x, itx its i = x := ⟨_, rfl⟩
  obtain ⟨u0, hu0⟩ : ∃ x, itu its i = x := ⟨_, rfl⟩
  rw [ht0, hu0] at hat
  by_cases he : t0.toList = t.toList
  ·have he' : (t0.toList == t.toList) = true := by simpa using he
   have htt : t0 = t := text_eq he
   have HPI : Hid (PutI wd room (NeedTo wd its ts ts.length) its t now 0 (its.set i (t, now))) := hid (.there i hil hsum (by rw [ht0, htt]))
   have HST := hid fun (W : World) (m : Nat) h => put_set (w := W) (b := mb) (m := m) (wd := wd) (its := its) (i := i) (t := t) (now := now) h HAS.out hil (by rw [ht0, htt])
   have HTO := hid (set_tot its i t now hil (by rw [ht0, htt]))
   have hm2 := M1.alloc (.cells #[.string t0, .int .i64 u0] 59)
   have HX2 := hid (HX1.out.alloc (.cells #[.string t0, .int .i64 u0] 59))
   have HL2 : Hid ((its.set i (t, now)).length = its.length) := hid (List.length_set ..)
   have HAS2 : Hid (AscI wd (its.set i (t, now))) := hid (by unfold AscI; rw [set_map wd its i t now hil (by rw [ht0, htt])]; exact HAS.out)
   generalize hX : sumX wd t = x at *
   clear he htt hsum ht0 hu0
   go_wp2_with (first | (at_lookup; refine wpList_look_item _ rfl _ _ rfl mb its.length (mapI wd its its.length) (by go_simp) M1 x (by unfold maxLen; omega) (by go_simp) t0 u0 hat true hh ?_) | (at_mapUpdate; refine wpList_mapUpdate_own _ rfl _ _ _ 72 rfl 9 59 keyed9 Tryz.underlying72 itemElem mb its.length (mapI wd its its.length) rfl hm2 (by unfold maxLen; omega) _ _ _ rfl rfl (key9 x (by unfold maxLen; omega)) _ [] (itemElem_mk t now) ?_; intro w4 hm4 hg4))
   go_ret
   have hBT : But (fun b => b = sb ∨ b = mb) w w4 := (But.of_below (HB1.out.alloc hs1 (.cells #[.string t0, .int .i64 u0] 59))).trans (But.of_grown (P := fun b => b = mb) hg4 rfl) (fun _ _ h => .inr h)
   have X4 := HX2.out.kept hg4 (fun e => hsm (Option.some.inj e))
   have e4 := HST.out w4 (its.length + 1) hm4
   have hm5 : w4.ownsMap Tryz.prog 9 itemElem mb (its.length + 1) (mapI wd (its.set i (t, now)) (its.set i (t, now)).length) := by rw [← e4]; exact hm4
   have hm6 := map_tight hm5 HAS2.out.lt
   rw [← HTO.out] at X4
   exact .inr ⟨HYES.out, 0, _, HPI.out, rfl, .inr ⟨rfl, X4, hm6, hBT⟩⟩
  ·have he' : (t0.toList == t.toList) = false := by simpa using he
   have HPI : Hid (PutI wd room (NeedTo wd its ts ts.length) its t now 2 its) := hid (.other i hil hsum (by rw [ht0]; exact fun e => he (by rw [e])))
   have HB2 := hid (HB1.out.alloc hs1 (.cells #[.string t0, .int .i64 u0] 59))
   generalize hX : sumX wd t = x at *
   clear he hsum ht0 hu0
   go_wp2_with (at_lookup; refine wpList_look_item _ rfl _ _ rfl mb its.length (mapI wd its its.length) (by go_simp) M1 x (by unfold maxLen; omega) (by go_simp) t0 u0 hat true hh ?_)
   go_ret
   exact .inr ⟨HYES.out, 2, its, HPI.out, rfl, .inl ⟨by decide, HB2.out⟩⟩
 ·have hno : ∀ i, i < its.length → sumX wd (itx its i) ≠ sumX wd t := fun i hi e => hfound ⟨i, hi, e⟩
  have hh : Maps.has (mapI wd its its.length) (.string (sumX wd t).data.toList) = false := by
   cases e : Maps.has (mapI wd its its.length) (.string (sumX wd t).data.toList) with
   | false => rfl
   | true =>
    obtain ⟨p, hp, he⟩ := List.mem_map.1 ((mapI_all wd its _).1 e)
    obtain ⟨i, hi, rfl⟩ := List.getElem_of_mem hp
    exact absurd (by rw [itx_get its i hi]; exact bytes_ext he) (hno i hi)
  have hat : (mapI wd its its.length).atKey (.string (sumX wd t).data.toList) (datI (⟨#[]⟩, 0)) = datI (⟨#[]⟩, 0) := Maps.atKey_of_not_has hh _
  have HNO := hid hno
  have B2 := HB1.out.alloc hs1 (.cells #[.string ⟨#[]⟩, .int .i64 0] 59)
  have HB2 := hid B2
  have HRM := hid (HMR.out (w1.alloc (.cells #[.string ⟨#[]⟩, .int .i64 0] 59)) (HX1.out.alloc (.cells #[.string ⟨#[]⟩, .int .i64 0] 59)) (M1.alloc (.cells #[.string ⟨#[]⟩, .int .i64 0] 59)) (HRW.out.below B2) (HER.out.below B2))
  obtain ⟨x, hX⟩ : ∃ x, x = sumX wd t := ⟨_, rfl⟩
  rw [← hX] at hh hat hxs ⊢
  have HXT := hid hX
  clear hfound hno B2 hX
  go_wp2_with (at_lookup; refine wpList_look_item _ rfl _ _ rfl mb its.length (mapI wd its its.length) (by go_simp) M1 x (by unfold maxLen; omega) (by go_simp) ⟨#[]⟩ 0 hat false hh ?_)
  refine HRM.out.mono ?_
  rintro e w3 (⟨rfl, k, a, haw, hfit, hbef, X3, M3, hbt3⟩ | ⟨rfl, ⟨k, a, haw, hbef, hall⟩, hb3⟩)
  ·have hal := haw.len
   have hAA : AscI wd a := HAS.out.sub haw.sub
   have hna : ∀ p, p ∈ a → sumX wd p.1 ≠ sumX wd t := fun p hp => by
    obtain ⟨i, hi, rfl⟩ := List.getElem_of_mem (haw.sub.subset hp)
    rw [← itx_get its i hi]
    exact HNO.out i hi
   have HPI : Hid (PutI wd room (NeedTo wd its ts ts.length) its t now 0 (insI wd a t now)) := hid (.put k a HNO.out haw hfit hbef)
   have HINS := hid fun (W : World) (m : Nat) h => put_ins (w := W) (b := mb) (m := m) (wd := wd) (its := a) (t := t) (now := now) h hAA hna
   have HIA := hid (ins_asc (now := now) hAA hna)
   have hta := totI_sub haw.sub
   have HTO := hid (ins_tot wd a t now)
   have y3 : w3.cell? ⟨sb, 3, none⟩ = some (.map (some mb)) := X3.cell 3
   have y2 : w3.cell? ⟨sb, 2, none⟩ = some (.int .i64 (totI a : Nat)) := X3.cell 2
   have f2 := X3.fz 2
   have X4 : Blk (w3.setCell ⟨sb, 2, none⟩ (.int .i64 ((totI a : Nat) + (t.size : Nat) : Int))) sb 74 #[.int .i64 wd, .int .i64 room, .int .i64 ((totI a : Nat) + (t.size : Nat) : Int), .map (some mb), .slice ac ts.length cc] := X3.set 2 (.int .i64 ((totI a : Nat) + (t.size : Nat) : Int))
   have y4 : (w3.setCell ⟨sb, 2, none⟩ (.int .i64 ((totI a : Nat) + (t.size : Nat) : Int))).cell? ⟨sb, 3, none⟩ = some (.map (some mb)) := X4.cell 3
   have G4 := grownBy_setCellAt w3 sb 2 (.int .i64 ((totI a : Nat) + (t.size : Nat) : Int))
   have hm4 := M3.kept G4 (fun e => hsm (Option.some.inj e).symm)
   have HX4 := hid X4
   have HBT4 : Hid (But (fun b => b = sb ∨ b = mb) w (w3.setCell ⟨sb, 2, none⟩ (.int .i64 ((totI a : Nat) + (t.size : Nat) : Int)))) := hid (((But.of_below HB2.out).trans hbt3 (fun _ _ h => h)).trans (But.of_grown (P := fun b => b = sb) G4 rfl) (fun _ _ h => .inl h))
   clear haw hfit hbef X3 M3 hbt3 X4 G4 hAA hna
   go_wp2_with (at_mapUpdate; refine wpList_mapUpdate_own _ rfl _ _ _ 72 rfl 9 59 keyed9 Tryz.underlying72 itemElem mb its.length (mapI wd a a.length) rfl hm4 (by unfold maxLen; omega) _ _ _ rfl rfl (key9 x (by unfold maxLen; omega)) _ [] (itemElem_mk t now) ?_; intro w5 hm5 hg5)
   go_ret
   have X5 := HX4.out.kept hg5 (fun e => hsm (Option.some.inj e))
   have e5 : w5.ownsMap Tryz.prog 9 itemElem mb (its.length + 1) ((mapI wd a a.length).put (.string (sumX wd t).data.toList) (datI (t, now))) := by rw [← HXT.out]; exact hm5
   have e6 := HINS.out w5 (its.length + 1) e5
   rw [e6] at e5
   have hm6 := map_tight e5 HIA.out.lt
   have hBT := HBT4.out.trans (But.of_grown (P := fun b => b = mb) hg5 rfl) (fun _ _ h => .inr h)
   rw [show (((totI a : Nat) : Int) + ((t.size : Nat) : Int)) = ((totI (insI wd a t now) : Nat) : Int) by rw [HTO.out]; omega] at X5
   exact .inr ⟨HYES.out, 0, _, HPI.out, rfl, .inr ⟨rfl, X5, hm6, hBT⟩⟩
  ·have HPI : Hid (PutI wd room (NeedTo wd its ts ts.length) its t now 3 its) := hid (.full k a HNO.out haw hbef hall)
   have HB3 := hid (HB2.out.trans (hb3.mono HB2.out.size))
   clear haw hbef hall hb3
   go_wp2
   go_ret
   exact .inr ⟨HYES.out, 3, its, HPI.out, rfl, .inl ⟨by decide, HB3.out⟩⟩
end Go.Proofs.YtkjdabnglcabiaaGreatDoor
/- impl.Put. -/
namespace Go.Proofs.YtkjdabnglcabiaaGreatDoor
open Go.RowKit
/-- What Put answers. -/
def PutR (wd room : Int) (its : Itms) (ts : List ByteArray) (t : ByteArray) (now : Int) (wd' room' : Int) (its' : Itms) (ts' : List ByteArray) (code : Int) : Prop :=
 (¬ (ValidSt wd room its ts ∧ Puts t now) ∧ wd' = 0 ∧ room' = 0 ∧ its' = [] ∧ ts' = [] ∧ code = 1) ∨
 ((ValidSt wd room its ts ∧ Puts t now) ∧ ∃ c a, PutI wd room (NeedTo wd its ts ts.length) its t now c a ∧ code = c ∧ ((c ≠ 0 ∧ wd' = 0 ∧ room' = 0 ∧ its' = [] ∧ ts' = []) ∨ (c = 0 ∧ wd' = wd ∧ room' = room ∧ its' = a ∧ ts' = ts)))
theorem PutI.mem {wd room : Int} {Q : ByteArray → Prop} {its : Itms} {t : ByteArray} {now c : Int} {a : Itms} (h : PutI wd room Q its t now c a) : ∀ p, p ∈ a → p = (t, now) ∨ p ∈ its := by
 cases h with
 | there i hi hs ht => exact fun p hp => (List.mem_or_eq_of_mem_set hp).symm
 | other => exact fun p hp => .inr hp
 | put k b hn hw => exact fun p hp => ((ins_mem wd b t now p).1 hp).imp id (fun h => hw.sub.subset h)
 | full => exact fun p hp => .inr hp
theorem PutI.len {wd room : Int} {Q : ByteArray → Prop} {its : Itms} {t : ByteArray} {now c : Int} {a : Itms} (h : PutI wd room Q its t now c a) : a.length ≤ its.length + 1 := by
 cases h with
 | there i hi hs ht => rw [List.length_set]; omega
 | other => omega
 | put k b hn hw => rw [ins_len]; have := hw.len; omega
 | full => omega
theorem PutI.size {wd room : Int} {Q : ByteArray → Prop} {its : Itms} {t : ByteArray} {now c : Int} {a : Itms} (h : PutI wd room Q its t now c a) {n : Nat} (ht : t.size ≤ n) (hs : ∀ i, (itx its i).size ≤ n) (i : Nat) : (itx a i).size ≤ n := by
 by_cases hi : i < a.length
 ·rw [itx_get a i hi]
  rcases h.mem _ (List.getElem_mem hi) with e | e
  ·rw [e]; exact ht
  ·obtain ⟨j, hj, he⟩ := List.getElem_of_mem e
   have := hs j
   rw [itx_get its j hj, he] at this
   exact this
 ·unfold itx
  rw [List.getD_eq_getElem?_getD, List.getElem?_eq_none (by omega)]
  show (0 : Nat) ≤ n
  omega
theorem PutI.asc {wd room : Int} {Q : ByteArray → Prop} {its : Itms} {t : ByteArray} {now c : Int} {a : Itms} (h : PutI wd room Q its t now c a) (hA : AscI wd its) : AscI wd a := by
 cases h with
 | there i hi hs ht => unfold AscI; rw [set_map wd its i t now hi ht]; exact hA
 | other => exact hA
 | put k b hn hw =>
  refine ins_asc (hA.sub hw.sub) fun p hp => ?_
  obtain ⟨i, hi, rfl⟩ := List.getElem_of_mem (hw.sub.subset hp)
  rw [← itx_get its i hi]
  exact hn i hi
 | full => exact hA
set_option maxRecDepth 100000 in
set_option maxHeartbeats 4000000 in
theorem implPut_any (wd room : Int) (vi vp : Value) (its : Itms) (ts : List ByteArray) (t : ByteArray) (now : Int) (w : World) (hi : RdI w vi its) (hp : Reads w vp ts) (hli : its.length ≤ 1048576) (hlp : ts.length ≤ 1048576) (hsi : ∀ i, (itx its i).size ≤ 1048576) (hsp : ∀ i, (tv ts i).size ≤ 1048576) (hts : t.size ≤ 1048576) (hE : Errs w) :
  Calls Tryz.prog 11 #[.agg #[.int .i64 wd, .int .i64 room, vi, vp], .string t, .int .i64 now] w fun e w' => ∃ wd' room' its' ts' code vi' vp', e = .returned (.tuple #[.agg #[.int .i64 wd', .int .i64 room', vi', vp'], .int .i64 code]) ∧ PutR wd room its ts t now wd' room' its' ts' code ∧ StoreOwn w' (w.heap.size + 2) vi' vp' its' ts' ∧ Below w.heap.size w w' := by
 obtain ⟨ai, ci, rfl, hci⟩ := hi
 obtain ⟨ap, cp, rfl, _⟩ := hp.form
 have hi : RdI w (.slice ai its.length ci) its := ⟨ai, ci, rfl, hci⟩
 have hA := ((Below.refl w.heap.size w).alloc (Nat.le_refl _) (.cells #[.int .i64 wd, .int .i64 room, .slice ai its.length ci, .slice ap ts.length cp] 26)).alloc (by simp) (.cells #[.int .i64 0, .int .i64 0, .slice none 0 0, .slice none 0 0] 26)
 have hN7 := Blk.new (w.alloc (.cells #[.int .i64 wd, .int .i64 room, .slice ai its.length ci, .slice ap ts.length cp] 26)) 26 #[.int .i64 0, .int .i64 0, .slice none 0 0, .slice none 0 0]
 rw [World.size_alloc] at hN7
 have HN7 := hid hN7
 have HO := hid (openStore_any wd room _ _ its ts _ (hi.below hA) (hp.below hA) hli hlp hsi hsp)
 have HA := hid hA
 have HSI := hid hsi
 have HSP := hid hsp
 have HE := hid hE
 clear hi hp hA hN7 hsi hsp hci hE
 go_enter Tryz.func11, Tryz.ntmps11
 go_wp2_with fail
 refine HO.out.mono ?_
 rintro e w1 (⟨hn, rfl, hb1⟩ | ⟨hv, sb, mb, vc, rfl, hsh, hb1⟩)
 ·have N7 := HN7.out.below hb1
  have B1 := HA.out.trans (hb1.mono (by simp; omega))
  have HF : Hid (PutR wd room its ts t now 0 0 [] [] 1) := .inl ⟨fun h => hn h.1, rfl, rfl, rfl, rfl, rfl⟩
  have s9 := N7.store4 (.int .i64 0) (.int .i64 0) (.slice none 0 0) (.slice none 0 0)
  have s0 := s9.a0; have s1 := s9.a1; have s2 := s9.a2; have s3 := s9.a3
  have k0 := s9.f0; have k1 := s9.f1; have k2 := s9.f2; have k3 := s9.f3
  have Z := hid s9.z
  have BB := hid ((((B1.setCell (p := ⟨w.heap.size + 1, 0, none⟩) (by simp) (.int .i64 0)).setCell (p := ⟨w.heap.size + 1, 1, none⟩) (by simp) (.int .i64 0)).setCell (p := ⟨w.heap.size + 1, 2, none⟩) (by simp) (.slice none 0 0)).setCell (p := ⟨w.heap.size + 1, 3, none⟩) (by simp) (.slice none 0 0))
  clear s9
  clear N7 B1 hn hb1
  go_wp2
  refine bodyPost_ret (v := .tuple #[.agg #[.int .i64 0, .int .i64 0, .slice none 0 0, .slice none 0 0], .int .i64 1]) (by simp [results, Tryz.results11, go_sem, Z.out.cell]) rfl ⟨0, 0, [], [], 1, _, _, rfl, HF.out, StoreOwn.none _ _, BB.out⟩
 have N7 := HN7.out.below hb1
 have B1 := HA.out.trans (hb1.mono (by simp; omega))
 have hsbl := hsh.hs
 have hmbl := hsh.hm
 simp only [World.size_alloc] at hsbl hmbl
 have hrl : ∀ g, vc.ownBlock = some g → w.heap.size + 1 + 1 ≤ g := fun g e => by have := (hsh.row.lt g e).1; simpa using this
 obtain ⟨ac, cc, rfl, _⟩ := row_form hsh.row
 have hbx := hsh.box
 rw [List.take_length] at hbx
 have hwd := of_decide_eq_true hv.width
 have HUP := hid (shelfPut_any sb mb ac cc wd room its ts t now w1 hbx hsh.map (Reads.of_row hsh.row) (ascI_of hv.each) hv.items hv.pins HSP.out HSI.out hwd.2 (HE.out.below B1) (by have h1 := hv.fits; have h2 := hv.room1; omega) hts hsh.ne)
 have HVAL := hid hv
 have hs7 := N7.lt
 have hslt := hsh.box.lt
 have hn7 := hid N7
 have hb7 := hid B1
 have HRW := hid hsh.row
 have hns := hsh.ns
 have hnm := hsh.nm
 clear hsh hb1 N7 B1 hrl hv hbx hwd
 go_wp2_with fail
 refine HUP.out.mono ?_
 rintro e w2 (⟨hnp, rfl, hb2⟩ | ⟨hpt, code, a, hpi, rfl, ⟨hc, hb2⟩ | ⟨rfl, X2, M2, hbt2⟩⟩)
 ·have HF : Hid (PutR wd room its ts t now 0 0 [] [] 1) := .inl ⟨fun h => hnp h.2, rfl, rfl, rfl, rfl, rfl⟩
  have N2 := hn7.out.below hb2
  have B2 := hb7.out.trans (hb2.mono hb7.out.size)
  go_wp2_with fail
  refine (answer_no sb 1 _ (by decide)).mono ?_
  rintro e w3 ⟨rfl, hb3⟩
  have N3 := N2.below hb3
  have B3 := B2.trans (hb3.mono B2.size)
  have s9 := N3.store4 (.int .i64 0) (.int .i64 0) (.slice none 0 0) (.slice none 0 0)
  have s0 := s9.a0; have s1 := s9.a1; have s2 := s9.a2; have s3 := s9.a3
  have k0 := s9.f0; have k1 := s9.f1; have k2 := s9.f2; have k3 := s9.f3
  have Z := hid s9.z
  have BB := hid ((((B3.setCell (p := ⟨w.heap.size + 1, 0, none⟩) (by simp) (.int .i64 0)).setCell (p := ⟨w.heap.size + 1, 1, none⟩) (by simp) (.int .i64 0)).setCell (p := ⟨w.heap.size + 1, 2, none⟩) (by simp) (.slice none 0 0)).setCell (p := ⟨w.heap.size + 1, 3, none⟩) (by simp) (.slice none 0 0))
  clear s9
  clear N2 B2 N3 B3 hb2 hb3 hnp
  go_wp2
  refine bodyPost_ret (v := .tuple #[.agg #[.int .i64 0, .int .i64 0, .slice none 0 0, .slice none 0 0], .int .i64 1]) (by simp [results, Tryz.results11, go_sem, Z.out.cell]) rfl ⟨0, 0, [], [], 1, _, _, rfl, HF.out, StoreOwn.none _ _, BB.out⟩
 ·have HF : Hid (PutR wd room its ts t now 0 0 [] [] code) := .inr ⟨⟨HVAL.out, hpt⟩, code, a, hpi, rfl, .inl ⟨hc, rfl, rfl, rfl, rfl⟩⟩
  have N2 := hn7.out.below hb2
  have B2 := hb7.out.trans (hb2.mono hb7.out.size)
  go_wp2_with fail
  refine (answer_no sb code _ hc).mono ?_
  rintro e w3 ⟨rfl, hb3⟩
  have N3 := N2.below hb3
  have B3 := B2.trans (hb3.mono B2.size)
  have s9 := N3.store4 (.int .i64 0) (.int .i64 0) (.slice none 0 0) (.slice none 0 0)
  have s0 := s9.a0; have s1 := s9.a1; have s2 := s9.a2; have s3 := s9.a3
  have k0 := s9.f0; have k1 := s9.f1; have k2 := s9.f2; have k3 := s9.f3
  have Z := hid s9.z
  have BB := hid ((((B3.setCell (p := ⟨w.heap.size + 1, 0, none⟩) (by simp) (.int .i64 0)).setCell (p := ⟨w.heap.size + 1, 1, none⟩) (by simp) (.int .i64 0)).setCell (p := ⟨w.heap.size + 1, 2, none⟩) (by simp) (.slice none 0 0)).setCell (p := ⟨w.heap.size + 1, 3, none⟩) (by simp) (.slice none 0 0))
  clear s9
  clear N2 B2 N3 B3 hb2 hb3 hpt hpi hc
  go_wp2
  refine bodyPost_ret (v := .tuple #[.agg #[.int .i64 0, .int .i64 0, .slice none 0 0, .slice none 0 0], .int .i64 code]) (by simp [results, Tryz.results11, go_sem, Z.out.cell]) rfl ⟨0, 0, [], [], code, _, _, rfl, HF.out, StoreOwn.none _ _, BB.out⟩
 ·have hAA := hpi.asc (ascI_of HVAL.out.each)
  have hal := hpi.len
  have bel2 := hbt2.below (B := w.heap.size + 2) (by omega) (fun b h => h.elim (fun h => by omega) (fun h => by omega))
  have N2 := hn7.out.belowAt bel2 (by omega)
  have B2 := hb7.out.trans (bel2.mono (by omega))
  have R2 := hbt2.row HRW.out (fun g e h => h.elim (fun h => hns (by rw [e, h])) (fun h => hnm (by rw [e, h])))
  have HAN := hid (answer_yes sb mb a.length (.slice ac ts.length cc) wd room _ a ts (mapI wd a a.length) w2 X2 M2 (mapI_tidy wd a a.length) hAA.lt (fun x => (mapI_all wd a x).symm) (fun j hj z => mapI_at wd a hAA.lt z a.length (Nat.le_refl _) j hj) (Reads.of_row R2) (by have := HVAL.out.items; omega) hlp HSP.out (hpi.size hts HSI.out))
  have HF : Hid (PutR wd room its ts t now wd room a ts 0) := .inr ⟨⟨HVAL.out, hpt⟩, 0, a, hpi, rfl, .inr ⟨rfl, rfl, rfl, rfl, rfl⟩⟩
  have hn2 := hid N2
  have hb2 := hid B2
  have hs2 := N2.lt
  clear X2 M2 hbt2 bel2 N2 B2 R2 hAA hpi hpt hal
  go_wp2_with fail
  refine HAN.out.mono ?_
  rintro e w3 ⟨v3, p3, rfl, so3, hb3⟩
  obtain ⟨a8, c8, rfl⟩ := row_any so3.items
  obtain ⟨b8, d8, rfl⟩ := row_any so3.pins
  have N3 := hn2.out.below hb3
  have B3 := hb2.out.trans (hb3.mono hb2.out.size)
  have s9 := N3.store4 (.int .i64 wd) (.int .i64 room) (.slice a8 a.length c8) (.slice b8 ts.length d8)
  have s0 := s9.a0; have s1 := s9.a1; have s2 := s9.a2; have s3 := s9.a3
  have k0 := s9.f0; have k1 := s9.f1; have k2 := s9.f2; have k3 := s9.f3
  have Z := hid s9.z
  have BB := hid ((((B3.setCell (p := ⟨w.heap.size + 1, 0, none⟩) (by simp) (.int .i64 wd)).setCell (p := ⟨w.heap.size + 1, 1, none⟩) (by simp) (.int .i64 room)).setCell (p := ⟨w.heap.size + 1, 2, none⟩) (by simp) (.slice a8 a.length c8)).setCell (p := ⟨w.heap.size + 1, 3, none⟩) (by simp) (.slice b8 ts.length d8))
  clear s9
  have GG := fun (x : World) (j : Nat) (y : Value) => grownBy_setCellAt x (w.heap.size + 1) j y
  have SO4 := hid ((((so3.kept (GG _ 0 (.int .i64 wd)) (by omega)).kept (GG _ 1 (.int .i64 room)) (by omega)).kept (GG _ 2 (.slice a8 a.length c8)) (by omega)).kept (GG _ 3 (.slice b8 ts.length d8)) (by omega))
  clear GG so3 hb3 N3 B3
  go_wp2
  refine bodyPost_ret (v := .tuple #[.agg #[.int .i64 wd, .int .i64 room, .slice a8 a.length c8, .slice b8 ts.length d8], .int .i64 0]) (by simp [results, Tryz.results11, go_sem, Z.out.cell]) rfl ⟨wd, room, a, ts, 0, _, _, rfl, HF.out, SO4.out.base (by omega), BB.out⟩
end Go.Proofs.YtkjdabnglcabiaaGreatDoor
