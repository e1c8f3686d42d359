/- (*impl.shelf).put. -/
import Derived.Test.YtffpdgpcjgfgcaaGreatDoorPutMap
namespace Go.Proofs.YtffpdgpcjgfgcaaGreatDoor
open Go.RowKit
/-- A text and a time that may be put in. -/
def Puts (t : ByteArray) (now : Int) : Prop := (1 ≤ t.size ∧ t.size ≤ 7000) ∧ (0 ≤ now ∧ now ≤ 1000000)
/-- What put answers, and what it leaves. -/
def PutW (sb mb : Nat) (vc : Value) (wd room : Int) (Q : ByteArray → Prop) (its : Itms) (t : ByteArray) (now : Int) (w : World) (e : Ending) (w' : World) : Prop :=
  (¬ Puts t now ∧ e = .returned (.int .i64 1) ∧ Below w.heap.size w w') ∨
  (Puts t now ∧ ∃ code its', PutI wd room Q its t now code its' ∧ e = .returned (.int .i64 code) ∧ ((code ≠ 0 ∧ Below w.heap.size w w') ∨ (code = 0 ∧ Blk w' sb 79 #[.int .i64 wd, .int .i64 room, .int .i64 (totI its' : Nat), .map (some mb), vc] ∧ w'.ownsMap Tryz.prog 9 itemElem mb its'.length (mapI wd its' its'.length) ∧ But (fun b => b = sb ∨ b = mb) w w')))
set_option maxRecDepth 100000 in
set_option maxHeartbeats 8000000 in
theorem shelfPut_any (sb mb : Nat) (ac : Option Addr) (cc : Nat) (wd room : Int) (its : Itms) (ts : List ByteArray) (t : ByteArray) (now : Int) (w : World) (hbox : Blk w sb 79 #[.int .i64 wd, .int .i64 room, .int .i64 (totI its : Nat), .map (some mb), .slice ac ts.length cc]) (hmap : w.ownsMap Tryz.prog 9 itemElem mb its.length (mapI wd its its.length)) (hrow : Reads w (.slice ac ts.length cc) ts) (hA : AscI wd its) (hli : its.length ≤ 1000) (hlp : ts.length ≤ 10) (hsp : ∀ i, (tv ts i).size ≤ 1048576) (hsi : ∀ i, (itx its i).size ≤ 1048576) (hW : wd ≤ 8) (hE : Errs w) (htot : totI its ≤ 60000) (hts : t.size ≤ 1048576) (hsm : sb ≠ mb) :
    Calls Tryz.prog 28 #[.pointer (some ⟨sb, 0, none⟩), .string t, .int .i64 now] w (PutW sb mb (.slice ac ts.length cc) wd room (NeedTo wd its ts ts.length) its t now w) := by
  have hBL := fun W => isBlob_any t W (by unfold maxLen; omega)
  have hTM := fun W => isTime_any now W
  by_cases hb : 1 ≤ t.size ∧ t.size ≤ 7000
  case neg =>
    have HNO : Hid (¬ Puts t now) := hid fun h => hb h.1
    rw [decide_eq_false hb] at hBL
    have HBL := hid hBL
    clear hbox hmap hrow hA hsp hsi hE hBL hTM
    go_enter Tryz.func28, Tryz.ntmps28
    go_wp2_with (go_at_call 53; refine (HBL.out _).mono ?_; rintro e w' ⟨rfl, rfl⟩)
    go_ret
    exact .inl ⟨HNO.out, rfl, Below.refl _ _⟩
  by_cases htm : 0 ≤ now ∧ now ≤ 1000000
  case neg =>
    have HNO : Hid (¬ Puts t now) := hid fun h => htm h.2
    rw [decide_eq_true hb] at hBL
    rw [decide_eq_false htm] at hTM
    have HBL := hid hBL
    have HTM := hid hTM
    clear hbox hmap hrow hA hsp hsi hE hBL hTM htm
    go_enter Tryz.func28, Tryz.ntmps28
    go_wp2_with (first | (go_at_call 53; refine (HBL.out _).mono ?_; rintro e w' ⟨rfl, rfl⟩) | (go_at_call 40; refine (HTM.out _).mono ?_; rintro e w' ⟨rfl, rfl⟩))
    go_ret
    exact .inl ⟨HNO.out, rfl, Below.refl _ _⟩
  have HYES : Hid (Puts t now) := hid ⟨hb, htm⟩
  rw [decide_eq_true hb] at hBL
  rw [decide_eq_true htm] at hTM
  have HBL := hid hBL
  have HTM := hid hTM
  have HSM : Hid (Calls Tryz.prog 54 #[.string t, .int .i64 wd] w fun e w' => e = .returned (.string (sumX wd t)) ∧ Below w.heap.size w w') := hid (implSum_any t wd w (by unfold maxLen; omega))
  have hxs := sumX_size wd t
  have HBX := hid hbox
  have HMP := hid hmap
  have HRW := hid hrow
  have HAS := hid hA
  have HER := hid hE
  have HMR := hid fun (W : World) (h1 : Blk W sb 79 #[.int .i64 wd, .int .i64 room, .int .i64 (totI its : Nat), .map (some mb), .slice ac ts.length cc]) (h2 : W.ownsMap Tryz.prog 9 itemElem mb its.length (mapI wd its its.length)) (h3 : Reads W (.slice ac ts.length cc) ts) (h4 : Errs W) => makeRoom_any sb mb ac cc wd room its ts t.size W h1 h2 h3 hA.lt hli hlp hsp hsi hW h4 htot hb.2 hsm
  have y0 : w.cell? ⟨sb, 0, none⟩ = some (.int .i64 wd) := hbox.cell 0
  have hmbl := hmap.lt
  have hsbl := hbox.lt
  clear hbox hmap hrow hA hsp hsi hE hBL hTM htm
  go_enter Tryz.func28, Tryz.ntmps28
  go_wp2_with (first | (go_at_call 53; refine (HBL.out _).mono ?_; rintro e w' ⟨rfl, hw'⟩; have hw'' := hw'.symm; subst hw''; clear hw') | (go_at_call 40; refine (HTM.out _).mono ?_; rintro e w' ⟨rfl, hw'⟩; have hw'' := hw'.symm; subst hw''; clear hw'))
  refine HSM.out.mono ?_
  rintro e w1 ⟨rfl, hb1⟩
  have HB1 := hid hb1
  have X1 := HBX.out.below hb1
  have M1 := HMP.out.kept (grown_of_below hb1) (by simp)
  have y3 : w1.cell? ⟨sb, 3, none⟩ = some (.map (some mb)) := X1.cell 3
  have y3' : ∀ o, (w1.alloc o).cell? ⟨sb, 3, none⟩ = some (.map (some mb)) := fun o => (X1.alloc o).cell 3
  have HX1 := hid X1
  have HM1 := hid M1
  have hs1 := hb1.size
  clear hb1 y0 X1
  by_cases hfound : ∃ i, i < its.length ∧ sumX wd (itx its i) = sumX wd t
  · obtain ⟨i, hil, hsum⟩ := hfound
    have hh : Maps.has (mapI wd its its.length) (.string (sumX wd t).data.toList) = true := (mapI_all wd its _).2 (by rw [← hsum, itx_get its i hil]; exact mem_sumsL (List.getElem_mem hil))
    have hat : (mapI wd its its.length).atKey (.string (sumX wd t).data.toList) (datI (⟨#[]⟩, 0)) = datI (itx its i, itu its i) := by rw [← hsum]; exact mapI_at wd its HAS.out.lt _ its.length (Nat.le_refl _) i hil
    obtain ⟨t0, ht0⟩ : ∃ x, itx its i = x := ⟨_, rfl⟩
    obtain ⟨u0, hu0⟩ : ∃ x, itu its i = x := ⟨_, rfl⟩
    rw [ht0, hu0] at hat
    by_cases he : t0.toList = t.toList
    · have he' : (t0.toList == t.toList) = true := by simpa using he
      have htt : t0 = t := text_eq he
      have HPI : Hid (PutI wd room (NeedTo wd its ts ts.length) its t now 0 (its.set i (t, now))) := hid (.there i hil hsum (by rw [ht0, htt]))
      have HST := hid fun (W : World) (m : Nat) h => put_set (w := W) (b := mb) (m := m) (wd := wd) (its := its) (i := i) (t := t) (now := now) h HAS.out hil (by rw [ht0, htt])
      have HTO := hid (set_tot its i t now hil (by rw [ht0, htt]))
      have hm2 := M1.alloc (.cells #[.string t0, .int .i64 u0] 44)
      have HX2 := hid (HX1.out.alloc (.cells #[.string t0, .int .i64 u0] 44))
      have HL2 : Hid ((its.set i (t, now)).length = its.length) := hid (List.length_set ..)
      have HAS2 : Hid (AscI wd (its.set i (t, now))) := hid (by unfold AscI; rw [set_map wd its i t now hil (by rw [ht0, htt])]; exact HAS.out)
      generalize hX : sumX wd t = x at *
      clear he htt hsum ht0 hu0
      go_wp2_with (first | (at_lookup; refine wpList_look_item _ rfl _ _ rfl mb its.length (mapI wd its its.length) (by go_simp) M1 x (by unfold maxLen; omega) (by go_simp) t0 u0 hat true hh ?_) | (at_mapUpdate; refine wpList_mapUpdate_own _ rfl _ _ _ 77 rfl 9 44 keyed9 Tryz.underlying77 itemElem mb its.length (mapI wd its its.length) rfl hm2 (by unfold maxLen; omega) _ _ _ rfl rfl (key9 x (by unfold maxLen; omega)) _ [] (itemElem_mk t now) ?_; intro w4 hm4 hg4))
      go_ret
      have hBT : But (fun b => b = sb ∨ b = mb) w w4 := (But.of_below (HB1.out.alloc hs1 (.cells #[.string t0, .int .i64 u0] 44))).trans (But.of_grown (P := fun b => b = mb) hg4 rfl) (fun _ _ h => .inr h)
      have X4 := HX2.out.kept hg4 (fun e => hsm (Option.some.inj e))
      have e4 := HST.out w4 (its.length + 1) hm4
      have hm5 : w4.ownsMap Tryz.prog 9 itemElem mb (its.length + 1) (mapI wd (its.set i (t, now)) (its.set i (t, now)).length) := by rw [← e4]; exact hm4
      have hm6 := map_tight hm5 HAS2.out.lt
      rw [← HTO.out] at X4
      exact .inr ⟨HYES.out, 0, _, HPI.out, rfl, .inr ⟨rfl, X4, hm6, hBT⟩⟩
    · have he' : (t0.toList == t.toList) = false := by simpa using he
      have HPI : Hid (PutI wd room (NeedTo wd its ts ts.length) its t now 2 its) := hid (.other i hil hsum (by rw [ht0]; exact fun e => he (by rw [e])))
      have HB2 := hid (HB1.out.alloc hs1 (.cells #[.string t0, .int .i64 u0] 44))
      generalize hX : sumX wd t = x at *
      clear he hsum ht0 hu0
      go_wp2_with (at_lookup; refine wpList_look_item _ rfl _ _ rfl mb its.length (mapI wd its its.length) (by go_simp) M1 x (by unfold maxLen; omega) (by go_simp) t0 u0 hat true hh ?_)
      go_ret
      exact .inr ⟨HYES.out, 2, its, HPI.out, rfl, .inl ⟨by decide, HB2.out⟩⟩
  · have hno : ∀ i, i < its.length → sumX wd (itx its i) ≠ sumX wd t := fun i hi e => hfound ⟨i, hi, e⟩
    have hh : Maps.has (mapI wd its its.length) (.string (sumX wd t).data.toList) = false := by
      cases e : Maps.has (mapI wd its its.length) (.string (sumX wd t).data.toList) with
      | false => rfl
      | true =>
        obtain ⟨p, hp, he⟩ := List.mem_map.1 ((mapI_all wd its _).1 e)
        obtain ⟨i, hi, rfl⟩ := List.getElem_of_mem hp
        exact absurd (by rw [itx_get its i hi]; exact bytes_ext he) (hno i hi)
    have hat : (mapI wd its its.length).atKey (.string (sumX wd t).data.toList) (datI (⟨#[]⟩, 0)) = datI (⟨#[]⟩, 0) := Maps.atKey_of_not_has hh _
    have HNO := hid hno
    have B2 := HB1.out.alloc hs1 (.cells #[.string ⟨#[]⟩, .int .i64 0] 44)
    have HB2 := hid B2
    have HRM := hid (HMR.out (w1.alloc (.cells #[.string ⟨#[]⟩, .int .i64 0] 44)) (HX1.out.alloc (.cells #[.string ⟨#[]⟩, .int .i64 0] 44)) (M1.alloc (.cells #[.string ⟨#[]⟩, .int .i64 0] 44)) (HRW.out.below B2) (HER.out.below B2))
    obtain ⟨x, hX⟩ : ∃ x, x = sumX wd t := ⟨_, rfl⟩
    rw [← hX] at hh hat hxs ⊢
    have HXT := hid hX
    clear hfound hno B2 hX
    go_wp2_with (at_lookup; refine wpList_look_item _ rfl _ _ rfl mb its.length (mapI wd its its.length) (by go_simp) M1 x (by unfold maxLen; omega) (by go_simp) ⟨#[]⟩ 0 hat false hh ?_)
    refine HRM.out.mono ?_
    rintro e w3 (⟨rfl, k, a, haw, hfit, hbef, X3, M3, hbt3⟩ | ⟨rfl, ⟨k, a, haw, hbef, hall⟩, hb3⟩)
    · have hal := haw.len
      have hAA : AscI wd a := HAS.out.sub haw.sub
      have hna : ∀ p, p ∈ a → sumX wd p.1 ≠ sumX wd t := fun p hp => by
        obtain ⟨i, hi, rfl⟩ := List.getElem_of_mem (haw.sub.subset hp)
        rw [← itx_get its i hi]
        exact HNO.out i hi
      have HPI : Hid (PutI wd room (NeedTo wd its ts ts.length) its t now 0 (insI wd a t now)) := hid (.put k a HNO.out haw hfit hbef)
      have HINS := hid fun (W : World) (m : Nat) h => put_ins (w := W) (b := mb) (m := m) (wd := wd) (its := a) (t := t) (now := now) h hAA hna
      have HIA := hid (ins_asc (now := now) hAA hna)
      have hta := totI_sub haw.sub
      have HTO := hid (ins_tot wd a t now)
      have y3 : w3.cell? ⟨sb, 3, none⟩ = some (.map (some mb)) := X3.cell 3
      have y2 : w3.cell? ⟨sb, 2, none⟩ = some (.int .i64 (totI a : Nat)) := X3.cell 2
      have f2 := X3.fz 2
      have X4 : Blk (w3.setCell ⟨sb, 2, none⟩ (.int .i64 ((totI a : Nat) + (t.size : Nat) : Int))) sb 79 #[.int .i64 wd, .int .i64 room, .int .i64 ((totI a : Nat) + (t.size : Nat) : Int), .map (some mb), .slice ac ts.length cc] := X3.set 2 (.int .i64 ((totI a : Nat) + (t.size : Nat) : Int))
      have y4 : (w3.setCell ⟨sb, 2, none⟩ (.int .i64 ((totI a : Nat) + (t.size : Nat) : Int))).cell? ⟨sb, 3, none⟩ = some (.map (some mb)) := X4.cell 3
      have G4 := grownBy_setCellAt w3 sb 2 (.int .i64 ((totI a : Nat) + (t.size : Nat) : Int))
      have hm4 := M3.kept G4 (fun e => hsm (Option.some.inj e).symm)
      have HX4 := hid X4
      have HBT4 : Hid (But (fun b => b = sb ∨ b = mb) w (w3.setCell ⟨sb, 2, none⟩ (.int .i64 ((totI a : Nat) + (t.size : Nat) : Int)))) := hid (((But.of_below HB2.out).trans hbt3 (fun _ _ h => h)).trans (But.of_grown (P := fun b => b = sb) G4 rfl) (fun _ _ h => .inl h))
      clear haw hfit hbef X3 M3 hbt3 X4 G4 hAA hna
      go_wp2_with (at_mapUpdate; refine wpList_mapUpdate_own _ rfl _ _ _ 77 rfl 9 44 keyed9 Tryz.underlying77 itemElem mb its.length (mapI wd a a.length) rfl hm4 (by unfold maxLen; omega) _ _ _ rfl rfl (key9 x (by unfold maxLen; omega)) _ [] (itemElem_mk t now) ?_; intro w5 hm5 hg5)
      go_ret
      have X5 := HX4.out.kept hg5 (fun e => hsm (Option.some.inj e))
      have e5 : w5.ownsMap Tryz.prog 9 itemElem mb (its.length + 1) ((mapI wd a a.length).put (.string (sumX wd t).data.toList) (datI (t, now))) := by rw [← HXT.out]; exact hm5
      have e6 := HINS.out w5 (its.length + 1) e5
      rw [e6] at e5
      have hm6 := map_tight e5 HIA.out.lt
      have hBT := HBT4.out.trans (But.of_grown (P := fun b => b = mb) hg5 rfl) (fun _ _ h => .inr h)
      rw [show (((totI a : Nat) : Int) + ((t.size : Nat) : Int)) = ((totI (insI wd a t now) : Nat) : Int) by rw [HTO.out]; omega] at X5
      exact .inr ⟨HYES.out, 0, _, HPI.out, rfl, .inr ⟨rfl, X5, hm6, hBT⟩⟩
    · have HPI : Hid (PutI wd room (NeedTo wd its ts ts.length) its t now 3 its) := hid (.full k a HNO.out haw hbef hall)
      have HB3 := hid (HB2.out.trans (hb3.mono HB2.out.size))
      clear haw hbef hall hb3
      go_wp2
      go_ret
      exact .inr ⟨HYES.out, 3, its, HPI.out, rfl, .inl ⟨by decide, HB3.out⟩⟩
end Go.Proofs.YtffpdgpcjgfgcaaGreatDoor
