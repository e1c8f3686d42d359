import Derived.Test.YtbihndholamdfaaGreatDoorTakeMath
import Derived.Test.YtbihndholamdfaaGreatDoorSaveMath
import Derived.Test.YtbihndholamdfaaGreatDoorMapPeers
import Derived.Test.YtbihndholamdfaaGreatDoorPutImpl
import Derived.Test.YtbihndholamdfaaGreatDoorReadImpl
import Derived.Test.YtbihndholamdfaaGreatDoorShort
import Derived.Test.YtbihndholamdfaaGreatDoorPeerSet
/- impl.addNot, impl.isForm, (*impl.hunt).keep. -/
namespace Go.Proofs.YtbihndholamdfaaGreatDoor
open Go.RowKit
/-- What addNot leaves. -/
def NotW (w : World) (pb : Nat) (p : Pr) (v : Value) (sum : ByteArray) (w' : World) : Prop :=
 ∃ v', Blk w' pb 57 (pcells ⟨p.lies, p.wait, p.last, p.asked, notsA sum p.nots⟩ v') ∧ Reads w' v' (notsA sum p.nots) ∧ But (fun b => b = pb ∨ v.ownBlock = some b) w w'
set_option maxRecDepth 100000 in
set_option maxHeartbeats 1000000 in
theorem addNot_any (pb B : Nat) (pl pw pt : Int) (pa : ByteArray) (vc : Value) (ts : List ByteArray) (name : ByteArray) (w : World) (hbox : Blk w pb 57 #[.int .i64 pl, .int .i64 pw, .int .i64 pt, .string pa, vc]) (hrow : w.ownsRow B 9 1 vc ts.length (ts.map Value.string)) (hns : vc.ownBlock ≠ some pb) (hA : Asc ts) (hl : ts.length ≤ 376) :
  Calls Tryz.prog 83 #[.pointer (some ⟨pb, 0, none⟩), .string name] w fun e w' => e = .returned (.tuple #[]) ∧ NotW w pb ⟨pl, pw, pt, pa, ts⟩ vc name w' := by
 obtain ⟨ac, cc, rfl, _⟩ := row_form hrow
 have c4 : w.cell? ⟨pb, 4, none⟩ = some (.slice ac ts.length cc) := hbox.cell 4
 have hkl := cutN_le name ts
 have HBX := hid hbox
 have HRW := hid hrow
 have HA := hid hA
 have d4 : ∀ n, (w.drewN n).cell? ⟨pb, 4, none⟩ = some (.slice ac ts.length cc) := fun n => c4
 have HSE : Hid (Calls Tryz.prog 104 #[.slice ac ts.length cc, .string name] w fun e w' => ∃ q : Bool, e = .returned (.tuple #[.int .i64 (cutN name ts), .bool q]) ∧ (q = true ↔ cutN name ts < ts.length ∧ tv ts (cutN name ts) = name) ∧ ∃ n, w' = w.drewN n) := by
  rcases hrow with ⟨_, ⟨e0, h0⟩ | ⟨g, cap, cur, e0, hg1, hg2, hnc, hmc, _⟩⟩
  ·have e1 : ts = [] := List.eq_nil_of_length_eq_zero h0
   subst e1
   simp at e0
   obtain ⟨rfl, rfl⟩ := e0
   refine (search_none _ _ _ _).mono ?_
   rintro e w' ⟨rfl, rfl⟩
   exact ⟨false, by simp [cutN], by simp, 0, rfl⟩
  ·cases e0
   refine (search_any g 0 cc ts name w hA (by omega) (fun j hj => by rw [Nat.zero_add, HRW.out.cellAt j (by omega)]; simp [tv, hj])).mono ?_
   rintro e w1 ⟨⟨q, rfl, hq⟩, n, rfl⟩
   exact ⟨q, rfl, hq, n, rfl⟩
 have bl : ∀ n B', Below B' w (w.drewN n) := fun n B' => below_drewN (Below.refl B' w) n
 have HST : Hid (notsA name ts = ts → ∀ n, NotW w pb ⟨pl, pw, pt, pa, ts⟩ (.slice ac ts.length cc) name (w.drewN n)) := hid fun h n =>
  ⟨_, by show Blk _ pb 57 (pcells ⟨pl, pw, pt, pa, notsA name ts⟩ _); exact HBX.out.below (bl n _), by show Reads _ _ (notsA name ts); rw [h]; exact (Reads.of_row HRW.out).below (bl n _), But.of_below (bl n _)⟩
 by_cases hin : cutN name ts < ts.length ∧ tv ts (cutN name ts) = name
 ·have HAT : Hid (notsA name ts = ts) := hid (by rw [notsA, addT, if_pos hin]; simp)
  generalize cutN name ts = k at *
  clear hbox hA hrow
  go_enter Tryz.func83, Tryz.ntmps83
  go_wp2_with fail
  refine HSE.out.mono ?_
  rintro e w1 ⟨q, rfl, hq, n, rfl⟩
  have hqt : q = true := hq.2 hin
  subst hqt
  clear hq hin
  go_wp2
  exact bodyPost_end (results_none rfl _ _ _) rfl ⟨rfl, HST.out HAT.out n⟩
 have HAT := hid (addT_len name ts hin)
 by_cases h10 : ts.length = 376
 ·have HL : Hid (notsA name ts = ts) := hid (by rw [notsA, if_neg (by rw [HAT.out.2]; omega)])
  generalize cutN name ts = k at *
  have h10b : ¬ ((ts.length : Nat) : Int) < 376 := by omega
  have HIN2 := hid hin
  clear hbox hA hrow h10 hkl hl hin HAT
  go_enter Tryz.func83, Tryz.ntmps83
  go_wp2_with fail
  refine HSE.out.mono ?_
  rintro e w1 ⟨q, rfl, hq, n, rfl⟩
  have hqf : q = false := by cases q; rfl; exact absurd (hq.1 rfl) HIN2.out
  subst hqf
  clear hq
  go_wp2
  exact bodyPost_end (results_none rfl _ _ _) rfl ⟨rfl, HST.out HL.out n⟩
 have HIN := hid fun (W : World) vb a b c => insertRow_any (.slice ac ts.length cc) (cutN name ts) B vb ts name W a hkl (by omega) b c
 have HNA : Hid (notsA name ts = ts.take (cutN name ts) ++ name :: ts.drop (cutN name ts)) := hid (by rw [notsA, if_pos (by rw [HAT.out.2]; omega)]; exact HAT.out.1)
 generalize cutN name ts = k at *
 clear hbox hA hrow
 have h10' : ((ts.length : Nat) : Int) < 376 := by omega
 go_enter Tryz.func83, Tryz.ntmps83
 go_wp2_with fail
 refine HSE.out.mono ?_
 rintro e w1 ⟨q, rfl, hq, n, rfl⟩
 have hqf : q = false := by cases q; rfl; exact absurd (hq.1 rfl) hin
 subst hqf
 clear hq
 have HRWn : Hid (∀ o, ((w.drewN n).alloc o).ownsRow B 9 1 (.slice ac ts.length cc) ts.length (ts.map Value.string)) := fun o => (Below.row (below_drewN (Below.refl _ w) n) HRW.out).alloc o
 have HNE : Hid ((Value.slice ac ts.length cc).ownBlock ≠ some w.heap.size) := fun e => by have := (HRW.out.lt _ e).2; omega
 have HNW := hid (Blk.new (w.drewN n) 9 #[.string name])
 have hdsz : (w.drewN n).heap.size = w.heap.size := rfl
 go_wp2_with fail
 refine (HIN.out _ _ (HRWn.out _) HNW.out HNE.out).mono ?_
 rintro e w2 ⟨v2, rfl, hrd, hob, hg⟩
 obtain ⟨a2, c2, rfl, _⟩ := hrd.form
 have hslt : pb < w.heap.size := HBX.out.lt
 have X2 := ((show Blk (w.drewN n) pb 57 _ from HBX.out).alloc (.cells #[.string name] 9)).kept hg (fun e => hns e.symm)
 have q4 := X2.cell 4
 have f4 := X2.fz 4
 have hob2 : (Value.slice a2 (ts.take k ++ name :: ts.drop k).length c2).ownBlock ≠ some pb := fun e => by
  rcases hob _ e with h | h
  ·exact hns h
  ·have : w.heap.size + 1 ≤ pb := by simpa using h
   omega
 have gU := grownBy_setCellAt w2 pb 4 (.slice a2 (ts.take k ++ name :: ts.drop k).length c2)
 have X3 := hid (X2.set 4 (.slice a2 (ts.take k ++ name :: ts.drop k).length c2))
 have hrd3 := hid (reads_far hrd gU hob2)
 have HBB : Hid (But (fun b => b = pb ∨ (Value.slice ac ts.length cc).ownBlock = some b) w (w2.setCell ⟨pb, 4, none⟩ (.slice a2 (ts.take k ++ name :: ts.drop k).length c2))) :=
  ((But.of_below (P := fun b => b = pb ∨ (Value.slice ac ts.length cc).ownBlock = some b) ((below_drewN (Below.refl w.heap.size w) n).alloc (Nat.le_refl _) (.cells #[.string name] 9))).trans (Q := fun b => b = pb ∨ (Value.slice ac ts.length cc).ownBlock = some b) ⟨hg.os, hg.tape, hg.output, hg.size, fun k hk hn => hg.block k hk (fun e => hn (.inr e.symm))⟩ (fun _ _ h => h)).trans (But.of_grown gU (.inl rfl)) (fun _ _ h => h)
 clear hg hrd X2 gU hob hob2
 generalize ts.take k ++ name :: ts.drop k = ts9 at *
 go_wp2
 exact bodyPost_end (results_none rfl _ _ _) rfl ⟨rfl, _, X3.out, by show Reads _ _ (notsA name ts); rw [HNA.out]; exact hrd3.out, HBB.out⟩
set_option maxRecDepth 100000 in
set_option maxHeartbeats 400000 in
theorem isForm_any (s : ByteArray) (m : Int) (w : World) (hs : s.size ≤ 1048576) (hE : Errs w) :
  Calls Tryz.prog 106 #[.string s, .int .i64 m] w fun e w' => ∃ ok : Bool, e = .returned (.bool ok) ∧ (ok = true ↔ FormOk s m) ∧ Below w.heap.size w w' := by
 have HR := hid (implReadList_any s m w (by omega) hE)
 clear hE
 go_enter Tryz.func106, Tryz.ntmps106
 go_wp2_with fail
 refine HR.out.mono ?_
 rintro e w1 ⟨v, n, ss, ok, rfl, hr, ho, hb⟩
 obtain ⟨a1, c1, rfl, _⟩ := row_form ho
 have HFM := hid hr.form
 have HB := hid (hb.alloc hb.size (.cells #[.int .i64 n, .slice a1 ss.length c1] 78))
 clear hr ho hb
 go_wp2
 go_ret
 exact ⟨ok, rfl, HFM.out, HB.out⟩
/-- What keep leaves. -/
def KeepW (nm : ByteArray) (sb mb : Nat) (vc : Value) (wd room : Int) (its : Itms) (ts : List ByteArray) (now : Int) (sum text : ByteArray) (w : World) (e : Ending) (w' : World) : Prop :=
 ∃ code b, e = .returned (.int .i64 code) ∧ KeepR nm wd room its ts now sum text code b ∧ ((code ≠ 0 ∧ b = its ∧ Below w.heap.size w w') ∨ (code = 0 ∧ Blk w' sb 102 #[.int .i64 wd, .int .i64 room, .int .i64 (totI b : Nat), .map (some mb), vc] ∧ w'.ownsMap Tryz.prog 9 itemElem mb b.length (mapI wd b b.length) ∧ But (fun b => b = sb ∨ b = mb) w w'))
end Go.Proofs.YtbihndholamdfaaGreatDoor
/- (*impl.hunt).keep. -/
namespace Go.Proofs.YtbihndholamdfaaGreatDoor
open Go.RowKit
set_option maxRecDepth 100000 in
set_option maxHeartbeats 4000000 in
theorem huntKeep_any (hb pm sb mb : Nat) (ac : Option Addr) (cc : Nat) (nm : ByteArray) (now : Int) (full : Bool) (wd room : Int) (its : Itms) (ts : List ByteArray) (lv : Value) (lk : Bool) (sum text : ByteArray) (w : World) (hbx : Blk w hb 106 #[.string nm, .int .i64 now, .bool full, .pointer (some ⟨sb, 0, none⟩), .map (some pm), lv, .bool lk]) (hsh : Blk w sb 102 #[.int .i64 wd, .int .i64 room, .int .i64 (totI its : Nat), .map (some mb), .slice ac ts.length cc]) (hmap : w.ownsMap Tryz.prog 9 itemElem mb its.length (mapI wd its its.length)) (hrow : Reads w (.slice ac ts.length cc) ts) (hV : ValidSt wd room its ts) (hne : sb ≠ mb) (hhs : hb ≠ sb) (hhm : hb ≠ mb) (htx : text.size ≤ 1048576) (hE : Errs w) :
  Calls Tryz.prog 84 #[.pointer (some ⟨hb, 0, none⟩), .string sum, .string text] w (KeepW nm sb mb (.slice ac ts.length cc) wd room its ts now sum text w) := by
 have HBX := hid hbx
 have HSH := hid hsh
 have HMP := hid hmap
 have HRW := hid hrow
 have HV := hid hV
 have HER := hid hE
 have hwd8 : 1 ≤ wd ∧ wd ≤ 8 := by have := hV.width; simpa [isW] using this
 have HSU : Hid (∀ W, Calls Tryz.prog 91 #[.string text, .int .i64 wd] W fun e w' => e = .returned (.string (sumX wd text)) ∧ Below W.heap.size W w') := hid fun W => implSum_any text wd W (by unfold maxLen; omega)
 have HFO := hid fun W h => isForm_any text wd W htx h
 have b3 : w.cell? ⟨hb, 3, none⟩ = some (.pointer (some ⟨sb, 0, none⟩)) := hbx.cell 3
 have s0 : w.cell? ⟨sb, 0, none⟩ = some (.int .i64 wd) := hsh.cell 0
 have hec := enters_of Tryz.func107 (by kernel_rfl) rfl
 clear hbx hsh hmap hrow hV hE
 go_enter Tryz.func84, Tryz.ntmps84
 go_wp2_with fail
 refine (HSU.out _).mono ?_
 rintro e w1 ⟨rfl, hb1⟩
 have HB1 := hid hb1
 have X1 := HBX.out.below hb1
 have S1 := HSH.out.below hb1
 have d0 : w1.cell? ⟨hb, 0, none⟩ = some (.string nm) := X1.cell 0
 have d3 : w1.cell? ⟨hb, 3, none⟩ = some (.pointer (some ⟨sb, 0, none⟩)) := X1.cell 3
 have r0 : w1.cell? ⟨sb, 0, none⟩ = some (.int .i64 wd) := S1.cell 0
 clear hb1 X1 S1 b3 s0
 by_cases h1 : sumX wd text = sum
 case neg =>
  have e1 : ((sumX wd text).toList == sum.toList) = false := by
   cases e : ((sumX wd text).toList == sum.toList) with
   | false => rfl
   | true => exact absurd (text_eq (by simpa using e)) h1
  have HRES : Hid (KeepW nm sb mb (.slice ac ts.length cc) wd room its ts now sum text w (.returned (.int .i64 1)) w1) := hid ⟨1, its, rfl, .inl ⟨.inl h1, rfl, rfl⟩, .inl ⟨by decide, rfl, HB1.out⟩⟩
  clear h1
  go_wp2
  go_ret
  exact HRES.out
 have e1 : ((sumX wd text).toList == sum.toList) = true := by rw [h1]; simp
 have H1 := hid h1
 clear h1
 by_cases h2 : sum = nm
 ·have e2 : (sum.toList == nm.toList) = true := by rw [h2]; simp
  have H2 := hid h2
  clear h2
  go_wp2_with fail
  refine (HFO.out _ (HER.out.below HB1.out)).mono ?_
  rintro e w2 ⟨ok, rfl, hok, hb2⟩
  have HB2 := hid (HB1.out.trans (hb2.mono HB1.out.size))
  clear hb2 d0 d3 r0
  cases ok with
  | false =>
   have HRES : Hid (KeepW nm sb mb (.slice ac ts.length cc) wd room its ts now sum text w (.returned (.int .i64 1)) w2) := hid ⟨1, its, rfl, .inl ⟨.inr ⟨H2.out, fun h => by have := hok.2 h; cases this⟩, rfl, rfl⟩, .inl ⟨by decide, rfl, HB2.out⟩⟩
   clear hok
   go_wp2
   go_ret
   exact HRES.out
  | true =>
   have HOK := hid (hok.1 rfl)
   clear hok
   have hbd : Below w2.heap.size w2 w2.drew := below_drewN (Below.refl _ _) 1
   have BD := HB2.out.trans (hbd.mono HB2.out.size)
   have XD := HBX.out.below BD
   have hS4 : w2.drew.cell? ⟨hb, 3, none⟩ = some (.pointer (some ⟨sb, 0, none⟩)) ∧ w2.drew.cell? ⟨hb, 1, none⟩ = some (.int .i64 now) := ⟨XD.cell 3, XD.cell 1⟩
   have HNB : Hid (¬ BadA nm wd sum text) := hid (fun h => h.elim (fun h => h H1.out) (fun h => h.2 HOK.out))
   have HPT := hid (shelfPut_any sb mb ac cc wd room its ts text now w2.drew (HSH.out.below BD) (HMP.out.kept (grown_of_below BD) (by simp)) (HRW.out.below BD) (ascI_of HV.out.each) HV.out.items HV.out.pins (pin_small HV.out.sums hwd8.2) (item_small HV.out.each) hwd8.2 (HER.out.below BD) (by have h1 := HV.out.fits; have h2 := HV.out.room1; omega) htx hne)
   have HBD := hid BD
   have HXD := hid XD
   clear BD XD hbd
   go_wp2_with fail
   refine wp_region_held (S := fun w' => w'.cell? ⟨hb, 3, none⟩ = some (.pointer (some ⟨sb, 0, none⟩)) ∧ w'.cell? ⟨hb, 1, none⟩ = some (.int .i64 now)) (by kernel_rfl) ?_
   change wpAnyH _ _ _ _ _ _ _ _ (World.drew _)
   refine tkA 0 (.pointer (some ⟨hb, 0, none⟩)) rfl hS4 ?_
   refine tkA 1 (.pointer (some ⟨hb, 0, none⟩)) rfl hS4 ?_
   refine tkA 2 (.pointer (some ⟨hb, 3, none⟩)) rfl hS4 ?_
   refine tkA 3 (.pointer (some ⟨sb, 0, none⟩)) rfl hS4 ?_
   refine tkA 4 (.string text) rfl hS4 ?_
   refine tkA 5 (.pointer (some ⟨hb, 0, none⟩)) rfl hS4 ?_
   refine tkA 6 (.pointer (some ⟨hb, 0, none⟩)) rfl hS4 ?_
   refine tkA 7 (.pointer (some ⟨hb, 1, none⟩)) rfl hS4 ?_
   refine tkA 8 (.int .i64 now) rfl hS4 ?_
   refine held_one 9 (by kernel_rfl) (op_calls (f := 107) (args := #[.pointer (some ⟨sb, 0, none⟩), .string text, .int .i64 now]) rfl rfl (by go_simp) HPT.out ?_)
   rintro e w5 (⟨hnp, rfl, hb5⟩ | ⟨hpu, code, b, hpi, rfl, ⟨hc, hb5⟩ | ⟨hc, X5, M5, T5⟩⟩)
   ·have X5h := HXD.out.below hb5
    have HRES : Hid (KeepW nm sb mb (.slice ac ts.length cc) wd room its ts now sum text w (.returned (.int .i64 1)) w5) := hid ⟨1, its, rfl, .inr (.inl ⟨HNB.out, hnp, rfl, rfl⟩), .inl ⟨by decide, rfl, HBD.out.trans (hb5.mono HBD.out.size)⟩⟩
    clear hb5
    have hS5 : w5.cell? ⟨hb, 3, none⟩ = some (.pointer (some ⟨sb, 0, none⟩)) ∧ w5.cell? ⟨hb, 1, none⟩ = some (.int .i64 now) := ⟨X5h.cell 3, X5h.cell 1⟩
    refine ⟨_, rfl, hS5, ?_⟩
    refine tkA 10 (.int .i64 1) rfl hS5 ?_
    refine wpAnyH_done (by kernel_rfl) ?_ _
    clear hS4 hS5 X5h
    go_simp
    go_wp2
    go_ret
    exact HRES.out
   ·have X5h := HXD.out.below hb5
    have HRES : Hid (KeepW nm sb mb (.slice ac ts.length cc) wd room its ts now sum text w (.returned (.int .i64 code)) w5) := hid ⟨code, its, rfl, .inr (.inr ⟨HNB.out, hpu, b, hpi, .inl ⟨hc, rfl⟩⟩), .inl ⟨hc, rfl, HBD.out.trans (hb5.mono HBD.out.size)⟩⟩
    clear hb5 hpi
    have hS5 : w5.cell? ⟨hb, 3, none⟩ = some (.pointer (some ⟨sb, 0, none⟩)) ∧ w5.cell? ⟨hb, 1, none⟩ = some (.int .i64 now) := ⟨X5h.cell 3, X5h.cell 1⟩
    refine ⟨_, rfl, hS5, ?_⟩
    refine tkA 10 (.int .i64 code) rfl hS5 ?_
    refine wpAnyH_done (by kernel_rfl) ?_ _
    clear hS4 hS5 X5h
    go_simp
    go_wp2
    go_ret
    exact HRES.out
   ·subst hc
    have X5h := T5.blk HXD.out (fun h => h.elim hhs hhm)
    have HRES : Hid (KeepW nm sb mb (.slice ac ts.length cc) wd room its ts now sum text w (.returned (.int .i64 0)) w5) := hid ⟨0, b, rfl, .inr (.inr ⟨HNB.out, hpu, b, hpi, .inr ⟨rfl, rfl⟩⟩), .inr ⟨rfl, X5, M5, (But.of_below HBD.out).trans T5 (fun _ _ h => h)⟩⟩
    clear X5 M5 T5 hpi
    have hS5 : w5.cell? ⟨hb, 3, none⟩ = some (.pointer (some ⟨sb, 0, none⟩)) ∧ w5.cell? ⟨hb, 1, none⟩ = some (.int .i64 now) := ⟨X5h.cell 3, X5h.cell 1⟩
    refine ⟨_, rfl, hS5, ?_⟩
    refine tkA 10 (.int .i64 0) rfl hS5 ?_
    refine wpAnyH_done (by kernel_rfl) ?_ _
    clear hS4 hS5 X5h
    go_simp
    go_wp2
    go_ret
    exact HRES.out
 ·have e2 : (sum.toList == nm.toList) = false := by
   cases e : (sum.toList == nm.toList) with
   | false => rfl
   | true => exact absurd (text_eq (by simpa using e)) h2
  have H2 := hid h2
  clear h2
  have hbd : Below w1.heap.size w1 w1.drew := below_drewN (Below.refl _ _) 1
  have BD := HB1.out.trans (hbd.mono HB1.out.size)
  have XD := HBX.out.below BD
  have hS4 : w1.drew.cell? ⟨hb, 3, none⟩ = some (.pointer (some ⟨sb, 0, none⟩)) ∧ w1.drew.cell? ⟨hb, 1, none⟩ = some (.int .i64 now) := ⟨XD.cell 3, XD.cell 1⟩
  have HNB : Hid (¬ BadA nm wd sum text) := hid (fun h => h.elim (fun h => h H1.out) (fun h => H2.out h.1))
  have HPT := hid (shelfPut_any sb mb ac cc wd room its ts text now w1.drew (HSH.out.below BD) (HMP.out.kept (grown_of_below BD) (by simp)) (HRW.out.below BD) (ascI_of HV.out.each) HV.out.items HV.out.pins (pin_small HV.out.sums hwd8.2) (item_small HV.out.each) hwd8.2 (HER.out.below BD) (by have h1 := HV.out.fits; have h2 := HV.out.room1; omega) htx hne)
  have HBD := hid BD
  have HXD := hid XD
  clear BD XD hbd
  go_wp2_with fail
  refine wp_region_held (S := fun w' => w'.cell? ⟨hb, 3, none⟩ = some (.pointer (some ⟨sb, 0, none⟩)) ∧ w'.cell? ⟨hb, 1, none⟩ = some (.int .i64 now)) (by kernel_rfl) ?_
  change wpAnyH _ _ _ _ _ _ _ _ (World.drew _)
  refine tkA 0 (.pointer (some ⟨hb, 0, none⟩)) rfl hS4 ?_
  refine tkA 1 (.pointer (some ⟨hb, 0, none⟩)) rfl hS4 ?_
  refine tkA 2 (.pointer (some ⟨hb, 3, none⟩)) rfl hS4 ?_
  refine tkA 3 (.pointer (some ⟨sb, 0, none⟩)) rfl hS4 ?_
  refine tkA 4 (.string text) rfl hS4 ?_
  refine tkA 5 (.pointer (some ⟨hb, 0, none⟩)) rfl hS4 ?_
  refine tkA 6 (.pointer (some ⟨hb, 0, none⟩)) rfl hS4 ?_
  refine tkA 7 (.pointer (some ⟨hb, 1, none⟩)) rfl hS4 ?_
  refine tkA 8 (.int .i64 now) rfl hS4 ?_
  refine held_one 9 (by kernel_rfl) (op_calls (f := 107) (args := #[.pointer (some ⟨sb, 0, none⟩), .string text, .int .i64 now]) rfl rfl (by go_simp) HPT.out ?_)
  rintro e w5 (⟨hnp, rfl, hb5⟩ | ⟨hpu, code, b, hpi, rfl, ⟨hc, hb5⟩ | ⟨hc, X5, M5, T5⟩⟩)
  ·have X5h := HXD.out.below hb5
   have HRES : Hid (KeepW nm sb mb (.slice ac ts.length cc) wd room its ts now sum text w (.returned (.int .i64 1)) w5) := hid ⟨1, its, rfl, .inr (.inl ⟨HNB.out, hnp, rfl, rfl⟩), .inl ⟨by decide, rfl, HBD.out.trans (hb5.mono HBD.out.size)⟩⟩
   clear hb5
   have hS5 : w5.cell? ⟨hb, 3, none⟩ = some (.pointer (some ⟨sb, 0, none⟩)) ∧ w5.cell? ⟨hb, 1, none⟩ = some (.int .i64 now) := ⟨X5h.cell 3, X5h.cell 1⟩
   refine ⟨_, rfl, hS5, ?_⟩
   refine tkA 10 (.int .i64 1) rfl hS5 ?_
   refine wpAnyH_done (by kernel_rfl) ?_ _
   clear hS4 hS5 X5h
   go_simp
   go_wp2
   go_ret
   exact HRES.out
  ·have X5h := HXD.out.below hb5
   have HRES : Hid (KeepW nm sb mb (.slice ac ts.length cc) wd room its ts now sum text w (.returned (.int .i64 code)) w5) := hid ⟨code, its, rfl, .inr (.inr ⟨HNB.out, hpu, b, hpi, .inl ⟨hc, rfl⟩⟩), .inl ⟨hc, rfl, HBD.out.trans (hb5.mono HBD.out.size)⟩⟩
   clear hb5 hpi
   have hS5 : w5.cell? ⟨hb, 3, none⟩ = some (.pointer (some ⟨sb, 0, none⟩)) ∧ w5.cell? ⟨hb, 1, none⟩ = some (.int .i64 now) := ⟨X5h.cell 3, X5h.cell 1⟩
   refine ⟨_, rfl, hS5, ?_⟩
   refine tkA 10 (.int .i64 code) rfl hS5 ?_
   refine wpAnyH_done (by kernel_rfl) ?_ _
   clear hS4 hS5 X5h
   go_simp
   go_wp2
   go_ret
   exact HRES.out
  ·subst hc
   have X5h := T5.blk HXD.out (fun h => h.elim hhs hhm)
   have HRES : Hid (KeepW nm sb mb (.slice ac ts.length cc) wd room its ts now sum text w (.returned (.int .i64 0)) w5) := hid ⟨0, b, rfl, .inr (.inr ⟨HNB.out, hpu, b, hpi, .inr ⟨rfl, rfl⟩⟩), .inr ⟨rfl, X5, M5, (But.of_below HBD.out).trans T5 (fun _ _ h => h)⟩⟩
   clear X5 M5 T5 hpi
   have hS5 : w5.cell? ⟨hb, 3, none⟩ = some (.pointer (some ⟨sb, 0, none⟩)) ∧ w5.cell? ⟨hb, 1, none⟩ = some (.int .i64 now) := ⟨X5h.cell 3, X5h.cell 1⟩
   refine ⟨_, rfl, hS5, ?_⟩
   refine tkA 10 (.int .i64 0) rfl hS5 ?_
   refine wpAnyH_done (by kernel_rfl) ?_ _
   clear hS4 hS5 X5h
   go_simp
   go_wp2
   go_ret
   exact HRES.out
end Go.Proofs.YtbihndholamdfaaGreatDoor
/- (*impl.hunt).take. -/
namespace Go.Proofs.YtbihndholamdfaaGreatDoor
open Go.RowKit
set_option maxRecDepth 100000 in
set_option maxHeartbeats 16000000 in
theorem huntTake_any (B C1 C2 hb pm sb mb : Nat) (ac : Option Addr) (cc : Nat) (nm : ByteArray) (now : Int) (full : Bool) (wd room : Int) (its : Itms) (ts : List ByteArray) (qs : PV) (pbs : List Nat) (lv : Value) (lk : Bool) (fr tg : Int) (sum : ByteArray) (has : Bool) (text : ByteArray) (w : World) (H : HuntAt w B C1 C2 hb pm sb mb (.slice ac ts.length cc) nm now full wd room its ts qs pbs lv lk) (hVF : ValidF nm now wd room its ts (qs.map Prod.fst)) (hfr : (Lit.int .i64 fr).wf = true) (htx : text.size ≤ 1048576) (hE : ∀ W, Below B w W → Errs W) (hBw : B ≤ w.heap.size) :
  Calls Tryz.prog 44 #[.pointer (some ⟨hb, 0, none⟩), .agg #[.int .i64 fr, .int .i64 tg, .string sum, .bool has, .string text]] w fun e w' => e = .returned (.tuple #[]) ∧ ∃ full' its' tot' qs' lk', TakeS nm now full wd room its ts (qs.map Prod.fst) fr tg sum has text full' its' (qs'.map Prod.fst) ∧ HuntRd w' hb pm sb mb (.slice ac ts.length cc) nm now full' wd room tot' its' ts qs' pbs lv lk' ∧ Below B w w' := by
 have HH := hid H
 have HVF := hid hVF
 have HER := hid hE
 have hA0 : Below w.heap.size w (w.alloc (.cells #[.int .i64 fr, .int .i64 tg, .string sum, .bool has, .string text] 49)) := (Below.refl _ _).alloc (Nat.le_refl _) _
 have hM0 := Blk.new w 49 #[.int .i64 fr, .int .i64 tg, .string sum, .bool has, .string text]
 obtain ⟨w0, hw0⟩ : ∃ x, x = w.alloc (.cells #[.int .i64 fr, .int .i64 tg, .string sum, .bool has, .string text] 49) := ⟨_, rfl⟩
 rw [← hw0] at hA0 hM0
 have HA0 := hid hA0
 have HM0 := hid hM0
 have HX0 := hid (H.box.below hA0)
 have HP0 := hid (H.peers.map.kept (grown_of_below hA0) (by simp))
 have HB2 : Hid (Below w.heap.size w w0.drew.drew) := hid (below_drewN hA0 2)
 have HLK0 := hid fun (W : World) (h : W.ownsMap Tryz.prog 3 ptrElem pm qs.length (mapP pbs qs.length)) => look_peer_ok h fr hfr
 clear H hVF hE hA0 hM0 hfr
 by_cases hin : 1 ≤ fr ∧ fr ≤ (qs.length : Int)
 case neg =>
  have HLK : Hid (∀ W : World, W.ownsMap Tryz.prog 3 ptrElem pm qs.length (mapP pbs qs.length) → (Instr.lookup 104 (.map (some pm)) (.int .i64 fr) true).run Tryz.prog W = .ok (.tuple #[.pointer none, .bool false]) W) := hid fun W h => by
   have e := HLK0.out W h
   rw [if_neg hin, decide_eq_false hin] at e
   exact e
  have HNO : Hid (¬ Asks (qs.map Prod.fst) fr tg sum) := hid fun h => hin ⟨h.lo, by have := h.hi; simpa using this⟩
  clear hin
  go_enter Tryz.func44, Tryz.ntmps44
  have hS0 : w0.drew.cell? ⟨hb, 4, none⟩ = some (.map (some pm)) ∧ w0.drew.cell? ⟨w.heap.size, 0, none⟩ = some (.int .i64 fr) ∧ (Instr.lookup 104 (.map (some pm)) (.int .i64 fr) true).run Tryz.prog w0.drew = .ok (.tuple #[.pointer none, .bool false]) w0.drew := ⟨HX0.out.cell 4, HM0.out.cell 0, HLK.out _ (HP0.out.drew)⟩
  go_upto_region 1 with fail
  rw [← hw0]
  clear hw0
  refine wp_region_held (S := fun w' => w'.cell? ⟨hb, 4, none⟩ = some (.map (some pm)) ∧ w'.cell? ⟨w.heap.size, 0, none⟩ = some (.int .i64 fr) ∧ (Instr.lookup 104 (.map (some pm)) (.int .i64 fr) true).run Tryz.prog w' = .ok (.tuple #[.pointer none, .bool false]) w') (by kernel_rfl) ?_
  change wpAnyH _ _ _ _ _ _ _ _ (World.drew _)
  refine tkA 0 (.pointer (some ⟨hb, 0, none⟩)) rfl hS0 ?_
  refine tkA 1 (.pointer (some ⟨hb, 0, none⟩)) rfl hS0 ?_
  refine tkA 2 (.pointer (some ⟨hb, 4, none⟩)) rfl hS0 ?_
  refine tkA 3 (.map (some pm)) rfl hS0 ?_
  refine tkA 4 (.pointer (some ⟨w.heap.size, 0, none⟩)) rfl hS0 ?_
  refine tkA 5 (.int .i64 fr) rfl hS0 ?_
  refine tkA 6 (.tuple #[.pointer none, .bool false]) rfl hS0 ?_
  refine tkA 7 (.tuple #[.pointer none, .bool false]) rfl hS0 ?_
  refine tkA 8 (.pointer none) rfl hS0 ?_
  refine tkA 9 (.bool false) rfl hS0 ?_
  refine tkA 10 (.pointer none) rfl hS0 ?_
  refine tkA 11 (.bool false) rfl hS0 ?_
  refine wpAnyH_done (by kernel_rfl) ?_ _
  clear hS0
  go_simp
  go_wp2_with fail
  have hS0 : w0.drew.drew.cell? ⟨w.heap.size, 1, none⟩ = some (.int .i64 tg) ∧ w0.drew.drew.cell? ⟨w.heap.size, 2, none⟩ = some (.string sum) := ⟨HM0.out.cell 1, HM0.out.cell 2⟩
  refine wp_region_held (S := fun w' => w'.cell? ⟨w.heap.size, 1, none⟩ = some (.int .i64 tg) ∧ w'.cell? ⟨w.heap.size, 2, none⟩ = some (.string sum)) (by kernel_rfl) ?_
  change wpAnyH _ _ _ _ _ _ _ _ (World.drew _)
  refine tkA 0 (.bool false) rfl hS0 ?_
  refine tkA 1 (.bool true) rfl hS0 ?_
  refine tkA 2 (.bool true) rfl hS0 ?_
  refine tkO 3 rfl hS0 ?_
  refine tkO 4 rfl hS0 ?_
  refine tkO 5 rfl hS0 ?_
  refine tkA 6 (.bool true) rfl hS0 ?_
  refine tkA 7 (.bool true) rfl hS0 ?_
  refine tkO 8 rfl hS0 ?_
  refine tkO 9 rfl hS0 ?_
  refine tkO 10 rfl hS0 ?_
  refine tkO 11 rfl hS0 ?_
  refine tkO 12 rfl hS0 ?_
  refine tkA 13 (.bool true) rfl hS0 ?_
  refine tkA 14 (.bool true) rfl hS0 ?_
  refine tkO 15 rfl hS0 ?_
  refine tkO 16 rfl hS0 ?_
  refine tkO 17 rfl hS0 ?_
  refine tkO 18 rfl hS0 ?_
  refine tkO 19 rfl hS0 ?_
  refine tkO 20 rfl hS0 ?_
  refine tkO 21 rfl hS0 ?_
  refine tkA 22 (.bool true) rfl hS0 ?_
  refine wpAnyH_done (by kernel_rfl) ?_ _
  clear hS0
  go_simp
  go_wp2
  exact bodyPost_ret (results_none rfl _ _ _) rfl ⟨rfl, full, its, _, qs, lk, .inl ⟨HNO.out, rfl, rfl, rfl⟩, HH.out.rd.below HB2.out, HB2.out.mono hBw⟩
 have hlt : (fr - 1).toNat < qs.length := by omega
 obtain ⟨i, hi⟩ : ∃ x, x = (fr - 1).toNat := ⟨_, rfl⟩
 rw [← hi] at hlt
 obtain ⟨pb, hpb⟩ : ∃ x, pbs.getD i 0 = x := ⟨_, rfl⟩
 have HLK : Hid (∀ W : World, W.ownsMap Tryz.prog 3 ptrElem pm qs.length (mapP pbs qs.length) → (Instr.lookup 104 (.map (some pm)) (.int .i64 fr) true).run Tryz.prog W = .ok (.tuple #[.pointer (some ⟨pb, 0, none⟩), .bool true]) W) := hid fun W h => by
  have e := HLK0.out W h
  rw [if_pos hin, decide_eq_true hin, ← hi, hpb] at e
  exact e
 have HLH : Hid (1 ≤ fr ∧ fr ≤ ((qs.map Prod.fst).length : Int)) := hid (by simpa using hin)
 have hok := HVF.out.each i (by simpa using hlt)
 rw [pat_fst] at hok
 have HPA : Hid (pat (qs.map Prod.fst) (fr - 1).toNat = qp qs i) := hid (by rw [← hi]; exact pat_fst qs i)
 have hq0 := (HH.out.peers.blk i hlt).2
 have hr0 := HH.out.peers.nots i hlt
 have hap := HH.out.peers.ap1 i i hlt hlt
 have hpl := (HH.out.peers.blk i hlt).1
 rw [hpb] at hq0 hap hpl
 have HPB := hid hpb
 have HII := hid hi
 obtain ⟨v, hv⟩ : ∃ x, qv qs i = x := ⟨_, rfl⟩
 obtain ⟨p, hp⟩ : ∃ x, qp qs i = x := ⟨_, rfl⟩
 have HV := hid hv
 have HPP := hid hp
 rw [hp] at hok HPA
 rw [hv, hp] at hq0 hr0
 rw [hv] at hap
 obtain ⟨pl, pw, pt, pa, pn⟩ := p
 obtain ⟨an, cn, rfl⟩ := row_any hr0
 dsimp only at hr0 hq0
 have HQ0 := hid (hq0.below HA0.out)
 have HR0 := hid (Below.row HA0.out hr0)
 have HAP := hid hap
 have HOK := hid hok
 have hpw := hok.wait
 have hpl3 := hok.lies
 dsimp only at hpw hpl3
 have hplt := hq0.lt
 clear hin hi hpb hv hp hok hq0 hr0 hap
 by_cases hto : tg = 0
 case neg =>
  have HNO : Hid (¬ Asks (qs.map Prod.fst) fr tg sum) := hid fun h => hto h.tgt
  have hto' : (tg != 0) = true := by simpa using hto
  go_enter Tryz.func44, Tryz.ntmps44
  have hS0 : w0.drew.cell? ⟨hb, 4, none⟩ = some (.map (some pm)) ∧ w0.drew.cell? ⟨w.heap.size, 0, none⟩ = some (.int .i64 fr) ∧ (Instr.lookup 104 (.map (some pm)) (.int .i64 fr) true).run Tryz.prog w0.drew = .ok (.tuple #[.pointer (some ⟨pb, 0, none⟩), .bool true]) w0.drew := ⟨HX0.out.cell 4, HM0.out.cell 0, HLK.out _ (HP0.out.drew)⟩
  go_upto_region 1 with fail
  rw [← hw0]
  clear hw0
  refine wp_region_held (S := fun w' => w'.cell? ⟨hb, 4, none⟩ = some (.map (some pm)) ∧ w'.cell? ⟨w.heap.size, 0, none⟩ = some (.int .i64 fr) ∧ (Instr.lookup 104 (.map (some pm)) (.int .i64 fr) true).run Tryz.prog w' = .ok (.tuple #[.pointer (some ⟨pb, 0, none⟩), .bool true]) w') (by kernel_rfl) ?_
  change wpAnyH _ _ _ _ _ _ _ _ (World.drew _)
  refine tkA 0 (.pointer (some ⟨hb, 0, none⟩)) rfl hS0 ?_
  refine tkA 1 (.pointer (some ⟨hb, 0, none⟩)) rfl hS0 ?_
  refine tkA 2 (.pointer (some ⟨hb, 4, none⟩)) rfl hS0 ?_
  refine tkA 3 (.map (some pm)) rfl hS0 ?_
  refine tkA 4 (.pointer (some ⟨w.heap.size, 0, none⟩)) rfl hS0 ?_
  refine tkA 5 (.int .i64 fr) rfl hS0 ?_
  refine tkA 6 (.tuple #[.pointer (some ⟨pb, 0, none⟩), .bool true]) rfl hS0 ?_
  refine tkA 7 (.tuple #[.pointer (some ⟨pb, 0, none⟩), .bool true]) rfl hS0 ?_
  refine tkA 8 (.pointer (some ⟨pb, 0, none⟩)) rfl hS0 ?_
  refine tkA 9 (.bool true) rfl hS0 ?_
  refine tkA 10 (.pointer (some ⟨pb, 0, none⟩)) rfl hS0 ?_
  refine tkA 11 (.bool true) rfl hS0 ?_
  refine wpAnyH_done (by kernel_rfl) ?_ _
  clear hS0
  go_simp
  go_wp2_with fail
  have hS0 : w0.drew.drew.cell? ⟨w.heap.size, 1, none⟩ = some (.int .i64 tg) ∧ w0.drew.drew.cell? ⟨w.heap.size, 2, none⟩ = some (.string sum) ∧ w0.drew.drew.cell? ⟨pb, 1, none⟩ = some (.int .i64 pw) ∧ w0.drew.drew.cell? ⟨pb, 3, none⟩ = some (.string pa) := ⟨HM0.out.cell 1, HM0.out.cell 2, HQ0.out.cell 1, HQ0.out.cell 3⟩
  refine wp_region_held (S := fun w' => w'.cell? ⟨w.heap.size, 1, none⟩ = some (.int .i64 tg) ∧ w'.cell? ⟨w.heap.size, 2, none⟩ = some (.string sum) ∧ w'.cell? ⟨pb, 1, none⟩ = some (.int .i64 pw) ∧ w'.cell? ⟨pb, 3, none⟩ = some (.string pa)) (by kernel_rfl) ?_
  change wpAnyH _ _ _ _ _ _ _ _ (World.drew _)
  refine tkA 0 (.bool true) rfl hS0 ?_
  refine tkA 1 (.bool false) rfl hS0 ?_
  refine tkA 2 (.bool false) rfl hS0 ?_
  refine tkG 3 (.pointer (some ⟨w.heap.size, 1, none⟩)) rfl hS0 ?_
  refine tkG 4 (.int .i64 tg) rfl hS0 ?_
  refine tkG 5 (.bool true) rfl hS0 ?_
  refine tkA 6 (.bool true) rfl hS0 ?_
  refine tkA 7 (.bool true) rfl hS0 ?_
  refine tkO 8 rfl hS0 ?_
  refine tkO 9 rfl hS0 ?_
  refine tkO 10 rfl hS0 ?_
  refine tkO 11 rfl hS0 ?_
  refine tkO 12 rfl hS0 ?_
  refine tkA 13 (.bool true) rfl hS0 ?_
  refine tkA 14 (.bool true) rfl hS0 ?_
  refine tkO 15 rfl hS0 ?_
  refine tkO 16 rfl hS0 ?_
  refine tkO 17 rfl hS0 ?_
  refine tkO 18 rfl hS0 ?_
  refine tkO 19 rfl hS0 ?_
  refine tkO 20 rfl hS0 ?_
  refine tkO 21 rfl hS0 ?_
  refine tkA 22 (.bool true) rfl hS0 ?_
  refine wpAnyH_done (by kernel_rfl) ?_ _
  clear hS0
  go_simp
  go_wp2
  exact bodyPost_ret (results_none rfl _ _ _) rfl ⟨rfl, full, its, _, qs, lk, .inl ⟨HNO.out, rfl, rfl, rfl⟩, HH.out.rd.below HB2.out, HB2.out.mono hBw⟩
 subst hto
 by_cases hw0' : pw = 0
 case pos =>
  have HNO : Hid (¬ Asks (qs.map Prod.fst) fr 0 sum) := hid fun h => h.wait (by rw [HPA.out]; exact hw0')
  go_enter Tryz.func44, Tryz.ntmps44
  have hS0 : w0.drew.cell? ⟨hb, 4, none⟩ = some (.map (some pm)) ∧ w0.drew.cell? ⟨w.heap.size, 0, none⟩ = some (.int .i64 fr) ∧ (Instr.lookup 104 (.map (some pm)) (.int .i64 fr) true).run Tryz.prog w0.drew = .ok (.tuple #[.pointer (some ⟨pb, 0, none⟩), .bool true]) w0.drew := ⟨HX0.out.cell 4, HM0.out.cell 0, HLK.out _ (HP0.out.drew)⟩
  go_upto_region 1 with fail
  rw [← hw0]
  clear hw0
  refine wp_region_held (S := fun w' => w'.cell? ⟨hb, 4, none⟩ = some (.map (some pm)) ∧ w'.cell? ⟨w.heap.size, 0, none⟩ = some (.int .i64 fr) ∧ (Instr.lookup 104 (.map (some pm)) (.int .i64 fr) true).run Tryz.prog w' = .ok (.tuple #[.pointer (some ⟨pb, 0, none⟩), .bool true]) w') (by kernel_rfl) ?_
  change wpAnyH _ _ _ _ _ _ _ _ (World.drew _)
  refine tkA 0 (.pointer (some ⟨hb, 0, none⟩)) rfl hS0 ?_
  refine tkA 1 (.pointer (some ⟨hb, 0, none⟩)) rfl hS0 ?_
  refine tkA 2 (.pointer (some ⟨hb, 4, none⟩)) rfl hS0 ?_
  refine tkA 3 (.map (some pm)) rfl hS0 ?_
  refine tkA 4 (.pointer (some ⟨w.heap.size, 0, none⟩)) rfl hS0 ?_
  refine tkA 5 (.int .i64 fr) rfl hS0 ?_
  refine tkA 6 (.tuple #[.pointer (some ⟨pb, 0, none⟩), .bool true]) rfl hS0 ?_
  refine tkA 7 (.tuple #[.pointer (some ⟨pb, 0, none⟩), .bool true]) rfl hS0 ?_
  refine tkA 8 (.pointer (some ⟨pb, 0, none⟩)) rfl hS0 ?_
  refine tkA 9 (.bool true) rfl hS0 ?_
  refine tkA 10 (.pointer (some ⟨pb, 0, none⟩)) rfl hS0 ?_
  refine tkA 11 (.bool true) rfl hS0 ?_
  refine wpAnyH_done (by kernel_rfl) ?_ _
  clear hS0
  go_simp
  go_wp2_with fail
  have hS0 : w0.drew.drew.cell? ⟨w.heap.size, 1, none⟩ = some (.int .i64 0) ∧ w0.drew.drew.cell? ⟨w.heap.size, 2, none⟩ = some (.string sum) ∧ w0.drew.drew.cell? ⟨pb, 1, none⟩ = some (.int .i64 pw) ∧ w0.drew.drew.cell? ⟨pb, 3, none⟩ = some (.string pa) := ⟨HM0.out.cell 1, HM0.out.cell 2, HQ0.out.cell 1, HQ0.out.cell 3⟩
  refine wp_region_held (S := fun w' => w'.cell? ⟨w.heap.size, 1, none⟩ = some (.int .i64 0) ∧ w'.cell? ⟨w.heap.size, 2, none⟩ = some (.string sum) ∧ w'.cell? ⟨pb, 1, none⟩ = some (.int .i64 pw) ∧ w'.cell? ⟨pb, 3, none⟩ = some (.string pa)) (by kernel_rfl) ?_
  change wpAnyH _ _ _ _ _ _ _ _ (World.drew _)
  refine tkA 0 (.bool true) rfl hS0 ?_
  refine tkA 1 (.bool false) rfl hS0 ?_
  refine tkA 2 (.bool false) rfl hS0 ?_
  refine tkG 3 (.pointer (some ⟨w.heap.size, 1, none⟩)) rfl hS0 ?_
  refine tkG 4 (.int .i64 0) rfl hS0 ?_
  refine tkG 5 (.bool false) rfl hS0 ?_
  refine tkA 6 (.bool false) rfl hS0 ?_
  refine tkA 7 (.bool false) rfl hS0 ?_
  refine tkG 8 (.pointer (some ⟨pb, 0, none⟩)) rfl hS0 ?_
  refine tkG 9 (.pointer (some ⟨pb, 0, none⟩)) rfl hS0 ?_
  refine tkG 10 (.pointer (some ⟨pb, 1, none⟩)) rfl hS0 ?_
  refine tkG 11 (.int .i64 pw) rfl hS0 ?_
  refine tkG 12 (.bool true) rfl hS0 ?_
  refine tkA 13 (.bool true) rfl hS0 ?_
  refine tkA 14 (.bool true) rfl hS0 ?_
  refine tkO 15 rfl hS0 ?_
  refine tkO 16 rfl hS0 ?_
  refine tkO 17 rfl hS0 ?_
  refine tkO 18 rfl hS0 ?_
  refine tkO 19 rfl hS0 ?_
  refine tkO 20 rfl hS0 ?_
  refine tkO 21 rfl hS0 ?_
  refine tkA 22 (.bool true) rfl hS0 ?_
  refine wpAnyH_done (by kernel_rfl) ?_ _
  clear hS0
  go_simp
  go_wp2
  exact bodyPost_ret (results_none rfl _ _ _) rfl ⟨rfl, full, its, _, qs, lk, .inl ⟨HNO.out, rfl, rfl, rfl⟩, HH.out.rd.below HB2.out, HB2.out.mono hBw⟩
 by_cases has' : pa = sum
 case neg =>
  have HNO : Hid (¬ Asks (qs.map Prod.fst) fr 0 sum) := hid fun h => has' (by have := h.asked; rw [HPA.out] at this; exact this)
  have hae : (pa.toList == sum.toList) = false := by
   cases e : (pa.toList == sum.toList) with
   | false => rfl
   | true => exact absurd (text_eq (by simpa using e)) has'
  have hwb : (pw == 0) = false := by simpa using hw0'
  go_enter Tryz.func44, Tryz.ntmps44
  have hS0 : w0.drew.cell? ⟨hb, 4, none⟩ = some (.map (some pm)) ∧ w0.drew.cell? ⟨w.heap.size, 0, none⟩ = some (.int .i64 fr) ∧ (Instr.lookup 104 (.map (some pm)) (.int .i64 fr) true).run Tryz.prog w0.drew = .ok (.tuple #[.pointer (some ⟨pb, 0, none⟩), .bool true]) w0.drew := ⟨HX0.out.cell 4, HM0.out.cell 0, HLK.out _ (HP0.out.drew)⟩
  go_upto_region 1 with fail
  rw [← hw0]
  clear hw0
  refine wp_region_held (S := fun w' => w'.cell? ⟨hb, 4, none⟩ = some (.map (some pm)) ∧ w'.cell? ⟨w.heap.size, 0, none⟩ = some (.int .i64 fr) ∧ (Instr.lookup 104 (.map (some pm)) (.int .i64 fr) true).run Tryz.prog w' = .ok (.tuple #[.pointer (some ⟨pb, 0, none⟩), .bool true]) w') (by kernel_rfl) ?_
  change wpAnyH _ _ _ _ _ _ _ _ (World.drew _)
  refine tkA 0 (.pointer (some ⟨hb, 0, none⟩)) rfl hS0 ?_
  refine tkA 1 (.pointer (some ⟨hb, 0, none⟩)) rfl hS0 ?_
  refine tkA 2 (.pointer (some ⟨hb, 4, none⟩)) rfl hS0 ?_
  refine tkA 3 (.map (some pm)) rfl hS0 ?_
  refine tkA 4 (.pointer (some ⟨w.heap.size, 0, none⟩)) rfl hS0 ?_
  refine tkA 5 (.int .i64 fr) rfl hS0 ?_
  refine tkA 6 (.tuple #[.pointer (some ⟨pb, 0, none⟩), .bool true]) rfl hS0 ?_
  refine tkA 7 (.tuple #[.pointer (some ⟨pb, 0, none⟩), .bool true]) rfl hS0 ?_
  refine tkA 8 (.pointer (some ⟨pb, 0, none⟩)) rfl hS0 ?_
  refine tkA 9 (.bool true) rfl hS0 ?_
  refine tkA 10 (.pointer (some ⟨pb, 0, none⟩)) rfl hS0 ?_
  refine tkA 11 (.bool true) rfl hS0 ?_
  refine wpAnyH_done (by kernel_rfl) ?_ _
  clear hS0
  go_simp
  go_wp2_with fail
  have hS0 : w0.drew.drew.cell? ⟨w.heap.size, 1, none⟩ = some (.int .i64 0) ∧ w0.drew.drew.cell? ⟨w.heap.size, 2, none⟩ = some (.string sum) ∧ w0.drew.drew.cell? ⟨pb, 1, none⟩ = some (.int .i64 pw) ∧ w0.drew.drew.cell? ⟨pb, 3, none⟩ = some (.string pa) := ⟨HM0.out.cell 1, HM0.out.cell 2, HQ0.out.cell 1, HQ0.out.cell 3⟩
  refine wp_region_held (S := fun w' => w'.cell? ⟨w.heap.size, 1, none⟩ = some (.int .i64 0) ∧ w'.cell? ⟨w.heap.size, 2, none⟩ = some (.string sum) ∧ w'.cell? ⟨pb, 1, none⟩ = some (.int .i64 pw) ∧ w'.cell? ⟨pb, 3, none⟩ = some (.string pa)) (by kernel_rfl) ?_
  change wpAnyH _ _ _ _ _ _ _ _ (World.drew _)
  refine tkA 0 (.bool true) rfl hS0 ?_
  refine tkA 1 (.bool false) rfl hS0 ?_
  refine tkA 2 (.bool false) rfl hS0 ?_
  refine tkG 3 (.pointer (some ⟨w.heap.size, 1, none⟩)) rfl hS0 ?_
  refine tkG 4 (.int .i64 0) rfl hS0 ?_
  refine tkG 5 (.bool false) rfl hS0 ?_
  refine tkA 6 (.bool false) rfl hS0 ?_
  refine tkA 7 (.bool false) rfl hS0 ?_
  refine tkG 8 (.pointer (some ⟨pb, 0, none⟩)) rfl hS0 ?_
  refine tkG 9 (.pointer (some ⟨pb, 0, none⟩)) rfl hS0 ?_
  refine tkG 10 (.pointer (some ⟨pb, 1, none⟩)) rfl hS0 ?_
  refine tkG 11 (.int .i64 pw) rfl hS0 ?_
  refine tkG 12 (.bool false) rfl hS0 ?_
  refine tkA 13 (.bool false) rfl hS0 ?_
  refine tkA 14 (.bool false) rfl hS0 ?_
  refine tkG 15 (.pointer (some ⟨pb, 0, none⟩)) rfl hS0 ?_
  refine tkG 16 (.pointer (some ⟨pb, 0, none⟩)) rfl hS0 ?_
  refine tkG 17 (.pointer (some ⟨pb, 3, none⟩)) rfl hS0 ?_
  refine tkG 18 (.string pa) rfl hS0 ?_
  refine tkG 19 (.pointer (some ⟨w.heap.size, 2, none⟩)) rfl hS0 ?_
  refine tkG 20 (.string sum) rfl hS0 ?_
  refine tkG 21 (.bool true) rfl hS0 ?_
  refine tkA 22 (.bool true) rfl hS0 ?_
  refine wpAnyH_done (by kernel_rfl) ?_ _
  clear hS0
  go_simp
  go_wp2
  exact bodyPost_ret (results_none rfl _ _ _) rfl ⟨rfl, full, its, _, qs, lk, .inl ⟨HNO.out, rfl, rfl, rfl⟩, HH.out.rd.below HB2.out, HB2.out.mono hBw⟩
 have HASK : Hid (Asks (qs.map Prod.fst) fr 0 sum) := hid ⟨rfl, HLH.out.1, HLH.out.2, by rw [HPA.out]; exact hw0', by rw [HPA.out]; exact has'⟩
 have hae : (pa.toList == sum.toList) = true := by rw [has']; simp
 have hwb : (pw == 0) = false := by simpa using hw0'
 clear has'
 -- the two stores into the peer
 have Q0 : Blk w0 pb 57 #[.int .i64 pl, .int .i64 pw, .int .i64 pt, .string pa, .slice an pn.length cn] := HQ0.out
 have z1 : w0.cell? ⟨pb, 1, none⟩ = some (.int .i64 pw) := Q0.cell 1
 have f1 := Q0.fz 1
 have z1d : w0.drew.drew.cell? ⟨pb, 1, none⟩ = some (.int .i64 pw) := Q0.cell 1
 have f1d : w0.drew.drew.frozen? ⟨pb, 1, none⟩ = false := Q0.fz 1
 have Q1 : Blk (w0.setCell ⟨pb, 1, none⟩ (.int .i64 0)) pb 57 #[.int .i64 pl, .int .i64 0, .int .i64 pt, .string pa, .slice an pn.length cn] := Q0.set 1 (.int .i64 0)
 have z3 : (w0.setCell ⟨pb, 1, none⟩ (.int .i64 0)).cell? ⟨pb, 3, none⟩ = some (.string pa) := Q1.cell 3
 have f3 := Q1.fz 3
 have z3d : (w0.setCell ⟨pb, 1, none⟩ (.int .i64 0)).drew.drew.cell? ⟨pb, 3, none⟩ = some (.string pa) := Q1.cell 3
 have f3d : (w0.setCell ⟨pb, 1, none⟩ (.int .i64 0)).drew.drew.frozen? ⟨pb, 3, none⟩ = false := Q1.fz 3
 have Q2 : Blk ((w0.setCell ⟨pb, 1, none⟩ (.int .i64 0)).setCell ⟨pb, 3, none⟩ (.string ⟨#[]⟩)).drew.drew pb 57 #[.int .i64 pl, .int .i64 0, .int .i64 pt, .string ⟨#[]⟩, .slice an pn.length cn] := Q1.set 3 (.string ⟨#[]⟩)
 have G1 := grown_same (grownBy_setCellAt w0 pb 1 (.int .i64 0)) (grownBy_setCellAt _ pb 3 (.string ⟨#[]⟩))
 have G2 : w0.grownBy ((w0.setCell ⟨pb, 1, none⟩ (.int .i64 0)).setCell ⟨pb, 3, none⟩ (.string ⟨#[]⟩)).drew.drew (some pb) := ⟨G1.os, G1.tape, G1.output, G1.size, G1.block⟩
 obtain ⟨w3, hw3⟩ : ∃ x, x = ((w0.setCell ⟨pb, 1, none⟩ (.int .i64 0)).setCell ⟨pb, 3, none⟩ (.string ⟨#[]⟩)).drew.drew := ⟨_, rfl⟩
 rw [← hw3] at Q2 G2
 have T3 : But (fun b => b = pb) w w3 := (But.of_below HA0.out).trans (But.of_grown (P := fun b => b = pb) G2 rfl) (fun _ _ h => h)
 have e1 := HH.out.s1; have e2 := HH.out.s2; have e3 := HH.out.b1; have e4 := HH.out.b2; have e5 := HH.out.b3; have e6 := HH.out.b4; have e7 := HH.out.b5; have e8 := HH.out.b6; have e9 := HH.out.shelf.hs; have e10 := HH.out.shelf.hm
 have HX3 := hid (T3.blk HH.out.box (fun e => by have e' : hb = pb := e; omega))
 have HS3 := hid (T3.blk HH.out.shelf.box (fun e => by have e' : sb = pb := e; omega))
 have HSM3 := hid (T3.map HH.out.shelf.map (fun e => by have e' : mb = pb := e; omega))
 have HRW3 := hid (T3.row HH.out.shelf.row (fun g e h => by have h1 := HH.out.s3 g e; have h2 : g = pb := h; omega))
 have HR3 := hid (HR0.out.kept G2 (.inr HAP.out))
 have HM3 := hid (show Blk w3 w.heap.size 49 #[.int .i64 fr, .int .i64 0, .string sum, .bool has, .string text] from HM0.out.kept G2 (fun e => by have := Option.some.inj e; omega))
 have HT3 : Hid (But (fun b => b = hb ∨ b = sb ∨ b = mb ∨ b = pbs.getD i 0 ∨ (qv qs i).ownBlock = some b) w w3) := hid (T3.mono (fun b _ h => .inr (.inr (.inr (.inl (by rw [HPB.out]; exact h))))))
 have HQ3 := hid Q2
 have hn3 : w3.cell? ⟨w.heap.size, 3, none⟩ = some (.bool has) := HM3.out.cell 3
 have hn2 : w3.cell? ⟨w.heap.size, 2, none⟩ = some (.string sum) := HM3.out.cell 2
 have hn4 : w3.cell? ⟨w.heap.size, 4, none⟩ = some (.string text) := HM3.out.cell 4
 have hs3 := T3.size
 have HBL : Hid (∀ W, But (fun b => b = hb ∨ b = sb ∨ b = mb ∨ b = pbs.getD i 0 ∨ (qv qs i).ownBlock = some b) w W → Below B w W) := hid fun W h => h.below hBw (fun b e => by
  rcases e with e | e | e | e | e
  ·omega
  ·omega
  ·omega
  ·rw [HPB.out] at e; omega
  ·have := ((HH.out.peers.nots i hlt).lt b e).1; omega)
 clear Q0 Q1 Q2 G1 G2 T3
 cases has with
 | false =>
  have HAN := hid (addNot_any pb C2 pl 0 pt ⟨#[]⟩ (.slice an pn.length cn) pn sum w3 HQ3.out HR3.out HAP.out (okSums_asc HOK.out.nots) HOK.out.many)
  go_enter Tryz.func44, Tryz.ntmps44
  have hS0 : w0.drew.cell? ⟨hb, 4, none⟩ = some (.map (some pm)) ∧ w0.drew.cell? ⟨w.heap.size, 0, none⟩ = some (.int .i64 fr) ∧ (Instr.lookup 104 (.map (some pm)) (.int .i64 fr) true).run Tryz.prog w0.drew = .ok (.tuple #[.pointer (some ⟨pb, 0, none⟩), .bool true]) w0.drew := ⟨HX0.out.cell 4, HM0.out.cell 0, HLK.out _ (HP0.out.drew)⟩
  go_upto_region 1 with fail
  rw [← hw0]
  clear hw0
  refine wp_region_held (S := fun w' => w'.cell? ⟨hb, 4, none⟩ = some (.map (some pm)) ∧ w'.cell? ⟨w.heap.size, 0, none⟩ = some (.int .i64 fr) ∧ (Instr.lookup 104 (.map (some pm)) (.int .i64 fr) true).run Tryz.prog w' = .ok (.tuple #[.pointer (some ⟨pb, 0, none⟩), .bool true]) w') (by kernel_rfl) ?_
  change wpAnyH _ _ _ _ _ _ _ _ (World.drew _)
  refine tkA 0 (.pointer (some ⟨hb, 0, none⟩)) rfl hS0 ?_
  refine tkA 1 (.pointer (some ⟨hb, 0, none⟩)) rfl hS0 ?_
  refine tkA 2 (.pointer (some ⟨hb, 4, none⟩)) rfl hS0 ?_
  refine tkA 3 (.map (some pm)) rfl hS0 ?_
  refine tkA 4 (.pointer (some ⟨w.heap.size, 0, none⟩)) rfl hS0 ?_
  refine tkA 5 (.int .i64 fr) rfl hS0 ?_
  refine tkA 6 (.tuple #[.pointer (some ⟨pb, 0, none⟩), .bool true]) rfl hS0 ?_
  refine tkA 7 (.tuple #[.pointer (some ⟨pb, 0, none⟩), .bool true]) rfl hS0 ?_
  refine tkA 8 (.pointer (some ⟨pb, 0, none⟩)) rfl hS0 ?_
  refine tkA 9 (.bool true) rfl hS0 ?_
  refine tkA 10 (.pointer (some ⟨pb, 0, none⟩)) rfl hS0 ?_
  refine tkA 11 (.bool true) rfl hS0 ?_
  refine wpAnyH_done (by kernel_rfl) ?_ _
  clear hS0
  go_simp
  go_wp2_with fail
  have hS0 : w0.drew.drew.cell? ⟨w.heap.size, 1, none⟩ = some (.int .i64 0) ∧ w0.drew.drew.cell? ⟨w.heap.size, 2, none⟩ = some (.string sum) ∧ w0.drew.drew.cell? ⟨pb, 1, none⟩ = some (.int .i64 pw) ∧ w0.drew.drew.cell? ⟨pb, 3, none⟩ = some (.string pa) := ⟨HM0.out.cell 1, HM0.out.cell 2, HQ0.out.cell 1, HQ0.out.cell 3⟩
  refine wp_region_held (S := fun w' => w'.cell? ⟨w.heap.size, 1, none⟩ = some (.int .i64 0) ∧ w'.cell? ⟨w.heap.size, 2, none⟩ = some (.string sum) ∧ w'.cell? ⟨pb, 1, none⟩ = some (.int .i64 pw) ∧ w'.cell? ⟨pb, 3, none⟩ = some (.string pa)) (by kernel_rfl) ?_
  change wpAnyH _ _ _ _ _ _ _ _ (World.drew _)
  refine tkA 0 (.bool true) rfl hS0 ?_
  refine tkA 1 (.bool false) rfl hS0 ?_
  refine tkA 2 (.bool false) rfl hS0 ?_
  refine tkG 3 (.pointer (some ⟨w.heap.size, 1, none⟩)) rfl hS0 ?_
  refine tkG 4 (.int .i64 0) rfl hS0 ?_
  refine tkG 5 (.bool false) rfl hS0 ?_
  refine tkA 6 (.bool false) rfl hS0 ?_
  refine tkA 7 (.bool false) rfl hS0 ?_
  refine tkG 8 (.pointer (some ⟨pb, 0, none⟩)) rfl hS0 ?_
  refine tkG 9 (.pointer (some ⟨pb, 0, none⟩)) rfl hS0 ?_
  refine tkG 10 (.pointer (some ⟨pb, 1, none⟩)) rfl hS0 ?_
  refine tkG 11 (.int .i64 pw) rfl hS0 ?_
  refine tkG 12 (.bool false) rfl hS0 ?_
  refine tkA 13 (.bool false) rfl hS0 ?_
  refine tkA 14 (.bool false) rfl hS0 ?_
  refine tkG 15 (.pointer (some ⟨pb, 0, none⟩)) rfl hS0 ?_
  refine tkG 16 (.pointer (some ⟨pb, 0, none⟩)) rfl hS0 ?_
  refine tkG 17 (.pointer (some ⟨pb, 3, none⟩)) rfl hS0 ?_
  refine tkG 18 (.string pa) rfl hS0 ?_
  refine tkG 19 (.pointer (some ⟨w.heap.size, 2, none⟩)) rfl hS0 ?_
  refine tkG 20 (.string sum) rfl hS0 ?_
  refine tkG 21 (.bool false) rfl hS0 ?_
  refine tkA 22 (.bool false) rfl hS0 ?_
  refine wpAnyH_done (by kernel_rfl) ?_ _
  clear hS0
  go_simp
  go_upto_region 4 with fail
  rw [← hw3]
  clear hw3 z1 f1 z3 f3 z1d f1d z3d f3d
  go_wp2_with fail
  refine HAN.out.mono ?_
  rintro e w4 ⟨rfl, v4, X4, R4, T4⟩
  have TT := HT3.out.trans T4 (Q := fun b => b = pb ∨ (Value.slice an pn.length cn).ownBlock = some b) (fun b _ h => h.elim (fun h => .inr (.inr (.inr (.inl (by rw [HPB.out]; exact h))))) (fun h => .inr (.inr (.inr (.inr (by rw [HV.out]; exact h))))))
  have hnv : ∀ b, b < C2 → ¬ (b = pb ∨ (Value.slice an pn.length cn).ownBlock = some b) := fun b hb h => h.elim (fun h => by omega) (fun h => by have := (HR0.out.lt b h).1; omega)
  have HRD := hid (HH.out.turn (full' := full) (lk' := lk) (its' := its) (p' := ⟨pl, 0, pt, ⟨#[]⟩, notsA sum pn⟩) hlt TT (T4.blk HX3.out (hnv _ (by omega))) (T4.blk HS3.out (hnv _ (by omega))) (T4.map HSM3.out (hnv _ (by omega))) (by rw [HPB.out]; exact X4) R4)
  have HTS : Hid (TakeS nm now full wd room its ts (qs.map Prod.fst) fr 0 sum false text full its ((qs.set i ((⟨pl, 0, pt, ⟨#[]⟩, notsA sum pn⟩ : Pr), v4)).map Prod.fst)) := hid (.inr (.inl ⟨HASK.out, rfl, rfl, rfl, by rw [HPA.out, List.map_set, ← HII.out]; rfl⟩))
  have HBB := hid (HBL.out w4 TT)
  clear X4 R4 T4 TT hnv
  go_wp2
  exact bodyPost_ret (results_none rfl _ _ _) rfl ⟨rfl, full, its, _, _, lk, HTS.out, HRD.out, HBB.out⟩
 | true =>
  have hS3b := HS3.out
  rw [List.take_length] at hS3b
  have HKP := hid (huntKeep_any hb pm sb mb ac cc nm now full wd room its ts lv lk sum text w3 HX3.out hS3b HSM3.out (Reads.of_row HRW3.out) HVF.out.store HH.out.shelf.ne (by omega) (by omega) htx (HER.out w3 (HBL.out w3 HT3.out)))
  have HSB3 := hid hS3b
  clear hS3b
  go_enter Tryz.func44, Tryz.ntmps44
  have hS0 : w0.drew.cell? ⟨hb, 4, none⟩ = some (.map (some pm)) ∧ w0.drew.cell? ⟨w.heap.size, 0, none⟩ = some (.int .i64 fr) ∧ (Instr.lookup 104 (.map (some pm)) (.int .i64 fr) true).run Tryz.prog w0.drew = .ok (.tuple #[.pointer (some ⟨pb, 0, none⟩), .bool true]) w0.drew := ⟨HX0.out.cell 4, HM0.out.cell 0, HLK.out _ (HP0.out.drew)⟩
  go_upto_region 1 with fail
  rw [← hw0]
  clear hw0
  refine wp_region_held (S := fun w' => w'.cell? ⟨hb, 4, none⟩ = some (.map (some pm)) ∧ w'.cell? ⟨w.heap.size, 0, none⟩ = some (.int .i64 fr) ∧ (Instr.lookup 104 (.map (some pm)) (.int .i64 fr) true).run Tryz.prog w' = .ok (.tuple #[.pointer (some ⟨pb, 0, none⟩), .bool true]) w') (by kernel_rfl) ?_
  change wpAnyH _ _ _ _ _ _ _ _ (World.drew _)
  refine tkA 0 (.pointer (some ⟨hb, 0, none⟩)) rfl hS0 ?_
  refine tkA 1 (.pointer (some ⟨hb, 0, none⟩)) rfl hS0 ?_
  refine tkA 2 (.pointer (some ⟨hb, 4, none⟩)) rfl hS0 ?_
  refine tkA 3 (.map (some pm)) rfl hS0 ?_
  refine tkA 4 (.pointer (some ⟨w.heap.size, 0, none⟩)) rfl hS0 ?_
  refine tkA 5 (.int .i64 fr) rfl hS0 ?_
  refine tkA 6 (.tuple #[.pointer (some ⟨pb, 0, none⟩), .bool true]) rfl hS0 ?_
  refine tkA 7 (.tuple #[.pointer (some ⟨pb, 0, none⟩), .bool true]) rfl hS0 ?_
  refine tkA 8 (.pointer (some ⟨pb, 0, none⟩)) rfl hS0 ?_
  refine tkA 9 (.bool true) rfl hS0 ?_
  refine tkA 10 (.pointer (some ⟨pb, 0, none⟩)) rfl hS0 ?_
  refine tkA 11 (.bool true) rfl hS0 ?_
  refine wpAnyH_done (by kernel_rfl) ?_ _
  clear hS0
  go_simp
  go_wp2_with fail
  have hS0 : w0.drew.drew.cell? ⟨w.heap.size, 1, none⟩ = some (.int .i64 0) ∧ w0.drew.drew.cell? ⟨w.heap.size, 2, none⟩ = some (.string sum) ∧ w0.drew.drew.cell? ⟨pb, 1, none⟩ = some (.int .i64 pw) ∧ w0.drew.drew.cell? ⟨pb, 3, none⟩ = some (.string pa) := ⟨HM0.out.cell 1, HM0.out.cell 2, HQ0.out.cell 1, HQ0.out.cell 3⟩
  refine wp_region_held (S := fun w' => w'.cell? ⟨w.heap.size, 1, none⟩ = some (.int .i64 0) ∧ w'.cell? ⟨w.heap.size, 2, none⟩ = some (.string sum) ∧ w'.cell? ⟨pb, 1, none⟩ = some (.int .i64 pw) ∧ w'.cell? ⟨pb, 3, none⟩ = some (.string pa)) (by kernel_rfl) ?_
  change wpAnyH _ _ _ _ _ _ _ _ (World.drew _)
  refine tkA 0 (.bool true) rfl hS0 ?_
  refine tkA 1 (.bool false) rfl hS0 ?_
  refine tkA 2 (.bool false) rfl hS0 ?_
  refine tkG 3 (.pointer (some ⟨w.heap.size, 1, none⟩)) rfl hS0 ?_
  refine tkG 4 (.int .i64 0) rfl hS0 ?_
  refine tkG 5 (.bool false) rfl hS0 ?_
  refine tkA 6 (.bool false) rfl hS0 ?_
  refine tkA 7 (.bool false) rfl hS0 ?_
  refine tkG 8 (.pointer (some ⟨pb, 0, none⟩)) rfl hS0 ?_
  refine tkG 9 (.pointer (some ⟨pb, 0, none⟩)) rfl hS0 ?_
  refine tkG 10 (.pointer (some ⟨pb, 1, none⟩)) rfl hS0 ?_
  refine tkG 11 (.int .i64 pw) rfl hS0 ?_
  refine tkG 12 (.bool false) rfl hS0 ?_
  refine tkA 13 (.bool false) rfl hS0 ?_
  refine tkA 14 (.bool false) rfl hS0 ?_
  refine tkG 15 (.pointer (some ⟨pb, 0, none⟩)) rfl hS0 ?_
  refine tkG 16 (.pointer (some ⟨pb, 0, none⟩)) rfl hS0 ?_
  refine tkG 17 (.pointer (some ⟨pb, 3, none⟩)) rfl hS0 ?_
  refine tkG 18 (.string pa) rfl hS0 ?_
  refine tkG 19 (.pointer (some ⟨w.heap.size, 2, none⟩)) rfl hS0 ?_
  refine tkG 20 (.string sum) rfl hS0 ?_
  refine tkG 21 (.bool false) rfl hS0 ?_
  refine tkA 22 (.bool false) rfl hS0 ?_
  refine wpAnyH_done (by kernel_rfl) ?_ _
  clear hS0
  go_simp
  go_upto_region 4 with fail
  rw [← hw3]
  clear hw3 z1 f1 z3 f3 z1d f1d z3d f3d
  go_wp2_with fail
  refine HKP.out.mono ?_
  rintro e w4 ⟨code, b, rfl, hkr, hres⟩
  rcases hkr.codes with rfl | rfl | rfl | rfl
  ·rcases hres with ⟨h, _⟩ | ⟨_, X4, M4, T4⟩
   ·exact absurd rfl h
   have hpn : ∀ b, C1 ≤ b → ¬ (b = sb ∨ b = mb) := fun b hb h => h.elim (fun h => by omega) (fun h => by omega)
   have XH := T4.blk HX3.out (hpn _ (by omega))
   have Q4 := T4.blk HQ3.out (hpn _ (by omega))
   have R4 := T4.row HR3.out (fun g e => hpn g (by have := (HR3.out.lt g e).1; omega))
   have c6 : w4.cell? ⟨hb, 6, none⟩ = some (.bool lk) := XH.cell 6
   have f6 := XH.fz 6
   have G5 := grownBy_setCellAt w4 hb 6 (.bool false)
   have TT := (HT3.out.trans T4 (Q := fun b => b = sb ∨ b = mb) (fun b _ h => h.elim (fun h => .inr (.inl h)) (fun h => .inr (.inr (.inl h))))).trans (But.of_grown (P := fun b => b = hb) G5 rfl) (fun b _ h => .inl h)
   have HRD := hid (HH.out.turn (full' := full) (lk' := false) (its' := b) (p' := ⟨pl, 0, pt, ⟨#[]⟩, pn⟩) hlt TT (XH.set 6 (.bool false)) (X4.kept G5 (fun e => by have := Option.some.inj e; omega)) (M4.kept G5 (fun e => by have := Option.some.inj e; omega)) (by rw [HPB.out]; exact Q4.kept G5 (fun e => by have := Option.some.inj e; omega)) (Reads.of_row (R4.kept G5 (.inr fun e => by have := (HR3.out.lt _ e).1; omega))))
   have HTS : Hid (TakeS nm now full wd room its ts (qs.map Prod.fst) fr 0 sum true text full b ((qs.set i ((⟨pl, 0, pt, ⟨#[]⟩, pn⟩ : Pr), .slice an pn.length cn)).map Prod.fst)) := hid (.inr (.inr ⟨HASK.out, rfl, 0, hkr, by simp, by rw [HPA.out, List.map_set, ← HII.out]; simp [codeP, freeP]⟩))
   have HBB := hid (HBL.out _ TT)
   clear X4 M4 T4 TT XH Q4 R4 G5 hpn hkr
   go_wp2
   exact bodyPost_end (results_none rfl _ _ _) rfl ⟨rfl, full, b, _, _, false, HTS.out, HRD.out, HBB.out⟩
  ·rcases hres with ⟨_, hbi, hb4⟩ | ⟨h, _⟩
   case inr => exact absurd h (by decide)
   rw [hbi] at hkr
   clear hbi
   have XH := HX3.out.below hb4
   have Q4 := HQ3.out.below hb4
   have R4 := Below.row hb4 HR3.out
   have S4 := HSB3.out.below hb4
   have M4 := HSM3.out.kept (grown_of_below hb4) (by simp)
   have c0 : w4.cell? ⟨pb, 0, none⟩ = some (.int .i64 pl) := Q4.cell 0
   have f0 := Q4.fz 0
   obtain ⟨lz, hlz⟩ : ∃ x, x = (if pl + 1 > 3 then 3 else pl + 1) := ⟨_, rfl⟩
   have hmin : min (pl + 1) 3 = lz := by rw [hlz]; split <;> omega
   have G5 := grownBy_setCellAt w4 pb 0 (.int .i64 lz)
   have TT := (HT3.out.trans (But.of_below (P := fun b => b = pb) hb4) (fun b _ h => .inr (.inr (.inr (.inl (by rw [HPB.out]; exact h)))))).trans (But.of_grown (P := fun b => b = pb) G5 rfl) (fun b _ h => .inr (.inr (.inr (.inl (by rw [HPB.out]; exact h)))))
   have HRD := hid (HH.out.turn (full' := full) (lk' := lk) (its' := its) (p' := ⟨lz, 0, pt, ⟨#[]⟩, pn⟩) hlt TT (XH.kept G5 (fun e => by have := Option.some.inj e; omega)) (S4.kept G5 (fun e => by have := Option.some.inj e; omega)) (M4.kept G5 (fun e => by have := Option.some.inj e; omega)) (by rw [HPB.out]; exact Q4.set 0 (.int .i64 lz)) (Reads.of_row (R4.kept G5 (.inr HAP.out))))
   have HTS : Hid (TakeS nm now full wd room its ts (qs.map Prod.fst) fr 0 sum true text full its ((qs.set i ((⟨lz, 0, pt, ⟨#[]⟩, pn⟩ : Pr), .slice an pn.length cn)).map Prod.fst)) := hid (.inr (.inr ⟨HASK.out, rfl, 1, hkr, by simp, by rw [HPA.out, List.map_set, ← HII.out, hlz]; simp [codeP, lieP]⟩))
   have HBB := hid (HBL.out _ TT)
   have HLZ := hid hlz
   clear TT XH Q4 R4 G5 S4 M4 hkr hb4 hlz
   have hw1 : IntKind.i64.wrap (pl + 1) = pl + 1 := by rw [IntKind.wrap_i64]; omega
   go_wp2
   exact bodyPost_end (results_none rfl _ _ _) rfl ⟨rfl, full, its, _, _, lk, HTS.out, HRD.out, HBB.out⟩
  ·rcases hres with ⟨_, hbi, hb4⟩ | ⟨h, _⟩
   case inr => exact absurd h (by decide)
   rw [hbi] at hkr
   clear hbi
   have XH := HX3.out.below hb4
   have Q4 := HQ3.out.below hb4
   have R4 := Below.row hb4 HR3.out
   have S4 := HSB3.out.below hb4
   have M4 := HSM3.out.kept (grown_of_below hb4) (by simp)
   have c0 : w4.cell? ⟨pb, 0, none⟩ = some (.int .i64 pl) := Q4.cell 0
   have f0 := Q4.fz 0
   obtain ⟨lz, hlz⟩ : ∃ x, x = (if pl + 1 > 3 then 3 else pl + 1) := ⟨_, rfl⟩
   have hmin : min (pl + 1) 3 = lz := by rw [hlz]; split <;> omega
   have G5 := grownBy_setCellAt w4 pb 0 (.int .i64 lz)
   have TT := (HT3.out.trans (But.of_below (P := fun b => b = pb) hb4) (fun b _ h => .inr (.inr (.inr (.inl (by rw [HPB.out]; exact h)))))).trans (But.of_grown (P := fun b => b = pb) G5 rfl) (fun b _ h => .inr (.inr (.inr (.inl (by rw [HPB.out]; exact h)))))
   have HRD := hid (HH.out.turn (full' := full) (lk' := lk) (its' := its) (p' := ⟨lz, 0, pt, ⟨#[]⟩, pn⟩) hlt TT (XH.kept G5 (fun e => by have := Option.some.inj e; omega)) (S4.kept G5 (fun e => by have := Option.some.inj e; omega)) (M4.kept G5 (fun e => by have := Option.some.inj e; omega)) (by rw [HPB.out]; exact Q4.set 0 (.int .i64 lz)) (Reads.of_row (R4.kept G5 (.inr HAP.out))))
   have HTS : Hid (TakeS nm now full wd room its ts (qs.map Prod.fst) fr 0 sum true text full its ((qs.set i ((⟨lz, 0, pt, ⟨#[]⟩, pn⟩ : Pr), .slice an pn.length cn)).map Prod.fst)) := hid (.inr (.inr ⟨HASK.out, rfl, 2, hkr, by simp, by rw [HPA.out, List.map_set, ← HII.out, hlz]; simp [codeP, lieP]⟩))
   have HBB := hid (HBL.out _ TT)
   have HLZ := hid hlz
   clear TT XH Q4 R4 G5 S4 M4 hkr hb4 hlz
   have hw1 : IntKind.i64.wrap (pl + 1) = pl + 1 := by rw [IntKind.wrap_i64]; omega
   go_wp2
   exact bodyPost_end (results_none rfl _ _ _) rfl ⟨rfl, full, its, _, _, lk, HTS.out, HRD.out, HBB.out⟩
  ·rcases hres with ⟨_, hbi, hb4⟩ | ⟨h, _⟩
   case inr => exact absurd h (by decide)
   rw [hbi] at hkr
   clear hbi
   have XH := HX3.out.below hb4
   have Q4 := HQ3.out.below hb4
   have R4 := Below.row hb4 HR3.out
   have S4 := HSB3.out.below hb4
   have M4 := HSM3.out.kept (grown_of_below hb4) (by simp)
   have c2 : w4.cell? ⟨hb, 2, none⟩ = some (.bool full) := XH.cell 2
   have f2 := XH.fz 2
   have G5 := grownBy_setCellAt w4 hb 2 (.bool true)
   have TT := (HT3.out.trans (But.of_below (P := fun b => b = hb) hb4) (fun b _ h => .inl h)).trans (But.of_grown (P := fun b => b = hb) G5 rfl) (fun b _ h => .inl h)
   have HRD := hid (HH.out.turn (full' := true) (lk' := lk) (its' := its) (p' := ⟨pl, 0, pt, ⟨#[]⟩, pn⟩) hlt TT (XH.set 2 (.bool true)) (S4.kept G5 (fun e => by have := Option.some.inj e; omega)) (M4.kept G5 (fun e => by have := Option.some.inj e; omega)) (by rw [HPB.out]; exact Q4.kept G5 (fun e => by have := Option.some.inj e; omega)) (Reads.of_row (R4.kept G5 (.inr fun e => by have := (HR3.out.lt _ e).1; omega))))
   have HTS : Hid (TakeS nm now full wd room its ts (qs.map Prod.fst) fr 0 sum true text true its ((qs.set i ((⟨pl, 0, pt, ⟨#[]⟩, pn⟩ : Pr), .slice an pn.length cn)).map Prod.fst)) := hid (.inr (.inr ⟨HASK.out, rfl, 3, hkr, by simp, by rw [HPA.out, List.map_set, ← HII.out]; simp [codeP, freeP]⟩))
   have HBB := hid (HBL.out _ TT)
   clear TT XH Q4 R4 G5 S4 M4 hkr hb4
   go_wp2
   exact bodyPost_end (results_none rfl _ _ _) rfl ⟨rfl, true, its, _, _, lk, HTS.out, HRD.out, HBB.out⟩
end Go.Proofs.YtbihndholamdfaaGreatDoor
