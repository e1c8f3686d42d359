/- FnSave: what is saved is loaded again. -/
import Derived.Test.YtkjdabnglcabiaaGreatDoorDrawSave
import Derived.Test.YtkjdabnglcabiaaGreatDoorWStore
import Derived.Test.YtkjdabnglcabiaaGreatDoorSaveImpl
import Derived.Test.YtkjdabnglcabiaaGreatDoorLacksImpl
namespace Go.Proofs.YtkjdabnglcabiaaGreatDoor
open Go.RowKit
theorem PutR.keepS {wd room : Int} {its : Itms} {ts : List ByteArray} {t : ByteArray} {now wd' room' : Int} {its' : Itms} {ts' : List ByteArray} {s nm : ByteArray} {n : Nat} (hv : ValidSt wd room its ts) (h : PutR wd room its ts t now wd' room' its' ts' 0) (hS : Saved wd its ts s nm n) : wd' = wd ∧ room' = room ∧ ValidSt wd room its' ts' ∧ Saved wd its' ts' s nm n := by
 rcases h.parts hv with ⟨h0, _⟩ | ⟨_, hp, hi, rfl, rfl, rfl⟩
 ·exact absurd rfl h0
 ·exact ⟨rfl, rfl, hi.valid hv hp, hS.put (sums_asc hv.each) hi⟩
theorem BytesIn.drop {w : World} {b off n cap : Nat} {zs : List Int} (h : BytesIn w (some ⟨b, off, none⟩) n cap zs) (k : Nat) (hk : k ≤ n) : BytesIn w (some ⟨b, off + k, none⟩) (n - k) (cap - k) (zs.drop k) := by
 obtain ⟨h1, h2, h3, h4⟩ := h
 refine ⟨by omega, by simp; omega, fun i => ?_, fun i hi => ?_⟩
 ·have := h3 (k + i)
  simpa [List.getD_eq_getElem?_getD, List.getElem?_drop] using this
 ·obtain ⟨b', o', e, hl, hc⟩ := h4 (k + i) (by omega)
  cases e
  refine ⟨b, off + k, rfl, hl, ?_⟩
  rw [Nat.add_assoc, hc]
  simp [List.getD_eq_getElem?_getD, List.getElem?_drop]
set_option maxRecDepth 100000 in
set_option maxHeartbeats 1000000 in
theorem fnSave_walk (a b : Option Addr) (n cap m cb : Nat) (zs ys : List Int) (w : World) (h : BytesIn w a n cap zs) (hy : BytesIn w b m cb ys) (hn : n ≤ maxLen) (hm : m ≤ maxLen) (hE : Errs w) :
  Calls Tryz.prog 3 #[.slice a n cap, .slice b m cb] w fun e w' => e = .returned (.bool true) ∧ Below w.heap.size w w' := by
 by_cases hn1 : 1048576 < n
 ·have hn2 : (1048576 : Int) < (n : Int) := by omega
  go_enter Tryz.func3, Tryz.ntmps3
  go_wp2
  go_ret
  exact ⟨by simp, Below.refl _ _⟩
 have hn2 : ¬ (1048576 : Int) < (n : Int) := by omega
 by_cases hm1 : 1048576 < m
 ·have hm2 : (1048576 : Int) < (m : Int) := by omega
  go_enter Tryz.func3, Tryz.ntmps3
  go_wp2
  go_ret
  exact ⟨by simp, Below.refl _ _⟩
 have hm2 : ¬ (1048576 : Int) < (m : Int) := by omega
 have HD := hid (drawSave_any a n cap zs w h hn)
 have HY := hid hy
 have HE := hid hE
 clear h hy hE
 go_enter Tryz.func3, Tryz.ntmps3
 go_wp2_with fail
 refine HD.out.mono ?_
 rintro e w1 ⟨wd, room, vi, vp, its, ts, t, now, rfl, hsm, hso, ht, hb1⟩
 obtain ⟨ai, ci, rfl⟩ := row_any hso.items
 obtain ⟨ap, cp, rfl⟩ := row_any hso.pins
 have hs1 := hb1.size
 have hA1 := (Below.refl w1.heap.size w1).alloc (Nat.le_refl _) (.cells #[.int .i64 wd, .int .i64 room, .slice ai its.length ci, .slice ap ts.length cp] 26)
 have HB5 : Hid (SBox (w1.alloc (.cells #[.int .i64 wd, .int .i64 room, .slice ai its.length ci, .slice ap ts.length cp] 26)) (w.heap.size + 1) w1.heap.size wd room (.slice ai its.length ci) (.slice ap ts.length cp) its ts) := hid ⟨Blk.new w1 _ _, hso.below hA1⟩
 have HL1 := hid (hb1.trans (hA1.mono hs1))
 have HSM := hid hsm
 have HI := hid (implSave_any wd room _ _ its ts t now _ HB5.out.own.rdi (Reads.of_row HB5.out.own.pins) hsm.li hsm.lp hsm.si hsm.sp (HE.out.below HL1.out))
 clear HD hsm hso hb1 hA1
 go_wp2_with fail
 refine HI.out.mono ?_
 rintro e w2 ⟨wd2, room2, its2, ts2, c2, v2, q2, rfl, hsr, hso2, hb2⟩
 obtain ⟨a2, d2, rfl⟩ := row_any hso2.items
 obtain ⟨b2, e2, rfl⟩ := row_any hso2.pins
 have hs2 := hb2.size
 rw [World.size_alloc] at hs2
 have hA2 := (Below.refl w2.heap.size w2).alloc (Nat.le_refl _) (.cells #[.int .i64 wd2, .int .i64 room2, .slice a2 its2.length d2, .slice b2 ts2.length e2] 26)
 have HB52 := hid ((HB5.out.below hb2).below hA2)
 have HB8 : Hid (SBox (w2.alloc (.cells #[.int .i64 wd2, .int .i64 room2, .slice a2 its2.length d2, .slice b2 ts2.length e2] 26)) (w.heap.size + 1) w2.heap.size wd2 room2 (.slice a2 its2.length d2) (.slice b2 ts2.length e2) its2 ts2) := hid ⟨Blk.new w2 _ _, (hso2.base (by rw [World.size_alloc]; omega)).below hA2⟩
 have HL2 := hid ((HL1.out.trans (hb2.mono (by rw [World.size_alloc]; omega))).trans (hA2.mono (by omega)))
 have HSR := hid hsr
 have HT := hid (specSave_row wd room _ _ its ts t now _ _ _ HB52.out.own.items HB52.out.own.pins HSM.out.li HSM.out.lp HSM.out.si HSM.out.sp (by omega))
 obtain ⟨y0, y1, y2, y3⟩ := HB52.out.cells
 clear HI hsr hso2 hb2 hA2 HB5 HL1
 go_wp2_with fail
 refine HT.out.mono ?_
 rintro e w3 ⟨wd3, room3, its3, ts3, c3, v3, q3, rfl, hsr3, hso3, hb3⟩
 obtain ⟨e1, e2', e3', e4, e5⟩ := save_same HSR.out hsr3
 subst e1 e2' e3' e4 e5
 obtain ⟨a3, d3, rfl⟩ := row_any hso3.items
 obtain ⟨b3, e3, rfl⟩ := row_any hso3.pins
 have hs3 := hb3.size
 rw [World.size_alloc] at hs3
 have hA3 := (Below.refl w3.heap.size w3).alloc (Nat.le_refl _) (.cells #[.int .i64 wd2, .int .i64 room2, .slice a3 its2.length d3, .slice b3 ts2.length e3] 26)
 have HB53 := hid ((HB52.out.below hb3).below hA3)
 have HB83 := hid ((HB8.out.below hb3).below hA3)
 have HB93 : Hid (SBox (w3.alloc (.cells #[.int .i64 wd2, .int .i64 room2, .slice a3 its2.length d3, .slice b3 ts2.length e3] 26)) (w.heap.size + 1) w3.heap.size wd2 room2 (.slice a3 its2.length d3) (.slice b3 ts2.length e3) its2 ts2) := hid ⟨Blk.new w3 _ _, (hso3.base (by rw [World.size_alloc]; omega)).below hA3⟩
 have HL3 := hid ((HL2.out.trans (hb3.mono (by rw [World.size_alloc]; omega))).trans (hA3.mono (by omega)))
 have HSS := hid HSR.out.smallSt
 have HW := hid (wStore_same wd2 room2 _ _ _ _ its2 ts2 _ HB83.out.own.rdi (Reads.of_row HB83.out.own.pins) HB93.out.own.rdi (Reads.of_row HB93.out.own.pins) HSS.out.li HSS.out.lp)
 obtain ⟨z0, z1, z2, z3⟩ := HB83.out.cells
 have hcc : (c2 != c2) = false := by simp
 clear HT hsr3 hso3 hb3 hA3 HB52 HB8 HL2 y0 y1 y2 y3
 go_wp2_with fail
 refine HW.out.mono ?_
 rintro e w4 ⟨rfl, hb4⟩
 have HB54 := hid (HB53.out.below hb4)
 have HB84 := hid (HB83.out.below hb4)
 have HL4 := hid (HL3.out.trans (hb4.mono (by rw [World.size_alloc]; omega)))
 have hs4 := hb4.size
 rw [World.size_alloc] at hs4
 obtain ⟨xb, hxb⟩ : ∃ x, x = w2.heap.size := ⟨_, rfl⟩
 rw [← hxb] at HB84
 rw [← hxb]
 have hxw : w.heap.size < xb := by omega
 clear hxb hb4 HB53 HB83 HB93 HL3 HW z0 z1 z2 z3 hcc hs2 hs3 hs4
 by_cases hc : c2 = 0
 case neg =>
  have hcb : (c2 != 0) = true := by simpa using hc
  obtain ⟨z0, z1, z2, z3⟩ := HB84.out.cells
  obtain ⟨hi0, _⟩ := HSR.out.none0 hc
  have hl0 : its2.length = 0 := by rw [hi0]; rfl
  rw [hl0] at z2
  clear hi0 HSR HSS
  go_wp2
  go_ret
  exact ⟨by simp, HL4.out⟩
 subst hc
 obtain ⟨e1, e2', htz, hnm, hv2, hsv2⟩ := HSR.out.first
 have f1 := e1.symm; subst f1
 have f2 := e2'.symm; subst f2
 clear e1 e2'
 obtain ⟨x0, x1, x2, x3⟩ := HB54.out.cells
 have HV2 := hid hv2
 have HSV2 := hid hsv2
 have HNM := hid (specName_any t wd w4 (by unfold maxLen; omega))
 have hwd8 : 1 ≤ wd ∧ wd ≤ 8 := by have := hv2.width; simpa [isW] using this
 clear hv2 hsv2 HSR HSS
 go_wp2_with fail
 refine HNM.out.mono ?_
 rintro e w5 ⟨rfl, hb5⟩
 have HB85 := hid (HB84.out.below hb5)
 have HL5 := hid (HL4.out.trans (hb5.mono HL4.out.size))
 obtain ⟨nm, hnmd⟩ : ∃ x, x = nameB t wd := ⟨_, rfl⟩
 rw [← hnmd] at HSV2 hnm
 rw [← hnmd]
 clear hnmd hb5 HB54 HB84 HL4 HNM x0 x1 x2 x3
 go_wp2
 go_loopw [13] (fun iv wr => ∃ (k : Nat) (vi vp : Value) (its : Itms) (ts : List ByteArray), iv = .int .i64 k ∧ k ≤ 6 ∧ SBox wr (w.heap.size + 1) xb wd room vi vp its ts ∧ ValidSt wd room its ts ∧ Saved wd its ts t nm (piecesOf t).length ∧ Below w.heap.size w wr) (fun iv _ => 6 - (intOf iv).toNat)
 case atStart => exact ⟨0, _, _, its2, ts2, rfl, by omega, HB85.out, HV2.out, HSV2.out, HL5.out⟩
 case round =>
  clear HB85 HV2 HSV2 HL5 HSM
  obtain ⟨k, vi, vp, its3, ts3, rfl, hk, hbx, hv, hsv, hbl⟩ := hrel
  obtain ⟨a4, c4, rfl⟩ := row_any hbx.own.items
  obtain ⟨b4, d4, rfl⟩ := row_any hbx.own.pins
  obtain ⟨w6, rfl⟩ : ∃ x, x = wr := ⟨_, rfl⟩
  by_cases hk6 : k < 6
  case neg =>
   have hk6i : ¬ ((k : Nat) : Int) < 6 := by omega
   have HBL := hid hbl
   clear hbx hv hsv hbl
   go_wp2
   go_ret
   exact ⟨by simp, HBL.out⟩
  have hk6i : ((k : Nat) : Int) < 6 := by omega
  obtain ⟨x0, x1, x2, x3⟩ := hbx.cells
  have hsm := hv.smallSt
  have HLD := hid (implLoad_any wd room _ _ its3 ts3 nm w6 hbx.own.rdi (Reads.of_row hbx.own.pins) hsm.li hsm.lp hsm.si hsm.sp (by omega) (HE.out.below hbl))
  have HBX := hid hbx
  have HV := hid hv
  have HSV := hid hsv
  have HBL := hid hbl
  have HSM := hid hsm
  clear hbx hv hsv hbl hsm
  go_wp2_with fail
  refine HLD.out.mono ?_
  rintro e w7 ⟨r, rfl, hlv, hb7⟩
  obtain rfl := Saved.load HV.out htz HSV.out hlv
  have HB7 := hid (HBX.out.below hb7)
  have HL7 := hid (HBL.out.trans (hb7.mono HBL.out.size))
  have HLK := hid (implLacks_any wd room _ _ its3 ts3 [] nm w7 HB7.out.own.rdi (Reads.of_row HB7.out.own.pins) HSM.out.li HSM.out.lp HSM.out.si HSM.out.sp (by omega) (Saved.lacksV HV.out htz hnm HSV.out) (HE.out.below HL7.out))
  clear x0 x1 x2 x3 hlv hb7 HLD HBX HBL
  obtain ⟨x0, x1, x2, x3⟩ := HB7.out.cells
  go_wp2_with fail
  refine HLK.out.mono ?_
  rintro e w8 ⟨v8, rfl, ho8, hb8⟩
  obtain ⟨a8, c8, rfl⟩ := row_any ho8
  rw [List.length_nil]
  have HB8 := hid (HB7.out.below hb8)
  have HL8 := hid (HL7.out.trans (hb8.mono HL7.out.size))
  clear x0 x1 x2 x3 ho8 hb8 HLK HB7 HL7
  by_cases hkm : m ≤ k
  ·have hkmi : ((m : Nat) : Int) ≤ ((k : Nat) : Int) := by omega
   go_wp2
   go_ret
   exact ⟨by simp, HL8.out⟩
  have hkmi : ¬ ((m : Nat) : Int) ≤ ((k : Nat) : Int) := by omega
  obtain ⟨b0, off, hb0, hbl0, hcb0⟩ := HY.out.2.2.2 k (by omega)
  subst hb0
  have hzb := HY.out.2.2.1 k
  generalize ys.getD k 0 = zb at hcb0 hzb
  obtain ⟨zn, rfl⟩ := Int.eq_ofNat_of_zero_le hzb.1
  have HCB := hid fun (W : World) (h : Below w.heap.size w W) => (h.cell (p := ⟨b0, off + k, none⟩) hbl0).trans hcb0
  have HBY := hid ((HY.out.below HL8.out).drop k (by omega))
  have hmc := HY.out.1
  clear hcb0
  go_wp2_with fail
  refine (drawSave_any _ _ _ _ _ HBY.out (by unfold maxLen at *; omega)).mono ?_
  rintro e w9 ⟨wd9, room9, v9, q9, its9, ts9, t9, now9, rfl, hsm9, hso9, ht9, hb9⟩
  obtain ⟨a9, c9, rfl⟩ := row_any hso9.items
  obtain ⟨b9, d9, rfl⟩ := row_any hso9.pins
  have hA9 := (Below.refl w9.heap.size w9).alloc (Nat.le_refl _) (.cells #[.int .i64 wd9, .int .i64 room9, .slice a9 its9.length c9, .slice b9 ts9.length d9] 26)
  have HB9 := hid ((HB8.out.below hb9).below hA9)
  have HL9 := hid ((HL8.out.trans (hb9.mono HL8.out.size)).trans (hA9.mono (by have := HL8.out.size; have := hb9.size; omega)))
  have HPT := hid (implPut_any wd room _ _ its3 ts3 t9 now9 _ HB9.out.own.rdi (Reads.of_row HB9.out.own.pins) HSM.out.li HSM.out.lp HSM.out.si HSM.out.sp (by omega) (HE.out.below HL9.out))
  obtain ⟨x0, x1, x2, x3⟩ := HB9.out.cells
  clear hsm9 hso9 hb9 hA9 HB8 HL8 HBY
  go_wp2_with fail
  refine HPT.out.mono ?_
  rintro e wA ⟨wdA, roomA, itsA, tsA, cA, vA, qA, rfl, hpr, hsoA, hbA⟩
  obtain ⟨aA, cA', rfl⟩ := row_any hsoA.items
  obtain ⟨bA, dA, rfl⟩ := row_any hsoA.pins
  have hsA := hbA.size
  have hs9 := HL9.out.size
  have hAA := (Below.refl wA.heap.size wA).alloc (Nat.le_refl _) (.cells #[.int .i64 wdA, .int .i64 roomA, .slice aA itsA.length cA', .slice bA tsA.length dA] 26)
  have HBX9 := hid ((HB9.out.below hbA).below hAA)
  have HBW : Hid (SBox (wA.alloc (.cells #[.int .i64 wdA, .int .i64 roomA, .slice aA itsA.length cA', .slice bA tsA.length dA] 26)) (w.heap.size + 1) wA.heap.size wdA roomA (.slice aA itsA.length cA') (.slice bA tsA.length dA) itsA tsA) := hid ⟨Blk.new wA _ _, (hsoA.base (by omega)).below hAA⟩
  have HLW := hid ((HL9.out.trans (hbA.mono hs9)).trans (hAA.mono (by omega)))
  have HPR := hid hpr
  have hcz := HCB.out _ HLW.out
  have hyx : wA.heap.size ≠ xb := by have := HB9.out.blk.lt; omega
  clear hpr hsoA hbA hAA HB9 HL9 HPT x0 x1 x2 x3
  by_cases hev : zn % 2 = 0
  case neg =>
   have hevb : (((zn : Nat) : Int) % 2 == 0) = false := by simp; omega
   by_cases hce : cA = 0
   ·subst hce
    obtain ⟨e1, e2', hvn, hsn⟩ := HPR.out.keepS HV.out HSV.out
    have f1 := e1.symm; subst f1
    have f2 := e2'.symm; subst f2
    clear e1 e2'
    have HVN := hid hvn
    have HSN := hid hsn
    obtain ⟨y0, y1, y2, y3⟩ := HBW.out.cells
    have HBE := hid (SBox.put (wd' := wd) (room' := room) HBX9.out.blk HBW.out.own)
    have HLE := hid (HLW.out.trans ((grown_below (grown_set4 (wA.alloc (.cells #[.int .i64 wd, .int .i64 room, .slice aA itsA.length cA', .slice bA tsA.length dA] 26)) xb (.int .i64 wd) (.int .i64 room) (.slice aA itsA.length cA') (.slice bA tsA.length dA)) HBX9.out.blk.lt).mono (by omega)))
    unfold set4 at HBE HLE
    have s9 := HBX9.out.blk.store4 (.int .i64 wd) (.int .i64 room) (.slice aA itsA.length cA') (.slice bA tsA.length dA)
    have s0 := s9.a0; have s1 := s9.a1; have s2 := s9.a2; have s3 := s9.a3
    have k0 := s9.f0; have k1 := s9.f1; have k2 := s9.f2; have k3 := s9.f3
    clear s9 HBW HBX9 HLW hvn hsn
    go_wp2
    exact ⟨⟨k + 1, _, _, itsA, tsA, by go_num, by omega, HBE.out, HVN.out, HSN.out, HLE.out⟩, by simp [intOf]; omega⟩
   ·have hcb : (cA == 0) = false := by simpa using hce
    clear HBW
    go_wp2
    exact ⟨⟨k + 1, _, _, its3, ts3, by go_num, by omega, HBX9.out, HV.out, HSV.out, HLW.out⟩, by simp [intOf]; omega⟩
  have hevb : (((zn : Nat) : Int) % 2 == 0) = true := by simp; omega
  have HSI := hid (implSave_any wd room _ _ its3 ts3 t9 now9 _ HBX9.out.own.rdi (Reads.of_row HBX9.out.own.pins) HSM.out.li HSM.out.lp HSM.out.si HSM.out.sp (HE.out.below HLW.out))
  obtain ⟨x0, x1, x2, x3⟩ := HBX9.out.cells
  have hsw := HLW.out.size
  have hwA : w.heap.size ≤ wA.heap.size := by omega
  go_wp2_with fail
  refine HSI.out.mono ?_
  rintro e wB ⟨wdB, roomB, itsB, tsB, cB, vB, qB, rfl, hpr, hsoB, hbB⟩
  obtain ⟨aB, cB', rfl⟩ := row_any hsoB.items
  obtain ⟨bB, dB, rfl⟩ := row_any hsoB.pins
  have HX1 := hid (HBX9.out.below hbB)
  have HW1 := hid (HBW.out.below hbB)
  have HL1 := hid (HLW.out.trans (hbB.mono hsw))
  have HSB := hid (hsoB.base (B' := w.heap.size + 1) (by omega))
  have HPB := hid hpr
  clear HSI HBX9 HBW HLW HPR hpr hsoB hbB x0 x1 x2 x3 hcz hsw
  have HBX9 := hid (HX1.out.other HW1.out.blk (grown_set4 wB wA.heap.size (.int .i64 wdB) (.int .i64 roomB) (.slice aB itsB.length cB') (.slice bB tsB.length dB)) hyx)
  have HBW := hid (SBox.put (wd' := wdB) (room' := roomB) HW1.out.blk HSB.out)
  have HLW := hid (HL1.out.trans ((grown_below (grown_set4 wB wA.heap.size (.int .i64 wdB) (.int .i64 roomB) (.slice aB itsB.length cB') (.slice bB tsB.length dB)) HW1.out.blk.lt).mono hwA))
  unfold set4 at HBX9 HBW HLW
  have sB := HW1.out.blk.store4 (.int .i64 wdB) (.int .i64 roomB) (.slice aB itsB.length cB') (.slice bB tsB.length dB)
  have sA0 := sB.a0; have sA1 := sB.a1; have sA2 := sB.a2; have sA3 := sB.a3
  have kA0 := sB.f0; have kA1 := sB.f1; have kA2 := sB.f2; have kA3 := sB.f3
  clear sB HX1 HW1 HL1 HSB
  by_cases hce : cB = 0
  ·subst hce
   obtain ⟨e1, e2', hvn, hsn⟩ := HPB.out.keep HSV.out
   have f1 := e1.symm; subst f1
   have f2 := e2'.symm; subst f2
   clear e1 e2'
   have HVN := hid hvn
   have HSN := hid hsn
   obtain ⟨y0, y1, y2, y3⟩ := HBW.out.cells
   have HBE := hid (SBox.put (wd' := wd) (room' := room) HBX9.out.blk HBW.out.own)
   have HLE := hid (HLW.out.trans ((grown_below (grown_set4 ((((wB.setCell ⟨wA.heap.size, 0, none⟩ (.int .i64 wd)).setCell ⟨wA.heap.size, 1, none⟩ (.int .i64 room)).setCell ⟨wA.heap.size, 2, none⟩ (.slice aB itsB.length cB')).setCell ⟨wA.heap.size, 3, none⟩ (.slice bB tsB.length dB)) xb (.int .i64 wd) (.int .i64 room) (.slice aB itsB.length cB') (.slice bB tsB.length dB)) HBX9.out.blk.lt).mono (by omega)))
   unfold set4 at HBE HLE
   have s9 := HBX9.out.blk.store4 (.int .i64 wd) (.int .i64 room) (.slice aB itsB.length cB') (.slice bB tsB.length dB)
   have s0 := s9.a0; have s1 := s9.a1; have s2 := s9.a2; have s3 := s9.a3
   have k0 := s9.f0; have k1 := s9.f1; have k2 := s9.f2; have k3 := s9.f3
   clear s9 HBW HBX9 HLW hvn hsn
   go_wp2
   exact ⟨⟨k + 1, _, _, itsB, tsB, by go_num, by omega, HBE.out, HVN.out, HSN.out, HLE.out⟩, by simp [intOf]; omega⟩
  ·have hcb : (cB == 0) = false := by simpa using hce
   clear HBW
   go_wp2
   exact ⟨⟨k + 1, _, _, its3, ts3, by go_num, by omega, HBX9.out, HV.out, HSV.out, HLW.out⟩, by simp [intOf]; omega⟩
end Go.Proofs.YtkjdabnglcabiaaGreatDoor
