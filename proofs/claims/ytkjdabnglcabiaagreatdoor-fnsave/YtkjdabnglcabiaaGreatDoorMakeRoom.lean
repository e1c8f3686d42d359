/- impl.hasRoom and (*impl.shelf).makeRoom. -/
import Derived.Test.YtkjdabnglcabiaaGreatDoorShort
import Derived.Test.YtkjdabnglcabiaaGreatDoorMapSame
namespace Go.Proofs.YtkjdabnglcabiaaGreatDoor
open Go.RowKit
def RoomB (a c r : Int) (e : Ending) : Prop := ∃ b, e = .returned (.bool b) ∧ (b = true ↔ (a ≤ r ∧ c ≤ 1000))
set_option maxRecDepth 100000 in
theorem hasRoom_any (a c r : Int) (w : World) : Calls Tryz.prog 86 #[.int .i64 a, .int .i64 c, .int .i64 r] w fun e w' => RoomB a c r e ∧ w' = w := by
 by_cases h1 : a ≤ r
 ·by_cases h2 : c ≤ 1000
  ·have HE := hid (And.intro h1 h2)
   go_enter Tryz.func86, Tryz.ntmps86
   go_wp2
   go_ret
   exact ⟨⟨true, rfl, fun _ => HE.out, fun _ => rfl⟩, rfl⟩
  ·have HE : Hid (false = true ↔ (a ≤ r ∧ c ≤ 1000)) := hid ⟨fun h => (by cases h), fun h => absurd h.2 h2⟩
   go_enter Tryz.func86, Tryz.ntmps86
   go_wp2
   go_ret
   exact ⟨⟨false, rfl, HE.out⟩, rfl⟩
 ·have HE : Hid (false = true ↔ (a ≤ r ∧ c ≤ 1000)) := hid ⟨fun h => (by cases h), fun h => absurd h.1 h1⟩
  go_enter Tryz.func86, Tryz.ntmps86
  go_wp2
  go_ret
  exact ⟨⟨false, rfl, HE.out⟩, rfl⟩
theorem room_yes {room : Int} {its : Itms} {n : Nat} (h : fitsI room its n) : ((totI its : Nat) : Int) + (n : Int) ≤ room ∧ ((its.length : Nat) : Int) + 1 ≤ 1000 := ⟨h.1, by have := h.2; omega⟩
theorem room_no {room : Int} {its : Itms} {n : Nat} (h : ¬ fitsI room its n) : ¬ (((totI its : Nat) : Int) + (n : Int) ≤ room ∧ ((its.length : Nat) : Int) + 1 ≤ 1000) := fun k => h ⟨k.1, by omega⟩
theorem totI_sub : ∀ {a b : Itms}, a.Sublist b → totI a ≤ totI b
 | _, _, .slnil => Nat.le_refl _
 | _, _, .cons x h => by have := totI_sub h; simp only [totI]; omega
 | _, _, .cons_cons x h => by have := totI_sub h; simp only [totI]; omega
theorem row_apart {w : World} {B B' n : Nat} {v gv : Value} {hs : List Lv} {xs : List Value} (h : LRow w B v hs) (k : w.ownsRow B' 9 1 gv n xs) {g : Nat} (h1 : v.ownBlock = some g) (h2 : gv.ownBlock = some g) : False := by
 obtain ⟨_, ⟨e, _⟩ | ⟨a, cap, cur, e, _, e3, _⟩⟩ := h
 ·subst e; cases h1
 ·obtain ⟨_, ⟨f, _⟩ | ⟨b, cap', cur', f, _, f3, _⟩⟩ := k
  ·subst f; cases h2
  ·subst e; subst f
   obtain rfl : a = g := Option.some.inj h1
   obtain rfl : b = a := Option.some.inj h2
   rw [e3] at f3
   have := (Obj.cells.inj (Option.some.inj f3)).2.1
   exact absurd this (by decide)
/-- What makeRoom answers, and what it leaves. -/
def RoomR (sb mb : Nat) (vc : Value) (wd room : Int) (Q : ByteArray → Prop) (its : Itms) (n : Nat) (w : World) (e : Ending) (w' : World) : Prop :=
 (e = .returned (.bool true) ∧ ∃ k its', AwayN wd Q its k its' ∧ fitsI room its' n ∧ (∀ j a, j < k → AwayN wd Q its j a → ¬ fitsI room a n) ∧ Blk w' sb 74 #[.int .i64 wd, .int .i64 room, .int .i64 (totI its' : Nat), .map (some mb), vc] ∧ w'.ownsMap Tryz.prog 9 itemElem mb its.length (mapI wd its' its'.length) ∧ But (fun b => b = sb ∨ b = mb) w w') ∨
 (e = .returned (.bool false) ∧ (∃ k its', AwayN wd Q its k its' ∧ (∀ j a, j < k + 1 → AwayN wd Q its j a → ¬ fitsI room a n) ∧ ∀ i, i < its'.length → Q (sumX wd (itx its' i))) ∧ Below w.heap.size w w')
set_option maxRecDepth 100000 in
set_option maxHeartbeats 8000000 in
theorem makeRoom_any (sb mb : Nat) (ac : Option Addr) (cc : Nat) (wd room : Int) (its : Itms) (ts : List ByteArray) (n : Nat) (w : World) (hbox : Blk w sb 74 #[.int .i64 wd, .int .i64 room, .int .i64 (totI its : Nat), .map (some mb), .slice ac ts.length cc]) (hmap : w.ownsMap Tryz.prog 9 itemElem mb its.length (mapI wd its its.length)) (hrow : Reads w (.slice ac ts.length cc) ts) (hN : (sumsL wd its).Pairwise (· < ·)) (hli : its.length ≤ 1000) (hlp : ts.length ≤ 10) (hsp : ∀ i, (tv ts i).size ≤ 1048576) (hsi : ∀ i, (itx its i).size ≤ 1048576) (hW : wd ≤ 8) (hE : Errs w) (htot : totI its ≤ 60000) (hn : n ≤ 7000) (hsm : sb ≠ mb) :
  Calls Tryz.prog 64 #[.pointer (some ⟨sb, 0, none⟩), .int .i64 n] w (RoomR sb mb (.slice ac ts.length cc) wd room (NeedTo wd its ts ts.length) its n w) := by
 have HLV := hid fun (W : World) (h1 : Blk W sb 74 #[.int .i64 wd, .int .i64 room, .int .i64 (totI its : Nat), .map (some mb), .slice ac ts.length cc]) (h2 : W.ownsMap Tryz.prog 9 itemElem mb its.length (mapI wd its its.length)) (h3 : Reads W (.slice ac ts.length cc) ts) (h4 : Errs W) => leavers_any sb mb ac cc wd room (totI its : Nat) its ts W h1 h2 h3 hN hli hlp hsp hsi hW h4
 have HBX := hid hbox
 have HMP := hid hmap
 have HRW := hid hrow
 have HER := hid hE
 have HNN := hid hN
 have HSI := hid hsi
 have HLEN := hid fun (W : World) (h : W.ownsMap Tryz.prog 9 itemElem mb its.length (mapI wd its its.length)) => len_items h hN 3
 have hS0 : w.drew.cell? ⟨sb, 2, none⟩ = some (.int .i64 (totI its : Nat)) ∧ w.drew.cell? ⟨sb, 3, none⟩ = some (.map (some mb)) ∧ (Builtin.len_ #[72] 3 #[.map (some mb)]).run Tryz.prog w.drew = .ok (.int .i64 (its.length : Int)) w.drew := ⟨hbox.cell 2, hbox.cell 3, HLEN.out w.drew hmap.drew⟩
 have y1 : w.drew.cell? ⟨sb, 1, none⟩ = some (.int .i64 room) := hbox.cell 1
 clear hbox hmap hrow hE hN hsp hsi
 go_enter Tryz.func64, Tryz.ntmps64
 go_wp2_with fail
 refine wp_region_held (S := fun w' => w'.cell? ⟨sb, 2, none⟩ = some (.int .i64 (totI its : Nat)) ∧ w'.cell? ⟨sb, 3, none⟩ = some (.map (some mb)) ∧ (Builtin.len_ #[72] 3 #[.map (some mb)]).run Tryz.prog w' = .ok (.int .i64 (its.length : Int)) w') (by kernel_rfl) ?_
 change wpAnyH _ _ _ _ _ _ _ _ (World.drew _)
 refine tkA 0 (.pointer (some ⟨sb, 0, none⟩)) rfl hS0 ?_
 refine tkA 1 (.pointer (some ⟨sb, 0, none⟩)) rfl hS0 ?_
 refine tkA 2 (.pointer (some ⟨sb, 2, none⟩)) rfl hS0 ?_
 refine tkA 3 (.int .i64 (totI its : Nat)) rfl hS0 ?_
 refine tkA 4 (.pointer (some ⟨sb, 0, none⟩)) rfl hS0 ?_
 refine tkA 5 (.pointer (some ⟨sb, 0, none⟩)) rfl hS0 ?_
 refine tkA 6 (.pointer (some ⟨sb, 3, none⟩)) rfl hS0 ?_
 refine tkA 7 (.map (some mb)) rfl hS0 ?_
 refine wpAnyH_take (i := 8) (v := .int .i64 (its.length : Nat)) rfl (by kernel_rfl) (by kernel_rfl) (by kernel_rfl) (fun _ _ _ h => h) (.inl ⟨rfl, fun w' hS => by obtain ⟨s1, s2, s3⟩ := hS; first | (go_simp; done) | (simp [execOp, resolve, invoke, builtin, Result.andThen, s3]; done) | (go_simp; simp [s3])⟩) hS0 ?_
 refine tkA 9 (.int .i64 (totI its : Nat)) rfl hS0 ?_
 refine tkA 10 (.int .i64 (its.length : Nat)) rfl hS0 ?_
 refine wpAnyH_done (by kernel_rfl) ?_ _
 clear hS0
 by_cases hfit : fitsI room its n
 ·have hd := hid (room_yes hfit)
  have HF := hid hfit
  clear hfit
  go_simp
  go_wp2_with (go_at_call 86; refine (hasRoom_any _ _ _ _).mono ?_; rintro e w' ⟨⟨b, rfl, hb⟩, rfl⟩; obtain rfl : b = true := hb.2 hd.out; clear hb)
  go_ret
  exact .inl ⟨rfl, 0, its, .zero, HF.out, fun j _ h => absurd h (by omega), HBX.out, HMP.out, ⟨rfl, rfl, rfl, Nat.le_refl _, fun _ _ _ => rfl⟩⟩
 have hd := hid (room_no hfit)
 have HNF := hid hfit
 clear hfit
 go_simp
 go_wp2_with (go_at_call 86; refine (hasRoom_any _ _ _ _).mono ?_; rintro e w' ⟨⟨b, rfl, hb⟩, rfl⟩; obtain rfl : b = false := Bool.eq_false_iff.2 fun h => hd.out (hb.1 h); clear hb)
 have hbd : Below w.heap.size w w.drew := below_drewN (Below.refl _ _) 1
 refine (HLV.out w.drew (HBX.out.below hbd) HMP.out.drew (HRW.out.below hbd) (HER.out.below hbd)).mono ?_
 rintro e w1 ⟨hb, v0, hs0, rfl, hhb, hhl, X1, R1, hp1, hi1, hl1, hb1'⟩
 have hb1 : Below w.heap.size w w1 := hbd.trans hb1'
 have hhb' : w.heap.size ≤ hb := hhb
 have HX1 := hid X1
 have HR1 := hid R1
 have HP1 := hid hp1
 have HI1 := hid hi1
 have HL1 := hid hl1
 have HB1 := hid hb1
 have hmbl := HMP.out.lt
 have hsbl := HBX.out.lt
 clear X1 R1 hp1 hi1 hl1 hb1 hb1' hbd hd y1 hhb
 go_wp2
 go_loopw [5, 6, 8] (fun lv cv gv wr => ∃ (k : Nat) (a : Itms) (v : Value) (hs : List Lv) (gone : List ByteArray), lv = .int .i64 (totI a : Nat) ∧ cv = .int .i64 (a.length : Nat) ∧ AwayN wd (NeedTo wd its ts ts.length) its k a ∧ (∀ j z, j < k → AwayN wd (NeedTo wd its ts ts.length) its j z → ¬ fitsI room z n) ∧ GoneR wd its a gone ∧ gone.length ≤ k ∧ (∀ i, (tv gone i).size ≤ 1048576) ∧ HeapIs wd (NeedTo wd its ts ts.length) a hs ∧ HpL hs ∧ hs.length ≤ 1000 ∧ Blk wr hb 151 #[v, fFirst] ∧ LRow wr (hb + 1) v hs ∧ wr.ownsRow (hb + 1) 9 1 gv gone.length (gone.map Value.string) ∧ Below w.heap.size w wr ∧ hb + 1 ≤ wr.heap.size) (fun _ cv _ _ => (intOf cv).toNat)
 case atStart => exact ⟨0, its, v0, hs0, [], rfl, rfl, .zero, fun j _ h => absurd h (by omega), GoneR.start _ _, by simp, fun i => by simp [tv], HI1.out, HP1.out, HL1.out, HX1.out, HR1.out, World.ownsRow_nil _ _ _ _, HB1.out, by omega⟩
 case round =>
  obtain ⟨k, a, v, hs, gone, rfl, rfl, haw, hnf, hgn, hgl, hgz, hhi, hhp, hhl', hbx, hrw, hgr, hbw, hsz⟩ := hrel
  have HAW := hid haw
  have HNFK := hid hnf
  have HGN := hid hgn
  have HHI := hid hhi
  have HHP := hid hhp
  have HHX := hid hbx
  have HHR := hid hrw
  have HGR := hid hgr
  have HBW := hid hbw
  have HGZ := hid hgz
  have hal : a.length + k = its.length := haw.len
  have hta : totI a ≤ totI its := totI_sub haw.sub
  have SBX := HBX.out.below hbw
  have HSBX := hid SBX
  have y1 : wr.cell? ⟨sb, 1, none⟩ = some (.int .i64 room) := SBX.cell 1
  obtain ⟨ag, cg, rfl, _⟩ := row_form hgr
  clear haw hnf hgn hhi hhp hbx hrw hgr hbw SBX hgz
  by_cases hfit : fitsI room a n
  ·have hd := hid (room_yes hfit)
   have HF := hid hfit
   clear hfit
   go_wp2_with (go_at_call 86; refine (hasRoom_any _ _ _ _).mono ?_; rintro e w' ⟨⟨b, rfl, hb⟩, hw'⟩; have hw'' := hw'.symm; subst hw''; clear hw'; obtain rfl : b = true := hb.2 hd.out; clear hb)
   obtain ⟨w2, hw2⟩ : ∃ x, x = wr := ⟨_, rfl⟩
   have HMW := hid (HMP.out.kept (grown_of_below HBW.out) (by simp))
   have HIN : Hid (∀ p, p ∈ a → p ∈ its) := hid fun p hp => HAW.out.sub.subset hp
   have HNA := hid (HAW.out.asc HNN.out)
   have hgk : gone.length ≤ 1000 := by omega
   subst hw2
   go_loopw [72] (fun iv wz => ∃ (j : Nat) (D : DataW Unit), iv = .int .i64 j ∧ j ≤ gone.length ∧ wz.ownsMap Tryz.prog 9 itemElem mb its.length D ∧ (∀ x, Maps.has D (.string x) = true ↔ x ∈ sumsL wd its ∧ ∀ i, i < j → (tv gone i).data.toList ≠ x) ∧ (∀ x, Maps.has D (.string x) = true → ∀ z, D.atKey (.string x) z = (mapI wd its its.length).atKey (.string x) z) ∧ w2.grownBy wz (some mb)) (fun iv _ => gone.length - (intOf iv).toNat)
   case atStart => exact ⟨0, _, rfl, Nat.zero_le _, HMW.out, fun x => (mapI_all wd its x).trans ⟨fun h => ⟨h, fun i hi => absurd hi (by omega)⟩, fun h => h.1⟩, fun _ _ _ => rfl, grown_refl2 _ _⟩
   case round =>
    obtain ⟨j, D, rfl, hj, hmD, hhas, hat, hgw⟩ := hrel
    have HMD := hid hmD
    have HHAS := hid hhas
    have HAT := hid hat
    have HGW := hid hgw
    have SX := HSBX.out.kept hgw (fun e => by have e' : sb = mb := Option.some.inj e; exact hsm e')
    have HSX := hid SX
    by_cases hlt : j < gone.length
    ·have GR := HGR.out.kept hgw (.inr fun e => by have := (HGR.out.lt _ e).1; omega)
     obtain ⟨ag', cg', e', hcs⟩ := (Reads.of_row GR).form
     cases e'
     obtain ⟨b0, o0, rfl, hpb, hpc⟩ := hcs j hlt
     have hpt : wr.cell? ⟨b0, o0 + j, none⟩ = some (.string (tv gone j)) := hpc
     have y3 : wr.cell? ⟨sb, 3, none⟩ = some (.map (some mb)) := SX.cell 3
     have hgz := HGZ.out j
     have HNX : Hid (∀ y, (∀ i, i < j + 1 → (tv gone i).data.toList ≠ y) ↔ ((∀ i, i < j → (tv gone i).data.toList ≠ y) ∧ (tv gone j).data.toList ≠ y)) := hid fun y => ⟨fun h => ⟨fun i hi => h i (by omega), h j (by omega)⟩, fun h i hi => (Nat.lt_or_eq_of_le (Nat.le_of_lt_succ hi)).elim (h.1 i) (fun e => e ▸ h.2)⟩
     generalize tv gone j = x at hpt hgz HNX
     clear hmD hhas hat hgw SX GR hcs hpc hpb
     have hmm := HMD.out
     go_wp2_with (at_delete; refine wpList_delete_own _ rfl _ _ 72 9 rfl 59 keyed9 Tryz.underlying72 itemElem mb its.length D rfl hmm (.string x) _ rfl (key9 x (by unfold maxLen; omega)) ?_; intro w7 hm7 ht7)
     refine ⟨⟨j + 1, _, by go_num, by omega, hm7, fun y => ?_, fun y hy z => ?_, grown_same HGW.out ht7.grown⟩, by simp [intOf]; omega⟩
     ·by_cases e : y = x.data.toList
      ·subst e
       rw [Maps.has_del_same]
       simp only [Bool.false_eq_true, false_iff]
       intro h
       exact ((HNX.out _).1 h.2).2 rfl
      ·have hne : Lit.string y ≠ Lit.string x.data.toList := fun h => e (Lit.string.inj h)
       rw [Maps.has_del_other hne, HHAS.out y, HNX.out y]
       exact ⟨fun h => ⟨h.1, h.2, fun h' => e h'.symm⟩, fun h => ⟨h.1, h.2.1⟩⟩
     ·by_cases e : y = x.data.toList
      ·subst e
       rw [Maps.has_del_same] at hy; cases hy
      ·have hne : Lit.string y ≠ Lit.string x.data.toList := fun h => e (Lit.string.inj h)
       rw [Maps.has_del_other hne] at hy
       rw [Maps.atKey_del_other hne]
       exact HAT.out y hy z
    ·obtain rfl : j = gone.length := by omega
     have hDM : D = mapI wd a a.length := by
      refine map_is hmD HNA.out (fun y => (HHAS.out y).trans ?_) (fun p hp z => ?_)
      ·constructor
       ·rintro ⟨h1, h2⟩
        obtain ⟨p, hp, rfl⟩ := List.mem_map.1 h1
        refine mem_sumsL ((HGN.out.mem p).2 ⟨hp, fun hm => ?_⟩)
        obtain ⟨i, hi, he⟩ := List.getElem_of_mem hm
        refine h2 i hi ?_
        unfold tv
        rw [List.getD_eq_getElem?_getD, List.getElem?_eq_getElem hi, he]
        rfl
       ·intro h
        obtain ⟨p, hp, rfl⟩ := List.mem_map.1 h
        obtain ⟨h1, h2⟩ := (HGN.out.mem p).1 hp
        refine ⟨mem_sumsL h1, fun i hi e => h2 ?_⟩
        have : tv gone i = sumX wd p.1 := bytes_ext e
        rw [← this]
        unfold tv
        rw [List.getD_eq_getElem?_getD, List.getElem?_eq_getElem hi]
        exact List.getElem_mem hi
      ·have hpi := HIN.out p hp
       have hy : Maps.has D (.string (sumX wd p.1).data.toList) = true := (HHAS.out _).2 ⟨mem_sumsL hpi, fun i hi e => by
        have : tv gone i = sumX wd p.1 := bytes_ext e
        refine ((HGN.out.mem p).1 hp).2 ?_
        rw [← this]
        unfold tv
        rw [List.getD_eq_getElem?_getD, List.getElem?_eq_getElem hi]
        exact List.getElem_mem hi⟩
       rw [HAT.out _ hy z]
       obtain ⟨i, hi, rfl⟩ := List.getElem_of_mem hpi
       have h1 := mapI_at wd its HNN.out z its.length (Nat.le_refl _) i hi
       rw [itx_get its i hi, itu_get its i hi] at h1
       exact h1
     have HME : Hid (wr.ownsMap Tryz.prog 9 itemElem mb its.length (mapI wd a a.length)) := hid (by rw [← hDM]; exact hmD)
     have y2 : wr.cell? ⟨sb, 2, none⟩ = some (.int .i64 (totI its : Nat)) := SX.cell 2
     have f2 := SX.fz 2
     have Z : Blk (wr.setCell ⟨sb, 2, none⟩ (.int .i64 (totI a : Nat))) sb 74 #[.int .i64 wd, .int .i64 room, .int .i64 (totI a : Nat), .map (some mb), .slice ac ts.length cc] := SX.set 2 (.int .i64 (totI a : Nat))
     have GZ := grownBy_setCellAt wr sb 2 (.int .i64 (totI a : Nat))
     have HZ := hid Z
     have HMZ := hid (HME.out.kept GZ (fun e => by have e' : mb = sb := Option.some.inj e; exact hsm e'.symm))
     have HBT : Hid (But (fun b => b = sb ∨ b = mb) w (wr.setCell ⟨sb, 2, none⟩ (.int .i64 (totI a : Nat)))) := hid (((But.of_below HBW.out).trans (But.of_grown (P := fun b => b = mb) HGW.out rfl) (fun _ _ h => .inr h)).trans (But.of_grown (P := fun b => b = sb) GZ rfl) (fun _ _ h => .inl h))
     clear hmD hhas hat hgw SX hDM Z GZ
     go_wp2
     go_ret
     exact .inl ⟨rfl, k, a, HAW.out, HF.out, HNFK.out, HZ.out, HMZ.out, HBT.out⟩
  ·have hd := hid (room_no hfit)
   have HNF2 := hid hfit
   clear hfit
   have HPOP := hid (heapPop_any hb (hb + 1) v hs wr HHX.out HHR.out (by omega) HHP.out hhl')
   go_wp2_with (go_at_call 86; refine (hasRoom_any _ _ _ _).mono ?_; rintro e w' ⟨⟨b, rfl, hb⟩, rfl⟩; obtain rfl : b = false := Bool.eq_false_iff.2 fun h => hd.out (hb.1 h); clear hb)
   refine HPOP.out.mono ?_
   rintro e w5 (⟨hnil, rfl, hb5⟩ | ⟨h0, rfl, v5, hs5, hpm5, hhp5, X5, R5, hbt5⟩)
   ·have HB5 := hid ((HBW.out.trans (hb5.mono HBW.out.size)).alloc (HBW.out.trans (hb5.mono HBW.out.size)).size (.cells #[.string ⟨#[]⟩, .int .i64 0] 132))
    have HEM : Hid (∀ i, i < a.length → NeedTo wd its ts ts.length (sumX wd (itx a i))) := hid (by have h := HHI.out; rw [hnil] at h; exact h.empty)
    have HALL : Hid (∀ j z, j < k + 1 → AwayN wd (NeedTo wd its ts ts.length) its j z → ¬ fitsI room z n) := hid fun j z hj hz => by
     by_cases e : j = k
     ·subst e
      rw [hz.uniq HNN.out HAW.out]
      exact HNF2.out
     ·exact HNFK.out j z (by omega) hz
    clear hb5
    go_wp2
    go_ret
    exact .inr ⟨rfl, ⟨k, a, HAW.out, HALL.out, HEM.out⟩, HB5.out⟩
   ·obtain ⟨i, hla, htop, hhi5⟩ := HHI.out.pop (HAW.out.asc HNN.out) HHP.out hpm5
    have e1 : (hv hs 0).1 = sumX wd (itx a i) := by rw [htop]; rfl
    have e2 : (hv hs 0).2 = itu a i := by rw [htop]; rfl
    rw [e1, e2]
    clear e1 e2 htop
    have HLA := hid hla
    have hin : i < a.length := hla.lt
    have HA5 := hid (AwayN.step HAW.out hla)
    have HG5 := hid (HGN.out.step (HAW.out.asc HNN.out) hin)
    have HH5 := hid hhi5
    have hte := totI_erase a i hin
    have hl5 : (a.eraseIdx i).length + 1 = a.length := by rw [List.length_eraseIdx_of_lt hin]; omega
    have HNF5 : Hid (∀ j z, j < k + 1 → AwayN wd (NeedTo wd its ts ts.length) its j z → ¬ fitsI room z n) := hid fun j z hj hz => by
     by_cases e : j = k
     ·subst e
      rw [hz.uniq HNN.out HAW.out]
      exact HNF2.out
     ·exact HNFK.out j z (by omega) hz
    obtain ⟨t, uu, hun, hlk⟩ := look_under HNN.out (sumX wd (itx a i)) (by have := sumX_size wd (itx a i); unfold maxLen; omega) mb
    have ht : t = itx a i := by
     have hm : a[i] ∈ its := HAW.out.sub.subset (List.getElem_mem hin)
     obtain ⟨j, hj, hje⟩ := List.getElem_of_mem hm
     have hji : itx its j = itx a i := by rw [itx_get its j hj, itx_get a i hin, hje]
     rcases hun with ⟨j', hj', hs', rfl⟩ | ⟨hno, _⟩
     ·have := sums_inj HNN.out hj' hj (by rw [hs', hji])
      subst this
      exact hji
     ·exact absurd (by rw [hji]) (hno j hj)
    have hts : t.size + totI (a.eraseIdx i) = totI a := by rw [ht]; omega
    clear hun ht hla hhi5
    have hxs : (sumX wd (itx a i)).size ≤ 8 := sumX_size wd (itx a i)
    generalize hX : sumX wd (itx a i) = x at *
    generalize itu a i = u
    have hpb : ∀ b, (b = hb ∨ v.ownBlock = some b) → hb ≤ b := fun b h => h.elim (fun h => by omega) (fun h => by have := (World.ownsRow.lt HHR.out b h).1; omega)
    have G5 := hbt5.row HGR.out (fun g e h => h.elim (fun h => by have := (HGR.out.lt g e).1; omega) (fun h => row_apart HHR.out HGR.out h e))
    have hB5 := hbt5.below (B := w.heap.size) (by have := HBW.out.size; omega) (fun b h => by have := hpb b h; omega)
    have B5 := HBW.out.trans hB5
    have hsz5 : hb + 1 ≤ w5.heap.size := by have := hbt5.size; omega
    have HX5 := hid X5
    have HR5 := hid R5
    have HB5 := hid B5
    have HG5r := hid G5
    have HPM5 := hid hhp5
    have hl5' : hs5.length ≤ 1000 := by have := hpm5.length_eq; simp at this; omega
    have hrow5 := (World.ownsRow.alloc G5 (.cells #[.string x, .int .i64 u] 132)).alloc (.cells #[.string x] 9)
    obtain ⟨i0, hi0, hz0, hz1, hz2⟩ := info_parts Tryz.info9
    have hgone : gone.length ≤ 1000 := by omega
    have HNW : Hid (∀ j z, [Value.string x][j]? = some z → ((w5.alloc (.cells #[.string x, .int .i64 u] 132)).alloc (.cells #[.string x] 9)).cell? ((⟨w5.heap.size + 1, 0, none⟩ : Addr).add j) = some z) := hid (by
     have h := cell_one_new (w5.alloc (.cells #[.string x, .int .i64 u] 132)) (.string x) 9
     rw [World.size_alloc] at h
     exact h)
    clear hbt5 hpb hB5 B5 G5 X5 R5 hhp5 hpm5
    go_wp2_with (at_builtin; refine wpList_append_own _ rfl _ _ 24 rfl (hb + 1) 9 i0 (.string ⟨#[]⟩) 1 16 Tryz.underlying24 hi0 hz0 hz1 hz2 rfl (by decide) _ _ _ rfl hrow5 ⟨w5.heap.size + 1, 0, none⟩ 1 1 [.string x] rfl rfl HNW.out (by simp [Value.oneCell']) (by unfold maxLen; omega) (by omega) (by simp; omega) ?_; intro v6 w6 hown6 hgrow6 _)
    obtain ⟨a6, c6, rfl, _⟩ := row_form hown6
    have hglt : ∀ g, (Value.slice ag gone.length cg).ownBlock = some g → hb + 1 ≤ g ∧ g < w5.heap.size := HG5r.out.lt
    have t0 : But (fun b => (Value.slice ag gone.length cg).ownBlock = some b) w5 w6 := by
     have t1 : But (fun b => (Value.slice ag gone.length cg).ownBlock = some b) w5 ((w5.alloc (.cells #[.string x, .int .i64 u] 132)).alloc (.cells #[.string x] 9)) := But.of_below (((Below.refl w5.heap.size w5).alloc (Nat.le_refl _) (.cells #[.string x, .int .i64 u] 132)).alloc (by simp) (.cells #[.string x] 9))
     have t2 : But (fun b => (Value.slice ag gone.length cg).ownBlock = some b) ((w5.alloc (.cells #[.string x, .int .i64 u] 132)).alloc (.cells #[.string x] 9)) w6 := ⟨hgrow6.os, hgrow6.tape, hgrow6.output, hgrow6.size, fun b hb' hn => hgrow6.block b hb' (fun e => hn e.symm)⟩
     exact t1.trans t2 (fun _ _ h => h)
    have B6 := HB5.out.trans (t0.below (B := w.heap.size) (by have := HB5.out.size; omega) (fun b h => by have := (hglt b h).1; omega))
    have X6 := t0.blk HX5.out (fun h => by have := (hglt _ h).1; omega)
    have R6 := t0.row HR5.out (fun g e h => row_apart HR5.out HG5r.out e h)
    have NB := ((Blk.new w5 132 #[.string x, .int .i64 u]).alloc (.cells #[.string x] 9)).kept hgrow6 (fun e => by have := (hglt _ e.symm).2; omega)
    have hs6 : hb + 1 ≤ w6.heap.size := by have := t0.size; omega
    have hS6 : w6.drew.cell? ⟨sb, 3, none⟩ = some (.map (some mb)) ∧ w6.drew.cell? ⟨w5.heap.size, 0, none⟩ = some (.string x) ∧ (Instr.lookup 72 (.map (some mb)) (.string x) false).run Tryz.prog w6.drew = .ok (.agg #[.string t, .int .i64 uu]) w6.drew := ⟨(HBX.out.below B6).cell 3, NB.cell 0, hlk w6.drew ((HMP.out.kept (grown_of_below B6) (by simp)).drew)⟩
    have HB6 : Hid (Below w.heap.size w w6.drew) := hid (below_drewN B6 1)
    have HX6 := hid X6
    have HR6 : Hid (LRow w6 (hb + 1) v5 hs5) := hid R6
    have HO6 := hid hown6
    have HGZ6 : Hid (∀ i, (tv (gone ++ [x]) i).size ≤ 1048576) := hid fun j => by
     unfold tv
     rw [List.getD_eq_getElem?_getD, List.getElem?_append]
     split
     ·have := HGZ.out j; unfold tv at this; rw [List.getD_eq_getElem?_getD] at this; exact this
     ·next h =>
      by_cases e : j - gone.length = 0
      ·rw [e]; show x.size ≤ 1048576; omega
      ·rw [List.getElem?_eq_none (by simp; omega)]; show (0 : Nat) ≤ 1048576; omega
    have hsub : ((totI a : Nat) : Int) - ((t.size : Nat) : Int) = ((totI (a.eraseIdx i) : Nat) : Int) := by omega
    have hfd := fun W => run_text t uu W
    clear t0 B6 X6 R6 NB hgrow6 hown6 hlk hglt hte hrow5
    refine wp_region_held (S := fun w' => w'.cell? ⟨sb, 3, none⟩ = some (.map (some mb)) ∧ w'.cell? ⟨w5.heap.size, 0, none⟩ = some (.string x) ∧ (Instr.lookup 72 (.map (some mb)) (.string x) false).run Tryz.prog w' = .ok (.agg #[.string t, .int .i64 uu]) w') (by kernel_rfl) ?_
    change wpAnyH _ _ _ _ _ _ _ _ (World.drew _)
    refine tkA 0 (.int .i64 (totI a : Nat)) rfl hS6 ?_
    refine tkA 1 (.pointer (some ⟨sb, 0, none⟩)) rfl hS6 ?_
    refine tkA 2 (.pointer (some ⟨sb, 0, none⟩)) rfl hS6 ?_
    refine tkA 3 (.pointer (some ⟨sb, 3, none⟩)) rfl hS6 ?_
    refine tkA 4 (.map (some mb)) rfl hS6 ?_
    refine tkA 5 (.pointer (some ⟨w5.heap.size, 0, none⟩)) rfl hS6 ?_
    refine tkA 6 (.string x) rfl hS6 ?_
    refine wpAnyH_take (i := 7) (v := .agg #[.string t, .int .i64 uu]) rfl (by kernel_rfl) (by kernel_rfl) (by kernel_rfl) (fun _ _ _ h => h) (.inl ⟨rfl, fun w' hS => by obtain ⟨s1, s2, s3⟩ := hS; first | (go_simp; done) | (simp [execOp, s3, Result.andThen]; done) | (go_simp; simp [s3])⟩) hS6 ?_
    refine tkA 8 (.string t) rfl hS6 ?_
    refine tkA 9 (.int .i64 (t.size : Nat)) rfl hS6 ?_
    refine wpAnyH_take (i := 10) (v := .int .i64 (totI (a.eraseIdx i) : Nat)) rfl (by kernel_rfl) (by kernel_rfl) (by kernel_rfl) (fun _ _ _ h => h) (.inl ⟨rfl, fun w' hS => by obtain ⟨s1, s2, s3⟩ := hS; go_simp; rw [IntKind.wrap_i64]; omega⟩) hS6 ?_
    refine tkA 11 (.int .i64 (totI (a.eraseIdx i) : Nat)) rfl hS6 ?_
    refine wpAnyH_done (by kernel_rfl) ?_ _
    clear hS6
    go_simp
    go_wp2
    refine ⟨⟨k + 1, a.eraseIdx i, v5, hs5, gone ++ [x], rfl, by go_num, HA5.out, HNF5.out, HG5.out, by simp; omega, HGZ6.out, HH5.out, HPM5.out, hl5', HX6.out, HR6.out, (show w6.ownsRow (hb + 1) 9 1 _ (gone ++ [x]).length ((gone ++ [x]).map Value.string) from by simpa using HO6.out), HB6.out, hs6⟩, by simp [intOf]; omega⟩
end Go.Proofs.YtkjdabnglcabiaaGreatDoor
