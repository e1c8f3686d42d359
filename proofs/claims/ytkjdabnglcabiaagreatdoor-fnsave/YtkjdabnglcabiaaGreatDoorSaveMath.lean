import Derived.Test.YtkjdabnglcabiaaGreatDoorAddSpec
import Derived.Shelf.Spec.SlicesInsertGrow
import Derived.Test.YtkjdabnglcabiaaGreatDoorUnpinMath
import Derived.Test.YtkjdabnglcabiaaGreatDoorPutImpl
import Derived.Test.YtkjdabnglcabiaaGreatDoorNamesLaw
/- spec.Pin. -/
namespace Go.Proofs.YtkjdabnglcabiaaGreatDoor
open Go.RowKit
/-- A text put into an ascending list. -/
def addT (s : ByteArray) (ts : List ByteArray) : List ByteArray := if cutN s ts < ts.length ∧ tv ts (cutN s ts) = s then ts else ts.take (cutN s ts) ++ s :: ts.drop (cutN s ts)
/-- What Pin answers. -/
def PinR (wd room : Int) (its : Itms) (ts : List ByteArray) (name : ByteArray) (wd' room' : Int) (its' : Itms) (ts' : List ByteArray) (code : Int) : Prop :=
 (¬ (ValidSt wd room its ts ∧ (name.size : Int) = wd) ∧ wd' = 0 ∧ room' = 0 ∧ its' = [] ∧ ts' = [] ∧ code = 1) ∨
 ((ValidSt wd room its ts ∧ (name.size : Int) = wd) ∧ 10 < (addT name ts).length ∧ wd' = 0 ∧ room' = 0 ∧ its' = [] ∧ ts' = [] ∧ code = 2) ∨
 ((ValidSt wd room its ts ∧ (name.size : Int) = wd) ∧ (addT name ts).length ≤ 10 ∧ wd' = wd ∧ room' = room ∧ its' = its ∧ ts' = addT name ts ∧ code = 0)
set_option maxRecDepth 100000 in
set_option maxHeartbeats 2000000 in
theorem specPin_row (wd room : Int) (vi vp : Value) (its : Itms) (ts : List ByteArray) (name : ByteArray) (w : World) (b1 b2 : Nat) (hi : w.ownsRow b1 59 2 vi its.length (cellsI its)) (hp : w.ownsRow b2 9 1 vp ts.length (ts.map Value.string)) (hli : its.length ≤ 1048576) (hlp : ts.length ≤ 1048576) (hsi : ∀ i, (itx its i).size ≤ 1048576) (hsp : ∀ i, (tv ts i).size ≤ 1048576) :
  Calls Tryz.prog 24 #[.agg #[.int .i64 wd, .int .i64 room, vi, vp], .string name] w fun e w' => ∃ wd' room' its' ts' code vi' vp', e = .returned (.tuple #[.agg #[.int .i64 wd', .int .i64 room', vi', vp'], .int .i64 code]) ∧ PinR wd room its ts name wd' room' its' ts' code ∧ StoreOwn w' (w.heap.size + 2) vi' vp' its' ts' ∧ Below w.heap.size w w' := by
 obtain ⟨ai, ci, hvi⟩ : ∃ ai ci, vi = .slice ai its.length ci := row_any hi
 subst hvi
 obtain ⟨ap, cp, rfl, _⟩ := row_form hp
 have hA := ((Below.refl w.heap.size w).alloc (Nat.le_refl _) (.cells #[.int .i64 wd, .int .i64 room, .slice ai its.length ci, .slice ap ts.length cp] 26)).alloc (by simp) (.cells #[.int .i64 0, .int .i64 0, .slice none 0 0, .slice none 0 0] 26)
 have HN := hid ((Blk.new w 26 #[.int .i64 wd, .int .i64 room, .slice ai its.length ci, .slice ap ts.length cp]).alloc (.cells #[.int .i64 0, .int .i64 0, .slice none 0 0, .slice none 0 0] 26))
 have hN7 := Blk.new (w.alloc (.cells #[.int .i64 wd, .int .i64 room, .slice ai its.length ci, .slice ap ts.length cp] 26)) 26 #[.int .i64 0, .int .i64 0, .slice none 0 0, .slice none 0 0]
 rw [World.size_alloc] at hN7
 have HN7 := hid hN7
 have HV := hid (specValidStore_any wd room _ _ its ts _ (rdi_row (Below.row hA hi)) (Reads.of_row (Below.row hA hp)) hli hlp hsi hsp)
 have HI := hid hi
 have HP := hid hp
 have HPR := hid (Reads.of_row hp).form
 have HA := hid hA
 have HCP := hid fun W a b => l4Copy_row wd room (.slice ai its.length ci) (.slice ap ts.length cp) its ts W b1 b2 a b hli hlp
 obtain ⟨i0, hi0, hz0, hz1, hz2⟩ := info_parts Tryz.info9
 clear hi hp hA hN7 hsi hsp
 go_enter Tryz.func24, Tryz.ntmps24
 go_wp2_with fail
 refine HV.out.mono ?_
 rintro e w1 ⟨b, rfl, hb, hb1⟩
 have N1 := HN.out.below hb1
 have N7 := HN7.out.below hb1
 have B1 := HA.out.trans (hb1.mono (by simp; omega))
 clear hb1
 cases b with
 | false =>
  have HF : Hid (PinR wd room its ts name 0 0 [] [] 1) := .inl ⟨(fun h => by have := hb.2 h.1; cases this), rfl, rfl, rfl, rfl, rfl⟩
  have s9 := N7.store4 (.int .i64 0) (.int .i64 0) (.slice none 0 0) (.slice none 0 0)
  have s0 := s9.a0; have s1 := s9.a1; have s2 := s9.a2; have s3 := s9.a3
  have k0 := s9.f0; have k1 := s9.f1; have k2 := s9.f2; have k3 := s9.f3
  have Z := hid s9.z
  have BB := hid ((((B1.setCell (p := ⟨w.heap.size + 1, 0, none⟩) (by simp) (.int .i64 0)).setCell (p := ⟨w.heap.size + 1, 1, none⟩) (by simp) (.int .i64 0)).setCell (p := ⟨w.heap.size + 1, 2, none⟩) (by simp) (.slice none 0 0)).setCell (p := ⟨w.heap.size + 1, 3, none⟩) (by simp) (.slice none 0 0))
  clear s9
  clear N1 N7 B1 hb
  go_wp2
  refine bodyPost_ret (v := .tuple #[.agg #[.int .i64 0, .int .i64 0, .slice none 0 0, .slice none 0 0], .int .i64 1]) (by simp [results, Tryz.results24, go_sem, Z.out.cell]) rfl ⟨0, 0, [], [], 1, _, _, rfl, HF.out, StoreOwn.none _ _, BB.out⟩
 | true =>
 have HVAL := hid (hb.1 rfl)
 clear hb
 have x0 : w1.cell? ⟨w.heap.size, 0, none⟩ = some (.int .i64 wd) := N1.cell 0
 have x1 : w1.cell? ⟨w.heap.size, 1, none⟩ = some (.int .i64 room) := N1.cell 1
 have x2 : w1.cell? ⟨w.heap.size, 2, none⟩ = some (.slice ai its.length ci) := N1.cell 2
 have x3 : w1.cell? ⟨w.heap.size, 3, none⟩ = some (.slice ap ts.length cp) := N1.cell 3
 by_cases hsz : (name.size : Int) = wd
 case neg =>
  have HF : Hid (PinR wd room its ts name 0 0 [] [] 1) := .inl ⟨fun h => hsz h.2, rfl, rfl, rfl, rfl, rfl⟩
  have s9 := N7.store4 (.int .i64 0) (.int .i64 0) (.slice none 0 0) (.slice none 0 0)
  have s0 := s9.a0; have s1 := s9.a1; have s2 := s9.a2; have s3 := s9.a3
  have k0 := s9.f0; have k1 := s9.f1; have k2 := s9.f2; have k3 := s9.f3
  have Z := hid s9.z
  have BB := hid ((((B1.setCell (p := ⟨w.heap.size + 1, 0, none⟩) (by simp) (.int .i64 0)).setCell (p := ⟨w.heap.size + 1, 1, none⟩) (by simp) (.int .i64 0)).setCell (p := ⟨w.heap.size + 1, 2, none⟩) (by simp) (.slice none 0 0)).setCell (p := ⟨w.heap.size + 1, 3, none⟩) (by simp) (.slice none 0 0))
  clear s9
  clear N1 N7 B1
  go_wp2
  refine bodyPost_ret (v := .tuple #[.agg #[.int .i64 0, .int .i64 0, .slice none 0 0, .slice none 0 0], .int .i64 1]) (by simp [results, Tryz.results24, go_sem, Z.out.cell]) rfl ⟨0, 0, [], [], 1, _, _, rfl, HF.out, StoreOwn.none _ _, BB.out⟩
 have HCP1 := hid (HCP.out w1 (row_below HI.out B1) (Below.row B1 HP.out))
 go_wp2_with fail
 refine HCP1.out.mono ?_
 rintro e w3 ⟨v3, p3, rfl, ho3, hp3, hap, hb3⟩
 obtain ⟨a4, c4, rfl⟩ := row_any ho3
 obtain ⟨b4, d4, rfl⟩ := row_any hp3
 have M7 := N7.below hb3
 have B3 := B1.trans (hb3.mono B1.size)
 have hlt7 := N7.lt
 have hs13 := hb3.size
 have W7 := (M7.alloc (.cells #[.int .i64 wd, .int .i64 room, .slice a4 its.length c4, .slice b4 ts.length d4] 26)).alloc (.cells #[] 9)
 have WT := (Blk.new w3 26 #[.int .i64 wd, .int .i64 room, .slice a4 its.length c4, .slice b4 ts.length d4]).alloc (.cells #[] 9)
 have WO : ((w3.alloc (.cells #[.int .i64 wd, .int .i64 room, .slice a4 its.length c4, .slice b4 ts.length d4] 26)).alloc (.cells #[] 9)).ownsRow (w3.heap.size + 1) 9 1 (.slice (some ⟨w3.heap.size + 1, 0, none⟩) 0 0) 0 [] := by
  have := World.ownsRow_made (base := w3.heap.size + 1) (e := 9) (size := 1) (w3.alloc (.cells #[.int .i64 wd, .int .i64 room, .slice a4 its.length c4, .slice b4 ts.length d4] 26)) #[] 0 (by simp) (by simp [maxLen]) rfl
  rw [World.size_alloc] at this
  exact this
 have WI := (ho3.alloc (.cells #[.int .i64 wd, .int .i64 room, .slice a4 its.length c4, .slice b4 ts.length d4] 26)).alloc (.cells #[] 9)
 have WP := (hp3.alloc (.cells #[.int .i64 wd, .int .i64 room, .slice a4 its.length c4, .slice b4 ts.length d4] 26)).alloc (.cells #[] 9)
 have WB := (B3.alloc B3.size (.cells #[.int .i64 wd, .int .i64 room, .slice a4 its.length c4, .slice b4 ts.length d4] 26)).alloc (by have := B3.size; simp; omega) (.cells #[] 9)
 have HLI := hid ho3.lt
 have HW7 := hid W7
 have HWT := hid WT
 have HWO := hid WO
 have HWI := hid WI
 have HWB := hid WB
 have HWP := hid WP
 have hw3 := B3.size
 have HAD := hid (l4Add_any (.slice b4 ts.length d4) ts name _ _ WP (okSums_asc HVAL.out.sums) hlp)
 have hpl := HVAL.out.pins
 have hl9 : (addT name ts).length ≤ 1048576 := by
  unfold addT
  split
  ·exact hlp
  ·have := cutN_le name ts
   simp
   omega
 have HF2 : Hid (10 < (addT name ts).length → PinR wd room its ts name 0 0 [] [] 2) := fun h => .inr (.inl ⟨⟨HVAL.out, hsz⟩, h, rfl, rfl, rfl, rfl, rfl⟩)
 have HF0 : Hid (¬ 10 < (addT name ts).length → PinR wd room its ts name wd room its (addT name ts) 0) := fun h => .inr (.inr ⟨⟨HVAL.out, hsz⟩, by omega, rfl, rfl, rfl, rfl, rfl⟩)
 clear N1 N7 B1 M7 B3 hb3 W7 WT WO WI WB WP ho3 hp3 hap
 go_wp2_with fail
 refine HAD.out.mono ?_
 rintro e w5 ⟨v5, rfl, hv5, hb5⟩
 have hrow5 : ∃ base, w5.ownsRow base 9 1 v5 (addT name ts).length ((addT name ts).map Value.string) := by
  rcases hv5 with ⟨h1, h2, rfl⟩ | ⟨h1, h2⟩
  ·rw [addT, if_pos ⟨h1, h2⟩]
   exact ⟨_, Below.row hb5 HWP.out⟩
  ·rw [addT, if_neg h1]
   have e : (ts.take (cutN name ts) ++ name :: ts.drop (cutN name ts)).length = ts.length + 1 := by
    have := cutN_le name ts
    simp
    omega
   rw [e]
   exact ⟨_, h2⟩
 obtain ⟨b5, hrow5⟩ := hrow5
 obtain ⟨a5, c5, rfl⟩ := row_any hrow5
 have O5 := Below.row hb5 HWO.out
 have T5 := HWT.out.below hb5
 have S7 := HW7.out.below hb5
 have I5 := Below.row hb5 HWI.out
 have B5 := HWB.out.trans (hb5.mono HWB.out.size)
 have hs5 := hb5.size
 simp only [World.size_alloc] at hs5
 generalize addT name ts = ts9 at *
 clear hv5 hb5 HAD HWP HWO HWT HW7 HWI HWB x0 x1 x2 x3
 by_cases hgt : 10 < ts9.length
 ·have HF := hid (HF2.out hgt)
  go_wp2_with (at_builtin; refine append_texts rfl _ _ rfl (w3.heap.size + 1) (.slice (some ⟨w3.heap.size + 1, 0, none⟩) 0 0) rfl O5 b5 _ ts9 (by go_simp) hrow5 hl9 (by omega) ?_; intro v6 w6 ho6 hb6; obtain ⟨a6, c6, rfl⟩ := row_any ho6; have T6 := T5.belowAt hb6 (by omega); have d3 := T6.cell 3; have g3 := T6.fz 3; have hU := grownBy_setCellAt w6 w3.heap.size 3 (.slice a6 ts9.length c6); have T6s := T6.set 3 (.slice a6 ts9.length c6); have t3 : (w6.setCell ⟨w3.heap.size, 3, none⟩ (.slice a6 ts9.length c6)).cell? ⟨w3.heap.size, 3, none⟩ = some (.slice a6 ts9.length c6) := T6s.cell 3; have N4 := (S7.belowAt hb6 (by omega)).kept hU (fun e => by have := Option.some.inj e; omega); have BF := (B5.trans (hb6.mono (by omega))).setCell (p := ⟨w3.heap.size, 3, none⟩) (by show w.heap.size ≤ w3.heap.size; omega) (.slice a6 ts9.length c6); have s9 := N4.store4 (.int .i64 0) (.int .i64 0) (.slice none 0 0) (.slice none 0 0); have s0 := s9.a0; have s1 := s9.a1; have s2 := s9.a2; have s3 := s9.a3; have k0 := s9.f0; have k1 := s9.f1; have k2 := s9.f2; have k3 := s9.f3; have Z := hid s9.z; have BB := hid ((((BF.setCell (p := ⟨w.heap.size + 1, 0, none⟩) (by simp) (.int .i64 0)).setCell (p := ⟨w.heap.size + 1, 1, none⟩) (by simp) (.int .i64 0)).setCell (p := ⟨w.heap.size + 1, 2, none⟩) (by simp) (.slice none 0 0)).setCell (p := ⟨w.heap.size + 1, 3, none⟩) (by simp) (.slice none 0 0)); clear s9 N4 BF T6 T6s hU ho6 hb6)
  refine bodyPost_ret (v := .tuple #[.agg #[.int .i64 0, .int .i64 0, .slice none 0 0, .slice none 0 0], .int .i64 2]) (by simp [results, Tryz.results24, go_sem, Z.out.cell]) rfl ⟨0, 0, [], [], 2, _, _, rfl, HF.out, StoreOwn.none _ _, BB.out⟩
 ·have HF := hid (HF0.out hgt)
  go_wp2_with (at_builtin; refine append_texts rfl _ _ rfl (w3.heap.size + 1) (.slice (some ⟨w3.heap.size + 1, 0, none⟩) 0 0) rfl O5 b5 _ ts9 (by go_simp) hrow5 hl9 (by omega) ?_; intro v6 w6 ho6 hb6; obtain ⟨a6, c6, rfl⟩ := row_any ho6; have T6 := T5.belowAt hb6 (by omega); have d3 := T6.cell 3; have g3 := T6.fz 3; have hU := grownBy_setCellAt w6 w3.heap.size 3 (.slice a6 ts9.length c6); have T6s := T6.set 3 (.slice a6 ts9.length c6); have t3 : (w6.setCell ⟨w3.heap.size, 3, none⟩ (.slice a6 ts9.length c6)).cell? ⟨w3.heap.size, 3, none⟩ = some (.slice a6 ts9.length c6) := T6s.cell 3; have N4 := (S7.belowAt hb6 (by omega)).kept hU (fun e => by have := Option.some.inj e; omega); have BF := (B5.trans (hb6.mono (by omega))).setCell (p := ⟨w3.heap.size, 3, none⟩) (by show w.heap.size ≤ w3.heap.size; omega) (.slice a6 ts9.length c6); have s9 := N4.store4 (.int .i64 wd) (.int .i64 room) (.slice a4 its.length c4) (.slice a6 ts9.length c6); have s0 := s9.a0; have s1 := s9.a1; have s2 := s9.a2; have s3 := s9.a3; have k0 := s9.f0; have k1 := s9.f1; have k2 := s9.f2; have k3 := s9.f3; have Z := hid s9.z; have BB := hid ((((BF.setCell (p := ⟨w.heap.size + 1, 0, none⟩) (by simp) (.int .i64 wd)).setCell (p := ⟨w.heap.size + 1, 1, none⟩) (by simp) (.int .i64 room)).setCell (p := ⟨w.heap.size + 1, 2, none⟩) (by simp) (.slice a4 its.length c4)).setCell (p := ⟨w.heap.size + 1, 3, none⟩) (by simp) (.slice a6 ts9.length c6)); have t0 : (w6.setCell ⟨w3.heap.size, 3, none⟩ (.slice a6 ts9.length c6)).cell? ⟨w3.heap.size, 0, none⟩ = some (.int .i64 wd) := T6s.cell 0; have t1 : (w6.setCell ⟨w3.heap.size, 3, none⟩ (.slice a6 ts9.length c6)).cell? ⟨w3.heap.size, 1, none⟩ = some (.int .i64 room) := T6s.cell 1; have t2 : (w6.setCell ⟨w3.heap.size, 3, none⟩ (.slice a6 ts9.length c6)).cell? ⟨w3.heap.size, 2, none⟩ = some (.slice a4 its.length c4) := T6s.cell 2; have I6 : w6.ownsRow (w1.heap.size + 1) 59 2 (.slice a4 its.length c4) its.length (cellsI its) := row_same I5 (fun g e => hb6.block g (by have := (HLI.out g e).2; omega)); have I7 := I6.kept hU (.inr fun e => by have := (HLI.out _ e).2; omega); have P7 := ho6.kept hU (.inr fun e => by have := (ho6.lt _ e).1; omega); have hl6 := ho6.lt; have SO : StoreOwn (w6.setCell ⟨w3.heap.size, 3, none⟩ (.slice a6 ts9.length c6)) (w1.heap.size + 1) (.slice a4 its.length c4) (.slice a6 ts9.length c6) its ts9 := ⟨I7, ownsRow_base2 P7 (by omega), fun g e e2 => by have h1 := (HLI.out g e).2; have h2 := (hl6 g e2).1; omega⟩; have GG := fun (x : World) (j : Nat) (y : Value) => grownBy_setCellAt x (w.heap.size + 1) j y; have SO4 := hid ((((SO.kept (GG _ 0 (.int .i64 wd)) (by omega)).kept (GG _ 1 (.int .i64 room)) (by omega)).kept (GG _ 2 (.slice a4 its.length c4)) (by omega)).kept (GG _ 3 (.slice a6 ts9.length c6)) (by omega)); clear SO GG I6 I7 P7 hl6; clear s9 N4 BF T6 T6s hU ho6 hb6)
  refine bodyPost_ret (v := .tuple #[.agg #[.int .i64 wd, .int .i64 room, .slice a4 its.length c4, .slice a6 ts9.length c6], .int .i64 0]) (by simp [results, Tryz.results24, go_sem, Z.out.cell]) rfl ⟨wd, room, its, ts9, 0, _, _, rfl, HF.out, SO4.out.base (by omega), BB.out⟩
end Go.Proofs.YtkjdabnglcabiaaGreatDoor
/- slices.Insert of one text; (*shelf).pin. -/
namespace Go.Proofs.YtkjdabnglcabiaaGreatDoor
open Go.RowKit Go.Shelf
def nRen : Ren := { f := fun n => if n = 22 then 72 else if n = 17 then 135 else if n = 29 then 95 else if n = 30 then 96 else if n = 36 then 113 else n, t := fun n => if n = 24 then 24 else n, g := fun n => n }
theorem nLays : Lays2.n22 Tryz.prog nRen where
 mixed := by kernel_rfl
 f17 := by kernel_rfl
 f22 := by kernel_rfl
 f29 := by kernel_rfl
 f30 := by kernel_rfl
 f36 := by kernel_rfl
 t0 := by kernel_rfl
 a0 := fun _ => by kernel_rfl
 z0 := fun _ => by kernel_rfl
 v0 := fun _ => by kernel_rfl
 t3 := by kernel_rfl
 a3 := fun _ => by kernel_rfl
 z3 := fun _ => by kernel_rfl
 v3 := fun _ => by kernel_rfl
 t4 := by kernel_rfl
 a4 := fun _ => by kernel_rfl
 z4 := fun _ => by kernel_rfl
 v4 := fun _ => by kernel_rfl
 t9 := by kernel_rfl
 a9 := fun _ => by kernel_rfl
 z9 := fun _ => by kernel_rfl
 v9 := fun _ => by kernel_rfl
 t24 := by kernel_rfl
 a24 := fun _ => by kernel_rfl
 z24 := fun _ => by kernel_rfl
 v24 := fun _ => by kernel_rfl
 i9 := by kernel_rfl
theorem ins_get (ts : List ByteArray) (name : ByteArray) (i : Nat) (hi : i ≤ ts.length) (j : Nat) : (ts.take i ++ name :: ts.drop i).getD j ByteArray.empty = if j < i then tv ts j else if j = i then name else tv ts (j - 1) := by
 have hl : (ts.take i).length = i := by simp; omega
 rw [List.getD_eq_getElem?_getD, List.getElem?_append, hl]
 split
 ·next h => rw [List.getElem?_take_of_lt h]; simp [tv]
 ·next h =>
  split
  ·next h2 => subst h2; simp
  ·next h2 =>
   obtain ⟨k, rfl⟩ : ∃ k, j = i + 1 + k := ⟨j - (i + 1), by omega⟩
   rw [show i + 1 + k - i = k + 1 by omega, List.getElem?_cons_succ, List.getElem?_drop, show i + 1 + k - 1 = i + k by omega]
   simp [tv]
theorem grown_far {A B : World} {o : Option Nat} (h : A.grownBy B o) {b : Nat} (hb : A.heap.size ≤ b) (i : Nat) (vs : List Value) : A.grownBy (B.setCells b i vs) o :=
 have hg := grown_setCells b vs i B
 ⟨hg.os.trans h.os, hg.tape.trans h.tape, hg.output.trans h.output, Nat.le_trans h.size hg.size, fun k hk hn => (hg.block k (Nat.lt_of_lt_of_le hk h.size) (fun e => by have := Option.some.inj e; omega)).trans (h.block k hk hn)⟩
theorem insertRow_any (v : Value) (i B vb : Nat) (ts : List ByteArray) (name : ByteArray) (w : World) (hr : w.ownsRow B 9 1 v ts.length (ts.map Value.string)) (hi : i ≤ ts.length) (hts : ts.length ≤ 1048576) (hv : w.heap[vb]? = some (.cells #[.string name] 9 (0, 0))) (hne : v.ownBlock ≠ some vb) :
  Calls Tryz.prog 72 #[v, .int .i64 i, .slice (some ⟨vb, 0, none⟩) 1 1] w fun e w' => ∃ v', e = .returned v' ∧ Reads w' v' (ts.take i ++ name :: ts.drop i) ∧ (∀ b, v'.ownBlock = some b → v.ownBlock = some b ∨ w.heap.size ≤ b) ∧ w.grownBy w' v.ownBlock := by
 have hl : (ts.take i ++ name :: ts.drop i).length = ts.length + 1 := by simp; omega
 have hcs : (ts.map Value.string).length = ts.length := by simp
 have h1c : ∀ x ∈ ts.map Value.string, x.oneCell' = true := fun x hx => by obtain ⟨y, _, rfl⟩ := List.mem_map.1 hx; rfl
 have h1v : ∀ x ∈ [Value.string name], x.oneCell' = true := fun x hx => by rw [List.mem_singleton.1 hx]; rfl
 have hvs : ∀ (j : Nat) (x : Value), [Value.string name][j]? = some x → w.cell? ⟨vb, 0 + j, none⟩ = some x := fun j x hj => by
  have : j = 0 := by
   by_cases h : j = 0
   ·exact h
   ·rw [List.getElem?_eq_none (by simp; omega)] at hj; cases hj
  subst this
  simp at hj
  subst hj
  simp [World.cell?, hv]
 have hzc : ((Value.string ⟨#[]⟩).cells).size = 1 := rfl
 have hdd : Below w.heap.size w w.drew := below_drewN (Below.refl _ _) 1
 rcases hr with ⟨h0, ⟨rfl, hn⟩ | ⟨g, cap, cur, rfl, hB, hcur, hnc, hmc, hsz, htk⟩⟩
 ·have e1 : ts = [] := List.eq_nil_of_length_eq_zero hn
  subst e1
  have : i = 0 := by simpa using hi
  subst this
  have h := Any2.slices_Insert_string_end_grow nLays none 0 0 vb 0 1 1 [] [Value.string name] w (by omega) (by omega) (by omega) (by omega) rfl rfl (fun _ => rfl) (fun _ e => by cases e) hvs h1v
  refine h.mono ?_
  rintro e w' ⟨rfl, rfl⟩
  refine ⟨_, rfl, .inr ⟨w.heap.size, 0, _, rfl, ?_, ?_⟩, fun b e => .inr (by cases e; exact Nat.le_refl _), grown_same (grown_below' hdd) (World.grownBy_alloc _ _ _)⟩
  ·rw [World.size_alloc]; exact Nat.lt_succ_self _
  ·intro j hj
   have : j = 0 := by simpa using hj
   subst this
   have hc := World.cell?_alloc_new w.drew (([] ++ [Value.string name]).toArray ++ Builtin.zeroCells (Value.string ⟨#[]⟩).cells (grownCap w (0 + 1) 0 (nRen.t 9) - (0 + 1))) (nRen.t 9) 0
   refine Eq.trans (Eq.trans ?_ hc) (by rw [Array.getElem?_append_left (by simp)]; simp)
   rfl
 have hr : w.ownsRow B 9 1 (.slice (some ⟨g, 0, none⟩) ts.length cap) ts.length (ts.map Value.string) := ⟨h0, .inr ⟨g, cap, cur, rfl, hB, hcur, hnc, hmc, hsz, htk⟩⟩
 have hgv : vb ≠ g := fun e => hne (by rw [e]; rfl)
 have hlt := (hr.lt g rfl).2
 have hcm : cap ≤ 9223372036854775807 := by unfold maxLen at hmc; omega
 have hcell : ∀ j, j < ts.length → w.cell? ⟨g, 0 + j, none⟩ = some (.string (tv ts j)) := fun j hj => by
  rw [Nat.zero_add, hr.cellAt j (by omega)]
  simp [tv, hj]
 have hcell2 : ∀ (j : Nat) (x : Value), (ts.map Value.string)[j]? = some x → w.cell? ⟨g, 0 + j, none⟩ = some x := fun j x hj => by
  rw [Nat.zero_add, ← hj]
  have : j < ts.length := by
   by_cases h : j < ts.length
   ·exact h
   ·rw [List.getElem?_eq_none (by simp; omega)] at hj; cases hj
  exact hr.cellAt j (by omega)
 have hspare : ∀ j, j < cap → (w.cell? ⟨g, 0 + j, none⟩).isSome = true := fun j hj => by
  have : j < cur.size := by omega
  simp [World.cell?, hcur, this]
 have hfz : ∀ j, w.frozen? ⟨g, 0 + j, none⟩ = false := fun j => hr.frozenAt _
 by_cases hroom : ts.length + 1 ≤ cap
 ·by_cases hin : i < ts.length
  ·have h := Any2.slices_Insert_string_shift nLays g 0 ts.length cap i vb 0 1 1 (ts.map Value.string) [Value.string name] w hin (by omega) hroom hcm hgv hcs rfl hcell2 (fun j hj => hspare j (by omega)) (fun j _ => hfz j) hvs h1c h1v 9 9 1 cap (by simp [World.shape?, hv]) (by simp [World.shape?, hcur, hsz]) (by omega) (by simp [World.frozen?, hv]) (by simp [World.frozen?, hv])
   refine h.mono ?_
   rintro e w' ⟨rfl, rfl⟩
   have hg : w.grownBy ((w.drew.setCells g (0 + (i + 1)) ((ts.map Value.string).drop i)).setCells g (0 + i) [Value.string name]) (some g) := grown_same (grown_below' hdd) (grown_same (grown_setCells g _ _ _) (grown_setCells g _ _ _))
   refine ⟨_, rfl, .inr ⟨g, 0, cap, by rw [hl], Nat.lt_of_lt_of_le hlt hg.size, fun j hj => ?_⟩, fun b e => .inl e, hg⟩
   rw [hl] at hj
   rw [ins_get ts name i hi]
   have hd1 : ∀ k, k < ((ts.map Value.string).drop i).length → (w.drew.cell? ⟨g, 0 + (i + 1) + k, none⟩).isSome = true := fun k hk => by
    have := hspare (i + 1 + k) (by simp at hk; omega)
    rw [show 0 + (i + 1) + k = 0 + (i + 1 + k) by omega]
    exact this
   split
   ·next h1 =>
    rw [World.cell?_setCells_out g _ _ _ _ (fun _ _ => .inl (by show 0 + j < 0 + i; omega)), World.cell?_setCells_out g _ _ _ _ (fun _ _ => .inl (by show 0 + j < 0 + (i + 1); omega))]
    exact hcell j (by omega)
   ·next h1 =>
    split
    ·next h2 =>
     subst h2
     have := World.cell?_setCells_in g [Value.string name] (0 + j) (w.drew.setCells g (0 + (j + 1)) ((ts.map Value.string).drop j)) (fun k hk => by
      have hk0 : k = 0 := by simpa using hk
      subst hk0
      rw [World.cell?_setCells_out g _ _ _ _ (fun _ _ => .inl (by show 0 + j + 0 < 0 + (j + 1); omega))]
      exact hspare j (by omega)) 0 (by simp)
     exact this
    ·next h2 =>
     obtain ⟨k, rfl⟩ : ∃ k, j = i + 1 + k := ⟨j - (i + 1), by omega⟩
     rw [World.cell?_setCells_out g _ _ _ _ (fun _ _ => .inr (by show 0 + i + 1 ≤ 0 + (i + 1 + k); omega))]
     have := World.cell?_setCells_in g ((ts.map Value.string).drop i) (0 + (i + 1)) w.drew hd1 k (by simp; omega)
     rw [show 0 + (i + 1 + k) = 0 + (i + 1) + k by omega, this]
     have hk3 : i + k < ts.length := by omega
     rw [show i + 1 + k - 1 = i + k by omega]
     simp [tv, hk3]
  ·have hin' : i = ts.length := by omega
   subst hin'
   have h := Any2.slices_Insert_string_end_room nLays g 0 ts.length cap vb 0 1 1 [Value.string name] w (by omega) hroom hcm rfl (fun j hj => by rw [Nat.add_assoc]; exact hspare _ (by omega)) (fun j _ => by rw [Nat.add_assoc]; exact hfz _) hvs h1v
   refine h.mono ?_
   rintro e w' ⟨rfl, rfl⟩
   have hg : w.grownBy (w.setCells g (0 + ts.length) [Value.string name]) (some g) := grown_setCells g _ _ _
   refine ⟨_, rfl, .inr ⟨g, 0, cap, by rw [hl], Nat.lt_of_lt_of_le hlt hg.size, fun j hj => ?_⟩, fun b e => .inl e, hg⟩
   rw [hl] at hj
   rw [ins_get ts name ts.length hi]
   split
   ·next h1 =>
    rw [World.cell?_setCells_out g _ _ _ _ (fun _ _ => .inl (by show 0 + j < 0 + ts.length; omega))]
    exact hcell j h1
   ·next h1 =>
    have hjn : j = ts.length := by omega
    subst hjn
    rw [if_pos rfl]
    exact World.cell?_setCells_in g [Value.string name] (0 + ts.length) w (fun k hk => by
     have hk0 : k = 0 := by simpa using hk
     subst hk0
     exact hspare ts.length (by omega)) 0 (by simp)
 ·by_cases hin : i < ts.length
  ·have h := Any2.slices_Insert_string_grow nLays g 0 ts.length cap i vb 0 1 1 (ts.map Value.string) [Value.string name] w hin (by omega) hnc (by omega) (by omega) hcs rfl hcell2 hvs h1c h1v
   refine h.mono ?_
   rintro e w' ⟨rfl, rfl⟩
   generalize hGC : grownCap w (ts.length + 1) cap (nRen.t 9) = gc
   generalize hAR : ((ts.map Value.string).take i).toArray ++ Builtin.zeroCells (Value.string ⟨#[]⟩).cells (ts.length + 1 - i) ++ Builtin.zeroCells (Value.string ⟨#[]⟩).cells (gc - (ts.length + 1)) = ar
   have har : ts.length + 1 ≤ ar.size := by
    rw [← hAR]
    simp [size_zeroCells, hzc]
    omega
   have ha0 : ∀ j, j < i → ar[j]? = some (.string (tv ts j)) := fun j hj => by
    rw [← hAR, Array.getElem?_append_left (by simp; omega), Array.getElem?_append_left (by simp; omega)]
    have : j < ts.length := by omega
    simp [tv, hj, this]
   have hA : w.grownBy (w.alloc (.cells ar (nRen.t 9))) (some g) := World.grownBy_alloc _ _ _
   have hA2 : w.grownBy (w.alloc (.cells ar (nRen.t 9))).drew (some g) := ⟨hA.os, hA.tape, hA.output, hA.size, hA.block⟩
   have hS1 : w.grownBy ((w.alloc (.cells ar (nRen.t 9))).drew.setCells w.heap.size i [Value.string name]) (some g) := grown_far hA2 (Nat.le_refl _) i [Value.string name]
   have hS2 : w.grownBy ((w.alloc (.cells ar (nRen.t 9))).drew.setCells w.heap.size i [Value.string name]).drew (some g) := ⟨hS1.os, hS1.tape, hS1.output, hS1.size, hS1.block⟩
   have hg := grown_far hS2 (Nat.le_refl _) (i + 1) ((ts.map Value.string).drop i)
   have hz : w.heap.size < (w.alloc (.cells ar (nRen.t 9))).heap.size := by rw [World.size_alloc]; exact Nat.lt_succ_self _
   have hsz5 : w.heap.size < ((((w.alloc (.cells ar (nRen.t 9))).drew.setCells w.heap.size i [Value.string name]).drew).setCells w.heap.size (i + 1) ((ts.map Value.string).drop i)).heap.size :=
    Nat.lt_of_lt_of_le hz (Nat.le_trans (grown_setCells w.heap.size [Value.string name] i (w.alloc (.cells ar (nRen.t 9))).drew).size (grown_setCells w.heap.size ((ts.map Value.string).drop i) (i + 1) ((w.alloc (.cells ar (nRen.t 9))).drew.setCells w.heap.size i [Value.string name]).drew).size)
   have hnew : ∀ j, (w.alloc (.cells ar (nRen.t 9))).drew.cell? ⟨w.heap.size, j, none⟩ = ar[j]? := fun j => World.cell?_alloc_new w ar (nRen.t 9) j
   have hd0 : ∀ k, k < [Value.string name].length → ((w.alloc (.cells ar (nRen.t 9))).drew.cell? ⟨w.heap.size, i + k, none⟩).isSome = true := fun k hk => by
    have hk0 : k = 0 := by simpa using hk
    subst hk0
    rw [hnew, Array.getElem?_eq_getElem (by omega)]; rfl
   have hd1 : ∀ k, k < ((ts.map Value.string).drop i).length → (((w.alloc (.cells ar (nRen.t 9))).drew.setCells w.heap.size i [Value.string name]).drew.cell? ⟨w.heap.size, i + 1 + k, none⟩).isSome = true := fun k hk => by
    show (((w.alloc (.cells ar (nRen.t 9))).drew.setCells w.heap.size i [Value.string name]).cell? ⟨w.heap.size, i + 1 + k, none⟩).isSome = true
    rw [World.cell?_setCells_out w.heap.size _ _ _ _ (fun _ _ => .inr (by show i + 1 ≤ i + 1 + k; omega)), hnew, Array.getElem?_eq_getElem (by simp at hk; omega)]; rfl
   refine ⟨_, rfl, .inr ⟨w.heap.size, 0, gc, by rw [hl], hsz5, fun j hj => ?_⟩, fun b e => .inr (by cases e; exact Nat.le_refl _), hg⟩
   rw [hl] at hj
   rw [ins_get ts name i hi, Nat.zero_add]
   split
   ·next h1 =>
    rw [World.cell?_setCells_out w.heap.size _ _ _ _ (fun _ _ => .inl (by show j < i + 1; omega))]
    show ((w.alloc (.cells ar (nRen.t 9))).drew.setCells w.heap.size i [Value.string name]).cell? ⟨w.heap.size, j, none⟩ = _
    rw [World.cell?_setCells_out w.heap.size _ _ _ _ (fun _ _ => .inl (by show j < i; omega)), hnew]
    exact ha0 j h1
   ·next h1 =>
    split
    ·next h2 =>
     subst h2
     rw [World.cell?_setCells_out w.heap.size _ _ _ _ (fun _ _ => .inl (by show j < j + 1; omega))]
     exact World.cell?_setCells_in w.heap.size [Value.string name] j (w.alloc (.cells ar (nRen.t 9))).drew hd0 0 (by simp)
    ·next h2 =>
     obtain ⟨k, rfl⟩ : ∃ k, j = i + 1 + k := ⟨j - (i + 1), by omega⟩
     have := World.cell?_setCells_in w.heap.size ((ts.map Value.string).drop i) (i + 1) ((w.alloc (.cells ar (nRen.t 9))).drew.setCells w.heap.size i [Value.string name]).drew hd1 k (by simp; omega)
     rw [this]
     have hk3 : i + k < ts.length := by omega
     rw [show i + 1 + k - 1 = i + k by omega]
     simp [tv, hk3]
  ·have hin' : i = ts.length := by omega
   subst hin'
   have h := Any2.slices_Insert_string_end_grow nLays (some ⟨g, 0, none⟩) ts.length cap vb 0 1 1 (ts.map Value.string) [Value.string name] w (by omega) hnc (by omega) (by omega) hcs rfl (fun e => by cases e) (fun a e j x hj => by cases e; rw [Addr.add_lit]; exact hcell2 j x hj) hvs h1v
   refine h.mono ?_
   rintro e w' ⟨rfl, rfl⟩
   generalize hGC : grownCap w (ts.length + 1) cap (nRen.t 9) = gc
   refine ⟨_, rfl, .inr ⟨w.heap.size, 0, gc, by rw [hl], ?_, ?_⟩, fun b e => .inr (by cases e; exact Nat.le_refl _), grown_same (grown_below' hdd) (World.grownBy_alloc _ _ _)⟩
   ·rw [World.size_alloc]; exact Nat.lt_succ_self _
   ·intro j hj
    rw [hl] at hj
    rw [ins_get ts name ts.length hi, Nat.zero_add]
    have hc := World.cell?_alloc_new w.drew ((ts.map Value.string ++ [Value.string name]).toArray ++ Builtin.zeroCells (Value.string ⟨#[]⟩).cells (gc - (ts.length + 1))) (nRen.t 9) j
    refine Eq.trans (Eq.trans ?_ hc) ?_
    ·rfl
    ·rw [Array.getElem?_append_left (by simp; omega)]
     simp only [List.getElem?_toArray]
     rw [List.getElem?_append]
     split
     ·next h1 =>
      have h1' : j < ts.length := by simpa using h1
      rw [if_pos h1']
      simp [tv, h1']
     ·next h1 =>
      have hjn : j = ts.length := by simp at h1; omega
      subst hjn
      simp
end Go.Proofs.YtkjdabnglcabiaaGreatDoor
/- (*shelf).pin. -/
namespace Go.Proofs.YtkjdabnglcabiaaGreatDoor
open Go.RowKit
theorem reads_far {w w' : World} {v : Value} {ts : List ByteArray} {b : Nat} (h : Reads w v ts) (hg : w.grownBy w' (some b)) (hn : v.ownBlock ≠ some b) : Reads w' v ts := by
 rcases h with h | ⟨c, off, cap, rfl, hl, hc⟩
 ·exact .inl h
 ·exact .inr ⟨c, off, cap, rfl, Nat.lt_of_lt_of_le hl hg.size, fun j hj => (hg.cell_far ⟨c, off + j, none⟩ hl (fun e => hn e)).trans (hc j hj)⟩
theorem addT_len (name : ByteArray) (ts : List ByteArray) (h : ¬ (cutN name ts < ts.length ∧ tv ts (cutN name ts) = name)) : addT name ts = ts.take (cutN name ts) ++ name :: ts.drop (cutN name ts) ∧ (addT name ts).length = ts.length + 1 := by
 have e : addT name ts = ts.take (cutN name ts) ++ name :: ts.drop (cutN name ts) := by rw [addT, if_neg h]
 refine ⟨e, ?_⟩
 rw [e]
 have := cutN_le name ts
 simp
 omega
end Go.Proofs.YtkjdabnglcabiaaGreatDoor
/- impl.Pin. -/
namespace Go.Proofs.YtkjdabnglcabiaaGreatDoor
open Go.RowKit
theorem addT_mem {name : ByteArray} {ts : List ByteArray} {x : ByteArray} (h : x ∈ addT name ts) : x = name ∨ x ∈ ts := by
 unfold addT at h
 split at h
 ·exact .inr h
 ·rcases List.mem_append.1 h with h | h
  ·exact .inr (List.mem_of_mem_take h)
  ·rcases List.mem_cons.1 h with h | h
   ·exact .inl h
   ·exact .inr (List.mem_of_mem_drop h)
end Go.Proofs.YtkjdabnglcabiaaGreatDoor
/- What Save makes of a store. -/
namespace Go.Proofs.YtkjdabnglcabiaaGreatDoor
open Go.RowKit
theorem addT_eq (s : ByteArray) (ts : List ByteArray) : addT s ts = putT s ts := rfl
theorem okSums_of {n : Int} {ts : List ByteArray} (hA : Asc ts) (hs : ∀ t ∈ ts, (t.size : Int) = n) : okSums n ts := fun i hi => by
 refine ⟨hs _ ?_, fun h0 => ?_⟩
 ·simp [tv, hi]
 ·have h := (List.pairwise_iff_getElem.1 hA) (i - 1) i (by omega) hi (by omega)
  have e1 : tv ts (i - 1) = ts[i - 1]'(by omega) := by simp [tv, show i - 1 < ts.length by omega]
  have e2 : tv ts i = ts[i] := by simp [tv, hi]
  rw [e1, e2]; exact h
theorem ValidSt.pinned {wd room : Int} {its : Itms} {ts : List ByteArray} {s : ByteArray} (h : ValidSt wd room its ts) (hs : (s.size : Int) = wd) (hl : (addT s ts).length ≤ 10) : ValidSt wd room its (addT s ts) where
 width := h.width
 room0 := h.room0
 room1 := h.room1
 items := h.items
 pins := hl
 each := h.each
 sums := okSums_of (by rw [addT_eq]; exact putT_asc (okSums_asc h.sums)) fun t ht => (addT_mem ht).elim (fun e => by rw [e]; exact hs) (okSums_size h.sums t)
 fits := h.fits
theorem itemOk_of {wd : Int} {its : Itms} (hA : AscI wd its) (hm : ∀ p ∈ its, (1 ≤ p.1.size ∧ p.1.size ≤ 7000) ∧ (0 ≤ p.2 ∧ p.2 ≤ 1000000)) : ∀ i, i < its.length → itemOk wd its i := fun i hi => by
 have h1 := hm its[i] (List.getElem_mem hi)
 rw [← itx_get its i hi, ← itu_get its i hi] at h1
 refine ⟨h1.1, h1.2, fun h0 => ?_⟩
 have h := (List.pairwise_iff_getElem.1 hA) (i - 1) i (by simp; omega) (by simpa using hi) (by omega)
 rw [List.getElem_map, List.getElem_map, ← itx_get its i hi, ← itx_get its (i - 1) (by omega)] at h
 exact h
theorem PutI.valid {wd room : Int} {its : Itms} {ts : List ByteArray} {Q : ByteArray → Prop} {t : ByteArray} {now : Int} {a : Itms} (h : ValidSt wd room its ts) (hp : Puts t now) (hi : PutI wd room Q its t now 0 a) : ValidSt wd room a ts where
 width := h.width
 room0 := h.room0
 room1 := h.room1
 items := by
  cases hi with
  | there i hi hs ht => rw [List.length_set]; exact h.items
  | put k b hn hw hf => rw [ins_len]; have := hf.2; omega
 pins := h.pins
 each := by
  refine itemOk_of (hi.asc (ascI_of h.each)) fun p hpa => ?_
  rcases hi.mem p hpa with rfl | hm
  ·exact hp
  ·obtain ⟨i, hi, rfl⟩ := List.getElem_of_mem hm
   have h1 := h.each i hi
   unfold itemOk at h1
   rw [itx_get its i hi, itu_get its i hi] at h1
   exact ⟨h1.1, h1.2.1⟩
 sums := h.sums
 fits := by
  cases hi with
  | there i hi hs ht => rw [set_tot its i t now hi ht]; exact h.fits
  | put k b hn hw hf => rw [ins_tot]; have := hf.1; omega
/-- The texts put in one behind another, so many of them. -/
inductive PutTo (wd room : Int) (ts : List ByteArray) (now : Int) (its : Itms) (xs : List ByteArray) : Nat → Itms → Prop where
 | zero : PutTo wd room ts now its xs 0 its
 | step {k : Nat} {a b : Itms} (h : PutTo wd room ts now its xs k a) (hk : k < xs.length) (hp : Puts (tv xs k) now) (hi : PutI wd room (NeedTo wd a ts ts.length) a (tv xs k) now 0 b) : PutTo wd room ts now its xs (k + 1) b
theorem PutTo.valid {wd room : Int} {ts : List ByteArray} {now : Int} {its : Itms} {xs : List ByteArray} {k : Nat} {a : Itms} (h : PutTo wd room ts now its xs k a) (hv : ValidSt wd room its ts) : ValidSt wd room a ts := by
 induction h with
 | zero => exact hv
 | step h hk hp hi ih => exact hi.valid ih hp
theorem PutTo.uniq {wd room : Int} {ts : List ByteArray} {now : Int} {its : Itms} {xs : List ByteArray} (hv : ValidSt wd room its ts) : ∀ {k : Nat} {a b : Itms}, PutTo wd room ts now its xs k a → PutTo wd room ts now its xs k b → a = b
 | 0, _, _, .zero, .zero => rfl
 | k + 1, _, _, .step h hk hp hi, .step h' hk' hp' hi' => by
  obtain rfl := PutTo.uniq hv h h'
  exact (hi.uniq (ascI_of (h.valid hv).each).lt hi').2
theorem PutTo.cut {wd room : Int} {ts : List ByteArray} {now : Int} {its : Itms} {xs : List ByteArray} {k : Nat} {a : Itms} (h : PutTo wd room ts now its xs k a) : ∀ j, j < k → ∃ c d, PutTo wd room ts now its xs j c ∧ Puts (tv xs j) now ∧ PutI wd room (NeedTo wd c ts ts.length) c (tv xs j) now 0 d := by
 induction h with
 | zero => intro j hj; omega
 | step h hk hp hi ih =>
  rename_i k c d
  intro j hj
  by_cases e : j = k
  ·subst e; exact ⟨c, d, h, hp, hi⟩
  ·exact ih j (by omega)
/-- One of the texts that is not put in, and its code. -/
def PutNo (wd room : Int) (ts : List ByteArray) (now : Int) (a : Itms) (t : ByteArray) (code : Int) : Prop :=
 (¬ Puts t now ∧ code = 1) ∨ (Puts t now ∧ code ≠ 0 ∧ ∃ b, PutI wd room (NeedTo wd a ts ts.length) a t now code b)
theorem PutNo.uniq {wd room : Int} {ts : List ByteArray} {now : Int} {a : Itms} {t : ByteArray} {c d : Int} (hv : ValidSt wd room a ts) (h : PutNo wd room ts now a t c) (k : PutNo wd room ts now a t d) : c = d := by
 rcases h with ⟨h1, rfl⟩ | ⟨h1, _, b, h2⟩ <;> rcases k with ⟨k1, rfl⟩ | ⟨k1, _, b', k2⟩
 ·rfl
 ·exact absurd k1 h1
 ·exact absurd h1 k1
 ·exact (h2.uniq (ascI_of hv.each).lt k2).1
theorem PutNo.not {wd room : Int} {ts : List ByteArray} {now : Int} {a : Itms} {t : ByteArray} {c : Int} {b : Itms} (hv : ValidSt wd room a ts) (h : PutNo wd room ts now a t c) (hp : Puts t now) (hi : PutI wd room (NeedTo wd a ts ts.length) a t now 0 b) : False := by
 rcases h with ⟨h1, _⟩ | ⟨_, hc, b', h2⟩
 ·exact h1 hp
 ·exact hc (h2.uniq (ascI_of hv.each).lt hi).1
/-- What comes of the texts: all put in, or the code of the first that is not. -/
def PutsR (wd room : Int) (ts : List ByteArray) (now : Int) (its : Itms) (xs : List ByteArray) (code : Int) (b : Itms) : Prop :=
 (code = 0 ∧ PutTo wd room ts now its xs xs.length b) ∨ (code ≠ 0 ∧ b = [] ∧ ∃ k a, k < xs.length ∧ PutTo wd room ts now its xs k a ∧ PutNo wd room ts now a (tv xs k) code)
theorem PutNo.ne {wd room : Int} {ts : List ByteArray} {now : Int} {a : Itms} {t : ByteArray} {c : Int} (h : PutNo wd room ts now a t c) : c ≠ 0 := by
 rcases h with ⟨_, rfl⟩ | ⟨_, h, _⟩
 ·decide
 ·exact h
theorem PutsR.uniq {wd room : Int} {ts : List ByteArray} {now : Int} {its : Itms} {xs : List ByteArray} {c d : Int} {a b : Itms} (hv : ValidSt wd room its ts) (h : PutsR wd room ts now its xs c a) (k : PutsR wd room ts now its xs d b) : c = d ∧ a = b := by
 rcases h with ⟨rfl, h⟩ | ⟨hc, rfl, i, x, hi, hx, hn⟩ <;> rcases k with ⟨rfl, k⟩ | ⟨kc, rfl, j, y, hj, hy, kn⟩
 ·exact ⟨rfl, h.uniq hv k⟩
 ·obtain ⟨c1, d1, h1, h2, h3⟩ := h.cut j hj
  obtain rfl := h1.uniq hv hy
  exact (kn.not (h1.valid hv) h2 h3).elim
 ·obtain ⟨c1, d1, h1, h2, h3⟩ := k.cut i hi
  obtain rfl := h1.uniq hv hx
  exact (hn.not (h1.valid hv) h2 h3).elim
 ·rcases Nat.lt_trichotomy i j with e | e | e
  ·obtain ⟨c1, d1, h1, h2, h3⟩ := hy.cut i e
   obtain rfl := h1.uniq hv hx
   exact (hn.not (h1.valid hv) h2 h3).elim
  ·subst e
   obtain rfl := hx.uniq hv hy
   exact ⟨hn.uniq (hx.valid hv) kn, rfl⟩
  ·obtain ⟨c1, d1, h1, h2, h3⟩ := hx.cut j e
   obtain rfl := h1.uniq hv hy
   exact (kn.not (h1.valid hv) h2 h3).elim
theorem pin_small {wd : Int} {ts : List ByteArray} (h : okSums wd ts) (hw : wd ≤ 8) (i : Nat) : (tv ts i).size ≤ 1048576 := by
 by_cases hi : i < ts.length
 ·have := (h i hi).1; omega
 ·simp only [tv]; rw [List.getD_eq_getElem?_getD, List.getElem?_eq_none (by omega)]; simp
theorem item_small {wd : Int} {its : Itms} (h : ∀ i, i < its.length → itemOk wd its i) (i : Nat) : (itx its i).size ≤ 1048576 := by
 by_cases hi : i < its.length
 ·have := (h i hi).1.2; omega
 ·simp only [itx]; rw [List.getD_eq_getElem?_getD, List.getElem?_eq_none (by omega)]; show (0 : Nat) ≤ _; omega
theorem form_small (s : ByteArray) (m : Int) : (formR (descN s m) (descS s m) m).size ≤ 1048576 := by
 unfold formR
 split
 ·next h =>
  unfold okL at h
  simp only [Bool.and_eq_true, decide_eq_true_eq, List.all_eq_true] at h
  obtain ⟨hw, hn, hl, hall⟩ := h
  have hm8 : 1 ≤ m ∧ m ≤ 8 := by simpa [isW] using hw
  show (formL (descN s m).toNat (descS s m)).toArray.size ≤ 1048576
  rw [List.size_toArray]
  have h1 := rowsL_len 8 (descS s m) (fun x hx => by have := hall x hx; omega)
  have h2 := decB_len4 (descN s m).toNat (by omega)
  have h5 : (descS s m).length * (2 * 8 + 1) ≤ 375 * 17 := Nat.mul_le_mul hl (by omega)
  unfold formL headL
  simp only [List.length_append, List.length_cons, List.length_nil]
  omega
 ·simp [ByteArray.size]
/-- The texts of a thing: its list, and its pieces. -/
def saveX (s : ByteArray) (wd : Int) : List ByteArray := formR (descN s wd) (descS s wd) wd :: piecesOf s
theorem saveX_piece {s : ByteArray} {wd : Int} {pre : List ByteArray} {x : ByteArray} (h : (pre ++ [x]) <+: piecesOf s) : tv (saveX s wd) (pre.length + 1) = x ∧ pre.length + 1 < (saveX s wd).length ∧ x.size ≤ 3000 := by
 have hm : x ∈ piecesOf s := h.subset (by simp)
 obtain ⟨r, hr⟩ := h
 refine ⟨?_, ?_, piecesOf_size s x hm⟩
 ·unfold saveX
  rw [← hr]
  simp [tv]
 ·unfold saveX
  rw [← hr]
  simp
/-- What save makes of a valid store. -/
def SaveS (wd room : Int) (its : Itms) (ts : List ByteArray) (s : ByteArray) (now : Int) (code : Int) (b : Itms) : Prop :=
 (¬ ((nameB s wd).size : Int) = wd ∧ code = 1 ∧ b = []) ∨
 (((nameB s wd).size : Int) = wd ∧ 10 < (addT (nameB s wd) ts).length ∧ code = 2 ∧ b = []) ∨
 (((nameB s wd).size : Int) = wd ∧ (addT (nameB s wd) ts).length ≤ 10 ∧ PutsR wd room (addT (nameB s wd) ts) now its (saveX s wd) code b)
theorem SaveS.uniq {wd room : Int} {its : Itms} {ts : List ByteArray} {s : ByteArray} {now c d : Int} {a b : Itms} (hv : ValidSt wd room its ts) (h : SaveS wd room its ts s now c a) (k : SaveS wd room its ts s now d b) : c = d ∧ a = b := by
 rcases h with ⟨h1, rfl, rfl⟩ | ⟨h1, h2, rfl, rfl⟩ | ⟨h1, h2, h3⟩ <;> rcases k with ⟨k1, rfl, rfl⟩ | ⟨k1, k2, rfl, rfl⟩ | ⟨k1, k2, k3⟩
 ·exact ⟨rfl, rfl⟩
 ·exact absurd k1 h1
 ·exact absurd k1 h1
 ·exact absurd h1 k1
 ·exact ⟨rfl, rfl⟩
 ·omega
 ·exact absurd h1 k1
 ·omega
 ·exact h3.uniq (hv.pinned h1 h2) k3
theorem SaveS.valid {wd room : Int} {its : Itms} {ts : List ByteArray} {s : ByteArray} {now : Int} {b : Itms} (hv : ValidSt wd room its ts) (h : SaveS wd room its ts s now 0 b) : ValidSt wd room b (addT (nameB s wd) ts) := by
 rcases h with ⟨_, h, _⟩ | ⟨_, _, h, _⟩ | ⟨h1, h2, ⟨_, h⟩ | ⟨h, _⟩⟩
 ·cases h
 ·cases h
 ·exact h.valid (hv.pinned h1 h2)
 ·exact absurd rfl h
/-- What may be saved. -/
def Saves (wd room : Int) (its : Itms) (ts : List ByteArray) (s : ByteArray) (now : Int) : Prop := ValidSt wd room its ts ∧ s.size ≤ 3000 ∧ (0 ≤ now ∧ now ≤ 1000000)
/-- What Save answers. -/
def SaveR (wd room : Int) (its : Itms) (ts : List ByteArray) (s : ByteArray) (now : Int) (wd' room' : Int) (its' : Itms) (ts' : List ByteArray) (code : Int) : Prop :=
 (¬ Saves wd room its ts s now ∧ wd' = 0 ∧ room' = 0 ∧ its' = [] ∧ ts' = [] ∧ code = 1) ∨
 (Saves wd room its ts s now ∧ ∃ c b, SaveS wd room its ts s now c b ∧ code = c ∧ ((c ≠ 0 ∧ wd' = 0 ∧ room' = 0 ∧ its' = [] ∧ ts' = []) ∨ (c = 0 ∧ wd' = wd ∧ room' = room ∧ its' = b ∧ ts' = addT (nameB s wd) ts)))
theorem save_same {wd room : Int} {its : Itms} {ts : List ByteArray} {s : ByteArray} {now w1 r1 w2 r2 : Int} {i1 i2 : Itms} {t1 t2 : List ByteArray} {b1 b2 : Int} (h : SaveR wd room its ts s now w1 r1 i1 t1 b1) (k : SaveR wd room its ts s now w2 r2 i2 t2 b2) : w1 = w2 ∧ r1 = r2 ∧ i1 = i2 ∧ t1 = t2 ∧ b1 = b2 := by
 rcases h with ⟨hn, rfl, rfl, rfl, rfl, rfl⟩ | ⟨ho, c, a, hp, rfl, h⟩ <;> rcases k with ⟨kn, rfl, rfl, rfl, rfl, rfl⟩ | ⟨ko, c', a', kp, rfl, k⟩
 ·exact ⟨rfl, rfl, rfl, rfl, rfl⟩
 ·exact absurd ko hn
 ·exact absurd ho kn
 ·obtain ⟨rfl, rfl⟩ := hp.uniq ho.1 kp
  rcases h with ⟨hc, rfl, rfl, rfl, rfl⟩ | ⟨hc, rfl, rfl, rfl, rfl⟩ <;> rcases k with ⟨kc, rfl, rfl, rfl, rfl⟩ | ⟨kc, rfl, rfl, rfl, rfl⟩
  ·exact ⟨rfl, rfl, rfl, rfl, rfl⟩
  ·exact absurd kc hc
  ·exact absurd hc kc
  ·exact ⟨rfl, rfl, rfl, rfl, rfl⟩
end Go.Proofs.YtkjdabnglcabiaaGreatDoor
