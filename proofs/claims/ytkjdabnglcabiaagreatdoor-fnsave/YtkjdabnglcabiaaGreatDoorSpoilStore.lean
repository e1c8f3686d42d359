/- l4Spoil: a store that is spoilt. -/
import Derived.Test.YtkjdabnglcabiaaGreatDoorSortedItems
import Derived.Test.YtkjdabnglcabiaaGreatDoorSpoilMath
import Derived.Test.YtkjdabnglcabiaaGreatDoorDrawNow
namespace Go.Proofs.YtkjdabnglcabiaaGreatDoor
open Go.RowKit
theorem SBox.fz {W : World} {B sb : Nat} {wd room : Int} {vi vp : Value} {its : Itms} {ts : List ByteArray} (h : SBox W B sb wd room vi vp its ts) (k : Nat) : W.frozen? ⟨sb, k, none⟩ = false := h.blk.fz k
/-- What l4Spoil answers. -/
def SpoilP (w : World) (rb : Nat) (a : Option Addr) (nn cap : Nat) (bs : List Int) (p : Nat) (e : Ending) (w' : World) : Prop := ∃ wd' room' vi' vp' its' ts' p', e = .returned (.agg #[.int .i64 wd', .int .i64 room', vi', vp']) ∧ SmallSt its' ts' ∧ StoreOwn w' (w.heap.size + 2) vi' vp' its' ts' ∧ p' ≤ p + 10 ∧ Rd w' rb a nn cap bs p' ∧ w.grownBy w' (some rb)
theorem spoilP_of {w : World} {rb : Nat} {a : Option Addr} {nn cap : Nat} {bs : List Int} {p q : Nat} {w' : World} {wd room : Int} {vi vp : Value} {its : Itms} {ts : List ByteArray} (h1 : SmallSt its ts) (h2 : StoreOwn w' (w.heap.size + 2) vi vp its ts) (h3 : q ≤ p + 10) (h4 : Rd w' rb a nn cap bs q) (h5 : w.grownBy w' (some rb)) : SpoilP w rb a nn cap bs p (.returned (.agg #[.int .i64 wd, .int .i64 room, vi, vp])) w' := ⟨wd, room, vi, vp, its, ts, q, rfl, h1, h2, h3, h4, h5⟩
set_option maxRecDepth 100000 in
set_option maxHeartbeats 16000000 in
theorem l4Spoil_any (rb : Nat) (a : Option Addr) (nn cap : Nat) (bs : List Int) (p : Nat) (wd room : Int) (vi vp : Value) (its : Itms) (ts : List ByteArray) (w : World) {B : Nat} (h : Rd w rb a nn cap bs p) (hv : ValidSt wd room its ts) (ho : StoreOwn w B vi vp its ts) (hB : rb < B) (hp : p ≤ 800000) :
  Calls Tryz.prog 36 #[.pointer (some ⟨rb, 0, none⟩), .agg #[.int .i64 wd, .int .i64 room, vi, vp]] w fun e w' => SpoilP w rb a nn cap bs p e w' := by
 have hlt := h.lt
 obtain ⟨ai, ci, rfl⟩ := row_any ho.items
 obtain ⟨ap, cp, rfl⟩ := row_any ho.pins
 have hA := ((Below.refl w.heap.size w).alloc (Nat.le_refl _) (.cells #[.int .i64 wd, .int .i64 room, .slice ai its.length ci, .slice ap ts.length cp] 26)).alloc (by simp) (.cells #[.int .i64 0, .int .i64 0, .slice none 0 0, .slice none 0 0] 26)
 have HN := hid ((Blk.new w 26 #[.int .i64 wd, .int .i64 room, .slice ai its.length ci, .slice ap ts.length cp]).alloc (.cells #[.int .i64 0, .int .i64 0, .slice none 0 0, .slice none 0 0] 26))
 have hN7 := Blk.new (w.alloc (.cells #[.int .i64 wd, .int .i64 room, .slice ai its.length ci, .slice ap ts.length cp] 26)) 26 #[.int .i64 0, .int .i64 0, .slice none 0 0, .slice none 0 0]
 rw [World.size_alloc] at hN7
 have HN7 := hid hN7
 have HCP := hid (l4Copy_row wd room _ _ its ts _ _ _ ((ho.below hA).items) ((ho.below hA).pins) hv.smallSt.li hv.smallSt.lp)
 have HRD := hid (h.keep (hA.mono hlt))
 have HG0 := hid (grown_alloc (World.grownBy_alloc w (.cells #[.int .i64 wd, .int .i64 room, .slice ai its.length ci, .slice ap ts.length cp] 26) (some rb)) (.cells #[.int .i64 0, .int .i64 0, .slice none 0 0, .slice none 0 0] 26))
 have HO := hid ho
 have HV := hid hv
 have hs0 : ((w.alloc (.cells #[.int .i64 wd, .int .i64 room, .slice ai its.length ci, .slice ap ts.length cp] 26)).alloc (.cells #[.int .i64 0, .int .i64 0, .slice none 0 0, .slice none 0 0] 26)).heap.size = w.heap.size + 2 := by rw [World.size_alloc, World.size_alloc]
 have HS0 := hid hs0
 have hwd := hv.width
 have hli := hv.items
 have hlp := hv.pins
 clear h ho hv hA hN7 hs0
 go_enter Tryz.func36, Tryz.ntmps36
 go_wp2_with fail
 refine HCP.out.mono ?_
 rintro e w1 ⟨vi1, vp1, rfl, oi1, op1, hap, hb1⟩
 obtain ⟨a1, c1, rfl⟩ := row_any oi1
 obtain ⟨b1, d1, rfl⟩ := row_any op1
 have hs1 := hb1.size
 have hA2 := (Below.refl w1.heap.size w1).alloc (Nat.le_refl _) (.cells #[.int .i64 wd, .int .i64 room, .slice a1 its.length c1, .slice b1 ts.length d1] 26)
 have HSP : Hid (SpEnd w rb a nn cap bs #[.int .i64 wd, .int .i64 room, .slice ai its.length ci, .slice ap ts.length cp] p w1.heap.size (w1.alloc (.cells #[.int .i64 wd, .int .i64 room, .slice a1 its.length c1, .slice b1 ts.length d1] 26)) wd room (.slice a1 its.length c1) (.slice b1 ts.length d1) its ts) := hid {
  rd := HRD.out.keep ((hb1.trans (hA2.mono hs1)).mono (by have := HS0.out; omega))
  arg := (HN.out.below hb1).below hA2
  res := (HN7.out.below hb1).below hA2
  box := ⟨Blk.new w1 _ _, ((⟨oi1, op1, hap⟩ : StoreOwn w1 _ _ _ its ts).base (by have := HS0.out; omega)).below hA2⟩
  small := HV.out.smallSt
  grown := grown_pick (grown_pick HG0.out (grown_below' hb1)) (grown_below' hA2)
  lt := hlt
  above := by have := HS0.out; omega }
 clear HCP HN HN7 HRD HG0 oi1 op1 hap hb1 hs1 hA2 HS0
 go_wp2_with fail
 refine (pick_any rb a nn cap bs p 8 _ HSP.out.rd (by omega) (by omega) (by omega)).mono ?_
 rintro e w2 ⟨x, rfl, hx, hr2, hg2⟩
 have HS := hid (HSP.out.pick hg2 hr2)
 clear HSP hr2 hg2
 have hab := HS.out.above
 generalize w1.heap.size = ob at *
 clear w1
 have hw2 := HS.out.rd.lt
 have hD : x = 0 ∨ x = 1 ∨ x = 2 ∨ x = 3 ∨ x = 4 ∨ x = 5 ∨ x = 6 ∨ x = 7 := by omega
 clear hx
 rcases hD with rfl | rfl | rfl | rfl | rfl | rfl | rfl | rfl
 ·have HRA := hid (HS.out.alloc (.cells #[.int .i64 0, .int .i64 9, .int .i64 3] 3))
  go_wp2_with fail
  refine (pick_any rb a nn cap bs (p + 1) 3 _ HRA.out.rd (by omega) (by omega) (by omega)).mono ?_
  rintro e w3 ⟨y, rfl, hy, hr3, hg3⟩
  obtain ⟨z, hz, _⟩ := three_among w2 w3 0 9 3 hg3 hw2 (show y < 3 by omega)
  have HT := hid (HRA.out.pick hg3 hr3)
  have x0 : w3.cell? ⟨ob, 0, none⟩ = some (.int .i64 wd) := HT.out.box.blk.cell 0
  have f0 := HT.out.box.fz 0
  have HE := hid (HT.out.setWidth z)
  clear hr3 hg3 HRA HT
  go_upto_region 33 with fail
  obtain ⟨W, hW⟩ : ∃ x, x = w3.setCell ⟨ob, 0, none⟩ (.int .i64 z) := ⟨_, rfl⟩
  rw [← hW] at HE ⊢
  clear hW x0 f0 hz
  obtain ⟨y0, y1, y2, y3⟩ := HE.out.box.cells
  have s9 := HE.out.res.store4 (.int .i64 z) (.int .i64 room) (.slice a1 its.length c1) (.slice b1 ts.length d1)
  have s0 := s9.a0; have s1 := s9.a1; have s2 := s9.a2; have s3 := s9.a3
  have k0 := s9.f0; have k1 := s9.f1; have k2 := s9.f2; have k3 := s9.f3
  have ZZ := hid s9.z
  have HG := hid (grown_set4 W (w.heap.size + 1) (.int .i64 z) (.int .i64 room) (.slice a1 its.length c1) (.slice b1 ts.length d1))
  have HSO := hid (own_other HE.out.box.own HE.out.res HG.out)
  have HRD := hid (HE.out.rd.keep ((grown_below HG.out HE.out.res.lt).mono (by omega)))
  have HGR := hid (grownBy_trans HE.out.grown HG.out (fun g e => .inr (by cases e; omega)))
  clear s9 HG
  go_wp2
  exact bodyPost_ret (v := .agg #[.int .i64 z, .int .i64 room, (.slice a1 its.length c1), (.slice b1 ts.length d1)]) (by simp [results, Tryz.results36, go_sem, ZZ.out.cell]) rfl (spoilP_of (its := its) (ts := ts) HE.out.small HSO.out (by omega) HRD.out HGR.out)
 ·obtain ⟨y0, y1, y2, y3⟩ : w2.cell? ⟨w.heap.size, 0, none⟩ = some (.int .i64 wd) ∧ w2.cell? ⟨w.heap.size, 1, none⟩ = some (.int .i64 room) ∧ w2.cell? ⟨w.heap.size, 2, none⟩ = some (.slice ai its.length ci) ∧ w2.cell? ⟨w.heap.size, 3, none⟩ = some (.slice ap ts.length cp) := ⟨HS.out.arg.cell 0, HS.out.arg.cell 1, HS.out.arg.cell 2, HS.out.arg.cell 3⟩
  have HBY := hid (l4Bytes_any wd room (.slice ai its.length ci) (.slice ap ts.length cp) its w2 (HO.out.kept HS.out.grown hB).rdi ⟨_, _, _, rfl⟩ hli (fun i hi => (HV.out.each i hi).1.2))
  have hti := HV.out.fits
  have htr := HV.out.room1
  go_wp2_with fail
  refine HBY.out.mono ?_
  rintro e w3 ⟨rfl, hb3⟩
  have HRA := hid ((HS.out.below hb3).alloc (.cells #[.int .i64 (-1), .int .i64 ((totI its : Int) - 1), .int .i64 60001] 3))
  have hw3 := (HS.out.below hb3).rd.lt
  have hwr : IntKind.i64.wrap ((totI its : Int) - 1) = (totI its : Int) - 1 := by rw [IntKind.wrap_i64]; omega
  clear hb3 HBY y0 y1 y2 y3
  go_wp2_with fail
  refine (pick_any rb a nn cap bs (p + 1) 3 _ HRA.out.rd (by omega) (by omega) (by omega)).mono ?_
  rintro e w4 ⟨y, rfl, hy, hr4, hg4⟩
  obtain ⟨z, hz, _⟩ := three_among w3 w4 (-1) ((totI its : Int) - 1) 60001 hg4 hw3 (show y < 3 by omega)
  have HT := hid (HRA.out.pick hg4 hr4)
  have x0 : w4.cell? ⟨ob, 1, none⟩ = some (.int .i64 room) := HT.out.box.blk.cell 1
  have f0 := HT.out.box.fz 1
  have HE := hid (HT.out.setRoom z)
  clear hr4 hg4 HRA HT hwr hti
  go_upto_region 33 with fail
  obtain ⟨W, hW⟩ : ∃ x, x = w4.setCell ⟨ob, 1, none⟩ (.int .i64 z) := ⟨_, rfl⟩
  rw [← hW] at HE ⊢
  clear hW x0 f0 hz
  obtain ⟨y0, y1, y2, y3⟩ := HE.out.box.cells
  have s9 := HE.out.res.store4 (.int .i64 wd) (.int .i64 z) (.slice a1 its.length c1) (.slice b1 ts.length d1)
  have s0 := s9.a0; have s1 := s9.a1; have s2 := s9.a2; have s3 := s9.a3
  have k0 := s9.f0; have k1 := s9.f1; have k2 := s9.f2; have k3 := s9.f3
  have ZZ := hid s9.z
  have HG := hid (grown_set4 W (w.heap.size + 1) (.int .i64 wd) (.int .i64 z) (.slice a1 its.length c1) (.slice b1 ts.length d1))
  have HSO := hid (own_other HE.out.box.own HE.out.res HG.out)
  have HRD := hid (HE.out.rd.keep ((grown_below HG.out HE.out.res.lt).mono (by omega)))
  have HGR := hid (grownBy_trans HE.out.grown HG.out (fun g e => .inr (by cases e; omega)))
  clear s9 HG
  go_wp2
  exact bodyPost_ret (v := .agg #[.int .i64 wd, .int .i64 z, (.slice a1 its.length c1), (.slice b1 ts.length d1)]) (by simp [results, Tryz.results36, go_sem, ZZ.out.cell]) rfl (spoilP_of (its := its) (ts := ts) HE.out.small HSO.out (by omega) HRD.out HGR.out)
 ·obtain ⟨w3, hw3⟩ : ∃ x, x = w2.drew := ⟨_, rfl⟩
  have HS3 : Hid (SpEnd w rb a nn cap bs #[.int .i64 wd, .int .i64 room, .slice ai its.length ci, .slice ap ts.length cp] (p + 1) ob w3 wd room (.slice a1 its.length c1) (.slice b1 ts.length d1) its ts) := hid (by rw [hw3]; exact HS.out.drew)
  have hS3 : w3.cell? ⟨ob, 2, none⟩ = some (.slice a1 its.length c1) := HS3.out.box.blk.cell 2
  clear HS
  go_upto_region 18 with fail
  refine wp_region_last 15 (S := fun w' => w'.cell? ⟨ob, 2, none⟩ = some (.slice a1 its.length c1)) (by kernel_rfl) ?_
  change wpAnyC _ _ _ _ _ _ _ _ _ (World.drew _)
  rw [← hw3]
  clear hw3 hw2
  refine tkL 0 (.pointer (some ⟨ob, 2, none⟩)) rfl hS3 ?_
  refine tkL 1 (.slice a1 its.length c1) rfl hS3 ?_
  refine tkL 2 (.pointer (some ⟨rb, 0, none⟩)) rfl hS3 ?_
  refine tkL 7 (.pointer (some ⟨rb, 0, none⟩)) rfl hS3 ?_
  refine last_one 3 (by kernel_rfl) (op_calls (f := 15) (args := #[.pointer (some ⟨rb, 0, none⟩), .int .i64 2]) rfl rfl (by go_simp) (pick_any rb a nn cap bs (p + 1) 2 w3 HS3.out.rd (by omega) (by omega) (by omega)) ?_)
  rintro e w4 ⟨y, rfl, hy, hr4, hg4⟩
  have HS4 := hid (HS3.out.pick hg4 hr4)
  have hS4 : w4.cell? ⟨ob, 2, none⟩ = some (.slice a1 its.length c1) := HS4.out.box.blk.cell 2
  clear hr4 hg4 HS3 hS3
  refine ⟨_, rfl, fun _ => hS4, ?_⟩
  obtain ⟨m, hm⟩ : ∃ m : Nat, m = 7000 + y := ⟨_, rfl⟩
  have hwm : IntKind.i64.wrap (7000 + (y : Int)) = (m : Int) := by rw [IntKind.wrap_i64]; omega
  have hm1 : m ≤ 7001 := by omega
  refine tkL 4 (.int .i64 (m : Nat)) rfl hS4 ?_
  refine last_one 5 (by kernel_rfl) (op_calls (f := 16) (args := #[.string ⟨#[98]⟩, .int .i64 (m : Nat)]) rfl rfl (by go_simp) (l1Many_one 98 m w4 hm1) ?_)
  rintro e w5 ⟨t, rfl, ht, _, rfl⟩
  have hts : t.size ≤ 7001 := by omega
  refine ⟨_, rfl, fun _ => hS4, ?_⟩
  clear hwm hm hm1 hy ht
  refine last_two 6 8 (by kernel_rfl) ?A ?B
  case A =>
   have HS6 := hid (HS4.out.alloc (.cells #[.string ⟨#[]⟩, .string ⟨#[122, 122]⟩, .string t] 9))
   have hS6 : (w5.alloc (.cells #[.string ⟨#[]⟩, .string ⟨#[122, 122]⟩, .string t] 9)).cell? ⟨ob, 2, none⟩ = some (.slice a1 its.length c1) := HS6.out.box.blk.cell 2
   refine op_value (v := .slice (some ⟨w5.heap.size, 0, none⟩) 3 3) (w' := w5.alloc (.cells #[.string ⟨#[]⟩, .string ⟨#[122, 122]⟩, .string t] 9)) rfl rfl (by go_simp) ⟨fun _ => hS6, ?_⟩
   refine last_one 8 (by kernel_rfl) (op_calls (f := 15) (args := #[.pointer (some ⟨rb, 0, none⟩), .int .i64 3]) rfl rfl (by go_simp) (pick_any rb a nn cap bs (p + 1 + 1) 3 _ HS6.out.rd (by omega) (by omega) (by omega)) ?_)
   rintro e w7 ⟨y, rfl, hy, hr7, hg7⟩
   have HS7 := hid (HS6.out.pick hg7 hr7)
   obtain ⟨u, hu, hus⟩ := text_among w5 w7 ⟨#[]⟩ ⟨#[122, 122]⟩ t hg7 HS4.out.rd.lt (show y < 3 by omega)
   have hS7 : w7.cell? ⟨ob, 2, none⟩ = some (.slice a1 its.length c1) := HS7.out.box.blk.cell 2
   have hql : w5.heap.size < w7.heap.size := by have := hg7.size; rw [World.size_alloc] at this; omega
   refine ⟨_, rfl, fun _ => hS7, ?_⟩
   generalize w5.heap.size = sb at *
   clear hr7 hg7 HS6 hS6 HS4 hS4
   have huz : u.size ≤ 7001 := by rcases hus with rfl | rfl | rfl <;> first | exact hts | decide
   refine last_one 9 (by kernel_rfl) (op_value (v := .pointer (some ⟨sb, y, none⟩)) (w' := w7) rfl rfl (by first | (go_simp; done) | (go_simp; omega)) ⟨fun _ => hS7, ?_⟩)
   refine last_one 10 (by kernel_rfl) (op_value (v := .string u) (w' := w7) rfl rfl (by go_simp) ⟨fun _ => hS7, ?_⟩)
   refine last_one 11 (by kernel_rfl) (op_value (v := .agg #[.string u, .int .i64 0]) (w' := w7) rfl rfl (by go_simp) ⟨fun _ => hS7, ?_⟩)
   have HS8 := hid (HS7.out.alloc (.cells #[.string u, .int .i64 0] 59))
   have hS8 : (w7.alloc (.cells #[.string u, .int .i64 0] 59)).cell? ⟨ob, 2, none⟩ = some (.slice a1 its.length c1) := HS8.out.box.blk.cell 2
   have HN8 := hid (Blk.new w7 59 #[.string u, .int .i64 0])
   refine last_one 12 (by kernel_rfl) (op_value (v := .slice (some ⟨w7.heap.size, 0, none⟩) 1 1) (w' := w7.alloc (.cells #[.string u, .int .i64 0] 59)) rfl rfl (by go_simp) ⟨fun _ => hS8, ?_⟩)
   clear hS7 HS7 hu
   generalize w7.alloc (.cells #[.string u, .int .i64 0] 59) = w8 at *
   generalize w7.heap.size = ib at *
   refine last_one 13 (by kernel_rfl) (op_wp rfl rfl (wp_append_item (.tmp 64) (.tmp 75) rfl (w.heap.size + 2) (.slice a1 its.length c1) its.length (cellsI its) (by go_simp) HS8.out.box.own.items ib u 0 (by go_simp) HN8.out (by omega) (by have := HS8.out.res.lt; omega) ?_))
   intro v9 w9 ho9 hg9
   have ho9 := rowI_app ho9
   have hsm9 := HS8.out.small.item hli u 0 (by omega)
   obtain ⟨js, hjs⟩ : ∃ x, x = its ++ [(u, 0)] := ⟨_, rfl⟩
   rw [← hjs] at ho9 hsm9
   clear hjs
   obtain ⟨a9, c9, rfl⟩ := row_any ho9
   obtain ⟨_, _, _, B9, _⟩ := HS8.out.grow hg9 (fun g e => ⟨(HS8.out.box.own.items.lt g e).1, fun e2 => row_no_blk HS8.out.box.own.items HS8.out.box.blk (by decide) (e2 ▸ e)⟩)
   have hS9 : w9.cell? ⟨ob, 2, none⟩ = some (.slice a1 its.length c1) := B9.cell 2
   have f9 := B9.fz 2
   have HE := hid (HS8.out.items hg9 (fun g e => e) ho9 hsm9)
   refine ⟨fun _ => hS9, ?_⟩
   refine tkL 14 (.pointer (some ⟨ob, 2, none⟩)) rfl hS9 ?_
   refine last_one 15 (by kernel_rfl) (op_skip (w' := w9.setCell ⟨ob, 2, none⟩ (.slice a9 js.length c9)) rfl rfl (by go_simp) ⟨fun h => absurd rfl h, last_done (by kernel_rfl) ?_ _⟩)
   clear hS8 HN8 HS8 ho9 hg9 B9
   go_simp
   go_upto_region 33 with fail
   obtain ⟨W, hW⟩ : ∃ x, x = w9.setCell ⟨ob, 2, none⟩ (.slice a9 js.length c9) := ⟨_, rfl⟩
   rw [← hW] at HE ⊢
   clear hW hS9 f9
   obtain ⟨y0, y1, y2, y3⟩ := HE.out.box.cells
   have s9 := HE.out.res.store4 (.int .i64 wd) (.int .i64 room) (.slice a9 js.length c9) (.slice b1 ts.length d1)
   have s0 := s9.a0; have s1 := s9.a1; have s2 := s9.a2; have s3 := s9.a3
   have k0 := s9.f0; have k1 := s9.f1; have k2 := s9.f2; have k3 := s9.f3
   have ZZ := hid s9.z
   have HG := hid (grown_set4 W (w.heap.size + 1) (.int .i64 wd) (.int .i64 room) (.slice a9 js.length c9) (.slice b1 ts.length d1))
   have HSO := hid (own_other HE.out.box.own HE.out.res HG.out)
   have HRD := hid (HE.out.rd.keep ((grown_below HG.out HE.out.res.lt).mono (by omega)))
   have HGR := hid (grownBy_trans HE.out.grown HG.out (fun g e => .inr (by cases e; omega)))
   clear s9 HG
   go_wp2
   exact bodyPost_ret (v := .agg #[.int .i64 wd, .int .i64 room, (.slice a9 js.length c9), (.slice b1 ts.length d1)]) (by simp [results, Tryz.results36, go_sem, ZZ.out.cell]) rfl (spoilP_of (its := js) (ts := ts) HE.out.small HSO.out (by omega) HRD.out HGR.out)
  case B =>
   refine op_calls (f := 15) (args := #[.pointer (some ⟨rb, 0, none⟩), .int .i64 3]) rfl rfl (by go_simp) (pick_any rb a nn cap bs (p + 1 + 1) 3 _ HS4.out.rd (by omega) (by omega) (by omega)) ?_
   rintro e w6 ⟨y, rfl, hy, hr6, hg6⟩
   have HS6 := hid (HS4.out.pick hg6 hr6)
   have hS6 : w6.cell? ⟨ob, 2, none⟩ = some (.slice a1 its.length c1) := HS6.out.box.blk.cell 2
   refine ⟨_, rfl, fun _ => hS6, ?_⟩
   have HS7 := hid (HS6.out.alloc (.cells #[.string ⟨#[]⟩, .string ⟨#[122, 122]⟩, .string t] 9))
   have hS7 : (w6.alloc (.cells #[.string ⟨#[]⟩, .string ⟨#[122, 122]⟩, .string t] 9)).cell? ⟨ob, 2, none⟩ = some (.slice a1 its.length c1) := HS7.out.box.blk.cell 2
   obtain ⟨u, hu, hus⟩ := text_new w6 ⟨#[]⟩ ⟨#[122, 122]⟩ t (show y < 3 by omega)
   have hql : w6.heap.size < (w6.alloc (.cells #[.string ⟨#[]⟩, .string ⟨#[122, 122]⟩, .string t] 9)).heap.size := by rw [World.size_alloc]; omega
   refine last_one 6 (by kernel_rfl) (op_value (v := .slice (some ⟨w6.heap.size, 0, none⟩) 3 3) (w' := w6.alloc (.cells #[.string ⟨#[]⟩, .string ⟨#[122, 122]⟩, .string t] 9)) rfl rfl (by go_simp) ⟨fun _ => hS7, ?_⟩)
   generalize hw7 : w6.alloc (.cells #[.string ⟨#[]⟩, .string ⟨#[122, 122]⟩, .string t] 9) = w7 at *
   generalize w6.heap.size = sb at *
   clear hw7 hr6 hg6 HS6 hS6 HS4 hS4
   have huz : u.size ≤ 7001 := by rcases hus with rfl | rfl | rfl <;> first | exact hts | decide
   refine last_one 9 (by kernel_rfl) (op_value (v := .pointer (some ⟨sb, y, none⟩)) (w' := w7) rfl rfl (by first | (go_simp; done) | (go_simp; omega)) ⟨fun _ => hS7, ?_⟩)
   refine last_one 10 (by kernel_rfl) (op_value (v := .string u) (w' := w7) rfl rfl (by go_simp) ⟨fun _ => hS7, ?_⟩)
   refine last_one 11 (by kernel_rfl) (op_value (v := .agg #[.string u, .int .i64 0]) (w' := w7) rfl rfl (by go_simp) ⟨fun _ => hS7, ?_⟩)
   have HS8 := hid (HS7.out.alloc (.cells #[.string u, .int .i64 0] 59))
   have hS8 : (w7.alloc (.cells #[.string u, .int .i64 0] 59)).cell? ⟨ob, 2, none⟩ = some (.slice a1 its.length c1) := HS8.out.box.blk.cell 2
   have HN8 := hid (Blk.new w7 59 #[.string u, .int .i64 0])
   refine last_one 12 (by kernel_rfl) (op_value (v := .slice (some ⟨w7.heap.size, 0, none⟩) 1 1) (w' := w7.alloc (.cells #[.string u, .int .i64 0] 59)) rfl rfl (by go_simp) ⟨fun _ => hS8, ?_⟩)
   clear hS7 HS7 hu
   generalize w7.alloc (.cells #[.string u, .int .i64 0] 59) = w8 at *
   generalize w7.heap.size = ib at *
   refine last_one 13 (by kernel_rfl) (op_wp rfl rfl (wp_append_item (.tmp 64) (.tmp 75) rfl (w.heap.size + 2) (.slice a1 its.length c1) its.length (cellsI its) (by go_simp) HS8.out.box.own.items ib u 0 (by go_simp) HN8.out (by omega) (by have := HS8.out.res.lt; omega) ?_))
   intro v9 w9 ho9 hg9
   have ho9 := rowI_app ho9
   have hsm9 := HS8.out.small.item hli u 0 (by omega)
   obtain ⟨js, hjs⟩ : ∃ x, x = its ++ [(u, 0)] := ⟨_, rfl⟩
   rw [← hjs] at ho9 hsm9
   clear hjs
   obtain ⟨a9, c9, rfl⟩ := row_any ho9
   obtain ⟨_, _, _, B9, _⟩ := HS8.out.grow hg9 (fun g e => ⟨(HS8.out.box.own.items.lt g e).1, fun e2 => row_no_blk HS8.out.box.own.items HS8.out.box.blk (by decide) (e2 ▸ e)⟩)
   have hS9 : w9.cell? ⟨ob, 2, none⟩ = some (.slice a1 its.length c1) := B9.cell 2
   have f9 := B9.fz 2
   have HE := hid (HS8.out.items hg9 (fun g e => e) ho9 hsm9)
   refine ⟨fun _ => hS9, ?_⟩
   refine tkL 14 (.pointer (some ⟨ob, 2, none⟩)) rfl hS9 ?_
   refine last_one 15 (by kernel_rfl) (op_skip (w' := w9.setCell ⟨ob, 2, none⟩ (.slice a9 js.length c9)) rfl rfl (by go_simp) ⟨fun h => absurd rfl h, last_done (by kernel_rfl) ?_ _⟩)
   clear hS8 HN8 HS8 ho9 hg9 B9
   go_simp
   go_upto_region 33 with fail
   obtain ⟨W, hW⟩ : ∃ x, x = w9.setCell ⟨ob, 2, none⟩ (.slice a9 js.length c9) := ⟨_, rfl⟩
   rw [← hW] at HE ⊢
   clear hW hS9 f9
   obtain ⟨y0, y1, y2, y3⟩ := HE.out.box.cells
   have s9 := HE.out.res.store4 (.int .i64 wd) (.int .i64 room) (.slice a9 js.length c9) (.slice b1 ts.length d1)
   have s0 := s9.a0; have s1 := s9.a1; have s2 := s9.a2; have s3 := s9.a3
   have k0 := s9.f0; have k1 := s9.f1; have k2 := s9.f2; have k3 := s9.f3
   have ZZ := hid s9.z
   have HG := hid (grown_set4 W (w.heap.size + 1) (.int .i64 wd) (.int .i64 room) (.slice a9 js.length c9) (.slice b1 ts.length d1))
   have HSO := hid (own_other HE.out.box.own HE.out.res HG.out)
   have HRD := hid (HE.out.rd.keep ((grown_below HG.out HE.out.res.lt).mono (by omega)))
   have HGR := hid (grownBy_trans HE.out.grown HG.out (fun g e => .inr (by cases e; omega)))
   clear s9 HG
   go_wp2
   exact bodyPost_ret (v := .agg #[.int .i64 wd, .int .i64 room, (.slice a9 js.length c9), (.slice b1 ts.length d1)]) (by simp [results, Tryz.results36, go_sem, ZZ.out.cell]) rfl (spoilP_of (its := js) (ts := ts) HE.out.small HSO.out (by omega) HRD.out HGR.out)
 ·by_cases h0 : 0 < its.length
  case neg =>
   have x2 : w2.cell? ⟨ob, 2, none⟩ = some (.slice a1 its.length c1) := HS.out.box.blk.cell 2
   have h0i : ¬ (0 : Int) < ((its.length : Nat) : Int) := by omega
   have HE := HS
   go_upto_region 33 with fail
   obtain ⟨W, hW⟩ : ∃ x, x = w2 := ⟨_, rfl⟩
   rw [← hW] at HE ⊢
   clear hW x2
   obtain ⟨y0, y1, y2, y3⟩ := HE.out.box.cells
   have s9 := HE.out.res.store4 (.int .i64 wd) (.int .i64 room) (.slice a1 its.length c1) (.slice b1 ts.length d1)
   have s0 := s9.a0; have s1 := s9.a1; have s2 := s9.a2; have s3 := s9.a3
   have k0 := s9.f0; have k1 := s9.f1; have k2 := s9.f2; have k3 := s9.f3
   have ZZ := hid s9.z
   have HG := hid (grown_set4 W (w.heap.size + 1) (.int .i64 wd) (.int .i64 room) (.slice a1 its.length c1) (.slice b1 ts.length d1))
   have HSO := hid (own_other HE.out.box.own HE.out.res HG.out)
   have HRD := hid (HE.out.rd.keep ((grown_below HG.out HE.out.res.lt).mono (by omega)))
   have HGR := hid (grownBy_trans HE.out.grown HG.out (fun g e => .inr (by cases e; omega)))
   clear s9 HG
   go_wp2
   exact bodyPost_ret (v := .agg #[.int .i64 wd, .int .i64 room, (.slice a1 its.length c1), (.slice b1 ts.length d1)]) (by simp [results, Tryz.results36, go_sem, ZZ.out.cell]) rfl (spoilP_of (its := its) (ts := ts) HE.out.small HSO.out (by omega) HRD.out HGR.out)
  have h0i : (0 : Int) < ((its.length : Nat) : Int) := by omega
  obtain ⟨g, cg, eg, hgg, hgl⟩ := World.ownsRow.form HS.out.box.own.items h0
  obtain ⟨rfl, _, rfl⟩ : a1 = some ⟨g, 0, none⟩ ∧ its.length = its.length ∧ c1 = cg := Value.slice.inj eg
  clear eg
  have x2 : w2.cell? ⟨ob, 2, none⟩ = some (.slice (some ⟨g, 0, none⟩) its.length c1) := HS.out.box.blk.cell 2
  obtain ⟨w3, hw3⟩ : ∃ x, x = w2.drew := ⟨_, rfl⟩
  have HS3 : Hid (SpEnd w rb a nn cap bs #[.int .i64 wd, .int .i64 room, .slice ai its.length ci, .slice ap ts.length cp] (p + 1) ob w3 wd room (.slice (some ⟨g, 0, none⟩) its.length c1) (.slice b1 ts.length d1) its ts) := hid (by rw [hw3]; exact HS.out.drew)
  have hS3 : w3.cell? ⟨ob, 2, none⟩ = some (.slice (some ⟨g, 0, none⟩) its.length c1) := HS3.out.box.blk.cell 2
  clear HS
  go_upto_region 21 with fail
  clear x2
  refine wp_region_held (S := fun w' => w'.cell? ⟨ob, 2, none⟩ = some (.slice (some ⟨g, 0, none⟩) its.length c1)) (by kernel_rfl) ?_
  change wpAnyH _ _ _ _ _ _ _ _ (World.drew _)
  rw [← hw3]
  clear hw3 hw2 hgg hgl
  refine tkA 0 (.pointer (some ⟨ob, 2, none⟩)) rfl hS3 ?_
  refine tkA 1 (.slice (some ⟨g, 0, none⟩) its.length c1) rfl hS3 ?_
  refine tkA 3 (.pointer (some ⟨rb, 0, none⟩)) rfl hS3 ?_
  refine held_two 2 4 (by kernel_rfl) ?A ?B
  case A =>
   have HS6 := hid (HS3.out.alloc (.cells #[.int .i64 (-1), .int .i64 1000000, .int .i64 1000001] 3))
   have hS6 : (w3.alloc (.cells #[.int .i64 (-1), .int .i64 1000000, .int .i64 1000001] 3)).cell? ⟨ob, 2, none⟩ = some (.slice (some ⟨g, 0, none⟩) its.length c1) := HS6.out.box.blk.cell 2
   refine op_value (v := .slice (some ⟨w3.heap.size, 0, none⟩) 3 3) (w' := w3.alloc (.cells #[.int .i64 (-1), .int .i64 1000000, .int .i64 1000001] 3)) rfl rfl (by go_simp) ⟨hS6, ?_⟩
   refine held_one 4 (by kernel_rfl) (op_calls (f := 15) (args := #[.pointer (some ⟨rb, 0, none⟩), .int .i64 3]) rfl rfl (by go_simp) (pick_any rb a nn cap bs (p + 1) 3 _ HS6.out.rd (by omega) (by omega) (by omega)) ?_)
   rintro e w7 ⟨y, rfl, hy, hr7, hg7⟩
   have HS7 := hid (HS6.out.pick hg7 hr7)
   obtain ⟨z, hz, _⟩ := three_among w3 w7 (-1) 1000000 1000001 hg7 HS3.out.rd.lt (show y < 3 by omega)
   have hS7 : w7.cell? ⟨ob, 2, none⟩ = some (.slice (some ⟨g, 0, none⟩) its.length c1) := HS7.out.box.blk.cell 2
   refine ⟨_, rfl, hS7, ?_⟩
   generalize w3.heap.size = sb at *
   clear hr7 hg7 HS6 hS6 HS3 hS3
   refine held_one 5 (by kernel_rfl) (op_value (v := .pointer (some ⟨sb, y, none⟩)) (w' := w7) rfl rfl (by first | (go_simp; done) | (go_simp; omega)) ⟨hS7, ?_⟩)
   refine held_one 6 (by kernel_rfl) (op_value (v := .int .i64 z) (w' := w7) rfl rfl (by go_simp) ⟨hS7, ?_⟩)
   refine tkA 7 (.pointer (some ⟨g, 0, none⟩)) rfl hS7 ?_
   refine tkA 8 (.pointer (some ⟨g, 1, none⟩)) rfl hS7 ?_
   have R7 := HS7.out.box.own.items
   obtain ⟨hg2, hgl⟩ := R7.lt g rfl
   have x1 : w7.cell? ⟨g, 1, none⟩ = some (.int .i64 (itu its 0)) := (R7.cellAt 1 (by omega)).trans (cellsI_at its 0 h0).2
   have f1 := R7.frozenAt 1
   have R8 := row_setI R7 0 h0 z
   have G8 := grownBy_setCellAt w7 g 1 (.int .i64 z)
   have hgo : g ≠ ob := fun e => row_no_blk R7 HS7.out.box.blk (by decide) (e ▸ rfl)
   have P8 : (w7.setCell ⟨g, 1, none⟩ (.int .i64 z)).ownsRow (w.heap.size + 2) 9 1 (.slice b1 ts.length d1) ts.length (ts.map Value.string) := HS7.out.box.own.pins.kept G8 (.inr fun e => HS7.out.box.own.apart g rfl e)
   have HE0 := HS7.out.row (its' := its.set 0 (itx its 0, z)) (ts' := ts) G8 (by omega) hgo ⟨by first | exact R8 | (simpa using R8), P8, HS7.out.box.own.apart⟩ (HS7.out.small.set 0 _ z (HS7.out.small.si 0)) hgl
   have HE := hid HE0
   have hS8 : (w7.setCell ⟨g, 1, none⟩ (.int .i64 z)).cell? ⟨ob, 2, none⟩ = some (.slice (some ⟨g, 0, none⟩) its.length c1) := HE0.box.blk.cell 2
   refine held_one 9 (by kernel_rfl) (op_skip (w' := w7.setCell ⟨g, 1, none⟩ (.int .i64 z)) rfl rfl (by go_simp) ⟨hS8, ?_⟩)
   refine wpAnyH_done (by kernel_rfl) ?_ _
   clear hS7 HS7 hz R7 R8 G8 P8 HE0 hS8 hg2 hgl
   go_simp
   go_upto_region 33 with fail
   obtain ⟨W, hW⟩ : ∃ x, x = w7.setCell ⟨g, 1, none⟩ (.int .i64 z) := ⟨_, rfl⟩
   rw [← hW] at HE ⊢
   clear hW x1 f1
   obtain ⟨y0, y1, y2, y3⟩ := HE.out.box.cells
   have s9 := HE.out.res.store4 (.int .i64 wd) (.int .i64 room) (.slice (some ⟨g, 0, none⟩) its.length c1) (.slice b1 ts.length d1)
   have s0 := s9.a0; have s1 := s9.a1; have s2 := s9.a2; have s3 := s9.a3
   have k0 := s9.f0; have k1 := s9.f1; have k2 := s9.f2; have k3 := s9.f3
   have ZZ := hid s9.z
   have HG := hid (grown_set4 W (w.heap.size + 1) (.int .i64 wd) (.int .i64 room) (.slice (some ⟨g, 0, none⟩) its.length c1) (.slice b1 ts.length d1))
   have HSO := hid (own_other HE.out.box.own HE.out.res HG.out)
   have HRD := hid (HE.out.rd.keep ((grown_below HG.out HE.out.res.lt).mono (by omega)))
   have HGR := hid (grownBy_trans HE.out.grown HG.out (fun g e => .inr (by cases e; omega)))
   clear s9 HG
   go_wp2
   exact bodyPost_ret (v := .agg #[.int .i64 wd, .int .i64 room, (.slice (some ⟨g, 0, none⟩) its.length c1), (.slice b1 ts.length d1)]) (by simp [results, Tryz.results36, go_sem, ZZ.out.cell]) rfl (spoilP_of (its := (its.set 0 (itx its 0, z))) (ts := ts) HE.out.small HSO.out (by omega) HRD.out HGR.out)
  case B =>
   refine op_calls (f := 15) (args := #[.pointer (some ⟨rb, 0, none⟩), .int .i64 3]) rfl rfl (by go_simp) (pick_any rb a nn cap bs (p + 1) 3 _ HS3.out.rd (by omega) (by omega) (by omega)) ?_
   rintro e w6 ⟨y, rfl, hy, hr6, hg6⟩
   have HS6 := hid (HS3.out.pick hg6 hr6)
   have hS6 : w6.cell? ⟨ob, 2, none⟩ = some (.slice (some ⟨g, 0, none⟩) its.length c1) := HS6.out.box.blk.cell 2
   refine ⟨_, rfl, hS6, ?_⟩
   have HS7 := hid (HS6.out.alloc (.cells #[.int .i64 (-1), .int .i64 1000000, .int .i64 1000001] 3))
   have hS7 : (w6.alloc (.cells #[.int .i64 (-1), .int .i64 1000000, .int .i64 1000001] 3)).cell? ⟨ob, 2, none⟩ = some (.slice (some ⟨g, 0, none⟩) its.length c1) := HS7.out.box.blk.cell 2
   obtain ⟨z, hz⟩ := three_new w6 (-1) 1000000 1000001 (show y < 3 by omega)
   refine held_one 2 (by kernel_rfl) (op_value (v := .slice (some ⟨w6.heap.size, 0, none⟩) 3 3) (w' := w6.alloc (.cells #[.int .i64 (-1), .int .i64 1000000, .int .i64 1000001] 3)) rfl rfl (by go_simp) ⟨hS7, ?_⟩)
   generalize hw7 : w6.alloc (.cells #[.int .i64 (-1), .int .i64 1000000, .int .i64 1000001] 3) = w7 at *
   generalize w6.heap.size = sb at *
   clear hw7 hr6 hg6 HS6 hS6 HS3 hS3
   refine held_one 5 (by kernel_rfl) (op_value (v := .pointer (some ⟨sb, y, none⟩)) (w' := w7) rfl rfl (by first | (go_simp; done) | (go_simp; omega)) ⟨hS7, ?_⟩)
   refine held_one 6 (by kernel_rfl) (op_value (v := .int .i64 z) (w' := w7) rfl rfl (by go_simp) ⟨hS7, ?_⟩)
   refine tkA 7 (.pointer (some ⟨g, 0, none⟩)) rfl hS7 ?_
   refine tkA 8 (.pointer (some ⟨g, 1, none⟩)) rfl hS7 ?_
   have R7 := HS7.out.box.own.items
   obtain ⟨hg2, hgl⟩ := R7.lt g rfl
   have x1 : w7.cell? ⟨g, 1, none⟩ = some (.int .i64 (itu its 0)) := (R7.cellAt 1 (by omega)).trans (cellsI_at its 0 h0).2
   have f1 := R7.frozenAt 1
   have R8 := row_setI R7 0 h0 z
   have G8 := grownBy_setCellAt w7 g 1 (.int .i64 z)
   have hgo : g ≠ ob := fun e => row_no_blk R7 HS7.out.box.blk (by decide) (e ▸ rfl)
   have P8 : (w7.setCell ⟨g, 1, none⟩ (.int .i64 z)).ownsRow (w.heap.size + 2) 9 1 (.slice b1 ts.length d1) ts.length (ts.map Value.string) := HS7.out.box.own.pins.kept G8 (.inr fun e => HS7.out.box.own.apart g rfl e)
   have HE0 := HS7.out.row (its' := its.set 0 (itx its 0, z)) (ts' := ts) G8 (by omega) hgo ⟨by first | exact R8 | (simpa using R8), P8, HS7.out.box.own.apart⟩ (HS7.out.small.set 0 _ z (HS7.out.small.si 0)) hgl
   have HE := hid HE0
   have hS8 : (w7.setCell ⟨g, 1, none⟩ (.int .i64 z)).cell? ⟨ob, 2, none⟩ = some (.slice (some ⟨g, 0, none⟩) its.length c1) := HE0.box.blk.cell 2
   refine held_one 9 (by kernel_rfl) (op_skip (w' := w7.setCell ⟨g, 1, none⟩ (.int .i64 z)) rfl rfl (by go_simp) ⟨hS8, ?_⟩)
   refine wpAnyH_done (by kernel_rfl) ?_ _
   clear hS7 HS7 hz R7 R8 G8 P8 HE0 hS8 hg2 hgl
   go_simp
   go_upto_region 33 with fail
   obtain ⟨W, hW⟩ : ∃ x, x = w7.setCell ⟨g, 1, none⟩ (.int .i64 z) := ⟨_, rfl⟩
   rw [← hW] at HE ⊢
   clear hW x1 f1
   obtain ⟨y0, y1, y2, y3⟩ := HE.out.box.cells
   have s9 := HE.out.res.store4 (.int .i64 wd) (.int .i64 room) (.slice (some ⟨g, 0, none⟩) its.length c1) (.slice b1 ts.length d1)
   have s0 := s9.a0; have s1 := s9.a1; have s2 := s9.a2; have s3 := s9.a3
   have k0 := s9.f0; have k1 := s9.f1; have k2 := s9.f2; have k3 := s9.f3
   have ZZ := hid s9.z
   have HG := hid (grown_set4 W (w.heap.size + 1) (.int .i64 wd) (.int .i64 room) (.slice (some ⟨g, 0, none⟩) its.length c1) (.slice b1 ts.length d1))
   have HSO := hid (own_other HE.out.box.own HE.out.res HG.out)
   have HRD := hid (HE.out.rd.keep ((grown_below HG.out HE.out.res.lt).mono (by omega)))
   have HGR := hid (grownBy_trans HE.out.grown HG.out (fun g e => .inr (by cases e; omega)))
   clear s9 HG
   go_wp2
   exact bodyPost_ret (v := .agg #[.int .i64 wd, .int .i64 room, (.slice (some ⟨g, 0, none⟩) its.length c1), (.slice b1 ts.length d1)]) (by simp [results, Tryz.results36, go_sem, ZZ.out.cell]) rfl (spoilP_of (its := (its.set 0 (itx its 0, z))) (ts := ts) HE.out.small HSO.out (by omega) HRD.out HGR.out)
 ·by_cases h0 : 1 < its.length
  case neg =>
   have x2 : w2.cell? ⟨ob, 2, none⟩ = some (.slice a1 its.length c1) := HS.out.box.blk.cell 2
   have h0i : ¬ (1 : Int) < ((its.length : Nat) : Int) := by omega
   have HE := HS
   go_upto_region 33 with fail
   obtain ⟨W, hW⟩ : ∃ x, x = w2 := ⟨_, rfl⟩
   rw [← hW] at HE ⊢
   clear hW x2
   obtain ⟨y0, y1, y2, y3⟩ := HE.out.box.cells
   have s9 := HE.out.res.store4 (.int .i64 wd) (.int .i64 room) (.slice a1 its.length c1) (.slice b1 ts.length d1)
   have s0 := s9.a0; have s1 := s9.a1; have s2 := s9.a2; have s3 := s9.a3
   have k0 := s9.f0; have k1 := s9.f1; have k2 := s9.f2; have k3 := s9.f3
   have ZZ := hid s9.z
   have HG := hid (grown_set4 W (w.heap.size + 1) (.int .i64 wd) (.int .i64 room) (.slice a1 its.length c1) (.slice b1 ts.length d1))
   have HSO := hid (own_other HE.out.box.own HE.out.res HG.out)
   have HRD := hid (HE.out.rd.keep ((grown_below HG.out HE.out.res.lt).mono (by omega)))
   have HGR := hid (grownBy_trans HE.out.grown HG.out (fun g e => .inr (by cases e; omega)))
   clear s9 HG
   go_wp2
   exact bodyPost_ret (v := .agg #[.int .i64 wd, .int .i64 room, (.slice a1 its.length c1), (.slice b1 ts.length d1)]) (by simp [results, Tryz.results36, go_sem, ZZ.out.cell]) rfl (spoilP_of (its := its) (ts := ts) HE.out.small HSO.out (by omega) HRD.out HGR.out)
  have h0i : (1 : Int) < ((its.length : Nat) : Int) := by omega
  obtain ⟨g, cg, eg, hgg, hgl⟩ := World.ownsRow.form HS.out.box.own.items (by omega)
  obtain ⟨rfl, _, rfl⟩ : a1 = some ⟨g, 0, none⟩ ∧ its.length = its.length ∧ c1 = cg := Value.slice.inj eg
  clear eg
  have R2 := HS.out.box.own.items
  have x2 : w2.cell? ⟨ob, 2, none⟩ = some (.slice (some ⟨g, 0, none⟩) its.length c1) := HS.out.box.blk.cell 2
  have e0 : w2.cell? ⟨g, 0, none⟩ = some (.string (itx its 0)) := (R2.cellAt 0 (by omega)).trans (cellsI_at its 0 (by omega)).1
  have e1 : w2.cell? ⟨g, 1, none⟩ = some (.int .i64 (itu its 0)) := (R2.cellAt 1 (by omega)).trans (cellsI_at its 0 (by omega)).2
  have e2 : w2.cell? ⟨g, 2, none⟩ = some (.string (itx its 1)) := (R2.cellAt 2 (by omega)).trans (cellsI_at its 1 (by omega)).1
  have e3 : w2.cell? ⟨g, 3, none⟩ = some (.int .i64 (itu its 1)) := (R2.cellAt 3 (by omega)).trans (cellsI_at its 1 (by omega)).2
  have f0 := R2.frozenAt 0
  have f1 := R2.frozenAt 1
  have q0 := R2.stored 0 (.string (itx its 1))
  have e4 : (w2.setCell ⟨g, 0, none⟩ (.string (itx its 1))).cell? ⟨g, 1, none⟩ = some (.int .i64 (itu its 0)) := (q0.1.cellAt 1 (by omega)).trans ((List.getElem?_set_ne (by omega)).trans (cellsI_at its 0 (by omega)).2)
  have f4 := q0.1.frozenAt 1
  have q1 := q0.1.stored 1 (.int .i64 (itu its 1))
  have hcs := cellsI_set2 its 0 (itx its 1) (itu its 1) (by omega)
  have hgo : g ≠ ob := fun e => row_no_blk R2 HS.out.box.blk (by decide) (e ▸ rfl)
  obtain ⟨hg2, hgl2⟩ := R2.lt g rfl
  have G8 := grown_same q0.2 q1.2
  have P8 := HS.out.box.own.pins.kept G8 (.inr fun e => HS.out.box.own.apart g rfl e)
  have HE0 := HS.out.row (its' := its.set 0 (itx its 1, itu its 1)) (ts' := ts) G8 (by omega) hgo ⟨by rw [List.length_set, ← hcs]; exact q1.1, P8, HS.out.box.own.apart⟩ (HS.out.small.set 0 _ _ (HS.out.small.si 1)) hgl2
  have HE : Hid (SpEnd w rb a nn cap bs #[.int .i64 wd, .int .i64 room, .slice ai its.length ci, .slice ap ts.length cp] (p + 1) ob ((w2.setCell ⟨g, 0, none⟩ (.string (itx its 1))).setCell ⟨g, 1, none⟩ (.int .i64 (itu its 1))).drew wd room (.slice (some ⟨g, 0, none⟩) its.length c1) (.slice b1 ts.length d1) (its.set 0 (itx its 1, itu its 1)) ts) := hid HE0.drew
  clear q0 q1 R2 G8 P8 HE0 HS hgg hgl hg2 hgl2 hcs
  go_upto_region 24 with fail
  go_region
  go_upto_region 33 with fail
  obtain ⟨W, hW⟩ : ∃ x, x = ((w2.setCell ⟨g, 0, none⟩ (.string (itx its 1))).setCell ⟨g, 1, none⟩ (.int .i64 (itu its 1))).drew := ⟨_, rfl⟩
  rw [← hW] at HE ⊢
  clear hW x2 e0 e1 e2 e3 e4 f0 f1 f4
  obtain ⟨y0, y1, y2, y3⟩ := HE.out.box.cells
  have s9 := HE.out.res.store4 (.int .i64 wd) (.int .i64 room) (.slice (some ⟨g, 0, none⟩) its.length c1) (.slice b1 ts.length d1)
  have s0 := s9.a0; have s1 := s9.a1; have s2 := s9.a2; have s3 := s9.a3
  have k0 := s9.f0; have k1 := s9.f1; have k2 := s9.f2; have k3 := s9.f3
  have ZZ := hid s9.z
  have HG := hid (grown_set4 W (w.heap.size + 1) (.int .i64 wd) (.int .i64 room) (.slice (some ⟨g, 0, none⟩) its.length c1) (.slice b1 ts.length d1))
  have HSO := hid (own_other HE.out.box.own HE.out.res HG.out)
  have HRD := hid (HE.out.rd.keep ((grown_below HG.out HE.out.res.lt).mono (by omega)))
  have HGR := hid (grownBy_trans HE.out.grown HG.out (fun g e => .inr (by cases e; omega)))
  clear s9 HG
  go_wp2
  exact bodyPost_ret (v := .agg #[.int .i64 wd, .int .i64 room, (.slice (some ⟨g, 0, none⟩) its.length c1), (.slice b1 ts.length d1)]) (by simp [results, Tryz.results36, go_sem, ZZ.out.cell]) rfl (spoilP_of (its := (its.set 0 (itx its 1, itu its 1))) (ts := ts) HE.out.small HSO.out (by omega) HRD.out HGR.out)
 ·obtain ⟨n, hn, hn8⟩ : ∃ n : Nat, wd = (n : Int) ∧ n ≤ 8 := ⟨wd.toNat, by simp [isW] at hwd; omega, by simp [isW] at hwd; omega⟩
  have HNW := hid hn
  clear hn
  obtain ⟨w3, hw3⟩ : ∃ x, x = w2.drew := ⟨_, rfl⟩
  have HS3 : Hid (SpEnd w rb a nn cap bs #[.int .i64 wd, .int .i64 room, .slice ai its.length ci, .slice ap ts.length cp] (p + 1) ob w3 wd room (.slice a1 its.length c1) (.slice b1 ts.length d1) its ts) := hid (by rw [hw3]; exact HS.out.drew)
  have hS3 : w3.cell? ⟨ob, 3, none⟩ = some (.slice b1 ts.length d1) ∧ w3.cell? ⟨w.heap.size, 0, none⟩ = some (.int .i64 (n : Nat)) := ⟨HS3.out.box.blk.cell 3, by rw [← HNW.out]; exact HS3.out.arg.cell 0⟩
  clear HS
  go_upto_region 26 with fail
  refine wp_region_last 13 (S := fun w' => w'.cell? ⟨ob, 3, none⟩ = some (.slice b1 ts.length d1) ∧ w'.cell? ⟨w.heap.size, 0, none⟩ = some (.int .i64 (n : Nat))) (by kernel_rfl) ?_
  change wpAnyC _ _ _ _ _ _ _ _ _ (World.drew _)
  rw [← hw3]
  clear hw3 hw2
  refine tkL 0 (.pointer (some ⟨ob, 3, none⟩)) rfl hS3 ?_
  refine tkL 1 (.slice b1 ts.length d1) rfl hS3 ?_
  refine tkL 2 (.pointer (some ⟨w.heap.size, 0, none⟩)) rfl hS3 ?_
  refine tkL 3 (.int .i64 (n : Nat)) rfl hS3 ?_
  refine tkL 6 (.pointer (some ⟨rb, 0, none⟩)) rfl hS3 ?_
  refine last_one 4 (by kernel_rfl) (op_calls (f := 16) (args := #[.string ⟨#[255]⟩, .int .i64 (n : Nat)]) rfl rfl (by go_simp) (l1Many_one 255 n w3 (by omega)) ?_)
  rintro e w5 ⟨t, rfl, ht, _, rfl⟩
  have hts : t.size ≤ 7001 := by omega
  have HS4 := HS3
  have hS4 := hS3
  clear HS3 hS3
  refine ⟨_, rfl, fun _ => hS4, ?_⟩
  refine last_two 5 7 (by kernel_rfl) ?A ?B
  case A =>
   have HS6 := hid (HS4.out.alloc (.cells #[.string ⟨#[]⟩, .string ⟨#[122, 122]⟩, .string t] 9))
   have hS6 : (w5.alloc (.cells #[.string ⟨#[]⟩, .string ⟨#[122, 122]⟩, .string t] 9)).cell? ⟨ob, 3, none⟩ = some (.slice b1 ts.length d1) ∧ (w5.alloc (.cells #[.string ⟨#[]⟩, .string ⟨#[122, 122]⟩, .string t] 9)).cell? ⟨w.heap.size, 0, none⟩ = some (.int .i64 (n : Nat)) := ⟨HS6.out.box.blk.cell 3, by rw [← HNW.out]; exact HS6.out.arg.cell 0⟩
   refine op_value (v := .slice (some ⟨w5.heap.size, 0, none⟩) 3 3) (w' := w5.alloc (.cells #[.string ⟨#[]⟩, .string ⟨#[122, 122]⟩, .string t] 9)) rfl rfl (by go_simp) ⟨fun _ => hS6, ?_⟩
   refine last_one 7 (by kernel_rfl) (op_calls (f := 15) (args := #[.pointer (some ⟨rb, 0, none⟩), .int .i64 3]) rfl rfl (by go_simp) (pick_any rb a nn cap bs (p + 1) 3 _ HS6.out.rd (by omega) (by omega) (by omega)) ?_)
   rintro e w7 ⟨y, rfl, hy, hr7, hg7⟩
   have HS7 := hid (HS6.out.pick hg7 hr7)
   obtain ⟨u, hu, hus⟩ := text_among w5 w7 ⟨#[]⟩ ⟨#[122, 122]⟩ t hg7 HS4.out.rd.lt (show y < 3 by omega)
   have hS7 : w7.cell? ⟨ob, 3, none⟩ = some (.slice b1 ts.length d1) ∧ w7.cell? ⟨w.heap.size, 0, none⟩ = some (.int .i64 (n : Nat)) := ⟨HS7.out.box.blk.cell 3, by rw [← HNW.out]; exact HS7.out.arg.cell 0⟩
   refine ⟨_, rfl, fun _ => hS7, ?_⟩
   generalize w5.heap.size = sb at *
   clear hr7 hg7 HS6 hS6 HS4 hS4
   have huz : u.size ≤ 7001 := by rcases hus with rfl | rfl | rfl <;> first | exact hts | decide
   refine last_one 8 (by kernel_rfl) (op_value (v := .pointer (some ⟨sb, y, none⟩)) (w' := w7) rfl rfl (by first | (go_simp; done) | (go_simp; omega)) ⟨fun _ => hS7, ?_⟩)
   refine last_one 9 (by kernel_rfl) (op_value (v := .string u) (w' := w7) rfl rfl (by go_simp) ⟨fun _ => hS7, ?_⟩)
   have HS8 := hid (HS7.out.alloc (.cells #[.string u] 9))
   have hS8 : (w7.alloc (.cells #[.string u] 9)).cell? ⟨ob, 3, none⟩ = some (.slice b1 ts.length d1) ∧ (w7.alloc (.cells #[.string u] 9)).cell? ⟨w.heap.size, 0, none⟩ = some (.int .i64 (n : Nat)) := ⟨HS8.out.box.blk.cell 3, by rw [← HNW.out]; exact HS8.out.arg.cell 0⟩
   have HN8 := hid (cell_one_new w7 (.string u) 9)
   refine last_one 10 (by kernel_rfl) (op_value (v := .slice (some ⟨w7.heap.size, 0, none⟩) 1 1) (w' := w7.alloc (.cells #[.string u] 9)) rfl rfl (by go_simp) ⟨fun _ => hS8, ?_⟩)
   clear hS7 HS7 hu
   generalize w7.alloc (.cells #[.string u] 9) = w8 at *
   generalize w7.heap.size = ib at *
   refine last_one 11 (by kernel_rfl) (op_wp rfl rfl (wp_append_cells (.tmp 109) (.tmp 118) rfl (w.heap.size + 2) (.slice b1 ts.length d1) ts.length (ts.map Value.string) (by go_simp) HS8.out.box.own.pins ⟨ib, 0, none⟩ 1 1 [.string u] (by go_simp) rfl HN8.out (by simp [Value.oneCell']) (by omega) (by have := HS8.out.res.lt; omega) ?_))
   intro v9 w9 ho9 hb9 hg9
   have ho9 := rowT_app ho9
   have hsm9 := HS8.out.small.pin (by omega) u (by omega)
   obtain ⟨js, hjs⟩ : ∃ x, x = ts ++ [u] := ⟨_, rfl⟩
   rw [← hjs] at ho9 hsm9
   clear hjs
   obtain ⟨a9, c9, rfl⟩ := row_any ho9
   obtain ⟨_, A9, _, B9, _⟩ := HS8.out.grow hg9 (fun g e => ⟨(HS8.out.box.own.pins.lt g e).1, fun e2 => row_no_blk HS8.out.box.own.pins HS8.out.box.blk (by decide) (e2 ▸ e)⟩)
   have hS9 : w9.cell? ⟨ob, 3, none⟩ = some (.slice b1 ts.length d1) ∧ w9.cell? ⟨w.heap.size, 0, none⟩ = some (.int .i64 (n : Nat)) := ⟨B9.cell 3, by rw [← HNW.out]; exact A9.cell 0⟩
   have f9 := B9.fz 3
   have HE := hid (HS8.out.pins hg9 (fun g e => e) ho9 hsm9)
   refine ⟨fun _ => hS9, ?_⟩
   refine tkL 12 (.pointer (some ⟨ob, 3, none⟩)) rfl hS9 ?_
   obtain ⟨x9, _⟩ := hS9
   refine last_one 13 (by kernel_rfl) (op_skip (w' := w9.setCell ⟨ob, 3, none⟩ (.slice a9 js.length c9)) rfl rfl (by go_simp) ⟨fun h => absurd rfl h, last_done (by kernel_rfl) ?_ _⟩)
   clear hS8 HN8 HS8 ho9 hg9 B9 A9 hb9
   go_simp
   go_upto_region 33 with fail
   obtain ⟨W, hW⟩ : ∃ x, x = w9.setCell ⟨ob, 3, none⟩ (.slice a9 js.length c9) := ⟨_, rfl⟩
   rw [← hW] at HE ⊢
   clear hW x9 f9
   obtain ⟨y0, y1, y2, y3⟩ := HE.out.box.cells
   have s9 := HE.out.res.store4 (.int .i64 wd) (.int .i64 room) (.slice a1 its.length c1) (.slice a9 js.length c9)
   have s0 := s9.a0; have s1 := s9.a1; have s2 := s9.a2; have s3 := s9.a3
   have k0 := s9.f0; have k1 := s9.f1; have k2 := s9.f2; have k3 := s9.f3
   have ZZ := hid s9.z
   have HG := hid (grown_set4 W (w.heap.size + 1) (.int .i64 wd) (.int .i64 room) (.slice a1 its.length c1) (.slice a9 js.length c9))
   have HSO := hid (own_other HE.out.box.own HE.out.res HG.out)
   have HRD := hid (HE.out.rd.keep ((grown_below HG.out HE.out.res.lt).mono (by omega)))
   have HGR := hid (grownBy_trans HE.out.grown HG.out (fun g e => .inr (by cases e; omega)))
   clear s9 HG
   go_wp2
   exact bodyPost_ret (v := .agg #[.int .i64 wd, .int .i64 room, (.slice a1 its.length c1), (.slice a9 js.length c9)]) (by simp [results, Tryz.results36, go_sem, ZZ.out.cell]) rfl (spoilP_of (its := its) (ts := js) HE.out.small HSO.out (by omega) HRD.out HGR.out)
  case B =>
   refine op_calls (f := 15) (args := #[.pointer (some ⟨rb, 0, none⟩), .int .i64 3]) rfl rfl (by go_simp) (pick_any rb a nn cap bs (p + 1) 3 _ HS4.out.rd (by omega) (by omega) (by omega)) ?_
   rintro e w6 ⟨y, rfl, hy, hr6, hg6⟩
   have HS6 := hid (HS4.out.pick hg6 hr6)
   have hS6 : w6.cell? ⟨ob, 3, none⟩ = some (.slice b1 ts.length d1) ∧ w6.cell? ⟨w.heap.size, 0, none⟩ = some (.int .i64 (n : Nat)) := ⟨HS6.out.box.blk.cell 3, by rw [← HNW.out]; exact HS6.out.arg.cell 0⟩
   refine ⟨_, rfl, fun _ => hS6, ?_⟩
   have HS7 := hid (HS6.out.alloc (.cells #[.string ⟨#[]⟩, .string ⟨#[122, 122]⟩, .string t] 9))
   have hS7 : (w6.alloc (.cells #[.string ⟨#[]⟩, .string ⟨#[122, 122]⟩, .string t] 9)).cell? ⟨ob, 3, none⟩ = some (.slice b1 ts.length d1) ∧ (w6.alloc (.cells #[.string ⟨#[]⟩, .string ⟨#[122, 122]⟩, .string t] 9)).cell? ⟨w.heap.size, 0, none⟩ = some (.int .i64 (n : Nat)) := ⟨HS7.out.box.blk.cell 3, by rw [← HNW.out]; exact HS7.out.arg.cell 0⟩
   obtain ⟨u, hu, hus⟩ := text_new w6 ⟨#[]⟩ ⟨#[122, 122]⟩ t (show y < 3 by omega)
   refine last_one 5 (by kernel_rfl) (op_value (v := .slice (some ⟨w6.heap.size, 0, none⟩) 3 3) (w' := w6.alloc (.cells #[.string ⟨#[]⟩, .string ⟨#[122, 122]⟩, .string t] 9)) rfl rfl (by go_simp) ⟨fun _ => hS7, ?_⟩)
   generalize hw7 : w6.alloc (.cells #[.string ⟨#[]⟩, .string ⟨#[122, 122]⟩, .string t] 9) = w7 at *
   generalize w6.heap.size = sb at *
   clear hw7 hr6 hg6 HS6 hS6 HS4 hS4
   have huz : u.size ≤ 7001 := by rcases hus with rfl | rfl | rfl <;> first | exact hts | decide
   refine last_one 8 (by kernel_rfl) (op_value (v := .pointer (some ⟨sb, y, none⟩)) (w' := w7) rfl rfl (by first | (go_simp; done) | (go_simp; omega)) ⟨fun _ => hS7, ?_⟩)
   refine last_one 9 (by kernel_rfl) (op_value (v := .string u) (w' := w7) rfl rfl (by go_simp) ⟨fun _ => hS7, ?_⟩)
   have HS8 := hid (HS7.out.alloc (.cells #[.string u] 9))
   have hS8 : (w7.alloc (.cells #[.string u] 9)).cell? ⟨ob, 3, none⟩ = some (.slice b1 ts.length d1) ∧ (w7.alloc (.cells #[.string u] 9)).cell? ⟨w.heap.size, 0, none⟩ = some (.int .i64 (n : Nat)) := ⟨HS8.out.box.blk.cell 3, by rw [← HNW.out]; exact HS8.out.arg.cell 0⟩
   have HN8 := hid (cell_one_new w7 (.string u) 9)
   refine last_one 10 (by kernel_rfl) (op_value (v := .slice (some ⟨w7.heap.size, 0, none⟩) 1 1) (w' := w7.alloc (.cells #[.string u] 9)) rfl rfl (by go_simp) ⟨fun _ => hS8, ?_⟩)
   clear hS7 HS7 hu
   generalize w7.alloc (.cells #[.string u] 9) = w8 at *
   generalize w7.heap.size = ib at *
   refine last_one 11 (by kernel_rfl) (op_wp rfl rfl (wp_append_cells (.tmp 109) (.tmp 118) rfl (w.heap.size + 2) (.slice b1 ts.length d1) ts.length (ts.map Value.string) (by go_simp) HS8.out.box.own.pins ⟨ib, 0, none⟩ 1 1 [.string u] (by go_simp) rfl HN8.out (by simp [Value.oneCell']) (by omega) (by have := HS8.out.res.lt; omega) ?_))
   intro v9 w9 ho9 hb9 hg9
   have ho9 := rowT_app ho9
   have hsm9 := HS8.out.small.pin (by omega) u (by omega)
   obtain ⟨js, hjs⟩ : ∃ x, x = ts ++ [u] := ⟨_, rfl⟩
   rw [← hjs] at ho9 hsm9
   clear hjs
   obtain ⟨a9, c9, rfl⟩ := row_any ho9
   obtain ⟨_, A9, _, B9, _⟩ := HS8.out.grow hg9 (fun g e => ⟨(HS8.out.box.own.pins.lt g e).1, fun e2 => row_no_blk HS8.out.box.own.pins HS8.out.box.blk (by decide) (e2 ▸ e)⟩)
   have hS9 : w9.cell? ⟨ob, 3, none⟩ = some (.slice b1 ts.length d1) ∧ w9.cell? ⟨w.heap.size, 0, none⟩ = some (.int .i64 (n : Nat)) := ⟨B9.cell 3, by rw [← HNW.out]; exact A9.cell 0⟩
   have f9 := B9.fz 3
   have HE := hid (HS8.out.pins hg9 (fun g e => e) ho9 hsm9)
   refine ⟨fun _ => hS9, ?_⟩
   refine tkL 12 (.pointer (some ⟨ob, 3, none⟩)) rfl hS9 ?_
   obtain ⟨x9, _⟩ := hS9
   refine last_one 13 (by kernel_rfl) (op_skip (w' := w9.setCell ⟨ob, 3, none⟩ (.slice a9 js.length c9)) rfl rfl (by go_simp) ⟨fun h => absurd rfl h, last_done (by kernel_rfl) ?_ _⟩)
   clear hS8 HN8 HS8 ho9 hg9 B9 A9 hb9
   go_simp
   go_upto_region 33 with fail
   obtain ⟨W, hW⟩ : ∃ x, x = w9.setCell ⟨ob, 3, none⟩ (.slice a9 js.length c9) := ⟨_, rfl⟩
   rw [← hW] at HE ⊢
   clear hW x9 f9
   obtain ⟨y0, y1, y2, y3⟩ := HE.out.box.cells
   have s9 := HE.out.res.store4 (.int .i64 wd) (.int .i64 room) (.slice a1 its.length c1) (.slice a9 js.length c9)
   have s0 := s9.a0; have s1 := s9.a1; have s2 := s9.a2; have s3 := s9.a3
   have k0 := s9.f0; have k1 := s9.f1; have k2 := s9.f2; have k3 := s9.f3
   have ZZ := hid s9.z
   have HG := hid (grown_set4 W (w.heap.size + 1) (.int .i64 wd) (.int .i64 room) (.slice a1 its.length c1) (.slice a9 js.length c9))
   have HSO := hid (own_other HE.out.box.own HE.out.res HG.out)
   have HRD := hid (HE.out.rd.keep ((grown_below HG.out HE.out.res.lt).mono (by omega)))
   have HGR := hid (grownBy_trans HE.out.grown HG.out (fun g e => .inr (by cases e; omega)))
   clear s9 HG
   go_wp2
   exact bodyPost_ret (v := .agg #[.int .i64 wd, .int .i64 room, (.slice a1 its.length c1), (.slice a9 js.length c9)]) (by simp [results, Tryz.results36, go_sem, ZZ.out.cell]) rfl (spoilP_of (its := its) (ts := js) HE.out.small HSO.out (by omega) HRD.out HGR.out)
 ·obtain ⟨n, hn, hn8, hn1⟩ : ∃ n : Nat, wd = (n : Int) ∧ n ≤ 8 ∧ 1 ≤ n := ⟨wd.toNat, by simp [isW] at hwd; omega, by simp [isW] at hwd; omega, by simp [isW] at hwd; omega⟩
  have HNW := hid hn
  clear hn
  have HAS := hid (okSums_asc HV.out.sums)
  go_wp2_with fail
  refine (pick_any rb a nn cap bs (p + 1) 2 _ HS.out.rd (by omega) (by omega) (by omega)).mono ?_
  rintro e w3 ⟨y, rfl, hy, hr3, hg3⟩
  have HS3 := hid (HS.out.pick hg3 hr3)
  clear hr3 hg3 HS
  obtain ⟨m, hm⟩ : ∃ m : Nat, m = 10 + y := ⟨_, rfl⟩
  have hma : m ≤ 10 + y := by omega
  have hmb : 10 + y ≤ m := by omega
  have hm1 : m ≤ 11 := by omega
  clear hm
  go_wp2
  go_loopw [7] (fun i' wr => ∃ (i : Nat) (v' : Value) (ts' : List ByteArray), i' = .int .i64 i ∧ SpEnd w rb a nn cap bs #[.int .i64 wd, .int .i64 room, .slice ai its.length ci, .slice ap ts.length cp] (p + 1 + 1) ob wr wd room (.slice a1 its.length c1) v' its ts' ∧ Asc ts' ∧ ts'.length ≤ 11 ∧ Bytes0 n i ts') (fun i' _ => 20 - (intOf i').toNat)
  case atStart => exact ⟨0, _, ts, rfl, HS3.out, HAS.out, by omega, Bytes0.zero _ _⟩
  case round =>
   obtain ⟨i, v', ts', rfl, hsp, has, hl, hby⟩ := hrel
   have hil := hby.le
   obtain ⟨a4, c4, rfl⟩ := row_any hsp.box.own.pins
   have x3 : wr.cell? ⟨ob, 3, none⟩ = some (.slice a4 ts'.length c4) := hsp.box.blk.cell 3
   by_cases hlt : ts'.length < m
   case neg =>
    have hnl : ¬ ((ts'.length : Nat) : Int) < 10 + (y : Int) := by omega
    have HE := hid hsp
    clear hsp has hby
    go_upto_region 33 with fail
    obtain ⟨W, hW⟩ : ∃ x, x = wr := ⟨_, rfl⟩
    rw [← hW] at HE ⊢
    clear hW x3
    obtain ⟨y0, y1, y2, y3⟩ := HE.out.box.cells
    have s9 := HE.out.res.store4 (.int .i64 wd) (.int .i64 room) (.slice a1 its.length c1) (.slice a4 ts'.length c4)
    have s0 := s9.a0; have s1 := s9.a1; have s2 := s9.a2; have s3 := s9.a3
    have k0 := s9.f0; have k1 := s9.f1; have k2 := s9.f2; have k3 := s9.f3
    have ZZ := hid s9.z
    have HG := hid (grown_set4 W (w.heap.size + 1) (.int .i64 wd) (.int .i64 room) (.slice a1 its.length c1) (.slice a4 ts'.length c4))
    have HSO := hid (own_other HE.out.box.own HE.out.res HG.out)
    have HRD := hid (HE.out.rd.keep ((grown_below HG.out HE.out.res.lt).mono (by omega)))
    have HGR := hid (grownBy_trans HE.out.grown HG.out (fun g e => .inr (by cases e; omega)))
    clear s9 HG
    go_wp2
    exact bodyPost_ret (v := .agg #[.int .i64 wd, .int .i64 room, (.slice a1 its.length c1), (.slice a4 ts'.length c4)]) (by simp [results, Tryz.results36, go_sem, ZZ.out.cell]) rfl (spoilP_of (its := its) (ts := ts') HE.out.small HSO.out (by omega) HRD.out HGR.out)
   have hnl : ((ts'.length : Nat) : Int) < 10 + (y : Int) := by omega
   have HSP := hid hsp
   have HAS2 := hid has
   have HBY := hid hby
   obtain ⟨w4, hw4⟩ : ∃ x, x = wr.drew := ⟨_, rfl⟩
   have HS4 : Hid (SpEnd w rb a nn cap bs #[.int .i64 wd, .int .i64 room, .slice ai its.length ci, .slice ap ts.length cp] (p + 1 + 1) ob w4 wd room (.slice a1 its.length c1) (.slice a4 ts'.length c4) its ts') := hid (by rw [hw4]; exact hsp.drew)
   have hS4 : w4.cell? ⟨ob, 3, none⟩ = some (.slice a4 ts'.length c4) ∧ w4.cell? ⟨w.heap.size, 0, none⟩ = some (.int .i64 (n : Nat)) := ⟨HS4.out.box.blk.cell 3, by rw [← HNW.out]; exact HS4.out.arg.cell 0⟩
   clear hsp has hby HSP
   go_upto_region 32 with fail
   clear x3
   refine wp_region_last 11 (S := fun w' => w'.cell? ⟨ob, 3, none⟩ = some (.slice a4 ts'.length c4) ∧ w'.cell? ⟨w.heap.size, 0, none⟩ = some (.int .i64 (n : Nat))) (by kernel_rfl) ?_
   change wpAnyC _ _ _ _ _ _ _ _ _ (World.drew _)
   rw [← hw4]
   clear hw4
   have hu8 : IntKind.u8.wrap (i : Int) = (i : Int) := by rw [IntKind.wrap_u8]; omega
   refine tkL 0 (.pointer (some ⟨ob, 3, none⟩)) rfl hS4 ?_
   refine tkL 1 (.slice a4 ts'.length c4) rfl hS4 ?_
   refine tkL 2 (.int .i64 (i : Nat)) rfl hS4 ?_
   refine tkL 3 (.int .u8 (i : Nat)) rfl hS4 ?_
   refine tkL 6 (.pointer (some ⟨w.heap.size, 0, none⟩)) rfl hS4 ?_
   refine tkL 7 (.int .i64 (n : Nat)) rfl hS4 ?_
   have HS5 := hid (HS4.out.alloc (.cells #[.int .u8 (i : Nat)] 5))
   have hS5 : (w4.alloc (.cells #[.int .u8 (i : Nat)] 5)).cell? ⟨ob, 3, none⟩ = some (.slice a4 ts'.length c4) ∧ (w4.alloc (.cells #[.int .u8 (i : Nat)] 5)).cell? ⟨w.heap.size, 0, none⟩ = some (.int .i64 (n : Nat)) := ⟨HS5.out.box.blk.cell 3, by rw [← HNW.out]; exact HS5.out.arg.cell 0⟩
   have hcv := conv_at (W := w4.alloc (.cells #[.int .u8 (i : Nat)] 5)) (b := w4.heap.size) (q := (i : Int)) ((Blk.new w4 5 #[.int .u8 (i : Nat)]).cell 0)
   rw [Int.toNat_natCast] at hcv
   refine last_one 4 (by kernel_rfl) (op_value (v := .slice (some ⟨w4.heap.size, 0, none⟩) 1 1) (w' := w4.alloc (.cells #[.int .u8 (i : Nat)] 5)) rfl rfl (by go_simp) ⟨fun _ => hS5, ?_⟩)
   refine last_one 5 (by kernel_rfl) (op_value (v := .string ⟨#[UInt8.ofNat i]⟩) (w' := w4.alloc (.cells #[.int .u8 (i : Nat)] 5)) rfl rfl (by go_simp) ⟨fun _ => hS5, ?_⟩)
   clear hcv hu8 hS4 HS4
   generalize w4.alloc (.cells #[.int .u8 (i : Nat)] 5) = w5 at *
   refine last_one 8 (by kernel_rfl) (op_calls (f := 16) (args := #[.string ⟨#[UInt8.ofNat i]⟩, .int .i64 (n : Nat)]) rfl rfl (by go_simp) (l1Many_one (UInt8.ofNat i) n w5 (by omega)) ?_)
   rintro e w6 ⟨t, rfl, ht, hal, rfl⟩
   refine ⟨_, rfl, fun _ => hS5, ?_⟩
   have HST := hid (HBY.out.step hn1 (by omega) ht hal)
   have hts : t.size ≤ 8 := by omega
   have HAT := hid (putT_asc (s := t) HAS2.out)
   have hpl := putT_len t ts'
   clear ht hal HBY
   refine last_one 9 (by kernel_rfl) (op_calls (f := 51) (args := #[.slice a4 ts'.length c4, .string t]) rfl rfl (by go_simp) (l4Add_any (.slice a4 ts'.length c4) ts' t _ w6 HS5.out.box.own.pins HAS2.out (by omega)) ?_)
   rintro e w7 ⟨v7, rfl, hor, hb7⟩
   have ho7 := add_own HS5.out.box.own.pins hb7 (by have := HS5.out.res.lt; omega) hor
   obtain ⟨a7, c7, rfl⟩ := row_any ho7
   have HS7 := hid (HS5.out.below hb7)
   have hS7 : w7.cell? ⟨ob, 3, none⟩ = some (.slice a4 ts'.length c4) ∧ w7.cell? ⟨w.heap.size, 0, none⟩ = some (.int .i64 (n : Nat)) := ⟨HS7.out.box.blk.cell 3, by rw [← HNW.out]; exact HS7.out.arg.cell 0⟩
   have f7 := HS7.out.box.fz 3
   have HE := hid (HS5.out.pins (grown_of_below hb7) (fun g e => by cases e) ho7 (HS5.out.small.add (by omega) t (by omega)))
   refine ⟨_, rfl, fun _ => hS7, ?_⟩
   refine tkL 10 (.pointer (some ⟨ob, 3, none⟩)) rfl hS7 ?_
   obtain ⟨x7, _⟩ := hS7
   refine last_one 11 (by kernel_rfl) (op_skip (w' := w7.setCell ⟨ob, 3, none⟩ (.slice a7 (putT t ts').length c7)) rfl rfl (by go_simp) ⟨fun h => absurd rfl h, last_done (by kernel_rfl) ?_ _⟩)
   clear hS5 HS5 HS7 ho7 hor hb7 x7 f7 hnl
   go_simp
   go_wp2
   exact ⟨⟨i + 1, _, _, by go_num, HE.out, HAT.out, by omega, HST.out⟩, by simp [intOf]; omega⟩
 ·have x1 : w2.cell? ⟨ob, 1, none⟩ = some (.int .i64 room) := HS.out.box.blk.cell 1
  have f1 := HS.out.box.fz 1
  have HS3 := hid (HS.out.setRoom 60000)
  clear HS
  go_wp2_with fail
  obtain ⟨w3, hw3⟩ : ∃ x, x = w2.setCell ⟨ob, 1, none⟩ (.int .i64 60000) := ⟨_, rfl⟩
  rw [← hw3] at HS3 ⊢
  clear hw3 x1 f1 hw2
  refine (pick_any rb a nn cap bs (p + 1) 2 _ HS3.out.rd (by omega) (by omega) (by omega)).mono ?_
  rintro e w4 ⟨y, rfl, hy, hr4, hg4⟩
  have HS4 := hid (HS3.out.pick hg4 hr4)
  clear hr4 hg4 HS3
  obtain ⟨m, hm⟩ : ∃ m : Nat, m = 1000 + y := ⟨_, rfl⟩
  have hma : m ≤ 1000 + y := by omega
  have hmb : 1000 + y ≤ m := by omega
  have hm1 : m ≤ 1001 := by omega
  have hm0 : 1 ≤ m := by omega
  clear hm
  have x0 : w4.cell? ⟨ob, 0, none⟩ = some (.int .i64 wd) := HS4.out.box.blk.cell 0
  by_cases hw : 2 < wd
  case neg =>
   have HE := HS4
   go_upto_region 33 with fail
   obtain ⟨W, hW⟩ : ∃ x, x = w4 := ⟨_, rfl⟩
   rw [← hW] at HE ⊢
   clear hW x0
   obtain ⟨y0, y1, y2, y3⟩ := HE.out.box.cells
   have s9 := HE.out.res.store4 (.int .i64 wd) (.int .i64 60000) (.slice a1 its.length c1) (.slice b1 ts.length d1)
   have s0 := s9.a0; have s1 := s9.a1; have s2 := s9.a2; have s3 := s9.a3
   have k0 := s9.f0; have k1 := s9.f1; have k2 := s9.f2; have k3 := s9.f3
   have ZZ := hid s9.z
   have HG := hid (grown_set4 W (w.heap.size + 1) (.int .i64 wd) (.int .i64 60000) (.slice a1 its.length c1) (.slice b1 ts.length d1))
   have HSO := hid (own_other HE.out.box.own HE.out.res HG.out)
   have HRD := hid (HE.out.rd.keep ((grown_below HG.out HE.out.res.lt).mono (by omega)))
   have HGR := hid (grownBy_trans HE.out.grown HG.out (fun g e => .inr (by cases e; omega)))
   clear s9 HG
   go_wp2
   exact bodyPost_ret (v := .agg #[.int .i64 wd, .int .i64 60000, (.slice a1 its.length c1), (.slice b1 ts.length d1)]) (by simp [results, Tryz.results36, go_sem, ZZ.out.cell]) rfl (spoilP_of (its := its) (ts := ts) HE.out.small HSO.out (by omega) HRD.out HGR.out)
  have x2 : (w4.alloc (.cells #[] 59)).cell? ⟨ob, 2, none⟩ = some (.slice a1 its.length c1) := (HS4.out.alloc (.cells #[] 59)).box.blk.cell 2
  have f2 := (HS4.out.alloc (.cells #[] 59)).box.fz 2
  have HS5 := hid ((HS4.out.alloc (.cells #[] 59)).items (r := none) (vi' := .slice (some ⟨w4.heap.size, 0, none⟩) 0 0) (its' := []) (grown_of_below (Below.refl _ _)) (fun g e => by cases e) (World.ownsRow_made (base := w.heap.size + 2) (e := 59) (size := 2) w4 #[] 0 (by have := HS4.out.res.lt; omega) (by simp [maxLen]) rfl) (small_of (by simp) HS4.out.small.lp (fun q hq => by cases hq) HS4.out.small.mp))
  go_upto_region 7 with fail
  obtain ⟨w5, hw5⟩ : ∃ x, x = (w4.alloc (.cells #[] 59)).setCell ⟨ob, 2, none⟩ (.slice (some ⟨w4.heap.size, 0, none⟩) 0 0) := ⟨_, rfl⟩
  rw [← hw5] at HS5 ⊢
  clear hw5 x2 f2 x0
  generalize w4.heap.size = eb at *
  clear HS4
  have HS6 := hid (HS5.out.alloc (.cells #[] 9))
  have HR6 := hid (World.ownsRow_made (base := w5.heap.size) (e := 9) (size := 1) w5 #[] 0 (Nat.le_refl _) (by simp [maxLen]) rfl)
  have HD := hid fun (k : Nat) (W : World) (hk : k ≤ 100000) => l3Dec_any k k W (Nat.le_refl _) hk
  obtain ⟨i0, hi0, hz0, hz1, hz2⟩ := info_parts Tryz.info9
  obtain ⟨z5, hz5, hz5b⟩ : ∃ x, w5.heap.size ≤ x ∧ x ≤ w5.heap.size := ⟨_, Nat.le_refl _, Nat.le_refl _⟩
  go_wp2
  go_loopw [9, 10] (fun v' i' wr => ∃ (qs : List ByteArray), i' = .int .i64 (qs.length : Nat) ∧ qs.length ≤ m ∧ wr.ownsRow w5.heap.size 9 1 v' qs.length (qs.map Value.string) ∧ (∀ t ∈ qs, t.size ≤ 2000) ∧ Below w5.heap.size w5 wr) (fun _ i' _ => m - (intOf i').toNat)
  case atStart => exact ⟨[], rfl, Nat.zero_le _, HR6.out, fun t ht => (by cases ht), (Below.refl _ _).alloc (Nat.le_refl _) _⟩
  case round =>
   obtain ⟨qs, rfl, hq, hrow, hqs, hbl⟩ := hrel
   obtain ⟨a6, c6, rfl⟩ := row_any hrow
   by_cases hlt : qs.length < m
   ·have hnl : ((qs.length : Nat) : Int) < 1000 + (y : Int) := by omega
    have HQS := hid hqs
    have HBL := hid hbl
    have HROW := hid hrow
    have HD1 := hid (HD.out qs.length wr (by omega))
    have hdz := decB_len qs.length qs.length (Nat.le_refl _)
    have hsz := hbl.size
    generalize decB qs.length = d at *
    clear hrow hbl hqs
    go_wp2_with fail
    refine HD1.out.mono ?_
    rintro e w7 ⟨rfl, hb7⟩
    have R7 := (Below.row hb7 HROW.out).alloc (.cells #[.string (⟨#[116]⟩ ++ d)] 9)
    have HB7 := hid (HBL.out.trans (hb7.mono hsz))
    have hs7 := hb7.size
    have hts : (⟨#[116]⟩ ++ d : ByteArray).size ≤ 2000 := by rw [ByteArray.size_append]; show 1 + d.size ≤ 2000; omega
    have hcc : (⟨#[116]⟩ ++ d : ByteArray).size ≤ 9223372036854775807 := by omega
    clear hb7 HD1
    go_wp2_with (at_builtin; refine wpList_append_own _ rfl _ _ 24 rfl w5.heap.size 9 i0 (.string ⟨#[]⟩) 1 16 Tryz.underlying24 hi0 hz0 hz1 hz2 rfl (by decide) (.slice a6 qs.length c6) qs.length (qs.map Value.string) rfl R7 ⟨_, 0, none⟩ 1 1 [.string (⟨#[116]⟩ ++ d)] rfl rfl (cell_one_new _ _ _) (by simp [Value.oneCell']) (by unfold maxLen; omega) (by omega) (by rw [World.size_alloc]; omega) ?_; intro v8 w8 ho8 hg8 _)
    have hb8 : Below w5.heap.size w7 w8 := ((Below.refl _ w7).alloc (by omega) (.cells #[.string (⟨#[116]⟩ ++ d)] 9)).grown hg8 (by rw [World.size_alloc]; omega) (fun g e => (R7.lt g e).1)
    refine ⟨⟨qs ++ [⟨#[116]⟩ ++ d], by rw [List.length_append]; go_num, by rw [List.length_append]; simp; omega, rowT_app ho8, fun t ht => ?_, HB7.out.trans hb8⟩, by simp [intOf]; omega⟩
    rcases List.mem_append.1 ht with ht | ht
    ·exact HQS.out t ht
    ·rw [List.mem_singleton.1 ht]; exact hts
   ·have hnl : ¬ ((qs.length : Nat) : Int) < 1000 + (y : Int) := by omega
    obtain ⟨g6, k6, e6, hg6, hgl6⟩ := World.ownsRow.form hrow (by omega)
    obtain ⟨rfl, _, rfl⟩ : a6 = some ⟨g6, 0, none⟩ ∧ qs.length = qs.length ∧ c6 = k6 := Value.slice.inj e6
    have HSE := hid (HS5.out.below hbl)
    have x0 : wr.cell? ⟨ob, 0, none⟩ = some (.int .i64 wd) := HSE.out.box.blk.cell 0
    have HSO := hid (l4Sorted_any qs.length g6 0 c6 qs wd wr (Nat.le_refl _) (trow_of hrow) (by omega) hqs)
    clear hbl hrow hqs e6 HS6 HR6 HD
    go_wp2_with fail
    refine HSO.out.mono ?_
    rintro e w8 ⟨v8, is8, rfl, hl8, hz8, ho8, hb8⟩
    obtain ⟨a8, c8, rfl⟩ := row_any ho8
    have HS8 := hid (HSE.out.below hb8)
    have x2 : w8.cell? ⟨ob, 2, none⟩ = some (.slice (some ⟨eb, 0, none⟩) 0 0) := HS8.out.box.blk.cell 2
    have f2 := HS8.out.box.fz 2
    have hl9 : is8.length ≤ 2000 := by omega
    have HE := hid (HSE.out.items (grown_of_below hb8) (fun g e => by cases e) (ownsRow_base2 ho8 (by have := HSE.out.res.lt; omega)) (small_of (by omega) HSE.out.small.lp (fun q hq => Nat.le_trans (hz8 q hq) (by omega)) HSE.out.small.mp))
    clear hb8 ho8 hz8 HSO HSE HS8 x0 hl8
    go_upto_region 33 with fail
    obtain ⟨W, hW⟩ : ∃ x, x = w8.setCell ⟨ob, 2, none⟩ (.slice a8 is8.length c8) := ⟨_, rfl⟩
    rw [← hW] at HE ⊢
    clear hW x2 f2
    obtain ⟨y0, y1, y2, y3⟩ := HE.out.box.cells
    have s9 := HE.out.res.store4 (.int .i64 wd) (.int .i64 60000) (.slice a8 is8.length c8) (.slice b1 ts.length d1)
    have s0 := s9.a0; have s1 := s9.a1; have s2 := s9.a2; have s3 := s9.a3
    have k0 := s9.f0; have k1 := s9.f1; have k2 := s9.f2; have k3 := s9.f3
    have ZZ := hid s9.z
    have HG := hid (grown_set4 W (w.heap.size + 1) (.int .i64 wd) (.int .i64 60000) (.slice a8 is8.length c8) (.slice b1 ts.length d1))
    have HSO := hid (own_other HE.out.box.own HE.out.res HG.out)
    have HRD := hid (HE.out.rd.keep ((grown_below HG.out HE.out.res.lt).mono (by omega)))
    have HGR := hid (grownBy_trans HE.out.grown HG.out (fun g e => .inr (by cases e; omega)))
    clear s9 HG
    go_wp2
    exact bodyPost_ret (v := .agg #[.int .i64 wd, .int .i64 60000, (.slice a8 is8.length c8), (.slice b1 ts.length d1)]) (by simp [results, Tryz.results36, go_sem, ZZ.out.cell]) rfl (spoilP_of (its := is8) (ts := ts) HE.out.small HSO.out (by omega) HRD.out HGR.out)
end Go.Proofs.YtkjdabnglcabiaaGreatDoor
