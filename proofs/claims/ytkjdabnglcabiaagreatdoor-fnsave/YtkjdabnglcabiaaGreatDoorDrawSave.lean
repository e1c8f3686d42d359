/- l4Any, DrawSave: a store, a thing and a tick that are drawn. -/
import Derived.Test.YtkjdabnglcabiaaGreatDoorDrawNow
import Derived.Test.YtkjdabnglcabiaaGreatDoorSpoilStore
import Derived.Test.YtkjdabnglcabiaaGreatDoorBend
import Derived.Test.YtkjdabnglcabiaaGreatDoorShort
namespace Go.Proofs.YtkjdabnglcabiaaGreatDoor
open Go.RowKit
set_option maxRecDepth 100000 in
set_option maxHeartbeats 4000000 in
theorem l4Any_any (rb : Nat) (a : Option Addr) (nn cap : Nat) (bs : List Int) (p : Nat) (w : World) (h : Rd w rb a nn cap bs p) (hp : p ≤ 600000) :
  Calls Tryz.prog 13 #[.pointer (some ⟨rb, 0, none⟩)] w fun e w' => ∃ wd room vi vp its ts p', e = .returned (.agg #[.int .i64 wd, .int .i64 room, vi, vp]) ∧ SmallSt its ts ∧ StoreOwn w' (w.heap.size + 1) vi vp its ts ∧ p' ≤ p + 100 ∧ Rd w' rb a nn cap bs p' ∧ w.grownBy w' (some rb) := by
 have hlt := h.lt
 have HG0 := hid (World.grownBy_alloc w (.cells #[.int .i64 0, .int .i64 0, .slice none 0 0, .slice none 0 0] 26) (some rb))
 have HZ0 := hid (Blk.new w 26 #[.int .i64 0, .int .i64 0, .slice none 0 0, .slice none 0 0])
 have HD := hid (l4Draw_any rb a nn cap bs p _ (h.keep ((Below.refl (rb + 1) w).alloc hlt (.cells #[.int .i64 0, .int .i64 0, .slice none 0 0, .slice none 0 0] 26))) (by omega))
 have hs0 : (w.alloc (.cells #[.int .i64 0, .int .i64 0, .slice none 0 0, .slice none 0 0] 26)).heap.size = w.heap.size + 1 := World.size_alloc _ _
 clear h
 go_enter Tryz.func13, Tryz.ntmps13
 go_wp2_with fail
 refine HD.out.mono ?_
 rintro e w1 ⟨wd, room, vi, vp, its, ts, p1, rfl, hv, hso, hp1, hr1, hg1⟩
 obtain ⟨ai, ci, rfl⟩ := row_any hso.items
 obtain ⟨ap, cp, rfl⟩ := row_any hso.pins
 have hs1 := hg1.size
 have Z1 := HZ0.out.kept hg1 (fun e => by have := Option.some.inj e; omega)
 have HB : Hid (SBox (w1.alloc (.cells #[.int .i64 wd, .int .i64 room, .slice ai its.length ci, .slice ap ts.length cp] 26)) (w.heap.size + 1) w1.heap.size wd room (.slice ai its.length ci) (.slice ap ts.length cp) its ts) := hid ⟨Blk.new w1 _ _, (hso.base (by omega)).below ((Below.refl _ _).alloc (Nat.le_refl _) _)⟩
 have HZ1 := hid (Z1.alloc (.cells #[.int .i64 wd, .int .i64 room, .slice ai its.length ci, .slice ap ts.length cp] 26))
 have HR1 := hid (hr1.keep ((Below.refl (rb + 1) w1).alloc hr1.lt (.cells #[.int .i64 wd, .int .i64 room, .slice ai its.length ci, .slice ap ts.length cp] 26)))
 have HG1 := hid (grown_alloc (grown_pick HG0.out hg1) (.cells #[.int .i64 wd, .int .i64 room, .slice ai its.length ci, .slice ap ts.length cp] 26))
 have HV := hid hv
 have hsz : (w1.alloc (.cells #[.int .i64 wd, .int .i64 room, .slice ai its.length ci, .slice ap ts.length cp] 26)).heap.size = w1.heap.size + 1 := World.size_alloc _ _
 clear HD HG0 HZ0 hv hso hr1 hg1 Z1
 go_wp2_with fail
 refine (pick_any rb a nn cap bs p1 14 _ HR1.out (by omega) (by omega) (by omega)).mono ?_
 rintro e w2 ⟨x, rfl, hx, hr2, hg2⟩
 have B2 := HB.out.low hg2 (by omega) (by omega)
 have Z2 := HZ1.out.kept hg2 (fun e => by have := Option.some.inj e; omega)
 have HG2 := hid (grown_pick HG1.out hg2)
 have HR2 := hid hr2
 have hs2 := hg2.size
 obtain ⟨x0, x1, x2, x3⟩ := B2.cells
 clear HB HZ1 HR1 HG1 hr2 hg2
 by_cases hx0 : x = 0
 ·subst hx0
  have HS := hid (l4Spoil_any rb a nn cap bs (p1 + 1) wd room _ _ its ts w2 HR2.out HV.out B2.own (by omega) (by omega))
  have HZ2 := hid Z2
  clear B2 Z2
  go_wp2_with fail
  refine HS.out.mono ?_
  rintro e w3 ⟨wd3, room3, v3, q3, its3, ts3, p3, rfl, hsm, hso3, hp3, hr3, hg3⟩
  obtain ⟨a3, c3, rfl⟩ := row_any hso3.items
  obtain ⟨b3, d3, rfl⟩ := row_any hso3.pins
  have Z3 := HZ2.out.kept hg3 (fun e => by have := Option.some.inj e; omega)
  have HG := hid (grown_set4 w3 w.heap.size (.int .i64 wd3) (.int .i64 room3) (.slice a3 its3.length c3) (.slice b3 ts3.length d3))
  have HSO := hid (own_other (hso3.base (B' := w.heap.size + 1) (by omega)) Z3 HG.out)
  have HRD := hid (hr3.keep ((grown_below HG.out Z3.lt).mono (by omega)))
  have HGR := hid (grownBy_trans (grown_pick HG2.out hg3) HG.out (fun g e => .inr (by cases e; omega)))
  have HSM := hid hsm
  have s9 := Z3.store4 (.int .i64 wd3) (.int .i64 room3) (.slice a3 its3.length c3) (.slice b3 ts3.length d3)
  have s0 := s9.a0; have s1 := s9.a1; have s2 := s9.a2; have s3 := s9.a3
  have k0 := s9.f0; have k1 := s9.f1; have k2 := s9.f2; have k3 := s9.f3
  have ZZ := hid s9.z
  clear s9 Z3 hso3 hr3 hg3 HS HZ2 x0 x1 x2 x3 HG hsm
  go_wp2
  exact bodyPost_ret (v := .agg #[.int .i64 wd3, .int .i64 room3, .slice a3 its3.length c3, .slice b3 ts3.length d3]) (by simp [results, Tryz.results13, go_sem, ZZ.out.cell]) rfl ⟨wd3, room3, _, _, its3, ts3, p3, rfl, HSM.out, HSO.out, by omega, HRD.out, HGR.out⟩
 ·have hxb : (((x : Nat) : Int) == 0) = false := by simp; omega
  have HG := hid (grown_set4 w2 w.heap.size (.int .i64 wd) (.int .i64 room) (.slice ai its.length ci) (.slice ap ts.length cp))
  have HSO := hid (own_other B2.own Z2 HG.out)
  have HRD := hid (HR2.out.keep ((grown_below HG.out Z2.lt).mono (by omega)))
  have HGR := hid (grownBy_trans HG2.out HG.out (fun g e => .inr (by cases e; omega)))
  have s9 := Z2.store4 (.int .i64 wd) (.int .i64 room) (.slice ai its.length ci) (.slice ap ts.length cp)
  have s0 := s9.a0; have s1 := s9.a1; have s2 := s9.a2; have s3 := s9.a3
  have k0 := s9.f0; have k1 := s9.f1; have k2 := s9.f2; have k3 := s9.f3
  have ZZ := hid s9.z
  clear s9 Z2 B2 HG
  go_wp2
  exact bodyPost_ret (v := .agg #[.int .i64 wd, .int .i64 room, .slice ai its.length ci, .slice ap ts.length cp]) (by simp [results, Tryz.results13, go_sem, ZZ.out.cell]) rfl ⟨wd, room, _, _, its, ts, p1 + 1, rfl, HV.out.smallSt, HSO.out, by omega, HRD.out, HGR.out⟩
-- DrawSave itself
set_option maxRecDepth 100000 in
set_option maxHeartbeats 4000000 in
theorem drawSave_any (a : Option Addr) (n cap : Nat) (zs : List Int) (w : World) (h : BytesIn w a n cap zs) (hn : n ≤ maxLen) :
  Calls Tryz.prog 4 #[.slice a n cap] w fun e w' => ∃ wd room vi vp its ts t now, e = .returned (.tuple #[.agg #[.int .i64 wd, .int .i64 room, vi, vp], .string t, .int .i64 now]) ∧ SmallSt its ts ∧ StoreOwn w' (w.heap.size + 1) vi vp its ts ∧ t.size ≤ 3001 ∧ Below w.heap.size w w' := by
 have hA := (Below.refl w.heap.size w).alloc (Nat.le_refl _) (.cells #[.int .i64 0, .int .i64 0, .slice none 0 0, .slice none 0 0] 26)
 have hO := l1Open_any a n cap zs _ (h.below hA) hn
 obtain ⟨rb, hrb⟩ : ∃ x, x = (w.alloc (.cells #[.int .i64 0, .int .i64 0, .slice none 0 0, .slice none 0 0] 26)).heap.size := ⟨_, rfl⟩
 rw [← hrb] at hO
 have HO := hid hO
 have HA := hid hA
 have HZ0 := hid (Blk.new w 26 #[.int .i64 0, .int .i64 0, .slice none 0 0, .slice none 0 0])
 have hs0 : (w.alloc (.cells #[.int .i64 0, .int .i64 0, .slice none 0 0, .slice none 0 0] 26)).heap.size = w.heap.size + 1 := World.size_alloc _ _
 have hrw1 : w.heap.size < rb := by omega
 have hrw2 : rb ≤ w.heap.size + 1 := by omega
 clear h hA hO
 go_enter Tryz.func4, Tryz.ntmps4
 go_wp2_with fail
 refine HO.out.mono ?_
 rintro e w1 ⟨rfl, nn, bs, hr1, hb1⟩
 have hb1 : Below (w.alloc (.cells #[.int .i64 0, .int .i64 0, .slice none 0 0, .slice none 0 0] 26)).heap.size (w.alloc (.cells #[.int .i64 0, .int .i64 0, .slice none 0 0, .slice none 0 0] 26)) w1 := hrb ▸ hb1
 have hs1 := hb1.size
 have hlt1 := hr1.lt
 have HZ1 := hid (HZ0.out.below hb1)
 have HL1 := hid (HA.out.trans (hb1.mono (by omega)))
 have HY := hid (l4Any_any rb a nn cap bs 0 w1 hr1 (by omega))
 clear hr1 hb1 HZ0 HO HA hrb
 go_wp2_with fail
 refine HY.out.mono ?_
 rintro e w2 ⟨wd, room, vi, vp, its, ts, p2, rfl, hsm, hso, hp2, hr2, hg2⟩
 obtain ⟨ai, ci, rfl⟩ := row_any hso.items
 obtain ⟨ap, cp, rfl⟩ := row_any hso.pins
 have hs2 := hg2.size
 have HSM := hid hsm
 have hA2 := (Below.refl w2.heap.size w2).alloc (Nat.le_refl _) (.cells #[.int .i64 wd, .int .i64 room, .slice ai its.length ci, .slice ap ts.length cp] 26)
 have HB : Hid (SBox (w2.alloc (.cells #[.int .i64 wd, .int .i64 room, .slice ai its.length ci, .slice ap ts.length cp] 26)) (w.heap.size + 2) w2.heap.size wd room (.slice ai its.length ci) (.slice ap ts.length cp) its ts) := hid ⟨Blk.new w2 _ _, (hso.base (by omega)).below hA2⟩
 have HZ2 := hid ((HZ1.out.kept hg2 (fun e => by have := Option.some.inj e; omega)).below hA2)
 have HR2 := hid (hr2.keep (hA2.mono (by have := hr2.lt; omega)))
 have HL2 := hid ((HL1.out.trans ((grown_below hg2 hlt1).mono (by omega))).trans (hA2.mono (by omega)))
 obtain ⟨sb, hsb⟩ : ∃ x, x = w2.heap.size := ⟨_, rfl⟩
 rw [← hsb] at HB
 have hsz2 : (w2.alloc (.cells #[.int .i64 wd, .int .i64 room, .slice ai its.length ci, .slice ap ts.length cp] 26)).heap.size = w2.heap.size + 1 := World.size_alloc _ _
 clear HY hsm hso hr2 hg2 hA2 HZ1 HL1
 go_wp2_with fail
 refine (l2Thing_own rb a nn cap bs p2 _ HR2.out (by omega)).mono ?_
 rintro e w3 ⟨t0, rfl, ht0, p3, hp3, hr3, hg3⟩
 have hrs : rb < sb := by omega
 have hws : w.heap.size + 1 < sb := by omega
 rw [← hsb]
 clear hsb
 have HB3 := hid (HB.out.low hg3 (by omega) (by omega))
 have HZ3 := hid (HZ2.out.kept hg3 (fun e => by have := Option.some.inj e; omega))
 have HL3 := hid (HL2.out.trans ((grown_below hg3 HR2.out.lt).mono (by omega)))
 have HR3 := hid hr3
 have hs3 := hg3.size
 clear hr3 hg3 HB HZ2 HL2 HR2
 go_wp2_with fail
 refine (pick_any rb a nn cap bs p3 16 _ HR3.out (by omega) (by omega) (by omega)).mono ?_
 rintro e w4 ⟨x, rfl, hx, hr4, hg4⟩
 have hbd : Below w4.heap.size w4 w4.drew := below_drewN (Below.refl _ _) 1
 have B4 := HB3.out.low hg4 (by omega) (by omega)
 obtain ⟨w5, hw5⟩ : ∃ x, x = w4.drew := ⟨_, rfl⟩
 have HB5 : Hid (SBox w5 (w.heap.size + 2) sb wd room (.slice ai its.length ci) (.slice ap ts.length cp) its ts) := hid (by rw [hw5]; exact B4.below hbd)
 have HZ5 : Hid (Blk w5 w.heap.size 26 #[.int .i64 0, .int .i64 0, .slice none 0 0, .slice none 0 0]) := hid (by rw [hw5]; exact (HZ3.out.kept hg4 (fun e => by have := Option.some.inj e; omega)).below hbd)
 have HL5 : Hid (Below w.heap.size w w5) := hid (by rw [hw5]; exact below_drewN (HL3.out.trans ((grown_below hg4 HR3.out.lt).mono (by omega))) 1)
 have HR5 : Hid (Rd w5 rb a nn cap bs (p3 + 1)) := hid (by rw [hw5]; exact hr4.keep (hbd.mono (by have := hr4.lt; omega)))
 have hs4 := hg4.size
 have hS5 : w5.cell? ⟨sb, 0, none⟩ = some (.int .i64 wd) ∧ w5.cell? ⟨sb, 1, none⟩ = some (.int .i64 room) ∧ w5.cell? ⟨sb, 2, none⟩ = some (.slice ai its.length ci) ∧ w5.cell? ⟨sb, 3, none⟩ = some (.slice ap ts.length cp) := HB5.out.cells
 clear hr4 hg4 hbd B4 HB3 HZ3 HL3 HR3
 by_cases hx0 : x = 0
 ·subst hx0
  go_wp2_with fail
  have hm : ((3001 : Nat) : Int) = 3001 := rfl
  rw [← hm]
  refine (l1Many_any ⟨#[109]⟩ 3001 _ (by decide) (by omega)).mono ?_
  rintro e w4' ⟨t, rfl, ht, hw4'⟩
  have hw4'' := hw4'.symm
  subst hw4''
  have ht1 : t.size ≤ 3001 := Nat.le_trans ht (by show 1 * 3001 ≤ 3001; omega)
  go_upto_region 6 with fail
  refine wp_region_held (S := fun w' => w'.cell? ⟨sb, 0, none⟩ = some (.int .i64 wd) ∧ w'.cell? ⟨sb, 1, none⟩ = some (.int .i64 room) ∧ w'.cell? ⟨sb, 2, none⟩ = some (.slice ai its.length ci) ∧ w'.cell? ⟨sb, 3, none⟩ = some (.slice ap ts.length cp)) (by kernel_rfl) ?_
  change wpAnyH _ _ _ _ _ _ _ _ (World.drew _)
  rw [← hw5]
  clear hw5
  refine tkA 0 (.agg #[.int .i64 wd, .int .i64 room, .slice ai its.length ci, .slice ap ts.length cp]) rfl hS5 ?_
  refine tkA 1 (.string t) rfl hS5 ?_
  refine tkA 2 (.pointer (some ⟨rb, 0, none⟩)) rfl hS5 ?_
  refine held_one 3 (by kernel_rfl) (op_calls (f := 17) (args := #[.pointer (some ⟨rb, 0, none⟩)]) rfl rfl (by go_simp) (l4Now_any rb a nn cap bs (p3 + 1) w5 HR5.out (by omega)) ?_)
  rintro e w6 ⟨z, rfl, p6, hp6, hr6, hg6⟩
  have B6 := HB5.out.low hg6 (by omega) (by omega)
  have Z6 := HZ5.out.kept hg6 (fun e => by have := Option.some.inj e; omega)
  have hS6 : w6.cell? ⟨sb, 0, none⟩ = some (.int .i64 wd) ∧ w6.cell? ⟨sb, 1, none⟩ = some (.int .i64 room) ∧ w6.cell? ⟨sb, 2, none⟩ = some (.slice ai its.length ci) ∧ w6.cell? ⟨sb, 3, none⟩ = some (.slice ap ts.length cp) := B6.cells
  have HG := hid (grown_set4 w6 w.heap.size (.int .i64 wd) (.int .i64 room) (.slice ai its.length ci) (.slice ap ts.length cp))
  have B7 := B6.other Z6 HG.out (by omega)
  have hS7 := B7.cells
  unfold set4 at hS7
  have HSO := hid B7.own
  have HBL : Hid (Below w.heap.size w (set4 w6 w.heap.size (.int .i64 wd) (.int .i64 room) (.slice ai its.length ci) (.slice ap ts.length cp))) := hid ((HL5.out.trans ((grown_below hg6 HR5.out.lt).mono (by omega))).trans (grown_below HG.out Z6.lt))
  have s9 := Z6.store4 (.int .i64 wd) (.int .i64 room) (.slice ai its.length ci) (.slice ap ts.length cp)
  have s0 := s9.a0; have s1 := s9.a1; have s2 := s9.a2; have s3 := s9.a3
  have k0 := s9.f0; have k1 := s9.f1; have k2 := s9.f2; have k3 := s9.f3
  have ZZ := hid s9.z
  clear s9 B6 B7 Z6 hr6 hg6 HG
  refine ⟨_, rfl, hS6, ?_⟩
  refine held_one 4 (by kernel_rfl) (op_skip (w' := ((((w6.setCell ⟨w.heap.size, 0, none⟩ (.int .i64 wd)).setCell ⟨w.heap.size, 1, none⟩ (.int .i64 room)).setCell ⟨w.heap.size, 2, none⟩ (.slice ai its.length ci)).setCell ⟨w.heap.size, 3, none⟩ (.slice ap ts.length cp))) rfl rfl (by go_simp) ⟨hS7, ?_⟩)
  refine tkA 5 (.string t) rfl hS7 ?_
  refine tkA 6 (.int .i64 z) rfl hS7 ?_
  refine wpAnyH_done (by kernel_rfl) ?_ _
  clear hS5 hS6 hS7 s0 s1 s2 s3 k0 k1 k2 k3
  go_simp
  go_wp2
  exact bodyPost_ret (v := .tuple #[.agg #[.int .i64 wd, .int .i64 room, .slice ai its.length ci, .slice ap ts.length cp], .string t, .int .i64 z]) (by simp [results, Tryz.results4, go_sem, ZZ.out.cell]) rfl ⟨wd, room, _, _, its, ts, t, z, rfl, HSM.out, HSO.out.base (by omega), ht1, HBL.out⟩
 ·have hxb : (((x : Nat) : Int) == 0) = false := by simp; omega
  go_upto_region 6 with fail
  refine wp_region_held (S := fun w' => w'.cell? ⟨sb, 0, none⟩ = some (.int .i64 wd) ∧ w'.cell? ⟨sb, 1, none⟩ = some (.int .i64 room) ∧ w'.cell? ⟨sb, 2, none⟩ = some (.slice ai its.length ci) ∧ w'.cell? ⟨sb, 3, none⟩ = some (.slice ap ts.length cp)) (by kernel_rfl) ?_
  change wpAnyH _ _ _ _ _ _ _ _ (World.drew _)
  rw [← hw5]
  clear hw5
  refine tkA 0 (.agg #[.int .i64 wd, .int .i64 room, .slice ai its.length ci, .slice ap ts.length cp]) rfl hS5 ?_
  refine tkA 1 (.string t0) rfl hS5 ?_
  refine tkA 2 (.pointer (some ⟨rb, 0, none⟩)) rfl hS5 ?_
  refine held_one 3 (by kernel_rfl) (op_calls (f := 17) (args := #[.pointer (some ⟨rb, 0, none⟩)]) rfl rfl (by go_simp) (l4Now_any rb a nn cap bs (p3 + 1) w5 HR5.out (by omega)) ?_)
  rintro e w6 ⟨z, rfl, p6, hp6, hr6, hg6⟩
  have B6 := HB5.out.low hg6 (by omega) (by omega)
  have Z6 := HZ5.out.kept hg6 (fun e => by have := Option.some.inj e; omega)
  have hS6 : w6.cell? ⟨sb, 0, none⟩ = some (.int .i64 wd) ∧ w6.cell? ⟨sb, 1, none⟩ = some (.int .i64 room) ∧ w6.cell? ⟨sb, 2, none⟩ = some (.slice ai its.length ci) ∧ w6.cell? ⟨sb, 3, none⟩ = some (.slice ap ts.length cp) := B6.cells
  have HG := hid (grown_set4 w6 w.heap.size (.int .i64 wd) (.int .i64 room) (.slice ai its.length ci) (.slice ap ts.length cp))
  have B7 := B6.other Z6 HG.out (by omega)
  have hS7 := B7.cells
  unfold set4 at hS7
  have HSO := hid B7.own
  have HBL : Hid (Below w.heap.size w (set4 w6 w.heap.size (.int .i64 wd) (.int .i64 room) (.slice ai its.length ci) (.slice ap ts.length cp))) := hid ((HL5.out.trans ((grown_below hg6 HR5.out.lt).mono (by omega))).trans (grown_below HG.out Z6.lt))
  have s9 := Z6.store4 (.int .i64 wd) (.int .i64 room) (.slice ai its.length ci) (.slice ap ts.length cp)
  have s0 := s9.a0; have s1 := s9.a1; have s2 := s9.a2; have s3 := s9.a3
  have k0 := s9.f0; have k1 := s9.f1; have k2 := s9.f2; have k3 := s9.f3
  have ZZ := hid s9.z
  clear s9 B6 B7 Z6 hr6 hg6 HG
  refine ⟨_, rfl, hS6, ?_⟩
  refine held_one 4 (by kernel_rfl) (op_skip (w' := ((((w6.setCell ⟨w.heap.size, 0, none⟩ (.int .i64 wd)).setCell ⟨w.heap.size, 1, none⟩ (.int .i64 room)).setCell ⟨w.heap.size, 2, none⟩ (.slice ai its.length ci)).setCell ⟨w.heap.size, 3, none⟩ (.slice ap ts.length cp))) rfl rfl (by go_simp) ⟨hS7, ?_⟩)
  refine tkA 5 (.string t0) rfl hS7 ?_
  refine tkA 6 (.int .i64 z) rfl hS7 ?_
  refine wpAnyH_done (by kernel_rfl) ?_ _
  clear hS5 hS6 hS7 s0 s1 s2 s3 k0 k1 k2 k3
  go_simp
  go_wp2
  exact bodyPost_ret (v := .tuple #[.agg #[.int .i64 wd, .int .i64 room, .slice ai its.length ci, .slice ap ts.length cp], .string t0, .int .i64 z]) (by simp [results, Tryz.results4, go_sem, ZZ.out.cell]) rfl ⟨wd, room, _, _, its, ts, t0, z, rfl, HSM.out, HSO.out.base (by omega), (by omega), HBL.out⟩
end Go.Proofs.YtkjdabnglcabiaaGreatDoor
