import Derived.Test.YtkjdabnglcabiaaGreatDoorSaveSpec
import Derived.Test.YtkjdabnglcabiaaGreatDoorAddSpec
import Derived.Test.YtkjdabnglcabiaaGreatDoorBend
import Derived.Test.YtkjdabnglcabiaaGreatDoorShort
import Derived.Deep.CutRange
/- A store that is being drawn, in memory. -/
namespace Go.Proofs.YtkjdabnglcabiaaGreatDoor
open Go.RowKit
/-- A literal row of numbers: whichever is read is one of them. -/
theorem six_among (w w4 : World) (a b c d e f : Int) {rb x : Nat} (hg : (w.alloc (.cells #[.int .i64 a, .int .i64 b, .int .i64 c, .int .i64 d, .int .i64 e, .int .i64 f] 3)).grownBy w4 (some rb)) (hr : rb < w.heap.size) (hx : x < 6) : ∃ z : Int, w4.cell? ⟨w.heap.size, x, none⟩ = some (.int .i64 z) ∧ (z = a ∨ z = b ∨ z = c ∨ z = d ∨ z = e ∨ z = f) := by
 have h := (Blk.new w 3 #[.int .i64 a, .int .i64 b, .int .i64 c, .int .i64 d, .int .i64 e, .int .i64 f]).kept hg (fun e => by have := Option.some.inj e; omega)
 obtain rfl | rfl | rfl | rfl | rfl | rfl : x = 0 ∨ x = 1 ∨ x = 2 ∨ x = 3 ∨ x = 4 ∨ x = 5 := by omega
 ·exact ⟨a, h.cell 0, .inl rfl⟩
 ·exact ⟨b, h.cell 1, .inr (.inl rfl)⟩
 ·exact ⟨c, h.cell 2, .inr (.inr (.inl rfl))⟩
 ·exact ⟨d, h.cell 3, .inr (.inr (.inr (.inl rfl)))⟩
 ·exact ⟨e, h.cell 4, .inr (.inr (.inr (.inr (.inl rfl))))⟩
 ·exact ⟨f, h.cell 5, .inr (.inr (.inr (.inr (.inr rfl))))⟩
set_option maxRecDepth 100000 in
set_option maxHeartbeats 2000000 in
theorem l1DrawWidth_own (rb : Nat) (a : Option Addr) (nn cap : Nat) (bs : List Int) (p : Nat) (w : World) (h : Rd w rb a nn cap bs p) (hp : p ≤ 800000) :
  Calls Tryz.prog 65 #[.pointer (some ⟨rb, 0, none⟩)] w fun e w' => ∃ z : Int, e = .returned (.int .i64 z) ∧ isW z = true ∧ Rd w' rb a nn cap bs (p + 1) ∧ w.grownBy w' (some rb) := by
 have HP := hid fun (q : Nat) (n : Int) (W : World) (hr : Rd W rb a nn cap bs q) (h1 : 1 ≤ n) (h2 : n ≤ 100000) (hq : q ≤ 1000000) => pick_any rb a nn cap bs q n W hr h1 h2 hq
 have hlt := h.lt
 have HRA : Hid (Rd (w.alloc (.cells #[.int .i64 8, .int .i64 8, .int .i64 8, .int .i64 4, .int .i64 2, .int .i64 1] 3)) rb a nn cap bs p) := h.keep ((Below.refl (rb + 1) w).alloc hlt _)
 have HTA := hid fun (w4 : World) (x : Nat) (hx : x < 6) (hg : (w.alloc (.cells #[.int .i64 8, .int .i64 8, .int .i64 8, .int .i64 4, .int .i64 2, .int .i64 1] 3)).grownBy w4 (some rb)) => six_among w w4 8 8 8 4 2 1 hg hlt hx
 have HFA := hid fun (w4 : World) (hg : (w.alloc (.cells #[.int .i64 8, .int .i64 8, .int .i64 8, .int .i64 4, .int .i64 2, .int .i64 1] 3)).grownBy w4 (some rb)) => grown_pick (World.grownBy_alloc w (.cells #[.int .i64 8, .int .i64 8, .int .i64 8, .int .i64 4, .int .i64 2, .int .i64 1] 3) (some rb)) hg
 clear h
 go_enter Tryz.func65, Tryz.ntmps65
 go_wp2_with fail
 refine (HP.out p 6 _ HRA.out (by omega) (by omega) (by omega)).mono ?_
 rintro e w4 ⟨x4, rfl, hx4, hr4, hg4⟩
 obtain ⟨z, hz, hzv⟩ := HTA.out w4 x4 (by omega) hg4
 have HF := hid (HFA.out w4 hg4)
 have HR4 := hid hr4
 have HV : Hid (isW z = true) := hid (by rcases hzv with rfl | rfl | rfl | rfl | rfl | rfl <;> rfl)
 clear hr4 hg4 HTA HFA HRA hzv
 go_wp2
 go_ret
 exact ⟨z, rfl, HV.out, HR4.out, HF.out⟩
/-- Four cells of a block. -/
def set4 (u : World) (b : Nat) (d0 d1 d2 d3 : Value) : World := ((((u.setCell ⟨b, 0, none⟩ d0).setCell ⟨b, 1, none⟩ d1).setCell ⟨b, 2, none⟩ d2).setCell ⟨b, 3, none⟩ d3)
theorem grown_set4 (u : World) (b : Nat) (d0 d1 d2 d3 : Value) : u.grownBy (set4 u b d0 d1 d2 d3) (some b) :=
 grown_same (grown_same (grown_same (grownBy_setCellAt u b 0 d0) (grownBy_setCellAt _ b 1 d1)) (grownBy_setCellAt _ b 2 d2)) (grownBy_setCellAt _ b 3 d3)
theorem own_other {W W' : World} {B k : Nat} {vi vp : Value} {its : Itms} {ts : List ByteArray} {cs : Array Value} (h : StoreOwn W B vi vp its ts) (hb : Blk W k 26 cs) (hg : W.grownBy W' (some k)) : StoreOwn W' B vi vp its ts :=
 ⟨(But.of_grown (P := fun x => x = k) hg rfl).row h.items (fun g e he => row_no_blk h.items hb (by decide) (e.trans (congrArg some he))),
  (But.of_grown (P := fun x => x = k) hg rfl).row h.pins (fun g e he => row_no_blk h.pins hb (by decide) (e.trans (congrArg some he))), h.apart⟩
/-- A store in a variable, its rows with it. -/
structure SBox (W : World) (B sb : Nat) (wd room : Int) (vi vp : Value) (its : Itms) (ts : List ByteArray) : Prop where
 blk : Blk W sb 26 #[.int .i64 wd, .int .i64 room, vi, vp]
 own : StoreOwn W B vi vp its ts
section
variable {W W' : World} {B sb k : Nat} {wd room : Int} {vi vp : Value} {its : Itms} {ts : List ByteArray}
theorem SBox.low (h : SBox W B sb wd room vi vp its ts) (hg : W.grownBy W' (some k)) (hk : k < B) (hs : k ≠ sb) : SBox W' B sb wd room vi vp its ts := ⟨h.blk.kept hg (fun e => hs (Option.some.inj e).symm), h.own.kept hg hk⟩
theorem SBox.other {cs : Array Value} (h : SBox W B sb wd room vi vp its ts) (hb : Blk W k 26 cs) (hg : W.grownBy W' (some k)) (hs : k ≠ sb) : SBox W' B sb wd room vi vp its ts := ⟨h.blk.kept hg (fun e => hs (Option.some.inj e).symm), own_other h.own hb hg⟩
theorem SBox.below (h : SBox W B sb wd room vi vp its ts) (hb : Below W.heap.size W W') : SBox W' B sb wd room vi vp its ts := ⟨h.blk.below hb, h.own.below hb⟩
/-- Another store written into the variable. -/
theorem SBox.put {wd' room' : Int} {vi' vp' : Value} {its' : Itms} {ts' : List ByteArray} {c0 c1 c2 c3 : Value} (h : Blk W sb 26 #[c0, c1, c2, c3]) (hx : StoreOwn W B vi' vp' its' ts') : SBox (set4 W sb (.int .i64 wd') (.int .i64 room') vi' vp') B sb wd' room' vi' vp' its' ts' :=
 ⟨(h.store4 (.int .i64 wd') (.int .i64 room') vi' vp').z, own_other hx h (grown_set4 _ _ _ _ _ _)⟩
end
/-- What lies in memory while a store is being drawn. -/
structure DrawAt (w0 : World) (rb : Nat) (a : Option Addr) (nn cap : Nat) (bs : List Int) (p sb : Nat) (W : World) (wd room : Int) (vi vp : Value) (its : Itms) (ts : List ByteArray) : Prop where
 rd : Rd W rb a nn cap bs p
 box : SBox W (w0.heap.size + 1) sb wd room vi vp its ts
 res : Blk W w0.heap.size 26 #[.int .i64 0, .int .i64 0, .slice none 0 0, .slice none 0 0]
 ok : ValidSt wd room its ts
 grown : w0.grownBy W (some rb)
 lt : rb < w0.heap.size
 above : w0.heap.size < sb
section
variable {w0 W W' : World} {rb : Nat} {a : Option Addr} {nn cap : Nat} {bs : List Int} {p q sb k : Nat} {wd room : Int} {vi vp : Value} {its : Itms} {ts : List ByteArray}
theorem DrawAt.pick (h : DrawAt w0 rb a nn cap bs p sb W wd room vi vp its ts) (hg : W.grownBy W' (some rb)) (hr : Rd W' rb a nn cap bs q) : DrawAt w0 rb a nn cap bs q sb W' wd room vi vp its ts :=
 have h1 := h.lt
 have h2 := h.above
 ⟨hr, h.box.low hg (by omega) (by omega), h.res.kept hg (fun e => by have := Option.some.inj e; omega), h.ok, grown_pick h.grown hg, h.lt, h.above⟩
theorem DrawAt.below (h : DrawAt w0 rb a nn cap bs p sb W wd room vi vp its ts) (hb : Below W.heap.size W W') : DrawAt w0 rb a nn cap bs p sb W' wd room vi vp its ts :=
 have h1 := h.rd.lt
 ⟨h.rd.keep (hb.mono (by omega)), h.box.below hb, h.res.below hb, h.ok, grown_pick h.grown (grown_below' hb), h.lt, h.above⟩
theorem DrawAt.other {cs : Array Value} (h : DrawAt w0 rb a nn cap bs p sb W wd room vi vp its ts) (hb : Blk W k 26 cs) (hg : W.grownBy W' (some k)) (hs : k ≠ sb) (hk : w0.heap.size < k) : DrawAt w0 rb a nn cap bs p sb W' wd room vi vp its ts :=
 have h1 := h.lt
 ⟨h.rd.keep ((grown_below hg hb.lt).mono (by omega)), h.box.other hb hg hs, h.res.kept hg (fun e => by have := Option.some.inj e; omega), h.ok, grownBy_trans h.grown hg (fun g e => .inr (by cases e; omega)), h.lt, h.above⟩
theorem DrawAt.take {wd' room' : Int} {vi' vp' : Value} {its' : Itms} {ts' : List ByteArray} (h : DrawAt w0 rb a nn cap bs p sb W wd room vi vp its ts) (hx : StoreOwn W (w0.heap.size + 1) vi' vp' its' ts') (hv : ValidSt wd' room' its' ts') : DrawAt w0 rb a nn cap bs p sb (set4 W sb (.int .i64 wd') (.int .i64 room') vi' vp') wd' room' vi' vp' its' ts' :=
 have h1 := h.lt
 have h2 := h.above
 have hg := grown_set4 W sb (.int .i64 wd') (.int .i64 room') vi' vp'
 ⟨h.rd.keep ((grown_below hg h.box.blk.lt).mono (by omega)), SBox.put h.box.blk hx, h.res.kept hg (fun e => by have := Option.some.inj e; omega), hv, grownBy_trans h.grown hg (fun g e => .inr (by cases e; omega)), h.lt, h.above⟩
end
/-- An empty store that is drawn. -/
theorem valid_none {wd room : Int} (hw : isW wd = true) (h0 : 0 ≤ room) (h1 : room ≤ 60000) : ValidSt wd room [] [] where
 width := hw
 room0 := h0
 room1 := h1
 items := by simp
 pins := by simp
 each := fun i hi => absurd hi (by simp)
 sums := fun i hi => absurd hi (by simp)
 fits := by simpa [totI] using h0
theorem PutR.ok0 {wd room : Int} {its : Itms} {ts : List ByteArray} {t : ByteArray} {now wd' room' : Int} {its' : Itms} {ts' : List ByteArray} {code : Int} (hv : ValidSt wd room its ts) (h : PutR wd room its ts t now wd' room' its' ts' code) (hc : code = 0) : ValidSt wd' room' its' ts' := by
 subst hc
 rcases h.parts hv with ⟨h0, _⟩ | ⟨_, hp, hi, rfl, rfl, rfl⟩
 ·exact absurd rfl h0
 ·exact hi.valid hv hp
theorem SaveR.ok0 {wd room : Int} {its : Itms} {ts : List ByteArray} {s : ByteArray} {now wd' room' : Int} {its' : Itms} {ts' : List ByteArray} {code : Int} (h : SaveR wd room its ts s now wd' room' its' ts' code) (hc : code = 0) : ValidSt wd' room' its' ts' := by
 subst hc
 rcases h with ⟨_, _, _, _, _, h0⟩ | ⟨ho, c, b, hs, hc, ⟨h0, _⟩ | ⟨rfl, rfl, rfl, rfl, rfl⟩⟩
 ·cases h0
 ·exact absurd hc.symm h0
 ·exact hs.valid ho.1
theorem UnpinR.ok0 {wd room : Int} {its : Itms} {ts : List ByteArray} {name : ByteArray} {wd' room' : Int} {its' : Itms} {ts' : List ByteArray} {code : Int} (h : UnpinR wd room its ts name wd' room' its' ts' code) (hc : code = 0) : ValidSt wd' room' its' ts' := by
 subst hc
 rcases h with ⟨_, _, _, _, _, h0⟩ | ⟨_, _, _, _, _, _, h0⟩ | ⟨⟨hv, _⟩, rfl, rfl, rfl, _, i, hi, _, rfl⟩
 ·cases h0
 ·cases h0
 ·refine ⟨hv.width, hv.room0, hv.room1, hv.items, by have := hv.pins; rw [List.length_eraseIdx]; split <;> omega, hv.each, ?_, hv.fits⟩
  exact okSums_of ((okSums_asc hv.sums).sublist (List.eraseIdx_sublist ts i)) fun t ht => okSums_size hv.sums t ((List.eraseIdx_sublist ts i).subset ht)
end Go.Proofs.YtkjdabnglcabiaaGreatDoor
/- l4Draw: a store that is drawn. -/
namespace Go.Proofs.YtkjdabnglcabiaaGreatDoor
open Go.RowKit
theorem SBox.cells {W : World} {B sb : Nat} {wd room : Int} {vi vp : Value} {its : Itms} {ts : List ByteArray} (h : SBox W B sb wd room vi vp its ts) : W.cell? ⟨sb, 0, none⟩ = some (.int .i64 wd) ∧ W.cell? ⟨sb, 1, none⟩ = some (.int .i64 room) ∧ W.cell? ⟨sb, 2, none⟩ = some vi ∧ W.cell? ⟨sb, 3, none⟩ = some vp := ⟨h.blk.cell 0, h.blk.cell 1, h.blk.cell 2, h.blk.cell 3⟩
theorem ValidSt.small {wd room : Int} {its : Itms} {ts : List ByteArray} (h : ValidSt wd room its ts) : its.length ≤ 1048576 ∧ ts.length ≤ 1048576 ∧ (∀ i, (itx its i).size ≤ 1048576) ∧ (∀ i, (tv ts i).size ≤ 1048576) :=
 ⟨by have := h.items; omega, by have := h.pins; omega, item_small h.each, pin_small h.sums (by have := h.width; simp [isW] at this; omega)⟩
theorem DrawAt.drew {w0 W : World} {rb : Nat} {a : Option Addr} {nn cap : Nat} {bs : List Int} {p sb : Nat} {wd room : Int} {vi vp : Value} {its : Itms} {ts : List ByteArray} (h : DrawAt w0 rb a nn cap bs p sb W wd room vi vp its ts) : DrawAt w0 rb a nn cap bs p sb W.drew wd room vi vp its ts := h.below (below_drewN (Below.refl _ _) 1)
set_option maxRecDepth 100000 in
set_option maxHeartbeats 8000000 in
theorem l4Draw_any (rb : Nat) (a : Option Addr) (nn cap : Nat) (bs : List Int) (p : Nat) (w : World) (h : Rd w rb a nn cap bs p) (hp : p ≤ 700000) :
  Calls Tryz.prog 35 #[.pointer (some ⟨rb, 0, none⟩)] w fun e w' => ∃ wd room vi vp its ts p', e = .returned (.agg #[.int .i64 wd, .int .i64 room, vi, vp]) ∧ ValidSt wd room its ts ∧ StoreOwn w' (w.heap.size + 1) vi vp its ts ∧ p' ≤ p + 50 ∧ Rd w' rb a nn cap bs p' ∧ w.grownBy w' (some rb) := by
 have HP := hid fun (q : Nat) (n : Int) (W : World) (hr : Rd W rb a nn cap bs q) (h1 : 1 ≤ n) (h2 : n ≤ 100000) (hq : q ≤ 1000000) => pick_any rb a nn cap bs q n W hr h1 h2 hq
 have HT := hid fun (q : Nat) (W : World) (hr : Rd W rb a nn cap bs q) (hq : q ≤ 900000) => l2Thing_own rb a nn cap bs q W hr hq
 have hlt := h.lt
 have HG0 := hid (World.grownBy_alloc w (.cells #[.int .i64 0, .int .i64 0, .slice none 0 0, .slice none 0 0] 26) (some rb))
 have HR0 := hid (h.keep ((Below.refl (rb + 1) w).alloc hlt (.cells #[.int .i64 0, .int .i64 0, .slice none 0 0, .slice none 0 0] 26)))
 have HZ0 := hid (Blk.new w 26 #[.int .i64 0, .int .i64 0, .slice none 0 0, .slice none 0 0])
 have HW := hid (l1DrawWidth_own rb a nn cap bs p _ HR0.out (by omega))
 clear h
 go_enter Tryz.func35, Tryz.ntmps35
 go_wp2_with fail
 refine HW.out.mono ?_
 rintro e w1 ⟨wd, rfl, hwd, hr1, hg1⟩
 have hs1 := hg1.size
 rw [World.size_alloc] at hs1
 have HR1 := hid (hr1.keep ((Below.refl (rb + 1) w1).alloc hr1.lt (.cells #[.int .i64 0, .int .i64 100, .int .i64 800, .int .i64 2000, .int .i64 6000, .int .i64 60000] 3)))
 have HZ1 := hid ((HZ0.out.kept hg1 (fun e => by have := Option.some.inj e; omega)).alloc (.cells #[.int .i64 0, .int .i64 100, .int .i64 800, .int .i64 2000, .int .i64 6000, .int .i64 60000] 3))
 have HG1 := hid (grown_alloc (grown_pick HG0.out hg1) (.cells #[.int .i64 0, .int .i64 100, .int .i64 800, .int .i64 2000, .int .i64 6000, .int .i64 60000] 3))
 have HTA := hid fun (w4 : World) (x : Nat) (hx : x < 6) (hg : (w1.alloc (.cells #[.int .i64 0, .int .i64 100, .int .i64 800, .int .i64 2000, .int .i64 6000, .int .i64 60000] 3)).grownBy w4 (some rb)) => six_among w1 w4 0 100 800 2000 6000 60000 hg (by omega) hx
 have HWD := hid hwd
 have hs2 : (w1.alloc (.cells #[.int .i64 0, .int .i64 100, .int .i64 800, .int .i64 2000, .int .i64 6000, .int .i64 60000] 3)).heap.size = w1.heap.size + 1 := World.size_alloc _ _
 clear hr1 hg1 HG0 HR0 HZ0 HW hwd
 go_wp2_with fail
 refine (HP.out (p + 1) 6 _ HR1.out (by omega) (by omega) (by omega)).mono ?_
 rintro e w2 ⟨x, rfl, hx, hr2, hg2⟩
 obtain ⟨room, hc, hroom⟩ := HTA.out w2 x (by omega) hg2
 have hs3 := hg2.size
 have hroom : 0 ≤ room ∧ room ≤ 60000 := by omega
 have HD : Hid (DrawAt w rb a nn cap bs (p + 1 + 1) w2.heap.size (w2.alloc (.cells #[.int .i64 wd, .int .i64 room, .slice none 0 0, .slice none 0 0] 26)) wd room (.slice none 0 0) (.slice none 0 0) [] []) := hid
  ⟨hr2.keep ((Below.refl (rb + 1) w2).alloc hr2.lt _), ⟨Blk.new w2 _ _, StoreOwn.none _ _⟩, (HZ1.out.kept hg2 (fun e => by have := Option.some.inj e; omega)).alloc _, valid_none HWD.out hroom.1 hroom.2, grown_alloc (grown_pick HG1.out hg2) _, hlt, by omega⟩
 clear hr2 hg2 HTA HG1 HZ1 HR1 hroom
 go_wp2_with fail
 refine (HP.out (p + 1 + 1) 6 _ HD.out.rd (by omega) (by omega) (by omega)).mono ?_
 rintro e w3 ⟨n, rfl, hn, hr3, hg3⟩
 have HD3 := hid (HD.out.pick hg3 hr3)
 obtain ⟨sb, hsb⟩ : ∃ x, x = w2.heap.size := ⟨_, rfl⟩
 rw [← hsb] at HD3
 rw [← hsb]
 clear hr3 hg3 HD hc hsb hs1 hs2 hs3 HWD
 go_wp2
 go_loopw [4] (fun nv wr => ∃ (k q : Nat) (wd room : Int) (vi vp : Value) (its : Itms) (ts : List ByteArray), nv = .int .i64 k ∧ k ≤ 5 ∧ q + 7 * k ≤ p + 3 + 35 ∧ DrawAt w rb a nn cap bs q sb wr wd room vi vp its ts) (fun nv _ => (intOf nv).toNat)
 case atStart => exact ⟨n, _, _, _, _, _, _, _, rfl, by omega, by omega, HD3.out⟩
 case round =>
  obtain ⟨k, q, wd, room, vi, vp, its, ts, rfl, hk, hq, hd⟩ := hrel
  obtain ⟨va, vc, rfl⟩ := row_any hd.box.own.items
  obtain ⟨vb, vd, rfl⟩ := row_any hd.box.own.pins
  obtain ⟨w4, rfl⟩ : ∃ x, x = wr := ⟨_, rfl⟩
  have HD := hid hd
  have hsm := hd.ok.small
  by_cases hk0 : 0 < k
  case neg =>
   obtain rfl : k = 0 := by omega
   obtain ⟨x0, x1, x2, x3⟩ := hd.box.cells
   have HCP := hid (l4Copy_row wd room _ _ its ts w4 _ _ hd.box.own.items hd.box.own.pins hsm.1 hsm.2.1)
   clear hd hk0 hsm
   go_wp2_with fail
   refine HCP.out.mono ?_
   rintro e w5 ⟨v5, p5, rfl, hi5, hp5, hap, hb5⟩
   obtain ⟨a5, c5, rfl⟩ := row_any hi5
   obtain ⟨b5, d5, rfl⟩ := row_any hp5
   have D5 := HD.out.below hb5
   have h45 := hb5.size
   have h46 := HD.out.grown.size
   have SO5 : StoreOwn w5 (w.heap.size + 1) (.slice a5 its.length c5) (.slice b5 ts.length d5) its ts := StoreOwn.base ⟨hi5, hp5, hap⟩ (by omega)
   have HG := hid (grown_set4 w5 w.heap.size (.int .i64 wd) (.int .i64 room) (.slice a5 its.length c5) (.slice b5 ts.length d5))
   have HSO := hid (own_other SO5 D5.res HG.out)
   have HRD := hid (D5.rd.keep ((grown_below HG.out D5.res.lt).mono (by omega)))
   have HGR := hid (grownBy_trans D5.grown HG.out (fun g e => .inr (by cases e; omega)))
   have s9 := D5.res.store4 (.int .i64 wd) (.int .i64 room) (.slice a5 its.length c5) (.slice b5 ts.length d5)
   have s0 := s9.a0; have s1 := s9.a1; have s2 := s9.a2; have s3 := s9.a3
   have k0 := s9.f0; have k1 := s9.f1; have k2 := s9.f2; have k3 := s9.f3
   have ZZ := hid s9.z
   have HV := hid HD.out.ok
   clear s9 D5 SO5 hi5 hp5 hap hb5 HCP x0 x1 x2 x3 HG HD
   go_wp2
   exact bodyPost_ret (v := .agg #[.int .i64 wd, .int .i64 room, .slice a5 its.length c5, .slice b5 ts.length d5]) (by simp [results, Tryz.results35, go_sem, ZZ.out.cell]) rfl ⟨wd, room, _, _, its, ts, q, rfl, HV.out, HSO.out, by omega, HRD.out, HGR.out⟩
  have hki : (0 : Int) < ((k : Nat) : Int) := by omega
  have HT1 := hid (HT.out q w4 HD.out.rd (by omega))
  clear hd
  go_wp2_with fail
  refine HT1.out.mono ?_
  rintro e w5 ⟨t0, rfl, ht0, q1, hq1, hr5, hg5⟩
  have HD5 := hid (HD.out.pick hg5 hr5)
  clear hr5 hg5 HD HT1
  go_upto_if 26 with fail
  go_cut [5] from 18 to 72 (fun s5 wx => ∃ t : ByteArray, s5 = .string t ∧ t.size ≤ 3000 ∧ DrawAt w rb a nn cap bs q1 sb wx wd room (.slice va its.length vc) (.slice vb ts.length vd) its ts)
  case first =>
   by_cases h4 : 400 < t0.size
   ·have h4i : (400 : Int) < ((t0.size : Nat) : Int) := by omega
    go_wp2_with fail
    go_meet
    exact ⟨_, rfl, by first | (simp; omega) | (simp [ByteArray.size_extract]; omega), HD5.out⟩
   ·have h4i : ¬ (400 : Int) < ((t0.size : Nat) : Int) := by omega
    go_wp2_with fail
    go_meet
    exact ⟨t0, rfl, ht0, HD5.out⟩
  case rest =>
  obtain ⟨w6, hw6⟩ : ∃ x, x = wc := ⟨_, rfl⟩
  subst hw6
  obtain ⟨t, rfl, htz, hd6⟩ := hcut
  obtain ⟨x0, x1, x2, x3⟩ := hd6.box.cells
  have hz6 := hd6.grown.size
  have hz7 := hd6.box.blk.lt
  have hA := (Below.refl w6.heap.size w6).alloc (Nat.le_refl _) (.cells #[.int .i64 wd, .int .i64 room, .slice va its.length vc, .slice vb ts.length vd] 26)
  have HD7 := hid (hd6.below hA)
  have HX7 : Hid (SBox (w6.alloc (.cells #[.int .i64 wd, .int .i64 room, .slice va its.length vc, .slice vb ts.length vd] 26)) (w.heap.size + 1) w6.heap.size wd room (.slice va its.length vc) (.slice vb ts.length vd) its ts) := hid ⟨Blk.new w6 _ _, hd6.box.own.below hA⟩
  obtain ⟨xb, hxb⟩ : ∃ x, x = w6.heap.size := ⟨_, rfl⟩
  rw [← hxb] at HX7
  have hxn : w.heap.size < xb := by have := hd6.above; omega
  have hxs : xb ≠ sb := by omega
  have hxr : xb ≠ rb := by omega
  clear hd6 HD5 hA ht0
  go_wp2_with fail
  refine (HP.out q1 5 _ HD7.out.rd (by omega) (by omega) (by omega)).mono ?_
  rintro e w8 ⟨y, rfl, hy, hr8, hg8⟩
  have HD8 := hid (HD7.out.pick hg8 hr8)
  have HX8 := hid (HX7.out.low hg8 (by omega) (Ne.symm hxr))
  rw [← hxb]
  clear hr8 hg8 HD7 HX7 hxb x0 x1 x2 x3 hz6 hz7
  obtain ⟨w9, hw9⟩ : ∃ x, x = w8.drew := ⟨_, rfl⟩
  have HD9 : Hid (DrawAt w rb a nn cap bs (q1 + 1) sb w9 wd room (.slice va its.length vc) (.slice vb ts.length vd) its ts) := hid (by rw [hw9]; exact HD8.out.drew)
  have HX9 : Hid (SBox w9 (w.heap.size + 1) xb wd room (.slice va its.length vc) (.slice vb ts.length vd) its ts) := hid (by rw [hw9]; exact HX8.out.below (below_drewN (Below.refl _ _) 1))
  have hS9 : w9.cell? ⟨sb, 0, none⟩ = some (.int .i64 wd) ∧ w9.cell? ⟨sb, 1, none⟩ = some (.int .i64 room) ∧ w9.cell? ⟨sb, 2, none⟩ = some (.slice va its.length vc) ∧ w9.cell? ⟨sb, 3, none⟩ = some (.slice vb ts.length vd) := HD9.out.box.cells
  have hy5 : y = 0 ∨ y = 1 ∨ 2 ≤ y := by omega
  have HLL := hid hsm
  have hd8 := HD8.out
  have hx8 := HX8.out
  rcases hy5 with rfl | rfl | hy2
  ·go_upto_region 13 with fail
   refine wp_region_held (S := fun w' => w'.cell? ⟨sb, 0, none⟩ = some (.int .i64 wd) ∧ w'.cell? ⟨sb, 1, none⟩ = some (.int .i64 room) ∧ w'.cell? ⟨sb, 2, none⟩ = some (.slice va its.length vc) ∧ w'.cell? ⟨sb, 3, none⟩ = some (.slice vb ts.length vd)) (by kernel_rfl) ?_
   change wpAnyH _ _ _ _ _ _ _ _ (World.drew _)
   rw [← hw9]
   clear hw9 hd8 hx8 HD8 HX8
   refine tkA 0 (.agg #[.int .i64 wd, .int .i64 room, .slice va its.length vc, .slice vb ts.length vd]) rfl hS9 ?_
   refine tkA 1 (.string t) rfl hS9 ?_
   refine tkA 2 (.pointer (some ⟨rb, 0, none⟩)) rfl hS9 ?_
   refine held_one 3 (by kernel_rfl) (op_calls (f := 15) (args := #[.pointer (some ⟨rb, 0, none⟩), .int .i64 50]) rfl rfl (by go_simp) (HP.out (q1 + 1) 50 w9 HD9.out.rd (by omega) (by omega) (by omega)) ?_)
   rintro e w10 ⟨now, rfl, hnow, hr10, hg10⟩
   have HDA := hid (HD9.out.pick hg10 hr10)
   have HXA := hid (HX9.out.low hg10 (by omega) (Ne.symm hxr))
   have hS10 : w10.cell? ⟨sb, 0, none⟩ = some (.int .i64 wd) ∧ w10.cell? ⟨sb, 1, none⟩ = some (.int .i64 room) ∧ w10.cell? ⟨sb, 2, none⟩ = some (.slice va its.length vc) ∧ w10.cell? ⟨sb, 3, none⟩ = some (.slice vb ts.length vd) := HDA.out.box.cells
   clear hr10 hg10 HD9 HX9 hS9
   refine ⟨_, rfl, hS10, ?_⟩
   have HC := hid (specPut_any wd room (.slice va its.length vc) (.slice vb ts.length vd) its ts t (now : Nat) w10 _ _ HDA.out.box.own.items HDA.out.box.own.pins HLL.out.1 HLL.out.2.1 HLL.out.2.2.1 HLL.out.2.2.2 (by omega))
   refine held_one 4 (by kernel_rfl) (op_calls (f := 28) (args := #[.agg #[.int .i64 wd, .int .i64 room, .slice va its.length vc, .slice vb ts.length vd], .string t, .int .i64 (now : Nat)]) rfl rfl (by go_simp) HC.out ?_)
   rintro e w11 ⟨wd9, room9, its9, ts9, code9, vi9, vp9, rfl, hput, so9, hb9⟩
   obtain ⟨a9, c9, rfl⟩ := row_any so9.items
   obtain ⟨b9, d9, rfl⟩ := row_any so9.pins
   have hz10 := HDA.out.grown.size
   have HVV := hid fun (h0 : code9 = 0) => PutR.ok0 HDA.out.ok hput h0
   have HSO := hid (so9.base (B' := w.heap.size + 1) (by omega))
   have HDB := hid (HDA.out.below hb9)
   have HXB := hid (HXA.out.below hb9)
   have hS11 : w11.cell? ⟨sb, 0, none⟩ = some (.int .i64 wd) ∧ w11.cell? ⟨sb, 1, none⟩ = some (.int .i64 room) ∧ w11.cell? ⟨sb, 2, none⟩ = some (.slice va its.length vc) ∧ w11.cell? ⟨sb, 3, none⟩ = some (.slice vb ts.length vd) := HDB.out.box.cells
   clear HC HDA HXA hS10 hput so9 hb9 hz10
   refine ⟨_, rfl, hS11, ?_⟩
   refine tkA 5 (.tuple #[.agg #[.int .i64 wd9, .int .i64 room9, .slice a9 its9.length c9, .slice b9 ts9.length d9], .int .i64 code9]) rfl hS11 ?_
   refine tkA 6 (.agg #[.int .i64 wd9, .int .i64 room9, .slice a9 its9.length c9, .slice b9 ts9.length d9]) rfl hS11 ?_
   refine tkA 7 (.int .i64 code9) rfl hS11 ?_

   have HDT := hid (HDB.out.other HXB.out.blk (grown_set4 w11 xb (.int .i64 wd9) (.int .i64 room9) (.slice a9 its9.length c9) (.slice b9 ts9.length d9)) hxs hxn)
   have HXT := hid (SBox.put (wd' := wd9) (room' := room9) HXB.out.blk HSO.out)
   have s9 := HXB.out.blk.store4 (.int .i64 wd9) (.int .i64 room9) (.slice a9 its9.length c9) (.slice b9 ts9.length d9)
   have s0 := s9.a0; have s1 := s9.a1; have s2 := s9.a2; have s3 := s9.a3
   have k0 := s9.f0; have k1 := s9.f1; have k2 := s9.f2; have k3 := s9.f3
   clear s9 HXB HSO HDB
   unfold set4 at HDT HXT
   have hS12 := HDT.out.box.cells
   refine held_one 8 (by kernel_rfl) (op_skip (w' := ((((w11.setCell ⟨xb, 0, none⟩ (.int .i64 wd9)).setCell ⟨xb, 1, none⟩ (.int .i64 room9)).setCell ⟨xb, 2, none⟩ (.slice a9 its9.length c9)).setCell ⟨xb, 3, none⟩ (.slice b9 ts9.length d9))) rfl rfl (by go_simp) ⟨hS12, ?_⟩)
   refine tkA 9 (.int .i64 code9) rfl hS12 ?_
   refine wpAnyH_done (by kernel_rfl) ?_ _
   clear s0 s1 s2 s3 k0 k1 k2 k3 hS11 hS12
   obtain ⟨w12, hw12⟩ : ∃ x, x = ((((w11.setCell ⟨xb, 0, none⟩ (.int .i64 wd9)).setCell ⟨xb, 1, none⟩ (.int .i64 room9)).setCell ⟨xb, 2, none⟩ (.slice a9 its9.length c9)).setCell ⟨xb, 3, none⟩ (.slice b9 ts9.length d9)) := ⟨_, rfl⟩
   rw [← hw12] at HDT HXT
   rw [← hw12]
   clear hw12
   have HVT : Hid (code9 = 0 → ValidSt wd9 room9 its9 ts9) := hid HVV.out
   by_cases hc0 : code9 = 0
   ·have HDE := hid (HDT.out.take HXT.out.own (HVT.out hc0))
    obtain ⟨y0, y1, y2, y3⟩ := HXT.out.cells
    have s9 := HDT.out.box.blk.store4 (.int .i64 wd9) (.int .i64 room9) (.slice a9 its9.length c9) (.slice b9 ts9.length d9)
    have s0 := s9.a0; have s1 := s9.a1; have s2 := s9.a2; have s3 := s9.a3
    have k0 := s9.f0; have k1 := s9.f1; have k2 := s9.f2; have k3 := s9.f3
    have hcb : (code9 == 0) = true := by simpa using hc0
    clear s9 HVT HDT HXT
    go_simp
    go_wp2
    exact ⟨⟨k - 1, q1 + 1 + 1, _, _, _, _, _, _, by go_num, by omega, by omega, HDE.out⟩, by simp [intOf]; omega⟩
   ·have hcb : (code9 == 0) = false := by simpa using hc0
    clear HVT HXT
    go_simp
    go_wp2
    exact ⟨⟨k - 1, q1 + 1 + 1, _, _, _, _, _, _, by go_num, by omega, by omega, HDT.out⟩, by simp [intOf]; omega⟩
  ·by_cases hp0 : 0 < ts.length
   ·have hp0i : (0 : Int) < ((ts.length : Nat) : Int) := by omega
    have hl10 := HD9.out.ok.pins
    obtain ⟨gp, capp, ep, hgp, hgpl⟩ := World.ownsRow.form HD9.out.box.own.pins hp0
    obtain ⟨rfl, _, rfl⟩ : vb = some ⟨gp, 0, none⟩ ∧ ts.length = ts.length ∧ vd = capp := Value.slice.inj ep
    clear ep
    obtain ⟨x0, x1, x2, x3⟩ := hd8.box.cells
    clear x0 x1 x2
    go_upto_region 16 with fail
    clear x3
    refine wp_region_held (S := fun w' => w'.cell? ⟨sb, 0, none⟩ = some (.int .i64 wd) ∧ w'.cell? ⟨sb, 1, none⟩ = some (.int .i64 room) ∧ w'.cell? ⟨sb, 2, none⟩ = some (.slice va its.length vc) ∧ w'.cell? ⟨sb, 3, none⟩ = some (.slice (some ⟨gp, 0, none⟩) ts.length vd)) (by kernel_rfl) ?_
    change wpAnyH _ _ _ _ _ _ _ _ (World.drew _)
    rw [← hw9]
    clear hw9 hd8 hx8 HD8 HX8
    refine tkA 0 (.agg #[.int .i64 wd, .int .i64 room, .slice va its.length vc, .slice (some ⟨gp, 0, none⟩) ts.length vd]) rfl hS9 ?_
    refine tkA 1 (.pointer (some ⟨sb, 3, none⟩)) rfl hS9 ?_
    refine tkA 2 (.slice (some ⟨gp, 0, none⟩) ts.length vd) rfl hS9 ?_
    refine tkA 3 (.pointer (some ⟨rb, 0, none⟩)) rfl hS9 ?_
    refine tkA 4 (.pointer (some ⟨sb, 3, none⟩)) rfl hS9 ?_
    refine tkA 5 (.slice (some ⟨gp, 0, none⟩) ts.length vd) rfl hS9 ?_
    refine tkA 6 (.int .i64 (ts.length : Nat)) rfl hS9 ?_
    refine held_one 7 (by kernel_rfl) (op_calls (f := 15) (args := #[.pointer (some ⟨rb, 0, none⟩), .int .i64 (ts.length : Nat)]) rfl rfl (by go_simp) (HP.out (q1 + 1) (ts.length : Nat) w9 HD9.out.rd (by omega) (by omega) (by omega)) ?_)
    rintro e w10 ⟨j, rfl, hj, hr10, hg10⟩
    have HDA := hid (HD9.out.pick hg10 hr10)
    have HXA := hid (HX9.out.low hg10 (by omega) (Ne.symm hxr))
    have hS10 : w10.cell? ⟨sb, 0, none⟩ = some (.int .i64 wd) ∧ w10.cell? ⟨sb, 1, none⟩ = some (.int .i64 room) ∧ w10.cell? ⟨sb, 2, none⟩ = some (.slice va its.length vc) ∧ w10.cell? ⟨sb, 3, none⟩ = some (.slice (some ⟨gp, 0, none⟩) ts.length vd) := HDA.out.box.cells
    clear hr10 hg10 HD9 HX9 hS9
    refine ⟨_, rfl, hS10, ?_⟩
    refine tkA 8 (.pointer (some ⟨gp, j, none⟩)) rfl hS10 ?_
    have hcj : w10.cell? ⟨gp, j, none⟩ = some (.string (tv ts j)) := by
     rw [HDA.out.box.own.pins.cellAt j (by omega)]
     simp [tv, show j < ts.length by omega]
    refine held_one 9 (by kernel_rfl) (op_value (v := .string (tv ts j)) (w' := w10) rfl rfl (by go_simp) ⟨hS10, ?_⟩)
    clear hcj
    have HC := hid (specUnpin_row wd room (.slice va its.length vc) (.slice (some ⟨gp, 0, none⟩) ts.length vd) its ts (tv ts j) w10 _ _ HDA.out.box.own.items HDA.out.box.own.pins HLL.out.1 HLL.out.2.1 HLL.out.2.2.1 HLL.out.2.2.2)
    refine held_one 10 (by kernel_rfl) (op_calls (f := 66) (args := #[.agg #[.int .i64 wd, .int .i64 room, .slice va its.length vc, .slice (some ⟨gp, 0, none⟩) ts.length vd], .string (tv ts j)]) rfl rfl (by go_simp) HC.out ?_)
    rintro e w11 ⟨wd9, room9, its9, ts9, code9, vi9, vp9, rfl, hput, so9, hb9⟩
    obtain ⟨a9, c9, rfl⟩ := row_any so9.items
    obtain ⟨b9, d9, rfl⟩ := row_any so9.pins
    have hz10 := HDA.out.grown.size
    have HVV := hid fun (h0 : code9 = 0) => UnpinR.ok0 hput h0
    have HSO := hid (so9.base (B' := w.heap.size + 1) (by omega))
    have HDB := hid (HDA.out.below hb9)
    have HXB := hid (HXA.out.below hb9)
    have hS11 : w11.cell? ⟨sb, 0, none⟩ = some (.int .i64 wd) ∧ w11.cell? ⟨sb, 1, none⟩ = some (.int .i64 room) ∧ w11.cell? ⟨sb, 2, none⟩ = some (.slice va its.length vc) ∧ w11.cell? ⟨sb, 3, none⟩ = some (.slice (some ⟨gp, 0, none⟩) ts.length vd) := HDB.out.box.cells
    clear HC HDA HXA hS10 hput so9 hb9 hz10
    refine ⟨_, rfl, hS11, ?_⟩
    refine tkA 11 (.tuple #[.agg #[.int .i64 wd9, .int .i64 room9, .slice a9 its9.length c9, .slice b9 ts9.length d9], .int .i64 code9]) rfl hS11 ?_
    refine tkA 12 (.agg #[.int .i64 wd9, .int .i64 room9, .slice a9 its9.length c9, .slice b9 ts9.length d9]) rfl hS11 ?_
    refine tkA 13 (.int .i64 code9) rfl hS11 ?_

    have HDT := hid (HDB.out.other HXB.out.blk (grown_set4 w11 xb (.int .i64 wd9) (.int .i64 room9) (.slice a9 its9.length c9) (.slice b9 ts9.length d9)) hxs hxn)
    have HXT := hid (SBox.put (wd' := wd9) (room' := room9) HXB.out.blk HSO.out)
    have s9 := HXB.out.blk.store4 (.int .i64 wd9) (.int .i64 room9) (.slice a9 its9.length c9) (.slice b9 ts9.length d9)
    have s0 := s9.a0; have s1 := s9.a1; have s2 := s9.a2; have s3 := s9.a3
    have k0 := s9.f0; have k1 := s9.f1; have k2 := s9.f2; have k3 := s9.f3
    clear s9 HXB HSO HDB
    unfold set4 at HDT HXT
    have hS12 := HDT.out.box.cells
    refine held_one 14 (by kernel_rfl) (op_skip (w' := ((((w11.setCell ⟨xb, 0, none⟩ (.int .i64 wd9)).setCell ⟨xb, 1, none⟩ (.int .i64 room9)).setCell ⟨xb, 2, none⟩ (.slice a9 its9.length c9)).setCell ⟨xb, 3, none⟩ (.slice b9 ts9.length d9))) rfl rfl (by go_simp) ⟨hS12, ?_⟩)
    refine tkA 15 (.int .i64 code9) rfl hS12 ?_
    refine wpAnyH_done (by kernel_rfl) ?_ _
    clear s0 s1 s2 s3 k0 k1 k2 k3 hS11 hS12
    obtain ⟨w12, hw12⟩ : ∃ x, x = ((((w11.setCell ⟨xb, 0, none⟩ (.int .i64 wd9)).setCell ⟨xb, 1, none⟩ (.int .i64 room9)).setCell ⟨xb, 2, none⟩ (.slice a9 its9.length c9)).setCell ⟨xb, 3, none⟩ (.slice b9 ts9.length d9)) := ⟨_, rfl⟩
    rw [← hw12] at HDT HXT
    rw [← hw12]
    clear hw12
    have HVT : Hid (code9 = 0 → ValidSt wd9 room9 its9 ts9) := hid HVV.out
    by_cases hc0 : code9 = 0
    ·have HDE := hid (HDT.out.take HXT.out.own (HVT.out hc0))
     obtain ⟨y0, y1, y2, y3⟩ := HXT.out.cells
     have s9 := HDT.out.box.blk.store4 (.int .i64 wd9) (.int .i64 room9) (.slice a9 its9.length c9) (.slice b9 ts9.length d9)
     have s0 := s9.a0; have s1 := s9.a1; have s2 := s9.a2; have s3 := s9.a3
     have k0 := s9.f0; have k1 := s9.f1; have k2 := s9.f2; have k3 := s9.f3
     have hcb : (code9 == 0) = true := by simpa using hc0
     clear s9 HVT HDT HXT
     go_simp
     go_wp2
     exact ⟨⟨k - 1, q1 + 1 + 1, _, _, _, _, _, _, by go_num, by omega, by omega, HDE.out⟩, by simp [intOf]; omega⟩
    ·have hcb : (code9 == 0) = false := by simpa using hc0
     clear HVT HXT
     go_simp
     go_wp2
     exact ⟨⟨k - 1, q1 + 1 + 1, _, _, _, _, _, _, by go_num, by omega, by omega, HDT.out⟩, by simp [intOf]; omega⟩
   ·have hp0i : ¬ (0 : Int) < ((ts.length : Nat) : Int) := by omega
    clear hS9 HD9 HX9 hw9
    have HDT := HD8
    obtain ⟨x0, x1, x2, x3⟩ := hd8.box.cells
    obtain ⟨y0, y1, y2, y3⟩ := hx8.cells
    have HDE := hid (hd8.take hx8.own hd8.ok)
    have s9 := hd8.box.blk.store4 (.int .i64 wd) (.int .i64 room) (.slice va its.length vc) (.slice vb ts.length vd)
    have s0 := s9.a0; have s1 := s9.a1; have s2 := s9.a2; have s3 := s9.a3
    have k0 := s9.f0; have k1 := s9.f1; have k2 := s9.f2; have k3 := s9.f3
    clear s9 hd8 hx8 HD8 HX8 HDT
    go_wp2
    exact ⟨⟨k - 1, q1 + 1, _, _, _, _, _, _, by go_num, by omega, by omega, HDE.out⟩, by simp [intOf]; omega⟩
  ·have hy0 : ((y : Nat) : Int) ≠ 0 := by omega
   have hy1 : ((y : Nat) : Int) ≠ 1 := by omega
   have hyb0 : (((y : Nat) : Int) == 0) = false := by simpa using hy0
   have hyb1 : (((y : Nat) : Int) == 1) = false := by simpa using hy1
   go_upto_region 11 with fail
   refine wp_region_held (S := fun w' => w'.cell? ⟨sb, 0, none⟩ = some (.int .i64 wd) ∧ w'.cell? ⟨sb, 1, none⟩ = some (.int .i64 room) ∧ w'.cell? ⟨sb, 2, none⟩ = some (.slice va its.length vc) ∧ w'.cell? ⟨sb, 3, none⟩ = some (.slice vb ts.length vd)) (by kernel_rfl) ?_
   change wpAnyH _ _ _ _ _ _ _ _ (World.drew _)
   rw [← hw9]
   clear hw9 hd8 hx8 HD8 HX8
   refine tkA 0 (.agg #[.int .i64 wd, .int .i64 room, .slice va its.length vc, .slice vb ts.length vd]) rfl hS9 ?_
   refine tkA 1 (.string t) rfl hS9 ?_
   refine tkA 2 (.pointer (some ⟨rb, 0, none⟩)) rfl hS9 ?_
   refine held_one 3 (by kernel_rfl) (op_calls (f := 15) (args := #[.pointer (some ⟨rb, 0, none⟩), .int .i64 50]) rfl rfl (by go_simp) (HP.out (q1 + 1) 50 w9 HD9.out.rd (by omega) (by omega) (by omega)) ?_)
   rintro e w10 ⟨now, rfl, hnow, hr10, hg10⟩
   have HDA := hid (HD9.out.pick hg10 hr10)
   have HXA := hid (HX9.out.low hg10 (by omega) (Ne.symm hxr))
   have hS10 : w10.cell? ⟨sb, 0, none⟩ = some (.int .i64 wd) ∧ w10.cell? ⟨sb, 1, none⟩ = some (.int .i64 room) ∧ w10.cell? ⟨sb, 2, none⟩ = some (.slice va its.length vc) ∧ w10.cell? ⟨sb, 3, none⟩ = some (.slice vb ts.length vd) := HDA.out.box.cells
   clear hr10 hg10 HD9 HX9 hS9
   refine ⟨_, rfl, hS10, ?_⟩
   have HC := hid (specSave_row wd room (.slice va its.length vc) (.slice vb ts.length vd) its ts t (now : Nat) w10 _ _ HDA.out.box.own.items HDA.out.box.own.pins HLL.out.1 HLL.out.2.1 HLL.out.2.2.1 HLL.out.2.2.2 (by omega))
   refine held_one 4 (by kernel_rfl) (op_calls (f := 6) (args := #[.agg #[.int .i64 wd, .int .i64 room, .slice va its.length vc, .slice vb ts.length vd], .string t, .int .i64 (now : Nat)]) rfl rfl (by go_simp) HC.out ?_)
   rintro e w11 ⟨wd9, room9, its9, ts9, code9, vi9, vp9, rfl, hput, so9, hb9⟩
   obtain ⟨a9, c9, rfl⟩ := row_any so9.items
   obtain ⟨b9, d9, rfl⟩ := row_any so9.pins
   have hz10 := HDA.out.grown.size
   have HVV := hid fun (h0 : code9 = 0) => SaveR.ok0 hput h0
   have HSO := hid (so9.base (B' := w.heap.size + 1) (by omega))
   have HDB := hid (HDA.out.below hb9)
   have HXB := hid (HXA.out.below hb9)
   have hS11 : w11.cell? ⟨sb, 0, none⟩ = some (.int .i64 wd) ∧ w11.cell? ⟨sb, 1, none⟩ = some (.int .i64 room) ∧ w11.cell? ⟨sb, 2, none⟩ = some (.slice va its.length vc) ∧ w11.cell? ⟨sb, 3, none⟩ = some (.slice vb ts.length vd) := HDB.out.box.cells
   clear HC HDA HXA hS10 hput so9 hb9 hz10
   refine ⟨_, rfl, hS11, ?_⟩
   refine tkA 5 (.tuple #[.agg #[.int .i64 wd9, .int .i64 room9, .slice a9 its9.length c9, .slice b9 ts9.length d9], .int .i64 code9]) rfl hS11 ?_
   refine tkA 6 (.agg #[.int .i64 wd9, .int .i64 room9, .slice a9 its9.length c9, .slice b9 ts9.length d9]) rfl hS11 ?_
   refine tkA 7 (.int .i64 code9) rfl hS11 ?_

   have HDT := hid (HDB.out.other HXB.out.blk (grown_set4 w11 xb (.int .i64 wd9) (.int .i64 room9) (.slice a9 its9.length c9) (.slice b9 ts9.length d9)) hxs hxn)
   have HXT := hid (SBox.put (wd' := wd9) (room' := room9) HXB.out.blk HSO.out)
   have s9 := HXB.out.blk.store4 (.int .i64 wd9) (.int .i64 room9) (.slice a9 its9.length c9) (.slice b9 ts9.length d9)
   have s0 := s9.a0; have s1 := s9.a1; have s2 := s9.a2; have s3 := s9.a3
   have k0 := s9.f0; have k1 := s9.f1; have k2 := s9.f2; have k3 := s9.f3
   clear s9 HXB HSO HDB
   unfold set4 at HDT HXT
   have hS12 := HDT.out.box.cells
   refine held_one 8 (by kernel_rfl) (op_skip (w' := ((((w11.setCell ⟨xb, 0, none⟩ (.int .i64 wd9)).setCell ⟨xb, 1, none⟩ (.int .i64 room9)).setCell ⟨xb, 2, none⟩ (.slice a9 its9.length c9)).setCell ⟨xb, 3, none⟩ (.slice b9 ts9.length d9))) rfl rfl (by go_simp) ⟨hS12, ?_⟩)
   refine tkA 9 (.int .i64 code9) rfl hS12 ?_
   refine wpAnyH_done (by kernel_rfl) ?_ _
   clear s0 s1 s2 s3 k0 k1 k2 k3 hS11 hS12
   obtain ⟨w12, hw12⟩ : ∃ x, x = ((((w11.setCell ⟨xb, 0, none⟩ (.int .i64 wd9)).setCell ⟨xb, 1, none⟩ (.int .i64 room9)).setCell ⟨xb, 2, none⟩ (.slice a9 its9.length c9)).setCell ⟨xb, 3, none⟩ (.slice b9 ts9.length d9)) := ⟨_, rfl⟩
   rw [← hw12] at HDT HXT
   rw [← hw12]
   clear hw12
   have HVT : Hid (code9 = 0 → ValidSt wd9 room9 its9 ts9) := hid HVV.out
   by_cases hc0 : code9 = 0
   ·have HDE := hid (HDT.out.take HXT.out.own (HVT.out hc0))
    obtain ⟨y0, y1, y2, y3⟩ := HXT.out.cells
    have s9 := HDT.out.box.blk.store4 (.int .i64 wd9) (.int .i64 room9) (.slice a9 its9.length c9) (.slice b9 ts9.length d9)
    have s0 := s9.a0; have s1 := s9.a1; have s2 := s9.a2; have s3 := s9.a3
    have k0 := s9.f0; have k1 := s9.f1; have k2 := s9.f2; have k3 := s9.f3
    have hcb : (code9 == 0) = true := by simpa using hc0
    clear s9 HVT HDT HXT
    go_simp
    go_wp2
    exact ⟨⟨k - 1, q1 + 1 + 1, _, _, _, _, _, _, by go_num, by omega, by omega, HDE.out⟩, by simp [intOf]; omega⟩
   ·have hcb : (code9 == 0) = false := by simpa using hc0
    clear HVT HXT
    go_simp
    go_wp2
    exact ⟨⟨k - 1, q1 + 1 + 1, _, _, _, _, _, _, by go_num, by omega, by omega, HDT.out⟩, by simp [intOf]; omega⟩
end Go.Proofs.YtkjdabnglcabiaaGreatDoor
/- l4Now: a tick. -/
namespace Go.Proofs.YtkjdabnglcabiaaGreatDoor
open Go.RowKit
/-- A literal row of three numbers. -/
theorem three_among (w w4 : World) (a b c : Int) {rb x : Nat} (hg : (w.alloc (.cells #[.int .i64 a, .int .i64 b, .int .i64 c] 3)).grownBy w4 (some rb)) (hr : rb < w.heap.size) (hx : x < 3) : ∃ z : Int, w4.cell? ⟨w.heap.size, x, none⟩ = some (.int .i64 z) ∧ (z = a ∨ z = b ∨ z = c) := by
 have h := (Blk.new w 3 #[.int .i64 a, .int .i64 b, .int .i64 c]).kept hg (fun e => by have := Option.some.inj e; omega)
 obtain rfl | rfl | rfl : x = 0 ∨ x = 1 ∨ x = 2 := by omega
 ·exact ⟨a, h.cell 0, .inl rfl⟩
 ·exact ⟨b, h.cell 1, .inr (.inl rfl)⟩
 ·exact ⟨c, h.cell 2, .inr (.inr rfl)⟩
set_option maxRecDepth 100000 in
set_option maxHeartbeats 2000000 in
theorem l4Now_any (rb : Nat) (a : Option Addr) (nn cap : Nat) (bs : List Int) (p : Nat) (w : World) (h : Rd w rb a nn cap bs p) (hp : p ≤ 800000) :
  Calls Tryz.prog 17 #[.pointer (some ⟨rb, 0, none⟩)] w fun e w' => ∃ z : Int, e = .returned (.int .i64 z) ∧ ∃ p', p' ≤ p + 2 ∧ Rd w' rb a nn cap bs p' ∧ w.grownBy w' (some rb) := by
 have HP := hid fun (q : Nat) (n : Int) (W : World) (hr : Rd W rb a nn cap bs q) (h1 : 1 ≤ n) (h2 : n ≤ 100000) (hq : q ≤ 1000000) => pick_any rb a nn cap bs q n W hr h1 h2 hq
 go_enter Tryz.func17, Tryz.ntmps17
 go_wp2_with fail
 refine (HP.out p 16 _ h (by omega) (by omega) (by omega)).mono ?_
 rintro e w1 ⟨x, rfl, hx, hr1, hg1⟩
 have HG1 := hid hg1
 have HR1 := hid hr1
 clear h hr1 hg1
 by_cases hx0 : x = 0
 ·subst hx0
  have hlt := HR1.out.lt
  have HRA : Hid (Rd (w1.alloc (.cells #[.int .i64 (-1), .int .i64 1000000, .int .i64 1000001] 3)) rb a nn cap bs (p + 1)) := HR1.out.keep ((Below.refl (rb + 1) w1).alloc hlt _)
  have HGA := hid (grown_alloc HG1.out (.cells #[.int .i64 (-1), .int .i64 1000000, .int .i64 1000001] 3))
  go_wp2_with fail
  refine (HP.out (p + 1) 3 _ HRA.out (by omega) (by omega) (by omega)).mono ?_
  rintro e w2 ⟨y, rfl, hy, hr2, hg2⟩
  obtain ⟨z, hz, _⟩ := three_among w1 w2 (-1) 1000000 1000001 hg2 hlt (show y < 3 by omega)
  have HG2 := hid (grown_pick HGA.out hg2)
  have HR2 := hid hr2
  clear hr2 hg2 HRA HGA HG1 HR1
  go_wp2
  go_ret
  exact ⟨z, rfl, p + 1 + 1, by omega, HR2.out, HG2.out⟩
 ·have hxb : (((x : Nat) : Int) == 0) = false := by simp; omega
  go_wp2_with fail
  refine (HP.out (p + 1) 60 _ HR1.out (by omega) (by omega) (by omega)).mono ?_
  rintro e w2 ⟨y, rfl, hy, hr2, hg2⟩
  have HG2 := hid (grown_pick HG1.out hg2)
  have HR2 := hid hr2
  clear hr2 hg2 HG1 HR1
  go_wp2
  go_ret
  exact ⟨_, rfl, p + 1 + 1, by omega, HR2.out, HG2.out⟩
end Go.Proofs.YtkjdabnglcabiaaGreatDoor
