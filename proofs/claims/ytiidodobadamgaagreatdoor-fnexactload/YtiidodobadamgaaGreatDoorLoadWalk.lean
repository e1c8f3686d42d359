/- laws.FnExactLoad, walked. -/
import Derived.Test.YtiidodobadamgaaGreatDoorLoadBuilt
import Derived.Test.YtiidodobadamgaaGreatDoorGetLaw
namespace Go.Proofs.YtiidodobadamgaaGreatDoor
open Go.RowKit
theorem LoadV.form {wd room : Int} {its : Itms} {ts : List ByteArray} {name : ByteArray} {r : Value} (h : LoadV wd room its ts name r) : ∃ x b, r = .tuple #[.string x, .bool b] := by
  rcases h with ⟨_, rfl⟩ | ⟨_, h⟩
  · exact ⟨_, _, rfl⟩
  · cases h with
    | none => exact ⟨_, _, rfl⟩
    | lacks => exact ⟨_, _, rfl⟩
    | build n ss ps => exact build_form n ss ps wd
set_option maxRecDepth 100000 in
set_option maxHeartbeats 8000000 in
theorem loadLaw_walk (wd room : Int) (vi vp : Value) (its : Itms) (ts : List ByteArray) (name : ByteArray) (w : World) (hi : RdI w vi its) (hp : Reads w vp ts) (hli : its.length ≤ maxLen) (hlp : ts.length ≤ maxLen) (hsi : ∀ i, (itx its i).size ≤ maxLen) (hsp : ∀ i, (tv ts i).size ≤ maxLen) (hE : Errs w) :
    Calls Tryz.prog 3 #[.agg #[.int .i64 wd, .int .i64 room, vi, vp], .string name] w fun e w' => e = .returned (.bool true) ∧ Below w.heap.size w w' := by
  have hA := (Below.refl w.heap.size w).alloc (Nat.le_refl _) (.cells #[.int .i64 wd, .int .i64 room, vi, vp] 25)
  have HZ := hid (szStore_any wd room vi vp its ts _ (hi.below hA) (hp.below hA) hli hlp hsi hsp)
  have HN := hid (Blk.new w 25 #[.int .i64 wd, .int .i64 room, vi, vp])
  have HI := hid hi
  have HP := hid hp
  have HA := hid hA
  have HER := hid hE
  obtain ⟨ai, ci, rfl, _⟩ := hi
  obtain ⟨ap, cp, rfl, _⟩ := hp.form
  clear hp hA hsi hsp hE
  by_cases hbig : (1048576 : Int) < (name.size : Int)
  · clear HZ HN HI HP HER
    go_enter Tryz.func3, Tryz.ntmps3
    go_wp2
    go_ret
    exact ⟨by simp, HA.out⟩
  have hnm : name.size ≤ 1048576 := by omega
  go_enter Tryz.func3, Tryz.ntmps3
  go_wp2_with fail
  refine HZ.out.mono ?_
  rintro e w1 ⟨r, rfl, hr, hb1⟩
  have B1 := HA.out.trans (hb1.mono (by simp))
  have X1 := HN.out.below hb1
  by_cases hneg : r < 0
  · have HB := hid B1
    clear hr hb1 B1 X1
    go_wp2
    go_ret
    exact ⟨by simp, HB.out⟩
  · obtain ⟨l1, s1, l2, s2⟩ := hr (by omega)
    have HT := hid fun W h k => toStore2_any wd room (.slice ai its.length ci) (.slice ap ts.length cp) its ts W h k l1 l2
    have HS := hid fun (vi' vp' : Value) (W : World) h k => specLoad_any wd room vi' vp' its ts name W h k l1 l2 s1 s2
    have HM := hid fun (vi' vp' : Value) (W : World) h k (e : Errs W) => implLoad_any wd room vi' vp' its ts name W h k l1 l2 s1 s2 hnm e
    have HE := hid fun (vi' vp' vj vq : Value) (W : World) a b c d => eqStore_any wd room vi' vp' vj vq its ts W a b c d hli hlp
    clear hr hb1 s1 s2 HZ
    have x0 : w1.cell? ⟨w.heap.size, 0, none⟩ = some (.int .i64 wd) := X1.cell 0
    have x1 : w1.cell? ⟨w.heap.size, 1, none⟩ = some (.int .i64 room) := X1.cell 1
    have x2 : w1.cell? ⟨w.heap.size, 2, none⟩ = some (.slice ai its.length ci) := X1.cell 2
    have x3 : w1.cell? ⟨w.heap.size, 3, none⟩ = some (.slice ap ts.length cp) := X1.cell 3
    go_wp2_with fail
    refine (HT.out _ (HI.out.below B1) (HP.out.below B1)).mono ?_
    rintro e w2 ⟨i2, p2, rfl, oi2, op2, _, hb2⟩
    have B2 := B1.trans (hb2.mono B1.size)
    have X2 := X1.below hb2
    have HS2 := hid (HS.out i2 p2 w2 oi2.rdi (Reads.of_row op2))
    have HB2 := hid B2
    have HX2 := hid X2
    clear x0 x1 x2 x3 X1 hb2 B1 oi2 op2 B2 X2
    go_wp2_with fail
    refine HS2.out.mono ?_
    rintro e w3 ⟨r3, rfl, hres, hbl3⟩
    obtain ⟨x3, b3, rfl⟩ := hres.form
    have HRS := hid hres
    have B3 := HB2.out.trans (hbl3.mono HB2.out.size)
    have X3 := HX2.out.below hbl3
    have hw3 := B3.size
    have HB3 := hid B3
    have HX3 := hid X3
    have HT3 := hid (HT.out w3 (HI.out.below B3) (HP.out.below B3))
    have y0 : w3.cell? ⟨w.heap.size, 0, none⟩ = some (.int .i64 wd) := X3.cell 0
    have y1 : w3.cell? ⟨w.heap.size, 1, none⟩ = some (.int .i64 room) := X3.cell 1
    have y2 : w3.cell? ⟨w.heap.size, 2, none⟩ = some (.slice ai its.length ci) := X3.cell 2
    have y3 : w3.cell? ⟨w.heap.size, 3, none⟩ = some (.slice ap ts.length cp) := X3.cell 3
    clear hbl3 hres B3 X3
    go_wp2_with fail
    refine HT3.out.mono ?_
    rintro e w4 ⟨i4, p4, rfl, oi4, op4, hap4, hb4⟩
    have X4 := HX3.out.below hb4
    have B4 := HB3.out.trans (hb4.mono hw3)
    have so4 : StoreOwn w4 w3.heap.size i4 p4 its ts := ⟨oi4.row l1, op4, hap4⟩
    obtain ⟨a4, c4, rfl⟩ := row_any so4.items
    obtain ⟨b4, d4, rfl⟩ := row_any so4.pins
    have hs34 := hb4.size
    have hA4 := (Below.refl w4.heap.size w4).alloc (Nat.le_refl _) (.cells #[.int .i64 wd, .int .i64 room, .slice a4 its.length c4, .slice b4 ts.length d4] 31)
    have so4a := so4.below hA4
    have B4a := B4.trans (hA4.mono B4.size)
    have HM4 := hid (HM.out _ _ _ so4a.rdi (Reads.of_row so4a.pins) (HER.out.below B4a))
    have HSO4 := hid so4
    have HX4 := hid X4
    have HB4 := hid B4
    have HA4 := hid hA4
    clear y0 y1 y2 y3 hb4 X4 B4 so4 so4a B4a hA4 oi4 op4 hap4
    go_wp2_with fail
    refine HM4.out.mono ?_
    rintro e w6 ⟨r6, rfl, hr6, hb6⟩
    obtain rfl := hr6.uniq HRS.out
    have E6 := HA4.out.trans (hb6.mono (by simp))
    have B6 := HB4.out.trans (E6.mono HB4.out.size)
    have X6 := HX4.out.below E6
    have V6 := (Blk.new w4 31 #[.int .i64 wd, .int .i64 room, .slice a4 its.length c4, .slice b4 ts.length d4]).below hb6
    have S6 := HSO4.out.below E6
    have hec := enters_of Tryz.func7 (by kernel_rfl) rfl
    have hec2 := enters_of Tryz.func9 (by kernel_rfl) rfl
    have hS0 : w6.drew.cell? ⟨w4.heap.size, 0, none⟩ = some (.int .i64 wd) ∧ w6.drew.cell? ⟨w4.heap.size, 1, none⟩ = some (.int .i64 room) ∧ w6.drew.cell? ⟨w4.heap.size, 2, none⟩ = some (.slice a4 its.length c4) ∧ w6.drew.cell? ⟨w4.heap.size, 3, none⟩ = some (.slice b4 ts.length d4) ∧ w6.drew.cell? ⟨w.heap.size, 0, none⟩ = some (.int .i64 wd) ∧ w6.drew.cell? ⟨w.heap.size, 1, none⟩ = some (.int .i64 room) ∧ w6.drew.cell? ⟨w.heap.size, 2, none⟩ = some (.slice ai its.length ci) ∧ w6.drew.cell? ⟨w.heap.size, 3, none⟩ = some (.slice ap ts.length cp) := ⟨V6.cell 0, V6.cell 1, V6.cell 2, V6.cell 3, X6.cell 0, X6.cell 1, X6.cell 2, X6.cell 3⟩
    have hbd : Below w6.heap.size w6 w6.drew := below_drewN (Below.refl _ _) 1
    have HB6d := hid (B6.trans (hbd.mono B6.size))
    have HV6 := hid V6
    have HX6 := hid X6
    have HB6 := hid B6
    have HS6 := hid S6
    clear V6 X6 B6 S6 E6 hbd hb6 hr6
    go_wp2_with fail
    refine wp_region_held (S := fun w' => w'.cell? ⟨w4.heap.size, 0, none⟩ = some (.int .i64 wd) ∧ w'.cell? ⟨w4.heap.size, 1, none⟩ = some (.int .i64 room) ∧ w'.cell? ⟨w4.heap.size, 2, none⟩ = some (.slice a4 its.length c4) ∧ w'.cell? ⟨w4.heap.size, 3, none⟩ = some (.slice b4 ts.length d4) ∧ w'.cell? ⟨w.heap.size, 0, none⟩ = some (.int .i64 wd) ∧ w'.cell? ⟨w.heap.size, 1, none⟩ = some (.int .i64 room) ∧ w'.cell? ⟨w.heap.size, 2, none⟩ = some (.slice ai its.length ci) ∧ w'.cell? ⟨w.heap.size, 3, none⟩ = some (.slice ap ts.length cp)) (by kernel_rfl) ?_
    change wpAnyH _ _ _ _ _ _ _ _ (World.drew _)
    refine wpAnyH_take (i := 0) (v := .agg #[.int .i64 wd, .int .i64 room, .slice a4 its.length c4, .slice b4 ts.length d4]) rfl (by kernel_rfl) (by kernel_rfl) (by kernel_rfl) (fun _ _ _ h => h) (.inl ⟨rfl, fun w' hS => by obtain ⟨s1, s2, s3, s4, s5, s6, s7, s8⟩ := hS; go_simp⟩) hS0 ?_
    refine wpAnyH_take (i := 1) (v := .agg #[.int .i64 wd, .int .i64 room, .slice ai its.length ci, .slice ap ts.length cp]) rfl (by kernel_rfl) (by kernel_rfl) (by kernel_rfl) (fun _ _ _ h => h) (.inl ⟨rfl, fun w' hS => by obtain ⟨s1, s2, s3, s4, s5, s6, s7, s8⟩ := hS; go_simp⟩) hS0 ?_
    refine held_one 2 (by kernel_rfl) (op_calls (f := 7) (args := #[.agg #[.int .i64 wd, .int .i64 room, .slice ai its.length ci, .slice ap ts.length cp]]) rfl rfl (by go_simp) (HT.out _ (HI.out.below HB6d.out) (HP.out.below HB6d.out)) ?_)
    rintro e w7 ⟨i7, p7, rfl, oi7, op7, _, hb7⟩
    have hb7' : Below w6.heap.size w6 w7 := ⟨hb7.os, hb7.tape, hb7.output, hb7.size, hb7.block⟩
    have V7 := HV6.out.below hb7'
    have X7 := HX6.out.below hb7'
    have hS1 : w7.cell? ⟨w4.heap.size, 0, none⟩ = some (.int .i64 wd) ∧ w7.cell? ⟨w4.heap.size, 1, none⟩ = some (.int .i64 room) ∧ w7.cell? ⟨w4.heap.size, 2, none⟩ = some (.slice a4 its.length c4) ∧ w7.cell? ⟨w4.heap.size, 3, none⟩ = some (.slice b4 ts.length d4) ∧ w7.cell? ⟨w.heap.size, 0, none⟩ = some (.int .i64 wd) ∧ w7.cell? ⟨w.heap.size, 1, none⟩ = some (.int .i64 room) ∧ w7.cell? ⟨w.heap.size, 2, none⟩ = some (.slice ai its.length ci) ∧ w7.cell? ⟨w.heap.size, 3, none⟩ = some (.slice ap ts.length cp) := ⟨V7.cell 0, V7.cell 1, V7.cell 2, V7.cell 3, X7.cell 0, X7.cell 1, X7.cell 2, X7.cell 3⟩
    have S7 := HS6.out.below hb7'
    have HEQ7 := hid (HE.out _ _ i7 p7 w7 S7.rdi (Reads.of_row S7.pins) oi7.rdi (Reads.of_row op7))
    refine ⟨_, rfl, hS1, ?_⟩
    refine held_one 3 (by kernel_rfl) (op_calls (f := 9) (args := #[.agg #[.int .i64 wd, .int .i64 room, .slice a4 its.length c4, .slice b4 ts.length d4], .agg #[.int .i64 wd, .int .i64 room, i7, p7]]) rfl rfl (by go_simp) HEQ7.out ?_)
    rintro e w8 ⟨rfl, hb8⟩
    have V8 := V7.below hb8
    have X8 := X7.below hb8
    have hS2 : w8.cell? ⟨w4.heap.size, 0, none⟩ = some (.int .i64 wd) ∧ w8.cell? ⟨w4.heap.size, 1, none⟩ = some (.int .i64 room) ∧ w8.cell? ⟨w4.heap.size, 2, none⟩ = some (.slice a4 its.length c4) ∧ w8.cell? ⟨w4.heap.size, 3, none⟩ = some (.slice b4 ts.length d4) ∧ w8.cell? ⟨w.heap.size, 0, none⟩ = some (.int .i64 wd) ∧ w8.cell? ⟨w.heap.size, 1, none⟩ = some (.int .i64 room) ∧ w8.cell? ⟨w.heap.size, 2, none⟩ = some (.slice ai its.length ci) ∧ w8.cell? ⟨w.heap.size, 3, none⟩ = some (.slice ap ts.length cp) := ⟨V8.cell 0, V8.cell 1, V8.cell 2, V8.cell 3, X8.cell 0, X8.cell 1, X8.cell 2, X8.cell 3⟩
    have F8 := hb7'.trans (hb8.mono hb7'.size)
    have HB8 := hid (HB6.out.trans (F8.mono HB6.out.size))
    refine ⟨_, rfl, hS2, ?_⟩
    refine wpAnyH_take (i := 4) (v := .bool false) rfl (by kernel_rfl) (by kernel_rfl) (by kernel_rfl) (fun _ _ _ h => h) (.inl ⟨rfl, fun w' hS => by obtain ⟨s1, s2, s3, s4, s5, s6, s7, s8⟩ := hS; go_simp⟩) hS2 ?_
    refine wpAnyH_done (by kernel_rfl) ?_ _
    clear hS0 hS1 hS2 V7 X7 S7 hb7 hb7' hb8 F8 oi7 op7 V8 X8
    go_simp
    go_wp2
    go_ret
    exact ⟨by simp, HB8.out⟩
end Go.Proofs.YtiidodobadamgaaGreatDoor
