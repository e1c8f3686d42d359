/- laws.FnExactUnpin returns true at every argument. -/
import Derived.Test.YtmcipciimnncmaaUnpinSpec
import Derived.Test.YtmcipciimnncmaaOpenItems
import Derived.Lib.SmallJoins
import Derived.Below
import Derived.WalkKit
import Derived.ProofKit
import Derived.OpenShut
import Derived.ShutString
import Derived.ChangeOld
import Derived.SliceStrings
namespace Go.Proofs.Ytmcipciimnncmaa.fnExactUnpin
open Go.ChangeShapes Go.WideShapes Go.ChangeAt Go.RowKit
open Go.ChangeMaps (open_string shut_string)
set_option linter.unusedVariables false

theorem own : ownKnob Try.prog.godebug = none := by kernel_rfl

theorem unpin_same {wd room : Int} {its : Itms} {ts : List ByteArray} {s : ByteArray} {w1 r1 w2 r2 : Int} {i1 i2 : Itms} {t1 t2 : List ByteArray} {b1 b2 : Int} (h : UnpinR wd room its ts s w1 r1 i1 t1 b1) (k : UnpinR wd room its ts s w2 r2 i2 t2 b2) : w1 = w2 ∧ r1 = r2 ∧ i1 = i2 ∧ t1 = t2 ∧ b1 = b2 := by
  rcases h with ⟨hn, rfl, rfl, rfl, rfl, rfl⟩ | ⟨ho, hn, rfl, rfl, rfl, rfl, rfl⟩ | ⟨ho, rfl, rfl, rfl, rfl, i, hi, hs, rfl⟩ <;> rcases k with ⟨kn, rfl, rfl, rfl, rfl, rfl⟩ | ⟨ko, kn, rfl, rfl, rfl, rfl, rfl⟩ | ⟨ko, rfl, rfl, rfl, rfl, j, hj, ks, rfl⟩
  · exact ⟨rfl, rfl, rfl, rfl, rfl⟩
  · exact absurd ko hn
  · exact absurd ko hn
  · exact absurd ho kn
  · exact ⟨rfl, rfl, rfl, rfl, rfl⟩
  · exact absurd ks (hn j hj)
  · exact absurd ho kn
  · exact absurd hs (kn i hi)
  · have hA := okSums_asc ho.1.sums
    have e : i = j := (cut_at hA hi hs).symm.trans (cut_at hA hj ks)
    subst e
    exact ⟨rfl, rfl, rfl, rfl, rfl⟩
theorem unpin_len {wd room : Int} {its : Itms} {ts : List ByteArray} {s : ByteArray} {w1 r1 : Int} {i1 : Itms} {t1 : List ByteArray} {b1 : Int} (h : UnpinR wd room its ts s w1 r1 i1 t1 b1) : i1.length ≤ its.length ∧ t1.length ≤ ts.length := by
  rcases h with ⟨_, _, _, rfl, rfl, _⟩ | ⟨_, _, _, _, rfl, rfl, _⟩ | ⟨_, _, _, rfl, _, i, hi, _, rfl⟩
  · simp
  · simp
  · refine ⟨Nat.le_refl _, ?_⟩
    rw [List.length_eraseIdx, if_pos hi]
    omega
set_option maxRecDepth 100000 in
set_option maxHeartbeats 4000000 in
theorem walk (wd room : Int) (vi vp : Value) (its : Itms) (ts : List ByteArray) (s : ByteArray) (w : World) (hi : RdI w vi its) (hp : Reads w vp ts) (hli : its.length ≤ maxLen) (hlp : ts.length ≤ maxLen) (hsi : ∀ i, (itx its i).size ≤ maxLen) (hsp : ∀ i, (tv ts i).size ≤ maxLen) (hss : s.size ≤ maxLen) :
    Calls Try.prog 4 #[.agg #[.int .i64 wd, .int .i64 room, vi, vp], .string s] w fun e w' => e = .returned (.bool true) ∧ Below w.heap.size w w' := by
  unfold maxLen at hss
  have hA := (Below.refl w.heap.size w).alloc (Nat.le_refl _) (.cells #[.int .i64 wd, .int .i64 room, vi, vp] 25)
  have HZ := hid (szStore_any wd room vi vp its ts _ (hi.below hA) (hp.below hA) hli hlp hsi hsp)
  have HN := hid (Blk.new w 25 #[.int .i64 wd, .int .i64 room, vi, vp])
  have HI := hid hi
  have HP := hid hp
  have HA := hid hA
  obtain ⟨ai, ci, rfl, _⟩ := hi
  obtain ⟨ap, cp, rfl, _⟩ := hp.form
  clear hp hA hsi hsp
  by_cases hlong : 1048576 < s.size
  · go_enter Try.func4, Try.ntmps4
    go_wp2
    go_ret
    exact ⟨by simp, HA.out⟩
  go_enter Try.func4, Try.ntmps4
  go_wp2_with fail
  refine HZ.out.mono ?_
  rintro e w1 ⟨r, rfl, hr, hb1⟩
  have B1 := HA.out.trans (hb1.mono (by simp))
  have X1 := HN.out.below hb1
  by_cases hneg : r < 0
  · have HB := hid B1
    clear hr hb1 B1 X1
    go_wp2
    go_ret
    exact ⟨by simp, HB.out⟩
  · obtain ⟨l1, s1, l2, s2⟩ := hr (by omega)
    have HT := hid fun W h k => toStore2_any wd room (.slice ai its.length ci) (.slice ap ts.length cp) its ts W h k l1 l2
    have HS := hid fun vi' vp' W b1 b2 h k => specUnpin_any wd room vi' vp' its ts s W b1 b2 h k l1 l2 s1 s2
    have HM := hid fun vi' vp' W h k => implUnpin_any wd room vi' vp' its ts s W h k l1 l2 s1 s2
    have HE := hid fun vi' vp' vj vq W a b c d => eqStore_any wd room vi' vp' vj vq its ts W a b c d hli hlp
    clear hr hb1 s1 s2 HZ
    have x0 : w1.cell? ⟨w.heap.size, 0, none⟩ = some (.int .i64 wd) := X1.cell 0
    have x1 : w1.cell? ⟨w.heap.size, 1, none⟩ = some (.int .i64 room) := X1.cell 1
    have x2 : w1.cell? ⟨w.heap.size, 2, none⟩ = some (.slice ai its.length ci) := X1.cell 2
    have x3 : w1.cell? ⟨w.heap.size, 3, none⟩ = some (.slice ap ts.length cp) := X1.cell 3
    go_wp2_with fail
    refine (HT.out _ (HI.out.below B1) (HP.out.below B1)).mono ?_
    rintro e w2 ⟨i2, p2, rfl, oi2, op2, _, hb2⟩
    have B2 := B1.trans (hb2.mono B1.size)
    have X2 := X1.below hb2
    clear x0 x1 x2 x3 X1 hb2 B1
    go_wp2_with fail
    refine (HS.out i2 p2 _ _ _ oi2 op2).mono ?_
    rintro e w3 ⟨wd3, room3, its3, ts3, bb3, vi3, vp3, rfl, hres, hso3, hbl3⟩
    obtain ⟨a3, c3, rfl⟩ := row_any hso3.items
    obtain ⟨b3, d3, rfl⟩ := row_any hso3.pins
    have hlen3 := unpin_len hres
    have HRES := hid hres
    have HE3 := hid fun vi' vp' vj vq W a b c d => eqStore_any wd3 room3 vi' vp' vj vq its3 ts3 W a b c d (by unfold maxLen; omega) (by unfold maxLen; omega)
    have B3 := B2.trans (hbl3.mono B2.size)
    have X3 := X2.below hbl3
    have hw3 := B3.size
    have HI3 := hid hso3.rdi
    have HP3 := hid (Reads.of_row hso3.pins)
    clear oi2 op2 hbl3 X2 B2 hso3 hres
    have hA3 := (Below.refl w3.heap.size w3).alloc (Nat.le_refl _) (.cells #[.int .i64 wd3, .int .i64 room3, .slice a3 its3.length c3, .slice b3 ts3.length d3] 30)
    have B3a := B3.alloc B3.size (.cells #[.int .i64 wd3, .int .i64 room3, .slice a3 its3.length c3, .slice b3 ts3.length d3] 30)
    have x0 : ∀ o, (w3.alloc o).cell? ⟨w.heap.size, 0, none⟩ = some (.int .i64 wd) := fun o => (X3.alloc o).cell 0
    have x1 : ∀ o, (w3.alloc o).cell? ⟨w.heap.size, 1, none⟩ = some (.int .i64 room) := fun o => (X3.alloc o).cell 1
    have x2 : ∀ o, (w3.alloc o).cell? ⟨w.heap.size, 2, none⟩ = some (.slice ai its.length ci) := fun o => (X3.alloc o).cell 2
    have x3 : ∀ o, (w3.alloc o).cell? ⟨w.heap.size, 3, none⟩ = some (.slice ap ts.length cp) := fun o => (X3.alloc o).cell 3
    go_wp2_with fail
    refine (HT.out _ (HI.out.below B3a) (HP.out.below B3a)).mono ?_
    rintro e w4 ⟨i4, p4, rfl, oi4, op4, hap4, hb4⟩
    have D4 := hA3.trans (hb4.mono (by simp))
    have Y4 := (Blk.new w3 30 #[.int .i64 wd3, .int .i64 room3, .slice a3 its3.length c3, .slice b3 ts3.length d3]).below hb4
    have X4 := (X3.alloc (.cells #[.int .i64 wd3, .int .i64 room3, .slice a3 its3.length c3, .slice b3 ts3.length d3] 30)).below hb4
    have B4 := B3a.trans (hb4.mono B3a.size)
    rw [World.size_alloc] at oi4 op4
    have so4 : StoreOwn w4 (w3.heap.size + 1) i4 p4 its ts := ⟨oi4.row l1, op4, hap4⟩
    obtain ⟨a4, c4, rfl⟩ := row_any so4.items
    obtain ⟨b4, d4, rfl⟩ := row_any so4.pins
    have hs34 := hb4.size
    rw [World.size_alloc] at hs34
    clear x0 x1 x2 x3 X3 hb4 B3 B3a hA3 oi4 op4 hap4
    have hA4 := (Below.refl w4.heap.size w4).alloc (Nat.le_refl _) (.cells #[.int .i64 wd, .int .i64 room, .slice a4 its.length c4, .slice b4 ts.length d4] 30)
    have so4a := so4.below hA4
    have HSO4 := hid so4
    have HD4 := hid D4
    have HY4 := hid Y4
    have HX4 := hid X4
    have HB4 := hid B4
    have HI4 := hid so4a.rdi
    have HP4 := hid (Reads.of_row so4a.pins)
    have HA4 := hid hA4
    clear so4 so4a D4 Y4 X4 B4 hA4
    go_wp2_with fail
    refine (HM.out _ _ _ HI4.out HP4.out).mono ?_
    rintro e w5 ⟨wd5, room5, its5, ts5, bb5, vi5, vp5, rfl, hres5, hso5, hb5⟩
    obtain ⟨rfl, rfl, rfl, rfl, rfl⟩ := unpin_same HRES.out hres5
    obtain ⟨a5, c5, rfl⟩ := row_any hso5.items
    obtain ⟨b5, d5, rfl⟩ := row_any hso5.pins
    have hs45 := hb5.size
    rw [World.size_alloc] at hs45
    rw [World.size_alloc] at hso5
    have E5 := HA4.out.trans (hb5.mono (by simp))
    have D5 := HD4.out.trans (E5.mono (by omega))
    have Y5 := (HY4.out.alloc (.cells #[.int .i64 wd, .int .i64 room, .slice a4 its.length c4, .slice b4 ts.length d4] 30)).below hb5
    have X5 := (HX4.out.alloc (.cells #[.int .i64 wd, .int .i64 room, .slice a4 its.length c4, .slice b4 ts.length d4] 30)).below hb5
    have V5 := (Blk.new w4 30 #[.int .i64 wd, .int .i64 room, .slice a4 its.length c4, .slice b4 ts.length d4]).below hb5
    have B5 := HB4.out.trans (E5.mono HB4.out.size)
    have SO45 := HSO4.out.below E5
    clear hb5 hres5
    have hA5 := (Below.refl w5.heap.size w5).alloc (Nat.le_refl _) (.cells #[.int .i64 wd3, .int .i64 room3, .slice a5 its3.length c5, .slice b5 ts3.length d5] 30)
    have HI3a := hid (HI3.out.below (D5.trans (hA5.mono D5.size)))
    have HP3a := hid (HP3.out.below (D5.trans (hA5.mono D5.size)))
    have so5a := hso5.below hA5
    have HEQ1 := hid (HE3.out _ _ _ _ _ so5a.rdi (Reads.of_row so5a.pins) HI3a.out HP3a.out)
    have y0 : ∀ o, (w5.alloc o).cell? ⟨w3.heap.size, 0, none⟩ = some (.int .i64 wd3) := fun o => (Y5.alloc o).cell 0
    have y1 : ∀ o, (w5.alloc o).cell? ⟨w3.heap.size, 1, none⟩ = some (.int .i64 room3) := fun o => (Y5.alloc o).cell 1
    have y2 : ∀ o, (w5.alloc o).cell? ⟨w3.heap.size, 2, none⟩ = some (.slice a3 its3.length c3) := fun o => (Y5.alloc o).cell 2
    have y3 : ∀ o, (w5.alloc o).cell? ⟨w3.heap.size, 3, none⟩ = some (.slice b3 ts3.length d3) := fun o => (Y5.alloc o).cell 3
    have HD5 := hid D5
    have HY5 := hid Y5
    have HX5 := hid X5
    have HV5 := hid V5
    have HB5 := hid B5
    have HSO4b := hid SO45
    have HSO5 := hid hso5
    have HA5 := hid hA5
    clear D5 Y5 X5 V5 B5 SO45 hso5 so5a hA5 E5
    go_wp2_with fail
    refine HEQ1.out.mono ?_
    rintro e w6 ⟨rfl, hb6⟩
    have F6 := HA5.out.trans (hb6.mono (by simp))
    have X6 := HX5.out.below F6
    have V6 := HV5.out.below F6
    have Y6 := HY5.out.below F6
    have G6 := (Blk.new w5 30 #[.int .i64 wd3, .int .i64 room3, .slice a5 its3.length c5, .slice b5 ts3.length d5]).below hb6
    have D6 := HD5.out.trans (F6.mono HD5.out.size)
    have B6 := HB5.out.trans (F6.mono HB5.out.size)
    have S46 := HSO4b.out.below F6
    have S56 := HSO5.out.below F6
    have hs56 := hb6.size
    rw [World.size_alloc] at hs56
    clear y0 y1 y2 y3 hb6 F6
    have hec := enters_of Try.func10 (by kernel_rfl) rfl
    have hec2 := enters_of Try.func12 (by kernel_rfl) rfl
    have hS0 : w6.drew.cell? ⟨w4.heap.size, 0, none⟩ = some (.int .i64 wd) ∧ w6.drew.cell? ⟨w4.heap.size, 1, none⟩ = some (.int .i64 room) ∧ w6.drew.cell? ⟨w4.heap.size, 2, none⟩ = some (.slice a4 its.length c4) ∧ w6.drew.cell? ⟨w4.heap.size, 3, none⟩ = some (.slice b4 ts.length d4) ∧ w6.drew.cell? ⟨w.heap.size, 0, none⟩ = some (.int .i64 wd) ∧ w6.drew.cell? ⟨w.heap.size, 1, none⟩ = some (.int .i64 room) ∧ w6.drew.cell? ⟨w.heap.size, 2, none⟩ = some (.slice ai its.length ci) ∧ w6.drew.cell? ⟨w.heap.size, 3, none⟩ = some (.slice ap ts.length cp) := ⟨(cell_drew _ _).trans (V6.cell 0), (cell_drew _ _).trans (V6.cell 1), (cell_drew _ _).trans (V6.cell 2), (cell_drew _ _).trans (V6.cell 3), (cell_drew _ _).trans (X6.cell 0), (cell_drew _ _).trans (X6.cell 1), (cell_drew _ _).trans (X6.cell 2), (cell_drew _ _).trans (X6.cell 3)⟩
    have hbd : Below w6.heap.size w6 w6.drew := below_drewN (Below.refl _ _) 1
    have HB6d := hid (B6.trans (hbd.mono B6.size))
    have HV6 := hid V6
    have HX6 := hid X6
    have HY6 := hid Y6
    have HG6 := hid G6
    have HD6 := hid D6
    have HB6 := hid B6
    have HS46 := hid S46
    have HS56 := hid S56
    clear V6 X6 Y6 G6 D6 B6 S46 S56 hbd
    go_wp2_with fail
    refine wp_region_held (S := fun w' => w'.cell? ⟨w4.heap.size, 0, none⟩ = some (.int .i64 wd) ∧ w'.cell? ⟨w4.heap.size, 1, none⟩ = some (.int .i64 room) ∧ w'.cell? ⟨w4.heap.size, 2, none⟩ = some (.slice a4 its.length c4) ∧ w'.cell? ⟨w4.heap.size, 3, none⟩ = some (.slice b4 ts.length d4) ∧ w'.cell? ⟨w.heap.size, 0, none⟩ = some (.int .i64 wd) ∧ w'.cell? ⟨w.heap.size, 1, none⟩ = some (.int .i64 room) ∧ w'.cell? ⟨w.heap.size, 2, none⟩ = some (.slice ai its.length ci) ∧ w'.cell? ⟨w.heap.size, 3, none⟩ = some (.slice ap ts.length cp)) (by kernel_rfl) ?_
    change wpAnyH _ _ _ _ _ _ _ _ (World.drew _)
    refine wpAnyH_take (i := 0) (v := .agg #[.int .i64 wd, .int .i64 room, .slice a4 its.length c4, .slice b4 ts.length d4]) rfl (by kernel_rfl) (by kernel_rfl) (by kernel_rfl) (fun _ _ _ h => h) (.inl ⟨rfl, fun w' hS => by obtain ⟨s1, s2, s3, s4, s5, s6, s7, s8⟩ := hS; go_simp⟩) hS0 ?_
    refine wpAnyH_take (i := 1) (v := .agg #[.int .i64 wd, .int .i64 room, .slice ai its.length ci, .slice ap ts.length cp]) rfl (by kernel_rfl) (by kernel_rfl) (by kernel_rfl) (fun _ _ _ h => h) (.inl ⟨rfl, fun w' hS => by obtain ⟨s1, s2, s3, s4, s5, s6, s7, s8⟩ := hS; go_simp⟩) hS0 ?_
    refine held_one 2 (by kernel_rfl) (op_calls (f := 10) (args := #[.agg #[.int .i64 wd, .int .i64 room, .slice ai its.length ci, .slice ap ts.length cp]]) rfl rfl (by go_simp) (HT.out _ (HI.out.below HB6d.out) (HP.out.below HB6d.out)) ?_)
    rintro e w7 ⟨i7, p7, rfl, oi7, op7, _, hb7⟩
    have hb7' : Below w6.heap.size w6 w7 := ⟨hb7.os, hb7.tape, hb7.output, hb7.size, hb7.block⟩
    have V7 := HV6.out.below hb7'
    have X7 := HX6.out.below hb7'
    have hS1 : w7.cell? ⟨w4.heap.size, 0, none⟩ = some (.int .i64 wd) ∧ w7.cell? ⟨w4.heap.size, 1, none⟩ = some (.int .i64 room) ∧ w7.cell? ⟨w4.heap.size, 2, none⟩ = some (.slice a4 its.length c4) ∧ w7.cell? ⟨w4.heap.size, 3, none⟩ = some (.slice b4 ts.length d4) ∧ w7.cell? ⟨w.heap.size, 0, none⟩ = some (.int .i64 wd) ∧ w7.cell? ⟨w.heap.size, 1, none⟩ = some (.int .i64 room) ∧ w7.cell? ⟨w.heap.size, 2, none⟩ = some (.slice ai its.length ci) ∧ w7.cell? ⟨w.heap.size, 3, none⟩ = some (.slice ap ts.length cp) := ⟨V7.cell 0, V7.cell 1, V7.cell 2, V7.cell 3, X7.cell 0, X7.cell 1, X7.cell 2, X7.cell 3⟩
    have S47 := HS46.out.below hb7'
    have HEQ := hid (HE.out _ _ i7 p7 w7 S47.rdi (Reads.of_row S47.pins) oi7.rdi (Reads.of_row op7))
    refine ⟨_, rfl, hS1, ?_⟩
    refine held_one 3 (by kernel_rfl) (op_calls (f := 12) (args := #[.agg #[.int .i64 wd, .int .i64 room, .slice a4 its.length c4, .slice b4 ts.length d4], .agg #[.int .i64 wd, .int .i64 room, i7, p7]]) rfl rfl (by go_simp) HEQ.out ?_)
    rintro e w8 ⟨rfl, hb8⟩
    have V8 := V7.below hb8
    have X8 := X7.below hb8
    have hS2 : w8.cell? ⟨w4.heap.size, 0, none⟩ = some (.int .i64 wd) ∧ w8.cell? ⟨w4.heap.size, 1, none⟩ = some (.int .i64 room) ∧ w8.cell? ⟨w4.heap.size, 2, none⟩ = some (.slice a4 its.length c4) ∧ w8.cell? ⟨w4.heap.size, 3, none⟩ = some (.slice b4 ts.length d4) ∧ w8.cell? ⟨w.heap.size, 0, none⟩ = some (.int .i64 wd) ∧ w8.cell? ⟨w.heap.size, 1, none⟩ = some (.int .i64 room) ∧ w8.cell? ⟨w.heap.size, 2, none⟩ = some (.slice ai its.length ci) ∧ w8.cell? ⟨w.heap.size, 3, none⟩ = some (.slice ap ts.length cp) := ⟨V8.cell 0, V8.cell 1, V8.cell 2, V8.cell 3, X8.cell 0, X8.cell 1, X8.cell 2, X8.cell 3⟩
    have F8 := hb7'.trans (hb8.mono hb7'.size)
    have Y8 := HY6.out.below F8
    have G8 := HG6.out.below F8
    have D8 := HD6.out.trans (F8.mono HD6.out.size)
    have B8 := HB6.out.trans (F8.mono HB6.out.size)
    have S48 := HS46.out.below F8
    have S58 := HS56.out.below F8
    have hs68 := F8.size
    refine ⟨_, rfl, hS2, ?_⟩
    refine wpAnyH_take (i := 4) (v := .bool false) rfl (by kernel_rfl) (by kernel_rfl) (by kernel_rfl) (fun _ _ _ h => h) (.inl ⟨rfl, fun w' hS => by obtain ⟨s1, s2, s3, s4, s5, s6, s7, s8⟩ := hS; go_simp⟩) hS2 ?_
    refine wpAnyH_done (by kernel_rfl) ?_ _
    clear hS0 hS1 hS2 V7 X7 S47 hb7 hb7' hb8 F8 oi7 op7
    have HMK := hid (markStore_any wd room _ _ _ its ts w8 S48 (by omega))
    have HL4i := hid S48.items.lt
    have HL4p := hid S48.pins.lt
    have L4i := HSO4.out.items.lt
    have L4p := HSO4.out.pins.lt
    have HL5i := hid HSO5.out.items.lt
    have HL5p := hid HSO5.out.pins.lt
    have v0 : w8.cell? ⟨w4.heap.size, 0, none⟩ = some (.int .i64 wd) := V8.cell 0
    have v1 : w8.cell? ⟨w4.heap.size, 1, none⟩ = some (.int .i64 room) := V8.cell 1
    have v2 : w8.cell? ⟨w4.heap.size, 2, none⟩ = some (.slice a4 its.length c4) := V8.cell 2
    have v3 : w8.cell? ⟨w4.heap.size, 3, none⟩ = some (.slice b4 ts.length d4) := V8.cell 3
    have HX8 := hid X8
    have HY8 := hid Y8
    have HG8 := hid G8
    have HD8 := hid D8
    have HB8 := hid B8
    have HS58 := hid S58
    have HL4i0 := hid L4i
    have HL4p0 := hid L4p
    clear V8 X8 Y8 G8 D8 B8 S48 S58 L4i L4p
    go_simp
    go_wp2_with fail
    refine HMK.out.mono ?_
    rintro e w9 ⟨rfl, _, hsame9, hsz9, hbel9⟩
    have bel9 := hbel9 (w3.heap.size + 1) (fun g e => (HL4i0.out g e).1) (fun g e => (HL4p0.out g e).1) (by omega)
    have n5i : (Value.slice a4 its.length c4).ownBlock ≠ some w5.heap.size := fun e => by have := (HL4i0.out _ e).2; omega
    have n5p : (Value.slice b4 ts.length d4).ownBlock ≠ some w5.heap.size := fun e => by have := (HL4p0.out _ e).2; omega
    have D9 := HD8.out.trans (bel9.mono (by omega))
    have B9 := HB8.out.trans (bel9.mono (by omega))
    have Y9 := HY8.out.belowAt bel9 (by omega)
    have X9 := HX8.out.belowAt bel9 (by omega)
    have G9 : Blk w9 w5.heap.size 30 #[.int .i64 wd3, .int .i64 room3, .slice a5 its3.length c5, .slice b5 ts3.length d5] := (hsame9 w5.heap.size (by omega) n5i n5p).trans HG8.out
    have S59 := HS58.out.same (fun g e => hsame9 g (HS58.out.items.lt g e).2 (fun e2 => by have h1 := (HL4i0.out _ e2).2; have h2 := (HL5i.out _ e).1; omega) (fun e2 => by have h1 := (HL4p0.out _ e2).2; have h2 := (HL5i.out _ e).1; omega)) (fun g e => hsame9 g (HS58.out.pins.lt g e).2 (fun e2 => by have h1 := (HL4i0.out _ e2).2; have h2 := (HL5p.out _ e).1; omega) (fun e2 => by have h1 := (HL4p0.out _ e2).2; have h2 := (HL5p.out _ e).1; omega))
    have HEQ9 := hid (HE3.out _ _ _ _ w9 S59.rdi (Reads.of_row S59.pins) (HI3.out.below D9) (HP3.out.below D9))
    have hk9 : ¬ (((1 + 2 * its.length + ts.length : Nat) : Int) < 0) := by omega
    have y0 : w9.cell? ⟨w3.heap.size, 0, none⟩ = some (.int .i64 wd3) := Y9.cell 0
    have y1 : w9.cell? ⟨w3.heap.size, 1, none⟩ = some (.int .i64 room3) := Y9.cell 1
    have y2 : w9.cell? ⟨w3.heap.size, 2, none⟩ = some (.slice a3 its3.length c3) := Y9.cell 2
    have y3 : w9.cell? ⟨w3.heap.size, 3, none⟩ = some (.slice b3 ts3.length d3) := Y9.cell 3
    have z0 : w9.cell? ⟨w5.heap.size, 0, none⟩ = some (.int .i64 wd3) := G9.cell 0
    have z1 : w9.cell? ⟨w5.heap.size, 1, none⟩ = some (.int .i64 room3) := G9.cell 1
    have z2 : w9.cell? ⟨w5.heap.size, 2, none⟩ = some (.slice a5 its3.length c5) := G9.cell 2
    have z3 : w9.cell? ⟨w5.heap.size, 3, none⟩ = some (.slice b5 ts3.length d5) := G9.cell 3
    have HY9 := hid Y9
    have HX9 := hid X9
    have HG9 := hid G9
    have HS59 := hid S59
    have HD9 := hid D9
    have HB9 := hid B9
    clear v0 v1 v2 v3 hsame9 hbel9 bel9 D9 B9 Y9 X9 G9 S59
    go_wp2_with fail
    refine HEQ9.out.mono ?_
    rintro e w10 ⟨rfl, hb10⟩
    have Y10 := HY9.out.below hb10
    have X10 := HX9.out.below hb10
    have G10 := HG9.out.below hb10
    have S510 := HS59.out.below hb10
    have D10 := HD9.out.trans (hb10.mono HD9.out.size)
    have B10 := HB9.out.trans (hb10.mono HB9.out.size)
    have hs910 := hb10.size
    have HMK2 := hid (markStore_any wd3 room3 _ _ _ its3 ts3 w10 S510 (by omega))
    have q0 : w10.cell? ⟨w5.heap.size, 0, none⟩ = some (.int .i64 wd3) := G10.cell 0
    have q1 : w10.cell? ⟨w5.heap.size, 1, none⟩ = some (.int .i64 room3) := G10.cell 1
    have q2 : w10.cell? ⟨w5.heap.size, 2, none⟩ = some (.slice a5 its3.length c5) := G10.cell 2
    have q3 : w10.cell? ⟨w5.heap.size, 3, none⟩ = some (.slice b5 ts3.length d5) := G10.cell 3
    have HY10 := hid Y10
    have HX10 := hid X10
    have HG10 := hid G10
    have HD10 := hid D10
    have HB10 := hid B10
    clear y0 y1 y2 y3 z0 z1 z2 z3 hk9 hb10 Y10 X10 G10 S510 D10 B10
    go_wp2_with fail
    refine HMK2.out.mono ?_
    rintro e w11 ⟨rfl, hmk11, hsame11, hsz11, hbel11⟩
    have bel11 := hbel11 (w3.heap.size + 1) (fun g e => by have := (HL5i.out g e).1; omega) (fun g e => by have := (HL5p.out g e).1; omega) (by omega)
    have m5i : (Value.slice a5 its3.length c5).ownBlock ≠ some w5.heap.size := fun e => by have := (HL5i.out _ e).2; omega
    have m5p : (Value.slice b5 ts3.length d5).ownBlock ≠ some w5.heap.size := fun e => by have := (HL5p.out _ e).2; omega
    have D11 := HD10.out.trans (bel11.mono (by omega))
    have B11 := HB10.out.trans (bel11.mono (by omega))
    have Y11 := HY10.out.belowAt bel11 (by omega)
    have X11 := HX10.out.belowAt bel11 (by omega)
    have G11 : Blk w11 w5.heap.size 30 #[.int .i64 wd3, .int .i64 room3, .slice a5 its3.length c5, .slice b5 ts3.length d5] := (hsame11 w5.heap.size (by omega) m5i m5p).trans HG10.out
    have HHD := hid (heldStore_any wd3 room3 _ _ its3.length ts3.length w11 hmk11.rdi (Reads.of_row hmk11.pins) (by omega))
    have z0 : w11.cell? ⟨w5.heap.size, 0, none⟩ = some (.int .i64 wd3) := G11.cell 0
    have z1 : w11.cell? ⟨w5.heap.size, 1, none⟩ = some (.int .i64 room3) := G11.cell 1
    have z2 : w11.cell? ⟨w5.heap.size, 2, none⟩ = some (.slice a5 its3.length c5) := G11.cell 2
    have z3 : w11.cell? ⟨w5.heap.size, 3, none⟩ = some (.slice b5 ts3.length d5) := G11.cell 3
    have HY11 := hid Y11
    have HX11 := hid X11
    have HG11 := hid G11
    have HD11 := hid D11
    have HB11 := hid B11
    have HRD := hid hmk11.rdi
    have HPD := hid (Reads.of_row hmk11.pins)
    clear q0 q1 q2 q3 hsame11 hbel11 bel11 D11 B11 Y11 X11 G11 hmk11
    go_wp2_with fail
    refine HHD.out.mono ?_
    rintro e w12 ⟨rfl, hb12⟩
    have hnn : ¬ (((1 + 2 * its3.length + ts3.length : Nat) : Int) < 0) := by omega
    have Y12 := HY11.out.below hb12
    have X12 := HX11.out.below hb12
    have G12 := HG11.out.below hb12
    have D12 := HD11.out.trans (hb12.mono HD11.out.size)
    have B12 := HB11.out.trans (hb12.mono HB11.out.size)
    have J12 := hb12
    have x0 : w12.cell? ⟨w.heap.size, 0, none⟩ = some (.int .i64 wd) := X12.cell 0
    have x1 : w12.cell? ⟨w.heap.size, 1, none⟩ = some (.int .i64 room) := X12.cell 1
    have x2 : w12.cell? ⟨w.heap.size, 2, none⟩ = some (.slice ai its.length ci) := X12.cell 2
    have x3 : w12.cell? ⟨w.heap.size, 3, none⟩ = some (.slice ap ts.length cp) := X12.cell 3
    have HY12 := hid Y12
    have HG12 := hid G12
    have HD12 := hid D12
    have HB12 := hid B12
    have HJ12 := hid J12
    clear z0 z1 z2 z3 hb12 J12 Y12 X12 G12 D12 B12
    go_wp2_with fail
    refine (HT.out _ (HI.out.below HB12.out) (HP.out.below HB12.out)).mono ?_
    rintro e w13 ⟨i13, p13, rfl, oi13, op13, _, hb13⟩
    go_wp2_with fail
    refine (HM.out i13 p13 _ oi13.rdi (Reads.of_row op13)).mono ?_
    rintro e w14 ⟨wd14, room14, its14, ts14, bb14, vi14, vp14, rfl, hres14, hso14, hb14⟩
    obtain ⟨rfl, rfl, rfl, rfl, rfl⟩ := unpin_same HRES.out hres14
    obtain ⟨a14, c14, rfl⟩ := row_any hso14.items
    obtain ⟨b14, d14, rfl⟩ := row_any hso14.pins
    have F14 := hb13.trans (hb14.mono hb13.size)
    have Y14 := HY12.out.below F14
    have G14 := HG12.out.below F14
    have D14 := HD12.out.trans (F14.mono HD12.out.size)
    have B14 := HB12.out.trans (F14.mono HB12.out.size)
    have J14 := HJ12.out.trans (F14.mono HJ12.out.size)
    have hA14 := (Below.refl w14.heap.size w14).alloc (Nat.le_refl _) (.cells #[.int .i64 wd3, .int .i64 room3, .slice a14 its3.length c14, .slice b14 ts3.length d14] 30)
    have so14 := hso14.below hA14
    have D14a := D14.trans (hA14.mono D14.size)
    have HEQ14 := hid (HE3.out _ _ _ _ _ so14.rdi (Reads.of_row so14.pins) (HI3.out.below D14a) (HP3.out.below D14a))
    have y0 : ∀ o, (w14.alloc o).cell? ⟨w3.heap.size, 0, none⟩ = some (.int .i64 wd3) := fun o => (Y14.alloc o).cell 0
    have y1 : ∀ o, (w14.alloc o).cell? ⟨w3.heap.size, 1, none⟩ = some (.int .i64 room3) := fun o => (Y14.alloc o).cell 1
    have y2 : ∀ o, (w14.alloc o).cell? ⟨w3.heap.size, 2, none⟩ = some (.slice a3 its3.length c3) := fun o => (Y14.alloc o).cell 2
    have y3 : ∀ o, (w14.alloc o).cell? ⟨w3.heap.size, 3, none⟩ = some (.slice b3 ts3.length d3) := fun o => (Y14.alloc o).cell 3
    have HG14 := hid (G14.alloc (.cells #[.int .i64 wd3, .int .i64 room3, .slice a14 its3.length c14, .slice b14 ts3.length d14] 30))
    have HB14 := hid (B14.trans (hA14.mono B14.size))
    have HJ14 := hid (J14.trans (hA14.mono J14.size))
    clear x0 x1 x2 x3 hb13 hb14 hres14 hso14 so14 F14 Y14 G14 D14 B14 J14 hA14 D14a oi13 op13
    go_wp2_with fail
    refine HEQ14.out.mono ?_
    rintro e w15 ⟨rfl, hb15⟩
    have G15 := HG14.out.below hb15
    have J15 := HJ14.out.trans (hb15.mono HJ14.out.size)
    have B15 := HB14.out.trans (hb15.mono HB14.out.size)
    have HHD2 := hid (heldStore_any wd3 room3 _ _ its3.length ts3.length w15 (HRD.out.below J15) (HPD.out.below J15) (by omega))
    have z0 : w15.cell? ⟨w5.heap.size, 0, none⟩ = some (.int .i64 wd3) := G15.cell 0
    have z1 : w15.cell? ⟨w5.heap.size, 1, none⟩ = some (.int .i64 room3) := G15.cell 1
    have z2 : w15.cell? ⟨w5.heap.size, 2, none⟩ = some (.slice a5 its3.length c5) := G15.cell 2
    have z3 : w15.cell? ⟨w5.heap.size, 3, none⟩ = some (.slice b5 ts3.length d5) := G15.cell 3
    have HB15 := hid B15
    clear y0 y1 y2 y3 hb15 G15 J15 B15
    go_wp2_with fail
    refine HHD2.out.mono ?_
    rintro e w16 ⟨rfl, hb16⟩
    have HB16 := hid (HB15.out.trans (hb16.mono HB15.out.size))
    clear z0 z1 z2 z3 hb16
    go_wp2
    go_ret
    exact ⟨by simp, HB16.out⟩
theorem reads_some {w : World} {x : Addr} {len cap : Nat} {ss : List ByteArray} (hl : len ≤ ss.length) (hcell : ∀ i, i < ss.length → w.cell? (x.add i) = some (.string (ss.getD i ByteArray.empty))) (hw : ∀ s ∈ ss, s.size ≤ maxLen) :
    Reads w (.slice (some x) len cap) (ss.take len) ∧ ∀ i, (tv (ss.take len) i).size ≤ maxLen := by
  have hlen : (ss.take len).length = len := by simp; omega
  constructor
  · by_cases e : len = 0
    · subst e
      exact .inl ⟨by simp, some x, cap, rfl⟩
    · obtain ⟨b, off, spot⟩ := x
      have hspot : spot = none := by simpa [Addr.add] using World.cell?_spot (hcell 0 (by omega))
      subst hspot
      have ea : ∀ i, (⟨b, off, none⟩ : Addr).add i = ⟨b, off + i, none⟩ := fun i => by simp [Addr.add]
      have h0 := hcell 0 (by omega)
      rw [ea] at h0
      refine .inr ⟨b, off, cap, by rw [hlen], World.block_lt_of_cell? w _ h0, fun i hi => ?_⟩
      rw [hlen] at hi
      have hc := hcell i (by omega)
      rw [ea] at hc
      rw [hc]
      simp [hi]
  · intro i
    unfold tv
    by_cases hi : i < (ss.take len).length
    · rw [List.getD_eq_getElem?_getD, List.getElem?_eq_getElem hi]
      exact hw _ (List.mem_of_mem_take (List.getElem_mem hi))
    · rw [List.getD_eq_getElem?_getD, List.getElem?_eq_none (by omega)]; simp
theorem cellsS : Try.prog.cellsOf 25 = 4 := by kernel_rfl
theorem laid : laidOutB Try.prog = true := by kernel_rfl

set_option maxRecDepth 100000 in
theorem lifted (os : Os) (started : os.Started) (H : Type) (enc : TypeId × Value → H) :
    ReturnsInHanded {} Try.checked os 4 .any (Rows.fnExactUnpinSpec.pre6 enc Try.prog Try.f4 Rows.fnExactUnpinRow.domain false) (Rows.fnExactUnpinSpec.post enc Try.prog Try.f4 false true false false) := by
  refine returnsInHanded_of_change (C := Try.checked) own started (by kernel_rfl) Try.func4
    (ChangeSpec.witness6 (enc := enc) (C := Try.checked) false ⟨#[], #[.agg #[.int .i64 0, .int .i64 0, .slice none 0 0, .slice none 0 0], .string ByteArray.empty], []⟩ 8 (by kernel_rfl) (by kernel_rfl) (by kernel_rfl) (by kernel_rfl)) ?_
  intro W base args ds gs before hval0 hW hcnd _
  have hval : ∀ (j : Nat) t v, Try.f4.params[j]? = some t → args[j]? = some v → Value.okWide Try.prog W .any base t v := hval0
  have hW' := hW
  obtain ⟨p, q, hA0, hV, rfl, hfz, hnd⟩ := hW
  have hA : DataW.TrodAll enc Try.prog W 0 (fun _ => true) true Try.f4.params.toList args.toList ds p := hA0
  rw [Try.params4] at hA hval
  obtain ⟨v0, vs0, d0, ds0, p0, q0, hargs, rfl, rfl, h0, r0⟩ := trodAll_cons hA
  obtain ⟨v1, vs1, d1, ds1, p1, q1, rfl, rfl, rfl, h1, r1⟩ := trodAll_cons r0
  obtain ⟨rfl, rfl, rfl⟩ := trodAll_nil r1
  obtain rfl : args = #[v0, v1] := by cases args; simp_all
  obtain ⟨rfl, rfl⟩ := trodVars_none hV
  have k0 := h0
  have lt0 : ∀ x ∈ p0, x.block < W.heap.size := by obtain ⟨m, hm⟩ := k0; exact DataW.trod_lt m _ _ _ hm
  obtain ⟨c0, c1, c2, c3, y0, y1, y2, y3, mm, hv0, _, _, hy0, hy1, hy2, hy3⟩ := Go.Joins.open_agg4 Try.underlying25 (by kernel_rfl) cellsS (hval 0 25 v0 rfl rfl) h0
  subst hv0
  obtain ⟨wd, e0, _, _⟩ := DataW.trod_int Try.underlying3 hy0
  obtain ⟨room, e1, _, _⟩ := DataW.trod_int Try.underlying3 hy1
  simp at e0 e1
  subst e0 e1
  obtain ⟨its, wi, hmi, hsi⟩ := open_items hy2
  obtain ⟨ts, wp, hmp, hsp⟩ : ∃ ts, Reads W c3 ts ∧ ts.length ≤ maxLen ∧ ∀ i, (tv ts i).size ≤ maxLen := by
    rcases open_strings Try.underlying23 Try.underlying9 (by kernel_rfl) hy3 with ⟨hcs, _⟩ | ⟨x, l, c, ss, hcs, _, hl, hm, hz, hx, hcell, hwz⟩
    · simp at hcs
      subst hcs
      exact ⟨[], .inl ⟨rfl, none, 0, rfl⟩, by simp, fun i => by simp [tv]⟩
    · simp at hcs
      subst hcs
      simp only [if_true] at hz
      have hsz : l ≤ ss.length := by rw [hz]; exact hl
      have h2 := reads_some (cap := c) hsz hcell hwz
      exact ⟨ss.take l, h2.1, by rw [List.length_take]; exact Nat.le_trans (Nat.min_le_left _ _) (Nat.le_trans hl hm), h2.2⟩
  obtain ⟨sx, rfl, rfl, rfl, wsx⟩ := open_string Try.underlying9 (hval 1 9 v1 rfl rfl) h1
  clear hA0 hval0
  refine (walk wd room c2 c3 its ts sx W wi wp hmi hmp hsi hsp wsx).mono fun e W' ⟨he, bel⟩ => ?_
  subst he
  exact ⟨_, rfl, _, _, _, [], _, [], hW', trodAll_mk1 (shut_bool Try.underlying4 _), (trodAll_cons_mk (Below.trod laid (by kernel_rfl) (of_decide_eq_true (by kernel_rfl)) k0 bel lt0) (trodAll_cons_mk (shut_string Try.underlying9 wsx) trodAll_mk0)), rfl, bel.frame _, fun h => by cases h⟩

theorem over : Rows.fnExactUnpinRow.holds Try.pinned (OpenSpec.ofChange Rows.fnExactUnpinSpec) :=
  OpenClaim.holds_of_wide 4 Try.f4 rfl rfl rfl rfl rfl rfl rfl ⟨rfl, rfl, rfl, rfl, rfl⟩ rfl rfl rfl rfl rfl (by kernel_rfl) Try.func4 (by kernel_rfl)
    (of_decide_eq_true (by kernel_rfl)) (by unfold Func.isWrapper; first | (rw [if_pos (by decide +kernel)]; kernel_rfl) | (rw [if_neg (by decide +kernel)]; exact ⟨rfl, rfl⟩))
    (fun os started H enc _ => lifted os started H enc)
end Go.Proofs.Ytmcipciimnncmaa.fnExactUnpin
namespace Go.Proofs.Ytmcipciimnncmaa
theorem fnExactUnpin_holds : Rows.FnExactUnpinSaid := fnExactUnpin.over
#print axioms fnExactUnpin_holds
end Go.Proofs.Ytmcipciimnncmaa
