/- laws.FnExactNeeded, walked. -/
import Derived.Test.YtegomgcekklhaaaGreatDoorNeedImpl
import Derived.Test.YtegomgcekklhaaaGreatDoorGetLaw
namespace Go.Proofs.YtegomgcekklhaaaGreatDoor
open Go.RowKit
theorem NRes.len {wd room : Int} {its : Itms} {ts out : List ByteArray} (h : NRes wd room its ts out) : out.length ≤ 3760 := by
  rcases h with ⟨_, rfl⟩ | ⟨_, _, h⟩
  · simp
  · exact h
theorem nreads_marks {w : World} {base k n : Nat} {v : Value} (h : w.ownsRow base 9 1 v n ((marks k n).map Value.string)) : Reads w v (marks k n) := Reads.of_row (base := base) (by rw [marks_length]; exact h)
theorem nrow_sm {w w' : World} {B n size : Nat} {e : TypeId} {v : Value} {xs : List Value} (h : w.ownsRow B e size v n xs) (hs : ∀ g, v.ownBlock = some g → w'.heap[g]? = w.heap[g]?) : w'.ownsRow B e size v n xs := row_same h hs
set_option maxRecDepth 100000 in
set_option maxHeartbeats 8000000 in
theorem needLaw_walk (wd room : Int) (vi vp : Value) (its : Itms) (ts : List ByteArray) (w : World) (hi : RdI w vi its) (hp : Reads w vp ts) (hli : its.length ≤ maxLen) (hlp : ts.length ≤ maxLen) (hsi : ∀ i, (itx its i).size ≤ maxLen) (hsp : ∀ i, (tv ts i).size ≤ maxLen) (hE : Errs w) :
    Calls Tryz.prog 3 #[.agg #[.int .i64 wd, .int .i64 room, vi, vp]] w fun e w' => e = .returned (.bool true) ∧ Below w.heap.size w w' := by
  have hA := (Below.refl w.heap.size w).alloc (Nat.le_refl _) (.cells #[.int .i64 wd, .int .i64 room, vi, vp] 25)
  have HZ := hid (szStore_any wd room vi vp its ts _ (hi.below hA) (hp.below hA) hli hlp hsi hsp)
  have HN := hid (Blk.new w 25 #[.int .i64 wd, .int .i64 room, vi, vp])
  have HI := hid hi
  have HP := hid hp
  have HA := hid hA
  have HER := hid hE
  obtain ⟨ai, ci, rfl, _⟩ := hi
  obtain ⟨ap, cp, rfl, _⟩ := hp.form
  clear hp hA hsi hsp hE
  go_enter Tryz.func3, Tryz.ntmps3
  go_wp2_with fail
  refine HZ.out.mono ?_
  rintro e w1 ⟨r, rfl, hr, hb1⟩
  have B1 := HA.out.trans (hb1.mono (by simp))
  have X1 := HN.out.below hb1
  by_cases hneg : r < 0
  · have HB := hid B1
    clear hr hb1 B1 X1
    go_wp2
    go_ret
    exact ⟨by simp, HB.out⟩
  · obtain ⟨l1, s1, l2, s2⟩ := hr (by omega)
    have HT := hid fun W h k => toStore2_any wd room (.slice ai its.length ci) (.slice ap ts.length cp) its ts W h k l1 l2
    have HS := hid fun (vi' vp' : Value) (W : World) h k => specNeeded_any wd room vi' vp' its ts W h k l1 l2 s1 s2
    have HM := hid fun (out : List ByteArray) (hout : NRes wd room its ts out) (vi' vp' : Value) (W : World) h k (e : Errs W) => implNeeded_any wd room vi' vp' its ts out W h k l1 l2 s1 s2 hout e
    have HE := hid fun (vi' vp' vj vq : Value) (W : World) a b c d => eqStore_any wd room vi' vp' vj vq its ts W a b c d hli hlp
    clear hr hb1 s1 s2 HZ
    have x0 : w1.cell? ⟨w.heap.size, 0, none⟩ = some (.int .i64 wd) := X1.cell 0
    have x1 : w1.cell? ⟨w.heap.size, 1, none⟩ = some (.int .i64 room) := X1.cell 1
    have x2 : w1.cell? ⟨w.heap.size, 2, none⟩ = some (.slice ai its.length ci) := X1.cell 2
    have x3 : w1.cell? ⟨w.heap.size, 3, none⟩ = some (.slice ap ts.length cp) := X1.cell 3
    go_wp2_with fail
    refine (HT.out _ (HI.out.below B1) (HP.out.below B1)).mono ?_
    rintro e w2 ⟨i2, p2, rfl, oi2, op2, _, hb2⟩
    have B2 := B1.trans (hb2.mono B1.size)
    have X2 := X1.below hb2
    have HS2 := hid (HS.out i2 p2 w2 oi2.rdi (Reads.of_row op2))
    have HB2 := hid B2
    have HX2 := hid X2
    clear x0 x1 x2 x3 X1 hb2 B1 oi2 op2 B2 X2
    go_wp2_with fail
    refine HS2.out.mono ?_
    rintro e w3 ⟨v3, out, rfl, hres, hrd3, hbl3⟩
    have hol := hres.len
    have HMO := hid (HM.out out hres)
    have HEQ := hid fun (va vb : Value) (W : World) (k1 : Reads W va out) (k2 : Reads W vb out) => eqStringS_any va vb out W k1 k2 (by unfold maxLen; omega)
    obtain ⟨a3, c3, rfl, _⟩ := hrd3.form
    have B3 := HB2.out.trans (hbl3.mono HB2.out.size)
    have X3 := HX2.out.below hbl3
    have hw3 := B3.size
    have HR3 := hid hrd3
    have HB3 := hid B3
    have HX3 := hid X3
    have HT3 := hid (HT.out w3 (HI.out.below B3) (HP.out.below B3))
    have x0 : w3.cell? ⟨w.heap.size, 0, none⟩ = some (.int .i64 wd) := X3.cell 0
    have x1 : w3.cell? ⟨w.heap.size, 1, none⟩ = some (.int .i64 room) := X3.cell 1
    have x2 : w3.cell? ⟨w.heap.size, 2, none⟩ = some (.slice ai its.length ci) := X3.cell 2
    have x3 : w3.cell? ⟨w.heap.size, 3, none⟩ = some (.slice ap ts.length cp) := X3.cell 3
    clear hbl3 hrd3 hres B3 X3
    go_wp2_with fail
    refine HT3.out.mono ?_
    rintro e w4 ⟨i4, p4, rfl, oi4, op4, hap4, hb4⟩
    have X4 := HX3.out.below hb4
    have B4 := HB3.out.trans (hb4.mono hw3)
    have so4 : StoreOwn w4 w3.heap.size i4 p4 its ts := ⟨oi4.row l1, op4, hap4⟩
    obtain ⟨a4, c4, rfl⟩ := row_any so4.items
    obtain ⟨b4, d4, rfl⟩ := row_any so4.pins
    have hs34 := hb4.size
    have hA4 := (Below.refl w4.heap.size w4).alloc (Nat.le_refl _) (.cells #[.int .i64 wd, .int .i64 room, .slice a4 its.length c4, .slice b4 ts.length d4] 30)
    have so4a := so4.below hA4
    have B4a := B4.trans (hA4.mono B4.size)
    have HM4 := hid (HMO.out _ _ _ so4a.rdi (Reads.of_row so4a.pins) (HER.out.below B4a))
    have HSO4 := hid so4
    have HX4 := hid X4
    have HB4 := hid B4
    have HA4 := hid hA4
    have HD4 := hid hb4
    clear x0 x1 x2 x3 hb4 X4 B4 so4 so4a B4a hA4 oi4 op4 hap4
    go_wp2_with fail
    refine HM4.out.mono ?_
    rintro e w5 ⟨v5, rfl, ho5, hb5⟩
    rw [World.size_alloc] at ho5
    have hs45 := hb5.size
    rw [World.size_alloc] at hs45
    have E5 := HA4.out.trans (hb5.mono (by simp))
    have D5 := HD4.out.trans (E5.mono hs34)
    have B5 := HB4.out.trans (E5.mono HB4.out.size)
    have X5 := HX4.out.below E5
    have V5 := (Blk.new w4 30 #[.int .i64 wd, .int .i64 room, .slice a4 its.length c4, .slice b4 ts.length d4]).below hb5
    have S5 := HSO4.out.below E5
    obtain ⟨a5, c5, rfl, _⟩ := row_form ho5
    have HEQ5 := hid (HEQ.out _ _ w5 (Reads.of_row ho5) (HR3.out.below D5))
    have HO5 := hid ho5
    have HD5 := hid D5
    have HB5 := hid B5
    have HX5 := hid X5
    have HV5 := hid V5
    have HS5 := hid S5
    clear hb5 ho5 E5 D5 B5 X5 V5 S5
    go_wp2_with fail
    refine HEQ5.out.mono ?_
    rintro e w6 ⟨rfl, hb6⟩
    have X6 := HX5.out.below hb6
    have V6 := HV5.out.below hb6
    have D6 := HD5.out.trans (hb6.mono HD5.out.size)
    have B6 := HB5.out.trans (hb6.mono HB5.out.size)
    have S6 := HS5.out.below hb6
    have O6 := Below.row hb6 HO5.out
    have hs56 := hb6.size
    have hec := enters_of Tryz.func6 (by kernel_rfl) rfl
    have hec2 := enters_of Tryz.func9 (by kernel_rfl) rfl
    have hS0 : w6.drew.cell? ⟨w4.heap.size, 0, none⟩ = some (.int .i64 wd) ∧ w6.drew.cell? ⟨w4.heap.size, 1, none⟩ = some (.int .i64 room) ∧ w6.drew.cell? ⟨w4.heap.size, 2, none⟩ = some (.slice a4 its.length c4) ∧ w6.drew.cell? ⟨w4.heap.size, 3, none⟩ = some (.slice b4 ts.length d4) ∧ w6.drew.cell? ⟨w.heap.size, 0, none⟩ = some (.int .i64 wd) ∧ w6.drew.cell? ⟨w.heap.size, 1, none⟩ = some (.int .i64 room) ∧ w6.drew.cell? ⟨w.heap.size, 2, none⟩ = some (.slice ai its.length ci) ∧ w6.drew.cell? ⟨w.heap.size, 3, none⟩ = some (.slice ap ts.length cp) := ⟨V6.cell 0, V6.cell 1, V6.cell 2, V6.cell 3, X6.cell 0, X6.cell 1, X6.cell 2, X6.cell 3⟩
    have hbd : Below w6.heap.size w6 w6.drew := below_drewN (Below.refl _ _) 1
    have HB6d := hid (B6.trans (hbd.mono B6.size))
    have HV6 := hid V6
    have HX6 := hid X6
    have HD6 := hid D6
    have HB6 := hid B6
    have HS6 := hid S6
    have HO6 := hid O6
    clear V6 X6 D6 B6 S6 O6 hbd hb6
    go_wp2_with fail
    refine wp_region_held (S := fun w' => w'.cell? ⟨w4.heap.size, 0, none⟩ = some (.int .i64 wd) ∧ w'.cell? ⟨w4.heap.size, 1, none⟩ = some (.int .i64 room) ∧ w'.cell? ⟨w4.heap.size, 2, none⟩ = some (.slice a4 its.length c4) ∧ w'.cell? ⟨w4.heap.size, 3, none⟩ = some (.slice b4 ts.length d4) ∧ w'.cell? ⟨w.heap.size, 0, none⟩ = some (.int .i64 wd) ∧ w'.cell? ⟨w.heap.size, 1, none⟩ = some (.int .i64 room) ∧ w'.cell? ⟨w.heap.size, 2, none⟩ = some (.slice ai its.length ci) ∧ w'.cell? ⟨w.heap.size, 3, none⟩ = some (.slice ap ts.length cp)) (by kernel_rfl) ?_
    change wpAnyH _ _ _ _ _ _ _ _ (World.drew _)
    refine wpAnyH_take (i := 0) (v := .agg #[.int .i64 wd, .int .i64 room, .slice a4 its.length c4, .slice b4 ts.length d4]) rfl (by kernel_rfl) (by kernel_rfl) (by kernel_rfl) (fun _ _ _ h => h) (.inl ⟨rfl, fun w' hS => by obtain ⟨s1, s2, s3, s4, s5, s6, s7, s8⟩ := hS; go_simp⟩) hS0 ?_
    refine wpAnyH_take (i := 1) (v := .agg #[.int .i64 wd, .int .i64 room, .slice ai its.length ci, .slice ap ts.length cp]) rfl (by kernel_rfl) (by kernel_rfl) (by kernel_rfl) (fun _ _ _ h => h) (.inl ⟨rfl, fun w' hS => by obtain ⟨s1, s2, s3, s4, s5, s6, s7, s8⟩ := hS; go_simp⟩) hS0 ?_
    refine held_one 2 (by kernel_rfl) (op_calls (f := 6) (args := #[.agg #[.int .i64 wd, .int .i64 room, .slice ai its.length ci, .slice ap ts.length cp]]) rfl rfl (by go_simp) (HT.out _ (HI.out.below HB6d.out) (HP.out.below HB6d.out)) ?_)
    rintro e w7 ⟨i7, p7, rfl, oi7, op7, _, hb7⟩
    have hb7' : Below w6.heap.size w6 w7 := ⟨hb7.os, hb7.tape, hb7.output, hb7.size, hb7.block⟩
    have V7 := HV6.out.below hb7'
    have X7 := HX6.out.below hb7'
    have hS1 : w7.cell? ⟨w4.heap.size, 0, none⟩ = some (.int .i64 wd) ∧ w7.cell? ⟨w4.heap.size, 1, none⟩ = some (.int .i64 room) ∧ w7.cell? ⟨w4.heap.size, 2, none⟩ = some (.slice a4 its.length c4) ∧ w7.cell? ⟨w4.heap.size, 3, none⟩ = some (.slice b4 ts.length d4) ∧ w7.cell? ⟨w.heap.size, 0, none⟩ = some (.int .i64 wd) ∧ w7.cell? ⟨w.heap.size, 1, none⟩ = some (.int .i64 room) ∧ w7.cell? ⟨w.heap.size, 2, none⟩ = some (.slice ai its.length ci) ∧ w7.cell? ⟨w.heap.size, 3, none⟩ = some (.slice ap ts.length cp) := ⟨V7.cell 0, V7.cell 1, V7.cell 2, V7.cell 3, X7.cell 0, X7.cell 1, X7.cell 2, X7.cell 3⟩
    have S7 := HS6.out.below hb7'
    have HEQ7 := hid (HE.out _ _ i7 p7 w7 S7.rdi (Reads.of_row S7.pins) oi7.rdi (Reads.of_row op7))
    refine ⟨_, rfl, hS1, ?_⟩
    refine held_one 3 (by kernel_rfl) (op_calls (f := 9) (args := #[.agg #[.int .i64 wd, .int .i64 room, .slice a4 its.length c4, .slice b4 ts.length d4], .agg #[.int .i64 wd, .int .i64 room, i7, p7]]) rfl rfl (by go_simp) HEQ7.out ?_)
    rintro e w8 ⟨rfl, hb8⟩
    have V8 := V7.below hb8
    have X8 := X7.below hb8
    have hS2 : w8.cell? ⟨w4.heap.size, 0, none⟩ = some (.int .i64 wd) ∧ w8.cell? ⟨w4.heap.size, 1, none⟩ = some (.int .i64 room) ∧ w8.cell? ⟨w4.heap.size, 2, none⟩ = some (.slice a4 its.length c4) ∧ w8.cell? ⟨w4.heap.size, 3, none⟩ = some (.slice b4 ts.length d4) ∧ w8.cell? ⟨w.heap.size, 0, none⟩ = some (.int .i64 wd) ∧ w8.cell? ⟨w.heap.size, 1, none⟩ = some (.int .i64 room) ∧ w8.cell? ⟨w.heap.size, 2, none⟩ = some (.slice ai its.length ci) ∧ w8.cell? ⟨w.heap.size, 3, none⟩ = some (.slice ap ts.length cp) := ⟨V8.cell 0, V8.cell 1, V8.cell 2, V8.cell 3, X8.cell 0, X8.cell 1, X8.cell 2, X8.cell 3⟩
    have F8 := hb7'.trans (hb8.mono hb7'.size)
    have D8 := HD6.out.trans (F8.mono HD6.out.size)
    have B8 := HB6.out.trans (F8.mono HB6.out.size)
    have S8 := HS6.out.below F8
    have O8 := Below.row F8 HO6.out
    have hs68 := F8.size
    refine ⟨_, rfl, hS2, ?_⟩
    refine wpAnyH_take (i := 4) (v := .bool false) rfl (by kernel_rfl) (by kernel_rfl) (by kernel_rfl) (fun _ _ _ h => h) (.inl ⟨rfl, fun w' hS => by obtain ⟨s1, s2, s3, s4, s5, s6, s7, s8⟩ := hS; go_simp⟩) hS2 ?_
    refine wpAnyH_done (by kernel_rfl) ?_ _
    clear hS0 hS1 hS2 V7 X7 S7 hb7 hb7' hb8 F8 oi7 op7
    have HMK := hid (markStore_any wd room _ _ _ its ts w8 S8 (by omega))
    have L4i := HSO4.out.items.lt
    have L4p := HSO4.out.pins.lt
    have L5 := HO5.out.lt
    have v0 : w8.cell? ⟨w4.heap.size, 0, none⟩ = some (.int .i64 wd) := V8.cell 0
    have v1 : w8.cell? ⟨w4.heap.size, 1, none⟩ = some (.int .i64 room) := V8.cell 1
    have v2 : w8.cell? ⟨w4.heap.size, 2, none⟩ = some (.slice a4 its.length c4) := V8.cell 2
    have v3 : w8.cell? ⟨w4.heap.size, 3, none⟩ = some (.slice b4 ts.length d4) := V8.cell 3
    have HX8 := hid X8
    have HD8 := hid D8
    have HB8 := hid B8
    have HO8 := hid O8
    have HL4i := hid L4i
    have HL4p := hid L4p
    have HL5 := hid L5
    clear V8 X8 D8 B8 S8 O8 L4i L4p L5
    go_simp
    go_wp2_with fail
    refine HMK.out.mono ?_
    rintro e w9 ⟨rfl, _, hsame9, hsz9, hbel9⟩
    have bel9 := hbel9 w3.heap.size (fun g e => (HL4i.out g e).1) (fun g e => (HL4p.out g e).1) (by omega)
    have D9 := HD8.out.trans bel9
    have B9 := HB8.out.trans (bel9.mono (by omega))
    have hxl := HX3.out.lt
    have X9 := HX8.out.belowAt bel9 hxl
    have O9 := nrow_sm HO8.out (fun g e => hsame9 g (by have := (HL5.out g e).2; omega) (fun e2 => by have h1 := (HL4i.out _ e2).2; have h2 := (HL5.out g e).1; omega) (fun e2 => by have h1 := (HL4p.out _ e2).2; have h2 := (HL5.out g e).1; omega))
    have HEQ9 := hid (HEQ.out _ _ w9 (Reads.of_row O9) (HR3.out.below D9))
    have hk9 : ¬ (((1 + 2 * its.length + ts.length : Nat) : Int) < 0) := by omega
    have HX9 := hid X9
    have HD9 := hid D9
    have HB9 := hid B9
    have HO9 := hid O9
    clear v0 v1 v2 v3 hsame9 hbel9 bel9 D9 B9 X9 O9 hxl
    go_wp2_with fail
    refine HEQ9.out.mono ?_
    rintro e w10 ⟨rfl, hb10⟩
    have O10 := Below.row hb10 HO9.out
    have HMG := hid (markStringS_grown _ 1 _ out w10 O10 (by omega) (by omega))
    have HX10 := hid (HX9.out.below hb10)
    have HD10 := hid (HD9.out.trans (hb10.mono HD9.out.size))
    have HB10 := hid (HB9.out.trans (hb10.mono HB9.out.size))
    have hs910 := hb10.size
    clear hk9 hb10 O10
    go_wp2_with fail
    refine HMG.out.mono ?_
    rintro e w11 ⟨rfl, hrow11, hg11⟩
    have hs11 := hg11.size
    have bel11 : Below (w4.heap.size + 1) w10 w11 := ⟨hg11.os, hg11.tape, hg11.output, hg11.size, fun k hk => hg11.block k (by omega) (fun e => by have := (HL5.out _ e.symm).1; omega)⟩
    have HHD := hid fun (W : World) (k : Reads W (.slice a5 out.length c5) (marks 1 out.length)) => heldStringS_any (.slice a5 out.length c5) 1 out.length W k (by omega) (by omega)
    have hx4 := HX4.out.lt
    have X11 := HX10.out.belowAt bel11 (by omega)
    have D11 := HD10.out.trans (bel11.mono (by omega))
    have B11 := HB10.out.trans (bel11.mono (by omega))
    have HRM := hid (nreads_marks hrow11)
    have HH11 := hid (HHD.out w11 (nreads_marks hrow11))
    have hm1 : ¬ (((1 + out.length : Nat) : Int) < 0) := by omega
    have HX11 := hid X11
    have HD11 := hid D11
    have HB11 := hid B11
    clear hrow11 hg11 bel11 X11 D11 B11
    go_wp2_with fail
    refine HH11.out.mono ?_
    rintro e w12 ⟨rfl, hb12⟩
    have X12 := HX11.out.below hb12
    have B12 := HB11.out.trans (hb12.mono HB11.out.size)
    have HT12 := hid (HT.out w12 (HI.out.below B12) (HP.out.below B12))
    have x0 : w12.cell? ⟨w.heap.size, 0, none⟩ = some (.int .i64 wd) := X12.cell 0
    have x1 : w12.cell? ⟨w.heap.size, 1, none⟩ = some (.int .i64 room) := X12.cell 1
    have x2 : w12.cell? ⟨w.heap.size, 2, none⟩ = some (.slice ai its.length ci) := X12.cell 2
    have x3 : w12.cell? ⟨w.heap.size, 3, none⟩ = some (.slice ap ts.length cp) := X12.cell 3
    have HB12 := hid B12
    have HJ12 := hid hb12
    clear hb12 X12 B12
    go_wp2_with fail
    refine HT12.out.mono ?_
    rintro e w13 ⟨i13, p13, rfl, oi13, op13, _, hb13⟩
    have B13 := HB12.out.trans (hb13.mono HB12.out.size)
    have HM13 := hid (HMO.out i13 p13 w13 oi13.rdi (Reads.of_row op13) (HER.out.below B13))
    have HJ13 := hid (HJ12.out.trans (hb13.mono HJ12.out.size))
    have HB13 := hid B13
    clear x0 x1 x2 x3 hb13 oi13 op13 B13
    go_wp2_with fail
    refine HM13.out.mono ?_
    rintro e w14 ⟨v14, rfl, ho14, hb14⟩
    obtain ⟨a14, c14, rfl, _⟩ := row_form ho14
    have J14 := HJ13.out.trans (hb14.mono HJ13.out.size)
    have D14 := HD11.out.trans (J14.mono HD11.out.size)
    have HEQ14 := hid (HEQ.out _ _ w14 (Reads.of_row ho14) (HR3.out.below D14))
    have HJ14 := hid J14
    have HB14 := hid (HB13.out.trans (hb14.mono HB13.out.size))
    clear ho14 hb14 J14 D14
    go_wp2_with fail
    refine HEQ14.out.mono ?_
    rintro e w15 ⟨rfl, hb15⟩
    have J15 := HJ14.out.trans (hb15.mono HJ14.out.size)
    have HH15 := hid (HHD.out w15 (HRM.out.below J15))
    have HB15 := hid (HB14.out.trans (hb15.mono HB14.out.size))
    clear hb15 J15
    go_wp2_with fail
    refine HH15.out.mono ?_
    rintro e w16 ⟨rfl, hb16⟩
    have HB16 := hid (HB15.out.trans (hb16.mono HB15.out.size))
    clear hb16
    go_wp2
    go_ret
    exact ⟨by simp, HB16.out⟩
end Go.Proofs.YtegomgcekklhaaaGreatDoor
