/- laws.FnExactFormList returns true at every argument. -/
import Derived.Test.YtooodilbehnnfaaDoorFormImpl
import Derived.Test.YtooodilbehnnfaaDoorArgs
import Derived.Test.YtooodilbehnnfaaDoorEqList
import Derived.Lib.SmallJoins
import Derived.Below
import Derived.WalkKit
import Derived.ProofKit
import Derived.OpenShut
import Derived.ShutString
import Derived.LaidMore
import Derived.Stop.Joined
import Derived.Lib.LaidTab
namespace Go.Proofs.YtooodilbehnnfaaDoor.fnExactFormList
open Go.ChangeShapes Go.WideShapes Go.ChangeAt Go.RowKit
open Go.ChangeMaps (open_string shut_string)
set_option linter.unusedVariables false

theorem own : ownKnob Tryd.prog.godebug = none := by kernel_rfl

theorem lbox_new (w : World) (n : Int) (v : Value) : LBox (w.alloc (.cells #[.int .i64 n, v] 27)) w.heap.size n v := World.alloc_heap_new w _
theorem abox_new (w : World) (n : Int) (v : Value) : ABox (w.alloc (.cells #[.int .i64 n, v] 24)) w.heap.size n v := World.alloc_heap_new w _

set_option maxRecDepth 100000 in
set_option maxHeartbeats 1000000 in
theorem walk (n : Int) (vs : Value) (ss : List ByteArray) (m : Int) (w : World) (hs : Reads w vs ss) (hl : ss.length ≤ maxLen) (hsz : ∀ i, (tv ss i).size ≤ maxLen) (htab : Lib.TabIs Tryd.prog w "internal/strconv.uint64pow10" .u64 Lib.pow10Tab) :
    Calls Tryd.prog 3 #[.agg #[.int .i64 n, vs], .int .i64 m] w fun e w' => e = .returned (.bool true) ∧ Below w.heap.size w w' := by
  have hb0 := (Below.refl w.heap.size w).alloc (Nat.le_refl _) (.cells #[.int .i64 n, vs] 24)
  have x0 := abox_new w n vs
  have HS0 := hid (hs.below hb0)
  have HX0 := hid x0
  have HB0 := hid hb0
  have HTAB := hid htab
  have HZ := hid (szList_any n vs ss _ (hs.below hb0) hl hsz)
  obtain ⟨a, ca, rfl, _⟩ := hs.form
  clear hs hb0 x0 htab
  go_enter Tryd.func3, Tryd.ntmps3
  go_wp2_with fail
  refine HZ.out.mono ?_
  rintro e w1 ⟨r, rfl, hr, hrr, hb1⟩
  have x1 := HX0.out.below hb1
  have HS1 := hid (HS0.out.below hb1)
  have HB1 := hid (HB0.out.trans (hb1.mono (by simp)))
  have HX1 := hid x1
  have HRR := hid hrr
  have c0 := x1.c0
  have c1 := x1.c1
  clear hb1 x1 hrr HS0 HX0 HB0 HZ
  by_cases h0 : r < 0
  · go_wp2
    go_ret
    exact ⟨rfl, HB1.out⟩
  · obtain ⟨hsl, hss⟩ := HRR.out (by omega)
    have hss2 : ∀ i, (ss.getD i ByteArray.empty).size ≤ maxLen := hsz
    have HTL := hid fun W (h : Reads W (.slice a ss.length ca) ss) => toList_any n (.slice a ss.length ca) ss W h hsl
    have HSF := hid fun W vs' (h1 : Reads W vs' ss) => specFormList_any n vs' ss m W h1 hl hss2
    have HIF := hid fun W vs' (h1 : Reads W vs' ss) h2 => implFormList_any n vs' ss m W h1 hl hss2 h2
    have HEL := hid fun W va vb (h1 : Reads W va ss) (h2 : Reads W vb ss) => eqList_any n va vb ss W h1 h2 hl
    generalize formR n ss m = fr at *
    clear hsl hss hss2 hsz HRR
    go_wp2_with fail
    refine (HTL.out _ HS1.out).mono ?_
    rintro e w2 ⟨v2, rfl, ho2, hb2⟩
    have HS2 := hid (HS1.out.below hb2)
    have HX2 := hid (HX1.out.below hb2)
    have HB2 := hid (HB1.out.trans (hb2.mono HB1.out.size))
    have HV2 := hid (Reads.of_row ho2)
    obtain ⟨a2, c2, rfl, _⟩ := row_form ho2
    clear hb2 ho2 HS1 HX1 HB1 c0 c1
    go_wp2_with fail
    refine (HSF.out _ _ HV2.out).mono ?_
    rintro e w4 ⟨rfl, hb4⟩
    have HS4 := hid (HS2.out.below hb4)
    have x4 := HX2.out.below hb4
    have HX4 := hid x4
    have HB4 := hid (HB2.out.trans (hb4.mono HB2.out.size))
    have d0 := x4.c0
    have d1 := x4.c1
    clear hb4 x4 HS2 HX2 HB2 HV2
    go_wp2_with fail
    refine (HTL.out _ HS4.out).mono ?_
    rintro e w5 ⟨v5, rfl, ho5, hb5⟩
    obtain ⟨a5, c5, rfl, _⟩ := row_form ho5
    have hbx : Below w5.heap.size w5 (w5.alloc (.cells #[.int .i64 n, .slice a5 ss.length c5] 27)) := (Below.refl _ _).alloc (Nat.le_refl _) _
    have HS5 := hid ((HS4.out.below hb5).below hbx)
    have HX5 := hid ((HX4.out.below hb5).below hbx)
    have HB5 := hid ((HB4.out.trans (hb5.mono HB4.out.size)).trans (hbx.mono (Nat.le_trans HB4.out.size hb5.size)))
    have HV5 := hid ((Reads.of_row ho5).below hbx)
    have HL5 := hid (lbox_new w5 n (.slice a5 ss.length c5))
    have HT5 := hid (tab_below HTAB.out HB5.out)
    clear hb5 ho5 hbx HS4 HX4 HB4 d0 d1
    go_wp2_with fail
    refine (HIF.out _ _ HV5.out HT5.out).mono ?_
    rintro e w7 ⟨rfl, hb7⟩
    have HS7 := hid (HS5.out.below hb7)
    have x7 := HX5.out.below hb7
    have HX7 := hid x7
    have l7 := HL5.out.below hb7
    have HL7 := hid l7
    have HB7 := hid (HB5.out.trans (hb7.mono HB5.out.size))
    have HV57 := hid (HV5.out.below hb7)
    clear hb7 x7 l7 HS5 HX5 HB5 HV5 HL5
    go_wp2_with fail
    have hlx := HX7.out.lt
    have hll := HL7.out.lt
    refine wp_region_held (S := fun w' => (w'.cell? ⟨w5.heap.size, 0, none⟩ = some (.int .i64 n) ∧ w'.cell? ⟨w5.heap.size, 1, none⟩ = some (.slice a5 ss.length c5)) ∧ w'.cell? ⟨w.heap.size, 0, none⟩ = some (.int .i64 n) ∧ w'.cell? ⟨w.heap.size, 1, none⟩ = some (.slice a ss.length ca)) (by kernel_rfl) ?_
    change wpAnyH _ _ _ _ _ _ _ _ (World.drew _)
    have HSS : Hid (∀ W : World, LBox W w5.heap.size n (.slice a5 ss.length c5) → ABox W w.heap.size n (.slice a ss.length ca) → (W.cell? ⟨w5.heap.size, 0, none⟩ = some (.int .i64 n) ∧ W.cell? ⟨w5.heap.size, 1, none⟩ = some (.slice a5 ss.length c5)) ∧ W.cell? ⟨w.heap.size, 0, none⟩ = some (.int .i64 n) ∧ W.cell? ⟨w.heap.size, 1, none⟩ = some (.slice a ss.length ca)) := fun W h1 h2 => ⟨⟨h1.c0, h1.c1⟩, h2.c0, h2.c1⟩
    refine wpAnyH_take (i := 0) (v := .agg #[.int .i64 n, .slice a5 ss.length c5]) rfl (by kernel_rfl) (by kernel_rfl) (by kernel_rfl) (fun _ _ _ h => h) (.inl ⟨rfl, fun w' hS => by obtain ⟨⟨s1, s2⟩, s3, s4⟩ := hS; go_simp⟩) (HSS.out w7.drew HL7.out HX7.out) ?_
    refine wpAnyH_take (i := 1) (v := .agg #[.int .i64 n, .slice a ss.length ca]) rfl (by kernel_rfl) (by kernel_rfl) (by kernel_rfl) (fun _ _ _ h => h) (.inl ⟨rfl, fun w' hS => by obtain ⟨⟨s1, s2⟩, s3, s4⟩ := hS; go_simp⟩) (HSS.out w7.drew HL7.out HX7.out) ?_
    have hec := enters_of Tryd.func8 (by kernel_rfl) rfl
    have hee := enters_of Tryd.func10 (by kernel_rfl) rfl
    refine held_one 2 (by kernel_rfl) (op_calls (f := 8) (args := #[.agg #[.int .i64 n, .slice a ss.length ca]]) rfl rfl (by go_simp) (HTL.out _ HS7.out) ?_)
    rintro e w8 ⟨v8, rfl, ho8, hb8⟩
    have hb8' : Below w7.heap.size w7 w8 := ⟨hb8.os, hb8.tape, hb8.output, hb8.size, hb8.block⟩
    have l8 := HL7.out.below hb8'
    have x8 := HX7.out.below hb8'
    have HV58 := hid (HV57.out.below hb8')
    have HB8 := hid (HB7.out.trans (hb8'.mono HB7.out.size))
    have HV8 := hid (Reads.of_row ho8)
    obtain ⟨a8, c8, rfl, _⟩ := row_form ho8
    clear hb8 hb8' ho8
    refine ⟨_, rfl, HSS.out w8 l8 x8, held_one 3 (by kernel_rfl) (op_calls (f := 10) (args := #[.agg #[.int .i64 n, .slice a5 ss.length c5], .agg #[.int .i64 n, .slice a8 ss.length c8]]) rfl rfl (by go_simp) (HEL.out _ _ _ HV58.out HV8.out) ?_)⟩
    rintro e w9 ⟨rfl, hb9⟩
    have HS9 := HSS.out w9 (l8.below hb9) (x8.below hb9)
    have HB9 := hid (HB8.out.trans (hb9.mono HB8.out.size))
    clear hb9 l8 x8
    refine ⟨_, rfl, HS9, held_one 4 (by kernel_rfl) (op_value (v := .bool false) (w' := w9) rfl rfl (by go_simp) ⟨HS9, wpAnyH_done (by kernel_rfl) ?_ _⟩)⟩
    clear HS9
    go_simp
    go_wp2
    go_ret
    exact ⟨rfl, HB9.out⟩
theorem reads_some {w : World} {x : Addr} {len cap : Nat} {ss : List ByteArray} (hl : len ≤ ss.length) (hcell : ∀ i, i < ss.length → w.cell? (x.add i) = some (.string (ss.getD i ByteArray.empty))) (hw : ∀ s ∈ ss, s.size ≤ maxLen) :
    Reads w (.slice (some x) len cap) (ss.take len) ∧ ∀ i, (tv (ss.take len) i).size ≤ maxLen := by
  have hlen : (ss.take len).length = len := by simp; omega
  constructor
  · by_cases e : len = 0
    · subst e
      exact .inl ⟨by simp, some x, cap, rfl⟩
    · obtain ⟨b, off, spot⟩ := x
      have hspot : spot = none := by simpa [Addr.add] using World.cell?_spot (hcell 0 (by omega))
      subst hspot
      have ea : ∀ i, (⟨b, off, none⟩ : Addr).add i = ⟨b, off + i, none⟩ := fun i => by simp [Addr.add]
      have h0 := hcell 0 (by omega)
      rw [ea] at h0
      refine .inr ⟨b, off, cap, by rw [hlen], World.block_lt_of_cell? w _ h0, fun i hi => ?_⟩
      rw [hlen] at hi
      have hc := hcell i (by omega)
      rw [ea] at hc
      rw [hc]
      simp [hi]
  · intro i
    unfold tv
    by_cases hi : i < (ss.take len).length
    · rw [List.getD_eq_getElem?_getD, List.getElem?_eq_getElem hi]
      exact hw _ (List.mem_of_mem_take (List.getElem_mem hi))
    · rw [List.getD_eq_getElem?_getD, List.getElem?_eq_none (by omega)]; simp
theorem laid : laidOutB Tryd.prog = true := by kernel_rfl
theorem cellsA : Tryd.prog.cellsOf 24 = 2 := by kernel_rfl
/-- The door's own heap meets the condition. -/
theorem door_met (os : Os) (args : Array Value) : laidMetH Tryd.prog Rows.fnExactFormListRow.laid ((World.doorLaid Tryd.prog 400 os).forCall (fun _ _ => 0) ⟨#[], args, []⟩).memory :=
  laidMetH_of_parts3 (fuel := 8) (laidMet_of_run' 8 (by kernel_rfl) (by kernel_rfl)) (by kernel_rfl) (by kernel_rfl)
theorem gTab : Tryd.prog.globalNamed "internal/strconv.uint64pow10" = some 0 := by kernel_rfl
theorem tTab : (Tryd.prog.globals[(0 : Nat)]?).map (·.type) = some 98 := by kernel_rfl
/-- What the condition gives the walk: the table of powers. -/
theorem of_laid {W : World} (h : laidMetH Tryd.prog Rows.fnExactFormListRow.laid W) : Lib.TabIs Tryd.prog W "internal/strconv.uint64pow10" .u64 Lib.pow10Tab := by
  rw [MakeChecks.laidMetH_plain _ _ _ (by kernel_rfl)] at h
  obtain ⟨ps, ⟨g0, t0, cs0, f0, p0, q0, hg0, ht0, hv0, hd0, ⟨g1, t1, cs1, f1, p1, q1, hg1, ht1, hv1, hd1, ⟨g2, t2, cs2, f2, p2, q2, hg2, ht2, hv2, hd2, _, _⟩, _⟩, _⟩, _, _⟩ := h
  obtain rfl := Option.some.inj (gTab.symm.trans hg2)
  obtain rfl := Option.some.inj (tTab.symm.trans ht2)
  have hc := Lib.cells_of_tab (zs := Lib.pow10Tab) (k := .u64) Tryd.underlying98 Tryd.underlying73 (by kernel_rfl) (by kernel_rfl) (show _ = some (Lib.tabData .u64 Lib.pow10Tab, p2) from hd2)
  refine (show World.var? Tryd.prog W "internal/strconv.uint64pow10" = some cs2 from hv2).trans (congrArg some ?_)
  rw [← hc]

set_option maxRecDepth 100000 in
theorem lifted (os : Os) (started : os.Started) (H : Type) (enc : TypeId × Value → H) :
    ReturnsInHanded {} Tryd.checked os 3 .any (fun w args => (Rows.fnExactFormListSpec.pre enc Tryd.prog Tryd.f3 [] false w args ∧ laidMetH Tryd.prog Rows.fnExactFormListRow.laid w) ∧ sizedMet enc Tryd.prog Tryd.f3 (OpenSpec.ofChange Rows.fnExactFormListSpec) false w args)
      (Rows.fnExactFormListSpec.post enc Tryd.prog Tryd.f3 false true false false) := by
  refine returnsInHanded_of_change_and (C := Tryd.checked) (X := fun w _ => laidMetH Tryd.prog Rows.fnExactFormListRow.laid w) (fun _ _ _ hh h => h.of_heap hh) own started (by kernel_rfl) Tryd.func3
    (ChangeSpec.witness_shaped (enc := enc) (C := Tryd.checked) (os := os) (X := fun w _ => laidMetH Tryd.prog Rows.fnExactFormListRow.laid w) false (World.doorLaid Tryd.prog 400 os) #[.agg #[.int .i64 0, .slice none 0 0], .int .i64 0] 8 rfl (World.shaped_of_RefB (by kernel_rfl) (by kernel_rfl)) (by kernel_rfl) (by kernel_rfl) (by kernel_rfl) (door_met os _)) ?_
  intro W base args ds gs before hval0 hW _ _ hL _
  have hval : ∀ (j : Nat) t v, Tryd.f3.params[j]? = some t → args[j]? = some v → Value.okWide Tryd.prog W .any base t v := hval0
  have hW' := hW
  obtain ⟨p, q, hA0, hV, rfl, hfz, hnd⟩ := hW
  have hA : DataW.TrodAll enc Tryd.prog W 0 (fun _ => true) true Tryd.f3.params.toList args.toList ds p := hA0
  rw [Tryd.params3] at hA hval
  obtain ⟨v0, vs0, d0, ds0, p0, q0, hargs, rfl, rfl, h0, r0⟩ := trodAll_cons hA
  obtain ⟨v1, vs1, d1, ds1, p1, q1, rfl, rfl, rfl, h1, r1⟩ := trodAll_cons r0
  obtain ⟨rfl, rfl, rfl⟩ := trodAll_nil r1
  obtain rfl : args = #[v0, v1] := by cases args; simp_all
  obtain ⟨rfl, rfl⟩ := trodVars_none hV
  have k0 := h0
  have lt0 : ∀ x ∈ p0, x.block < W.heap.size := by obtain ⟨m, hm⟩ := k0; exact DataW.trod_lt m _ _ _ hm
  obtain ⟨c0, c1, y0, y1, mm, hv0, _, _, hy0, hy1⟩ := Go.Joins.open_agg2 Tryd.underlying24 (by kernel_rfl) cellsA (hval 0 24 v0 rfl rfl) h0
  subst hv0
  obtain ⟨n, e0, _, wn⟩ := DataW.trod_int Tryd.underlying3 hy0
  simp at e0
  subst e0
  obtain ⟨ss, ws, hms, hss⟩ : ∃ ts, Reads W c1 ts ∧ ts.length ≤ maxLen ∧ ∀ i, (tv ts i).size ≤ maxLen := by
    rcases open_strings Tryd.underlying22 Tryd.underlying9 (by kernel_rfl) hy1 with ⟨hcs, _⟩ | ⟨x, l, c, ss, hcs, _, hl, hm, hz, hx, hcell, hwz⟩
    · simp at hcs
      subst hcs
      exact ⟨[], .inl ⟨rfl, none, 0, rfl⟩, by simp, fun i => by simp [tv]⟩
    · simp at hcs
      subst hcs
      simp only [if_true] at hz
      have hsz : l ≤ ss.length := by rw [hz]; exact hl
      have h2 := reads_some (cap := c) hsz hcell hwz
      exact ⟨ss.take l, h2.1, by rw [List.length_take]; exact Nat.le_trans (Nat.min_le_left _ _) (Nat.le_trans hl hm), h2.2⟩
  obtain ⟨a1, rfl, rfl, rfl, w1⟩ := open_int Tryd.underlying3 (hval 1 3 v1 rfl rfl) h1
  clear hA0 hval0
  refine (walk n c1 ss a1 W ws hms hss (of_laid hL)).mono fun e W' ⟨he, bel⟩ => ?_
  subst he
  exact ⟨_, rfl, _, _, _, [], _, [], hW', trodAll_mk1 (shut_bool Tryd.underlying4 _), (trodAll_cons_mk (Below.trod laid (by kernel_rfl) (of_decide_eq_true (by kernel_rfl)) k0 bel lt0) (trodAll_cons_mk (shut_int Tryd.underlying3 w1) trodAll_mk0)), rfl, bel.frame _, fun h => by cases h⟩

theorem over : Rows.FnExactFormListSaid :=
  OpenClaim.holds_of_wide 3 Tryd.f3 rfl rfl rfl rfl rfl rfl rfl ⟨rfl, rfl, rfl, rfl, rfl⟩ rfl rfl rfl rfl rfl (by kernel_rfl) Tryd.func3 (by kernel_rfl)
    (of_decide_eq_true (by kernel_rfl)) (by unfold Func.isWrapper; first | (rw [if_pos (by decide +kernel)]; kernel_rfl) | (rw [if_neg (by decide +kernel)]; exact ⟨rfl, rfl⟩))
    (fun os started H enc _ => lifted os started H enc)
end Go.Proofs.YtooodilbehnnfaaDoor.fnExactFormList
