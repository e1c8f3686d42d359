/- laws.FnExactBuild returns true at every argument. -/
import Derived.Test.YtohnffbcgancfaaBuildSpec
import Derived.Test.YtohnffbcgancfaaArgs
import Derived.Test.YtohnffbcgancfaaListLaw
import Derived.Lib.SmallJoins
import Derived.Below
import Derived.WalkKit
import Derived.ProofKit
import Derived.OpenShut
import Derived.ShutString
namespace Go.Proofs.Ytohnffbcgancfaa.fnExactBuild
open Go.ChangeShapes Go.WideShapes Go.ChangeAt Go.RowKit
open Go.ChangeMaps (open_string shut_string)
set_option linter.unusedVariables false

theorem own : ownKnob Try.prog.godebug = none := by kernel_rfl

theorem lbox_new (w : World) (n : Int) (v : Value) : LBox (w.alloc (.cells #[.int .i64 n, v] 42)) w.heap.size n v := World.alloc_heap_new w _
theorem abox_new (w : World) (n : Int) (v : Value) : ABox (w.alloc (.cells #[.int .i64 n, v] 46)) w.heap.size n v := World.alloc_heap_new w _
theorem buildR_form (n : Int) (ss ps : List ByteArray) (m : Int) : ∃ s b, buildR n ss ps m = .tuple #[.string s, .bool b] := by
  unfold buildR
  split <;> exact ⟨_, _, rfl⟩

set_option maxRecDepth 100000 in
set_option maxHeartbeats 1000000 in
theorem walk (n : Int) (vs vp : Value) (ss ps : List ByteArray) (m : Int) (w : World) (hs : Reads w vs ss) (hp : Reads w vp ps) (hl : ss.length ≤ maxLen) (hl' : ps.length ≤ maxLen) (hsz : ∀ i, (tv ss i).size ≤ maxLen) (hsz' : ∀ i, (tv ps i).size ≤ maxLen) :
    Calls Try.prog 10 #[.agg #[.int .i64 n, vs], vp, .int .i64 m] w fun e w' => e = .returned (.bool true) ∧ Below w.heap.size w w' := by
  have hb0 := (Below.refl w.heap.size w).alloc (Nat.le_refl _) (.cells #[.int .i64 n, vs] 46)
  have x0 := abox_new w n vs
  have HS0 := hid (hs.below hb0)
  have HP0 := hid (hp.below hb0)
  have HX0 := hid x0
  have HB0 := hid hb0
  have HZ := hid (szList_any n vs ss _ (hs.below hb0) hl hsz)
  obtain ⟨a, ca, rfl, _⟩ := hs.form
  obtain ⟨b, cb, rfl, _⟩ := hp.form
  clear hs hp hb0 x0
  go_enter Try.func10, Try.ntmps10
  go_wp2_with fail
  refine HZ.out.mono ?_
  rintro e w1 ⟨r, rfl, hr, hrr, hb1⟩
  have x1 := HX0.out.below hb1
  have HS1 := hid (HS0.out.below hb1)
  have HP1 := hid (HP0.out.below hb1)
  have HB1 := hid (HB0.out.trans (hb1.mono (by simp)))
  have HX1 := hid x1
  have HRR := hid hrr
  clear hb1 x1 hrr HS0 HP0 HX0 HB0 HZ
  by_cases h0 : r < 0
  · go_wp2
    go_ret
    exact ⟨rfl, HB1.out⟩
  · obtain ⟨L, rfl⟩ := Int.eq_ofNat_of_zero_le (show 0 ≤ r by omega)
    obtain ⟨hsl, hss⟩ := HRR.out (by omega)
    have HZ2 := hid (szStrs_any (.slice b ps.length cb) ps L w1 HP1.out hl' hsz' (by omega))
    go_wp2_with fail
    refine HZ2.out.mono ?_
    rintro e w1' ⟨r2, rfl, hr2, hrr2, rfl⟩
    have HRR2 := hid hrr2
    have c0 := HX1.out.c0
    have c1 := HX1.out.c1
    clear hrr2 HZ2
    by_cases h2 : r2 < 0
    · go_wp2
      go_ret
      exact ⟨rfl, HB1.out⟩
    · obtain ⟨hpl, hps⟩ := HRR2.out (by omega)
      have hpl2 : ps.length ≤ 1048576 := by omega
      have hps2 : ∀ i, (ps.getD i ByteArray.empty).size ≤ 1048576 := fun i => by have := hps i; unfold tv at this; omega
      have hss2 : ∀ i, (ss.getD i ByteArray.empty).size ≤ maxLen := hsz
      have hps3 : ∀ i, (ps.getD i ByteArray.empty).size ≤ maxLen := hsz'
      have HTL := hid fun W (h : Reads W (.slice a ss.length ca) ss) => toList_any n (.slice a ss.length ca) ss W h hsl
      have HTS := hid fun W (h : Reads W (.slice b ps.length cb) ps) => toStrs_any (.slice b ps.length cb) ps W h hpl2
      have HSB := hid fun W vs' vp' (h1 : Reads W vs' ss) (h2 : Reads W vp' ps) => specBuild_any n vs' vp' ss ps m W h1 h2 hl hl' hss2 hps2
      have HIB := hid fun W vs' vp' (h1 : Reads W vs' ss) (h2 : Reads W vp' ps) => implBuild_any n vs' vp' ss ps m W h1 h2 hl hl' hss2 hps3
      have HEL := hid fun W va vb (h1 : Reads W va ss) (h2 : Reads W vb ss) => eqList_any n va vb ss W h1 h2 hl
      have HES := hid fun W va vb (h1 : Reads W va ps) (h2 : Reads W vb ps) => eqStringS_any va vb ps W h1 h2 hl'
      obtain ⟨rs, rb, hR⟩ := buildR_form n ss ps m
      rw [hR] at HSB HIB
      clear hR hsl hss hpl hps hps2 hss2 hps3 hsz hsz' HRR HRR2
      go_wp2_with fail
      refine (HTL.out _ HS1.out).mono ?_
      rintro e w2 ⟨v2, rfl, ho2, hb2⟩
      have HS2 := hid (HS1.out.below hb2)
      have HP2 := hid (HP1.out.below hb2)
      have HX2 := hid (HX1.out.below hb2)
      have HB2 := hid (HB1.out.trans (hb2.mono HB1.out.size))
      have HV2 := hid (Reads.of_row ho2)
      obtain ⟨a2, c2, rfl, _⟩ := row_form ho2
      clear hb2 ho2 HS1 HP1 HX1 HB1 c0 c1
      go_wp2_with fail
      refine (HTS.out _ HP2.out).mono ?_
      rintro e w3 ⟨v3, rfl, ho3, hb3⟩
      have HS3 := hid (HS2.out.below hb3)
      have HP3 := hid (HP2.out.below hb3)
      have HX3 := hid (HX2.out.below hb3)
      have HB3 := hid (HB2.out.trans (hb3.mono HB2.out.size))
      have HV23 := hid (HV2.out.below hb3)
      have HV3 := hid (Reads.of_row ho3)
      obtain ⟨a3, c3, rfl, _⟩ := row_form ho3
      clear hb3 ho3 HS2 HP2 HX2 HB2 HV2
      go_wp2_with fail
      refine (HSB.out _ _ _ HV23.out HV3.out).mono ?_
      rintro e w4 ⟨rfl, hb4⟩
      have HS4 := hid (HS3.out.below hb4)
      have HP4 := hid (HP3.out.below hb4)
      have x4 := HX3.out.below hb4
      have HX4 := hid x4
      have HB4 := hid (HB3.out.trans (hb4.mono HB3.out.size))
      have d0 := x4.c0
      have d1 := x4.c1
      clear hb4 x4 HS3 HP3 HX3 HB3 HV23 HV3
      go_wp2_with fail
      refine (HTL.out _ HS4.out).mono ?_
      rintro e w5 ⟨v5, rfl, ho5, hb5⟩
      obtain ⟨a5, c5, rfl, _⟩ := row_form ho5
      have hbx : Below w5.heap.size w5 (w5.alloc (.cells #[.int .i64 n, .slice a5 ss.length c5] 42)) := (Below.refl _ _).alloc (Nat.le_refl _) _
      have HS5 := hid ((HS4.out.below hb5).below hbx)
      have HP5 := hid ((HP4.out.below hb5).below hbx)
      have HX5 := hid ((HX4.out.below hb5).below hbx)
      have HB5 := hid ((HB4.out.trans (hb5.mono HB4.out.size)).trans (hbx.mono (Nat.le_trans HB4.out.size hb5.size)))
      have HV5 := hid ((Reads.of_row ho5).below hbx)
      have HL5 := hid (lbox_new w5 n (.slice a5 ss.length c5))
      clear hb5 ho5 hbx HS4 HP4 HX4 HB4 d0 d1
      go_wp2_with fail
      refine (HTS.out _ HP5.out).mono ?_
      rintro e w6 ⟨v6, rfl, ho6, hb6⟩
      obtain ⟨a6, c6, rfl, _⟩ := row_form ho6
      have HS6 := hid (HS5.out.below hb6)
      have HP6 := hid (HP5.out.below hb6)
      have HX6 := hid (HX5.out.below hb6)
      have l6 := HL5.out.below hb6
      have HL6 := hid l6
      have HB6 := hid (HB5.out.trans (hb6.mono HB5.out.size))
      have HV56 := hid (HV5.out.below hb6)
      have HV6 := hid (Reads.of_row ho6)
      have e0 := l6.c0
      have e1 := l6.c1
      clear hb6 ho6 l6 HS5 HP5 HX5 HB5 HV5 HL5
      go_wp2_with fail
      refine (HIB.out _ _ _ HV56.out HV6.out).mono ?_
      rintro e w7 ⟨rfl, hb7⟩
      have HS7 := hid (HS6.out.below hb7)
      have HP7 := hid (HP6.out.below hb7)
      have x7 := HX6.out.below hb7
      have HX7 := hid x7
      have l7 := HL6.out.below hb7
      have HL7 := hid l7
      have HB7 := hid (HB6.out.trans (hb7.mono HB6.out.size))
      have HV57 := hid (HV56.out.below hb7)
      have HV67 := hid (HV6.out.below hb7)
      have f0 := x7.c0
      have f1 := x7.c1
      have g0 := l7.c0
      have g1 := l7.c1
      clear hb7 x7 l7 HS6 HP6 HX6 HB6 HV56 HV6 HL6 e0 e1
      go_wp2_with fail
      have hlx := HX7.out.lt
      have hll := HL7.out.lt
      refine wp_region_held (S := fun w' => (w'.cell? ⟨w5.heap.size, 0, none⟩ = some (.int .i64 n) ∧ w'.cell? ⟨w5.heap.size, 1, none⟩ = some (.slice a5 ss.length c5)) ∧ w'.cell? ⟨w.heap.size, 0, none⟩ = some (.int .i64 n) ∧ w'.cell? ⟨w.heap.size, 1, none⟩ = some (.slice a ss.length ca)) (by kernel_rfl) ?_
      change wpAnyH _ _ _ _ _ _ _ _ (World.drew _)
      have HSS : Hid (∀ W : World, LBox W w5.heap.size n (.slice a5 ss.length c5) → ABox W w.heap.size n (.slice a ss.length ca) → (W.cell? ⟨w5.heap.size, 0, none⟩ = some (.int .i64 n) ∧ W.cell? ⟨w5.heap.size, 1, none⟩ = some (.slice a5 ss.length c5)) ∧ W.cell? ⟨w.heap.size, 0, none⟩ = some (.int .i64 n) ∧ W.cell? ⟨w.heap.size, 1, none⟩ = some (.slice a ss.length ca)) := fun W h1 h2 => ⟨⟨h1.c0, h1.c1⟩, h2.c0, h2.c1⟩
      refine wpAnyH_take (i := 0) (v := .agg #[.int .i64 n, .slice a5 ss.length c5]) rfl (by kernel_rfl) (by kernel_rfl) (by kernel_rfl) (fun _ _ _ h => h) (.inl ⟨rfl, fun w' hS => by obtain ⟨⟨s1, s2⟩, s3, s4⟩ := hS; go_simp⟩) (HSS.out w7.drew HL7.out HX7.out) ?_
      refine wpAnyH_take (i := 1) (v := .agg #[.int .i64 n, .slice a ss.length ca]) rfl (by kernel_rfl) (by kernel_rfl) (by kernel_rfl) (fun _ _ _ h => h) (.inl ⟨rfl, fun w' hS => by obtain ⟨⟨s1, s2⟩, s3, s4⟩ := hS; go_simp⟩) (HSS.out w7.drew HL7.out HX7.out) ?_
      have hec := enters_of Try.func34 (by kernel_rfl) rfl
      have hee := enters_of Try.func29 (by kernel_rfl) rfl
      refine held_one 2 (by kernel_rfl) (op_calls (f := 34) (args := #[.agg #[.int .i64 n, .slice a ss.length ca]]) rfl rfl (by go_simp) (HTL.out _ HS7.out) ?_)
      rintro e w8 ⟨v8, rfl, ho8, hb8⟩
      have hb8' : Below w7.heap.size w7 w8 := ⟨hb8.os, hb8.tape, hb8.output, hb8.size, hb8.block⟩
      have l8 := HL7.out.below hb8'
      have x8 := HX7.out.below hb8'
      have HV58 := hid (HV57.out.below hb8')
      have HV68 := hid (HV67.out.below hb8')
      have HP8 := hid (HP7.out.below hb8')
      have HB8 := hid (HB7.out.trans (hb8'.mono HB7.out.size))
      have HV8 := hid (Reads.of_row ho8)
      obtain ⟨a8, c8, rfl, _⟩ := row_form ho8
      clear hb8 hb8' ho8
      refine ⟨_, rfl, HSS.out w8 l8 x8, held_one 3 (by kernel_rfl) (op_calls (f := 29) (args := #[.agg #[.int .i64 n, .slice a5 ss.length c5], .agg #[.int .i64 n, .slice a8 ss.length c8]]) rfl rfl (by go_simp) (HEL.out _ _ _ HV58.out HV8.out) ?_)⟩
      rintro e w9 ⟨rfl, hb9⟩
      have HS9 := HSS.out w9 (l8.below hb9) (x8.below hb9)
      have HV69 := hid (HV68.out.below hb9)
      have HP9 := hid (HP8.out.below hb9)
      have HB9 := hid (HB8.out.trans (hb9.mono HB8.out.size))
      clear hb9 l8 x8 f0 f1 g0 g1
      refine ⟨_, rfl, HS9, held_one 4 (by kernel_rfl) (op_value (v := .bool false) (w' := w9) rfl rfl (by go_simp) ⟨HS9, wpAnyH_done (by kernel_rfl) ?_ _⟩)⟩
      clear HS9
      go_simp
      go_wp2_with fail
      refine (HTS.out _ HP9.out).mono ?_
      rintro e w10 ⟨v10, rfl, ho10, hb10⟩
      have HV610 := hid (HV69.out.below hb10)
      have HB10 := hid (HB9.out.trans (hb10.mono HB9.out.size))
      have HV10 := hid (Reads.of_row ho10)
      obtain ⟨a10, c10, rfl, _⟩ := row_form ho10
      clear hb10 ho10
      go_wp2_with fail
      refine (HES.out _ _ _ HV610.out HV10.out).mono ?_
      rintro e w11 ⟨rfl, hb11⟩
      have HB11 := hid (HB10.out.trans (hb11.mono HB10.out.size))
      clear hb11
      go_wp2
      go_ret
      exact ⟨rfl, HB11.out⟩
theorem reads_some {w : World} {x : Addr} {len cap : Nat} {ss : List ByteArray} (hl : len ≤ ss.length) (hcell : ∀ i, i < ss.length → w.cell? (x.add i) = some (.string (ss.getD i ByteArray.empty))) (hw : ∀ s ∈ ss, s.size ≤ maxLen) :
    Reads w (.slice (some x) len cap) (ss.take len) ∧ ∀ i, (tv (ss.take len) i).size ≤ maxLen := by
  have hlen : (ss.take len).length = len := by simp; omega
  constructor
  · by_cases e : len = 0
    · subst e
      exact .inl ⟨by simp, some x, cap, rfl⟩
    · obtain ⟨b, off, spot⟩ := x
      have hspot : spot = none := by simpa [Addr.add] using World.cell?_spot (hcell 0 (by omega))
      subst hspot
      have ea : ∀ i, (⟨b, off, none⟩ : Addr).add i = ⟨b, off + i, none⟩ := fun i => by simp [Addr.add]
      have h0 := hcell 0 (by omega)
      rw [ea] at h0
      refine .inr ⟨b, off, cap, by rw [hlen], World.block_lt_of_cell? w _ h0, fun i hi => ?_⟩
      rw [hlen] at hi
      have hc := hcell i (by omega)
      rw [ea] at hc
      rw [hc]
      simp [hi]
  · intro i
    unfold tv
    by_cases hi : i < (ss.take len).length
    · rw [List.getD_eq_getElem?_getD, List.getElem?_eq_getElem hi]
      exact hw _ (List.mem_of_mem_take (List.getElem_mem hi))
    · rw [List.getD_eq_getElem?_getD, List.getElem?_eq_none (by omega)]; simp
theorem laid : laidOutB Try.prog = true := by kernel_rfl
theorem cellsA : Try.prog.cellsOf 46 = 2 := by kernel_rfl

set_option maxRecDepth 100000 in
theorem lifted (os : Os) (started : os.Started) (H : Type) (enc : TypeId × Value → H) :
    ReturnsInHanded {} Try.checked os 10 .any (Rows.fnExactBuildSpec.pre6 enc Try.prog Try.f10 Rows.fnExactBuildRow.domain false) (Rows.fnExactBuildSpec.post enc Try.prog Try.f10 false true false false) := by
  refine returnsInHanded_of_change (C := Try.checked) own started (by kernel_rfl) Try.func10
    (ChangeSpec.witness6 (enc := enc) (C := Try.checked) false ⟨#[], #[.agg #[.int .i64 0, .slice none 0 0], .slice none 0 0, .int .i64 0], []⟩ 8 (by kernel_rfl) (by kernel_rfl) (by kernel_rfl) (by kernel_rfl)) ?_
  intro W base args ds gs before hval0 hW hcnd _
  have hval : ∀ (j : Nat) t v, Try.f10.params[j]? = some t → args[j]? = some v → Value.okWide Try.prog W .any base t v := hval0
  have hW' := hW
  obtain ⟨p, q, hA0, hV, rfl, hfz, hnd⟩ := hW
  have hA : DataW.TrodAll enc Try.prog W 0 (fun _ => true) true Try.f10.params.toList args.toList ds p := hA0
  rw [Try.params10] at hA hval
  obtain ⟨v0, vs0, d0, ds0, p0, q0, hargs, rfl, rfl, h0, r0⟩ := trodAll_cons hA
  obtain ⟨v1, vs1, d1, ds1, p1, q1, rfl, rfl, rfl, h1, r1⟩ := trodAll_cons r0
  obtain ⟨v2, vs2, d2, ds2, p2, q2, rfl, rfl, rfl, h2, r2⟩ := trodAll_cons r1
  obtain ⟨rfl, rfl, rfl⟩ := trodAll_nil r2
  obtain rfl : args = #[v0, v1, v2] := by cases args; simp_all
  obtain ⟨rfl, rfl⟩ := trodVars_none hV
  have k0 := h0
  have k1 := h1
  have lt0 : ∀ x ∈ p0, x.block < W.heap.size := by obtain ⟨m, hm⟩ := k0; exact DataW.trod_lt m _ _ _ hm
  have lt1 : ∀ x ∈ p1, x.block < W.heap.size := by obtain ⟨m, hm⟩ := k1; exact DataW.trod_lt m _ _ _ hm
  obtain ⟨c0, c1, y0, y1, mm, hv0, _, _, hy0, hy1⟩ := Go.Joins.open_agg2 Try.underlying46 (by kernel_rfl) cellsA (hval 0 46 v0 rfl rfl) h0
  subst hv0
  obtain ⟨n, e0, _, wn⟩ := DataW.trod_int Try.underlying3 hy0
  simp at e0
  subst e0
  obtain ⟨a1, len1, cap1, rfl⟩ := okWide_slice Try.underlying24 (hval 1 24 v1 rfl rfl)
  obtain ⟨ss, ws, hms, hss⟩ : ∃ ts, Reads W c1 ts ∧ ts.length ≤ maxLen ∧ ∀ i, (tv ts i).size ≤ maxLen := by
    rcases open_strings Try.underlying24 Try.underlying9 (by kernel_rfl) hy1 with ⟨hcs, _⟩ | ⟨x, l, c, ss, hcs, _, hl, hm, hz, hx, hcell, hwz⟩
    · simp at hcs
      subst hcs
      exact ⟨[], .inl ⟨rfl, none, 0, rfl⟩, by simp, fun i => by simp [tv]⟩
    · simp at hcs
      subst hcs
      simp only [if_true] at hz
      have hsz : l ≤ ss.length := by rw [hz]; exact hl
      have h2 := reads_some (cap := c) hsz hcell hwz
      exact ⟨ss.take l, h2.1, by rw [List.length_take]; exact Nat.le_trans (Nat.min_le_left _ _) (Nat.le_trans hl hm), h2.2⟩
  obtain ⟨ps, wp, hmp, hsp⟩ : ∃ ts, Reads W (.slice a1 len1 cap1) ts ∧ ts.length ≤ maxLen ∧ ∀ i, (tv ts i).size ≤ maxLen := by
    obtain ⟨fuel, hf⟩ := h1
    rcases open_strings Try.underlying24 Try.underlying9 (by kernel_rfl) hf with ⟨hcs, _⟩ | ⟨x, l, c, ss, hcs, _, hl, hm, hz, hx, hcell, hwz⟩
    · simp [Value.cells] at hcs
      obtain ⟨rfl, rfl, rfl⟩ := hcs
      exact ⟨[], .inl ⟨rfl, none, 0, rfl⟩, by simp, fun i => by simp [tv]⟩
    · simp [Value.cells] at hcs
      obtain ⟨rfl, rfl, rfl⟩ := hcs
      simp only [if_true] at hz
      have hsz : len1 ≤ ss.length := by rw [hz]; exact hl
      have h2 := reads_some (cap := cap1) hsz hcell hwz
      exact ⟨ss.take len1, h2.1, by rw [List.length_take]; exact Nat.le_trans (Nat.min_le_left _ _) (Nat.le_trans hl hm), h2.2⟩
  obtain ⟨a2, rfl, rfl, rfl, w2⟩ := open_int Try.underlying3 (hval 2 3 v2 rfl rfl) h2
  clear hA0 hval0
  refine (walk n c1 _ ss ps a2 W ws wp hms hmp hss hsp).mono fun e W' ⟨he, bel⟩ => ?_
  subst he
  exact ⟨_, rfl, _, _, _, [], _, [], hW', trodAll_mk1 (shut_bool Try.underlying4 _), (trodAll_cons_mk (Below.trod laid (by kernel_rfl) (of_decide_eq_true (by kernel_rfl)) k0 bel lt0) (trodAll_cons_mk (Below.trod laid (by kernel_rfl) (of_decide_eq_true (by kernel_rfl)) k1 bel lt1) (trodAll_cons_mk (shut_int Try.underlying3 w2) trodAll_mk0))), rfl, bel.frame _, fun h => by cases h⟩

theorem over : Rows.fnExactBuildRow.holds Try.pinned (OpenSpec.ofChange Rows.fnExactBuildSpec) :=
  OpenClaim.holds_of_wide 10 Try.f10 rfl rfl rfl rfl rfl rfl rfl ⟨rfl, rfl, rfl, rfl, rfl⟩ rfl rfl rfl rfl rfl (by kernel_rfl) Try.func10 (by kernel_rfl)
    (of_decide_eq_true (by kernel_rfl)) (by unfold Func.isWrapper; first | (rw [if_pos (by decide +kernel)]; kernel_rfl) | (rw [if_neg (by decide +kernel)]; exact ⟨rfl, rfl⟩))
    (fun os started H enc _ => lifted os started H enc)
end Go.Proofs.Ytohnffbcgancfaa.fnExactBuild
namespace Go.Proofs.Ytohnffbcgancfaa
theorem fnExactBuild_holds : Rows.FnExactBuildSaid := fnExactBuild.over
#print axioms fnExactBuild_holds
end Go.Proofs.Ytohnffbcgancfaa
