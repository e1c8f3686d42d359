/- laws.FnExactTell returns true at every argument. -/
import Derived.Test.YtnpfnafalkejnaaTellLaw
import Derived.Below
import Derived.WalkKit
import Derived.ProofKit
import Derived.OpenShut
import Derived.ShutString
import Derived.ChangeOld
import Derived.SliceStrings
namespace Go.Proofs.Ytnpfnafalkejnaa.fnExactTell
open Go.ChangeShapes Go.WideShapes Go.ChangeAt Go.RowKit
open Go.ChangeMaps (open_string shut_string)
set_option linter.unusedVariables false

theorem own : ownKnob Try.prog.godebug = none := by kernel_rfl

set_option maxRecDepth 100000 in
set_option maxHeartbeats 2000000 in
theorem walk (v : Value) (ts : List ByteArray) (f t : ByteArray) (n : Int) (w : World) (hv : Reads w v ts) (hl : ts.length ≤ maxLen) (hsz : ∀ i, (tv ts i).size ≤ maxLen) (hf : f.size ≤ maxLen) (ht : t.size ≤ maxLen) :
    Calls Try.prog 3 #[v, .string f, .string t, .int .i64 n] w fun e w' => e = .returned (.bool true) ∧ Below w.heap.size w w' := by
  have HSZ := hid (szStrs_any v ts 1048576 w hv hl hsz (by omega))
  obtain ⟨a, ca, rfl, _⟩ := hv.form
  unfold maxLen at hf ht
  by_cases h1 : 1048576 < f.size
  · go_enter Try.func3, Try.ntmps3
    go_wp2
    go_ret
    exact ⟨by simp, Below.refl _ _⟩
  by_cases h2 : 1048576 < t.size
  · go_enter Try.func3, Try.ntmps3
    go_wp2
    go_ret
    exact ⟨by simp, Below.refl _ _⟩
  go_enter Try.func3, Try.ntmps3
  go_wp2_with fail
  refine HSZ.out.mono ?_
  rintro e w ⟨r, rfl, hr1, hr, rfl⟩
  by_cases hneg : r < 0
  · clear hr hv
    go_wp2
    go_ret
    exact ⟨by simp, Below.refl _ _⟩
  · obtain ⟨hlen, hs⟩ := hr (by omega)
    have HT := hid fun (W : World) (h : Reads W (.slice a ts.length ca) ts) => toStrs_any (.slice a ts.length ca) ts W h hlen
    have HS := hid fun (V : Value) (W : World) (h : Reads W V ts) => specTell_any V ts f t n W h hlen hsz
    have HI := hid fun (V : Value) (W : World) (h : Rdc W V ts) => implTell_any V ts f t n W h hlen hsz (by omega) (by omega)
    have HE := hid fun (va vb : Value) (W : World) (ha : Reads W va ts) (hb : Reads W vb ts) => eqStringS_any va vb ts W ha hb hl
    have HV := hid hv
    have HLEN := hid hlen
    clear hr hv hs HSZ hlen hsz hl
    go_wp2_with fail
    refine (HT.out _ HV.out).mono ?_
    rintro e w1 ⟨v1, rfl, ho1, hb1⟩
    go_wp2_with fail
    refine (HS.out v1 _ (Reads.of_row ho1)).mono ?_
    rintro e w2 ⟨f2, t2, c2, m2, rfl, hc2, hb2⟩
    have hb12 := hb1.trans (hb2.mono hb1.size)
    go_wp2_with fail
    refine (HT.out _ (HV.out.below (hb12.alloc hb12.size _))).mono ?_
    rintro e w3 ⟨v3, rfl, ho3, hb3⟩
    have B2 := hb12.alloc hb12.size (.cells #[.string f2, .string t2, .int .i64 c2, .string m2, .bool false, .slice none 0 0] 25)
    have B3 := B2.trans (hb3.mono B2.size)
    have X3 := (Blk.new w2 25 #[.string f2, .string t2, .int .i64 c2, .string m2, .bool false, .slice none 0 0]).below hb3
    have hs2 := hb12.size
    clear hb12 hb1 hb2 ho1
    go_wp2_with fail
    refine (HI.out v3 _ (Rdc.of_row ho3)).mono ?_
    rintro e w4 ⟨f4, t4, c4, m4, a4, k4, rfl, hc4, hb4⟩
    obtain ⟨rfl, rfl, rfl, rfl⟩ := hc2.same hc4
    have HEN := hid (fun (a : Option Addr) (k : Nat) (W : World) => eqNote_any f2 t2 m2 c2 false (.slice a 0 k) (.slice none 0 0) [] W (.inl ⟨rfl, a, k, rfl⟩) (.inl ⟨rfl, none, 0, rfl⟩) (by simp))
    have HC2 := hid hc2
    have X4 := X3.below hb4
    have B4 := B3.trans (hb4.mono B3.size)
    have O4 := Below.row hb4 ho3
    have x0 : ∀ o, (w4.alloc o).cell? ⟨w2.heap.size, 0, none⟩ = some (.string f2) := fun o => (X4.alloc o).cell 0
    have x1 : ∀ o, (w4.alloc o).cell? ⟨w2.heap.size, 1, none⟩ = some (.string t2) := fun o => (X4.alloc o).cell 1
    have x2 : ∀ o, (w4.alloc o).cell? ⟨w2.heap.size, 2, none⟩ = some (.int .i64 c2) := fun o => (X4.alloc o).cell 2
    have x3 : ∀ o, (w4.alloc o).cell? ⟨w2.heap.size, 3, none⟩ = some (.string m2) := fun o => (X4.alloc o).cell 3
    have x4 : ∀ o, (w4.alloc o).cell? ⟨w2.heap.size, 4, none⟩ = some (.bool false) := fun o => (X4.alloc o).cell 4
    have x5 : ∀ o, (w4.alloc o).cell? ⟨w2.heap.size, 5, none⟩ = some (.slice none 0 0) := fun o => (X4.alloc o).cell 5
    have XX4 := hid X4
    have BB4 := hid B4
    have OO4 := hid O4
    clear hb3 hb4 X3 B2 B3 ho3 hc2 hc4 X4 B4 O4
    go_wp2_with fail
    refine (HEN.out a4 k4 _).mono ?_
    rintro e w5 ⟨rfl, hb5⟩
    have X5 := (XX4.out.alloc (.cells #[.string f2, .string t2, .int .i64 c2, .string m2, .bool false, .slice a4 0 k4] 25)).below hb5
    have Y5 := (Blk.new w4 25 #[.string f2, .string t2, .int .i64 c2, .string m2, .bool false, .slice a4 0 k4]).below hb5
    have B5 := (BB4.out.alloc BB4.out.size (.cells #[.string f2, .string t2, .int .i64 c2, .string m2, .bool false, .slice a4 0 k4] 25)).trans (hb5.mono (by have := BB4.out.size; simp; omega))
    have O5 := Below.row hb5 (OO4.out.alloc (.cells #[.string f2, .string t2, .int .i64 c2, .string m2, .bool false, .slice a4 0 k4] 25))
    have L4 : ∀ g, v3.ownBlock = some g → g < w4.heap.size := fun g e => (OO4.out.lt g e).2
    have hs24 := XX4.out.lt
    have hs4 := BB4.out.size
    clear x0 x1 x2 x3 x4 x5 hb5
    go_wp2_with fail
    refine (HT.out _ (HV.out.below B5)).mono ?_
    rintro e w6 ⟨v6, rfl, ho6, hb6⟩
    go_wp2_with fail
    refine (HE.out v3 v6 _ ((Reads.of_row O5).below hb6) (Reads.of_row ho6)).mono ?_
    rintro e w7 ⟨rfl, hb7⟩
    have B7 := (B5.trans (hb6.mono B5.size)).trans (hb7.mono (Nat.le_trans B5.size hb6.size))
    have X7 := (X5.below hb6).below hb7
    have Y7 := (Y5.below hb6).below hb7
    have O7 := Below.row hb7 (Below.row hb6 O5)
    clear ho6 hb6 hb7 X5 Y5 B5 O5
    have HMK := hid (markStringS_grown v3 1 _ ts w7 O7 (by omega) (by have := HLEN.out; omega))
    have HMB := hid fun g (e : v3.ownBlock = some g) => (O7.lt g e).1
    obtain ⟨a3, c3, rfl, _⟩ := row_form O7
    clear O7
    go_wp2_with fail
    refine HMK.out.mono ?_
    rintro e w8 ⟨rfl, _, hg8⟩
    have X8 := X7.kept hg8 (fun e => by have := HMB.out _ e.symm; simp at this; omega)
    have Y8 := Y7.kept hg8 (fun e => by have := L4 _ e.symm; omega)
    have B8 := B7.grown hg8 B7.size (fun g e => by have := HMB.out g e; simp at this; omega)
    have x0 : w8.cell? ⟨w2.heap.size, 0, none⟩ = some (.string f2) := X8.cell 0
    have x1 : w8.cell? ⟨w2.heap.size, 1, none⟩ = some (.string t2) := X8.cell 1
    have x2 : w8.cell? ⟨w2.heap.size, 2, none⟩ = some (.int .i64 c2) := X8.cell 2
    have x3 : w8.cell? ⟨w2.heap.size, 3, none⟩ = some (.string m2) := X8.cell 3
    have x4 : w8.cell? ⟨w2.heap.size, 4, none⟩ = some (.bool false) := X8.cell 4
    have x5 : w8.cell? ⟨w2.heap.size, 5, none⟩ = some (.slice none 0 0) := X8.cell 5
    have y0 : w8.cell? ⟨w4.heap.size, 0, none⟩ = some (.string f2) := Y8.cell 0
    have y1 : w8.cell? ⟨w4.heap.size, 1, none⟩ = some (.string t2) := Y8.cell 1
    have y2 : w8.cell? ⟨w4.heap.size, 2, none⟩ = some (.int .i64 c2) := Y8.cell 2
    have y3 : w8.cell? ⟨w4.heap.size, 3, none⟩ = some (.string m2) := Y8.cell 3
    have y4 : w8.cell? ⟨w4.heap.size, 4, none⟩ = some (.bool false) := Y8.cell 4
    have y5 : w8.cell? ⟨w4.heap.size, 5, none⟩ = some (.slice a4 0 k4) := Y8.cell 5
    have hk8 : ¬ (((1 + ts.length : Nat) : Int) < 0) := by omega
    clear X7 Y7 B7 hg8 HMK L4
    go_wp2_with fail
    refine (HEN.out a4 k4 _).mono ?_
    rintro e w9 ⟨rfl, hb9⟩
    have X9 := X8.below hb9
    have Y9 := Y8.below hb9
    have B9 := B8.trans (hb9.mono B8.size)
    clear x0 x1 x2 x3 x4 x5 y0 y1 y2 y3 y4 y5 hb9 X8 Y8 B8 hk8
    have y0 : w9.cell? ⟨w4.heap.size, 0, none⟩ = some (.string f2) := Y9.cell 0
    have y1 : w9.cell? ⟨w4.heap.size, 1, none⟩ = some (.string t2) := Y9.cell 1
    have y2 : w9.cell? ⟨w4.heap.size, 2, none⟩ = some (.int .i64 c2) := Y9.cell 2
    have y3 : w9.cell? ⟨w4.heap.size, 3, none⟩ = some (.string m2) := Y9.cell 3
    have y4 : w9.cell? ⟨w4.heap.size, 4, none⟩ = some (.bool false) := Y9.cell 4
    have y5 : w9.cell? ⟨w4.heap.size, 5, none⟩ = some (.slice a4 0 k4) := Y9.cell 5
    go_wp2_with fail
    refine (markNote_none f2 t2 m2 c2 false a4 k4 _).mono ?_
    rintro e w10 ⟨rfl, hb10⟩
    have X10 := X9.below hb10
    have Y10 := Y9.below hb10
    have B10 := B9.trans (hb10.mono B9.size)
    clear y0 y1 y2 y3 y4 y5 hb10 X9 Y9 B9
    have y0 : w10.cell? ⟨w4.heap.size, 0, none⟩ = some (.string f2) := Y10.cell 0
    have y1 : w10.cell? ⟨w4.heap.size, 1, none⟩ = some (.string t2) := Y10.cell 1
    have y2 : w10.cell? ⟨w4.heap.size, 2, none⟩ = some (.int .i64 c2) := Y10.cell 2
    have y3 : w10.cell? ⟨w4.heap.size, 3, none⟩ = some (.string m2) := Y10.cell 3
    have y4 : w10.cell? ⟨w4.heap.size, 4, none⟩ = some (.bool false) := Y10.cell 4
    have y5 : w10.cell? ⟨w4.heap.size, 5, none⟩ = some (.slice a4 0 k4) := Y10.cell 5
    go_wp2_with fail
    refine (heldNote_none f2 t2 m2 c2 false a4 k4 _).mono ?_
    rintro e w11 ⟨rfl, hb11⟩
    have X11 := X10.below hb11
    have Y11 := Y10.below hb11
    have B11 := B10.trans (hb11.mono B10.size)
    clear y0 y1 y2 y3 y4 y5 hb11 X10 Y10 B10
    go_wp2_with fail
    refine (HT.out _ (HV.out.below B11)).mono ?_
    rintro e w12 ⟨v12, rfl, ho12, hb12⟩
    have X12 := X11.below hb12
    have Y12 := Y11.below hb12
    have B12 := B11.trans (hb12.mono B11.size)
    go_wp2_with fail
    refine (HI.out v12 _ (Rdc.of_row ho12)).mono ?_
    rintro e w13 ⟨f13, t13, c13, m13, a13, k13, rfl, hc13, hb13⟩
    obtain ⟨rfl, rfl, rfl, rfl⟩ := HC2.out.same hc13
    have X13 := X12.below hb13
    have Y13 := Y12.below hb13
    have B13 := B12.trans (hb13.mono B12.size)
    have x0 : ∀ o, (w13.alloc o).cell? ⟨w2.heap.size, 0, none⟩ = some (.string f2) := fun o => (X13.alloc o).cell 0
    have x1 : ∀ o, (w13.alloc o).cell? ⟨w2.heap.size, 1, none⟩ = some (.string t2) := fun o => (X13.alloc o).cell 1
    have x2 : ∀ o, (w13.alloc o).cell? ⟨w2.heap.size, 2, none⟩ = some (.int .i64 c2) := fun o => (X13.alloc o).cell 2
    have x3 : ∀ o, (w13.alloc o).cell? ⟨w2.heap.size, 3, none⟩ = some (.string m2) := fun o => (X13.alloc o).cell 3
    have x4 : ∀ o, (w13.alloc o).cell? ⟨w2.heap.size, 4, none⟩ = some (.bool false) := fun o => (X13.alloc o).cell 4
    have x5 : ∀ o, (w13.alloc o).cell? ⟨w2.heap.size, 5, none⟩ = some (.slice none 0 0) := fun o => (X13.alloc o).cell 5
    clear ho12 hb12 hb13 X11 Y11 B11 X12 Y12 B12 hc13
    go_wp2_with fail
    refine (HEN.out a13 k13 _).mono ?_
    rintro e w14 ⟨rfl, hb14⟩
    have Y14 := (Y13.alloc (.cells #[.string f2, .string t2, .int .i64 c2, .string m2, .bool false, .slice a13 0 k13] 25)).below hb14
    have B14 := (B13.alloc B13.size (.cells #[.string f2, .string t2, .int .i64 c2, .string m2, .bool false, .slice a13 0 k13] 25)).trans (hb14.mono (by have := B13.size; simp; omega))
    have y0 : w14.cell? ⟨w4.heap.size, 0, none⟩ = some (.string f2) := Y14.cell 0
    have y1 : w14.cell? ⟨w4.heap.size, 1, none⟩ = some (.string t2) := Y14.cell 1
    have y2 : w14.cell? ⟨w4.heap.size, 2, none⟩ = some (.int .i64 c2) := Y14.cell 2
    have y3 : w14.cell? ⟨w4.heap.size, 3, none⟩ = some (.string m2) := Y14.cell 3
    have y4 : w14.cell? ⟨w4.heap.size, 4, none⟩ = some (.bool false) := Y14.cell 4
    have y5 : w14.cell? ⟨w4.heap.size, 5, none⟩ = some (.slice a4 0 k4) := Y14.cell 5
    clear x0 x1 x2 x3 x4 x5 hb14 X13 Y13 B13
    go_wp2_with fail
    refine (heldNote_none f2 t2 m2 c2 false a4 k4 _).mono ?_
    rintro e w15 ⟨rfl, hb15⟩
    have B15 := hid (B14.trans (hb15.mono B14.size))
    clear y0 y1 y2 y3 y4 y5 hb15 Y14 B14
    go_wp2
    go_ret
    exact ⟨by simp, B15.out⟩
theorem reads_some {w : World} {x : Addr} {len cap : Nat} {ss : List ByteArray} (hl : len ≤ ss.length) (hcell : ∀ i, i < ss.length → w.cell? (x.add i) = some (.string (ss.getD i ByteArray.empty))) (hw : ∀ s ∈ ss, s.size ≤ maxLen) :
    Reads w (.slice (some x) len cap) (ss.take len) ∧ ∀ i, (tv (ss.take len) i).size ≤ maxLen := by
  have hlen : (ss.take len).length = len := by simp; omega
  constructor
  · by_cases e : len = 0
    · subst e
      exact .inl ⟨by simp, some x, cap, rfl⟩
    · obtain ⟨b, off, spot⟩ := x
      have hspot : spot = none := by simpa [Addr.add] using World.cell?_spot (hcell 0 (by omega))
      subst hspot
      have ea : ∀ i, (⟨b, off, none⟩ : Addr).add i = ⟨b, off + i, none⟩ := fun i => by simp [Addr.add]
      have h0 := hcell 0 (by omega)
      rw [ea] at h0
      refine .inr ⟨b, off, cap, by rw [hlen], World.block_lt_of_cell? w _ h0, fun i hi => ?_⟩
      rw [hlen] at hi
      have hc := hcell i (by omega)
      rw [ea] at hc
      rw [hc]
      simp [hi]
  · intro i
    unfold tv
    by_cases hi : i < (ss.take len).length
    · rw [List.getD_eq_getElem?_getD, List.getElem?_eq_getElem hi]
      exact hw _ (List.mem_of_mem_take (List.getElem_mem hi))
    · rw [List.getD_eq_getElem?_getD, List.getElem?_eq_none (by omega)]; simp
theorem laid : laidOutB Try.prog = true := by kernel_rfl

set_option maxRecDepth 100000 in
theorem lifted (os : Os) (started : os.Started) (H : Type) (enc : TypeId × Value → H) :
    ReturnsInHanded {} Try.checked os 3 .any (Rows.fnExactTellSpec.pre6 enc Try.prog Try.f3 Rows.fnExactTellRow.domain false) (Rows.fnExactTellSpec.post enc Try.prog Try.f3 false true false false) := by
  refine returnsInHanded_of_change (C := Try.checked) own started (by kernel_rfl) Try.func3
    (ChangeSpec.witness6 (enc := enc) (C := Try.checked) false ⟨#[], #[.slice none 0 0, .string ByteArray.empty, .string ByteArray.empty, .int .i64 0], []⟩ 8 (by kernel_rfl) (by kernel_rfl) (by kernel_rfl) (by kernel_rfl)) ?_
  intro W base args ds gs before hval0 hW hcnd _
  have hval : ∀ (j : Nat) t v, Try.f3.params[j]? = some t → args[j]? = some v → Value.okWide Try.prog W .any base t v := hval0
  have hW' := hW
  obtain ⟨p, q, hA0, hV, rfl, hfz, hnd⟩ := hW
  have hA : DataW.TrodAll enc Try.prog W 0 (fun _ => true) true Try.f3.params.toList args.toList ds p := hA0
  rw [Try.params3] at hA hval
  obtain ⟨v0, vs0, d0, ds0, p0, q0, hargs, rfl, rfl, h0, r0⟩ := trodAll_cons hA
  obtain ⟨v1, vs1, d1, ds1, p1, q1, rfl, rfl, rfl, h1, r1⟩ := trodAll_cons r0
  obtain ⟨v2, vs2, d2, ds2, p2, q2, rfl, rfl, rfl, h2, r2⟩ := trodAll_cons r1
  obtain ⟨v3, vs3, d3, ds3, p3, q3, rfl, rfl, rfl, h3, r3⟩ := trodAll_cons r2
  obtain ⟨rfl, rfl, rfl⟩ := trodAll_nil r3
  obtain rfl : args = #[v0, v1, v2, v3] := by cases args; simp_all
  obtain ⟨rfl, rfl⟩ := trodVars_none hV
  obtain ⟨a0, len0, cap0, rfl⟩ := okWide_slice Try.underlying22 (hval 0 22 v0 rfl rfl)
  have k0 := h0
  have lt0 : ∀ x ∈ p0, x.block < W.heap.size := by obtain ⟨m, hm⟩ := k0; exact DataW.trod_lt m _ _ _ hm
  obtain ⟨ts, w0, hm0, hs0⟩ : ∃ ts, Reads W (.slice a0 len0 cap0) ts ∧ ts.length ≤ maxLen ∧ ∀ i, (tv ts i).size ≤ maxLen := by
    obtain ⟨fuel, hf⟩ := h0
    rcases open_strings Try.underlying22 Try.underlying9 (by kernel_rfl) hf with ⟨hcs, _⟩ | ⟨x, l, c, ss, hcs, _, hl, hm, hz, hx, hcell, hwz⟩
    · simp [Value.cells] at hcs
      obtain ⟨rfl, rfl, rfl⟩ := hcs
      exact ⟨[], .inl ⟨rfl, none, 0, rfl⟩, by simp, fun i => by simp [tv]⟩
    · simp [Value.cells] at hcs
      obtain ⟨rfl, rfl, rfl⟩ := hcs
      simp only [if_true] at hz
      have hsz : len0 ≤ ss.length := by rw [hz]; exact hl
      have h2 := reads_some (cap := cap0) hsz hcell hwz
      exact ⟨ss.take len0, h2.1, by rw [List.length_take]; exact Nat.le_trans (Nat.min_le_left _ _) (Nat.le_trans hl hm), h2.2⟩
  obtain ⟨a1, rfl, rfl, rfl, w1⟩ := open_string Try.underlying9 (hval 1 9 v1 rfl rfl) h1
  obtain ⟨a2, rfl, rfl, rfl, w2⟩ := open_string Try.underlying9 (hval 2 9 v2 rfl rfl) h2
  obtain ⟨a3, rfl, rfl, rfl, w3⟩ := open_int Try.underlying3 (hval 3 3 v3 rfl rfl) h3
  clear hA0 hval0
  refine (walk _ ts a1 a2 a3 W w0 hm0 hs0 w1 w2).mono fun e W' ⟨he, bel⟩ => ?_
  subst he
  exact ⟨_, rfl, _, _, _, [], _, [], hW', trodAll_mk1 (shut_bool Try.underlying4 _), (trodAll_cons_mk (Below.trod laid (by kernel_rfl) (of_decide_eq_true (by kernel_rfl)) k0 bel lt0) (trodAll_cons_mk (shut_string Try.underlying9 w1) (trodAll_cons_mk (shut_string Try.underlying9 w2) (trodAll_cons_mk (shut_int Try.underlying3 w3) trodAll_mk0)))), rfl, bel.frame _, fun h => by cases h⟩

theorem over : Rows.fnExactTellRow.holds Try.pinned (OpenSpec.ofChange Rows.fnExactTellSpec) :=
  OpenClaim.holds_of_wide 3 Try.f3 rfl rfl rfl rfl rfl rfl rfl ⟨rfl, rfl, rfl, rfl, rfl⟩ rfl rfl rfl rfl rfl (by kernel_rfl) Try.func3 (by kernel_rfl)
    (of_decide_eq_true (by kernel_rfl)) (by unfold Func.isWrapper; first | (rw [if_pos (by decide +kernel)]; kernel_rfl) | (rw [if_neg (by decide +kernel)]; exact ⟨rfl, rfl⟩))
    (fun os started H enc _ => lifted os started H enc)
end Go.Proofs.Ytnpfnafalkejnaa.fnExactTell
namespace Go.Proofs.Ytnpfnafalkejnaa
theorem fnExactTell_holds : Rows.FnExactTellSaid := fnExactTell.over
#print axioms fnExactTell_holds
end Go.Proofs.Ytnpfnafalkejnaa
