/- laws.FnExactValidStore returns true at every argument. -/
import Derived.Test.YtmcipciimnncmaaValidImpl
import Derived.Test.YtmcipciimnncmaaOpenItems
import Derived.Lib.SmallJoins
import Derived.Below
import Derived.WalkKit
import Derived.ProofKit
import Derived.OpenShut
import Derived.ShutString
import Derived.ChangeOld
import Derived.SliceStrings
namespace Go.Proofs.Ytmcipciimnncmaa.fnExactValidStore
open Go.ChangeShapes Go.WideShapes Go.ChangeAt Go.RowKit
open Go.ChangeMaps (open_string shut_string)
set_option linter.unusedVariables false

theorem own : ownKnob Try.prog.godebug = none := by kernel_rfl

set_option maxRecDepth 100000 in
set_option maxHeartbeats 2000000 in
theorem walk (wd room : Int) (vi vp : Value) (its : Itms) (ts : List ByteArray) (w : World) (hi : RdI w vi its) (hp : Reads w vp ts) (hli : its.length ≤ maxLen) (hlp : ts.length ≤ maxLen) (hsi : ∀ i, (itx its i).size ≤ maxLen) (hsp : ∀ i, (tv ts i).size ≤ maxLen) :
    Calls Try.prog 3 #[.agg #[.int .i64 wd, .int .i64 room, vi, vp]] w fun e w' => e = .returned (.bool true) ∧ Below w.heap.size w w' := by
  have hA := (Below.refl w.heap.size w).alloc (Nat.le_refl _) (.cells #[.int .i64 wd, .int .i64 room, vi, vp] 25)
  have HZ := hid (szStore_any wd room vi vp its ts _ (hi.below hA) (hp.below hA) hli hlp hsi hsp)
  have HN := hid (Blk.new w 25 #[.int .i64 wd, .int .i64 room, vi, vp])
  have HI := hid hi
  have HP := hid hp
  have HA := hid hA
  obtain ⟨ai, ci, rfl, _⟩ := hi
  obtain ⟨ap, cp, rfl, _⟩ := hp.form
  clear hp hA hsi hsp
  go_enter Try.func3, Try.ntmps3
  go_wp2_with fail
  refine HZ.out.mono ?_
  rintro e w1 ⟨r, rfl, hr, hb1⟩
  have B1 := HA.out.trans (hb1.mono (by simp))
  have X1 := HN.out.below hb1
  by_cases hneg : r < 0
  · have HB := hid B1
    clear hr hb1 B1 X1
    go_wp2
    go_ret
    exact ⟨by simp, HB.out⟩
  · obtain ⟨l1, s1, l2, s2⟩ := hr (by omega)
    have HT := hid fun W h k => toStore_any wd room (.slice ai its.length ci) (.slice ap ts.length cp) its ts W h k l1 l2
    have HS := hid fun vi' vp' W h k => specValidStore_any wd room vi' vp' its ts W h k l1 l2 s1 s2
    have HM := hid fun vi' vp' W h k => implValidStore_any wd room vi' vp' its ts W h k l1 l2 s1 s2
    have HE := hid fun vi' vp' vj vq W a b c d => eqStore_any wd room vi' vp' vj vq its ts W a b c d hli hlp
    clear hr hb1 s1 s2 HZ
    have x0 : w1.cell? ⟨w.heap.size, 0, none⟩ = some (.int .i64 wd) := X1.cell 0
    have x1 : w1.cell? ⟨w.heap.size, 1, none⟩ = some (.int .i64 room) := X1.cell 1
    have x2 : w1.cell? ⟨w.heap.size, 2, none⟩ = some (.slice ai its.length ci) := X1.cell 2
    have x3 : w1.cell? ⟨w.heap.size, 3, none⟩ = some (.slice ap ts.length cp) := X1.cell 3
    go_wp2_with fail
    refine (HT.out _ (HI.out.below B1) (HP.out.below B1)).mono ?_
    rintro e w2 ⟨i2, p2, rfl, oi2, op2, hb2⟩
    have B2 := B1.trans (hb2.mono B1.size)
    have X2 := X1.below hb2
    clear x0 x1 x2 x3 X1 hb2 B1
    go_wp2_with fail
    refine (HS.out i2 p2 _ oi2.rdi (Reads.of_row op2)).mono ?_
    rintro e w3 ⟨b3, rfl, hb3, hbl3⟩
    have B3 := B2.trans (hbl3.mono B2.size)
    have X3 := X2.below hbl3
    clear oi2 op2 hbl3 X2 B2
    have x0 : w3.cell? ⟨w.heap.size, 0, none⟩ = some (.int .i64 wd) := X3.cell 0
    have x1 : w3.cell? ⟨w.heap.size, 1, none⟩ = some (.int .i64 room) := X3.cell 1
    have x2 : w3.cell? ⟨w.heap.size, 2, none⟩ = some (.slice ai its.length ci) := X3.cell 2
    have x3 : w3.cell? ⟨w.heap.size, 3, none⟩ = some (.slice ap ts.length cp) := X3.cell 3
    go_wp2_with fail
    refine (HT.out _ (HI.out.below B3) (HP.out.below B3)).mono ?_
    rintro e w4 ⟨i4, p4, rfl, oi4, op4, hb4⟩
    have B4 := B3.trans (hb4.mono B3.size)
    have X4 := X3.below hb4
    clear x0 x1 x2 x3 X3 hb4 B3
    obtain ⟨g4, rfl, hg4, hG4⟩ := oi4
    obtain ⟨a4, c4, rfl, _⟩ := row_form op4
    have oi4 : OwnI w4 w3.heap.size (.slice (some ⟨g4, 0, none⟩) its.length its.length) its := ⟨g4, rfl, hg4, hG4⟩
    have Y4 := Blk.new w4 30 #[.int .i64 wd, .int .i64 room, .slice (some ⟨g4, 0, none⟩) its.length its.length, .slice a4 ts.length c4]
    have hbn := (Below.refl w4.heap.size w4).alloc (Nat.le_refl _) (.cells #[.int .i64 wd, .int .i64 room, .slice (some ⟨g4, 0, none⟩) its.length its.length, .slice a4 ts.length c4] 30)
    have HI4 := hid ((oi4.below hbn).rdi)
    have HP4 := hid (Reads.of_row (Below.row hbn op4))
    have HB4 := hid (B4.trans (hbn.mono B4.size))
    have HX4 := hid (X4.alloc (.cells #[.int .i64 wd, .int .i64 room, .slice (some ⟨g4, 0, none⟩) its.length its.length, .slice a4 ts.length c4] 30))
    have HY4 := hid Y4
    clear oi4 op4 hg4 hG4 X4 Y4 B4 hbn
    go_wp2_with fail
    refine (HM.out _ _ _ HI4.out HP4.out).mono ?_
    rintro e w5 ⟨b5, rfl, hb5, hbl5⟩
    obtain rfl : b3 = b5 := Bool.eq_iff_iff.2 (hb3.trans hb5.symm)
    have X5 := HX4.out.below hbl5
    have Y5 := HY4.out.below hbl5
    have HB5 := hid (HB4.out.trans (hbl5.mono HB4.out.size))
    have HI5 := hid (HI4.out.below hbl5)
    have HP5 := hid (HP4.out.below hbl5)
    have HX5 := hid X5
    have HY5 := hid Y5
    clear hb3 hb5 hbl5 X5 Y5
    have hec := enters_of Try.func10 (by kernel_rfl) rfl
    have hec2 := enters_of Try.func12 (by kernel_rfl) rfl
    have hS0 : w5.drew.cell? ⟨w4.heap.size, 0, none⟩ = some (.int .i64 wd) ∧ w5.drew.cell? ⟨w4.heap.size, 1, none⟩ = some (.int .i64 room) ∧ w5.drew.cell? ⟨w4.heap.size, 2, none⟩ = some (.slice (some ⟨g4, 0, none⟩) its.length its.length) ∧ w5.drew.cell? ⟨w4.heap.size, 3, none⟩ = some (.slice a4 ts.length c4) ∧ w5.drew.cell? ⟨w.heap.size, 0, none⟩ = some (.int .i64 wd) ∧ w5.drew.cell? ⟨w.heap.size, 1, none⟩ = some (.int .i64 room) ∧ w5.drew.cell? ⟨w.heap.size, 2, none⟩ = some (.slice ai its.length ci) ∧ w5.drew.cell? ⟨w.heap.size, 3, none⟩ = some (.slice ap ts.length cp) := ⟨HY5.out.cell 0, HY5.out.cell 1, HY5.out.cell 2, HY5.out.cell 3, HX5.out.cell 0, HX5.out.cell 1, HX5.out.cell 2, HX5.out.cell 3⟩
    have hbd : Below w5.heap.size w5 w5.drew := below_drewN (Below.refl _ _) 1
    have HB5d := hid (HB5.out.trans (hbd.mono HB5.out.size))
    have HI5d := hid (HI5.out.below hbd)
    have HP5d := hid (HP5.out.below hbd)
    go_wp2_with fail
    refine wp_region_held (S := fun w' => w'.cell? ⟨w4.heap.size, 0, none⟩ = some (.int .i64 wd) ∧ w'.cell? ⟨w4.heap.size, 1, none⟩ = some (.int .i64 room) ∧ w'.cell? ⟨w4.heap.size, 2, none⟩ = some (.slice (some ⟨g4, 0, none⟩) its.length its.length) ∧ w'.cell? ⟨w4.heap.size, 3, none⟩ = some (.slice a4 ts.length c4) ∧ w'.cell? ⟨w.heap.size, 0, none⟩ = some (.int .i64 wd) ∧ w'.cell? ⟨w.heap.size, 1, none⟩ = some (.int .i64 room) ∧ w'.cell? ⟨w.heap.size, 2, none⟩ = some (.slice ai its.length ci) ∧ w'.cell? ⟨w.heap.size, 3, none⟩ = some (.slice ap ts.length cp)) (by kernel_rfl) ?_
    change wpAnyH _ _ _ _ _ _ _ _ (World.drew _)
    refine wpAnyH_take (i := 0) (v := .agg #[.int .i64 wd, .int .i64 room, .slice (some ⟨g4, 0, none⟩) its.length its.length, .slice a4 ts.length c4]) rfl (by kernel_rfl) (by kernel_rfl) (by kernel_rfl) (fun _ _ _ h => h) (.inl ⟨rfl, fun w' hS => by obtain ⟨s1, s2, s3, s4, s5, s6, s7, s8⟩ := hS; go_simp⟩) hS0 ?_
    refine wpAnyH_take (i := 1) (v := .agg #[.int .i64 wd, .int .i64 room, .slice ai its.length ci, .slice ap ts.length cp]) rfl (by kernel_rfl) (by kernel_rfl) (by kernel_rfl) (fun _ _ _ h => h) (.inl ⟨rfl, fun w' hS => by obtain ⟨s1, s2, s3, s4, s5, s6, s7, s8⟩ := hS; go_simp⟩) hS0 ?_
    refine held_one 2 (by kernel_rfl) (op_calls (f := 10) (args := #[.agg #[.int .i64 wd, .int .i64 room, .slice ai its.length ci, .slice ap ts.length cp]]) rfl rfl (by go_simp) (HT.out _ (HI.out.below HB5d.out) (HP.out.below HB5d.out)) ?_)
    rintro e w6 ⟨i6, p6, rfl, oi6, op6, hb6⟩
    have hb6' : Below w5.heap.size w5 w6 := ⟨hb6.os, hb6.tape, hb6.output, hb6.size, hb6.block⟩
    have Y6 := HY5.out.below hb6'
    have X6 := HX5.out.below hb6'
    have hS1 : w6.cell? ⟨w4.heap.size, 0, none⟩ = some (.int .i64 wd) ∧ w6.cell? ⟨w4.heap.size, 1, none⟩ = some (.int .i64 room) ∧ w6.cell? ⟨w4.heap.size, 2, none⟩ = some (.slice (some ⟨g4, 0, none⟩) its.length its.length) ∧ w6.cell? ⟨w4.heap.size, 3, none⟩ = some (.slice a4 ts.length c4) ∧ w6.cell? ⟨w.heap.size, 0, none⟩ = some (.int .i64 wd) ∧ w6.cell? ⟨w.heap.size, 1, none⟩ = some (.int .i64 room) ∧ w6.cell? ⟨w.heap.size, 2, none⟩ = some (.slice ai its.length ci) ∧ w6.cell? ⟨w.heap.size, 3, none⟩ = some (.slice ap ts.length cp) := ⟨Y6.cell 0, Y6.cell 1, Y6.cell 2, Y6.cell 3, X6.cell 0, X6.cell 1, X6.cell 2, X6.cell 3⟩
    have HB6 := hid (HB5.out.trans (hb6'.mono HB5.out.size))
    have HEQ := hid (HE.out _ _ i6 p6 w6 (HI5.out.below hb6') (HP5.out.below hb6') oi6.rdi (Reads.of_row op6))
    clear hb6 hb6' hS0 hbd
    refine ⟨_, rfl, hS1, ?_⟩
    refine held_one 3 (by kernel_rfl) (op_calls (f := 12) (args := #[.agg #[.int .i64 wd, .int .i64 room, .slice (some ⟨g4, 0, none⟩) its.length its.length, .slice a4 ts.length c4], .agg #[.int .i64 wd, .int .i64 room, i6, p6]]) rfl rfl (by go_simp) HEQ.out ?_)
    rintro e w7 ⟨rfl, hb7⟩
    have Y7 := Y6.below hb7
    have X7 := X6.below hb7
    have hS2 : w7.cell? ⟨w4.heap.size, 0, none⟩ = some (.int .i64 wd) ∧ w7.cell? ⟨w4.heap.size, 1, none⟩ = some (.int .i64 room) ∧ w7.cell? ⟨w4.heap.size, 2, none⟩ = some (.slice (some ⟨g4, 0, none⟩) its.length its.length) ∧ w7.cell? ⟨w4.heap.size, 3, none⟩ = some (.slice a4 ts.length c4) ∧ w7.cell? ⟨w.heap.size, 0, none⟩ = some (.int .i64 wd) ∧ w7.cell? ⟨w.heap.size, 1, none⟩ = some (.int .i64 room) ∧ w7.cell? ⟨w.heap.size, 2, none⟩ = some (.slice ai its.length ci) ∧ w7.cell? ⟨w.heap.size, 3, none⟩ = some (.slice ap ts.length cp) := ⟨Y7.cell 0, Y7.cell 1, Y7.cell 2, Y7.cell 3, X7.cell 0, X7.cell 1, X7.cell 2, X7.cell 3⟩
    have HB7 := hid (HB6.out.trans (hb7.mono HB6.out.size))
    clear hb7 hS1 Y6 X6 Y7 X7
    refine ⟨_, rfl, hS2, ?_⟩
    refine wpAnyH_take (i := 4) (v := .bool false) rfl (by kernel_rfl) (by kernel_rfl) (by kernel_rfl) (fun _ _ _ h => h) (.inl ⟨rfl, fun w' hS => by obtain ⟨s1, s2, s3, s4, s5, s6, s7, s8⟩ := hS; go_simp⟩) hS2 ?_
    refine wpAnyH_done (by kernel_rfl) ?_ _
    clear hS2
    go_simp
    go_wp2
    go_ret
    exact ⟨by simp, HB7.out⟩
theorem reads_some {w : World} {x : Addr} {len cap : Nat} {ss : List ByteArray} (hl : len ≤ ss.length) (hcell : ∀ i, i < ss.length → w.cell? (x.add i) = some (.string (ss.getD i ByteArray.empty))) (hw : ∀ s ∈ ss, s.size ≤ maxLen) :
    Reads w (.slice (some x) len cap) (ss.take len) ∧ ∀ i, (tv (ss.take len) i).size ≤ maxLen := by
  have hlen : (ss.take len).length = len := by simp; omega
  constructor
  · by_cases e : len = 0
    · subst e
      exact .inl ⟨by simp, some x, cap, rfl⟩
    · obtain ⟨b, off, spot⟩ := x
      have hspot : spot = none := by simpa [Addr.add] using World.cell?_spot (hcell 0 (by omega))
      subst hspot
      have ea : ∀ i, (⟨b, off, none⟩ : Addr).add i = ⟨b, off + i, none⟩ := fun i => by simp [Addr.add]
      have h0 := hcell 0 (by omega)
      rw [ea] at h0
      refine .inr ⟨b, off, cap, by rw [hlen], World.block_lt_of_cell? w _ h0, fun i hi => ?_⟩
      rw [hlen] at hi
      have hc := hcell i (by omega)
      rw [ea] at hc
      rw [hc]
      simp [hi]
  · intro i
    unfold tv
    by_cases hi : i < (ss.take len).length
    · rw [List.getD_eq_getElem?_getD, List.getElem?_eq_getElem hi]
      exact hw _ (List.mem_of_mem_take (List.getElem_mem hi))
    · rw [List.getD_eq_getElem?_getD, List.getElem?_eq_none (by omega)]; simp
theorem cellsS : Try.prog.cellsOf 25 = 4 := by kernel_rfl
theorem laid : laidOutB Try.prog = true := by kernel_rfl

set_option maxRecDepth 100000 in
theorem lifted (os : Os) (started : os.Started) (H : Type) (enc : TypeId × Value → H) :
    ReturnsInHanded {} Try.checked os 3 .any (Rows.fnExactValidStoreSpec.pre6 enc Try.prog Try.f3 Rows.fnExactValidStoreRow.domain false) (Rows.fnExactValidStoreSpec.post enc Try.prog Try.f3 false true false false) := by
  refine returnsInHanded_of_change (C := Try.checked) own started (by kernel_rfl) Try.func3
    (ChangeSpec.witness6 (enc := enc) (C := Try.checked) false ⟨#[], #[.agg #[.int .i64 0, .int .i64 0, .slice none 0 0, .slice none 0 0]], []⟩ 8 (by kernel_rfl) (by kernel_rfl) (by kernel_rfl) (by kernel_rfl)) ?_
  intro W base args ds gs before hval0 hW hcnd _
  have hval : ∀ (j : Nat) t v, Try.f3.params[j]? = some t → args[j]? = some v → Value.okWide Try.prog W .any base t v := hval0
  have hW' := hW
  obtain ⟨p, q, hA0, hV, rfl, hfz, hnd⟩ := hW
  have hA : DataW.TrodAll enc Try.prog W 0 (fun _ => true) true Try.f3.params.toList args.toList ds p := hA0
  rw [Try.params3] at hA hval
  obtain ⟨v0, vs0, d0, ds0, p0, q0, hargs, rfl, rfl, h0, r0⟩ := trodAll_cons hA
  obtain ⟨rfl, rfl, rfl⟩ := trodAll_nil r0
  obtain rfl : args = #[v0] := by cases args; simp_all
  obtain ⟨rfl, rfl⟩ := trodVars_none hV
  have k0 := h0
  have lt0 : ∀ x ∈ p0, x.block < W.heap.size := by obtain ⟨m, hm⟩ := k0; exact DataW.trod_lt m _ _ _ hm
  obtain ⟨c0, c1, c2, c3, y0, y1, y2, y3, mm, hv0, _, _, hy0, hy1, hy2, hy3⟩ := Go.Joins.open_agg4 Try.underlying25 (by kernel_rfl) cellsS (hval 0 25 v0 rfl rfl) h0
  subst hv0
  obtain ⟨wd, e0, _, _⟩ := DataW.trod_int Try.underlying3 hy0
  obtain ⟨room, e1, _, _⟩ := DataW.trod_int Try.underlying3 hy1
  simp at e0 e1
  subst e0 e1
  obtain ⟨its, wi, hmi, hsi⟩ := open_items hy2
  obtain ⟨ts, wp, hmp, hsp⟩ : ∃ ts, Reads W c3 ts ∧ ts.length ≤ maxLen ∧ ∀ i, (tv ts i).size ≤ maxLen := by
    rcases open_strings Try.underlying23 Try.underlying9 (by kernel_rfl) hy3 with ⟨hcs, _⟩ | ⟨x, l, c, ss, hcs, _, hl, hm, hz, hx, hcell, hwz⟩
    · simp at hcs
      subst hcs
      exact ⟨[], .inl ⟨rfl, none, 0, rfl⟩, by simp, fun i => by simp [tv]⟩
    · simp at hcs
      subst hcs
      simp only [if_true] at hz
      have hsz : l ≤ ss.length := by rw [hz]; exact hl
      have h2 := reads_some (cap := c) hsz hcell hwz
      exact ⟨ss.take l, h2.1, by rw [List.length_take]; exact Nat.le_trans (Nat.min_le_left _ _) (Nat.le_trans hl hm), h2.2⟩
  clear hA0 hval0
  refine (walk wd room c2 c3 its ts W wi wp hmi hmp hsi hsp).mono fun e W' ⟨he, bel⟩ => ?_
  subst he
  exact ⟨_, rfl, _, _, _, [], _, [], hW', trodAll_mk1 (shut_bool Try.underlying4 _), (trodAll_cons_mk (Below.trod laid (by kernel_rfl) (of_decide_eq_true (by kernel_rfl)) k0 bel lt0) trodAll_mk0), rfl, bel.frame _, fun h => by cases h⟩

theorem over : Rows.fnExactValidStoreRow.holds Try.pinned (OpenSpec.ofChange Rows.fnExactValidStoreSpec) :=
  OpenClaim.holds_of_wide 3 Try.f3 rfl rfl rfl rfl rfl rfl rfl ⟨rfl, rfl, rfl, rfl, rfl⟩ rfl rfl rfl rfl rfl (by kernel_rfl) Try.func3 (by kernel_rfl)
    (of_decide_eq_true (by kernel_rfl)) (by unfold Func.isWrapper; first | (rw [if_pos (by decide +kernel)]; kernel_rfl) | (rw [if_neg (by decide +kernel)]; exact ⟨rfl, rfl⟩))
    (fun os started H enc _ => lifted os started H enc)
end Go.Proofs.Ytmcipciimnncmaa.fnExactValidStore
namespace Go.Proofs.Ytmcipciimnncmaa
theorem fnExactValidStore_holds : Rows.FnExactValidStoreSaid := fnExactValidStore.over
#print axioms fnExactValidStore_holds
end Go.Proofs.Ytmcipciimnncmaa
