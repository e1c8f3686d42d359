/- laws.FnExactValidFetch returns true at every argument. -/
import Derived.Test.YtiflibkabmkloaaOpenFetch
import Derived.Test.YtiflibkabmkloaaFetchTo3
import Derived.Test.YtiflibkabmkloaaFetchArgs
import Derived.Test.YtiflibkabmkloaaOpenPeers
import Derived.Lib.SmallJoins
import Derived.Below
import Derived.WalkKit
import Derived.ProofKit
import Derived.OpenShut
import Derived.ShutString
import Derived.ChangeOld
import Derived.SliceStrings
namespace Go.Proofs.Ytiflibkabmkloaa.fnExactValidFetch
open Go.ChangeShapes Go.WideShapes Go.ChangeAt Go.RowKit
open Go.ChangeMaps (open_string shut_string)
set_option linter.unusedVariables false

theorem own : ownKnob Try.prog.godebug = none := by kernel_rfl

set_option maxRecDepth 100000 in
set_option maxHeartbeats 4000000 in
theorem walk (nm : ByteArray) (now : Int) (full : Bool) (wd room : Int) (vi vp vq : Value) (its : Itms) (ts : List ByteArray) (ps : Prs) (w : World) (hi : RdI w vi its) (hp : Reads w vp ts) (hq : RdP w vq ps) (hnm : nm.size ≤ maxLen) (hli : its.length ≤ maxLen) (hlp : ts.length ≤ maxLen) (hlq : ps.length ≤ maxLen) (hsi : ∀ i, (itx its i).size ≤ maxLen) (hsp : ∀ i, (tv ts i).size ≤ maxLen) (hf : PsFit maxLen ps) :
    Calls Try.prog 3 #[fval nm now full wd room vi vp vq] w fun e w' => e = .returned (.bool true) ∧ Below w.heap.size w w' := by
  have hA := (Below.refl w.heap.size w).alloc (Nat.le_refl _) (.cells (fcells nm now full wd room vi vp vq) 28)
  have HZ := hid (szFetch_any nm now full wd room vi vp vq its ts ps _ (hi.below hA) (hp.below hA) (hq.below hA) hnm hli hlp hlq hsi hsp hf)
  have HN := hid (Blk.new w 28 (fcells nm now full wd room vi vp vq))
  have HI := hid hi
  have HP := hid hp
  have HQ := hid hq
  have HA := hid hA
  obtain ⟨ai, ci, rfl, _⟩ := hi
  obtain ⟨ap, cp, rfl, _⟩ := hp.form
  obtain ⟨aq, cq, rfl, _⟩ := hq
  have HFM := hid hf
  clear hp hA hsi hsp hf hnm
  go_enter Try.func3, Try.ntmps3
  go_wp2_with fail
  refine HZ.out.mono ?_
  rintro e w1 ⟨r, rfl, hr, hb1⟩
  have B1 := HA.out.trans (hb1.mono (by simp))
  have X1 := HN.out.below hb1
  by_cases hneg : r < 0
  · have HB := hid B1
    clear hr hb1 B1 X1
    go_wp2
    go_ret
    exact ⟨by simp, HB.out⟩
  · obtain ⟨_, l1, s1, l2, s2, l3, ff⟩ := hr (by omega)
    have HT := hid fun W h k l => toFetch_any nm now full wd room (.slice ai its.length ci) (.slice ap ts.length cp) (.slice aq ps.length cq) its ts ps W h k l l1 l2 l3 ff
    have HS := hid fun a b c W h k l => specValidFetch_any nm now full wd room a b c its ts ps W h k l l1 l2 l3 s1 s2 ff
    have HM := hid fun a b c W h k l => implValidFetch_any nm now full wd room a b c its ts ps W h k l l1 l2 l3 s1 s2 ff
    have HE := hid fun a b c d e f W h1 h2 h3 h4 h5 h6 => eqFetch_any nm now full wd room a b c d e f its ts ps W h1 h2 h3 h4 h5 h6 hli hlp hlq HFM.out
    clear hr hb1 s1 s2 HZ ff
    have x0 : w1.cell? ⟨w.heap.size, 0, none⟩ = some (.string nm) := X1.cell 0
    have x1 : w1.cell? ⟨w.heap.size, 1, none⟩ = some (.int .i64 now) := X1.cell 1
    have x2 : w1.cell? ⟨w.heap.size, 2, none⟩ = some (.bool full) := X1.cell 2
    have x3 : w1.cell? ⟨w.heap.size, 3, none⟩ = some (.int .i64 wd) := X1.cell 3
    have x4 : w1.cell? ⟨w.heap.size, 4, none⟩ = some (.int .i64 room) := X1.cell 4
    have x5 : w1.cell? ⟨w.heap.size, 5, none⟩ = some (.slice ai its.length ci) := X1.cell 5
    have x6 : w1.cell? ⟨w.heap.size, 6, none⟩ = some (.slice ap ts.length cp) := X1.cell 6
    have x7 : w1.cell? ⟨w.heap.size, 7, none⟩ = some (.slice aq ps.length cq) := X1.cell 7
    go_wp2_with fail
    refine (HT.out _ (HI.out.below B1) (HP.out.below B1) (HQ.out.below B1)).mono ?_
    rintro e w2 ⟨i2, p2, q2, qs2, rfl, hqs2, fo2, _, hb2⟩
    have B2 := B1.trans (hb2.mono B1.size)
    have X2 := X1.below hb2
    have Q2 := fo2.peers.rdp
    rw [hqs2] at Q2
    clear x0 x1 x2 x3 x4 x5 x6 x7 X1 hb2 B1
    go_wp2_with fail
    refine (HS.out i2 p2 q2 _ fo2.store.rdi (Reads.of_row fo2.store.pins) Q2).mono ?_
    rintro e w3 ⟨b3, rfl, hb3, hbl3⟩
    have B3 := B2.trans (hbl3.mono B2.size)
    have X3 := X2.below hbl3
    clear fo2 hqs2 Q2 hbl3 X2 B2
    have x0 : w3.cell? ⟨w.heap.size, 0, none⟩ = some (.string nm) := X3.cell 0
    have x1 : w3.cell? ⟨w.heap.size, 1, none⟩ = some (.int .i64 now) := X3.cell 1
    have x2 : w3.cell? ⟨w.heap.size, 2, none⟩ = some (.bool full) := X3.cell 2
    have x3 : w3.cell? ⟨w.heap.size, 3, none⟩ = some (.int .i64 wd) := X3.cell 3
    have x4 : w3.cell? ⟨w.heap.size, 4, none⟩ = some (.int .i64 room) := X3.cell 4
    have x5 : w3.cell? ⟨w.heap.size, 5, none⟩ = some (.slice ai its.length ci) := X3.cell 5
    have x6 : w3.cell? ⟨w.heap.size, 6, none⟩ = some (.slice ap ts.length cp) := X3.cell 6
    have x7 : w3.cell? ⟨w.heap.size, 7, none⟩ = some (.slice aq ps.length cq) := X3.cell 7
    go_wp2_with fail
    refine (HT.out _ (HI.out.below B3) (HP.out.below B3) (HQ.out.below B3)).mono ?_
    rintro e w4 ⟨i4, p4, q4, qs4, rfl, hqs4, fo4, _, hb4⟩
    have B4 := B3.trans (hb4.mono B3.size)
    have X4 := X3.below hb4
    clear x0 x1 x2 x3 x4 x5 x6 x7 X3 hb4 B3
    obtain ⟨a4, c4, rfl⟩ := row_any fo4.store.items
    obtain ⟨b4, d4, rfl⟩ := row_any fo4.store.pins
    obtain ⟨e4, f4, hv4⟩ := row_any fo4.peers.row
    have hql : qs4.length = ps.length := by rw [← hqs4, List.length_map]
    rw [hql] at hv4
    subst hv4
    have Q4 := fo4.peers.rdp
    rw [hqs4] at Q4
    have Y4 := Blk.new w4 36 #[.string nm, .int .i64 now, .bool full, .int .i64 wd, .int .i64 room, .slice a4 its.length c4, .slice b4 ts.length d4, .slice e4 ps.length f4]
    have hbn := (Below.refl w4.heap.size w4).alloc (Nat.le_refl _) (.cells #[.string nm, .int .i64 now, .bool full, .int .i64 wd, .int .i64 room, .slice a4 its.length c4, .slice b4 ts.length d4, .slice e4 ps.length f4] 36)
    have HI4 := hid (fo4.store.rdi.below hbn)
    have HP4 := hid ((Reads.of_row fo4.store.pins).below hbn)
    have HQ4 := hid (Q4.below hbn)
    have HB4 := hid (B4.trans (hbn.mono B4.size))
    have HX4 := hid (X4.alloc (.cells #[.string nm, .int .i64 now, .bool full, .int .i64 wd, .int .i64 room, .slice a4 its.length c4, .slice b4 ts.length d4, .slice e4 ps.length f4] 36))
    have HY4 := hid Y4
    clear fo4 hqs4 hql Q4 X4 Y4 B4 hbn
    go_wp2_with fail
    refine (HM.out _ _ _ _ HI4.out HP4.out HQ4.out).mono ?_
    rintro e w5 ⟨b5, rfl, hb5, hbl5⟩
    obtain rfl : b3 = b5 := Bool.eq_iff_iff.2 (hb3.trans hb5.symm)
    have X5 := HX4.out.below hbl5
    have Y5 := HY4.out.below hbl5
    have HB5 := hid (HB4.out.trans (hbl5.mono HB4.out.size))
    have HI5 := hid (HI4.out.below hbl5)
    have HP5 := hid (HP4.out.below hbl5)
    have HQ5 := hid (HQ4.out.below hbl5)
    have HX5 := hid X5
    have HY5 := hid Y5
    clear hb3 hb5 hbl5 X5 Y5
    have hec := enters_of Try.func7 (by kernel_rfl) rfl
    have hec2 := enters_of Try.func9 (by kernel_rfl) rfl
    have hS0 : w5.drew.cell? ⟨w4.heap.size, 0, none⟩ = some (.string nm) ∧ w5.drew.cell? ⟨w4.heap.size, 1, none⟩ = some (.int .i64 now) ∧ w5.drew.cell? ⟨w4.heap.size, 2, none⟩ = some (.bool full) ∧ w5.drew.cell? ⟨w4.heap.size, 3, none⟩ = some (.int .i64 wd) ∧ w5.drew.cell? ⟨w4.heap.size, 4, none⟩ = some (.int .i64 room) ∧ w5.drew.cell? ⟨w4.heap.size, 5, none⟩ = some (.slice a4 its.length c4) ∧ w5.drew.cell? ⟨w4.heap.size, 6, none⟩ = some (.slice b4 ts.length d4) ∧ w5.drew.cell? ⟨w4.heap.size, 7, none⟩ = some (.slice e4 ps.length f4) ∧ w5.drew.cell? ⟨w.heap.size, 0, none⟩ = some (.string nm) ∧ w5.drew.cell? ⟨w.heap.size, 1, none⟩ = some (.int .i64 now) ∧ w5.drew.cell? ⟨w.heap.size, 2, none⟩ = some (.bool full) ∧ w5.drew.cell? ⟨w.heap.size, 3, none⟩ = some (.int .i64 wd) ∧ w5.drew.cell? ⟨w.heap.size, 4, none⟩ = some (.int .i64 room) ∧ w5.drew.cell? ⟨w.heap.size, 5, none⟩ = some (.slice ai its.length ci) ∧ w5.drew.cell? ⟨w.heap.size, 6, none⟩ = some (.slice ap ts.length cp) ∧ w5.drew.cell? ⟨w.heap.size, 7, none⟩ = some (.slice aq ps.length cq) := ⟨HY5.out.cell 0, HY5.out.cell 1, HY5.out.cell 2, HY5.out.cell 3, HY5.out.cell 4, HY5.out.cell 5, HY5.out.cell 6, HY5.out.cell 7, HX5.out.cell 0, HX5.out.cell 1, HX5.out.cell 2, HX5.out.cell 3, HX5.out.cell 4, HX5.out.cell 5, HX5.out.cell 6, HX5.out.cell 7⟩
    have hbd : Below w5.heap.size w5 w5.drew := below_drewN (Below.refl _ _) 1
    have HB5d := hid (HB5.out.trans (hbd.mono HB5.out.size))
    clear hbd
    go_wp2_with fail
    refine wp_region_held (S := fun w' => w'.cell? ⟨w4.heap.size, 0, none⟩ = some (.string nm) ∧ w'.cell? ⟨w4.heap.size, 1, none⟩ = some (.int .i64 now) ∧ w'.cell? ⟨w4.heap.size, 2, none⟩ = some (.bool full) ∧ w'.cell? ⟨w4.heap.size, 3, none⟩ = some (.int .i64 wd) ∧ w'.cell? ⟨w4.heap.size, 4, none⟩ = some (.int .i64 room) ∧ w'.cell? ⟨w4.heap.size, 5, none⟩ = some (.slice a4 its.length c4) ∧ w'.cell? ⟨w4.heap.size, 6, none⟩ = some (.slice b4 ts.length d4) ∧ w'.cell? ⟨w4.heap.size, 7, none⟩ = some (.slice e4 ps.length f4) ∧ w'.cell? ⟨w.heap.size, 0, none⟩ = some (.string nm) ∧ w'.cell? ⟨w.heap.size, 1, none⟩ = some (.int .i64 now) ∧ w'.cell? ⟨w.heap.size, 2, none⟩ = some (.bool full) ∧ w'.cell? ⟨w.heap.size, 3, none⟩ = some (.int .i64 wd) ∧ w'.cell? ⟨w.heap.size, 4, none⟩ = some (.int .i64 room) ∧ w'.cell? ⟨w.heap.size, 5, none⟩ = some (.slice ai its.length ci) ∧ w'.cell? ⟨w.heap.size, 6, none⟩ = some (.slice ap ts.length cp) ∧ w'.cell? ⟨w.heap.size, 7, none⟩ = some (.slice aq ps.length cq)) (by kernel_rfl) ?_
    change wpAnyH _ _ _ _ _ _ _ _ (World.drew _)
    refine wpAnyH_take (i := 0) (v := .agg #[.string nm, .int .i64 now, .bool full, .int .i64 wd, .int .i64 room, .slice a4 its.length c4, .slice b4 ts.length d4, .slice e4 ps.length f4]) rfl (by kernel_rfl) (by kernel_rfl) (by kernel_rfl) (fun _ _ _ h => h) (.inl ⟨rfl, fun w' hS => by obtain ⟨s1, s2, s3, s4, s5, s6, s7, s8, s9, s10, s11, s12, s13, s14, s15, s16⟩ := hS; go_simp⟩) hS0 ?_
    refine wpAnyH_take (i := 1) (v := .agg #[.string nm, .int .i64 now, .bool full, .int .i64 wd, .int .i64 room, .slice ai its.length ci, .slice ap ts.length cp, .slice aq ps.length cq]) rfl (by kernel_rfl) (by kernel_rfl) (by kernel_rfl) (fun _ _ _ h => h) (.inl ⟨rfl, fun w' hS => by obtain ⟨s1, s2, s3, s4, s5, s6, s7, s8, s9, s10, s11, s12, s13, s14, s15, s16⟩ := hS; go_simp⟩) hS0 ?_
    refine held_one 2 (by kernel_rfl) (op_calls (f := 7) (args := #[.agg #[.string nm, .int .i64 now, .bool full, .int .i64 wd, .int .i64 room, .slice ai its.length ci, .slice ap ts.length cp, .slice aq ps.length cq]]) rfl rfl (by go_simp) (HT.out _ (HI.out.below HB5d.out) (HP.out.below HB5d.out) (HQ.out.below HB5d.out)) ?_)
    rintro e w7 ⟨i7, p7, q7, qs7, rfl, hqs7, fo7, _, hb7⟩
    have hb7' : Below w5.heap.size w5 w7 := ⟨hb7.os, hb7.tape, hb7.output, hb7.size, hb7.block⟩
    have V7 := HY5.out.below hb7'
    have X7 := HX5.out.below hb7'
    have hS1 : w7.cell? ⟨w4.heap.size, 0, none⟩ = some (.string nm) ∧ w7.cell? ⟨w4.heap.size, 1, none⟩ = some (.int .i64 now) ∧ w7.cell? ⟨w4.heap.size, 2, none⟩ = some (.bool full) ∧ w7.cell? ⟨w4.heap.size, 3, none⟩ = some (.int .i64 wd) ∧ w7.cell? ⟨w4.heap.size, 4, none⟩ = some (.int .i64 room) ∧ w7.cell? ⟨w4.heap.size, 5, none⟩ = some (.slice a4 its.length c4) ∧ w7.cell? ⟨w4.heap.size, 6, none⟩ = some (.slice b4 ts.length d4) ∧ w7.cell? ⟨w4.heap.size, 7, none⟩ = some (.slice e4 ps.length f4) ∧ w7.cell? ⟨w.heap.size, 0, none⟩ = some (.string nm) ∧ w7.cell? ⟨w.heap.size, 1, none⟩ = some (.int .i64 now) ∧ w7.cell? ⟨w.heap.size, 2, none⟩ = some (.bool full) ∧ w7.cell? ⟨w.heap.size, 3, none⟩ = some (.int .i64 wd) ∧ w7.cell? ⟨w.heap.size, 4, none⟩ = some (.int .i64 room) ∧ w7.cell? ⟨w.heap.size, 5, none⟩ = some (.slice ai its.length ci) ∧ w7.cell? ⟨w.heap.size, 6, none⟩ = some (.slice ap ts.length cp) ∧ w7.cell? ⟨w.heap.size, 7, none⟩ = some (.slice aq ps.length cq) := ⟨V7.cell 0, V7.cell 1, V7.cell 2, V7.cell 3, V7.cell 4, V7.cell 5, V7.cell 6, V7.cell 7, X7.cell 0, X7.cell 1, X7.cell 2, X7.cell 3, X7.cell 4, X7.cell 5, X7.cell 6, X7.cell 7⟩
    have Q7 := fo7.peers.rdp
    rw [hqs7] at Q7
    have HEQ := hid (HE.out _ _ _ i7 p7 q7 w7 (HI5.out.below hb7') (HP5.out.below hb7') (HQ5.out.below hb7') fo7.store.rdi (Reads.of_row fo7.store.pins) Q7)
    have HB7 := hid (HB5.out.trans (hb7'.mono HB5.out.size))
    refine ⟨_, rfl, hS1, ?_⟩
    refine held_one 3 (by kernel_rfl) (op_calls (f := 9) (args := #[.agg #[.string nm, .int .i64 now, .bool full, .int .i64 wd, .int .i64 room, .slice a4 its.length c4, .slice b4 ts.length d4, .slice e4 ps.length f4], fval nm now full wd room i7 p7 q7]) rfl rfl (by go_simp) HEQ.out ?_)
    rintro e w8 ⟨rfl, hb8⟩
    have V8 := V7.below hb8
    have X8 := X7.below hb8
    have hS2 : w8.cell? ⟨w4.heap.size, 0, none⟩ = some (.string nm) ∧ w8.cell? ⟨w4.heap.size, 1, none⟩ = some (.int .i64 now) ∧ w8.cell? ⟨w4.heap.size, 2, none⟩ = some (.bool full) ∧ w8.cell? ⟨w4.heap.size, 3, none⟩ = some (.int .i64 wd) ∧ w8.cell? ⟨w4.heap.size, 4, none⟩ = some (.int .i64 room) ∧ w8.cell? ⟨w4.heap.size, 5, none⟩ = some (.slice a4 its.length c4) ∧ w8.cell? ⟨w4.heap.size, 6, none⟩ = some (.slice b4 ts.length d4) ∧ w8.cell? ⟨w4.heap.size, 7, none⟩ = some (.slice e4 ps.length f4) ∧ w8.cell? ⟨w.heap.size, 0, none⟩ = some (.string nm) ∧ w8.cell? ⟨w.heap.size, 1, none⟩ = some (.int .i64 now) ∧ w8.cell? ⟨w.heap.size, 2, none⟩ = some (.bool full) ∧ w8.cell? ⟨w.heap.size, 3, none⟩ = some (.int .i64 wd) ∧ w8.cell? ⟨w.heap.size, 4, none⟩ = some (.int .i64 room) ∧ w8.cell? ⟨w.heap.size, 5, none⟩ = some (.slice ai its.length ci) ∧ w8.cell? ⟨w.heap.size, 6, none⟩ = some (.slice ap ts.length cp) ∧ w8.cell? ⟨w.heap.size, 7, none⟩ = some (.slice aq ps.length cq) := ⟨V8.cell 0, V8.cell 1, V8.cell 2, V8.cell 3, V8.cell 4, V8.cell 5, V8.cell 6, V8.cell 7, X8.cell 0, X8.cell 1, X8.cell 2, X8.cell 3, X8.cell 4, X8.cell 5, X8.cell 6, X8.cell 7⟩
    have HB8 := hid (HB7.out.trans (hb8.mono HB7.out.size))
    refine ⟨_, rfl, hS2, ?_⟩
    refine wpAnyH_take (i := 4) (v := .bool false) rfl (by kernel_rfl) (by kernel_rfl) (by kernel_rfl) (fun _ _ _ h => h) (.inl ⟨rfl, fun w' hS => by obtain ⟨s1, s2, s3, s4, s5, s6, s7, s8, s9, s10, s11, s12, s13, s14, s15, s16⟩ := hS; go_simp⟩) hS2 ?_
    refine wpAnyH_done (by kernel_rfl) ?_ _
    clear hS0 hS1 hS2 V7 X7 V8 X8 hb7 hb7' hb8 fo7 hqs7 Q7
    go_simp
    go_wp2
    go_ret
    exact ⟨by simp, HB8.out⟩
theorem laid : laidOutB Try.prog = true := by kernel_rfl

set_option maxRecDepth 100000 in
theorem lifted (os : Os) (started : os.Started) (H : Type) (enc : TypeId × Value → H) :
    ReturnsInHanded {} Try.checked os 3 .any (Rows.fnExactValidFetchSpec.pre6 enc Try.prog Try.f3 Rows.fnExactValidFetchRow.domain false) (Rows.fnExactValidFetchSpec.post enc Try.prog Try.f3 false true false false) := by
  refine returnsInHanded_of_change (C := Try.checked) own started (by kernel_rfl) Try.func3
    (ChangeSpec.witness6 (enc := enc) (C := Try.checked) false ⟨#[], #[.agg #[.string ByteArray.empty, .int .i64 0, .bool false, .int .i64 0, .int .i64 0, .slice none 0 0, .slice none 0 0, .slice none 0 0]], []⟩ 8 (by kernel_rfl) (by kernel_rfl) (by kernel_rfl) (by kernel_rfl)) ?_
  intro W base args ds gs before hval0 hW hcnd _
  have hval : ∀ (j : Nat) t v, Try.f3.params[j]? = some t → args[j]? = some v → Value.okWide Try.prog W .any base t v := hval0
  have hW' := hW
  obtain ⟨p, q, hA0, hV, rfl, hfz, hnd⟩ := hW
  have hA : DataW.TrodAll enc Try.prog W 0 (fun _ => true) true Try.f3.params.toList args.toList ds p := hA0
  rw [Try.params3] at hA hval
  obtain ⟨v0, vs0, d0, ds0, p0, q0, hargs, rfl, rfl, h0, r0⟩ := trodAll_cons hA
  obtain ⟨rfl, rfl, rfl⟩ := trodAll_nil r0
  obtain rfl : args = #[v0] := by cases args; simp_all
  obtain ⟨rfl, rfl⟩ := trodVars_none hV
  have k0 := h0
  have lt0 : ∀ x ∈ p0, x.block < W.heap.size := by obtain ⟨m, hm⟩ := k0; exact DataW.trod_lt m _ _ _ hm
  obtain ⟨nm, now, full, wd, room, vi, vp, vq, its, ts, ps, rfl, wi, wp, wq, hnm, hmi, hmp, hmq, hsi, hsp, hfp⟩ := open_fetch (hval 0 28 v0 rfl rfl) h0
  clear hA0 hval0
  refine (walk nm now full wd room vi vp vq its ts ps W wi wp wq hnm hmi hmp hmq hsi hsp hfp).mono fun e W' ⟨he, bel⟩ => ?_
  subst he
  exact ⟨_, rfl, _, _, _, [], _, [], hW', trodAll_mk1 (shut_bool Try.underlying4 _), (trodAll_cons_mk (Below.trod laid (by kernel_rfl) (of_decide_eq_true (by kernel_rfl)) k0 bel lt0) trodAll_mk0), rfl, bel.frame _, fun h => by cases h⟩

theorem over : Rows.fnExactValidFetchRow.holds Try.pinned (OpenSpec.ofChange Rows.fnExactValidFetchSpec) :=
  OpenClaim.holds_of_wide 3 Try.f3 rfl rfl rfl rfl rfl rfl rfl ⟨rfl, rfl, rfl, rfl, rfl⟩ rfl rfl rfl rfl rfl (by kernel_rfl) Try.func3 (by kernel_rfl)
    (of_decide_eq_true (by kernel_rfl)) (by unfold Func.isWrapper; first | (rw [if_pos (by decide +kernel)]; kernel_rfl) | (rw [if_neg (by decide +kernel)]; exact ⟨rfl, rfl⟩))
    (fun os started H enc _ => lifted os started H enc)
end Go.Proofs.Ytiflibkabmkloaa.fnExactValidFetch
namespace Go.Proofs.Ytiflibkabmkloaa
theorem fnExactValidFetch_holds : Rows.FnExactValidFetchSaid := fnExactValidFetch.over
#print axioms fnExactValidFetch_holds
end Go.Proofs.Ytiflibkabmkloaa
