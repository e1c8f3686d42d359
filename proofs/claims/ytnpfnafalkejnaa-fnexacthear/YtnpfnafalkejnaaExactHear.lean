/- laws.FnExactHear returns true at every argument. -/
import Derived.Test.YtnpfnafalkejnaaHearSpec
import Derived.Test.YtnpfnafalkejnaaHearArgs
import Derived.Test.YtnpfnafalkejnaaNotesHeld
import Derived.Test.YtnpfnafalkejnaaOpenNote
import Derived.Test.YtnpfnafalkejnaaNoteMark
import Derived.Below
import Derived.WalkKit
import Derived.ProofKit
import Derived.OpenShut
import Derived.ShutString
import Derived.ChangeOld
import Derived.SliceStrings
namespace Go.Proofs.Ytnpfnafalkejnaa.fnExactHear
open Go.ChangeShapes Go.WideShapes Go.ChangeAt Go.RowKit
open Go.ChangeMaps (open_string shut_string)
set_option linter.unusedVariables false

theorem own : ownKnob Try.prog.godebug = none := by kernel_rfl
theorem minus_len : ∀ a b : List ByteArray, (minusL a b).length ≤ a.length := fun a b => by unfold minusL; exact List.length_filter_le _ _
theorem hear_len {n : Int} {ts : List ByteArray} {x : Nt} {ns : List Nt} {th ou : List ByteArray} (h : HearR n ts x ns th ou) (hl : ts.length ≤ 1048576) (hs : x.ss.length ≤ 1048576) : ns.length ≤ 2 ∧ totN ns ≤ 1048591 ∧ (∀ i, i < ns.length → (natt ns i).ss.length ≤ 1048576) ∧ th.length ≤ 1048576 ∧ ou.length ≤ 1048576 := by
  have hft : (fromTo x.f x.t ts).length ≤ 1048576 := Nat.le_trans (fromTo_len x.f x.t ts) hl
  rcases h with ⟨_, rfl, rfl, rfl⟩ | ⟨_, _, rfl, rfl, rfl⟩ | ⟨_, _, hr, rfl, rfl⟩
  · exact ⟨by simp, by simp [totN], fun i h => absurd h (by simp), by simp, by simp⟩
  · exact ⟨by simp, by simp [totN], fun i h => absurd h (by simp), Nat.le_trans (minus_len _ _) hs, Nat.le_trans (minus_len _ _) hft⟩
  · obtain ⟨h1, h2, h3⟩ := hr.few hl
    exact ⟨h1, h2, h3, by simp, by simp⟩
theorem hown_same {w w' : World} {B : Nat} {vn v1 v2 : Value} {qs : NV} {th ou : List ByteArray} (h : HearOwn w B vn v1 v2 qs th ou) (hs : ∀ g, B ≤ g → g < w.heap.size → w'.heap[g]? = w.heap[g]?) : HearOwn w' B vn v1 v2 qs th ou :=
  ⟨h.notes.same fun g e => hs g (h.notes.lt g e).1 (h.notes.lt g e).2, nrow_same h.r1 fun g e => hs g (h.r1.lt g e).1 (h.r1.lt g e).2, nrow_same h.r2 fun g e => hs g (h.r2.lt g e).1 (h.r2.lt g e).2, h.a1, h.a2, h.a3⟩
theorem hown_below {w w' : World} {B : Nat} {vn v1 v2 : Value} {qs : NV} {th ou : List ByteArray} (h : HearOwn w B vn v1 v2 qs th ou) (hb : Below w.heap.size w w') : HearOwn w' B vn v1 v2 qs th ou := hown_same h fun g _ e => hb.block g e
theorem marksM_none : ∀ (qs : NV) (k i : Nat), (mp qs i).ss = [] → (mp (marksM k qs) i).ss = []
  | [], k, i, h => by simpa [marksM] using h
  | q :: r, k, 0, h => by
    have : q.1.ss = [] := h
    simp [marksM, mp, markNt, this, marks]
  | q :: r, k, i + 1, h => marksM_none r _ i h
theorem reads_marks {w : World} {base k n : Nat} {v : Value} (h : w.ownsRow base 9 1 v n ((marks k n).map Value.string)) : Reads w v (marks k n) := Reads.of_row (base := base) (by rw [marks_length]; exact h)
theorem Blk.belowAt {W W' : World} {b B : Nat} {T : TypeId} {cs : Array Value} (h : Blk W b T cs) (hb : Below B W W') (hlt : b < B) : Blk W' b T cs := (hb.block b hlt).trans h
set_option maxRecDepth 100000 in
set_option maxHeartbeats 8000000 in
theorem walk (v vs : Value) (ts ss : List ByteArray) (f t m : ByteArray) (c n : Int) (h : Bool) (w : World) (hv : Reads w v ts) (hl : ts.length ≤ maxLen) (hsz : ∀ i, (tv ts i).size ≤ maxLen) (hs : Reads w vs ss) (hls : ss.length ≤ maxLen) (hss : ∀ i, (tv ss i).size ≤ maxLen) (hf : f.size ≤ maxLen) (ht : t.size ≤ maxLen) (hm : m.size ≤ maxLen) :
    Calls Try.prog 4 #[v, .agg #[.string f, .string t, .int .i64 c, .string m, .bool h, vs], .int .i64 n] w fun e w' => e = .returned (.bool true) ∧ Below w.heap.size w w' := by
  obtain ⟨a, ca, rfl, _⟩ := hv.form
  obtain ⟨b, cb, rfl, _⟩ := hs.form
  have hA := (Below.refl w.heap.size w).alloc (Nat.le_refl _) (.cells #[.string f, .string t, .int .i64 c, .string m, .bool h, .slice b ss.length cb] 32)
  have HSZ := hid (szStrs_any (.slice a ts.length ca) ts 1048576 _ (hv.below hA) hl hsz (by omega))
  have HV := hid hv
  have HSS := hid hs
  have HA := hid hA
  have HX := hid (Blk.new w 32 #[.string f, .string t, .int .i64 c, .string m, .bool h, .slice b ss.length cb])
  have HSN := hid fun (L : Nat) (W : World) (k : Reads W (.slice b ss.length cb) ss) (hL : L ≤ 1048576) => szNote_any f t m c h (.slice b ss.length cb) ss L W k hf ht hm hls hss hL
  clear hv hs hA hf ht hm hsz hss
  go_enter Try.func4, Try.ntmps4
  go_wp2_with fail
  refine HSZ.out.mono ?_
  rintro e w1 ⟨r, rfl, hr1, hr, rfl⟩
  by_cases hneg : r < 0
  · clear hr HSN
    go_wp2
    go_ret
    exact ⟨by simp, HA.out⟩
  · obtain ⟨hlen, hsz⟩ := hr (by omega)
    obtain ⟨L, rfl⟩ : ∃ L : Nat, r = (L : Int) := ⟨r.toNat, by omega⟩
    have HN := hid (HSN.out L _ (HSS.out.below HA.out) (by omega))
    clear hr HSN HSZ
    go_wp2_with fail
    refine HN.out.mono ?_
    rintro e w1 ⟨r2, rfl, hr2, hrr, hb1⟩
    have B1 := HA.out.trans (hb1.mono (by simp))
    have X1 := HX.out.below hb1
    by_cases hneg2 : r2 < 0
    · clear hrr hb1 X1
      go_wp2
      go_ret
      exact ⟨by simp, B1⟩
    · obtain ⟨q1, q2, q3, q4, q5⟩ := hrr (by omega)
      have s2 : ∀ i, (tv ss i).size ≤ 1048576 := fun i => by have := q5 i; omega
      have l2 : ss.length ≤ 1048576 := by omega
      have f1 : f.size ≤ 1048576 := by omega
      have f2 : t.size ≤ 1048576 := by omega
      have HT := hid fun (W : World) (k : Reads W (.slice a ts.length ca) ts) => toStrs_any (.slice a ts.length ca) ts W k hlen
      have HU := hid fun (W : World) (k : Reads W (.slice b ss.length cb) ss) => toNote_any f t m c h (.slice b ss.length cb) ss W k l2
      have HS := hid fun (va vb : Value) (W : World) (k1 : Reads W va ts) (k2 : Reads W vb ss) => specHear_any va ts f t m c h vb ss n W k1 hlen hsz k2 l2 s2
      have HM := hid fun (va vb : Value) (W : World) (k1 : Rdc W va ts) (k2 : Rdc W vb ss) => implHear_any va ts f t m c h vb ss n W k1 hlen hsz k2 l2 s2 f1 f2
      have HE := hid fun (va vb : Value) (W : World) (k1 : Reads W va ts) (k2 : Reads W vb ts) => eqStringS_any va vb ts W k1 k2 hl
      have HEN := hid fun (va vb : Value) (W : World) (k1 : Reads W va ss) (k2 : Reads W vb ss) => eqNote_any f t m c h va vb ss W k1 k2 hls
      have HL1 := hid hlen
      have HL2 := hid l2
      have HHL := hid fun (ns : List Nt) (th ou : List ByteArray) (k : HearR n ts ⟨f, t, c, m, h, ss⟩ ns th ou) => hear_len k hlen l2
      have hbd : Below w1.heap.size w1 w1.drew := below_drewN (Below.refl _ _) 1
      have X1d := X1.below hbd
      have HB1 := hid B1
      have HX1 := hid X1
      have hS0 : w1.drew.cell? ⟨w.heap.size, 0, none⟩ = some (.string f) ∧ w1.drew.cell? ⟨w.heap.size, 1, none⟩ = some (.string t) ∧ w1.drew.cell? ⟨w.heap.size, 2, none⟩ = some (.int .i64 c) ∧ w1.drew.cell? ⟨w.heap.size, 3, none⟩ = some (.string m) ∧ w1.drew.cell? ⟨w.heap.size, 4, none⟩ = some (.bool h) ∧ w1.drew.cell? ⟨w.heap.size, 5, none⟩ = some (.slice b ss.length cb) := ⟨X1d.cell 0, X1d.cell 1, X1d.cell 2, X1d.cell 3, X1d.cell 4, X1d.cell 5⟩
      have HB1d := hid (B1.trans (hbd.mono B1.size))
      clear hrr hb1 X1 B1 q1 q2 q3 q4 q5 s2 l2 f1 f2 hlen hsz X1d hbd hl hls HN
      go_wp2_with fail
      refine wp_region_held (S := fun w' => w'.cell? ⟨w.heap.size, 0, none⟩ = some (.string f) ∧ w'.cell? ⟨w.heap.size, 1, none⟩ = some (.string t) ∧ w'.cell? ⟨w.heap.size, 2, none⟩ = some (.int .i64 c) ∧ w'.cell? ⟨w.heap.size, 3, none⟩ = some (.string m) ∧ w'.cell? ⟨w.heap.size, 4, none⟩ = some (.bool h) ∧ w'.cell? ⟨w.heap.size, 5, none⟩ = some (.slice b ss.length cb)) (by kernel_rfl) ?_
      change wpAnyH _ _ _ _ _ _ _ _ (World.drew _)
      refine wpAnyH_take (i := 0) (v := .slice a ts.length ca) rfl (by kernel_rfl) (by kernel_rfl) (by kernel_rfl) (fun _ _ _ h => h) (.inl ⟨rfl, fun w' hS => by obtain ⟨s0, s1, s2, s3, s4, s5⟩ := hS; go_simp⟩) hS0 ?_
      refine wpAnyH_take (i := 2) (v := .agg #[.string f, .string t, .int .i64 c, .string m, .bool h, .slice b ss.length cb]) rfl (by kernel_rfl) (by kernel_rfl) (by kernel_rfl) (fun _ _ _ h => h) (.inl ⟨rfl, fun w' hS => by obtain ⟨s0, s1, s2, s3, s4, s5⟩ := hS; go_simp⟩) hS0 ?_
      refine wpAnyH_take (i := 4) (v := .int .i64 n) rfl (by kernel_rfl) (by kernel_rfl) (by kernel_rfl) (fun _ _ _ h => h) (.inl ⟨rfl, fun w' hS => by obtain ⟨s0, s1, s2, s3, s4, s5⟩ := hS; go_simp⟩) hS0 ?_
      refine held_one 1 (by kernel_rfl) (op_calls (f := 7) (args := #[.slice a ts.length ca]) rfl rfl (by go_simp) (HT.out _ (HV.out.below HB1d.out)) ?_)
      rintro e w1a ⟨v2, rfl, o1a, hb1a⟩
      have d1 : Below w1.heap.size w1 w1a := ⟨hb1a.os, hb1a.tape, hb1a.output, hb1a.size, hb1a.block⟩
      have X1a := HX1.out.below d1
      refine ⟨_, rfl, ⟨X1a.cell 0, X1a.cell 1, X1a.cell 2, X1a.cell 3, X1a.cell 4, X1a.cell 5⟩, ?_⟩
      refine held_one 3 (by kernel_rfl) (op_calls (f := 16) (args := #[.agg #[.string f, .string t, .int .i64 c, .string m, .bool h, .slice b ss.length cb]]) rfl rfl (by go_simp) (HU.out _ (HSS.out.below (HB1.out.trans (d1.mono HB1.out.size)))) ?_)
      rintro e w2 ⟨u2', rfl, o2, hb2⟩
      have d2 := d1.trans (hb2.mono d1.size)
      have o1 := Below.row hb2 o1a
      have X2 := HX1.out.below d2
      refine ⟨_, rfl, ⟨X2.cell 0, X2.cell 1, X2.cell 2, X2.cell 3, X2.cell 4, X2.cell 5⟩, ?_⟩
      refine held_one 5 (by kernel_rfl) (op_calls (f := 15) (args := #[v2, .agg #[.string f, .string t, .int .i64 c, .string m, .bool h, u2'], .int .i64 n]) rfl rfl (by go_simp) (HS.out _ _ _ (Reads.of_row o1) (Reads.of_row o2)) ?_)
      rintro e w3 ⟨vn3, v13, v23, ns, th, ou, rfl, hres, rn3, r13, r23, hb3⟩
      have D3 := d2.trans (hb3.mono d2.size)
      have B3 := HB1.out.trans (D3.mono HB1.out.size)
      have X3 := HX1.out.below D3
      have hS3 : w3.cell? ⟨w.heap.size, 0, none⟩ = some (.string f) ∧ w3.cell? ⟨w.heap.size, 1, none⟩ = some (.string t) ∧ w3.cell? ⟨w.heap.size, 2, none⟩ = some (.int .i64 c) ∧ w3.cell? ⟨w.heap.size, 3, none⟩ = some (.string m) ∧ w3.cell? ⟨w.heap.size, 4, none⟩ = some (.bool h) ∧ w3.cell? ⟨w.heap.size, 5, none⟩ = some (.slice b ss.length cb) := ⟨X3.cell 0, X3.cell 1, X3.cell 2, X3.cell 3, X3.cell 4, X3.cell 5⟩
      refine ⟨_, rfl, hS3, ?_⟩
      refine wpAnyH_take (i := 6) (v := .tuple #[vn3, v13, v23]) rfl (by kernel_rfl) (by kernel_rfl) (by kernel_rfl) (fun _ _ _ h => h) (.inl ⟨rfl, fun w' hS => by obtain ⟨s0, s1, s2, s3, s4, s5⟩ := hS; go_simp⟩) hS3 ?_
      refine wpAnyH_take (i := 7) (v := vn3) rfl (by kernel_rfl) (by kernel_rfl) (by kernel_rfl) (fun _ _ _ h => h) (.inl ⟨rfl, fun w' hS => by obtain ⟨s0, s1, s2, s3, s4, s5⟩ := hS; go_simp⟩) hS3 ?_
      refine wpAnyH_take (i := 8) (v := v13) rfl (by kernel_rfl) (by kernel_rfl) (by kernel_rfl) (fun _ _ _ h => h) (.inl ⟨rfl, fun w' hS => by obtain ⟨s0, s1, s2, s3, s4, s5⟩ := hS; go_simp⟩) hS3 ?_
      refine wpAnyH_take (i := 9) (v := v23) rfl (by kernel_rfl) (by kernel_rfl) (by kernel_rfl) (fun _ _ _ h => h) (.inl ⟨rfl, fun w' hS => by obtain ⟨s0, s1, s2, s3, s4, s5⟩ := hS; go_simp⟩) hS3 ?_
      refine wpAnyH_take (i := 10) (v := vn3) rfl (by kernel_rfl) (by kernel_rfl) (by kernel_rfl) (fun _ _ _ h => h) (.inl ⟨rfl, fun w' hS => by obtain ⟨s0, s1, s2, s3, s4, s5⟩ := hS; go_simp⟩) hS3 ?_
      refine wpAnyH_take (i := 11) (v := v13) rfl (by kernel_rfl) (by kernel_rfl) (by kernel_rfl) (fun _ _ _ h => h) (.inl ⟨rfl, fun w' hS => by obtain ⟨s0, s1, s2, s3, s4, s5⟩ := hS; go_simp⟩) hS3 ?_
      refine wpAnyH_take (i := 12) (v := v23) rfl (by kernel_rfl) (by kernel_rfl) (by kernel_rfl) (fun _ _ _ h => h) (.inl ⟨rfl, fun w' hS => by obtain ⟨s0, s1, s2, s3, s4, s5⟩ := hS; go_simp⟩) hS3 ?_
      refine wpAnyH_done (by kernel_rfl) ?_ _
      obtain ⟨n1, n2, n3, n4, n5⟩ := HHL.out _ _ _ hres
      have HRES := hid hres
      have HRN3 := hid rn3
      have HR13 := hid r13
      have HR23 := hid r23
      have HB3 := hid B3
      have HX3 := hid X3
      have HEQ := hid fun (va vb : Value) (W : World) (k1 : RdN W va ns) (k2 : RdN W vb ns) => eqNoteS_any va vb ns W k1 k2 (by unfold maxLen; omega) (fun i hi => by have := n3 i hi; unfold maxLen; omega)
      have HE1 := hid fun (va vb : Value) (W : World) (k1 : Reads W va th) (k2 : Reads W vb th) => eqStringS_any va vb th W k1 k2 (by unfold maxLen; omega)
      have HE2 := hid fun (va vb : Value) (W : World) (k1 : Reads W va ou) (k2 : Reads W vb ou) => eqStringS_any va vb ou W k1 k2 (by unfold maxLen; omega)
      have hw3 := B3.size
      clear hS0 hS3 o1 o1a o2 d1 d2 hb1a hb2 X1a X2 hb3 D3 B3 X3 hres rn3 r13 r23 n3
      have HT4 := hid (HT.out w3 (HV.out.below HB3.out))
      go_simp
      go_wp2_with fail
      refine HT4.out.mono ?_
      rintro e w4 ⟨v4, rfl, ho4, hb4⟩
      have B4 := HB3.out.trans (hb4.mono hw3)
      have X4 := HX3.out.below hb4
      have hs34 := hb4.size
      have x0 : w4.cell? ⟨w.heap.size, 0, none⟩ = some (.string f) := X4.cell 0
      have x1 : w4.cell? ⟨w.heap.size, 1, none⟩ = some (.string t) := X4.cell 1
      have x2 : w4.cell? ⟨w.heap.size, 2, none⟩ = some (.int .i64 c) := X4.cell 2
      have x3 : w4.cell? ⟨w.heap.size, 3, none⟩ = some (.string m) := X4.cell 3
      have x4 : w4.cell? ⟨w.heap.size, 4, none⟩ = some (.bool h) := X4.cell 4
      have x5 : w4.cell? ⟨w.heap.size, 5, none⟩ = some (.slice b ss.length cb) := X4.cell 5
      have HU5 := hid (HU.out w4 (HSS.out.below B4))
      have HO4 := hid ho4
      have HB4 := hid B4
      have HX4 := hid X4
      have HD4 := hid hb4
      clear ho4 hb4 B4 X4
      go_wp2_with fail
      refine HU5.out.mono ?_
      rintro e w5 ⟨v5, rfl, ho5, hb5⟩
      have hs45 := hb5.size
      have B5 := HB4.out.trans (hb5.mono HB4.out.size)
      have D5 := HD4.out.trans (hb5.mono hs34)
      have X5 := HX4.out.below hb5
      have O4 := Below.row hb5 HO4.out
      have hA5 := (Below.refl w5.heap.size w5).alloc (Nat.le_refl _) (.cells #[.string f, .string t, .int .i64 c, .string m, .bool h, v5] 25)
      have k4 := Rdc.of_row (Below.row hA5 O4)
      have k5 := Rdc.of_row (Below.row hA5 ho5)
      have HM6 := hid (HM.out v4 v5 _ k4 k5)
      have L4 : ∀ g, v4.ownBlock = some g → w3.heap.size ≤ g ∧ g < w4.heap.size := fun g e => HO4.out.lt g e
      have L5 : ∀ g, v5.ownBlock = some g → w4.heap.size + 3 ≤ g ∧ g < w5.heap.size := fun g e => ho5.lt g e
      have HL4 := hid L4
      have HL5 := hid L5
      have HO4b := hid O4
      have HO5 := hid ho5
      have HB5 := hid B5
      have HX5 := hid X5
      have HD5 := hid D5
      have HA5 := hid hA5
      obtain ⟨a5, c5, rfl, _⟩ := row_form ho5
      obtain ⟨a4, c4, rfl, _⟩ := row_form O4
      clear x0 x1 x2 x3 x4 x5 ho5 hb5 B5 D5 X5 O4 hA5 k4 k5 L4 L5
      go_wp2_with fail
      refine HM6.out.mono ?_
      rintro e w6 ⟨vn6, v16, v26, qs, th6, ou6, rfl, hres6, hso6, hb6⟩
      obtain ⟨hns, rfl, rfl⟩ := HRES.out.uniq hres6
      subst hns
      rw [World.size_alloc] at hso6
      have hs56 := hb6.size
      rw [World.size_alloc] at hs56
      have E6 := HA5.out.trans (hb6.mono (by simp))
      have D6 := HD5.out.trans (E6.mono (by omega))
      have B6 := HB5.out.trans (E6.mono HB5.out.size)
      have X6 := HX5.out.below E6
      have Y6 := (Blk.new w5 25 #[.string f, .string t, .int .i64 c, .string m, .bool h, .slice a5 ss.length c5]).below hb6
      have O46 := Below.row E6 HO4b.out
      have O56 := Below.row E6 HO5.out
      have HEQ6 := hid (HEQ.out vn6 vn3 w6 hso6.notes.rdn (HRN3.out.below D6))
      have HSO6 := hid hso6
      have HB6 := hid B6
      have HD6 := hid D6
      have HX6 := hid X6
      have HY6 := hid Y6
      have HO46 := hid O46
      have HO56 := hid O56
      obtain ⟨an6, cn6, hvn6⟩ := nrow_any hso6.notes.row
      obtain ⟨a16, c16, hv16, _⟩ := row_form hso6.r1
      obtain ⟨a26, c26, hv26, _⟩ := row_form hso6.r2
      subst hvn6 hv16 hv26
      clear hb6 hres6 hso6 E6 D6 B6 X6 Y6 O46 O56
      go_wp2_with fail
      refine HEQ6.out.mono ?_
      rintro e w7 ⟨rfl, hb7⟩
      have HEQ7 := hid (HE1.out _ _ w7 (Reads.of_row (Below.row hb7 HSO6.out.r1)) (HR13.out.below (HD6.out.trans (hb7.mono HD6.out.size))))
      have HF7 := hid hb7
      clear hb7
      go_wp2_with fail
      refine HEQ7.out.mono ?_
      rintro e w8 ⟨rfl, hb8⟩
      have F8 := HF7.out.trans (hb8.mono HF7.out.size)
      have HEQ8 := hid (HE2.out _ _ w8 (Reads.of_row (Below.row F8 HSO6.out.r2)) (HR23.out.below (HD6.out.trans (F8.mono HD6.out.size))))
      have HF8 := hid F8
      clear hb8 F8
      go_wp2_with fail
      refine HEQ8.out.mono ?_
      rintro e w9 ⟨rfl, hb9⟩
      have F9 := HF8.out.trans (hb9.mono HF8.out.size)
      have HT9 := hid (HT.out w9 (HV.out.below (HB6.out.trans (F9.mono HB6.out.size))))
      have HF9 := hid F9
      clear hb9 F9
      go_wp2_with fail
      refine HT9.out.mono ?_
      rintro e w10 ⟨v10, rfl, ho10, hb10⟩
      have F10 := HF9.out.trans (hb10.mono HF9.out.size)
      have HE10 := hid (HE.out _ _ w10 (Reads.of_row (Below.row F10 HO46.out)) (Reads.of_row ho10))
      have HF10 := hid F10
      obtain ⟨a10, c10, rfl, _⟩ := row_form ho10
      clear hb10 F10 ho10
      go_wp2_with fail
      refine HE10.out.mono ?_
      rintro e w11 ⟨rfl, hb11⟩
      have F11 := HF10.out.trans (hb11.mono HF10.out.size)
      have hbd : Below w11.heap.size w11 w11.drew := below_drewN (Below.refl _ _) 1
      have F11d := F11.trans (hbd.mono F11.size)
      have X11 := HX6.out.below F11d
      have Y11 := HY6.out.below F11d
      have hS11 : w11.drew.cell? ⟨w.heap.size, 0, none⟩ = some (.string f) ∧ w11.drew.cell? ⟨w.heap.size, 1, none⟩ = some (.string t) ∧ w11.drew.cell? ⟨w.heap.size, 2, none⟩ = some (.int .i64 c) ∧ w11.drew.cell? ⟨w.heap.size, 3, none⟩ = some (.string m) ∧ w11.drew.cell? ⟨w.heap.size, 4, none⟩ = some (.bool h) ∧ w11.drew.cell? ⟨w.heap.size, 5, none⟩ = some (.slice b ss.length cb) ∧ w11.drew.cell? ⟨w5.heap.size, 0, none⟩ = some (.string f) ∧ w11.drew.cell? ⟨w5.heap.size, 1, none⟩ = some (.string t) ∧ w11.drew.cell? ⟨w5.heap.size, 2, none⟩ = some (.int .i64 c) ∧ w11.drew.cell? ⟨w5.heap.size, 3, none⟩ = some (.string m) ∧ w11.drew.cell? ⟨w5.heap.size, 4, none⟩ = some (.bool h) ∧ w11.drew.cell? ⟨w5.heap.size, 5, none⟩ = some (.slice a5 ss.length c5) := ⟨X11.cell 0, X11.cell 1, X11.cell 2, X11.cell 3, X11.cell 4, X11.cell 5, Y11.cell 0, Y11.cell 1, Y11.cell 2, Y11.cell 3, Y11.cell 4, Y11.cell 5⟩
      have HU11 := hid (HU.out w11.drew (HSS.out.below (HB6.out.trans (F11d.mono HB6.out.size))))
      have HF11 := hid F11d
      clear hb11 F11 hbd F11d X11 Y11
      go_wp2_with fail
      refine wp_region_held (S := fun w' => w'.cell? ⟨w.heap.size, 0, none⟩ = some (.string f) ∧ w'.cell? ⟨w.heap.size, 1, none⟩ = some (.string t) ∧ w'.cell? ⟨w.heap.size, 2, none⟩ = some (.int .i64 c) ∧ w'.cell? ⟨w.heap.size, 3, none⟩ = some (.string m) ∧ w'.cell? ⟨w.heap.size, 4, none⟩ = some (.bool h) ∧ w'.cell? ⟨w.heap.size, 5, none⟩ = some (.slice b ss.length cb) ∧ w'.cell? ⟨w5.heap.size, 0, none⟩ = some (.string f) ∧ w'.cell? ⟨w5.heap.size, 1, none⟩ = some (.string t) ∧ w'.cell? ⟨w5.heap.size, 2, none⟩ = some (.int .i64 c) ∧ w'.cell? ⟨w5.heap.size, 3, none⟩ = some (.string m) ∧ w'.cell? ⟨w5.heap.size, 4, none⟩ = some (.bool h) ∧ w'.cell? ⟨w5.heap.size, 5, none⟩ = some (.slice a5 ss.length c5)) (by kernel_rfl) ?_
      change wpAnyH _ _ _ _ _ _ _ _ (World.drew _)
      refine wpAnyH_take (i := 0) (v := .agg #[.string f, .string t, .int .i64 c, .string m, .bool h, .slice a5 ss.length c5]) rfl (by kernel_rfl) (by kernel_rfl) (by kernel_rfl) (fun _ _ _ h => h) (.inl ⟨rfl, fun w' hS => by obtain ⟨s0, s1, s2, s3, s4, s5, s6, s7, s8, s9, s10, s11⟩ := hS; go_simp⟩) hS11 ?_
      refine wpAnyH_take (i := 1) (v := .agg #[.string f, .string t, .int .i64 c, .string m, .bool h, .slice b ss.length cb]) rfl (by kernel_rfl) (by kernel_rfl) (by kernel_rfl) (fun _ _ _ h => h) (.inl ⟨rfl, fun w' hS => by obtain ⟨s0, s1, s2, s3, s4, s5, s6, s7, s8, s9, s10, s11⟩ := hS; go_simp⟩) hS11 ?_
      refine held_one 2 (by kernel_rfl) (op_calls (f := 16) (args := #[.agg #[.string f, .string t, .int .i64 c, .string m, .bool h, .slice b ss.length cb]]) rfl rfl (by go_simp) HU11.out ?_)
      rintro e w12 ⟨v12, rfl, ho12, hb12⟩
      have F12 := HF11.out.trans (hb12.mono HF11.out.size)
      have X12 := HX6.out.below F12
      have Y12 := HY6.out.below F12
      refine ⟨_, rfl, ⟨X12.cell 0, X12.cell 1, X12.cell 2, X12.cell 3, X12.cell 4, X12.cell 5, Y12.cell 0, Y12.cell 1, Y12.cell 2, Y12.cell 3, Y12.cell 4, Y12.cell 5⟩, ?_⟩
      refine held_one 3 (by kernel_rfl) (op_calls (f := 9) (args := #[.agg #[.string f, .string t, .int .i64 c, .string m, .bool h, .slice a5 ss.length c5], .agg #[.string f, .string t, .int .i64 c, .string m, .bool h, v12]]) rfl rfl (by go_simp) (HEN.out _ _ w12 (Reads.of_row (Below.row F12 HO56.out)) (Reads.of_row ho12)) ?_)
      rintro e w13 ⟨rfl, hb13⟩
      have F13 := F12.trans (hb13.mono F12.size)
      have X13 := HX6.out.below F13
      have Y13 := HY6.out.below F13
      have hS13 : w13.cell? ⟨w.heap.size, 0, none⟩ = some (.string f) ∧ w13.cell? ⟨w.heap.size, 1, none⟩ = some (.string t) ∧ w13.cell? ⟨w.heap.size, 2, none⟩ = some (.int .i64 c) ∧ w13.cell? ⟨w.heap.size, 3, none⟩ = some (.string m) ∧ w13.cell? ⟨w.heap.size, 4, none⟩ = some (.bool h) ∧ w13.cell? ⟨w.heap.size, 5, none⟩ = some (.slice b ss.length cb) ∧ w13.cell? ⟨w5.heap.size, 0, none⟩ = some (.string f) ∧ w13.cell? ⟨w5.heap.size, 1, none⟩ = some (.string t) ∧ w13.cell? ⟨w5.heap.size, 2, none⟩ = some (.int .i64 c) ∧ w13.cell? ⟨w5.heap.size, 3, none⟩ = some (.string m) ∧ w13.cell? ⟨w5.heap.size, 4, none⟩ = some (.bool h) ∧ w13.cell? ⟨w5.heap.size, 5, none⟩ = some (.slice a5 ss.length c5) := ⟨X13.cell 0, X13.cell 1, X13.cell 2, X13.cell 3, X13.cell 4, X13.cell 5, Y13.cell 0, Y13.cell 1, Y13.cell 2, Y13.cell 3, Y13.cell 4, Y13.cell 5⟩
      refine ⟨_, rfl, hS13, ?_⟩
      refine wpAnyH_take (i := 4) (v := .bool false) rfl (by kernel_rfl) (by kernel_rfl) (by kernel_rfl) (fun _ _ _ h => h) (.inl ⟨rfl, fun w' hS => by obtain ⟨s0, s1, s2, s3, s4, s5, s6, s7, s8, s9, s10, s11⟩ := hS; go_simp⟩) hS13 ?_
      refine wpAnyH_done (by kernel_rfl) ?_ _
      have hs13 := F13.size
      have HMK := hid (markStringS_grown (.slice a4 ts.length c4) 1 _ ts w13 (Below.row F13 HO46.out) (by omega) (by have := HL1.out; omega))
      have HY13 := hid Y13
      have HX13 := hid X13
      have HF13 := hid F13
      clear hS11 hS13 ho12 hb12 F12 X12 Y12 hb13 F13 X13 Y13
      go_simp
      go_wp2_with fail
      refine HMK.out.mono ?_
      rintro e w14 ⟨rfl, _, hg14⟩
      have hs14 := hg14.size
      have Y14 := HY13.out.kept hg14 (fun e => by have := (HL4.out _ e.symm).2; omega)
      have X14 := HX13.out.kept hg14 (fun e => by have := (HL4.out _ e.symm).1; have := HX3.out.lt; omega)
      have O514 : w14.ownsRow _ 9 1 (.slice a5 ss.length c5) ss.length (ss.map Value.string) := nrow_same (Below.row HF13.out HO56.out) (fun g e => hg14.block g (by have := (HL5.out g e).2; omega) (fun e2 => by have h1 := (HL4.out g e2.symm).2; have h2 := (HL5.out g e).1; omega))
      have HMN := hid (markNote_any f t m c h (.slice a5 ss.length c5) (1 + ts.length) _ ss w14 O514 (by omega) (by have := HL1.out; have := HL2.out; omega))
      have y0 : w14.cell? ⟨w5.heap.size, 0, none⟩ = some (.string f) := Y14.cell 0
      have y1 : w14.cell? ⟨w5.heap.size, 1, none⟩ = some (.string t) := Y14.cell 1
      have y2 : w14.cell? ⟨w5.heap.size, 2, none⟩ = some (.int .i64 c) := Y14.cell 2
      have y3 : w14.cell? ⟨w5.heap.size, 3, none⟩ = some (.string m) := Y14.cell 3
      have y4 : w14.cell? ⟨w5.heap.size, 4, none⟩ = some (.bool h) := Y14.cell 4
      have y5 : w14.cell? ⟨w5.heap.size, 5, none⟩ = some (.slice a5 ss.length c5) := Y14.cell 5
      have HX14 := hid X14
      have HG14 := hid hg14
      clear Y14 X14 O514 hg14
      go_wp2_with fail
      refine HMN.out.mono ?_
      rintro e w15 ⟨rfl, hg15⟩
      have hs15 := hg15.size
      have hk15 : ¬ (((1 + ts.length + ss.length : Nat) : Int) < 0) := by omega
      have X15 := HX14.out.kept hg15 (fun e => by have := (HL5.out _ e.symm).1; omega)
      have bel14 : Below w3.heap.size w13 w14 := ⟨HG14.out.os, HG14.out.tape, HG14.out.output, HG14.out.size, fun k hk => HG14.out.block k (by omega) (fun e => by have := (HL4.out _ e.symm).1; omega)⟩
      have bel15 : Below w3.heap.size w14 w15 := ⟨hg15.os, hg15.tape, hg15.output, hg15.size, fun k hk => hg15.block k (by omega) (fun e => by have := (HL5.out _ e.symm).1; omega)⟩
      have D13 := HD6.out.trans (HF13.out.mono (by omega))
      have D15 := (D13.trans bel14).trans bel15
      have B15 := HB3.out.trans (D15.mono hw3)
      have S13 := hown_below HSO6.out HF13.out
      have S15 : HearOwn w15 (w5.heap.size + 1 + 1) (.slice an6 qs.length cn6) (.slice a16 th.length c16) (.slice a26 ou.length c26) qs th ou := hown_same (hown_same S13 fun g k1 k2 => HG14.out.block g (by omega) (fun e => by have := (HL4.out _ e.symm).2; omega)) fun g k1 k2 => hg15.block g (by omega) (fun e => by have := (HL5.out _ e.symm).2; omega)
      have HEQ15 := hid (HEQ.out _ vn3 w15 S15.notes.rdn (HRN3.out.below D15))
      have HS15 := hid S15
      have HD15 := hid D15
      have HB15 := hid B15
      have HX15 := hid X15
      clear y0 y1 y2 y3 y4 y5 hg15 X15 bel14 bel15 D13 D15 B15 S13 S15 HG14
      go_wp2_with fail
      refine HEQ15.out.mono ?_
      rintro e w16 ⟨rfl, hb16⟩
      have HEQ16 := hid (HE1.out _ _ w16 (Reads.of_row (Below.row hb16 HS15.out.r1)) (HR13.out.below (HD15.out.trans (hb16.mono HD15.out.size))))
      have HF16 := hid hb16
      clear hb16
      go_wp2_with fail
      refine HEQ16.out.mono ?_
      rintro e w17 ⟨rfl, hb17⟩
      have F17 := HF16.out.trans (hb17.mono HF16.out.size)
      have HEQ17 := hid (HE2.out _ _ w17 (Reads.of_row (Below.row F17 HS15.out.r2)) (HR23.out.below (HD15.out.trans (F17.mono HD15.out.size))))
      have HF17 := hid F17
      clear hb17 F17
      go_wp2_with fail
      refine HEQ17.out.mono ?_
      rintro e w18 ⟨rfl, hb18⟩
      have F18 := HF17.out.trans (hb18.mono HF17.out.size)
      have S18 := hown_below HS15.out F18
      have hs18 := F18.size
      have htm : totM qs = totN (qs.map Prod.fst) := rfl
      have HMQ := hid (markNoteS_any _ 1 _ qs w18 S18.notes (by omega) (by omega))
      have HF18 := hid F18
      have HS18 := hid S18
      have HTM := hid htm
      clear hb18 F18 S18 hk15 htm
      generalize totM qs = tm at *
      go_wp2_with fail
      refine HMQ.out.mono ?_
      rintro e w19 ⟨rfl, hmk19, hK19⟩
      have hs19 := hK19.size
      have r119 := nrow_same HS18.out.r1 (fun g e => hK19.block g (HS18.out.r1.lt g e).2 (HS18.out.a1 g e))
      have r219 := nrow_same HS18.out.r2 (fun g e => hK19.block g (HS18.out.r2.lt g e).2 (HS18.out.a2 g e))
      have htm := HTM.out
      have HMK2 := hid (markStringS_grown _ (1 + tm) _ th w19 r119 (by omega) (by omega))
      have bel19 : Below (w5.heap.size + 1) w18 w19 := hK19.below (fun g hg => by have := (HS18.out.notes.lt g hg).1; omega) (by omega)
      have HBL19 := hid bel19
      have HR2 := hid r219
      have HMQ19 := hid hmk19
      clear hK19 r119 r219 bel19 hmk19 htm
      go_wp2_with fail
      refine HMK2.out.mono ?_
      rintro e w20 ⟨rfl, hr20, hg20⟩
      have hs20 := hg20.size
      have a3 := HS18.out.a3
      have r220 := nrow_same HR2.out (fun g e => hg20.block g (HR2.out.lt g e).2 (fun e2 => a3 g e2.symm e))
      have htm := HTM.out
      have HMK3 := hid (markStringS_grown _ (1 + tm + th.length) _ ou w20 r220 (by omega) (by omega))
      have HR1 := hid hr20
      have HG20 := hid hg20
      clear hr20 hg20 a3 r220 htm
      go_wp2_with fail
      refine HMK3.out.mono ?_
      rintro e w21 ⟨rfl, hr21, hg21⟩
      have hs21 := hg21.size
      have a3 := HS18.out.a3
      have r121 := nrow_same HR1.out (fun g e => hg21.block g (HR1.out.lt g e).2 (fun e2 => a3 g e e2.symm))
      have nb : ∀ g, NBlk (.slice an6 qs.length cn6) (marksM 1 qs) g → NBlk (.slice an6 qs.length cn6) qs g := fun g hg => by
        rcases hg with hg | ⟨i, hi, hn, hg⟩
        · exact .inl hg
        · rw [marksM_len] at hi
          exact .inr ⟨i, hi, fun e => hn (marksM_none qs 1 i e), by rw [← mv_marks qs 1 i]; exact hg⟩
      have n21 : NotesOwn w21 _ (.slice an6 qs.length cn6) (marksM 1 qs) := (HMQ19.out.same fun g hg => HG20.out.block g (HMQ19.out.lt g hg).2 (fun e => HS18.out.a1 g e.symm (nb g hg))).same fun g hg => hg21.block g (by have := (HMQ19.out.lt g hg).2; omega) (fun e => HS18.out.a2 g e.symm (nb g hg))
      have rn21 := n21.rdn
      rw [marksM_fst] at rn21
      have bel20 : Below (w5.heap.size + 1) w19 w20 := ⟨HG20.out.os, HG20.out.tape, HG20.out.output, HG20.out.size, fun k hk => HG20.out.block k (by omega) (fun e => by have := (HS18.out.r1.lt _ e.symm).1; omega)⟩
      have bel21 : Below (w5.heap.size + 1) w20 w21 := ⟨hg21.os, hg21.tape, hg21.output, hg21.size, fun k hk => hg21.block k (by omega) (fun e => by have := (HS18.out.r2.lt _ e.symm).1; omega)⟩
      have bel18 : Below (w5.heap.size + 1) w15 w21 := (((HF18.out.mono (by omega)).trans HBL19.out).trans bel20).trans bel21
      have D21 := HD15.out.trans (bel18.mono (by omega))
      have B21 := HB15.out.trans (bel18.mono (by omega))
      have X21 := Blk.belowAt HX15.out bel18 (by omega)
      have htm := HTM.out
      have HH := hid fun (W : World) (k : RdN W (.slice an6 qs.length cn6) (marksN 1 (qs.map Prod.fst))) => heldNoteS_any (.slice an6 qs.length cn6) 1 (qs.map Prod.fst) W k (by omega) (by omega)
      rw [← htm] at HH
      have HH1 := hid fun (W : World) (k : Reads W (.slice a16 th.length c16) (marks (1 + tm) th.length)) => heldStringS_any (.slice a16 th.length c16) (1 + tm) th.length W k (by omega) (by omega)
      have HH2 := hid fun (W : World) (k : Reads W (.slice a26 ou.length c26) (marks (1 + tm + th.length) ou.length)) => heldStringS_any (.slice a26 ou.length c26) (1 + tm + th.length) ou.length W k (by omega) (by omega)
      have HRN := hid rn21
      have HRA := hid (reads_marks r121)
      have HRB := hid (reads_marks hr21)
      have HD21 := hid D21
      have HB21 := hid B21
      have HX21 := hid X21
      have HH21 := hid (HH.out w21 rn21)
      have m1 : ¬ (((1 + tm : Nat) : Int) < 0) := by omega
      have m2 : ¬ (((1 + tm + th.length : Nat) : Int) < 0) := by omega
      have m3 : ¬ (((1 + tm + th.length + ou.length : Nat) : Int) < 0) := by omega
      clear hr21 hg21 a3 r121 nb n21 rn21 bel20 bel21 bel18 D21 B21 X21 htm HG20 HMQ19
      go_wp2_with fail
      refine HH21.out.mono ?_
      rintro e w22 ⟨rfl, hb22⟩
      have HH22 := hid (HH1.out w22 (HRA.out.below hb22))
      have HF22 := hid hb22
      clear hb22
      go_wp2_with fail
      refine HH22.out.mono ?_
      rintro e w23 ⟨rfl, hb23⟩
      have F23 := HF22.out.trans (hb23.mono HF22.out.size)
      have HH23 := hid (HH2.out w23 (HRB.out.below F23))
      have HF23 := hid F23
      clear hb23 F23
      go_wp2_with fail
      refine HH23.out.mono ?_
      rintro e w24 ⟨rfl, hb24⟩
      have F24 := HF23.out.trans (hb24.mono HF23.out.size)
      have B24 := HB21.out.trans (F24.mono HB21.out.size)
      have X24 := HX21.out.below F24
      have hbd : Below w24.heap.size w24 w24.drew := below_drewN (Below.refl _ _) 1
      have X24d := X24.below hbd
      have hS24 : w24.drew.cell? ⟨w.heap.size, 0, none⟩ = some (.string f) ∧ w24.drew.cell? ⟨w.heap.size, 1, none⟩ = some (.string t) ∧ w24.drew.cell? ⟨w.heap.size, 2, none⟩ = some (.int .i64 c) ∧ w24.drew.cell? ⟨w.heap.size, 3, none⟩ = some (.string m) ∧ w24.drew.cell? ⟨w.heap.size, 4, none⟩ = some (.bool h) ∧ w24.drew.cell? ⟨w.heap.size, 5, none⟩ = some (.slice b ss.length cb) := ⟨X24d.cell 0, X24d.cell 1, X24d.cell 2, X24d.cell 3, X24d.cell 4, X24d.cell 5⟩
      have HB24d := hid (B24.trans (hbd.mono B24.size))
      have HB24 := hid B24
      have HF24 := hid F24
      have HX24 := hid X24
      clear hb24 F24 B24 X24 hbd X24d
      go_wp2_with fail
      refine wp_region_held (S := fun w' => w'.cell? ⟨w.heap.size, 0, none⟩ = some (.string f) ∧ w'.cell? ⟨w.heap.size, 1, none⟩ = some (.string t) ∧ w'.cell? ⟨w.heap.size, 2, none⟩ = some (.int .i64 c) ∧ w'.cell? ⟨w.heap.size, 3, none⟩ = some (.string m) ∧ w'.cell? ⟨w.heap.size, 4, none⟩ = some (.bool h) ∧ w'.cell? ⟨w.heap.size, 5, none⟩ = some (.slice b ss.length cb)) (by kernel_rfl) ?_
      change wpAnyH _ _ _ _ _ _ _ _ (World.drew _)
      refine wpAnyH_take (i := 0) (v := .slice a ts.length ca) rfl (by kernel_rfl) (by kernel_rfl) (by kernel_rfl) (fun _ _ _ h => h) (.inl ⟨rfl, fun w' hS => by obtain ⟨s0, s1, s2, s3, s4, s5⟩ := hS; go_simp⟩) hS24 ?_
      refine wpAnyH_take (i := 2) (v := .agg #[.string f, .string t, .int .i64 c, .string m, .bool h, .slice b ss.length cb]) rfl (by kernel_rfl) (by kernel_rfl) (by kernel_rfl) (fun _ _ _ h => h) (.inl ⟨rfl, fun w' hS => by obtain ⟨s0, s1, s2, s3, s4, s5⟩ := hS; go_simp⟩) hS24 ?_
      refine wpAnyH_take (i := 4) (v := .int .i64 n) rfl (by kernel_rfl) (by kernel_rfl) (by kernel_rfl) (fun _ _ _ h => h) (.inl ⟨rfl, fun w' hS => by obtain ⟨s0, s1, s2, s3, s4, s5⟩ := hS; go_simp⟩) hS24 ?_
      refine held_one 1 (by kernel_rfl) (op_calls (f := 7) (args := #[.slice a ts.length ca]) rfl rfl (by go_simp) (HT.out _ (HV.out.below HB24d.out)) ?_)
      rintro e w24a ⟨v25, rfl, o1a, hb24a⟩
      have d24 : Below w24.heap.size w24 w24a := ⟨hb24a.os, hb24a.tape, hb24a.output, hb24a.size, hb24a.block⟩
      have X24a := HX24.out.below d24
      refine ⟨_, rfl, ⟨X24a.cell 0, X24a.cell 1, X24a.cell 2, X24a.cell 3, X24a.cell 4, X24a.cell 5⟩, ?_⟩
      refine held_one 3 (by kernel_rfl) (op_calls (f := 16) (args := #[.agg #[.string f, .string t, .int .i64 c, .string m, .bool h, .slice b ss.length cb]]) rfl rfl (by go_simp) (HU.out _ (HSS.out.below (HB24.out.trans (d24.mono HB24.out.size)))) ?_)
      rintro e w25 ⟨u25', rfl, o2, hb25⟩
      have d25 := d24.trans (hb25.mono d24.size)
      have o1 := Below.row hb25 o1a
      have X25 := HX24.out.below d25
      refine ⟨_, rfl, ⟨X25.cell 0, X25.cell 1, X25.cell 2, X25.cell 3, X25.cell 4, X25.cell 5⟩, ?_⟩
      refine held_one 5 (by kernel_rfl) (op_calls (f := 17) (args := #[v25, .agg #[.string f, .string t, .int .i64 c, .string m, .bool h, u25'], .int .i64 n]) rfl rfl (by go_simp) (HM.out _ _ _ (Rdc.of_row o1) (Rdc.of_row o2)) ?_)
      rintro e w26 ⟨vn26, v126, v226, qs26, th26, ou26, rfl, hres26, hso26, hb26⟩
      have F26 := d25.trans (hb26.mono d25.size)
      have X26 := HX24.out.below F26
      have hS26 : w26.cell? ⟨w.heap.size, 0, none⟩ = some (.string f) ∧ w26.cell? ⟨w.heap.size, 1, none⟩ = some (.string t) ∧ w26.cell? ⟨w.heap.size, 2, none⟩ = some (.int .i64 c) ∧ w26.cell? ⟨w.heap.size, 3, none⟩ = some (.string m) ∧ w26.cell? ⟨w.heap.size, 4, none⟩ = some (.bool h) ∧ w26.cell? ⟨w.heap.size, 5, none⟩ = some (.slice b ss.length cb) := ⟨X26.cell 0, X26.cell 1, X26.cell 2, X26.cell 3, X26.cell 4, X26.cell 5⟩
      refine ⟨_, rfl, hS26, ?_⟩
      refine wpAnyH_take (i := 6) (v := .tuple #[vn26, v126, v226]) rfl (by kernel_rfl) (by kernel_rfl) (by kernel_rfl) (fun _ _ _ h => h) (.inl ⟨rfl, fun w' hS => by obtain ⟨s0, s1, s2, s3, s4, s5⟩ := hS; go_simp⟩) hS26 ?_
      refine wpAnyH_take (i := 7) (v := vn26) rfl (by kernel_rfl) (by kernel_rfl) (by kernel_rfl) (fun _ _ _ h => h) (.inl ⟨rfl, fun w' hS => by obtain ⟨s0, s1, s2, s3, s4, s5⟩ := hS; go_simp⟩) hS26 ?_
      refine wpAnyH_take (i := 8) (v := v126) rfl (by kernel_rfl) (by kernel_rfl) (by kernel_rfl) (fun _ _ _ h => h) (.inl ⟨rfl, fun w' hS => by obtain ⟨s0, s1, s2, s3, s4, s5⟩ := hS; go_simp⟩) hS26 ?_
      refine wpAnyH_take (i := 9) (v := v226) rfl (by kernel_rfl) (by kernel_rfl) (by kernel_rfl) (fun _ _ _ h => h) (.inl ⟨rfl, fun w' hS => by obtain ⟨s0, s1, s2, s3, s4, s5⟩ := hS; go_simp⟩) hS26 ?_
      refine wpAnyH_take (i := 10) (v := vn26) rfl (by kernel_rfl) (by kernel_rfl) (by kernel_rfl) (fun _ _ _ h => h) (.inl ⟨rfl, fun w' hS => by obtain ⟨s0, s1, s2, s3, s4, s5⟩ := hS; go_simp⟩) hS26 ?_
      refine wpAnyH_take (i := 11) (v := v126) rfl (by kernel_rfl) (by kernel_rfl) (by kernel_rfl) (fun _ _ _ h => h) (.inl ⟨rfl, fun w' hS => by obtain ⟨s0, s1, s2, s3, s4, s5⟩ := hS; go_simp⟩) hS26 ?_
      refine wpAnyH_take (i := 12) (v := v226) rfl (by kernel_rfl) (by kernel_rfl) (by kernel_rfl) (fun _ _ _ h => h) (.inl ⟨rfl, fun w' hS => by obtain ⟨s0, s1, s2, s3, s4, s5⟩ := hS; go_simp⟩) hS26 ?_
      refine wpAnyH_done (by kernel_rfl) ?_ _
      obtain ⟨hns26, rfl, rfl⟩ := HRES.out.uniq hres26
      have G26 := HF24.out.trans (F26.mono HF24.out.size)
      have D26 := HD21.out.trans (G26.mono HD21.out.size)
      have rdn26 := hso26.notes.rdn
      rw [← hns26] at rdn26
      have HEQ26 := hid (HEQ.out vn26 vn3 w26 rdn26 (HRN3.out.below D26))
      have HSO26 := hid hso26
      have HD26 := hid D26
      have HG26 := hid G26
      obtain ⟨an26, cn26, hvn26⟩ := nrow_any hso26.notes.row
      obtain ⟨a126, c126, hv126, _⟩ := row_form hso26.r1
      obtain ⟨a226, c226, hv226, _⟩ := row_form hso26.r2
      subst hvn26 hv126 hv226
      clear hS24 hS26 o1 o1a o2 d24 d25 hb24a hb25 X24a X25 hb26 hres26 hso26 F26 X26 G26 D26 rdn26 hns26
      go_simp
      go_wp2_with fail
      refine HEQ26.out.mono ?_
      rintro e w27 ⟨rfl, hb27⟩
      have HEQ27 := hid (HE1.out _ _ w27 (Reads.of_row (Below.row hb27 HSO26.out.r1)) (HR13.out.below (HD26.out.trans (hb27.mono HD26.out.size))))
      have HF27 := hid hb27
      clear hb27
      go_wp2_with fail
      refine HEQ27.out.mono ?_
      rintro e w28 ⟨rfl, hb28⟩
      have F28 := HF27.out.trans (hb28.mono HF27.out.size)
      have HEQ28 := hid (HE2.out _ _ w28 (Reads.of_row (Below.row F28 HSO26.out.r2)) (HR23.out.below (HD26.out.trans (F28.mono HD26.out.size))))
      have HF28 := hid F28
      clear hb28 F28
      go_wp2_with fail
      refine HEQ28.out.mono ?_
      rintro e w29 ⟨rfl, hb29⟩
      have F29 := HF28.out.trans (hb29.mono HF28.out.size)
      have G29 := HG26.out.trans (F29.mono HG26.out.size)
      have HH29 := hid (HH.out w29 (HRN.out.below G29))
      have HG29 := hid G29
      clear hb29 F29 G29
      go_wp2_with fail
      refine HH29.out.mono ?_
      rintro e w30 ⟨rfl, hb30⟩
      have G30 := HG29.out.trans (hb30.mono HG29.out.size)
      have HH30 := hid (HH1.out w30 (HRA.out.below G30))
      have HG30 := hid G30
      clear hb30 G30
      go_wp2_with fail
      refine HH30.out.mono ?_
      rintro e w31 ⟨rfl, hb31⟩
      have G31 := HG30.out.trans (hb31.mono HG30.out.size)
      have HH31 := hid (HH2.out w31 (HRB.out.below G31))
      have HG31 := hid G31
      clear hb31 G31
      go_wp2_with fail
      refine HH31.out.mono ?_
      rintro e w32 ⟨rfl, hb32⟩
      have G32 := HG31.out.trans (hb32.mono HG31.out.size)
      have HB32 := hid (HB21.out.trans (G32.mono HB21.out.size))
      clear hb32 G32
      go_wp2
      go_ret
      exact ⟨by simp, HB32.out⟩
theorem laid : laidOutB Try.prog = true := by kernel_rfl

set_option maxRecDepth 100000 in
theorem lifted (os : Os) (started : os.Started) (H : Type) (enc : TypeId × Value → H) :
    ReturnsInHanded {} Try.checked os 4 .any (Rows.fnExactHearSpec.pre6 enc Try.prog Try.f4 Rows.fnExactHearRow.domain false) (Rows.fnExactHearSpec.post enc Try.prog Try.f4 false true false false) := by
  refine returnsInHanded_of_change (C := Try.checked) own started (by kernel_rfl) Try.func4
    (ChangeSpec.witness6 (enc := enc) (C := Try.checked) false ⟨#[], #[.slice none 0 0, .agg #[.string ByteArray.empty, .string ByteArray.empty, .int .i64 0, .string ByteArray.empty, .bool false, .slice none 0 0], .int .i64 0], []⟩ 8 (by kernel_rfl) (by kernel_rfl) (by kernel_rfl) (by kernel_rfl)) ?_
  intro W base args ds gs before hval0 hW hcnd _
  have hval : ∀ (j : Nat) t v, Try.f4.params[j]? = some t → args[j]? = some v → Value.okWide Try.prog W .any base t v := hval0
  have hW' := hW
  obtain ⟨p, q, hA0, hV, rfl, hfz, hnd⟩ := hW
  have hA : DataW.TrodAll enc Try.prog W 0 (fun _ => true) true Try.f4.params.toList args.toList ds p := hA0
  rw [Try.params4] at hA hval
  obtain ⟨v0, vs0, d0, ds0, p0, q0, hargs, rfl, rfl, h0, r0⟩ := trodAll_cons hA
  obtain ⟨v1, vs1, d1, ds1, p1, q1, rfl, rfl, rfl, h1, r1⟩ := trodAll_cons r0
  obtain ⟨v2, vs2, d2, ds2, p2, q2, rfl, rfl, rfl, h2, r2⟩ := trodAll_cons r1
  obtain ⟨rfl, rfl, rfl⟩ := trodAll_nil r2
  obtain rfl : args = #[v0, v1, v2] := by cases args; simp_all
  obtain ⟨rfl, rfl⟩ := trodVars_none hV
  have k0 := h0
  have lt0 : ∀ x ∈ p0, x.block < W.heap.size := by obtain ⟨m, hm⟩ := k0; exact DataW.trod_lt m _ _ _ hm
  have k1 := h1
  have lt1 : ∀ x ∈ p1, x.block < W.heap.size := by obtain ⟨m, hm⟩ := k1; exact DataW.trod_lt m _ _ _ hm
  obtain ⟨ts, w0, hm0, hs0⟩ : ∃ ts, Reads W v0 ts ∧ ts.length ≤ maxLen ∧ ∀ i, (tv ts i).size ≤ maxLen := by
    obtain ⟨a0, len0, cap0, rfl⟩ := okWide_slice Try.underlying22 (hval 0 22 v0 rfl rfl)
    obtain ⟨fuel, hf⟩ := h0
    exact open_sums hf
  obtain ⟨f, t, m, c, h, vs, ss, rfl, rs, wf, wt, wm, ls, zs⟩ := open_note (hval 1 32 v1 rfl rfl) h1
  obtain ⟨a2, rfl, rfl, rfl, w2⟩ := open_int Try.underlying3 (hval 2 3 v2 rfl rfl) h2
  clear hA0 hval0
  refine (walk _ _ ts ss f t m c a2 h W w0 hm0 hs0 rs ls zs wf wt wm).mono fun e W' ⟨he, bel⟩ => ?_
  subst he
  exact ⟨_, rfl, _, _, _, [], _, [], hW', trodAll_mk1 (shut_bool Try.underlying4 _), (trodAll_cons_mk (Below.trod laid (by kernel_rfl) (of_decide_eq_true (by kernel_rfl)) k0 bel lt0) (trodAll_cons_mk (Below.trod laid (by kernel_rfl) (of_decide_eq_true (by kernel_rfl)) k1 bel lt1) (trodAll_cons_mk (shut_int Try.underlying3 w2) trodAll_mk0))), rfl, bel.frame _, fun h => by cases h⟩

theorem over : Rows.fnExactHearRow.holds Try.pinned (OpenSpec.ofChange Rows.fnExactHearSpec) :=
  OpenClaim.holds_of_wide 4 Try.f4 rfl rfl rfl rfl rfl rfl rfl ⟨rfl, rfl, rfl, rfl, rfl⟩ rfl rfl rfl rfl rfl (by kernel_rfl) Try.func4 (by kernel_rfl)
    (of_decide_eq_true (by kernel_rfl)) (by unfold Func.isWrapper; first | (rw [if_pos (by decide +kernel)]; kernel_rfl) | (rw [if_neg (by decide +kernel)]; exact ⟨rfl, rfl⟩))
    (fun os started H enc _ => lifted os started H enc)
end Go.Proofs.Ytnpfnafalkejnaa.fnExactHear
namespace Go.Proofs.Ytnpfnafalkejnaa
theorem fnExactHear_holds : Rows.FnExactHearSaid := fnExactHear.over
#print axioms fnExactHear_holds
end Go.Proofs.Ytnpfnafalkejnaa
