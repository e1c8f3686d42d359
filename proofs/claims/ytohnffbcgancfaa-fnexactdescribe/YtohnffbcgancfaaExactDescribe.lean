/- laws.FnExactDescribe returns true at every argument. -/
import Derived.Test.YtohnffbcgancfaaDescSpec
import Derived.Test.YtohnffbcgancfaaDescImpl
import Derived.Test.YtohnffbcgancfaaMark2
import Derived.Below
import Derived.WalkKit
import Derived.ProofKit
import Derived.OpenShut
import Derived.ShutString
namespace Go.Proofs.Ytohnffbcgancfaa.fnExactDescribe
open Go.ChangeShapes Go.WideShapes Go.ChangeAt Go.RowKit
open Go.ChangeMaps (open_string shut_string)
set_option linter.unusedVariables false

theorem own : ownKnob Try.prog.godebug = none := by kernel_rfl

theorem lbox_new (w : World) (n : Int) (v : Value) : LBox (w.alloc (.cells #[.int .i64 n, v] 42)) w.heap.size n v := World.alloc_heap_new w _

set_option maxRecDepth 100000 in
set_option maxHeartbeats 1000000 in
theorem walk (a0 : ByteArray) (a1 : Int) (w0 : a0.size ≤ maxLen) (w : World) :
    Calls Try.prog 9 #[.string a0, .int .i64 a1] w fun e w' => e = .returned (.bool true) ∧ Below w.heap.size w w' := by
  have HS := hid fun W => specDescribe_any a0 a1 W w0
  have HI := hid fun W => implDescribe_any a0 a1 W
  have hn := descS_len a0 a1
  generalize descS a0 a1 = ps at *
  generalize descN a0 a1 = m at *
  have hml : ps.length ≤ maxLen := by unfold maxLen; omega
  by_cases hlt : 1048576 < a0.size
  · go_enter Try.func9, Try.ntmps9
    go_wp2
    go_ret
    exact ⟨by simp, Below.refl _ _⟩
  · go_enter Try.func9, Try.ntmps9
    go_wp2_with fail
    refine (HS.out _).mono ?_
    rintro e w1 ⟨v1, rfl, ho1, hb1⟩
    obtain ⟨s1, c1, rfl, _⟩ := row_form ho1
    go_wp2_with fail
    refine (HI.out _).mono ?_
    rintro e w2 ⟨v2, rfl, ho2, hb2⟩
    obtain ⟨s2, c2, rfl, hs2⟩ := row_form ho2
    have x1 := (lbox_new w1 m (.slice s1 ps.length c1)).below hb2
    have r1 := (Reads.of_row (ho1.alloc (.cells #[.int .i64 m, .slice s1 ps.length c1] 42))).below hb2
    have x12 := x1.alloc (.cells #[.int .i64 m, .slice s2 ps.length c2] 42)
    have x22 := lbox_new w2 m (.slice s2 ps.length c2)
    have d0 := x12.c0
    have d1 := x12.c1
    have HX1 := hid x1
    have HX22 := hid x22
    have HR1 := hid r1
    have HO1 := hid ho1
    have HO2 := hid ho2
    have HB1 := hid hb1
    have HB2 := hid hb2
    clear x1 x12 x22 r1 ho1 ho2 hb1 hb2
    go_wp2_with fail
    have o1 := Below.row HB2.out (HO1.out.alloc (.cells #[.int .i64 m, .slice s1 ps.length c1] 42))
    refine (eqList_any m _ _ ps _ (Reads.of_row (HO2.out.alloc _)) (Reads.of_row (o1.alloc _)) hml).mono ?_
    rintro e w3 ⟨rfl, hb3⟩
    have x13 := (HX1.out.alloc (.cells #[.int .i64 m, .slice s2 ps.length c2] 42)).below hb3
    have x23 := HX22.out.below hb3
    have o13 := Below.row hb3 (o1.alloc _)
    have o23 := Below.row hb3 (HO2.out.alloc _)
    have HB3 := hid hb3
    have e0 := x23.c0
    have e1 := x23.c1
    have lt1 : ∀ g, (Value.slice s1 ps.length c1).ownBlock = some g → g < w1.heap.size := fun g e => (HO1.out.lt g e).2
    have lt2 : ∀ g, (Value.slice s2 ps.length c2).ownBlock = some g → w1.heap.size + 1 ≤ g ∧ g < w2.heap.size := fun g e => by have := HO2.out.lt g e; rwa [World.size_alloc] at this
    have LT := hid lt1
    have LT2 := hid lt2
    have HX13 := hid x13
    have HX23 := hid x23
    have HO13 := hid o13
    have hm3 := markList_grown m _ 1 _ ps w3 o23 (by omega) (by omega)
    change Calls Try.prog 30 #[.agg #[.int .i64 m, .slice s2 ps.length c2], .int .i64 1] _ _ at hm3
    have HM := hid hm3
    obtain ⟨N, hN⟩ : ∃ N, N = 1 + ps.length := ⟨_, rfl⟩
    rw [← hN] at HM
    have HN := hid hN
    clear hN hm3 o23 o13 x23 x13 hb3 o1 lt1 lt2 d0 d1
    go_wp2_with fail
    refine HM.out.mono ?_
    rintro e w4 ⟨rfl, ho4, hg4⟩
    have x14 := HX13.out.kept hg4 (fun e => by have := (LT2.out _ e.symm).1; omega)
    have x24 := HX23.out.kept hg4 (fun e => by have := (LT2.out _ e.symm).2; omega)
    have o14 := HO13.out.kept hg4 (by
      cases h : (Value.slice s1 ps.length c1).ownBlock with
      | none => exact .inl rfl
      | some g => exact .inr fun e => by have := LT.out g h; have := (LT2.out g e.symm).1; omega)
    have m4 : Reads w4 (.slice s2 ps.length c2) (marks 1 ps.length) := Reads.of_row (base := (w1.alloc (.cells #[.int .i64 m, .slice s1 ps.length c1] 42)).heap.size) (by rw [marks_length]; exact ho4)
    have hb4 : Below w.heap.size w w4 := (HB1.out.trans (((Below.refl w.heap.size w1).alloc HB1.out.size _).trans ((HB2.out.mono (by have := HB1.out.size; simp; omega)).trans (((Below.refl w.heap.size w2).alloc (by have := HB1.out.size; have := HB2.out.size; simp at this; omega) _).trans (HB3.out.mono (by have := HB1.out.size; have := HB2.out.size; simp at this; simp; omega)))))).grown hg4 (by have := HB1.out.size; have := HB2.out.size; have := HB3.out.size; simp at *; omega) (fun g e => by have := (LT2.out g e).1; have := HB1.out.size; omega)
    have HB4 := hid hb4
    have HH := hid fun (W : World) (h : Reads W (.slice s2 ps.length c2) (marks 1 ps.length)) => heldList_any m (.slice s2 ps.length c2) 1 ps.length W h (by omega) (by omega)
    rw [← HN.out] at HH
    change Hid (∀ (W : World) (_ : Reads W (.slice s2 ps.length c2) (marks 1 ps.length)), Calls Try.prog 31 #[.agg #[.int .i64 m, .slice s2 ps.length c2], .int .i64 1] W fun e w' => e = .returned (.int .i64 N) ∧ Below W.heap.size W w') at HH
    have f0 := x24.c0
    have f1 := x24.c1
    have HX14 := hid x14
    have HX24 := hid x24
    have HO14 := hid o14
    have HM4 := hid m4
    clear x14 x24 o14 m4 hb4 ho4 hg4 e0 e1 HB1 HB2 HB3 HX1 HX22 HX13 HX23 HO13 HM HO1 HO2 HR1 LT LT2
    go_wp2_with fail
    refine (HH.out _ HM4.out).mono ?_
    rintro e w5 ⟨rfl, hb5⟩
    have HX15 := hid (HX14.out.below hb5)
    have HX25 := hid (HX24.out.below hb5)
    have HO15 := hid (Below.row hb5 HO14.out)
    have HM5 := hid (HM4.out.below hb5)
    have HB5 := hid (HB4.out.trans (hb5.mono HB4.out.size))
    clear hb5 HX14 HX24 HO14 HM4 HB4 f0 f1
    go_wp2_with fail
    refine (HI.out _).mono ?_
    rintro e w6 ⟨v3, rfl, ho6, hb6⟩
    obtain ⟨s3, c3, rfl, _⟩ := row_form ho6
    have HX16 := hid (HX15.out.below hb6)
    have HX26 := hid (HX25.out.below hb6)
    have HO16 := hid (Below.row hb6 HO15.out)
    have HM6 := hid (HM5.out.below hb6)
    have HB6 := hid (HB5.out.trans (hb6.mono HB5.out.size))
    have HO36 := hid ho6
    have x16 := HX16.out.alloc (.cells #[.int .i64 m, .slice s3 ps.length c3] 42)
    have d0 := x16.c0
    have d1 := x16.c1
    clear hb6 HX15 HX25 HO15 HM5 HB5 ho6 x16
    go_wp2_with fail
    refine (eqList_any m _ _ ps _ (Reads.of_row (HO36.out.alloc _)) (Reads.of_row (HO16.out.alloc _)) hml).mono ?_
    rintro e w7 ⟨rfl, hb7⟩
    have hb67 : Below w6.heap.size w6 w7 := ((Below.refl w6.heap.size w6).alloc (Nat.le_refl _) _).trans (hb7.mono (by simp))
    have x27 := HX26.out.below hb67
    have HM7 := hid (HM6.out.below hb67)
    have HB7 := hid (HB6.out.trans (hb67.mono HB6.out.size))
    have g0 := x27.c0
    have g1 := x27.c1
    clear d0 d1 hb7 hb67 x27 HX16 HX26 HO16 HM6 HB6 HO36
    go_wp2_with fail
    refine (HH.out _ HM7.out).mono ?_
    rintro e w8 ⟨rfl, hb8⟩
    have HB8 := hid (HB7.out.trans (hb8.mono HB7.out.size))
    clear hb8
    go_wp2
    go_ret
    exact ⟨by simp, HB8.out⟩

set_option maxRecDepth 100000 in
theorem lifted (os : Os) (started : os.Started) (H : Type) (enc : TypeId × Value → H) :
    ReturnsInHanded {} Try.checked os 9 .any (Rows.fnExactDescribeSpec.pre6 enc Try.prog Try.f9 Rows.fnExactDescribeRow.domain false) (Rows.fnExactDescribeSpec.post enc Try.prog Try.f9 false true false false) := by
  refine returnsInHanded_of_change (C := Try.checked) own started (by kernel_rfl) Try.func9
    (ChangeSpec.witness6 (enc := enc) (C := Try.checked) false ⟨#[], #[.string ByteArray.empty, .int .i64 0], []⟩ 8 (by kernel_rfl) (by kernel_rfl) (by kernel_rfl) (by kernel_rfl)) ?_
  intro W base args ds gs before hval0 hW hcnd _
  have hval : ∀ (j : Nat) t v, Try.f9.params[j]? = some t → args[j]? = some v → Value.okWide Try.prog W .any base t v := hval0
  have hW' := hW
  obtain ⟨p, q, hA0, hV, rfl, hfz, hnd⟩ := hW
  have hA : DataW.TrodAll enc Try.prog W 0 (fun _ => true) true Try.f9.params.toList args.toList ds p := hA0
  rw [Try.params9] at hA hval
  obtain ⟨v0, vs0, d0, ds0, p0, q0, hargs, rfl, rfl, h0, r0⟩ := trodAll_cons hA
  obtain ⟨v1, vs1, d1, ds1, p1, q1, rfl, rfl, rfl, h1, r1⟩ := trodAll_cons r0
  obtain ⟨rfl, rfl, rfl⟩ := trodAll_nil r1
  obtain rfl : args = #[v0, v1] := by cases args; simp_all
  obtain ⟨rfl, rfl⟩ := trodVars_none hV
  obtain ⟨a0, rfl, rfl, rfl, w0⟩ := open_string Try.underlying9 (hval 0 9 v0 rfl rfl) h0
  obtain ⟨a1, rfl, rfl, rfl, w1⟩ := open_int Try.underlying3 (hval 1 3 v1 rfl rfl) h1
  clear hA0 hval0
  simp only [List.append_nil] at hW'
  refine (walk a0 a1 w0 W).mono fun e W' ⟨he, bel⟩ => ?_
  subst he
  exact ⟨_, rfl, _, _, _, [], _, [], hW', trodAll_mk1 (shut_bool Try.underlying4 _), (trodAll_cons_mk (shut_string Try.underlying9 w0) (trodAll_cons_mk (shut_int Try.underlying3 w1) trodAll_mk0)), rfl, bel.frame _, fun h => by cases h⟩

theorem over : Rows.fnExactDescribeRow.holds Try.pinned (OpenSpec.ofChange Rows.fnExactDescribeSpec) :=
  OpenClaim.holds_of_wide 9 Try.f9 rfl rfl rfl rfl rfl rfl rfl ⟨rfl, rfl, rfl, rfl, rfl⟩ rfl rfl rfl rfl rfl (by kernel_rfl) Try.func9 (by kernel_rfl)
    (of_decide_eq_true (by kernel_rfl)) (by unfold Func.isWrapper; first | (rw [if_pos (by decide +kernel)]; kernel_rfl) | (rw [if_neg (by decide +kernel)]; exact ⟨rfl, rfl⟩))
    (fun os started H enc _ => lifted os started H enc)
end Go.Proofs.Ytohnffbcgancfaa.fnExactDescribe
namespace Go.Proofs.Ytohnffbcgancfaa
theorem fnExactDescribe_holds : Rows.FnExactDescribeSaid := fnExactDescribe.over
#print axioms fnExactDescribe_holds
end Go.Proofs.Ytohnffbcgancfaa
