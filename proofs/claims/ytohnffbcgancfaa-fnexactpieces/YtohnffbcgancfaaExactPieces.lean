/- laws.FnExactPieces returns true at every argument. -/
import Derived.Test.YtohnffbcgancfaaPieces
import Derived.Test.YtohnffbcgancfaaMark
import Derived.Below
import Derived.WalkKit
import Derived.ProofKit
import Derived.OpenShut
import Derived.ShutString
namespace Go.Proofs.Ytohnffbcgancfaa.fnExactPieces
open Go.ChangeShapes Go.WideShapes Go.ChangeAt Go.RowKit
open Go.ChangeMaps (open_string shut_string)
set_option linter.unusedVariables false

theorem own : ownKnob Try.prog.godebug = none := by kernel_rfl

set_option maxRecDepth 100000 in
set_option maxHeartbeats 1000000 in
theorem walk (a0 : ByteArray) (w0 : a0.size ≤ maxLen) (w : World) :
    Calls Try.prog 4 #[.string a0] w fun e w' => e = .returned (.bool true) ∧ Below w.heap.size w w' := by
  have HS := hid fun W => specPieces_any a0 W w0
  have HI := hid fun W => implPieces_any a0 W
  have hn := piecesOf_len a0
  generalize piecesOf a0 = ps at *
  have hml : ps.length ≤ maxLen := by unfold maxLen; omega
  by_cases hlt : 1048576 < a0.size
  · go_enter Try.func4, Try.ntmps4
    go_wp2
    go_ret
    exact ⟨by simp, Below.refl _ _⟩
  · go_enter Try.func4, Try.ntmps4
    go_wp2_with fail
    refine (HS.out _).mono ?_
    rintro e w1 ⟨v1, rfl, ho1, hb1⟩
    go_wp2_with fail
    refine (HI.out _).mono ?_
    rintro e w2 ⟨v2, rfl, ho2, hb2⟩
    have r1 : Reads w2 v1 ps := (Reads.of_row ho1).below hb2
    go_wp2_with fail
    refine (eqStringS_any v2 v1 ps _ (Reads.of_row ho2) r1 hml).mono ?_
    rintro e w3 ⟨rfl, hb3⟩
    have ho3 := Below.row hb3 ho2
    have r3 := r1.below hb3
    have hb23 : Below w1.heap.size w1 w3 := hb2.trans (hb3.mono hb2.size)
    have hm1 := markStringS_any v2 1 _ ps w3 ho3 hb23.size (by omega) (by omega)
    change Calls Try.prog 16 #[v2, .int .i64 1] _ _ at hm1
    have HM := hid hm1
    clear hm1
    obtain ⟨N, hN⟩ : ∃ N, N = 1 + ps.length := ⟨_, rfl⟩
    rw [← hN] at HM
    have HN := hid hN
    clear hN
    go_wp2_with fail
    refine HM.out.mono ?_
    rintro e w4 ⟨rfl, ho4, hb4⟩
    have hb14 : Below w1.heap.size w1 w4 := hb23.trans hb4
    have r4 : Reads w4 v1 ps := (Reads.of_row ho1).below hb14
    have m4 : Reads w4 v2 (marks 1 ps.length) := Reads.of_row (base := w1.heap.size) (by rw [marks_length]; exact ho4)
    have HH := hid fun (W : World) (h : Reads W v2 (marks 1 ps.length)) => heldStringS_any v2 1 ps.length W h (by omega) (by omega)
    rw [← HN.out] at HH
    change Hid (∀ (W : World) (_ : Reads W v2 (marks 1 ps.length)), Calls Try.prog 17 #[v2, .int .i64 1] W fun e w' => e = .returned (.int .i64 N) ∧ Below W.heap.size W w') at HH
    go_wp2_with fail
    refine (HH.out _ m4).mono ?_
    rintro e w5 ⟨rfl, hb5⟩
    have r5 := r4.below hb5
    have m5 := m4.below hb5
    go_wp2_with fail
    refine (HI.out _).mono ?_
    rintro e w6 ⟨v3, rfl, ho6, hb6⟩
    have r6 := r5.below hb6
    have m6 := m5.below hb6
    go_wp2_with fail
    refine (eqStringS_any v3 v1 ps _ (Reads.of_row ho6) r6 hml).mono ?_
    rintro e w7 ⟨rfl, hb7⟩
    have m7 := m6.below hb7
    go_wp2_with fail
    refine (HH.out _ m7).mono ?_
    rintro e w8 ⟨rfl, hb8⟩
    go_wp2
    go_ret
    have hz1 := hb1.size
    have hz14 := hb14.size
    have hz5 := hb5.size
    have hz6 := hb6.size
    have hz7 := hb7.size
    exact ⟨by simp, hb1.trans ((hb14.mono hz1).trans ((hb5.mono (by omega)).trans ((hb6.mono (by omega)).trans ((hb7.mono (by omega)).trans (hb8.mono (by omega))))))⟩

set_option maxRecDepth 100000 in
theorem lifted (os : Os) (started : os.Started) (H : Type) (enc : TypeId × Value → H) :
    ReturnsInHanded {} Try.checked os 4 .any (Rows.fnExactPiecesSpec.pre6 enc Try.prog Try.f4 Rows.fnExactPiecesRow.domain false) (Rows.fnExactPiecesSpec.post enc Try.prog Try.f4 false true false false) := by
  refine returnsInHanded_of_change (C := Try.checked) own started (by kernel_rfl) Try.func4
    (ChangeSpec.witness6 (enc := enc) (C := Try.checked) false ⟨#[], #[.string ByteArray.empty], []⟩ 8 (by kernel_rfl) (by kernel_rfl) (by kernel_rfl) (by kernel_rfl)) ?_
  intro W base args ds gs before hval0 hW hcnd _
  have hval : ∀ (j : Nat) t v, Try.f4.params[j]? = some t → args[j]? = some v → Value.okWide Try.prog W .any base t v := hval0
  have hW' := hW
  obtain ⟨p, q, hA0, hV, rfl, hfz, hnd⟩ := hW
  have hA : DataW.TrodAll enc Try.prog W 0 (fun _ => true) true Try.f4.params.toList args.toList ds p := hA0
  rw [Try.params4] at hA hval
  obtain ⟨v0, vs0, d0, ds0, p0, q0, hargs, rfl, rfl, h0, r0⟩ := trodAll_cons hA
  obtain ⟨rfl, rfl, rfl⟩ := trodAll_nil r0
  obtain rfl : args = #[v0] := by cases args; simp_all
  obtain ⟨rfl, rfl⟩ := trodVars_none hV
  obtain ⟨a0, rfl, rfl, rfl, w0⟩ := open_string Try.underlying9 (hval 0 9 v0 rfl rfl) h0
  clear hA0 hval0
  refine (walk a0 w0 W).mono fun e W' ⟨he, bel⟩ => ?_
  subst he
  exact ⟨_, rfl, _, _, _, [], _, [], hW', trodAll_mk1 (shut_bool Try.underlying4 _), (trodAll_cons_mk (shut_string Try.underlying9 w0) trodAll_mk0), rfl, bel.frame _, fun h => by cases h⟩

theorem over : Rows.fnExactPiecesRow.holds Try.pinned (OpenSpec.ofChange Rows.fnExactPiecesSpec) :=
  OpenClaim.holds_of_wide 4 Try.f4 rfl rfl rfl rfl rfl rfl rfl ⟨rfl, rfl, rfl, rfl, rfl⟩ rfl rfl rfl rfl rfl (by kernel_rfl) Try.func4 (by kernel_rfl)
    (of_decide_eq_true (by kernel_rfl)) (by unfold Func.isWrapper; first | (rw [if_pos (by decide +kernel)]; kernel_rfl) | (rw [if_neg (by decide +kernel)]; exact ⟨rfl, rfl⟩))
    (fun os started H enc _ => lifted os started H enc)
end Go.Proofs.Ytohnffbcgancfaa.fnExactPieces
namespace Go.Proofs.Ytohnffbcgancfaa
theorem fnExactPieces_holds : Rows.FnExactPiecesSaid := fnExactPieces.over
#print axioms fnExactPieces_holds
end Go.Proofs.Ytohnffbcgancfaa
