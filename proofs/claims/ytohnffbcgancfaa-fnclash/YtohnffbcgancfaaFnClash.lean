/- laws.FnClash returns true at every argument. -/
import Derived.Test.YtohnffbcgancfaaDrawClash
import Derived.Below
import Derived.WalkKit
import Derived.ProofKit
import Derived.OpenShut
import Derived.ShutString
import Derived.ChangeOld
namespace Go.Proofs.Ytohnffbcgancfaa.fnClash
open Go.ChangeShapes Go.WideShapes Go.ChangeAt Go.RowKit
open Go.ChangeMaps (open_string shut_string)
set_option linter.unusedVariables false
set_option maxRecDepth 100000 in
set_option maxHeartbeats 4000000 in
theorem walk (a : Option Addr) (n cap : Nat) (zs : List Int) (w : World) (h : BytesIn w a n cap zs) (hn : n ≤ maxLen) :
    Calls Try.prog 7 #[.slice a n cap] w fun e w' => e = .returned (.bool true) ∧ Below w.heap.size w w' := by
  have HD := hid (drawClash_any a n cap zs w h hn)
  clear h
  unfold maxLen at hn
  by_cases hlt : 1048576 < n
  · have hlt' : (1048576 : Int) < (n : Int) := by omega
    go_enter Try.func7, Try.ntmps7
    go_wp2
    go_ret
    exact ⟨by simp, Below.refl _ _⟩
  · have hlt' : ¬ ((1048576 : Int) < (n : Int)) := by omega
    go_enter Try.func7, Try.ntmps7
    go_wp2_with fail
    refine HD.out.mono ?_
    rintro e w1 ⟨v, k, ts, rfl, ho1, hlen, hsz, hb1⟩
    have r1 : Reads w1 v ts := Reads.of_row ho1
    have HI := hid (implClash_any v ts k w1 r1 (by unfold maxLen; omega) (fun i => Nat.le_trans (hsz i) (by omega)))
    have HS := hid fun (w2 : World) (hb : Below w1.heap.size w1 w2) => specClash_any v ts k w2 (r1.below hb) (by unfold maxLen; omega) (fun i => Nat.le_trans (hsz i) (by unfold maxLen; omega))
    have HSZ := hid hsz
    have HB1 := hid hb1
    clear ho1 hlen hsz hb1 r1 HD
    go_wp2_with fail
    refine HI.out.mono ?_
    rintro e w2 ⟨x, y, b, rfl, hc2, hb2⟩
    have HC2 := hid hc2
    have HB2 := hid (HB1.out.trans (hb2.mono HB1.out.size))
    have HS2 := hid (HS.out w2 hb2)
    clear hc2 hb2 HI HS
    go_wp2_with fail
    refine HS2.out.mono ?_
    rintro e w3 ⟨x', y', b', rfl, hc3, hb3⟩
    obtain ⟨rfl, rfl, rfl⟩ := HC2.out.same hc3
    have HB3 := hid (HB2.out.trans (hb3.mono HB2.out.size))
    clear hc3 hb3 HS2
    rcases HC2.out with ⟨hx, hy, hb, _⟩ | ⟨hb, hw, _, i, j, hij, hj, hcl, _, _, hx, hy⟩
    · subst hx; subst hy; subst hb
      clear HC2
      go_wp2
      go_ret
      exact ⟨by simp, HB3.out⟩
    · have hcl' : ((sumB x k).toList == (sumB y k).toList) = true ∧ (x.toList == y.toList) = false := by
        rw [hx, hy]
        unfold clB at hcl
        simpa using hcl
      have hxs : x.size ≤ maxLen := by rw [hx]; exact Nat.le_trans (HSZ.out i) (by unfold maxLen; omega)
      have hys : y.size ≤ maxLen := by rw [hy]; exact Nat.le_trans (HSZ.out j) (by unfold maxLen; omega)
      have HX : Hid (∀ W : World, Calls Try.prog 12 #[.string x, .int .i64 k] W fun e w' => e = .returned (.string (sumB x k)) ∧ Below W.heap.size W w') := fun W => implSum_any x k W hxs
      have HY : Hid (∀ W : World, Calls Try.prog 12 #[.string y, .int .i64 k] W fun e w' => e = .returned (.string (sumB y k)) ∧ Below W.heap.size W w') := fun W => implSum_any y k W hys
      obtain ⟨hse, hne⟩ := hcl'
      subst hb
      clear hx hy hcl hxs hys HC2 HSZ
      generalize sumB x k = sx at *
      generalize sumB y k = sy at *
      go_wp2_with fail
      refine (HX.out _).mono ?_
      rintro e w4 ⟨rfl, hb4⟩
      have HB4 := hid (HB3.out.trans (hb4.mono HB3.out.size))
      clear hb4
      go_wp2_with fail
      refine (HY.out _).mono ?_
      rintro e w5 ⟨rfl, hb5⟩
      have HB5 := hid (HB4.out.trans (hb5.mono HB4.out.size))
      clear hb5
      go_wp2
      go_ret
      exact ⟨by simp, HB5.out⟩
theorem own : ownKnob Try.prog.godebug = none := by kernel_rfl
theorem laidOut : laidOutB Try.prog = true := by kernel_rfl

theorem bytesIn_nil (w : World) : BytesIn w none 0 0 [] := ⟨Nat.le_refl _, rfl, fun i => by simp, fun i hi => by omega⟩
theorem bytesIn_some {w : World} {x : Addr} {len cap : Nat} {zs : List Int} (hl : len ≤ cap) (hz : zs.length = cap) (hcell : ∀ i, i < zs.length → w.cell? (x.add i) = some (.int .u8 (zs.getD i 0))) (hwz : ∀ n ∈ zs, (Lit.int .u8 n).wf = true) :
    BytesIn w (some x) len cap (zs.take len) := by
  have hr := range_u8 hwz
  refine ⟨hl, by simp; omega, fun i => ?_, fun i hi => ?_⟩
  · rw [take_getD]; split
    · have := hr i; rw [List.getD_eq_getElem?_getD]; exact this
    · omega
  · obtain ⟨b, off, spot⟩ := x
    have hc := hcell i (by omega)
    have hspot : spot = none := by
      have h0 := hcell 0 (by omega)
      simpa [Addr.add] using World.cell?_spot h0
    subst hspot
    have e : (⟨b, off, none⟩ : Addr).add i = ⟨b, off + i, none⟩ := by simp [Addr.add]
    rw [e] at hc
    refine ⟨b, off, rfl, World.block_lt_of_cell? w _ hc, ?_⟩
    rw [take_getD, if_pos hi]; exact hc

set_option maxRecDepth 100000 in
theorem lifted (os : Os) (started : os.Started) (H : Type) (enc : TypeId × Value → H) :
    ReturnsInHanded {} Try.checked os 7 .any (Rows.fnClashSpec.pre6 enc Try.prog Try.f7 Rows.fnClashRow.domain false) (Rows.fnClashSpec.post enc Try.prog Try.f7 false true false false) := by
  refine returnsInHanded_of_change (C := Try.checked) own started (by kernel_rfl) Try.func7
    (ChangeSpec.witness6 (enc := enc) (C := Try.checked) false ⟨#[], #[.slice none 0 0], []⟩ 8 (by kernel_rfl) (by kernel_rfl) (by kernel_rfl) (by kernel_rfl)) ?_
  intro W base args ds gs before hval0 hW hcnd _
  have hval : ∀ (j : Nat) t v, Try.f7.params[j]? = some t → args[j]? = some v → Value.okWide Try.prog W .any base t v := hval0
  have hW' := hW
  obtain ⟨p, q, hA0, hV, rfl, hfz, hnd⟩ := hW
  have hA : DataW.TrodAll enc Try.prog W 0 (fun _ => true) true Try.f7.params.toList args.toList ds p := hA0
  rw [Try.params7] at hA hval
  obtain ⟨v0, vs0, d0, ds0, p0, q0, hargs, rfl, rfl, h0, r0⟩ := trodAll_cons hA
  obtain ⟨rfl, rfl, rfl⟩ := trodAll_nil r0
  obtain rfl : args = #[v0] := by cases args; simp_all
  obtain ⟨rfl, rfl⟩ := trodVars_none hV
  obtain ⟨a0, len0, cap0, rfl⟩ := okWide_slice Try.underlying31 (hval 0 31 v0 rfl rfl)
  have k0 := h0
  have lt0 : ∀ x ∈ p0, x.block < W.heap.size := by obtain ⟨m, hm⟩ := k0; exact DataW.trod_lt m _ _ _ hm
  obtain ⟨z0, w0, hm0⟩ : ∃ zs, BytesIn W a0 len0 cap0 zs ∧ len0 ≤ maxLen := by
    obtain ⟨fuel, hf⟩ := h0
    rcases open_ints Try.underlying31 Try.underlying5 (by kernel_rfl) hf with ⟨hcs, _⟩ | ⟨x, l, c, zs, hcs, _, hl, hm, hz, _, hcell, hwz⟩
    · simp [Value.cells] at hcs
      obtain ⟨rfl, rfl, rfl⟩ := hcs
      exact ⟨[], bytesIn_nil W, by simp [maxLen]⟩
    · simp [Value.cells] at hcs
      obtain ⟨rfl, rfl, rfl⟩ := hcs
      exact ⟨_, bytesIn_some hl (by simpa using hz) hcell hwz, Nat.le_trans hl hm⟩
  clear hA0 hval0
  refine (walk a0 len0 cap0 z0 W w0 hm0).mono fun e W' ⟨he, bel⟩ => ?_
  subst he
  exact ⟨_, rfl, _, _, _, [], _, [], hW', trodAll_mk1 (shut_bool Try.underlying4 _), (trodAll_cons_mk (Below.trod laidOut (by kernel_rfl) (of_decide_eq_true (by kernel_rfl)) k0 bel lt0) trodAll_mk0), rfl, bel.frame _, fun h => by cases h⟩

theorem over : Rows.fnClashRow.holds Try.pinned (OpenSpec.ofChange Rows.fnClashSpec) :=
  OpenClaim.holds_of_wide 7 Try.f7 rfl rfl rfl rfl rfl rfl rfl ⟨rfl, rfl, rfl, rfl, rfl⟩ rfl rfl rfl rfl rfl (by kernel_rfl) Try.func7 (by kernel_rfl)
    (of_decide_eq_true (by kernel_rfl)) (by unfold Func.isWrapper; first | (rw [if_pos (by decide +kernel)]; kernel_rfl) | (rw [if_neg (by decide +kernel)]; exact ⟨rfl, rfl⟩))
    (fun os started H enc _ => lifted os started H enc)
end Go.Proofs.Ytohnffbcgancfaa.fnClash
namespace Go.Proofs.Ytohnffbcgancfaa
theorem fnClash_holds : Rows.FnClashSaid := fnClash.over
#print axioms fnClash_holds
end Go.Proofs.Ytohnffbcgancfaa
