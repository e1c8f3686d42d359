/- laws.FnExactClash returns true at every argument. -/
import Derived.Test.YtohnffbcgancfaaClashLaw
import Derived.Below
import Derived.WalkKit
import Derived.ProofKit
import Derived.OpenShut
import Derived.ShutString
import Derived.ChangeOld
import Derived.SliceStrings
namespace Go.Proofs.Ytohnffbcgancfaa.fnExactClash
open Go.ChangeShapes Go.WideShapes Go.ChangeAt Go.RowKit
open Go.ChangeMaps (open_string shut_string)
set_option linter.unusedVariables false

theorem own : ownKnob Try.prog.godebug = none := by kernel_rfl

set_option maxRecDepth 100000 in
set_option maxHeartbeats 2000000 in
theorem walk (v : Value) (ts : List ByteArray) (n : Int) (w : World) (hv : Reads w v ts) (hl : ts.length ≤ maxLen) (hsz : ∀ i, (tx ts i).size ≤ maxLen) :
    Calls Try.prog 8 #[v, .int .i64 n] w fun e w' => e = .returned (.bool true) ∧ Below w.heap.size w w' := by
  have HSZ := hid (szStringS_any v ts w hv hl hsz)
  go_enter Try.func8, Try.ntmps8
  go_wp2_with fail
  refine HSZ.out.mono ?_
  rintro e w ⟨r, rfl, hr, rfl⟩
  by_cases hneg : r < 0
  · clear hr hv
    go_wp2
    go_ret
    exact ⟨by simp, Below.refl _ _⟩
  · obtain ⟨hlen, hs⟩ := hr (by omega)
    have HT := hid fun (W : World) (h : Reads W v ts) => toStringS_any v ts W h hlen
    have HS := hid fun (V : Value) (W : World) (h : Reads W V ts) => specClash_any V ts n W h hl (fun i => Nat.le_trans (hs i) (by unfold maxLen; omega))
    have HI := hid fun (V : Value) (W : World) (h : Reads W V ts) => implClash_any V ts n W h hl (fun i => Nat.le_trans (hs i) (by omega))
    have HV := hid hv
    clear hr hv hs HSZ
    go_wp2_with fail
    refine (HT.out _ HV.out).mono ?_
    rintro e w1 ⟨v1, rfl, ho1, hb1⟩
    go_wp2_with fail
    refine (HS.out v1 _ (Reads.of_row ho1)).mono ?_
    rintro e w2 ⟨x, y, b, rfl, hc2, hb2⟩
    have hb12 := hb1.trans (hb2.mono hb1.size)
    go_wp2_with fail
    refine (HT.out _ (HV.out.below hb12)).mono ?_
    rintro e w3 ⟨v3, rfl, ho3, hb3⟩
    have hb13 := hb12.trans (hb3.mono hb12.size)
    go_wp2_with fail
    refine (HI.out v3 _ (Reads.of_row ho3)).mono ?_
    rintro e w4 ⟨x', y', b', rfl, hc4, hb4⟩
    obtain ⟨rfl, rfl, rfl⟩ := hc2.same hc4
    have hb14 := hb13.trans (hb4.mono hb13.size)
    have r4 : Reads w4 v3 ts := (Reads.of_row ho3).below hb4
    have HR4 := hid r4
    clear ho1 ho3 hb1 hb2 hb3 hb4 hb12 hb13 r4 hc2 hc4
    go_wp2_with fail
    refine (HT.out _ (HV.out.below hb14)).mono ?_
    rintro e w5 ⟨v5, rfl, ho5, hb5⟩
    go_wp2_with fail
    refine (eqStringS_any v3 v5 ts _ (HR4.out.below hb5) (Reads.of_row ho5) hl).mono ?_
    rintro e w6 ⟨rfl, hb6⟩
    have hb15 := hb14.trans (hb5.mono hb14.size)
    go_wp2
    go_ret
    exact ⟨by simp, hb15.trans (hb6.mono hb15.size)⟩
theorem reads_some {w : World} {x : Addr} {len cap : Nat} {ss : List ByteArray} (hl : len ≤ ss.length) (hcell : ∀ i, i < ss.length → w.cell? (x.add i) = some (.string (ss.getD i ByteArray.empty))) (hw : ∀ s ∈ ss, s.size ≤ maxLen) :
    Reads w (.slice (some x) len cap) (ss.take len) ∧ ∀ i, (tx (ss.take len) i).size ≤ maxLen := by
  have hlen : (ss.take len).length = len := by simp; omega
  constructor
  · by_cases e : len = 0
    · subst e
      exact .inl ⟨by simp, some x, cap, rfl⟩
    · obtain ⟨b, off, spot⟩ := x
      have hspot : spot = none := by simpa [Addr.add] using World.cell?_spot (hcell 0 (by omega))
      subst hspot
      have ea : ∀ i, (⟨b, off, none⟩ : Addr).add i = ⟨b, off + i, none⟩ := fun i => by simp [Addr.add]
      have h0 := hcell 0 (by omega)
      rw [ea] at h0
      refine .inr ⟨b, off, cap, by rw [hlen], World.block_lt_of_cell? w _ h0, fun i hi => ?_⟩
      rw [hlen] at hi
      have hc := hcell i (by omega)
      rw [ea] at hc
      rw [hc]
      simp [hi]
  · intro i
    unfold tx
    by_cases hi : i < (ss.take len).length
    · rw [List.getD_eq_getElem?_getD, List.getElem?_eq_getElem hi]
      exact hw _ (List.mem_of_mem_take (List.getElem_mem hi))
    · rw [List.getD_eq_getElem?_getD, List.getElem?_eq_none (by omega)]; simp
theorem laid : laidOutB Try.prog = true := by kernel_rfl

set_option maxRecDepth 100000 in
theorem lifted (os : Os) (started : os.Started) (H : Type) (enc : TypeId × Value → H) :
    ReturnsInHanded {} Try.checked os 8 .any (Rows.fnExactClashSpec.pre6 enc Try.prog Try.f8 Rows.fnExactClashRow.domain false) (Rows.fnExactClashSpec.post enc Try.prog Try.f8 false true false false) := by
  refine returnsInHanded_of_change (C := Try.checked) own started (by kernel_rfl) Try.func8
    (ChangeSpec.witness6 (enc := enc) (C := Try.checked) false ⟨#[], #[.slice none 0 0, .int .i64 0], []⟩ 8 (by kernel_rfl) (by kernel_rfl) (by kernel_rfl) (by kernel_rfl)) ?_
  intro W base args ds gs before hval0 hW hcnd _
  have hval : ∀ (j : Nat) t v, Try.f8.params[j]? = some t → args[j]? = some v → Value.okWide Try.prog W .any base t v := hval0
  have hW' := hW
  obtain ⟨p, q, hA0, hV, rfl, hfz, hnd⟩ := hW
  have hA : DataW.TrodAll enc Try.prog W 0 (fun _ => true) true Try.f8.params.toList args.toList ds p := hA0
  rw [Try.params8] at hA hval
  obtain ⟨v0, vs0, d0, ds0, p0, q0, hargs, rfl, rfl, h0, r0⟩ := trodAll_cons hA
  obtain ⟨v1, vs1, d1, ds1, p1, q1, rfl, rfl, rfl, h1, r1⟩ := trodAll_cons r0
  obtain ⟨rfl, rfl, rfl⟩ := trodAll_nil r1
  obtain rfl : args = #[v0, v1] := by cases args; simp_all
  obtain ⟨rfl, rfl⟩ := trodVars_none hV
  obtain ⟨a0, len0, cap0, rfl⟩ := okWide_slice Try.underlying24 (hval 0 24 v0 rfl rfl)
  have k0 := h0
  have lt0 : ∀ x ∈ p0, x.block < W.heap.size := by obtain ⟨m, hm⟩ := k0; exact DataW.trod_lt m _ _ _ hm
  obtain ⟨ts, w0, hm0, hs0⟩ : ∃ ts, Reads W (.slice a0 len0 cap0) ts ∧ ts.length ≤ maxLen ∧ ∀ i, (tx ts i).size ≤ maxLen := by
    obtain ⟨fuel, hf⟩ := h0
    rcases open_strings Try.underlying24 Try.underlying9 (by kernel_rfl) hf with ⟨hcs, _⟩ | ⟨x, l, c, ss, hcs, _, hl, hm, hz, hx, hcell, hwz⟩
    · simp [Value.cells] at hcs
      obtain ⟨rfl, rfl, rfl⟩ := hcs
      exact ⟨[], .inl ⟨rfl, none, 0, rfl⟩, by simp, fun i => by simp [tx]⟩
    · simp [Value.cells] at hcs
      obtain ⟨rfl, rfl, rfl⟩ := hcs
      simp only [if_true] at hz
      have hsz : len0 ≤ ss.length := by rw [hz]; exact hl
      have h2 := reads_some (cap := cap0) hsz hcell hwz
      exact ⟨ss.take len0, h2.1, by rw [List.length_take]; exact Nat.le_trans (Nat.min_le_left _ _) (Nat.le_trans hl hm), h2.2⟩
  obtain ⟨a1, rfl, rfl, rfl, w1⟩ := open_int Try.underlying3 (hval 1 3 v1 rfl rfl) h1
  clear hA0 hval0
  refine (walk _ ts a1 W w0 hm0 hs0).mono fun e W' ⟨he, bel⟩ => ?_
  subst he
  exact ⟨_, rfl, _, _, _, [], _, [], hW', trodAll_mk1 (shut_bool Try.underlying4 _), (trodAll_cons_mk (Below.trod laid (by kernel_rfl) (of_decide_eq_true (by kernel_rfl)) k0 bel lt0) (trodAll_cons_mk (shut_int Try.underlying3 w1) trodAll_mk0)), rfl, bel.frame _, fun h => by cases h⟩

theorem over : Rows.fnExactClashRow.holds Try.pinned (OpenSpec.ofChange Rows.fnExactClashSpec) :=
  OpenClaim.holds_of_wide 8 Try.f8 rfl rfl rfl rfl rfl rfl rfl ⟨rfl, rfl, rfl, rfl, rfl⟩ rfl rfl rfl rfl rfl (by kernel_rfl) Try.func8 (by kernel_rfl)
    (of_decide_eq_true (by kernel_rfl)) (by unfold Func.isWrapper; first | (rw [if_pos (by decide +kernel)]; kernel_rfl) | (rw [if_neg (by decide +kernel)]; exact ⟨rfl, rfl⟩))
    (fun os started H enc _ => lifted os started H enc)
end Go.Proofs.Ytohnffbcgancfaa.fnExactClash
namespace Go.Proofs.Ytohnffbcgancfaa
theorem fnExactClash_holds : Rows.FnExactClashSaid := fnExactClash.over
#print axioms fnExactClash_holds
end Go.Proofs.Ytohnffbcgancfaa
