import Derived.Test.YtkjdabnglcabiaaGreatDoorFnSaveWalk
import Derived.Lib.SmallJoins
import Derived.Below
import Derived.WalkKit
import Derived.ProofKit
import Derived.OpenShut
import Derived.ShutString
import Derived.ChangeOld
import Derived.LaidMore
import Derived.LaidHandle
import Derived.LaidLaws
import Derived.OpenVars
import Derived.Stop.Joined
import Derived.Lib.LaidTab
import Derived.Test.YtkjdabnglcabiaaGreatDoorTie
import Derived.Test.YtkjdabnglcabiaaGreatDoorCards
import Derived.SevenTiedAt
/- laws.FnSave returns true at every argument. -/
namespace Go.Proofs.YtkjdabnglcabiaaGreatDoor.fnSave
open Go.ChangeShapes Go.WideShapes Go.RowKit
theorem laid_mem {P : Program} {w : World} : ∀ {l : List (String × DataW Unit)} {ps : List MemPlace}, DataW.LaidVars P w l ps → ∀ n d, (n, d) ∈ l → ∃ g t cs fuel p, P.globalNamed n = some g ∧ (P.globals[g]?).map (·.type) = some t ∧ w.var? P n = some cs ∧ DataW.trod (fun _ => ()) P w 0 (fun _ => true) false fuel t cs.toList = some (d, p)
 | [], _, _, n, d, hm => by cases hm
 | (n0, d0) :: l, ps, h, n, d, hm => by
  obtain ⟨g, t, cs, fuel, p, q, h1, h2, h3, h4, h5, _⟩ := h
  rcases List.mem_cons.1 hm with e | hm
  ·cases e
   exact ⟨g, t, cs, fuel, p, h1, h2, h3, h4⟩
  ·exact laid_mem h5 n d hm
/-- A variable that is laid as an error: its cell. -/
theorem sent_of {W : World} {l : List (String × DataW Unit)} {ps : List MemPlace} (h : DataW.LaidVars Tryz.prog W l ps) (n : String) (d : DataW Unit) (hd : ∃ nm x, d = .iface nm x) (hm : (n, d) ∈ l) (g : Nat) (hg : Tryz.prog.globalNamed n = some g) (ht : (Tryz.prog.globals[g]?).map (·.type) = some 117) : ∃ tp p, W.cell? ⟨g, 0, none⟩ = some (.iface tp p) := by
 obtain ⟨nm, x, rfl⟩ := hd
 obtain ⟨g', t, cs, fuel, p, h1, h2, h3, h4⟩ := laid_mem h n _ hm
 obtain rfl := Option.some.inj (hg.symm.trans h1)
 obtain rfl := Option.some.inj (ht.symm.trans h2)
 obtain ⟨f1, u, v, e, _⟩ := iface_of_trod Tryz.underlying117 h4
 refine ⟨u, v, ?_⟩
 rw [World.var?_cell hg h3 0]
 rcases cs with ⟨cs⟩
 simp only at e
 subst e
 rfl
open Go.ChangeAt
open Go.ChangeMaps (open_string shut_string)
set_option linter.unusedVariables false
theorem own : ownKnob Tryz.prog.godebug = none := by kernel_rfl
theorem laid : laidOutB Tryz.prog = true := by kernel_rfl
/-- What is laid beside the handle. -/
theorem plain : (Rows.fnSaveRow.laid.filter fun x => x.2.handleName?.isNone) = Rows.fnSaveRow.laid.take 3 ++ Rows.fnSaveRow.laid.drop 4 := by kernel_rfl
theorem split {W : World} (h : laidMetH Tryz.prog Rows.fnSaveRow.laid W) : laidMet Tryz.prog (Rows.fnSaveRow.laid.take 3 ++ Rows.fnSaveRow.laid.drop 4) W ∧ handlesMet Tryz.prog (Rows.fnSaveRow.laid.filter fun x => x.2.handleName?.isSome) W := by
 rw [← plain]
 unfold laidMetH at h
 split at h
 ·next e =>
  exact absurd (congrArg List.length e) (by decide +kernel)
 ·next e =>
  rw [e]
  exact h
theorem gTab : Tryz.prog.globalNamed "internal/strconv.uint64pow10" = some 3 := by kernel_rfl
theorem tTab : (Tryz.prog.globals[(3 : Nat)]?).map (·.type) = some 218 := by kernel_rfl
theorem et : Tryz.prog.globalNamed "errors.errorType" = some 1 := by kernel_rfl
theorem rt : (Tryz.prog.cutTypes.find? (·.1 == "internal/reflectlite.rtype")).map (·.2) = some 199 := by kernel_rfl
theorem oneRow : ((List.range 276).filter fun t => Tryz.prog.rowNamed t [101, 114, 114, 111, 114]) = [117] := by kernel_rfl
theorem tSize : Tryz.prog.types.size = 276 := by kernel_rfl
theorem hHandle : typeHandle Tryz.prog 117 = .pointer (some ⟨11, 117, none⟩) := by kernel_rfl
/-- What the condition gives the walk. -/
theorem of_laid {W : World} (h : laidMetH Tryz.prog Rows.fnSaveRow.laid W) : Errs W := by
 obtain ⟨⟨ps, hL, _, _⟩, hH⟩ := split h
 refine ⟨sent_of hL "strconv.ErrSyntax" Rows.laid_strconv_ErrSyntax ⟨_, _, rfl⟩ (List.mem_of_getElem? (i := 4) (by kernel_rfl)) _ (by kernel_rfl) (by kernel_rfl), sent_of hL "strconv.ErrRange" Rows.laid_strconv_ErrRange ⟨_, _, rfl⟩ (List.mem_of_getElem? (i := 3) (by kernel_rfl)) _ (by kernel_rfl) (by kernel_rfl), sent_of hL "loop.example/kilnpass/impl.errNoEnd" Rows.laid_loop_example_kilnpass_impl_errNoEnd ⟨_, _, rfl⟩ (List.mem_of_getElem? (i := 5) (by kernel_rfl)) _ (by kernel_rfl) (by kernel_rfl), sent_of hL "loop.example/kilnpass/impl.errTooMany" Rows.laid_loop_example_kilnpass_impl_errTooMany ⟨_, _, rfl⟩ (List.mem_of_getElem? (i := 8) (by kernel_rfl)) _ (by kernel_rfl) (by kernel_rfl), sent_of hL "loop.example/kilnpass/impl.errNoSize" Rows.laid_loop_example_kilnpass_impl_errNoSize ⟨_, _, rfl⟩ (List.mem_of_getElem? (i := 6) (by kernel_rfl)) _ (by kernel_rfl) (by kernel_rfl), sent_of hL "loop.example/kilnpass/impl.errNoSum" Rows.laid_loop_example_kilnpass_impl_errNoSum ⟨_, _, rfl⟩ (List.mem_of_getElem? (i := 7) (by kernel_rfl)) _ (by kernel_rfl) (by kernel_rfl), ?_, ?_⟩
 ·obtain ⟨name, u, ty, e1, e2, e3, e4, e5⟩ := hH ("errors.errorType", Rows.laid_errors_errorType) (List.mem_of_getElem? (i := 0) (by kernel_rfl))
  have en : name = [101, 114, 114, 111, 114] := (Option.some.inj e1).symm
  subst en
  obtain rfl := Option.some.inj (rt.symm.trans e2)
  have hm : ty ∈ (List.range 276).filter fun t => Tryz.prog.rowNamed t [101, 114, 114, 111, 114] := List.mem_filter.2 ⟨List.mem_range.2 (by rw [← tSize]; exact e3), e4⟩
  rw [oneRow] at hm
  obtain rfl := List.mem_singleton.1 hm
  rw [hHandle] at e5
  simpa using World.var?_cell et e5 0
 ·obtain ⟨g, ty, cs, f, p, h1, h2, h3, h4⟩ := laid_mem hL "internal/strconv.uint64pow10" Rows.laid_internal_strconv_uint64pow10 (List.mem_of_getElem? (i := 2) (by kernel_rfl))
  obtain rfl := Option.some.inj (gTab.symm.trans h1)
  obtain rfl := Option.some.inj (tTab.symm.trans h2)
  have hc := Lib.cells_of_tab (zs := Lib.pow10Tab) (k := .u64) Tryz.underlying218 Tryz.underlying92 (by kernel_rfl) (by kernel_rfl) (show _ = some (Lib.tabData .u64 Lib.pow10Tab, p) from h4)
  refine (show World.var? Tryz.prog W "internal/strconv.uint64pow10" = some cs from h3).trans (congrArg some ?_)
  rw [← hc]
/-- The door's own heap meets the condition. -/
theorem door_met (os : Os) (args : Array Value) : laidMetH Tryz.prog Rows.fnSaveRow.laid ((World.doorLaid Tryz.prog 400 os).forCall (fun _ _ => 0) ⟨#[], args, []⟩).memory :=
 laidMetH_of_parts3 (fuel := 8) (laidMet_of_run' 8 (by kernel_rfl) (by kernel_rfl)) (by kernel_rfl) (by kernel_rfl)
theorem four {H : Type} {enc : TypeId × Value → H} {P : Program} {W : World} {sp : Nat → Bool} {n1 n2 n3 n4 : String} {gs : List (DataW H)} {q : List MemPlace} (h : DataW.TrodVars enc P W sp [n1, n2, n3, n4] gs q) : ∃ g1 g2 g3 g4, gs = [g1, g2, g3, g4] := by
 match gs, h with
 | [], h => exact h.elim
 | [_], h => obtain ⟨_, _, _, _, _, _, _, _, _, _, h, _⟩ := h; exact h.elim
 | [_, _], h => obtain ⟨_, _, _, _, _, _, _, _, _, _, h, _⟩ := h; obtain ⟨_, _, _, _, _, _, _, _, _, _, h, _⟩ := h; exact h.elim
 | [_, _, _], h => obtain ⟨_, _, _, _, _, _, _, _, _, _, h, _⟩ := h; obtain ⟨_, _, _, _, _, _, _, _, _, _, h, _⟩ := h; obtain ⟨_, _, _, _, _, _, _, _, _, _, h, _⟩ := h; exact h.elim
 | [g1, g2, g3, g4], _ => exact ⟨g1, g2, g3, g4, rfl⟩
 | _ :: _ :: _ :: _ :: _ :: _, h => obtain ⟨_, _, _, _, _, _, _, _, _, _, h, _⟩ := h; obtain ⟨_, _, _, _, _, _, _, _, _, _, h, _⟩ := h; obtain ⟨_, _, _, _, _, _, _, _, _, _, h, _⟩ := h; obtain ⟨_, _, _, _, _, _, _, _, _, _, h, _⟩ := h; exact h.elim

theorem bytesIn_nil (w : World) : BytesIn w none 0 0 [] := ⟨Nat.le_refl _, rfl, fun i => by simp, fun i hi => by omega⟩
theorem bytesIn_some {w : World} {x : Addr} {len cap : Nat} {zs : List Int} (hl : len ≤ cap) (hz : zs.length = cap) (hcell : ∀ i, i < zs.length → w.cell? (x.add i) = some (.int .u8 (zs.getD i 0))) (hwz : ∀ n ∈ zs, (Lit.int .u8 n).wf = true) :
  BytesIn w (some x) len cap (zs.take len) := by
 have hr := range_u8 hwz
 refine ⟨hl, by simp; omega, fun i => ?_, fun i hi => ?_⟩
 ·rw [take_getD]; split
  ·have := hr i; rw [List.getD_eq_getElem?_getD]; exact this
  ·omega
 ·obtain ⟨b, off, spot⟩ := x
  have hc := hcell i (by omega)
  have hspot : spot = none := by
   have h0 := hcell 0 (by omega)
   simpa [Addr.add] using World.cell?_spot h0
  subst hspot
  have e : (⟨b, off, none⟩ : Addr).add i = ⟨b, off + i, none⟩ := by simp [Addr.add]
  rw [e] at hc
  refine ⟨b, off, rfl, World.block_lt_of_cell? w _ hc, ?_⟩
  rw [take_getD, if_pos hi]; exact hc

set_option maxRecDepth 100000 in
theorem lifted (os : Os) (started : os.Started) (H : Type) (enc : TypeId × Value → H) :
  ReturnsInHanded {} Tryz.checked os 3 .any (fun w args => (Rows.fnSaveSpec.pre enc Tryz.prog Tryz.f3 [] false w args ∧ laidMetH Tryz.prog Rows.fnSaveRow.laid w) ∧ sizedMet enc Tryz.prog Tryz.f3 (OpenSpec.ofChange Rows.fnSaveSpec) false w args)
   (Rows.fnSaveSpec.post enc Tryz.prog Tryz.f3 false true false false) := by
 refine returnsInHanded_of_change_and (C := Tryz.checked) (X := fun w _ => laidMetH Tryz.prog Rows.fnSaveRow.laid w) (fun _ _ _ hh h => h.of_heap hh) own started (by kernel_rfl) Tryz.func3
  (ChangeSpec.witness_shaped (enc := enc) (C := Tryz.checked) (os := os) (X := fun w _ => laidMetH Tryz.prog Rows.fnSaveRow.laid w) false (World.doorLaid Tryz.prog 400 os) #[.slice none 0 0, .slice none 0 0] 8 rfl (World.shaped_of_RefB (by kernel_rfl) (by kernel_rfl)) (by kernel_rfl) (by kernel_rfl) (by kernel_rfl) (door_met os _)) ?_
 intro W base args ds gs before hval0 hW _ _ hL _
 have hval : ∀ (j : Nat) t v, Tryz.f3.params[j]? = some t → args[j]? = some v → Value.okWide Tryz.prog W .any base t v := hval0
 have hW' := hW
 obtain ⟨p, q, hA0, hV, rfl, hfz, hnd⟩ := hW
 have hA : DataW.TrodAll enc Tryz.prog W 0 (fun _ => true) true Tryz.f3.params.toList args.toList ds p := hA0
 rw [Tryz.params3] at hA hval
 obtain ⟨v0, vs0, d0, ds0, p0, q0, hargs, rfl, rfl, h0, r0⟩ := trodAll_cons hA
 obtain ⟨v1, vs1, d1, ds1, p1, q1, hargs1, rfl, rfl, h1, r1⟩ := trodAll_cons r0
 obtain ⟨rfl, rfl, rfl⟩ := trodAll_nil r1
 obtain rfl : args = #[v0, v1] := by cases args; simp_all
 have hV1 : DataW.TrodVars enc Tryz.prog W (fun _ => true) Rows.fnSaveSpec.vars gs q := hV
 obtain ⟨g1, g2, g3, g4, rfl⟩ := four hV1
 obtain ⟨a0, len0, cap0, rfl⟩ := okWide_slice Tryz.underlying22 (hval 0 22 v0 rfl rfl)
 have k0 := h0
 have lt0 : ∀ x ∈ p0, x.block < W.heap.size := by obtain ⟨m, hm⟩ := k0; exact DataW.trod_lt m _ _ _ hm
 obtain ⟨z0, w0, hm0⟩ : ∃ zs, BytesIn W a0 len0 cap0 zs ∧ len0 ≤ maxLen := by
  obtain ⟨fuel, hf⟩ := h0
  rcases open_ints Tryz.underlying22 Tryz.underlying5 (by kernel_rfl) hf with ⟨hcs, _⟩ | ⟨x, l, c, zs, hcs, _, hl, hm, hz, _, hcell, hwz⟩
  ·simp [Value.cells] at hcs
   obtain ⟨rfl, rfl, rfl⟩ := hcs
   exact ⟨[], bytesIn_nil W, by simp [maxLen]⟩
  ·simp [Value.cells] at hcs
   obtain ⟨rfl, rfl, rfl⟩ := hcs
   exact ⟨_, bytesIn_some hl (by simpa using hz) hcell hwz, Nat.le_trans hl hm⟩
 obtain ⟨a1, len1, cap1, rfl⟩ := okWide_slice Tryz.underlying22 (hval 1 22 v1 rfl rfl)
 have k1 := h1
 have lt1 : ∀ x ∈ p1, x.block < W.heap.size := by obtain ⟨m, hm⟩ := k1; exact DataW.trod_lt m _ _ _ hm
 obtain ⟨z1, w1, hm1⟩ : ∃ zs, BytesIn W a1 len1 cap1 zs ∧ len1 ≤ maxLen := by
  obtain ⟨fuel, hf⟩ := h1
  rcases open_ints Tryz.underlying22 Tryz.underlying5 (by kernel_rfl) hf with ⟨hcs, _⟩ | ⟨x, l, c, zs, hcs, _, hl, hm, hz, _, hcell, hwz⟩
  ·simp [Value.cells] at hcs
   obtain ⟨rfl, rfl, rfl⟩ := hcs
   exact ⟨[], bytesIn_nil W, by simp [maxLen]⟩
  ·simp [Value.cells] at hcs
   obtain ⟨rfl, rfl, rfl⟩ := hcs
   exact ⟨_, bytesIn_some hl (by simpa using hz) hcell hwz, Nat.le_trans hl hm⟩
 clear hA0 hval0
 refine (fnSave_walk a0 a1 len0 cap0 len1 cap1 z0 z1 W w0 w1 hm0 hm1 (of_laid hL)).mono fun e W' ⟨he, bel⟩ => ?_
 subst he
 exact ⟨_, rfl, _, _, _, [], _, _, hW', trodAll_mk1 (shut_bool Tryz.underlying4 _), (trodAll_cons_mk (Below.trod laid (by kernel_rfl) (of_decide_eq_true (by kernel_rfl)) k0 bel lt0) (trodAll_cons_mk (Below.trod laid (by kernel_rfl) (of_decide_eq_true (by kernel_rfl)) k1 bel lt1) trodAll_mk0)), Below.trodVars laid bel (by kernel_rfl) hV1, bel.frame _, fun h => by cases h⟩

theorem over : Rows.FnSaveSaid :=
 OpenClaim.holds_of_wide 3 Tryz.f3 rfl rfl rfl rfl rfl rfl rfl ⟨rfl, rfl, rfl, rfl, rfl⟩ rfl rfl rfl rfl rfl (by kernel_rfl) Tryz.func3 (by kernel_rfl)
  (of_decide_eq_true (by kernel_rfl)) (by unfold Func.isWrapper; first | (rw [if_pos (by decide +kernel)]; kernel_rfl) | (rw [if_neg (by decide +kernel)]; exact ⟨rfl, rfl⟩))
  (fun os started H enc _ => lifted os started H enc)
end Go.Proofs.YtkjdabnglcabiaaGreatDoor.fnSave
/- The tied card of laws.FnSave. -/
namespace Go.Proofs.YtkjdabnglcabiaaGreatDoor
open Go
theorem fnSave_card : Rows.FnSaveCardSaid :=
 Claim7.holds_tied_plain_at .later [] [.data, .data, .data, .handle, .sentinel, .sentinel, .sentinel, .sentinel, .sentinel, .sentinel] true Rows.fnSaveCard.stood.harness Rows.fnSaveCard.stood.looks
  fnSave.over (fun _ h => by cases h) (by kernel_rfl) (fun _ h => by cases h) fnSave_row_tie rfl ⟨rfl, rfl⟩ (by kernel_rfl) rfl
  (fun f fn hf hfn => by
   obtain rfl : f = 3 := Option.some.inj ((show Tryz.prog.funcNamed Rows.fnSaveRow.func = some 3 by kernel_rfl).symm.trans hf) |>.symm
   obtain rfl : fn = Tryz.f3 := (Option.some.inj (Tryz.func3.symm.trans hfn)).symm
   exact ⟨by kernel_rfl, fun j t ht => by
    rw [Tryz.params3] at ht
    have hm : t ∈ [22] := by simpa using Array.mem_of_getElem? ht
    have hall : ([22].all fun u => !Tryz.prog.wantsStandIn u) = true := by kernel_rfl
    exact (show Tryz.prog.wantsStandIn t = false by simpa using List.all_eq_true.1 hall t hm)⟩)
  (by kernel_rfl)
#print axioms fnSave_card
end Go.Proofs.YtkjdabnglcabiaaGreatDoor
