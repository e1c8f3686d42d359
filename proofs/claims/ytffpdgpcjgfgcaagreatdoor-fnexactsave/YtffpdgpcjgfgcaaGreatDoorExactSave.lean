/- laws.FnExactSave returns true at every argument. -/
import Derived.Test.YtffpdgpcjgfgcaaGreatDoorSaveWalk
import Derived.Test.YtffpdgpcjgfgcaaGreatDoorSaveClosed
import Derived.Test.YtffpdgpcjgfgcaaGreatDoorOpenItems
import Derived.Lib.SmallJoins
import Derived.Below
import Derived.WalkKit
import Derived.ProofKit
import Derived.OpenShut
import Derived.ShutString
import Derived.ChangeOld
import Derived.SliceStrings
import Derived.LaidMore
import Derived.LaidHandle
import Derived.LaidLaws
import Derived.OpenVars
import Derived.Stop.Joined
import Derived.Lib.LaidTab
namespace Go.Proofs.YtffpdgpcjgfgcaaGreatDoor.fnExactSave
open Go.ChangeShapes Go.WideShapes Go.RowKit
theorem laid_mem {P : Program} {w : World} : ∀ {l : List (String × DataW Unit)} {ps : List MemPlace}, DataW.LaidVars P w l ps → ∀ n d, (n, d) ∈ l → ∃ g t cs fuel p, P.globalNamed n = some g ∧ (P.globals[g]?).map (·.type) = some t ∧ w.var? P n = some cs ∧ DataW.trod (fun _ => ()) P w 0 (fun _ => true) false fuel t cs.toList = some (d, p)
  | [], _, _, n, d, hm => by cases hm
  | (n0, d0) :: l, ps, h, n, d, hm => by
    obtain ⟨g, t, cs, fuel, p, q, h1, h2, h3, h4, h5, _⟩ := h
    rcases List.mem_cons.1 hm with e | hm
    · cases e
      exact ⟨g, t, cs, fuel, p, h1, h2, h3, h4⟩
    · exact laid_mem h5 n d hm
/-- A variable that is laid as an error: its cell. -/
theorem sent_of {W : World} {l : List (String × DataW Unit)} {ps : List MemPlace} (h : DataW.LaidVars Tryz.prog W l ps) (n : String) (d : DataW Unit) (hd : ∃ nm x, d = .iface nm x) (hm : (n, d) ∈ l) (g : Nat) (hg : Tryz.prog.globalNamed n = some g) (ht : (Tryz.prog.globals[g]?).map (·.type) = some 112) : ∃ tp p, W.cell? ⟨g, 0, none⟩ = some (.iface tp p) := by
  obtain ⟨nm, x, rfl⟩ := hd
  obtain ⟨g', t, cs, fuel, p, h1, h2, h3, h4⟩ := laid_mem h n _ hm
  obtain rfl := Option.some.inj (hg.symm.trans h1)
  obtain rfl := Option.some.inj (ht.symm.trans h2)
  obtain ⟨f1, u, v, e, _⟩ := iface_of_trod Tryz.underlying112 h4
  refine ⟨u, v, ?_⟩
  rw [World.var?_cell hg h3 0]
  rcases cs with ⟨cs⟩
  simp only at e
  subst e
  rfl
open Go.ChangeAt
open Go.ChangeMaps (open_string shut_string)
set_option linter.unusedVariables false
theorem own : ownKnob Tryz.prog.godebug = none := by kernel_rfl
theorem laid : laidOutB Tryz.prog = true := by kernel_rfl
/-- What is laid beside the handle. -/
theorem plain : (Rows.fnExactSaveRow.laid.filter fun x => x.2.handleName?.isNone) = Rows.fnExactSaveRow.laid.take 3 ++ Rows.fnExactSaveRow.laid.drop 4 := by kernel_rfl
theorem split {W : World} (h : laidMetH Tryz.prog Rows.fnExactSaveRow.laid W) : laidMet Tryz.prog (Rows.fnExactSaveRow.laid.take 3 ++ Rows.fnExactSaveRow.laid.drop 4) W ∧ handlesMet Tryz.prog (Rows.fnExactSaveRow.laid.filter fun x => x.2.handleName?.isSome) W := by
  rw [← plain]
  unfold laidMetH at h
  split at h
  · next e =>
    exact absurd (congrArg List.length e) (by decide +kernel)
  · next e =>
    rw [e]
    exact h
theorem gTab : Tryz.prog.globalNamed "internal/strconv.uint64pow10" = some 0 := by kernel_rfl
theorem tTab : (Tryz.prog.globals[(0 : Nat)]?).map (·.type) = some 172 := by kernel_rfl
theorem et : Tryz.prog.globalNamed "errors.errorType" = some 2 := by kernel_rfl
theorem rt : (Tryz.prog.cutTypes.find? (·.1 == "internal/reflectlite.rtype")).map (·.2) = some 198 := by kernel_rfl
theorem oneRow : ((List.range 263).filter fun t => Tryz.prog.rowNamed t [101, 114, 114, 111, 114]) = [112] := by kernel_rfl
theorem tSize : Tryz.prog.types.size = 263 := by kernel_rfl
theorem hHandle : typeHandle Tryz.prog 112 = .pointer (some ⟨11, 112, none⟩) := by kernel_rfl
/-- What the condition gives the walk. -/
theorem of_laid {W : World} (h : laidMetH Tryz.prog Rows.fnExactSaveRow.laid W) : Errs W := by
  obtain ⟨⟨ps, hL, _, _⟩, hH⟩ := split h
  refine ⟨sent_of hL "strconv.ErrSyntax" Rows.laid_strconv_ErrSyntax ⟨_, _, rfl⟩ (List.mem_of_getElem? (i := 4) (by kernel_rfl)) _ (by kernel_rfl) (by kernel_rfl), sent_of hL "strconv.ErrRange" Rows.laid_strconv_ErrRange ⟨_, _, rfl⟩ (List.mem_of_getElem? (i := 3) (by kernel_rfl)) _ (by kernel_rfl) (by kernel_rfl), sent_of hL "loop.example/kilnpass/impl.errNoEnd" Rows.laid_loop_example_kilnpass_impl_errNoEnd ⟨_, _, rfl⟩ (List.mem_of_getElem? (i := 5) (by kernel_rfl)) _ (by kernel_rfl) (by kernel_rfl), sent_of hL "loop.example/kilnpass/impl.errTooMany" Rows.laid_loop_example_kilnpass_impl_errTooMany ⟨_, _, rfl⟩ (List.mem_of_getElem? (i := 8) (by kernel_rfl)) _ (by kernel_rfl) (by kernel_rfl), sent_of hL "loop.example/kilnpass/impl.errNoSize" Rows.laid_loop_example_kilnpass_impl_errNoSize ⟨_, _, rfl⟩ (List.mem_of_getElem? (i := 6) (by kernel_rfl)) _ (by kernel_rfl) (by kernel_rfl), sent_of hL "loop.example/kilnpass/impl.errNoSum" Rows.laid_loop_example_kilnpass_impl_errNoSum ⟨_, _, rfl⟩ (List.mem_of_getElem? (i := 7) (by kernel_rfl)) _ (by kernel_rfl) (by kernel_rfl), ?_, ?_⟩
  · obtain ⟨name, u, ty, e1, e2, e3, e4, e5⟩ := hH ("errors.errorType", Rows.laid_errors_errorType) (List.mem_of_getElem? (i := 0) (by kernel_rfl))
    have en : name = [101, 114, 114, 111, 114] := (Option.some.inj e1).symm
    subst en
    obtain rfl := Option.some.inj (rt.symm.trans e2)
    have hm : ty ∈ (List.range 263).filter fun t => Tryz.prog.rowNamed t [101, 114, 114, 111, 114] := List.mem_filter.2 ⟨List.mem_range.2 (by rw [← tSize]; exact e3), e4⟩
    rw [oneRow] at hm
    obtain rfl := List.mem_singleton.1 hm
    rw [hHandle] at e5
    simpa using World.var?_cell et e5 0
  · obtain ⟨g, ty, cs, f, p, h1, h2, h3, h4⟩ := laid_mem hL "internal/strconv.uint64pow10" Rows.laid_internal_strconv_uint64pow10 (List.mem_of_getElem? (i := 2) (by kernel_rfl))
    obtain rfl := Option.some.inj (gTab.symm.trans h1)
    obtain rfl := Option.some.inj (tTab.symm.trans h2)
    have hc := Lib.cells_of_tab (zs := Lib.pow10Tab) (k := .u64) Tryz.underlying172 Tryz.underlying69 (by kernel_rfl) (by kernel_rfl) (show _ = some (Lib.tabData .u64 Lib.pow10Tab, p) from h4)
    refine (show World.var? Tryz.prog W "internal/strconv.uint64pow10" = some cs from h3).trans (congrArg some ?_)
    rw [← hc]
/-- The door's own heap meets the condition. -/
theorem door_met (os : Os) (args : Array Value) : laidMetH Tryz.prog Rows.fnExactSaveRow.laid ((World.doorLaid Tryz.prog 400 os).forCall (fun _ _ => 0) ⟨#[], args, []⟩).memory :=
  laidMetH_of_parts3 (fuel := 8) (laidMet_of_run' 8 (by kernel_rfl) (by kernel_rfl)) (by kernel_rfl) (by kernel_rfl)
theorem four {H : Type} {enc : TypeId × Value → H} {P : Program} {W : World} {sp : Nat → Bool} {n1 n2 n3 n4 : String} {gs : List (DataW H)} {q : List MemPlace} (h : DataW.TrodVars enc P W sp [n1, n2, n3, n4] gs q) : ∃ g1 g2 g3 g4, gs = [g1, g2, g3, g4] := by
  match gs, h with
  | [], h => exact h.elim
  | [_], h => obtain ⟨_, _, _, _, _, _, _, _, _, _, h, _⟩ := h; exact h.elim
  | [_, _], h => obtain ⟨_, _, _, _, _, _, _, _, _, _, h, _⟩ := h; obtain ⟨_, _, _, _, _, _, _, _, _, _, h, _⟩ := h; exact h.elim
  | [_, _, _], h => obtain ⟨_, _, _, _, _, _, _, _, _, _, h, _⟩ := h; obtain ⟨_, _, _, _, _, _, _, _, _, _, h, _⟩ := h; obtain ⟨_, _, _, _, _, _, _, _, _, _, h, _⟩ := h; exact h.elim
  | [g1, g2, g3, g4], _ => exact ⟨g1, g2, g3, g4, rfl⟩
  | _ :: _ :: _ :: _ :: _ :: _, h => obtain ⟨_, _, _, _, _, _, _, _, _, _, h, _⟩ := h; obtain ⟨_, _, _, _, _, _, _, _, _, _, h, _⟩ := h; obtain ⟨_, _, _, _, _, _, _, _, _, _, h, _⟩ := h; obtain ⟨_, _, _, _, _, _, _, _, _, _, h, _⟩ := h; exact h.elim

theorem reads_some {w : World} {x : Addr} {len cap : Nat} {ss : List ByteArray} (hl : len ≤ ss.length) (hcell : ∀ i, i < ss.length → w.cell? (x.add i) = some (.string (ss.getD i ByteArray.empty))) (hw : ∀ s ∈ ss, s.size ≤ maxLen) :
    Reads w (.slice (some x) len cap) (ss.take len) ∧ ∀ i, (tv (ss.take len) i).size ≤ maxLen := by
  have hlen : (ss.take len).length = len := by simp; omega
  constructor
  · by_cases e : len = 0
    · subst e
      exact .inl ⟨by simp, some x, cap, rfl⟩
    · obtain ⟨b, off, spot⟩ := x
      have hspot : spot = none := by simpa [Addr.add] using World.cell?_spot (hcell 0 (by omega))
      subst hspot
      have ea : ∀ i, (⟨b, off, none⟩ : Addr).add i = ⟨b, off + i, none⟩ := fun i => by simp [Addr.add]
      have h0 := hcell 0 (by omega)
      rw [ea] at h0
      refine .inr ⟨b, off, cap, by rw [hlen], World.block_lt_of_cell? w _ h0, fun i hi => ?_⟩
      rw [hlen] at hi
      have hc := hcell i (by omega)
      rw [ea] at hc
      rw [hc]
      simp [hi]
  · intro i
    unfold tv
    by_cases hi : i < (ss.take len).length
    · rw [List.getD_eq_getElem?_getD, List.getElem?_eq_getElem hi]
      exact hw _ (List.mem_of_mem_take (List.getElem_mem hi))
    · rw [List.getD_eq_getElem?_getD, List.getElem?_eq_none (by omega)]; simp
theorem cellsS : Tryz.prog.cellsOf 25 = 4 := by kernel_rfl
set_option maxRecDepth 100000 in
theorem lifted (os : Os) (started : os.Started) (H : Type) (enc : TypeId × Value → H) :
    ReturnsInHanded {} Tryz.checked os 4 .any (fun w args => (Rows.fnExactSaveSpec.pre enc Tryz.prog Tryz.f4 [] false w args ∧ laidMetH Tryz.prog Rows.fnExactSaveRow.laid w) ∧ sizedMet enc Tryz.prog Tryz.f4 (OpenSpec.ofChange Rows.fnExactSaveSpec) false w args)
      (Rows.fnExactSaveSpec.post enc Tryz.prog Tryz.f4 false true false false) := by
  refine returnsInHanded_of_change_and (C := Tryz.checked) (X := fun w _ => laidMetH Tryz.prog Rows.fnExactSaveRow.laid w) (fun _ _ _ hh h => h.of_heap hh) own started (by kernel_rfl) Tryz.func4
    (ChangeSpec.witness_shaped (enc := enc) (C := Tryz.checked) (os := os) (X := fun w _ => laidMetH Tryz.prog Rows.fnExactSaveRow.laid w) false (World.doorLaid Tryz.prog 400 os) #[.agg #[.int .i64 0, .int .i64 0, .slice none 0 0, .slice none 0 0], .string ByteArray.empty, .int .i64 0] 8 rfl (World.shaped_of_RefB (by kernel_rfl) (by kernel_rfl)) (by kernel_rfl) (by kernel_rfl) (by kernel_rfl) (door_met os _)) ?_
  intro W base args ds gs before hval0 hW _ _ hL _
  have hval : ∀ (j : Nat) t v, Tryz.f4.params[j]? = some t → args[j]? = some v → Value.okWide Tryz.prog W .any base t v := hval0
  have hW' := hW
  obtain ⟨p, q, hA0, hV, rfl, hfz, hnd⟩ := hW
  have hA : DataW.TrodAll enc Tryz.prog W 0 (fun _ => true) true Tryz.f4.params.toList args.toList ds p := hA0
  rw [Tryz.params4] at hA hval
  obtain ⟨v0, vs0, d0, ds0, p0, q0, hargs, rfl, rfl, h0, r0⟩ := trodAll_cons hA
  obtain ⟨v1, vs1, d1, ds1, p1, q1, rfl, rfl, rfl, h1, r1⟩ := trodAll_cons r0
  obtain ⟨v2, vs2, d2, ds2, p2, q2, rfl, rfl, rfl, h2, r2⟩ := trodAll_cons r1
  obtain ⟨rfl, rfl, rfl⟩ := trodAll_nil r2
  obtain rfl : args = #[v0, v1, v2] := by cases args; simp_all
  have hV1 : DataW.TrodVars enc Tryz.prog W (fun _ => true) Rows.fnExactSaveSpec.vars gs q := hV
  obtain ⟨g1, g2, g3, g4, rfl⟩ := four hV1
  have k0 := h0
  have lt0 : ∀ x ∈ p0, x.block < W.heap.size := by obtain ⟨m, hm⟩ := k0; exact DataW.trod_lt m _ _ _ hm
  obtain ⟨c0, c1, c2, c3, y0, y1, y2, y3, mm, hv0, _, _, hy0, hy1, hy2, hy3⟩ := Go.Joins.open_agg4 Tryz.underlying25 (by kernel_rfl) cellsS (hval 0 25 v0 rfl rfl) h0
  subst hv0
  obtain ⟨wd, e0, _, _⟩ := DataW.trod_int Tryz.underlying3 hy0
  obtain ⟨room, e1, _, _⟩ := DataW.trod_int Tryz.underlying3 hy1
  simp at e0 e1
  subst e0 e1
  obtain ⟨its, wi, hmi, hsi⟩ := open_items hy2
  obtain ⟨ts, wp, hmp, hsp⟩ : ∃ ts, Reads W c3 ts ∧ ts.length ≤ maxLen ∧ ∀ i, (tv ts i).size ≤ maxLen := by
    rcases open_strings Tryz.underlying23 Tryz.underlying9 (by kernel_rfl) hy3 with ⟨hcs, _⟩ | ⟨x, l, c, ss, hcs, _, hl, hm, hz, hx, hcell, hwz⟩
    · simp at hcs
      subst hcs
      exact ⟨[], .inl ⟨rfl, none, 0, rfl⟩, by simp, fun i => by simp [tv]⟩
    · simp at hcs
      subst hcs
      simp only [if_true] at hz
      have hsz : l ≤ ss.length := by rw [hz]; exact hl
      have h2 := reads_some (cap := c) hsz hcell hwz
      exact ⟨ss.take l, h2.1, by rw [List.length_take]; exact Nat.le_trans (Nat.min_le_left _ _) (Nat.le_trans hl hm), h2.2⟩
  obtain ⟨sx, rfl, rfl, rfl, wsx⟩ := open_string Tryz.underlying9 (hval 1 9 v1 rfl rfl) h1
  obtain ⟨nx, rfl, rfl, rfl, wnx⟩ := open_int Tryz.underlying3 (hval 2 3 v2 rfl rfl) h2
  clear hA0 hval0
  refine (saveLaw_walk wd room c2 c3 its ts sx nx W wi wp hmi hmp hsi hsp wsx (of_laid hL)).mono fun e W' ⟨he, bel⟩ => ?_
  subst he
  exact ⟨_, rfl, _, _, _, [], _, _, hW', trodAll_mk1 (shut_bool Tryz.underlying4 _), (trodAll_cons_mk (Below.trod laid (by kernel_rfl) (of_decide_eq_true (by kernel_rfl)) k0 bel lt0) (trodAll_cons_mk (shut_string Tryz.underlying9 wsx) (trodAll_cons_mk (shut_int Tryz.underlying3 wnx) trodAll_mk0))), Below.trodVars laid bel (by kernel_rfl) hV1, bel.frame _, fun h => by cases h⟩

theorem over : Rows.FnExactSaveSaid :=
  OpenClaim.holds_of_wide 4 Tryz.f4 rfl rfl rfl rfl rfl rfl rfl ⟨rfl, rfl, rfl, rfl, rfl⟩ rfl rfl rfl rfl rfl (by kernel_rfl) Tryz.func4 fnExactSave_closed
    (of_decide_eq_true (by kernel_rfl)) (by unfold Func.isWrapper; first | (rw [if_pos (by decide +kernel)]; kernel_rfl) | (rw [if_neg (by decide +kernel)]; exact ⟨rfl, rfl⟩))
    (fun os started H enc _ => lifted os started H enc)
end Go.Proofs.YtffpdgpcjgfgcaaGreatDoor.fnExactSave
