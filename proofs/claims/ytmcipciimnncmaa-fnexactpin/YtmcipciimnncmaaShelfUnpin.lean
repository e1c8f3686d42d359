/- (*shelf).unpin, (*shelf).answer. -/
import Derived.Test.YtmcipciimnncmaaPinsDelete
namespace Go.Proofs.Ytmcipciimnncmaa
open Go.RowKit
theorem asc_get {ts : List ByteArray} (h : Asc ts) {i j : Nat} (hij : i < j) (hj : j < ts.length) : tlt (tv ts i) (tv ts j) = true := by
  have := List.pairwise_iff_getElem.1 h i j (by omega) hj hij
  have hi : i < ts.length := by omega
  simpa [tv, hi, hj] using this
/-- Where a text of an ascending list stands. -/
theorem cut_at {ts : List ByteArray} (h : Asc ts) {x : ByteArray} {i : Nat} (hi : i < ts.length) (hx : tv ts i = x) : cutN x ts = i := by
  rcases Nat.lt_trichotomy (cutN x ts) i with hl | hl | hl
  · have h1 := cut_above x ts h (cutN x ts) (Nat.le_refl _) (by omega)
    have h2 := asc_get h hl hi
    rw [hx, h1] at h2
    cases h2
  · exact hl
  · have h1 := cut_below x ts i hl
    rw [hx, tlt_irrefl] at h1
    cases h1
/-- What unpin leaves. -/
def UnpRes (w : World) (sb mb m : Nat) (D : DataW Unit) (wd room tot : Int) (vc : Value) (ts : List ByteArray) (name : ByteArray) (e : Ending) (w' : World) : Prop :=
  (e = .returned (.int .i64 1) ∧ ¬ ((name.size : Int) = wd) ∧ Below w.heap.size w w') ∨
  (e = .returned (.int .i64 2) ∧ (name.size : Int) = wd ∧ (∀ i, i < ts.length → tv ts i ≠ name) ∧ Below w.heap.size w w') ∨
  (e = .returned (.int .i64 0) ∧ (name.size : Int) = wd ∧ ∃ i vc', i < ts.length ∧ tv ts i = name ∧ Blk w' sb 70 #[.int .i64 wd, .int .i64 room, .int .i64 tot, .map (some mb), vc'] ∧ Reads w' vc' (ts.eraseIdx i) ∧ w'.ownsMap Try.prog 9 itemElem mb m D ∧ w.heap.size ≤ w'.heap.size ∧ ∀ B', B' ≤ sb → (∀ g, vc.ownBlock = some g → B' ≤ g) → B' ≤ w.heap.size → Below B' w w')
set_option maxRecDepth 100000 in
set_option maxHeartbeats 1000000 in
theorem unpin_any (sb mb m B : Nat) (D : DataW Unit) (wd room tot : Int) (vc : Value) (ts : List ByteArray) (name : ByteArray) (w : World) (hbox : Blk w sb 70 #[.int .i64 wd, .int .i64 room, .int .i64 tot, .map (some mb), vc]) (hmap : w.ownsMap Try.prog 9 itemElem mb m D) (hrow : w.ownsRow B 9 1 vc ts.length (ts.map Value.string)) (hne : sb ≠ mb) (hns : vc.ownBlock ≠ some sb) (hnm : vc.ownBlock ≠ some mb) (hA : Asc ts) (hl : ts.length ≤ 1048576) :
    Calls Try.prog 39 #[.pointer (some ⟨sb, 0, none⟩), .string name] w fun e w' => UnpRes w sb mb m D wd room tot vc ts name e w' := by
  obtain ⟨ac, cc, rfl, _⟩ := row_form hrow
  have c0 : w.cell? ⟨sb, 0, none⟩ = some (.int .i64 wd) := hbox.cell 0
  have c4 : w.cell? ⟨sb, 4, none⟩ = some (.slice ac ts.length cc) := hbox.cell 4
  by_cases hsz : (name.size : Int) = wd
  case neg =>
    go_enter Try.func39, Try.ntmps39
    go_wp2
    go_ret
    exact .inl ⟨rfl, hsz, Below.refl _ _⟩
  have HBX := hid hbox
  have HMP := hid hmap
  have HRW := hid hrow
  have HA := hid hA
  rcases hrow with ⟨_, ⟨e0, h0⟩ | ⟨g, cap, cur, e0, hg1, hg2, hnc, hmc, _⟩⟩
  · have e1 : ts = [] := List.eq_nil_of_length_eq_zero h0
    subst e1
    simp at e0
    obtain ⟨rfl, rfl⟩ := e0
    clear hbox hmap hA
    go_enter Try.func39, Try.ntmps39
    go_wp2_with (go_at_call 64; refine (search_none _ _ _ _).mono ?_; rintro e w ⟨rfl, rfl⟩)
    go_ret
    exact .inr (.inl ⟨rfl, hsz, fun i hi => absurd hi (by simp), Below.refl _ _⟩)
  cases e0
  have HSE := hid (search_any g 0 cc ts name w hA hl (fun j hj => by rw [Nat.zero_add, HRW.out.cellAt j (by omega)]; simp [tv, hj]))
  have hkl := cutN_le name ts
  by_cases hin : cutN name ts < ts.length ∧ tv ts (cutN name ts) = name
  case neg =>
    have HNO : Hid (∀ i, i < ts.length → tv ts i ≠ name) := fun i hi e => hin (by rw [cut_at HA.out hi e]; exact ⟨hi, e⟩)
    generalize cutN name ts = k at *
    clear hbox hmap hA
    go_enter Try.func39, Try.ntmps39
    go_wp2_with fail
    refine HSE.out.mono ?_
    rintro e w1 ⟨⟨q, rfl, hq⟩, n, rfl⟩
    have hqf : q = false := by cases q; rfl; exact absurd (hq.1 rfl) hin
    subst hqf
    go_wp2
    go_ret
    exact .inr (.inl ⟨rfl, hsz, HNO.out, below_drewN (Below.refl _ _) _⟩)
  obtain ⟨hk, hnm2⟩ := hin
  have hmc' : cc ≤ 9223372036854775807 := by unfold maxLen at hmc; omega
  have HDL := hid fun n => deleteRow_any g cc (cutN name ts) B ts (w.drewN n) (Below.row (below_drewN (Below.refl _ w) n) HRW.out) hnc hmc' hk
  generalize cutN name ts = k at *
  have hwk : IntKind.i64.wrap ((k : Int) + 1) = ((k + 1 : Nat) : Int) := by rw [IntKind.wrap_i64]; omega
  have hwk2 : IntKind.i64.wrap ((k : Int) + 1) = (k : Int) + 1 := by rw [IntKind.wrap_i64]; omega
  clear hbox hmap hA hg2
  have d4 : ∀ n, (w.drewN n).cell? ⟨sb, 4, none⟩ = some (.slice (some ⟨g, 0, none⟩) ts.length cc) := fun n => c4
  go_enter Try.func39, Try.ntmps39
  go_wp2_with fail
  refine HSE.out.mono ?_
  rintro e w1 ⟨⟨q, rfl, hq⟩, n, rfl⟩
  have hqt : q = true := hq.2 ⟨hk, hnm2⟩
  subst hqt
  clear hq
  go_wp2_with fail
  refine (HDL.out n).mono ?_
  rintro e w2 ⟨rfl, hg, hrd⟩
  have hgs : sb ≠ g := fun e => hns (by rw [e]; rfl)
  have hgm : mb ≠ g := fun e => hnm (by rw [e]; rfl)
  have X2 := (show Blk (w.drewN n) sb 70 _ from HBX.out).kept hg (fun e => hgs (Option.some.inj e))
  have M2 := (World.ownsMap.kept (w' := w.drewN n) HMP.out (grown_of_below (below_drewN (Below.refl _ w) n)) (by simp)).kept hg (fun e => hgm (Option.some.inj e))
  have q4 := X2.cell 4
  have f4 := X2.fz 4
  have gU := grownBy_setCellAt w2 sb 4 (.slice (some ⟨g, 0, none⟩) (ts.length - 1) cc)
  have X3 := hid (X2.set 4 (.slice (some ⟨g, 0, none⟩) (ts.length - 1) cc))
  have M3 := hid (M2.kept gU (fun e => hne (Option.some.inj e).symm))
  have hrd3 : Hid (Reads (w2.setCell ⟨sb, 4, none⟩ (.slice (some ⟨g, 0, none⟩) (ts.length - 1) cc)) (.slice (some ⟨g, 0, none⟩) (ts.length - 1) cc) (ts.eraseIdx k)) := by
    show Reads _ _ _
    rcases hrd with h | ⟨b, off, cap, e1, hbl, hc⟩
    · exact .inl h
    · simp only [Value.slice.injEq, Option.some.injEq, Addr.mk.injEq] at e1
      obtain ⟨⟨rfl, rfl, _⟩, hle, rfl⟩ := e1
      refine .inr ⟨g, 0, cc, by rw [hle], Nat.lt_of_lt_of_le hbl gU.size, fun j hj => (gU.cell_far ⟨g, 0 + j, none⟩ hbl (fun e => hgs (Option.some.inj e).symm)).trans (hc j hj)⟩
  have hsz2 := gU.size
  have hsz3 := hg.size
  have HBB : Hid (∀ B', B' ≤ sb → (∀ g', (Value.slice (some ⟨g, 0, none⟩) ts.length cc).ownBlock = some g' → B' ≤ g') → B' ≤ w.heap.size → Below B' w (w2.setCell ⟨sb, 4, none⟩ (.slice (some ⟨g, 0, none⟩) (ts.length - 1) cc))) := fun B' h1 h2 h3 =>
    ((below_drewN (Below.refl B' w) n).grown hg h3 (fun k' e => by cases e; exact h2 g rfl)).setCell (p := ⟨sb, 4, none⟩) h1 _
  clear hg hrd X2 M2 gU
  go_wp2
  go_ret
  exact .inr (.inr ⟨rfl, hsz, k, _, hk, hnm2, X3.out, hrd3.out, M3.out, Nat.le_trans hsz3 hsz2, HBB.out⟩)
end Go.Proofs.Ytmcipciimnncmaa
