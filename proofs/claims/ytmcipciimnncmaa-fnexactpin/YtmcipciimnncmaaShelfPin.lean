/- (*shelf).pin. -/
import Derived.Test.YtmcipciimnncmaaPinsInsert
namespace Go.Proofs.Ytmcipciimnncmaa
open Go.RowKit
/-- What pin leaves. -/
def PinRes (w : World) (sb mb m : Nat) (D : DataW Unit) (wd room tot : Int) (vc : Value) (ts : List ByteArray) (name : ByteArray) (e : Ending) (w' : World) : Prop :=
  (e = .returned (.int .i64 1) ∧ ¬ ((name.size : Int) = wd) ∧ Below w.heap.size w w') ∨
  (e = .returned (.int .i64 2) ∧ (name.size : Int) = wd ∧ 10 < (addT name ts).length ∧ Below w.heap.size w w') ∨
  (e = .returned (.int .i64 0) ∧ (name.size : Int) = wd ∧ (addT name ts).length ≤ 10 ∧ ∃ vc', Blk w' sb 70 #[.int .i64 wd, .int .i64 room, .int .i64 tot, .map (some mb), vc'] ∧ Reads w' vc' (addT name ts) ∧ w'.ownsMap Try.prog 9 itemElem mb m D ∧ w.heap.size ≤ w'.heap.size ∧ ∀ B', B' ≤ sb → (∀ g, vc.ownBlock = some g → B' ≤ g) → B' ≤ w.heap.size → Below B' w w')
theorem reads_far {w w' : World} {v : Value} {ts : List ByteArray} {b : Nat} (h : Reads w v ts) (hg : w.grownBy w' (some b)) (hn : v.ownBlock ≠ some b) : Reads w' v ts := by
  rcases h with h | ⟨c, off, cap, rfl, hl, hc⟩
  · exact .inl h
  · exact .inr ⟨c, off, cap, rfl, Nat.lt_of_lt_of_le hl hg.size, fun j hj => (hg.cell_far ⟨c, off + j, none⟩ hl (fun e => hn e)).trans (hc j hj)⟩
theorem addT_len (name : ByteArray) (ts : List ByteArray) (h : ¬ (cutN name ts < ts.length ∧ tv ts (cutN name ts) = name)) : addT name ts = ts.take (cutN name ts) ++ name :: ts.drop (cutN name ts) ∧ (addT name ts).length = ts.length + 1 := by
  have e : addT name ts = ts.take (cutN name ts) ++ name :: ts.drop (cutN name ts) := by rw [addT, if_neg h]
  refine ⟨e, ?_⟩
  rw [e]
  have := cutN_le name ts
  simp
  omega
set_option maxRecDepth 100000 in
set_option maxHeartbeats 1000000 in
theorem pin_any (sb mb m B : Nat) (D : DataW Unit) (wd room tot : Int) (vc : Value) (ts : List ByteArray) (name : ByteArray) (w : World) (hbox : Blk w sb 70 #[.int .i64 wd, .int .i64 room, .int .i64 tot, .map (some mb), vc]) (hmap : w.ownsMap Try.prog 9 itemElem mb m D) (hrow : w.ownsRow B 9 1 vc ts.length (ts.map Value.string)) (hne : sb ≠ mb) (hns : vc.ownBlock ≠ some sb) (hnm : vc.ownBlock ≠ some mb) (hA : Asc ts) (hl : ts.length ≤ 10) :
    Calls Try.prog 49 #[.pointer (some ⟨sb, 0, none⟩), .string name] w fun e w' => PinRes w sb mb m D wd room tot vc ts name e w' := by
  obtain ⟨ac, cc, rfl, _⟩ := row_form hrow
  have c0 : w.cell? ⟨sb, 0, none⟩ = some (.int .i64 wd) := hbox.cell 0
  have c4 : w.cell? ⟨sb, 4, none⟩ = some (.slice ac ts.length cc) := hbox.cell 4
  by_cases hsz : (name.size : Int) = wd
  case neg =>
    go_enter Try.func49, Try.ntmps49
    go_wp2
    go_ret
    exact .inl ⟨rfl, hsz, Below.refl _ _⟩
  have hkl := cutN_le name ts
  have HBX := hid hbox
  have HMP := hid hmap
  have HRW := hid hrow
  have HA := hid hA
  have d4 : ∀ n, (w.drewN n).cell? ⟨sb, 4, none⟩ = some (.slice ac ts.length cc) := fun n => c4
  have HSE : Hid (Calls Try.prog 64 #[.slice ac ts.length cc, .string name] w fun e w' => ∃ q : Bool, e = .returned (.tuple #[.int .i64 (cutN name ts), .bool q]) ∧ (q = true ↔ cutN name ts < ts.length ∧ tv ts (cutN name ts) = name) ∧ ∃ n, w' = w.drewN n) := by
    rcases hrow with ⟨_, ⟨e0, h0⟩ | ⟨g, cap, cur, e0, hg1, hg2, hnc, hmc, _⟩⟩
    · have e1 : ts = [] := List.eq_nil_of_length_eq_zero h0
      subst e1
      simp at e0
      obtain ⟨rfl, rfl⟩ := e0
      refine (search_none _ _ _ _).mono ?_
      rintro e w' ⟨rfl, rfl⟩
      exact ⟨false, by simp [cutN], by simp, 0, rfl⟩
    · cases e0
      refine (search_any g 0 cc ts name w hA (by omega) (fun j hj => by rw [Nat.zero_add, HRW.out.cellAt j (by omega)]; simp [tv, hj])).mono ?_
      rintro e w1 ⟨⟨q, rfl, hq⟩, n, rfl⟩
      exact ⟨q, rfl, hq, n, rfl⟩
  by_cases hin : cutN name ts < ts.length ∧ tv ts (cutN name ts) = name
  · have HAT : Hid (addT name ts = ts) := by show addT name ts = ts; rw [addT, if_pos hin]
    generalize cutN name ts = k at *
    clear hbox hmap hA hrow
    go_enter Try.func49, Try.ntmps49
    go_wp2_with fail
    refine HSE.out.mono ?_
    rintro e w1 ⟨q, rfl, hq, n, rfl⟩
    have hqt : q = true := hq.2 hin
    subst hqt
    clear hq hin
    go_wp2
    go_ret
    have bl : ∀ B', Below B' w (w.drewN n) := fun B' => below_drewN (Below.refl B' w) n
    refine .inr (.inr ⟨rfl, hsz, by rw [HAT.out]; exact hl, _, HBX.out.below (bl _), ?_, World.ownsMap.kept (w' := w.drewN n) HMP.out (grown_of_below (bl _)) (by simp), (bl 0).size, fun B' _ _ _ => bl B'⟩)
    rw [HAT.out]
    exact (Reads.of_row HRW.out).below (bl _)
  have HAT := hid (addT_len name ts hin)
  by_cases h10 : ts.length = 10
  · generalize cutN name ts = k at *
    have HL : Hid (10 < (addT name ts).length) := by show 10 < (addT name ts).length; rw [HAT.out.2]; omega
    have h10b : ((ts.length : Int) == 10) = true := by simp [h10]
    have HIN2 := hid hin
    clear hbox hmap hA hrow h10 hkl hl hin HAT HRW
    generalize ts.length = tl at *
    go_enter Try.func49, Try.ntmps49
    go_wp2_with fail
    refine HSE.out.mono ?_
    rintro e w1 ⟨q, rfl, hq, n, rfl⟩
    have hqf : q = false := by cases q; rfl; exact absurd (hq.1 rfl) HIN2.out
    subst hqf
    clear hq
    go_wp2
    go_ret
    exact .inr (.inl ⟨rfl, hsz, HL.out, below_drewN (Below.refl _ _) _⟩)
  have HIN := hid fun (W : World) vb a b c => insertRow_any (.slice ac ts.length cc) (cutN name ts) B vb ts name W a hkl (by omega) b c
  generalize cutN name ts = k at *
  clear hbox hmap hA hrow
  have h10' : ¬ ((ts.length : Int) = 10) := by omega
  go_enter Try.func49, Try.ntmps49
  go_wp2_with fail
  refine HSE.out.mono ?_
  rintro e w1 ⟨q, rfl, hq, n, rfl⟩
  have hqf : q = false := by cases q; rfl; exact absurd (hq.1 rfl) hin
  subst hqf
  clear hq
  have HRWn : Hid (∀ o, ((w.drewN n).alloc o).ownsRow B 9 1 (.slice ac ts.length cc) ts.length (ts.map Value.string)) := fun o => (Below.row (below_drewN (Below.refl _ w) n) HRW.out).alloc o
  have HNE : Hid ((Value.slice ac ts.length cc).ownBlock ≠ some w.heap.size) := fun e => by have := (HRW.out.lt _ e).2; omega
  have HNW := hid (Blk.new (w.drewN n) 9 #[.string name])
  have hdsz : (w.drewN n).heap.size = w.heap.size := rfl
  go_wp2_with fail
  refine (HIN.out _ _ (HRWn.out _) HNW.out HNE.out).mono ?_
  rintro e w2 ⟨v2, rfl, hrd, hob, hg⟩
  obtain ⟨a2, c2, rfl, _⟩ := hrd.form
  have hslt : sb < w.heap.size := HBX.out.lt
  have X2 := ((show Blk (w.drewN n) sb 70 _ from HBX.out).alloc (.cells #[.string name] 9)).kept hg (fun e => hns e.symm)
  have M2 := ((World.ownsMap.kept (w' := w.drewN n) HMP.out (grown_of_below (below_drewN (Below.refl _ w) n)) (by simp)).alloc (.cells #[.string name] 9)).kept hg (fun e => hnm e.symm)
  have q4 := X2.cell 4
  have f4 := X2.fz 4
  have hob2 : (Value.slice a2 (ts.take k ++ name :: ts.drop k).length c2).ownBlock ≠ some sb := fun e => by
    rcases hob _ e with h | h
    · exact hns h
    · have : w.heap.size + 1 ≤ sb := by simpa using h
      omega
  have gU := grownBy_setCellAt w2 sb 4 (.slice a2 (ts.take k ++ name :: ts.drop k).length c2)
  have X3 := hid (X2.set 4 (.slice a2 (ts.take k ++ name :: ts.drop k).length c2))
  have M3 := hid (M2.kept gU (fun e => hne (Option.some.inj e).symm))
  have hrd3 := hid (reads_far hrd gU hob2)
  have hsz2 := gU.size
  have hsz3 := hg.size
  rw [World.size_alloc] at hsz3
  have HBB : Hid (∀ B', B' ≤ sb → (∀ g', (Value.slice ac ts.length cc).ownBlock = some g' → B' ≤ g') → B' ≤ w.heap.size → Below B' w (w2.setCell ⟨sb, 4, none⟩ (.slice a2 (ts.take k ++ name :: ts.drop k).length c2))) := fun B' h1 h2 h3 =>
    (((below_drewN (Below.refl B' w) n).alloc h3 _).grown hg (by rw [World.size_alloc]; omega) h2).setCell (p := ⟨sb, 4, none⟩) h1 _
  have HAT2 := hid HAT.out.1
  have HAT3 := hid HAT.out.2
  clear hg hrd X2 M2 gU hob hob2
  generalize ts.take k ++ name :: ts.drop k = ts9 at *
  go_wp2
  go_ret
  refine .inr (.inr ⟨rfl, hsz, by rw [HAT3.out]; omega, _, X3.out, by rw [HAT2.out]; exact hrd3.out, M3.out, by omega, HBB.out⟩)
end Go.Proofs.Ytmcipciimnncmaa
