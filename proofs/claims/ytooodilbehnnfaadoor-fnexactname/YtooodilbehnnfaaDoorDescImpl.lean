/- impl.Describe: the list of a text. -/
import Derived.Test.YtooodilbehnnfaaDoorListBox
import Derived.Test.YtooodilbehnnfaaDoorHeld
namespace Go.Proofs.YtooodilbehnnfaaDoor
open Go.RowKit
attribute [local go_sem] Oper.semAt_some
set_option maxRecDepth 100000 in
set_option maxHeartbeats 400000 in
theorem hasList_any (s : ByteArray) (n : Int) (w : World) : Calls Tryd.prog 30 #[.string s, .int .i64 n] w fun e w' => e = .returned (.bool (hasL s n)) ∧ w' = w := by
  cases hw : isW n with
  | false =>
    have e : hasL s n = false := by simp [hasL, hw]
    rw [e]; clear e
    go_enter Tryd.func30, Tryd.ntmps30
    go_wp2_with (go_at_call 42; refine (isWidth_any _ _).mono ?_; rintro e w' ⟨rfl, rfl⟩)
    go_ret
    exact ⟨rfl, rfl⟩
  | true =>
    have e : hasL s n = decide ((s.size : Int) ≤ 3000) := by simp [hasL, hw]; omega
    rw [e]; clear e
    go_enter Tryd.func30, Tryd.ntmps30
    go_wp2_with (go_at_call 42; refine (isWidth_any _ _).mono ?_; rintro e w' ⟨rfl, rfl⟩)
    go_ret
    exact ⟨rfl, rfl⟩
/-- What holds between two rounds. -/
def DI (w : World) (s : ByteArray) (n : Int) (pre : List ByteArray) (W : World) : Prop :=
  (∃ v, LBox W (w.heap.size + 2) s.size v ∧ W.ownsRow (w.heap.size + 4) 9 1 v pre.length ((pre.map (sumT n)).map Value.string)) ∧ Boxed W w.heap.size 3 (.int .i64 n) ∧ LBox W (w.heap.size + 1) 0 (.slice none 0 0) ∧ Below w.heap.size w W ∧ w.heap.size + 4 ≤ W.heap.size
theorem DI.grown {w : World} {s : ByteArray} {n : Int} {pre : List ByteArray} {A A' : World} {row : Option Nat} (h : DI w s n pre A) (hg : A.grownBy A' row) (hr : ∀ r, row = some r → w.heap.size + 4 ≤ r ∧ ∀ c, A.heap[r]? ≠ some (.cells c 9 (0, 0))) : DI w s n pre A' := by
  obtain ⟨⟨v, hv, hrow⟩, hn, hl, hB, hsz⟩ := h
  have ne : ∀ j, j < w.heap.size + 4 → some j ≠ row := fun j hj e => by have := (hr j e.symm).1; omega
  refine ⟨⟨v, hv.kept hg (ne _ (by omega)), hrow.kept hg ?_⟩, hn.kept hg (ne _ (by omega)), hl.kept hg (ne _ (by omega)), hB.grown hg (by omega) (fun r e => by have := (hr r e).1; omega), Nat.le_trans hsz hg.size⟩
  rcases hrow with ⟨_, ⟨rfl, _⟩ | ⟨g, cap, cur, rfl, _, hgc, _⟩⟩
  · exact .inl rfl
  · refine .inr fun e => ?_
    exact (hr g (by rw [← e]; rfl)).2 cur hgc
theorem DI.own (w : World) (s : ByteArray) (n : Int) : OwnFrom (w.heap.size + 4) (DI w s n) := fun pre W W' row h hg hr =>
  h.grown hg fun r e => ⟨(hr r e).1, fun c hc => by obtain ⟨_, o, ho, hn⟩ := hr r e; rw [ho] at hc; cases hc; cases hn⟩
theorem DI.ab (w : World) (s : ByteArray) (n : Int) : AbT 83 (w.heap.size + 4) (DI w s n) := fun pre W W' row h hg hr =>
  h.grown hg fun r e => ⟨(hr r e).1, fun c hc => by obtain ⟨_, c', ho⟩ := hr r e; rw [ho] at hc; simp at hc⟩
/-- The end of a round. -/
theorem DI.end {w W w1 W2 : World} {s x : ByteArray} {n : Int} {pre : List ByteArray} {v' : Value} (h : DI w s n pre W) (hb1 : Below W.heap.size W w1)
    (hv3 : LBox W2 (w.heap.size + 2) s.size v') (hr3 : W2.ownsRow (w.heap.size + 4) 9 1 v' (pre.length + 1) ((pre.map (sumT n)).map Value.string ++ [.string (sumT n x)])) (hb3 : Below (w.heap.size + 2) w1 W2)
    (hkeep : ∀ (j : Nat) (o : Obj), w1.heap[j]? = some o → j ≠ w.heap.size + 2 → (j < w.heap.size + 4 ∨ ∀ c, o ≠ .cells c 9 (0, 0)) → W2.heap[j]? = some o) :
    Exit.normal = Exit.normal ∧ KeepsFrom (w.heap.size + 4) W W2 ∧ KeepP (w.heap.size + 3) W W2 ∧ DI w s n (pre ++ [x]) W2 := by
  obtain ⟨⟨v, hv, hrow⟩, hn, hl, hB, hsz⟩ := h
  have k1 : ∀ (j : Nat) (o : Obj), W.heap[j]? = some o → w1.heap[j]? = some o := fun j o h => (hb1.block j (Array.getElem?_eq_some_iff.1 h).1).trans h
  have hz : W.heap.size ≤ W2.heap.size := Nat.le_trans hb1.size hb3.size
  refine ⟨rfl, ⟨hz, fun j o hj ho hc => hkeep j o (k1 j o ho) (by omega) (.inr fun c e => ?_)⟩, ⟨fun j c hj => hkeep j _ (k1 j _ hj) ?_ (.inr fun c e => ?_), ?_⟩, ⟨⟨v', hv3, ?_⟩, hkeep _ _ (k1 _ _ hn) (by omega) (.inl (by omega)), hkeep _ _ (k1 _ _ hl) (by omega) (.inl (by omega)), hB.trans ((hb1.mono hB.size).trans (hb3.mono (by omega))), by omega⟩⟩
  · subst e; cases hc
  · intro e
    subst e
    have := hv.symm.trans hj
    simp at this
  · cases e
  · have h1 : w.heap.size + 3 < W.heap.size := by omega
    obtain ⟨o, ho⟩ : ∃ o, W.heap[w.heap.size + 3]? = some o := ⟨_, Array.getElem?_eq_getElem h1⟩
    rw [ho]; exact hkeep _ o (k1 _ o ho) (by omega) (.inl (by omega))
  · simpa using hr3
set_option maxRecDepth 100000 in
set_option maxHeartbeats 2000000 in
theorem implDescribe_any (s : ByteArray) (n : Int) (w : World) :
    Calls Tryd.prog 32 #[.string s, .int .i64 n] w fun e w' => ∃ v, e = .returned (.agg #[.int .i64 (descN s n), v]) ∧ w'.ownsRow w.heap.size 9 1 v (descS s n).length ((descS s n).map Value.string) ∧ Below w.heap.size w w' := by
  obtain ⟨i0, hi, hz0, hz1, hz2⟩ := info_parts Tryd.info9
  refine (callsIn_wide (n := 0)).1 ?_
  refine callsIn_of_wp_marks Tryd.func32 rfl trivial ?_ rfl
  simp only [Tryd.ntmps32, List.size_toArray, List.length_cons, List.length_nil, Nat.reduceAdd, Nat.reduceSub, Array.replicate_succ, Array.replicate_zero, List.push_toArray, List.append_toArray, List.nil_append, List.cons_append]
  have HL := hid fun W => hasList_any s n W
  cases hh : hasL s n with
  | false =>
    have e1 : descN s n = 0 := by simp [descN, hh]
    have e2 : descS s n = [] := by simp [descS, hh]
    rw [e1, e2]; clear e1 e2
    rw [hh] at HL
    gi_wp2_with (refine ⟨trivial, rfl, ?_⟩; gi_at_call 30; refine (callsIn_wide.2 (HL.out _)).mono ?_; rintro e w' ⟨rfl, rfl⟩)
    exact ⟨_, by simp [results, Tryd.results32, go_sem], _, rfl, World.ownsRow_nil _ _ _ _, ((Below.refl _ _).alloc (Nat.le_refl _) _).alloc (by simp) _⟩
  | true =>
    have e1 : descN s n = s.size := by simp [descN, hh]
    have e2 : descS s n = (piecesOf s).map (sumT n) := by simp [descS, hh]
    rw [e1, e2]; clear e1 e2
    rw [hh] at HL
    gi_wp2_with (first | (refine ⟨trivial, rfl, ?_⟩; gi_at_call 30; refine (callsIn_wide.2 (HL.out _)).mono ?_; rintro e w' ⟨rfl, rfl⟩) | (refine ⟨trivial, rfl, ?_⟩; gi_at_call 38; refine (callsIn_wide.2 (eachPiece_any s _)).mono ?_; rintro e w' ⟨rfl, rfl⟩))
    have bN := Boxed.new (((w.alloc (.cells #[.int .i64 n] 3)).alloc (.cells #[.int .i64 0, .slice none 0 0] 27)).alloc (.cells #[.int .i64 s.size, .slice none 0 0] 27)) 9 (.string s)
    rw [World.size_alloc, World.size_alloc, World.size_alloc] at bN
    have hl3 : LBox (((w.alloc (.cells #[.int .i64 n] 3)).alloc (.cells #[.int .i64 0, .slice none 0 0] 27)).alloc (.cells #[.int .i64 s.size, .slice none 0 0] 27)) (w.heap.size + 2) s.size (.slice none 0 0) := by
      have := World.alloc_heap_new ((w.alloc (.cells #[.int .i64 n] 3)).alloc (.cells #[.int .i64 0, .slice none 0 0] 27)) (.cells #[.int .i64 s.size, .slice none 0 0] 27)
      rwa [World.size_alloc, World.size_alloc] at this
    have hl2 : LBox ((w.alloc (.cells #[.int .i64 n] 3)).alloc (.cells #[.int .i64 0, .slice none 0 0] 27)) (w.heap.size + 1) 0 (.slice none 0 0) := by
      have := World.alloc_heap_new (w.alloc (.cells #[.int .i64 n] 3)) (.cells #[.int .i64 0, .slice none 0 0] 27)
      rwa [World.size_alloc] at this
    have hB0 : Below w.heap.size w ((((w.alloc (.cells #[.int .i64 n] 3)).alloc (.cells #[.int .i64 0, .slice none 0 0] 27)).alloc (.cells #[.int .i64 s.size, .slice none 0 0] 27)).alloc (.cells #[.string s] 9)) := ((((Below.refl _ w).alloc (Nat.le_refl _) _).alloc (by simp) _).alloc (by simp; omega) _).alloc (by simp; omega) _
    have hD0 : DI w s n [] ((((w.alloc (.cells #[.int .i64 n] 3)).alloc (.cells #[.int .i64 0, .slice none 0 0] 27)).alloc (.cells #[.int .i64 s.size, .slice none 0 0] 27)).alloc (.cells #[.string s] 9)) :=
      ⟨⟨_, hl3.alloc _, World.ownsRow_nil _ _ _ _⟩, (((Boxed.new w 3 (.int .i64 n)).alloc _).alloc _).alloc _, (hl2.alloc _).alloc _, hB0, by simp⟩
    clear hl3 hl2 hB0
    have hsz0 : ((((w.alloc (.cells #[.int .i64 n] 3)).alloc (.cells #[.int .i64 0, .slice none 0 0] 27)).alloc (.cells #[.int .i64 s.size, .slice none 0 0] 27)).alloc (.cells #[.string s] 9)).heap.size = w.heap.size + 4 := by simp
    refine wp_range (T := 83) (gf := 52) (lb := #[.pointer (some ⟨w.heap.size + 3, 0, none⟩)]) rfl (enters_of Tryd.func52 (by kernel_rfl) rfl)
      (iter_seq s (w.heap.size + 3) _ (by simp) bN) (fun h k => h.trans k) (fun W l o o' hl h ho => KeepP.put W l o o' (by simp at hl; omega) h ho) (Below.refl _ _) (fun _ => rfl)
      (DI w s n) (by rw [hsz0]; exact DI.own w s n) (by rw [hsz0]; exact DI.ab w s n) hD0
      (fun x => { tmps := #[.string s, .int .i64 n, undef, .pointer (some ⟨w.heap.size, 0, none⟩), .pointer (some ⟨w.heap.size + 1, 0, none⟩), .pointer (some ⟨w.heap.size + 2, 0, none⟩), .string x, .string s, .int .i64 n, .bool true, .bool false, undef, .string s, .int .i64 s.size, .agg #[.int .i64 s.size, .slice none 0 0], .string s, .func (.func 52) #[] #[.pointer (some ⟨w.heap.size + 3, 0, none⟩)], .string x, undef, undef, undef, undef, undef, undef, undef, undef, undef], defers := [] }) ?assign ?body ?done
    case assign =>
      intro l x W K hK
      gi_wp2
      exact hK
    case body =>
      rintro l pre x W hD hpx
      rw [hsz0]
      have hx : x.size ≤ 3000 := piecesOf_size s x (hpx.subset (by simp))
      have hpl : pre.length + 1 ≤ 3000 := by have := hpx.length_le; have := piecesOf_len s; simp at *; omega
      have HD := hid hD
      obtain ⟨⟨v, hv, hrow⟩, hn, hl, hB, hsz⟩ := hD
      have HSk := hid fun W => implSum_any x n W (by unfold maxLen; omega)
      change Hid (∀ W, Calls Tryd.prog 31 #[.string x, .int .i64 n] W fun e w' => e = .returned (.string (sumT n x)) ∧ Below W.heap.size W w') at HSk
      have hc1 := hv.c1
      have hcn := hn.cell
      clear hpx bN hD0 HL
      gi_wp2_with fail
      refine wpIn_region_held (S := fun w' => w'.cell? ⟨w.heap.size, 0, none⟩ = some (.int .i64 n)) (by kernel_rfl) (by kernel_rfl) (by rintro ⟨_, _, h, _⟩; cases h) ?_
      have hS0 : W.drew.cell? ⟨w.heap.size, 0, none⟩ = some (.int .i64 n) := hcn
      refine wpAnyH_take (i := 0) (v := .pointer (some ⟨w.heap.size + 2, 1, none⟩)) rfl (by kernel_rfl) (by kernel_rfl) (by kernel_rfl) (fun _ _ _ h => h) (.inl ⟨rfl, fun w' hS => by go_simp⟩) hS0 ?_
      refine wpAnyH_take (i := 2) (v := .string x) rfl (by kernel_rfl) (by kernel_rfl) (by kernel_rfl) (fun _ _ _ h => h) (.inl ⟨rfl, fun w' hS => by go_simp⟩) hS0 ?_
      refine wpAnyH_take (i := 3) (v := .int .i64 n) rfl (by kernel_rfl) (by kernel_rfl) (by kernel_rfl) (fun _ _ _ h => h) (.inl ⟨rfl, fun w' hS => by go_simp⟩) hS0 ?_
      have hec := enters_of Tryd.func31 (by kernel_rfl) rfl
      have HF : Hid (∀ w3, Below W.drew.heap.size W.drew w3 → Below W.heap.size W w3 ∧ w3.cell? ⟨w.heap.size, 0, none⟩ = some (.int .i64 n) ∧ LBox w3 (w.heap.size + 2) s.size v ∧ w3.ownsRow (w.heap.size + 4) 9 1 v pre.length ((pre.map (sumT n)).map Value.string) ∧ W.heap.size ≤ w3.heap.size) := fun w3 hb => by
        have hb' : Below W.heap.size W w3 := ⟨hb.os, hb.tape, hb.output, hb.size, hb.block⟩
        exact ⟨hb', (Below.boxed hb' hn).cell, hv.below hb', Below.row hb' hrow, hb'.size⟩
      clear hrow hv hn hl hB
      refine held_two 1 4 (by kernel_rfl) (op_value (v := v) (w' := W.drew) rfl rfl (by go_simp) ⟨hS0, ?_⟩) (op_calls (f := 31) (args := #[.string x, .int .i64 n]) rfl rfl (by go_simp) (HSk.out _) ?_)
      refine held_one 4 (by kernel_rfl) (op_calls (f := 31) (args := #[.string x, .int .i64 n]) rfl rfl (by go_simp) (HSk.out _) ?_)
      rintro e w3 ⟨rfl, hb3⟩
      obtain ⟨hb3', hcp3, hbx3, hrow3, hs3⟩ := HF.out w3 hb3
      have hc3 := hbx3.c1
      have hc3a := (hbx3.alloc (.cells #[.string (sumT n x)] 9)).c1
      have hcp3a := ((World.grownBy_alloc w3 (.cells #[.string (sumT n x)] 9) none).cell_far ⟨w.heap.size, 0, none⟩ (by simp; omega) (by simp)).trans hcp3
      refine ⟨_, rfl, hcp3, held_one 5 (by kernel_rfl) (op_value (v := .slice (some ⟨w3.heap.size, 0, none⟩) 1 1) (w' := w3.alloc (.cells #[.string (sumT n x)] 9)) rfl rfl (by go_simp) ⟨hcp3a, ?_⟩)⟩
      rotate_left
      rintro e w3 ⟨rfl, hb3⟩
      obtain ⟨hb3', hcp3, hbx3, hrow3, hs3⟩ := HF.out w3 hb3
      have hc3 := hbx3.c1
      have hc3a := (hbx3.alloc (.cells #[.string (sumT n x)] 9)).c1
      have hcp3a := ((World.grownBy_alloc w3 (.cells #[.string (sumT n x)] 9) none).cell_far ⟨w.heap.size, 0, none⟩ (by simp; omega) (by simp)).trans hcp3
      refine ⟨_, rfl, hcp3, held_two 1 5 (by kernel_rfl) (op_value (v := v) (w' := w3) rfl rfl (by go_simp) ⟨hcp3, held_one 5 (by kernel_rfl) (op_value (v := .slice (some ⟨w3.heap.size, 0, none⟩) 1 1) (w' := w3.alloc (.cells #[.string (sumT n x)] 9)) rfl rfl (by go_simp) ⟨hcp3a, ?_⟩)⟩) (op_value (v := .slice (some ⟨w3.heap.size, 0, none⟩) 1 1) (w' := w3.alloc (.cells #[.string (sumT n x)] 9)) rfl rfl (by go_simp) ⟨hcp3a, held_one 1 (by kernel_rfl) (op_value (v := v) (w' := w3.alloc (.cells #[.string (sumT n x)] 9)) rfl rfl (by go_simp) ⟨hcp3a, ?_⟩)⟩)⟩
      all_goals
        refine held_one 6 (by kernel_rfl) (op_wp rfl rfl (wp_append_lies _ (.tmp 19) (.tmp 23) 22 rfl (w.heap.size + 4) 9 i0 (.string ⟨#[]⟩) 1 16 Tryd.underlying22 hi hz0 hz1 hz2 rfl (by decide) v pre.length _ (by go_simp) (hrow3.alloc _) ⟨w3.heap.size, 0, none⟩ 1 1 [.string (sumT n x)] (by go_simp) rfl (cell_one_new _ _ _) (by simp [Value.oneCell']) (by decide) (by unfold maxLen; omega) (by omega) (by simp; omega) (w3.heap.size + 1) (by simp) ?_))
        intro g' cap' w4 hown4 hgrow4 _ hlt4
        have hvb := fun g (e : v.ownBlock = some g) => (hrow3.lt g e).1
        obtain ⟨hbx4, hbx5, hrow5, hbl5, hkeep⟩ := lbox_stored hbx3 hrow3 (by omega) (by omega) hown4 hgrow4
        have hgs4 := hgrow4.size
        rw [World.size_alloc] at hgs4
        have hcp4 := (hgrow4.cell_far ⟨w.heap.size, 0, none⟩ (by simp; omega) (fun e => by have := hvb w.heap.size e.symm; omega)).trans hcp3a
        have hc4 := hbx4.c1
        have hf4 := hbx4.fz 1
        have hcp5 := ((grownBy_setCellAt w4 (w.heap.size + 2) 1 (.slice (some ⟨g', 0, none⟩) (pre.length + 1) cap')).cell_far ⟨w.heap.size, 0, none⟩ (by simp; omega) (fun e => by simp at e)).trans hcp4
        refine ⟨hcp4, held_one 7 (by kernel_rfl) (op_value (v := .pointer (some ⟨w.heap.size + 2, 1, none⟩)) (w' := w4) rfl rfl (by go_simp) ⟨hcp4, held_one 8 (by kernel_rfl) (op_skip (w' := w4.setCell ⟨w.heap.size + 2, 1, none⟩ (.slice (some ⟨g', 0, none⟩) (pre.length + 1) cap')) rfl rfl (by go_simp) ⟨hcp5, wpAnyH_done (by kernel_rfl) ?_ _⟩)⟩)⟩
        exact HD.out.end hb3' hbx5 hrow5 hbl5 hkeep
    case done =>
      rintro D W hD ⟨⟨v, hv, hrow⟩, hn, hl, hB, hsz⟩ hK
      obtain ⟨av, cv, rfl, _⟩ := row_form hrow
      have hl' : LBox (W.setCell ⟨w.heap.size + 1, 0, none⟩ (.int .i64 s.size)) (w.heap.size + 1) s.size (.slice none 0 0) := hl.set0 _
      have hc0 := hv.c0
      have hc1 := hv.c1
      have hr0 := hl.c0
      have hr1 := hl.c1
      have hf0 := hl.fz 0
      have hf1 := hl.fz 1
      have hr0' := hl'.c1
      have hf0' := hl'.fz 1
      have hl2 := hl'.set1 (.slice av (piecesOf s).length cv)
      have hg1 := grownBy_setCellAt W (w.heap.size + 1) 0 (.int .i64 s.size)
      have hg2 := grownBy_setCellAt (W.setCell ⟨w.heap.size + 1, 0, none⟩ (.int .i64 s.size)) (w.heap.size + 1) 1 (.slice av (piecesOf s).length cv)
      have hr2 := row_kept (row_kept hrow hg1 (by omega)) hg2 (by omega)
      have hB2 := (hB.setCell (p := ⟨w.heap.size + 1, 0, none⟩) (by simp) (.int .i64 s.size)).setCell (p := ⟨w.heap.size + 1, 1, none⟩) (by simp) (.slice av (piecesOf s).length cv)
      have hD4 : w.heap.size + 4 ≤ D := by simpa using hD
      have hDl : D < W.heap.size := (Array.getElem?_eq_some_iff.1 hK).1
      have hK1 := (hg1.block D hDl (fun e => by simp at e; omega)).trans hK
      have hK2 := (hg2.block D (Array.getElem?_eq_some_iff.1 hK1).1 (fun e => by simp at e; omega)).trans hK1
      have HR2 := hid hr2
      have HB2 := hid hB2
      have HL2 := hid hl2
      have HK2 := hid hK2
      clear hr2 hB2 hl2 hK2 hg1 hg2 hK1 hrow hB hv hl hl'
      gi_wp2
      refine ⟨by simp, .inl ⟨_, _, rfl, run_takeDeferred HK2.out, ?_⟩⟩
      have hl3 := HL2.out.kept (grownBy_putObj' _ D (.deferred none)) (fun e => by simp at e; omega)
      have h30 := hl3.c0
      have h31 := hl3.c1
      refine ⟨.agg #[.int .i64 s.size, .slice av (piecesOf s).length cv], by simp [results, Tryd.results32, go_sem, h30, h31], _, rfl, ?_, ?_⟩
      · rw [List.length_map]
        exact ownsRow_base (ownsRow_putObj HR2.out _ HK2.out rfl) (by omega)
      · exact HB2.out.trans (belowK_b (w := w) (Nat.le_refl _) _ D _ _ (by omega) HK2.out rfl rfl)
end Go.Proofs.YtooodilbehnnfaaDoor
