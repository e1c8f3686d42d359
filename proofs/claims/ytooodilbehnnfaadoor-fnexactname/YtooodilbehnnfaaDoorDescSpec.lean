/- spec.Describe: the list of a text. -/
import Derived.Test.YtooodilbehnnfaaDoorListBox
import Derived.Test.YtooodilbehnnfaaDoorHeld
namespace Go.Proofs.YtooodilbehnnfaaDoor
open Go.RowKit
set_option maxRecDepth 100000 in
set_option maxHeartbeats 2000000 in
theorem specDescribe_any (s : ByteArray) (n : Int) (w : World) (hs : s.size ≤ maxLen) :
    Calls Tryd.prog 29 #[.string s, .int .i64 n] w fun e w' => ∃ v, e = .returned (.agg #[.int .i64 (descN s n), v]) ∧ w'.ownsRow w.heap.size 9 1 v (descS s n).length ((descS s n).map Value.string) ∧ Below w.heap.size w w' := by
  obtain ⟨i0, hi, hz0, hz1, hz2⟩ := info_parts Tryd.info9
  have hs' := hs
  unfold maxLen at hs
  cases hh : hasL s n with
  | false =>
    have e1 : descN s n = 0 := by simp [descN, hh]
    have e2 : descS s n = [] := by simp [descS, hh]
    rw [e1, e2]; clear e1 e2
    cases hw : isW n with
    | false =>
      go_enter Tryd.func29, Tryd.ntmps29
      go_wp2_with (go_at_call 40; refine (l1Width_any _ _).mono ?_; rintro e w' ⟨rfl, rfl⟩)
      exact bodyPost_ret (v := .agg #[.int .i64 0, .slice none 0 0]) (by simp [results, Tryd.results29, go_sem]) rfl ⟨_, rfl, World.ownsRow_nil _ _ _ _, (Below.refl _ _).alloc (Nat.le_refl _) _⟩
    | true =>
      have h3 : ¬ (s.size ≤ 3000) := by simpa [hasL, hw] using hh
      go_enter Tryd.func29, Tryd.ntmps29
      go_wp2_with (go_at_call 40; refine (l1Width_any _ _).mono ?_; rintro e w' ⟨rfl, rfl⟩)
      exact bodyPost_ret (v := .agg #[.int .i64 0, .slice none 0 0]) (by simp [results, Tryd.results29, go_sem]) rfl ⟨_, rfl, World.ownsRow_nil _ _ _ _, (Below.refl _ _).alloc (Nat.le_refl _) _⟩
  | true =>
    have hw : isW n = true := by simp [hasL] at hh; exact hh.1
    have h3 : s.size ≤ 3000 := by simp [hasL] at hh; exact hh.2
    have e1 : descN s n = s.size := by simp [descN, hh]
    have e2 : descS s n = (piecesOf s).map (sumT n) := by simp [descS, hh]
    rw [e1, e2]; clear e1 e2
    have HS := hid fun (p : ByteArray) (hp : p.size ≤ 3000) W => specSum_any p n W (by unfold maxLen; omega)
    have HP := hid fun W => specPieces_any s W hs'
    have hn := piecesOf_len s
    have HZ := hid (piecesOf_size s)
    generalize piecesOf s = ps at *
    go_enter Tryd.func29, Tryd.ntmps29
    go_wp2_with (go_at_call 40; refine (l1Width_any _ _).mono ?_; rintro e w' ⟨rfl, rfl⟩)
    refine (HP.out _).mono ?_
    rintro e w2 ⟨vp, rfl, hop, hb2⟩
    rw [World.size_alloc, World.size_alloc] at hop hb2
    have hsz2 := hb2.size
    rw [World.size_alloc, World.size_alloc] at hsz2
    have bx : LBox w2 (w.heap.size + 1) s.size (.slice none 0 0) := by
      refine LBox.below (W := (w.alloc (.cells #[.int .i64 0, .slice none 0 0] 27)).alloc (.cells #[.int .i64 s.size, .slice none 0 0] 27)) ?_ (by rw [World.size_alloc, World.size_alloc]; exact hb2)
      have := World.alloc_heap_new (w.alloc (.cells #[.int .i64 0, .slice none 0 0] 27)) (.cells #[.int .i64 s.size, .slice none 0 0] 27)
      rwa [World.size_alloc] at this
    have br : LBox w2 w.heap.size 0 (.slice none 0 0) := by
      refine LBox.below (W := (w.alloc (.cells #[.int .i64 0, .slice none 0 0] 27)).alloc (.cells #[.int .i64 s.size, .slice none 0 0] 27)) ?_ (by rw [World.size_alloc, World.size_alloc]; exact hb2)
      exact LBox.alloc (World.alloc_heap_new w _) _
    have HB2 : Hid (Below w.heap.size w w2) := (((Below.refl _ w).alloc (Nat.le_refl _) _).alloc (by simp) _).trans (hb2.mono (by omega))
    obtain ⟨ap, capp, rfl, hap⟩ := row_form hop
    have HOP := hid hop
    clear hop hb2
    go_wp2
    go_loopw [7] (fun i wr => ∃ (k : Nat) (v : Value), k ≤ ps.length ∧ i = .int .i64 k ∧ w2.grownBy wr (some (w.heap.size + 1)) ∧ LBox wr (w.heap.size + 1) s.size v ∧ wr.ownsRow w2.heap.size 9 1 v k (((ps.take k).map (sumT n)).map Value.string)) (fun i _ => ps.length - (intOf i).toNat)
    case atStart => exact ⟨0, _, Nat.zero_le _, rfl, ⟨rfl, rfl, rfl, Nat.le_refl _, fun _ _ _ => rfl⟩, bx, World.ownsRow_nil _ _ _ _⟩
    case round =>
      clear bx
      obtain ⟨k, v, hk, rfl, hg, hbx, hrow⟩ := hrel
      by_cases hlt : k < ps.length
      · have hpr := row_kept HOP.out hg (by omega)
        obtain ⟨g, rfl, hgb⟩ := hap (by omega)
        have hg2 : g < w2.heap.size := (HOP.out.lt g rfl).2
        have hcp : wr.cell? ⟨g, k, none⟩ = some (.string (ps.getD k ByteArray.empty)) := by
          rw [hpr.cellAt k (by omega)]; simp [hlt]
        have hps : (ps.getD k ByteArray.empty).size ≤ 3000 := by
          rw [List.getD_eq_getElem?_getD, List.getElem?_eq_getElem hlt]; exact HZ.out _ (List.getElem_mem hlt)
        have HT : Hid ((ps.take (k + 1)).map (sumT n) = (ps.take k).map (sumT n) ++ [sumT n (ps.getD k ByteArray.empty)]) := by
          show _ = _
          rw [List.take_add_one, List.map_append]; simp [hlt]
        have HSk := hid fun W => HS.out (ps.getD k ByteArray.empty) hps W
        have hlw : g < wr.heap.size := World.block_lt_of_cell? wr ⟨g, k, none⟩ hcp
        change Hid (∀ W, Calls Tryd.prog 28 #[.string (ps.getD k ByteArray.empty), .int .i64 n] W fun e w' => e = .returned (.string (sumT n (ps.getD k ByteArray.empty))) ∧ Below W.heap.size W w') at HSk
        generalize ps.getD k ByteArray.empty = p at *
        have hne : g ≠ w.heap.size + 1 := by omega
        have hne' : w.heap.size + 1 ≠ g := by omega
        have hgs := hg.size
        have hc1 := hbx.c1
        have hf1 := hbx.fz 1
        have HBX := hid hbx
        have HROW := hid hrow
        have HG := hid hg
        clear hpr hbx hrow hg hap
        go_wp2_with fail
        refine wp_region_held (S := fun w' => w'.cell? ⟨g, k, none⟩ = some (.string p)) (by kernel_rfl) ?_
        change wpAnyH _ _ _ _ _ _ _ _ (World.drew _)
        have hS0 : wr.drew.cell? ⟨g, k, none⟩ = some (.string p) := hcp
        have hl0 : (0 : Int) ≤ (k : Int) := by omega
        have hl1 : (k : Int) < (ps.length : Int) := by omega
        refine wpAnyH_take (i := 0) (v := .pointer (some ⟨w.heap.size + 1, 1, none⟩)) rfl (by kernel_rfl) (by kernel_rfl) (by kernel_rfl) (fun _ _ _ h => h) (.inl ⟨rfl, fun w' hS => by go_simp⟩) hS0 ?_
        refine wpAnyH_take (i := 2) (v := .slice (some ⟨g, 0, none⟩) ps.length capp) rfl (by kernel_rfl) (by kernel_rfl) (by kernel_rfl) (fun _ _ _ h => h) (.inl ⟨rfl, fun w' hS => by go_simp⟩) hS0 ?_
        refine wpAnyH_take (i := 3) (v := .int .i64 k) rfl (by kernel_rfl) (by kernel_rfl) (by kernel_rfl) (fun _ _ _ h => h) (.inl ⟨rfl, fun w' hS => by go_simp⟩) hS0 ?_
        refine wpAnyH_take (i := 4) (v := .pointer (some ⟨g, k, none⟩)) rfl (by kernel_rfl) (by kernel_rfl) (by kernel_rfl) (fun _ _ _ h => h) (.inl ⟨rfl, fun w' hS => by go_simp⟩) hS0 ?_
        refine wpAnyH_take (i := 5) (v := .string p) rfl (by kernel_rfl) (by kernel_rfl) (by kernel_rfl) (fun _ _ _ h => h) (.inl ⟨rfl, fun w' hS => by go_simp⟩) hS0 ?_
        refine wpAnyH_take (i := 6) (v := .int .i64 n) rfl (by kernel_rfl) (by kernel_rfl) (by kernel_rfl) (fun _ _ _ h => h) (.inl ⟨rfl, fun w' hS => by go_simp⟩) hS0 ?_
        have hec := enters_of Tryd.func28 (by kernel_rfl) rfl
        have HF : Hid (∀ w3, Below wr.drew.heap.size wr.drew w3 → w3.cell? ⟨g, k, none⟩ = some (.string p) ∧ LBox w3 (w.heap.size + 1) s.size v ∧ w3.ownsRow w2.heap.size 9 1 v k (((ps.take k).map (sumT n)).map Value.string) ∧ w2.grownBy w3 (some (w.heap.size + 1)) ∧ wr.heap.size ≤ w3.heap.size) := fun w3 hb => by
          have hb' : Below wr.heap.size wr w3 := ⟨hb.os, hb.tape, hb.output, hb.size, hb.block⟩
          exact ⟨(hb'.cell (p := ⟨g, k, none⟩) hlw).trans hcp, HBX.out.below hb', Below.row hb' HROW.out, grownBy_trans HG.out (grown_of_below hb') (fun g e => by cases e), hb'.size⟩
        refine held_two 1 7 (by kernel_rfl) (op_value (v := v) (w' := wr.drew) rfl rfl (by go_simp) ⟨hS0, ?_⟩) (op_calls (f := 28) (args := #[.string p, .int .i64 n]) rfl rfl (by go_simp) (HSk.out _) ?_)
        refine held_one 7 (by kernel_rfl) (op_calls (f := 28) (args := #[.string p, .int .i64 n]) rfl rfl (by go_simp) (HSk.out _) ?_)
        rintro e w3 ⟨rfl, hb3⟩
        obtain ⟨hcp3, hbx3, hrow3, hg3, hs3⟩ := HF.out w3 hb3
        have hc3 := hbx3.c1
        have hc3a := (hbx3.alloc (.cells #[.string (sumT n p)] 9)).c1
        have hcp3a := ((World.grownBy_alloc w3 (.cells #[.string (sumT n p)] 9) none).cell_far ⟨g, k, none⟩ (by simp; omega) (by simp)).trans hcp3
        refine ⟨_, rfl, hcp3, held_one 8 (by kernel_rfl) (op_value (v := .slice (some ⟨w3.heap.size, 0, none⟩) 1 1) (w' := w3.alloc (.cells #[.string (sumT n p)] 9)) rfl rfl (by go_simp) ⟨hcp3a, ?_⟩)⟩
        rotate_left
        rintro e w3 ⟨rfl, hb3⟩
        obtain ⟨hcp3, hbx3, hrow3, hg3, hs3⟩ := HF.out w3 hb3
        have hc3 := hbx3.c1
        have hc3a := (hbx3.alloc (.cells #[.string (sumT n p)] 9)).c1
        have hcp3a := ((World.grownBy_alloc w3 (.cells #[.string (sumT n p)] 9) none).cell_far ⟨g, k, none⟩ (by simp; omega) (by simp)).trans hcp3
        refine ⟨_, rfl, hcp3, held_two 1 8 (by kernel_rfl) (op_value (v := v) (w' := w3) rfl rfl (by go_simp) ⟨hcp3, held_one 8 (by kernel_rfl) (op_value (v := .slice (some ⟨w3.heap.size, 0, none⟩) 1 1) (w' := w3.alloc (.cells #[.string (sumT n p)] 9)) rfl rfl (by go_simp) ⟨hcp3a, ?_⟩)⟩) (op_value (v := .slice (some ⟨w3.heap.size, 0, none⟩) 1 1) (w' := w3.alloc (.cells #[.string (sumT n p)] 9)) rfl rfl (by go_simp) ⟨hcp3a, held_one 1 (by kernel_rfl) (op_value (v := v) (w' := w3.alloc (.cells #[.string (sumT n p)] 9)) rfl rfl (by go_simp) ⟨hcp3a, ?_⟩)⟩)⟩
        all_goals
          refine held_one 9 (by kernel_rfl) (op_wp rfl rfl (wp_append_lies _ (.tmp 29) (.tmp 36) 22 rfl w2.heap.size 9 i0 (.string ⟨#[]⟩) 1 16 Tryd.underlying22 hi hz0 hz1 hz2 rfl (by decide) v k _ (by go_simp) (hrow3.alloc _) ⟨w3.heap.size, 0, none⟩ 1 1 [.string (sumT n p)] (by go_simp) rfl (cell_one_new _ _ _) (by simp [Value.oneCell']) (by decide) (by unfold maxLen; omega) (by omega) (by simp; omega) (w3.heap.size + 1) (by simp) ?_))
          intro g' cap' w4 hown4 hgrow4 _ hlt4
          have hvb := fun g (e : v.ownBlock = some g) => (hrow3.lt g e).1
          obtain ⟨hbx4, hbx5, hrow5, hbl5, hkeep⟩ := lbox_stored hbx3 hrow3 (by omega) (by omega) hown4 hgrow4
          have hgs4 := hgrow4.size
          rw [World.size_alloc] at hgs4
          have hcp4 := (hgrow4.cell_far ⟨g, k, none⟩ (by simp; omega) (fun e => by have := hvb g e.symm; omega)).trans hcp3a
          have hc4 := hbx4.c1
          have hf4 := hbx4.fz 1
          have hcp5 := ((grownBy_setCellAt w4 (w.heap.size + 1) 1 (.slice (some ⟨g', 0, none⟩) (k + 1) cap')).cell_far ⟨g, k, none⟩ (by simp; omega) (fun e => hne (by cases e; rfl))).trans hcp4
          refine ⟨hcp4, held_one 10 (by kernel_rfl) (op_value (v := .pointer (some ⟨w.heap.size + 1, 1, none⟩)) (w' := w4) rfl rfl (by go_simp) ⟨hcp4, held_one 11 (by kernel_rfl) (op_skip (w' := w4.setCell ⟨w.heap.size + 1, 1, none⟩ (.slice (some ⟨g', 0, none⟩) (k + 1) cap')) rfl rfl (by go_simp) ⟨hcp5, wpAnyH_done (by kernel_rfl) ?_ _⟩)⟩)⟩
          go_wp2
          refine ⟨⟨k + 1, _, by omega, by go_num, grownBy_trans (grownBy_trans (grownBy_trans hg3 (World.grownBy_alloc w3 _ none) (fun g e => by cases e)) hgrow4 (fun g e => .inr (hvb g e))) (grownBy_setCellAt w4 _ 1 _) (fun g e => .inl (by cases e; rfl)), hbx5, ?_⟩, by simp [intOf]; omega⟩
          rw [HT.out, List.map_append]; exact hrow5
      · obtain rfl : k = ps.length := by omega
        obtain ⟨av, cv, rfl, _⟩ := row_form hrow
        have hbr := br.kept hg (fun e => by simp at e)
        have hbr' : LBox (wr.setCell ⟨w.heap.size, 0, none⟩ (.int .i64 s.size)) w.heap.size s.size (.slice none 0 0) := hbr.set0 _
        have hr0' := hbr'.c1
        have hf0' := hbr'.fz 1
        have hc0 := hbx.c0
        have hc1 := hbx.c1
        have hr0 := hbr.c0
        have hr1 := hbr.c1
        have hf0 := hbr.fz 0
        have hf1 := hbr.fz 1
        have HX := hid hrow
        have HG := hid hg
        clear hrow hg
        go_wp2
        refine bodyPost_ret (v := .agg #[.int .i64 s.size, .slice av ps.length cv]) (by simp [results, Tryd.results29, go_sem, (hbr'.set1 (.slice av ps.length cv)).c0, (hbr'.set1 (.slice av ps.length cv)).c1]) rfl ⟨_, rfl, ?_, ?_⟩
        · have h1 := row_kept (row_kept HX.out (grownBy_setCellAt wr w.heap.size 0 (.int .i64 s.size)) (by omega)) (grownBy_setCellAt _ w.heap.size 1 (.slice av ps.length cv)) (by omega)
          rw [List.take_length] at h1
          rw [List.length_map]
          exact ownsRow_base h1 (by omega)
        · exact ((HB2.out.grown HG.out (by omega) (fun g e => by cases e; omega)).setCell (p := ⟨w.heap.size, 0, none⟩) (Nat.le_refl _) _).setCell (p := ⟨w.heap.size, 1, none⟩) (Nat.le_refl _) _
end Go.Proofs.YtooodilbehnnfaaDoor
