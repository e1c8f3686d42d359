/- spec.ReadList: read loosely, written again, compared. -/
import Derived.Test.YtkjdabnglcabiaaGreatDoorShort
import Derived.Test.YtkjdabnglcabiaaGreatDoorReadTurned
namespace Go.Proofs.YtkjdabnglcabiaaGreatDoor
open Go.RowKit
set_option maxRecDepth 100000 in
set_option maxHeartbeats 2000000 in
theorem specReadList_read (s : ByteArray) (m : Int) (w : World) (h6 : 6 ≤ s.size) (h7 : s.size ≤ 7000) (hw : s.data.toList.take 5 = [115, 105, 122, 101, 32]) :
  Calls Tryz.prog 101 #[.string s, .int .i64 m] w (ReadA s m w) := by
 obtain ⟨i0, hi, hz0, hz1, hz2⟩ := info_parts Tryz.info9
 have HB0 := hid ((Below.refl w.heap.size w).alloc (Nat.le_refl _) (.cells #[.int .i64 0, .slice none 0 0] 54))
 have HNEW : Hid (LBox (w.alloc (.cells #[.int .i64 0, .slice none 0 0] 54)) w.heap.size 0 (.slice none 0 0)) := World.alloc_heap_new w _
 have h' : ¬ ((s.size : Int) < 6) := by omega
 have h'' : ¬ ((7000 : Int) < (s.size : Int)) := by omega
 have hq : ((s.extract 0 5).toList == [115, 105, 122, 101, 32]) = true := by rw [word_eq s]; simpa using hw
 have h5 : (5 : Int) ≤ (s.size : Int) := by omega
 obtain ⟨L0, Lr, hls, hL0⟩ := first_len hw
 have hL05 : (5 : Int) ≤ (L0.size : Int) := by omega
 obtain ⟨hll, hlz⟩ := lines_sizes s h7
 have hL07 : L0.size ≤ 7000 := by have := hlz 0; rw [hls] at this; simpa using this
 have HCUT := hid fun W => l3Cut_any s W (by omega)
 have HNUM := hid fun W => l3Number_any (L0.extract 5 L0.size) W (by rw [ByteArray.size_extract]; unfold maxLen; omega)
 have HYES := hid fun (r : Int) (ss : List ByteArray) (e : formR r ss m = s) => loose_yes h6 e
 have HNO := hid fun (r : Int) (hr : NumR (L0.extract 5 L0.size) r) (e : formR r (secs (linesOf s)) m ≠ s) => loose_no (m := m) (by rw [hls]; rfl) hr e
 obtain ⟨sl, sz⟩ := secs_sizes s h7
 have HF := hid fun (r : Int) W v (hr : Reads W v (secs (linesOf s))) => specFormList_any r v (secs (linesOf s)) m W hr (by unfold maxLen; omega) (fun i => by have := sz i; unfold maxLen; omega)
 have HLZ := hid hlz
 have hln : 1 ≤ (linesOf s).length := by rw [hls]; simp
 have HL0 : Hid ((linesOf s).getD 0 ByteArray.empty = L0) := by show _ = _; rw [hls]; rfl
 have HEND := hid (secTo_end (linesOf s))
 have HSTEP := hid (secTo_step (linesOf s))
 have HSL := hid (secTo_len (linesOf s))
 clear hlz sl sz hw hls
 generalize linesOf s = ls at *
 go_enter Tryz.func101, Tryz.ntmps101
 go_wp2_with fail
 refine (HCUT.out _).mono ?_
 rintro e w1 ⟨vl, rfl, hol, hb1⟩
 rw [World.size_alloc] at hol hb1
 obtain ⟨al, capl, rfl, hal⟩ := row_form hol
 obtain ⟨g, rfl, hgb⟩ := hal (by omega)
 have hcl : ∀ k, k < ls.length → w1.cell? ⟨g, k, none⟩ = some (.string (ls.getD k ByteArray.empty)) := fun k hk => by
  rw [hol.cellAt k (by omega)]; simp [hk]
 have hc0 := hcl 0 (by omega)
 rw [HL0.out] at hc0
 have HCL := hid hcl
 have HB1 : Hid (Below w.heap.size w w1) := HB0.out.trans (hb1.mono (by omega))
 have HX1 : Hid (LBox w1 w.heap.size 0 (.slice none 0 0)) := HNEW.out.below (by rw [World.size_alloc]; exact hb1)
 have hg1 : g < w1.heap.size := (hol.lt g rfl).2
 have hgw : w.heap.size < g := by have := (hol.lt g rfl).1; omega
 have hln' : (0 : Int) < (ls.length : Int) := by omega
 clear hcl hol hb1 hal hgb
 go_wp2_with fail
 refine (HNUM.out _).mono ?_
 rintro e w2 ⟨r, rfl, hr, hb2⟩
 have HR := hid hr
 have HB2 : Hid (Below w.heap.size w w2) := HB1.out.trans (hb2.mono HB1.out.size)
 have hw2 := HB2.out.size
 have HX2 : Hid (LBox w2 w.heap.size 0 (.slice none 0 0)) := HX1.out.below hb2
 have HCL2 : Hid (∀ k, k < ls.length → w2.cell? ⟨g, k, none⟩ = some (.string (ls.getD k ByteArray.empty))) := fun k hk => (hb2.cell (p := ⟨g, k, none⟩) hg1).trans (HCL.out k hk)
 have hs2 := hb2.size
 clear hr hb2 hc0 HCL HX1 HB1
 go_wp2
 have bx : LBox (w2.alloc (.cells #[.int .i64 r, .slice none 0 0] 54)) w2.heap.size r (.slice none 0 0) := World.alloc_heap_new w2 _
 have br : LBox (w2.alloc (.cells #[.int .i64 r, .slice none 0 0] 54)) w.heap.size 0 (.slice none 0 0) := HX2.out.alloc _
 have HCL3 : Hid (∀ k, k < ls.length → (w2.alloc (.cells #[.int .i64 r, .slice none 0 0] 54)).cell? ⟨g, k, none⟩ = some (.string (ls.getD k ByteArray.empty))) := fun k hk => (World.cell?_alloc_lt _ _ ⟨g, k, none⟩ (by show g < _; omega)).trans (HCL2.out k hk)
 have HB3 := hid (HB2.out.alloc hw2 (.cells #[.int .i64 r, .slice none 0 0] 54))
 have hs3 : (w2.alloc (.cells #[.int .i64 r, .slice none 0 0] 54)).heap.size = w2.heap.size + 1 := World.size_alloc _ _
 generalize w2.alloc (.cells #[.int .i64 r, .slice none 0 0] 54) = w3 at *
 generalize w2.heap.size = B at *
 have HBR := hid br
 clear br HX2 HCL2 HB2
 go_loopw [8] (fun i wr => ∃ (j : Nat) (v : Value), j ≤ ls.length - 2 ∧ i = .int .i64 ((j : Int) + 1) ∧ w3.grownBy wr (some B) ∧ LBox wr B r v ∧ wr.ownsRow w3.heap.size 9 1 v j ((secTo ls j).map Value.string)) (fun i _ => ls.length - (intOf i).toNat)
 case atStart => exact ⟨0, _, Nat.zero_le _, rfl, ⟨rfl, rfl, rfl, Nat.le_refl _, fun _ _ _ => rfl⟩, bx, World.ownsRow_nil _ _ _ _⟩
 case round =>
  clear bx
  obtain ⟨j, v, hj, rfl, hg, hbx, hrow⟩ := hrel
  by_cases hlt : j + 2 < ls.length
  ·have hcp : wr.cell? ⟨g, j + 1, none⟩ = some (.string (ls.getD (j + 1) ByteArray.empty)) := (hg.cell_far ⟨g, j + 1, none⟩ (by show g < _; omega) (fun e => by simp at e; omega)).trans (HCL3.out (j + 1) (by omega))
   have hps := HLZ.out (j + 1)
   have HT := hid (HSTEP.out j (by omega))
   have HSk := hid fun W => l3Bytes_any (ls.getD (j + 1) ByteArray.empty) W (by omega)
   have hlw : g < wr.heap.size := World.block_lt_of_cell? wr ⟨g, j + 1, none⟩ hcp
   change Hid (∀ W, Calls Tryz.prog 118 #[.string (ls.getD (j + 1) ByteArray.empty)] W fun e w' => e = .returned (.string (byB (ls.getD (j + 1) ByteArray.empty))) ∧ Below W.heap.size W w') at HSk
   generalize ls.getD (j + 1) ByteArray.empty = p at *
   have hne : g ≠ B := by omega
   have hne' : B ≠ g := by omega
   have hgs := hg.size
   have hc1 := hbx.c1
   have hf1 := hbx.fz 1
   have HBX := hid hbx
   have HROW := hid hrow
   have HG := hid hg
   have hl0 : (0 : Int) ≤ (j : Int) + 1 := by omega
   have hl1 : (j : Int) + 1 < (ls.length : Int) := by omega
   have hl2 : (j : Int) + 1 + 1 < (ls.length : Int) := by omega
   have hln2 : (ls.length : Int) ≤ 7001 := by omega
   clear hbx hrow hg
   go_wp2_with fail
   refine wp_region_held (S := fun w' => w'.cell? ⟨g, j + 1, none⟩ = some (.string p)) (by kernel_rfl) ?_
   change wpAnyH _ _ _ _ _ _ _ _ (World.drew _)
   have hS0 : wr.drew.cell? ⟨g, j + 1, none⟩ = some (.string p) := hcp
   refine tkA 0 (.pointer (some ⟨B, 1, none⟩)) rfl hS0 ?_
   refine tkA 2 (.slice (some ⟨g, 0, none⟩) ls.length capl) rfl hS0 ?_
   refine tkA 3 (.int .i64 ((j : Int) + 1)) rfl hS0 ?_
   refine tkA 4 (.pointer (some ⟨g, j + 1, none⟩)) rfl hS0 ?_
   refine tkA 5 (.string p) rfl hS0 ?_
   have hec := enters_of Tryz.func118 (by kernel_rfl) rfl
   have HF3 : Hid (∀ w5, Below wr.drew.heap.size wr.drew w5 → w5.cell? ⟨g, j + 1, none⟩ = some (.string p) ∧ LBox w5 B r v ∧ w5.ownsRow w3.heap.size 9 1 v j ((secTo ls j).map Value.string) ∧ w3.grownBy w5 (some B) ∧ wr.heap.size ≤ w5.heap.size) := fun w5 hb => by
    have hb' : Below wr.heap.size wr w5 := ⟨hb.os, hb.tape, hb.output, hb.size, hb.block⟩
    exact ⟨(hb'.cell (p := ⟨g, j + 1, none⟩) hlw).trans hcp, HBX.out.below hb', Below.row hb' HROW.out, grownBy_trans HG.out (grown_of_below hb') (fun g e => by cases e), hb'.size⟩
   refine held_two 1 6 (by kernel_rfl) (op_value (v := v) (w' := wr.drew) rfl rfl (by go_simp) ⟨hS0, ?_⟩) (op_calls (f := 118) (args := #[.string p]) rfl rfl (by go_simp) (HSk.out _) ?_)
   refine held_one 6 (by kernel_rfl) (op_calls (f := 118) (args := #[.string p]) rfl rfl (by go_simp) (HSk.out _) ?_)
   rintro e w5 ⟨rfl, hb5⟩
   obtain ⟨hcp3, hbx3, hrow3, hg3, hs5⟩ := HF3.out w5 hb5
   have hc3 := hbx3.c1
   have hc3a := (hbx3.alloc (.cells #[.string (byB p)] 9)).c1
   have hcp3a := ((World.grownBy_alloc w5 (.cells #[.string (byB p)] 9) none).cell_far ⟨g, j + 1, none⟩ (by simp; omega) (by simp)).trans hcp3
   refine ⟨_, rfl, hcp3, held_one 7 (by kernel_rfl) (op_value (v := .slice (some ⟨w5.heap.size, 0, none⟩) 1 1) (w' := w5.alloc (.cells #[.string (byB p)] 9)) rfl rfl (by go_simp) ⟨hcp3a, ?_⟩)⟩
   rotate_left
   rintro e w5 ⟨rfl, hb5⟩
   obtain ⟨hcp3, hbx3, hrow3, hg3, hs5⟩ := HF3.out w5 hb5
   have hc3 := hbx3.c1
   have hc3a := (hbx3.alloc (.cells #[.string (byB p)] 9)).c1
   have hcp3a := ((World.grownBy_alloc w5 (.cells #[.string (byB p)] 9) none).cell_far ⟨g, j + 1, none⟩ (by simp; omega) (by simp)).trans hcp3
   refine ⟨_, rfl, hcp3, held_two 1 7 (by kernel_rfl) (op_value (v := v) (w' := w5) rfl rfl (by go_simp) ⟨hcp3, held_one 7 (by kernel_rfl) (op_value (v := .slice (some ⟨w5.heap.size, 0, none⟩) 1 1) (w' := w5.alloc (.cells #[.string (byB p)] 9)) rfl rfl (by go_simp) ⟨hcp3a, ?_⟩)⟩) (op_value (v := .slice (some ⟨w5.heap.size, 0, none⟩) 1 1) (w' := w5.alloc (.cells #[.string (byB p)] 9)) rfl rfl (by go_simp) ⟨hcp3a, held_one 1 (by kernel_rfl) (op_value (v := v) (w' := w5.alloc (.cells #[.string (byB p)] 9)) rfl rfl (by go_simp) ⟨hcp3a, ?_⟩)⟩)⟩
   all_goals
    refine held_one 8 (by kernel_rfl) (op_wp rfl rfl (wp_append_lies _ (.tmp 39) (.tmp 45) 24 rfl w3.heap.size 9 i0 (.string ⟨#[]⟩) 1 16 Tryz.underlying24 hi hz0 hz1 hz2 rfl (by decide) v j _ (by go_simp) (hrow3.alloc _) ⟨w5.heap.size, 0, none⟩ 1 1 [.string (byB p)] (by go_simp) rfl (cell_one_new _ _ _) (by simp [Value.oneCell']) (by decide) (by unfold maxLen; omega) (by omega) (by simp; omega) (w5.heap.size + 1) (by simp) ?_))
    intro g' cap' w6 hown6 hgrow6 _ hlt6
    have hvb := fun g (e : v.ownBlock = some g) => (hrow3.lt g e).1
    obtain ⟨hbx4, hbx5, hrow5, hbl5, hkeep⟩ := lbox_stored hbx3 hrow3 (by omega) (by omega) hown6 hgrow6
    have hgs4 := hgrow6.size
    rw [World.size_alloc] at hgs4
    have hcp4 := (hgrow6.cell_far ⟨g, j + 1, none⟩ (by simp; omega) (fun e => by have := hvb g e.symm; omega)).trans hcp3a
    have hc4 := hbx4.c1
    have hf4 := hbx4.fz 1
    have hcp5 := ((grownBy_setCellAt w6 B 1 (.slice (some ⟨g', 0, none⟩) (j + 1) cap')).cell_far ⟨g, j + 1, none⟩ (by simp; omega) (fun e => hne (by cases e; rfl))).trans hcp4
    refine ⟨hcp4, held_one 9 (by kernel_rfl) (op_value (v := .pointer (some ⟨B, 1, none⟩)) (w' := w6) rfl rfl (by go_simp) ⟨hcp4, held_one 10 (by kernel_rfl) (op_skip (w' := w6.setCell ⟨B, 1, none⟩ (.slice (some ⟨g', 0, none⟩) (j + 1) cap')) rfl rfl (by go_simp) ⟨hcp5, wpAnyH_done (by kernel_rfl) ?_ _⟩)⟩)⟩
    go_wp2
    refine ⟨⟨j + 1, _, by omega, by go_num, grownBy_trans (grownBy_trans (grownBy_trans hg3 (World.grownBy_alloc w5 _ none) (fun g e => by cases e)) hgrow6 (fun g e => .inr (hvb g e))) (grownBy_setCellAt w6 _ 1 _) (fun g e => .inl (by cases e; rfl)), hbx5, ?_⟩, by simp [intOf]; omega⟩
    rw [HT.out, List.map_append]; exact hrow5
  ·obtain rfl : j = ls.length - 2 := by omega
   have hlx : ¬ (((ls.length - 2 : Nat) : Int) + 1 + 1 < (ls.length : Int)) := by omega
   have hlb : ((ls.length - 2 : Nat) : Int) + 1 + 1 ≤ 7003 := by omega
   rw [HEND.out] at hrow
   have hsl := HSL.out (ls.length - 2) (Nat.le_refl _)
   rw [HEND.out] at hsl
   rw [← hsl] at hrow
   have hrd : Reads wr v (secs ls) := Reads.of_row hrow
   have HFM := hid (HF.out r wr v hrd)
   obtain ⟨av, cv, rfl, _⟩ := row_form hrow
   have hbr := HBR.out.kept hg (fun e => by simp at e; omega)
   have hc0 := hbx.c0
   have hc1 := hbx.c1
   have HX := hid hrow
   have HG := hid hg
   have HBX := hid hbx
   have HBR2 := hid hbr
   have HBW : Hid (Below w.heap.size w wr) := HB3.out.grown hg (by omega) (fun g e => by cases e; omega)
   have HY := hid (HYES.out r (secs ls))
   have HN := hid (HNO.out r HR.out)
   generalize formR r (secs ls) m = fr at *
   clear hrow hg hbx hbr hrd hsl HF HYES HNO
   go_wp2_with fail
   refine HFM.out.mono ?_
   rintro e w7 ⟨rfl, hb7⟩
   have x7 := HBX.out.below hb7
   have y7 := HBR2.out.below hb7
   have c0 := x7.c0
   have c1 := x7.c1
   have d0 := y7.c0
   have d1 := y7.c1
   have f0 := y7.fz 0
   have HB7 := hid (HBW.out.trans (hb7.mono HBW.out.size))
   have HX7 := hid (Below.row hb7 HX.out)
   clear hb7 hc0 hc1
   by_cases he : fr.toList = s.toList
   ·have he' : (fr.toList == s.toList) = true := by simpa using he
    have HE := hid (HY.out (bytes_ext (by rwa [ByteArray.toList_eq, ByteArray.toList_eq] at he)))
    have y8 : LBox (w7.setCell ⟨w.heap.size, 0, none⟩ (.int .i64 r)) w.heap.size r (.slice none 0 0) := y7.set0 _
    have d8 := y8.c1
    have f8 := y8.fz 1
    have y9 := y8.set1 (.slice av (secs ls).length cv)
    clear he x7 y7 y8
    go_wp2
    refine bodyPost_ret (v := .tuple #[.agg #[.int .i64 r, .slice av (secs ls).length cv], .bool true]) (by simp [results, Tryz.results101, go_sem, y9.c0, y9.c1]) rfl ⟨_, r, secs ls, true, rfl, HE.out, ?_, ?_⟩
    ·have h1 := row_kept (row_kept HX7.out (grownBy_setCellAt w7 w.heap.size 0 (.int .i64 r)) (by omega)) (grownBy_setCellAt _ w.heap.size 1 (.slice av (secs ls).length cv)) (by omega)
     exact ownsRow_base h1 (by omega)
    ·exact (HB7.out.setCell (p := ⟨w.heap.size, 0, none⟩) (Nat.le_refl _) _).setCell (p := ⟨w.heap.size, 1, none⟩) (Nat.le_refl _) _
   ·have he' : (fr.toList == s.toList) = false := by simpa using he
    have HE := hid (HN.out (fun e => he (by rw [e])))
    have y8 : LBox (w7.setCell ⟨w.heap.size, 0, none⟩ (.int .i64 0)) w.heap.size 0 (.slice none 0 0) := y7.set0 _
    have d8 := y8.c1
    have f8 := y8.fz 1
    have y9 := y8.set1 (.slice none 0 0)
    clear he x7 y7 y8
    go_wp2
    refine bodyPost_ret (v := .tuple #[.agg #[.int .i64 0, .slice none 0 0], .bool false]) (by simp [results, Tryz.results101, go_sem, y9.c0, y9.c1]) rfl (ReadA.no HE.out ?_)
    exact (HB7.out.setCell (p := ⟨w.heap.size, 0, none⟩) (Nat.le_refl _) _).setCell (p := ⟨w.heap.size, 1, none⟩) (Nat.le_refl _) _
theorem specReadList_any (s : ByteArray) (m : Int) (w : World) (hs : s.size ≤ maxLen) : Calls Tryz.prog 101 #[.string s, .int .i64 m] w (ReadA s m w) := by
 by_cases h : s.size < 6 ∨ 7000 < s.size ∨ (6 ≤ s.size ∧ s.size ≤ 7000 ∧ s.data.toList.take 5 ≠ [115, 105, 122, 101, 32])
 ·exact specReadList_turned s m w hs h
 ·refine specReadList_read s m w (by omega) (by omega) (Decidable.byContradiction fun hw => h (.inr (.inr ⟨by omega, by omega, hw⟩)))
end Go.Proofs.YtkjdabnglcabiaaGreatDoor
