/- impl.cloneNote: a note in memory of its own. -/
import Derived.Test.YtnpfnafalkejnaaAreSums
import Derived.Test.YtnpfnafalkejnaaBlk
namespace Go.Proofs.Ytnpfnafalkejnaa
open Go.RowKit
set_option maxRecDepth 100000 in
set_option maxHeartbeats 1000000 in
theorem cloneNote_any (f t m : ByteArray) (c : Int) (h : Bool) (v : Value) (ss : List ByteArray) (w : World) (hv : Reads w v ss) (hl : ss.length ≤ 1048576) (hsz : ∀ i, (tv ss i).size ≤ 1048576) (hf : f.size ≤ 1048576) (ht : t.size ≤ 1048576) :
    Calls Try.prog 26 #[.agg #[.string f, .string t, .int .i64 c, .string m, .bool h, v]] w fun e w' => ∃ v', e = .returned (.agg #[.string f, .string t, .int .i64 c, .string m, .bool h, v']) ∧ w'.ownsRow w.heap.size 9 1 v' ss.length (ss.map Value.string) ∧ Below w.heap.size w w' := by
  have hf' : f.size ≤ 281474976710656 := by omega
  have ht' : t.size ≤ 281474976710656 := by omega
  have HF := hid fun W => stringsClone_any f W hf'
  have HT := hid fun W => stringsClone_any t W ht'
  have HC := hid fun W h => cloneTexts_any v ss W h hl hsz
  have hN1 := (Blk.new w 25 #[.string f, .string t, .int .i64 c, .string m, .bool h, v]).alloc (.cells #[.string ⟨#[]⟩, .string ⟨#[]⟩, .int .i64 0, .string ⟨#[]⟩, .bool false, .slice none 0 0] 25)
  have hN2 := Blk.new (w.alloc (.cells #[.string f, .string t, .int .i64 c, .string m, .bool h, v] 25)) 25 #[.string ⟨#[]⟩, .string ⟨#[]⟩, .int .i64 0, .string ⟨#[]⟩, .bool false, .slice none 0 0]
  rw [World.size_alloc] at hN2
  have hA := ((Below.refl w.heap.size w).alloc (Nat.le_refl _) (.cells #[.string f, .string t, .int .i64 c, .string m, .bool h, v] 25)).alloc (by simp) (.cells #[.string ⟨#[]⟩, .string ⟨#[]⟩, .int .i64 0, .string ⟨#[]⟩, .bool false, .slice none 0 0] 25)
  obtain ⟨a, ca, rfl, _⟩ := hv.form
  have HV := hid hv
  have HN1 := hid hN1
  have HN2 := hid hN2
  have HA := hid hA
  clear hv hsz hN1 hN2 hA hf ht hf' ht'
  go_enter Try.func26, Try.ntmps26
  go_wp2_with fail
  refine wp_region_held (S := fun w' => w'.cell? ⟨w.heap.size, 0, none⟩ = some (.string f) ∧ w'.cell? ⟨w.heap.size, 1, none⟩ = some (.string t)) (by kernel_rfl) ?_
  change wpAnyH _ _ _ _ _ _ _ _ (World.drew _)
  have e0 := HN1.out.cell 0
  have e1 := HN1.out.cell 1
  have hS0 : (((w.alloc (.cells #[.string f, .string t, .int .i64 c, .string m, .bool h, .slice a ss.length ca] 25)).alloc (.cells #[.string ⟨#[]⟩, .string ⟨#[]⟩, .int .i64 0, .string ⟨#[]⟩, .bool false, .slice none 0 0] 25)).drew).cell? ⟨w.heap.size, 0, none⟩ = some (.string f) ∧ (((w.alloc (.cells #[.string f, .string t, .int .i64 c, .string m, .bool h, .slice a ss.length ca] 25)).alloc (.cells #[.string ⟨#[]⟩, .string ⟨#[]⟩, .int .i64 0, .string ⟨#[]⟩, .bool false, .slice none 0 0] 25)).drew).cell? ⟨w.heap.size, 1, none⟩ = some (.string t) := ⟨e0, e1⟩
  refine wpAnyH_take (i := 0) (v := .pointer (some ⟨w.heap.size, 0, none⟩)) rfl (by kernel_rfl) (by kernel_rfl) (by kernel_rfl) (fun _ _ _ h => h) (.inl ⟨rfl, fun w' hS => by obtain ⟨s1, s2⟩ := hS; go_simp⟩) hS0 ?_
  refine wpAnyH_take (i := 1) (v := .string f) rfl (by kernel_rfl) (by kernel_rfl) (by kernel_rfl) (fun _ _ _ h => h) (.inl ⟨rfl, fun w' hS => by obtain ⟨s1, s2⟩ := hS; go_simp⟩) hS0 ?_
  refine wpAnyH_take (i := 3) (v := .pointer (some ⟨w.heap.size, 1, none⟩)) rfl (by kernel_rfl) (by kernel_rfl) (by kernel_rfl) (fun _ _ _ h => h) (.inl ⟨rfl, fun w' hS => by obtain ⟨s1, s2⟩ := hS; go_simp⟩) hS0 ?_
  refine wpAnyH_take (i := 4) (v := .string t) rfl (by kernel_rfl) (by kernel_rfl) (by kernel_rfl) (fun _ _ _ h => h) (.inl ⟨rfl, fun w' hS => by obtain ⟨s1, s2⟩ := hS; go_simp⟩) hS0 ?_
  have hec := enters_of Try.func39 (by kernel_rfl) rfl
  refine held_one 2 (by kernel_rfl) (op_calls (f := 39) (args := #[.string f]) rfl rfl (by go_simp) (HF.out _) ?_)
  rintro e w1 ⟨rfl, hb1⟩
  have hb1' : Below ((w.alloc (.cells #[.string f, .string t, .int .i64 c, .string m, .bool h, .slice a ss.length ca] 25)).alloc (.cells #[.string ⟨#[]⟩, .string ⟨#[]⟩, .int .i64 0, .string ⟨#[]⟩, .bool false, .slice none 0 0] 25)).heap.size ((w.alloc (.cells #[.string f, .string t, .int .i64 c, .string m, .bool h, .slice a ss.length ca] 25)).alloc (.cells #[.string ⟨#[]⟩, .string ⟨#[]⟩, .int .i64 0, .string ⟨#[]⟩, .bool false, .slice none 0 0] 25)) w1 := ⟨hb1.os, hb1.tape, hb1.output, hb1.size, hb1.block⟩
  have N1a := HN1.out.below hb1'
  have N2a := HN2.out.below hb1'
  have Ba := HA.out.trans (hb1'.mono (by simp; omega))
  clear hb1 hS0 e0 e1
  have hS1 : w1.cell? ⟨w.heap.size, 0, none⟩ = some (.string f) ∧ w1.cell? ⟨w.heap.size, 1, none⟩ = some (.string t) := ⟨N1a.cell 0, N1a.cell 1⟩
  refine ⟨_, rfl, hS1, ?_⟩
  refine wpAnyH_take (i := 6) (v := .pointer (some ⟨w.heap.size, 0, none⟩)) rfl (by kernel_rfl) (by kernel_rfl) (by kernel_rfl) (fun _ _ _ h => h) (.inl ⟨rfl, fun w' hS => by obtain ⟨s1, s2⟩ := hS; go_simp⟩) hS1 ?_
  clear hS1
  refine held_one 5 (by kernel_rfl) (op_calls (f := 39) (args := #[.string t]) rfl rfl (by go_simp) (HT.out _) ?_)
  rintro e w2 ⟨rfl, hb2⟩
  have N1b := N1a.below hb2
  have N2b := N2a.below hb2
  have Bb := Ba.trans (hb2.mono Ba.size)
  clear hb2 N1a N2a Ba hb1'
  refine ⟨_, rfl, ⟨N1b.cell 0, N1b.cell 1⟩, ?_⟩
  have c0 := N1b.cell 0
  have c1 := N1b.cell 1
  have f0 := N1b.fz 0
  have f1 := N1b.fz 1
  have N1c := N1b.set 0 (.string f)
  have d0 := N1c.cell 0
  have d1 := N1c.cell 1
  have d2 := N1c.fz 1
  have N1d := N1c.set 1 (.string t)
  have g2 := grownBy_setCellAt w2 w.heap.size 0 (.string f)
  have g1 := grownBy_setCellAt (w2.setCell ⟨w.heap.size, 0, none⟩ (.string f)) w.heap.size 1 (.string t)
  have N2d := (N2b.kept g2 (fun e => by simp at e)).kept g1 (fun e => by simp at e)
  have Bd := (Bb.setCell (p := ⟨w.heap.size, 0, none⟩) (Nat.le_refl _) (.string f)).setCell (p := ⟨w.heap.size, 1, none⟩) (Nat.le_refl _) (.string t)
  have hS2 : (w2.setCell ⟨w.heap.size, 0, none⟩ (.string f)).cell? ⟨w.heap.size, 0, none⟩ = some (.string f) ∧ (w2.setCell ⟨w.heap.size, 0, none⟩ (.string f)).cell? ⟨w.heap.size, 1, none⟩ = some (.string t) := ⟨d0, d1⟩
  have hS3 : ((w2.setCell ⟨w.heap.size, 0, none⟩ (.string f)).setCell ⟨w.heap.size, 1, none⟩ (.string t)).cell? ⟨w.heap.size, 0, none⟩ = some (.string f) ∧ ((w2.setCell ⟨w.heap.size, 0, none⟩ (.string f)).setCell ⟨w.heap.size, 1, none⟩ (.string t)).cell? ⟨w.heap.size, 1, none⟩ = some (.string t) := ⟨N1d.cell 0, N1d.cell 1⟩
  refine held_one 7 (by kernel_rfl) (op_skip (w' := w2.setCell ⟨w.heap.size, 0, none⟩ (.string f)) rfl rfl (by go_simp) ⟨hS2, ?_⟩)
  refine wpAnyH_take (i := 8) (v := .pointer (some ⟨w.heap.size, 1, none⟩)) rfl (by kernel_rfl) (by kernel_rfl) (by kernel_rfl) (fun _ _ _ h => h) (.inl ⟨rfl, fun w' hS => by obtain ⟨s1, s2⟩ := hS; go_simp⟩) hS2 ?_
  refine held_one 9 (by kernel_rfl) (op_skip (w' := (w2.setCell ⟨w.heap.size, 0, none⟩ (.string f)).setCell ⟨w.heap.size, 1, none⟩ (.string t)) rfl rfl (by go_simp) ⟨hS3, wpAnyH_done (by kernel_rfl) ?_ _⟩)
  have HR := hid (HC.out _ (HV.out.below (Bd)))
  have M1 := hid N1d
  have M2 := hid N2d
  have MB := hid Bd
  have r5 := N1d.cell 5
  clear hS2 hS3 d0 d1 d2 c0 c1 f0 f1 N1b N2b Bb N1c N1d g2 g1 N2d Bd
  generalize (w2.setCell ⟨w.heap.size, 0, none⟩ (.string f)).setCell ⟨w.heap.size, 1, none⟩ (.string t) = w3 at *
  change w3.cell? ⟨w.heap.size, 5, none⟩ = some (.slice a ss.length ca) at r5
  go_simp
  go_wp2_with fail
  refine HR.out.mono ?_
  rintro e w4 ⟨v4, rfl, ho4, hb4⟩
  obtain ⟨a4, c4, rfl, _⟩ := row_form ho4
  have K1 := M1.out.below hb4
  have K2 := M2.out.below hb4
  have KB := MB.out.trans (hb4.mono MB.out.size)
  have k5 := K1.cell 5
  have kf := K1.fz 5
  have K1s := K1.set 5 (.slice a4 ss.length c4)
  have gs := grownBy_setCellAt w4 w.heap.size 5 (.slice a4 ss.length c4)
  have K2s := K2.kept gs (fun e => by simp at e)
  have KBs := KB.setCell (p := ⟨w.heap.size, 5, none⟩) (Nat.le_refl _) (.slice a4 ss.length c4)
  have hs3 := MB.out.size
  have hlt := M1.out.lt
  have O4 := hid (row_kept ho4 gs (by omega))
  have l0 : (w4.setCell ⟨w.heap.size, 5, none⟩ (.slice a4 ss.length c4)).cell? ⟨w.heap.size, 0, none⟩ = some (.string f) := K1s.cell 0
  have l1 : (w4.setCell ⟨w.heap.size, 5, none⟩ (.slice a4 ss.length c4)).cell? ⟨w.heap.size, 1, none⟩ = some (.string t) := K1s.cell 1
  have l2 : (w4.setCell ⟨w.heap.size, 5, none⟩ (.slice a4 ss.length c4)).cell? ⟨w.heap.size, 2, none⟩ = some (.int .i64 c) := K1s.cell 2
  have l3 : (w4.setCell ⟨w.heap.size, 5, none⟩ (.slice a4 ss.length c4)).cell? ⟨w.heap.size, 3, none⟩ = some (.string m) := K1s.cell 3
  have l4 : (w4.setCell ⟨w.heap.size, 5, none⟩ (.slice a4 ss.length c4)).cell? ⟨w.heap.size, 4, none⟩ = some (.bool h) := K1s.cell 4
  have l5 : (w4.setCell ⟨w.heap.size, 5, none⟩ (.slice a4 ss.length c4)).cell? ⟨w.heap.size, 5, none⟩ = some (.slice a4 ss.length c4) := K1s.cell 5
  have s := K2s.store6 (.string f) (.string t) (.int .i64 c) (.string m) (.bool h) (.slice a4 ss.length c4)
  have s0 := s.a0; have s1 := s.a1; have s2 := s.a2; have s3 := s.a3; have s4 := s.a4; have s5 := s.a5
  have g0 := s.f0; have g1 := s.f1; have g2 := s.f2; have g3 := s.f3; have g4 := s.f4; have g5 := s.f5
  have Z := hid s.z
  have BB := hid ((((((KBs.setCell (p := ⟨w.heap.size + 1, 0, none⟩) (by simp) (.string f)).setCell (p := ⟨w.heap.size + 1, 1, none⟩) (by simp) (.string t)).setCell (p := ⟨w.heap.size + 1, 2, none⟩) (by simp) (.int .i64 c)).setCell (p := ⟨w.heap.size + 1, 3, none⟩) (by simp) (.string m)).setCell (p := ⟨w.heap.size + 1, 4, none⟩) (by simp) (.bool h)).setCell (p := ⟨w.heap.size + 1, 5, none⟩) (by simp) (.slice a4 ss.length c4))
  have hlt2 := M2.out.lt
  have OO := hid (row_kept (row_kept (row_kept (row_kept (row_kept (row_kept O4.out (grownBy_setCellAt _ (w.heap.size + 1) 0 (.string f)) (by omega)) (grownBy_setCellAt _ (w.heap.size + 1) 1 (.string t)) (by omega)) (grownBy_setCellAt _ (w.heap.size + 1) 2 (.int .i64 c)) (by omega)) (grownBy_setCellAt _ (w.heap.size + 1) 3 (.string m)) (by omega)) (grownBy_setCellAt _ (w.heap.size + 1) 4 (.bool h)) (by omega)) (grownBy_setCellAt _ (w.heap.size + 1) 5 (.slice a4 ss.length c4)) (by omega))
  clear s K1 K2 KB K1s gs K2s KBs ho4 hb4 M1 M2 MB HR r5
  go_wp2
  refine bodyPost_ret (v := .agg #[.string f, .string t, .int .i64 c, .string m, .bool h, .slice a4 ss.length c4]) (by simp [results, Try.results26, go_sem, Z.out.cell]) rfl ⟨_, rfl, ownsRow_base OO.out (by omega), BB.out⟩
end Go.Proofs.Ytnpfnafalkejnaa
