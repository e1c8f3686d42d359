/- impl.isPeer, impl.clonePeer. -/
import Derived.Test.YtlnkhbnbcmllaaaGreatFetchValid
import Derived.Test.YtlnkhbnbcmllaaaGreatFetchTo
import Derived.Test.YtlnkhbnbcmllaaaGreatAreSums
namespace Go.Proofs.YtlnkhbnbcmllaaaGreat
open Go.RowKit
set_option maxRecDepth 100000 in
set_option maxHeartbeats 2000000 in
theorem isPeer_any (pl pw pt : Int) (pa : ByteArray) (v : Value) (pn : List ByteArray) (now wd : Int) (w : World) (hv : Reads w v pn) (hl : pn.length ≤ 1048576) (hsz : ∀ i, (tv pn i).size ≤ 1048576) (hwd : 1 ≤ wd) :
    Calls Tryz.prog 76 #[.agg #[.int .i64 pl, .int .i64 pw, .int .i64 pt, .string pa, v], .int .i64 now, .int .i64 wd] w fun e w' => VRes (PrOk now wd ⟨pl, pw, pt, pa, pn⟩) w e w' := by
  have hA := (Below.refl w.heap.size w).alloc (Nat.le_refl _) (.cells #[.int .i64 pl, .int .i64 pw, .int .i64 pt, .string pa, v] 81)
  have HS := hid (areSums_any v pn wd _ (hv.below hA) (by unfold maxLen; omega) (fun i => by have := hsz i; unfold maxLen; omega) hwd)
  have HA := hid hA
  obtain ⟨av, cv, rfl, _⟩ := hv.form
  clear hv hA hsz
  by_cases g1 : pl < 0
  · have HF : Hid (¬ PrOk now wd ⟨pl, pw, pt, pa, pn⟩) := fun h => by have := h.lies.1; dsimp only at this; omega
    go_enter Tryz.func76, Tryz.ntmps76
    go_wp2
    go_ret
    exact VRes.no HF.out HA.out
  by_cases g2 : 3 < pl
  · have HF : Hid (¬ PrOk now wd ⟨pl, pw, pt, pa, pn⟩) := fun h => by have := h.lies.2; dsimp only at this; omega
    go_enter Tryz.func76, Tryz.ntmps76
    go_wp2
    go_ret
    exact VRes.no HF.out HA.out
  by_cases g3 : pw < 0
  · have HF : Hid (¬ PrOk now wd ⟨pl, pw, pt, pa, pn⟩) := fun h => by have := h.wait.1; dsimp only at this; omega
    go_enter Tryz.func76, Tryz.ntmps76
    go_wp2
    go_ret
    exact VRes.no HF.out HA.out
  by_cases g4 : 5 < pw
  · have HF : Hid (¬ PrOk now wd ⟨pl, pw, pt, pa, pn⟩) := fun h => by have := h.wait.2; dsimp only at this; omega
    go_enter Tryz.func76, Tryz.ntmps76
    go_wp2
    go_ret
    exact VRes.no HF.out HA.out
  by_cases g5 : pt < -1
  · have HF : Hid (¬ PrOk now wd ⟨pl, pw, pt, pa, pn⟩) := fun h => by have := h.last.1; dsimp only at this; omega
    go_enter Tryz.func76, Tryz.ntmps76
    go_wp2
    go_ret
    exact VRes.no HF.out HA.out
  by_cases g6 : now < pt
  · have HF : Hid (¬ PrOk now wd ⟨pl, pw, pt, pa, pn⟩) := fun h => by have := h.last.2; dsimp only at this; omega
    go_enter Tryz.func76, Tryz.ntmps76
    go_wp2
    go_ret
    exact VRes.no HF.out HA.out
  have hts : Hid (pa.toList.length = pa.size) := by show pa.toList.length = pa.size; rw [ByteArray.toList_eq, Array.length_toList]; rfl
  by_cases g7 : pw = 0
  · by_cases g8 : pa.size = 0
    case neg =>
      have HF : Hid (¬ PrOk now wd ⟨pl, pw, pt, pa, pn⟩) := fun h => by
        rcases h.asked with ⟨_, k⟩ | ⟨k, _⟩
        · dsimp only at k; have := hts.out; rw [k] at this; simp at this; omega
        · dsimp only at k; omega
      subst g7
      clear hts
      have g9 : ¬ ((pa.size : Int) = 0) := by omega
      go_enter Tryz.func76, Tryz.ntmps76
      go_wp2
      go_ret
      exact VRes.no HF.out HA.out
    by_cases g10 : pn.length ≤ 376
    case neg =>
      have HF : Hid (¬ PrOk now wd ⟨pl, pw, pt, pa, pn⟩) := fun h => g10 h.many
      have g9 : (pa.size : Int) = 0 := by omega
      subst g7
      clear hts g8
      go_enter Tryz.func76, Tryz.ntmps76
      go_wp2
      go_ret
      exact VRes.no HF.out HA.out
    have HP : Hid (okSums wd pn ↔ PrOk now wd ⟨pl, pw, pt, pa, pn⟩) := ⟨fun h => ⟨by dsimp only; omega, by dsimp only; omega, by dsimp only; omega, g10, .inl ⟨g7, List.eq_nil_of_length_eq_zero (hts.out.trans g8)⟩, h⟩, fun h => h.nots⟩
    have g9 : (pa.size : Int) = 0 := by omega
    subst g7
    clear hts g8
    go_enter Tryz.func76, Tryz.ntmps76
    go_wp2_with fail
    refine HS.out.mono ?_
    rintro e w1 ⟨b, rfl, hb, rfl⟩
    cases b with
    | true =>
      have HY := hid (HP.out.1 (hb.1 rfl))
      clear hb
      go_wp2
      go_ret
      exact VRes.yes HY.out HA.out
    | false =>
      have HF : Hid (¬ PrOk now wd ⟨pl, 0, pt, pa, pn⟩) := fun h => by have := hb.2 (HP.out.2 h); cases this
      clear hb
      go_wp2
      go_ret
      exact VRes.no HF.out HA.out
  · have g7b : (pw == 0) = false := by rw [beq_eq_false_iff_ne]; exact g7
    by_cases g8 : (pa.size : Int) = wd
    case neg =>
      have HF : Hid (¬ PrOk now wd ⟨pl, pw, pt, pa, pn⟩) := fun h => by
        rcases h.asked with ⟨k, _⟩ | ⟨_, k⟩
        · exact g7 k
        · exact g8 k
      clear hts
      go_enter Tryz.func76, Tryz.ntmps76
      go_wp2
      go_ret
      exact VRes.no HF.out HA.out
    by_cases g10 : pn.length ≤ 376
    case neg =>
      have HF : Hid (¬ PrOk now wd ⟨pl, pw, pt, pa, pn⟩) := fun h => g10 h.many
      have g9 : ((pa.size : Int) == wd) = true := by simpa using g8
      clear hts g8
      go_enter Tryz.func76, Tryz.ntmps76
      go_wp2
      go_ret
      exact VRes.no HF.out HA.out
    have HP : Hid (okSums wd pn ↔ PrOk now wd ⟨pl, pw, pt, pa, pn⟩) := ⟨fun h => ⟨by dsimp only; omega, by dsimp only; omega, by dsimp only; omega, g10, .inr ⟨by dsimp only; omega, g8⟩, h⟩, fun h => h.nots⟩
    have g9 : ((pa.size : Int) == wd) = true := by simpa using g8
    clear hts g8
    go_enter Tryz.func76, Tryz.ntmps76
    go_wp2_with fail
    refine HS.out.mono ?_
    rintro e w1 ⟨b, rfl, hb, rfl⟩
    cases b with
    | true =>
      have HY := hid (HP.out.1 (hb.1 rfl))
      clear hb
      go_wp2
      go_ret
      exact VRes.yes HY.out HA.out
    | false =>
      have HF : Hid (¬ PrOk now wd ⟨pl, pw, pt, pa, pn⟩) := fun h => by have := hb.2 (HP.out.2 h); cases this
      clear hb
      go_wp2
      go_ret
      exact VRes.no HF.out HA.out
set_option maxRecDepth 100000 in
set_option maxHeartbeats 1000000 in
theorem clonePeer_any (pl pw pt : Int) (pa : ByteArray) (v : Value) (pn : List ByteArray) (w : World) (hv : Reads w v pn) (hpa : pa.size ≤ 1048576) (hl : pn.length ≤ 1048576) (hsz : ∀ i, (tv pn i).size ≤ 1048576) :
    Calls Tryz.prog 77 #[.agg #[.int .i64 pl, .int .i64 pw, .int .i64 pt, .string pa, v]] w fun e w' => ∃ v', e = .returned (.agg #[.int .i64 pl, .int .i64 pw, .int .i64 pt, .string pa, v']) ∧ w'.ownsRow (w.heap.size + 2) 9 1 v' pn.length (pn.map Value.string) ∧ Below w.heap.size w w' := by
  have HF := hid fun W => stringsClone_any pa W (by omega)
  have HC := hid fun W h => cloneTexts_any v pn W h hl hsz
  obtain ⟨a, ca, rfl, _⟩ := hv.form
  have hN1 := (Blk.new w 81 #[.int .i64 pl, .int .i64 pw, .int .i64 pt, .string pa, .slice a pn.length ca]).alloc (.cells #[.int .i64 0, .int .i64 0, .int .i64 0, .string ⟨#[]⟩, .slice none 0 0] 81)
  have hN2 := Blk.new (w.alloc (.cells #[.int .i64 pl, .int .i64 pw, .int .i64 pt, .string pa, .slice a pn.length ca] 81)) 81 #[.int .i64 0, .int .i64 0, .int .i64 0, .string ⟨#[]⟩, .slice none 0 0]
  rw [World.size_alloc] at hN2
  have hA := ((Below.refl w.heap.size w).alloc (Nat.le_refl _) (.cells #[.int .i64 pl, .int .i64 pw, .int .i64 pt, .string pa, .slice a pn.length ca] 81)).alloc (by simp) (.cells #[.int .i64 0, .int .i64 0, .int .i64 0, .string ⟨#[]⟩, .slice none 0 0] 81)
  have HV := hid hv
  have HN1 := hid hN1
  have HN2 := hid hN2
  have HA := hid hA
  clear hv hsz hN1 hN2 hA hpa
  go_enter Tryz.func77, Tryz.ntmps77
  go_wp2_with fail
  refine wp_region_held (S := fun w' => w'.cell? ⟨w.heap.size, 3, none⟩ = some (.string pa)) (by kernel_rfl) ?_
  change wpAnyH _ _ _ _ _ _ _ _ (World.drew _)
  have hS0 : ((w.alloc (.cells #[.int .i64 pl, .int .i64 pw, .int .i64 pt, .string pa, .slice a pn.length ca] 81)).alloc (.cells #[.int .i64 0, .int .i64 0, .int .i64 0, .string ⟨#[]⟩, .slice none 0 0] 81)).drew.cell? ⟨w.heap.size, 3, none⟩ = some (.string pa) := HN1.out.cell 3
  have h4 : ((w.alloc (.cells #[.int .i64 pl, .int .i64 pw, .int .i64 pt, .string pa, .slice a pn.length ca] 81)).alloc (.cells #[.int .i64 0, .int .i64 0, .int .i64 0, .string ⟨#[]⟩, .slice none 0 0] 81)).drew.cell? ⟨w.heap.size, 4, none⟩ = some (.slice a pn.length ca) := HN1.out.cell 4
  refine wpAnyH_take (i := 0) (v := .pointer (some ⟨w.heap.size, 3, none⟩)) rfl (by kernel_rfl) (by kernel_rfl) (by kernel_rfl) (fun _ _ _ h => h) (.inl ⟨rfl, fun w' hS => by obtain s1 := hS; go_simp⟩) hS0 ?_
  refine wpAnyH_take (i := 1) (v := .string pa) rfl (by kernel_rfl) (by kernel_rfl) (by kernel_rfl) (fun _ _ _ h => h) (.inl ⟨rfl, fun w' hS => by obtain s1 := hS; go_simp⟩) hS0 ?_
  refine wpAnyH_take (i := 3) (v := .pointer (some ⟨w.heap.size, 4, none⟩)) rfl (by kernel_rfl) (by kernel_rfl) (by kernel_rfl) (fun _ _ _ h => h) (.inl ⟨rfl, fun w' hS => by obtain s1 := hS; go_simp⟩) hS0 ?_
  have hec := enters_of Tryz.func59 (by kernel_rfl) rfl
  have hec2 := enters_of Tryz.func84 (by kernel_rfl) rfl
  have HK : Hid (∀ w1, Below ((w.alloc (.cells #[.int .i64 pl, .int .i64 pw, .int .i64 pt, .string pa, .slice a pn.length ca] 81)).alloc (.cells #[.int .i64 0, .int .i64 0, .int .i64 0, .string ⟨#[]⟩, .slice none 0 0] 81)).drew.heap.size ((w.alloc (.cells #[.int .i64 pl, .int .i64 pw, .int .i64 pt, .string pa, .slice a pn.length ca] 81)).alloc (.cells #[.int .i64 0, .int .i64 0, .int .i64 0, .string ⟨#[]⟩, .slice none 0 0] 81)).drew w1 → Blk w1 w.heap.size 81 #[.int .i64 pl, .int .i64 pw, .int .i64 pt, .string pa, .slice a pn.length ca] ∧ Blk w1 (w.heap.size + 1) 81 #[.int .i64 0, .int .i64 0, .int .i64 0, .string ⟨#[]⟩, .slice none 0 0] ∧ Below w.heap.size w w1 ∧ w.heap.size + 2 ≤ w1.heap.size) := fun w1 hb1 => by
    have hb1' : Below ((w.alloc (.cells #[.int .i64 pl, .int .i64 pw, .int .i64 pt, .string pa, .slice a pn.length ca] 81)).alloc (.cells #[.int .i64 0, .int .i64 0, .int .i64 0, .string ⟨#[]⟩, .slice none 0 0] 81)).heap.size ((w.alloc (.cells #[.int .i64 pl, .int .i64 pw, .int .i64 pt, .string pa, .slice a pn.length ca] 81)).alloc (.cells #[.int .i64 0, .int .i64 0, .int .i64 0, .string ⟨#[]⟩, .slice none 0 0] 81)) w1 := ⟨hb1.os, hb1.tape, hb1.output, hb1.size, hb1.block⟩
    have hs := hb1'.size
    rw [World.size_alloc, World.size_alloc] at hs
    exact ⟨HN1.out.below hb1', HN2.out.below hb1', HA.out.trans (hb1'.mono (by simp; omega)), hs⟩
  refine held_two 2 4 (by kernel_rfl) ?A ?B
  case A =>
    refine op_calls (f := 59) (args := #[.string pa]) rfl rfl (by go_simp) (HF.out _) ?_
    rintro e w1 ⟨rfl, hb1⟩
    obtain ⟨N1a, N2a, Ba, hs1⟩ := HK.out w1 hb1
    clear hb1 hS0 h4
    have hS1 : w1.cell? ⟨w.heap.size, 3, none⟩ = some (.string pa) := N1a.cell 3
    have k4 : w1.cell? ⟨w.heap.size, 4, none⟩ = some (.slice a pn.length ca) := N1a.cell 4
    refine ⟨_, rfl, hS1, ?_⟩
    refine held_one 4 (by kernel_rfl) (op_value (v := .slice a pn.length ca) (w' := w1) rfl rfl (by go_simp) ⟨hS1, ?_⟩)
    refine wpAnyH_take (i := 6) (v := .pointer (some ⟨w.heap.size, 3, none⟩)) rfl (by kernel_rfl) (by kernel_rfl) (by kernel_rfl) (fun _ _ _ h => h) (.inl ⟨rfl, fun w' hS => by obtain s1 := hS; go_simp⟩) hS1 ?_
    have HR := hid (HC.out w1 (HV.out.below Ba))
    clear hS1
    refine held_one 5 (by kernel_rfl) (op_calls (f := 84) (args := #[.slice a pn.length ca]) rfl rfl (by go_simp) HR.out ?_)
    rintro e w2 ⟨v2, rfl, ho2, hb2⟩
    obtain ⟨a2, c2, rfl, _⟩ := row_form ho2
    have N1b := N1a.below hb2
    have N2b := N2a.below hb2
    have Bb := Ba.trans (hb2.mono Ba.size)
    have hs2 := hb2.size
    have hS2 : w2.cell? ⟨w.heap.size, 3, none⟩ = some (.string pa) := N1b.cell 3
    have f3 := N1b.fz 3
    have N1c : Blk (w2.setCell ⟨w.heap.size, 3, none⟩ (.string pa)) w.heap.size 81 #[.int .i64 pl, .int .i64 pw, .int .i64 pt, .string pa, .slice a pn.length ca] := N1b.set 3 (.string pa)
    have f4 := N1c.fz 4
    have d4 : (w2.setCell ⟨w.heap.size, 3, none⟩ (.string pa)).cell? ⟨w.heap.size, 4, none⟩ = some (.slice a pn.length ca) := N1c.cell 4
    have hS3 : (w2.setCell ⟨w.heap.size, 3, none⟩ (.string pa)).cell? ⟨w.heap.size, 3, none⟩ = some (.string pa) := N1c.cell 3
    have N1d : Blk ((w2.setCell ⟨w.heap.size, 3, none⟩ (.string pa)).setCell ⟨w.heap.size, 4, none⟩ (.slice a2 pn.length c2)) w.heap.size 81 #[.int .i64 pl, .int .i64 pw, .int .i64 pt, .string pa, .slice a2 pn.length c2] := N1c.set 4 (.slice a2 pn.length c2)
    have hS4 : ((w2.setCell ⟨w.heap.size, 3, none⟩ (.string pa)).setCell ⟨w.heap.size, 4, none⟩ (.slice a2 pn.length c2)).cell? ⟨w.heap.size, 3, none⟩ = some (.string pa) := N1d.cell 3
    have GD := grown_same (grownBy_setCellAt w2 w.heap.size 3 (.string pa)) (grownBy_setCellAt _ w.heap.size 4 (.slice a2 pn.length c2))
    have N2d := N2b.kept GD (fun e => by simp at e)
    have BD := Bb.grown GD (by omega) (fun g e => by cases e; exact Nat.le_refl _)
    have OD := row_kept (ownsRow_base ho2 (show w.heap.size + 2 ≤ _ by omega)) GD (by omega)
    refine ⟨_, rfl, hS2, ?_⟩
    refine held_one 7 (by kernel_rfl) (op_skip (w' := w2.setCell ⟨w.heap.size, 3, none⟩ (.string pa)) rfl rfl (by go_simp) ⟨hS3, ?_⟩)
    refine wpAnyH_take (i := 8) (v := .pointer (some ⟨w.heap.size, 4, none⟩)) rfl (by kernel_rfl) (by kernel_rfl) (by kernel_rfl) (fun _ _ _ h => h) (.inl ⟨rfl, fun w' hS => by obtain s1 := hS; go_simp⟩) hS3 ?_
    refine held_one 9 (by kernel_rfl) (op_skip (w' := (w2.setCell ⟨w.heap.size, 3, none⟩ (.string pa)).setCell ⟨w.heap.size, 4, none⟩ (.slice a2 pn.length c2)) rfl rfl (by go_simp) ⟨hS4, wpAnyH_done (by kernel_rfl) ?_ _⟩)
    obtain ⟨w3, hw3⟩ : ∃ w3, w3 = (w2.setCell ⟨w.heap.size, 3, none⟩ (.string pa)).setCell ⟨w.heap.size, 4, none⟩ (.slice a2 pn.length c2) := ⟨_, rfl⟩
    rw [← hw3] at N1d N2d BD OD ⊢
    have l0 : w3.cell? ⟨w.heap.size, 0, none⟩ = some (.int .i64 pl) := N1d.cell 0
    have l1 : w3.cell? ⟨w.heap.size, 1, none⟩ = some (.int .i64 pw) := N1d.cell 1
    have l2 : w3.cell? ⟨w.heap.size, 2, none⟩ = some (.int .i64 pt) := N1d.cell 2
    have l3 : w3.cell? ⟨w.heap.size, 3, none⟩ = some (.string pa) := N1d.cell 3
    have l4 : w3.cell? ⟨w.heap.size, 4, none⟩ = some (.slice a2 pn.length c2) := N1d.cell 4
    obtain ⟨q0, k0, q1, k1, q2, k2, q3, k3, q4, k4'⟩ := N2d.store5 (.int .i64 pl) (.int .i64 pw) (.int .i64 pt) (.string pa) (.slice a2 pn.length c2)
    have Z := hid (N2d.set5 (.int .i64 pl) (.int .i64 pw) (.int .i64 pt) (.string pa) (.slice a2 pn.length c2))
    have BB := hid (below_set5 BD (b := w.heap.size + 1) (by omega) (Nat.le_refl _) (.int .i64 pl) (.int .i64 pw) (.int .i64 pt) (.string pa) (.slice a2 pn.length c2))
    have OO := hid (row_kept OD (grown_set5 w3 (w.heap.size + 1) (.int .i64 pl) (.int .i64 pw) (.int .i64 pt) (.string pa) (.slice a2 pn.length c2)) (by omega))
    clear hS2 hS3 hS4 f3 f4 d4 k4 N1a N2a Ba N1b N2b Bb N1c N1d GD N2d BD OD ho2 hb2 hw3 HR
    go_simp
    go_wp2
    rw [set5_def]
    refine bodyPost_ret (v := .agg #[.int .i64 pl, .int .i64 pw, .int .i64 pt, .string pa, .slice a2 pn.length c2]) (by simp [results, Tryz.results77, go_sem, Z.out.cell]) rfl ⟨_, rfl, OO.out, BB.out⟩
  case B =>
    refine op_value (v := .slice a pn.length ca) (w' := ((w.alloc (.cells #[.int .i64 pl, .int .i64 pw, .int .i64 pt, .string pa, .slice a pn.length ca] 81)).alloc (.cells #[.int .i64 0, .int .i64 0, .int .i64 0, .string ⟨#[]⟩, .slice none 0 0] 81)).drew) rfl rfl (by go_simp) ⟨hS0, ?_⟩
    refine held_one 2 (by kernel_rfl) (op_calls (f := 59) (args := #[.string pa]) rfl rfl (by go_simp) (HF.out _) ?_)
    rintro e w1 ⟨rfl, hb1⟩
    obtain ⟨N1a, N2a, Ba, hs1⟩ := HK.out w1 hb1
    clear hb1 hS0 h4
    have hS1 : w1.cell? ⟨w.heap.size, 3, none⟩ = some (.string pa) := N1a.cell 3
    have k4 : w1.cell? ⟨w.heap.size, 4, none⟩ = some (.slice a pn.length ca) := N1a.cell 4
    refine ⟨_, rfl, hS1, ?_⟩
    refine wpAnyH_take (i := 6) (v := .pointer (some ⟨w.heap.size, 3, none⟩)) rfl (by kernel_rfl) (by kernel_rfl) (by kernel_rfl) (fun _ _ _ h => h) (.inl ⟨rfl, fun w' hS => by obtain s1 := hS; go_simp⟩) hS1 ?_
    have HR := hid (HC.out w1 (HV.out.below Ba))
    clear hS1
    refine held_one 5 (by kernel_rfl) (op_calls (f := 84) (args := #[.slice a pn.length ca]) rfl rfl (by go_simp) HR.out ?_)
    rintro e w2 ⟨v2, rfl, ho2, hb2⟩
    obtain ⟨a2, c2, rfl, _⟩ := row_form ho2
    have N1b := N1a.below hb2
    have N2b := N2a.below hb2
    have Bb := Ba.trans (hb2.mono Ba.size)
    have hs2 := hb2.size
    have hS2 : w2.cell? ⟨w.heap.size, 3, none⟩ = some (.string pa) := N1b.cell 3
    have f3 := N1b.fz 3
    have N1c : Blk (w2.setCell ⟨w.heap.size, 3, none⟩ (.string pa)) w.heap.size 81 #[.int .i64 pl, .int .i64 pw, .int .i64 pt, .string pa, .slice a pn.length ca] := N1b.set 3 (.string pa)
    have f4 := N1c.fz 4
    have d4 : (w2.setCell ⟨w.heap.size, 3, none⟩ (.string pa)).cell? ⟨w.heap.size, 4, none⟩ = some (.slice a pn.length ca) := N1c.cell 4
    have hS3 : (w2.setCell ⟨w.heap.size, 3, none⟩ (.string pa)).cell? ⟨w.heap.size, 3, none⟩ = some (.string pa) := N1c.cell 3
    have N1d : Blk ((w2.setCell ⟨w.heap.size, 3, none⟩ (.string pa)).setCell ⟨w.heap.size, 4, none⟩ (.slice a2 pn.length c2)) w.heap.size 81 #[.int .i64 pl, .int .i64 pw, .int .i64 pt, .string pa, .slice a2 pn.length c2] := N1c.set 4 (.slice a2 pn.length c2)
    have hS4 : ((w2.setCell ⟨w.heap.size, 3, none⟩ (.string pa)).setCell ⟨w.heap.size, 4, none⟩ (.slice a2 pn.length c2)).cell? ⟨w.heap.size, 3, none⟩ = some (.string pa) := N1d.cell 3
    have GD := grown_same (grownBy_setCellAt w2 w.heap.size 3 (.string pa)) (grownBy_setCellAt _ w.heap.size 4 (.slice a2 pn.length c2))
    have N2d := N2b.kept GD (fun e => by simp at e)
    have BD := Bb.grown GD (by omega) (fun g e => by cases e; exact Nat.le_refl _)
    have OD := row_kept (ownsRow_base ho2 (show w.heap.size + 2 ≤ _ by omega)) GD (by omega)
    refine ⟨_, rfl, hS2, ?_⟩
    refine held_one 7 (by kernel_rfl) (op_skip (w' := w2.setCell ⟨w.heap.size, 3, none⟩ (.string pa)) rfl rfl (by go_simp) ⟨hS3, ?_⟩)
    refine wpAnyH_take (i := 8) (v := .pointer (some ⟨w.heap.size, 4, none⟩)) rfl (by kernel_rfl) (by kernel_rfl) (by kernel_rfl) (fun _ _ _ h => h) (.inl ⟨rfl, fun w' hS => by obtain s1 := hS; go_simp⟩) hS3 ?_
    refine held_one 9 (by kernel_rfl) (op_skip (w' := (w2.setCell ⟨w.heap.size, 3, none⟩ (.string pa)).setCell ⟨w.heap.size, 4, none⟩ (.slice a2 pn.length c2)) rfl rfl (by go_simp) ⟨hS4, wpAnyH_done (by kernel_rfl) ?_ _⟩)
    obtain ⟨w3, hw3⟩ : ∃ w3, w3 = (w2.setCell ⟨w.heap.size, 3, none⟩ (.string pa)).setCell ⟨w.heap.size, 4, none⟩ (.slice a2 pn.length c2) := ⟨_, rfl⟩
    rw [← hw3] at N1d N2d BD OD ⊢
    have l0 : w3.cell? ⟨w.heap.size, 0, none⟩ = some (.int .i64 pl) := N1d.cell 0
    have l1 : w3.cell? ⟨w.heap.size, 1, none⟩ = some (.int .i64 pw) := N1d.cell 1
    have l2 : w3.cell? ⟨w.heap.size, 2, none⟩ = some (.int .i64 pt) := N1d.cell 2
    have l3 : w3.cell? ⟨w.heap.size, 3, none⟩ = some (.string pa) := N1d.cell 3
    have l4 : w3.cell? ⟨w.heap.size, 4, none⟩ = some (.slice a2 pn.length c2) := N1d.cell 4
    obtain ⟨q0, k0, q1, k1, q2, k2, q3, k3, q4, k4'⟩ := N2d.store5 (.int .i64 pl) (.int .i64 pw) (.int .i64 pt) (.string pa) (.slice a2 pn.length c2)
    have Z := hid (N2d.set5 (.int .i64 pl) (.int .i64 pw) (.int .i64 pt) (.string pa) (.slice a2 pn.length c2))
    have BB := hid (below_set5 BD (b := w.heap.size + 1) (by omega) (Nat.le_refl _) (.int .i64 pl) (.int .i64 pw) (.int .i64 pt) (.string pa) (.slice a2 pn.length c2))
    have OO := hid (row_kept OD (grown_set5 w3 (w.heap.size + 1) (.int .i64 pl) (.int .i64 pw) (.int .i64 pt) (.string pa) (.slice a2 pn.length c2)) (by omega))
    clear hS2 hS3 hS4 f3 f4 d4 k4 N1a N2a Ba N1b N2b Bb N1c N1d GD N2d BD OD ho2 hb2 hw3 HR
    go_simp
    go_wp2
    rw [set5_def]
    refine bodyPost_ret (v := .agg #[.int .i64 pl, .int .i64 pw, .int .i64 pt, .string pa, .slice a2 pn.length c2]) (by simp [results, Tryz.results77, go_sem, Z.out.cell]) rfl ⟨_, rfl, OO.out, BB.out⟩
end Go.Proofs.YtlnkhbnbcmllaaaGreat
