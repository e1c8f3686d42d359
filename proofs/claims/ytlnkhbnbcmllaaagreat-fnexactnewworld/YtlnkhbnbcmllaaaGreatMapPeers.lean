import Derived.Test.YtlnkhbnbcmllaaaGreatFetchValid
import Derived.Test.YtlnkhbnbcmllaaaGreatFetchTo
import Derived.Test.YtlnkhbnbcmllaaaGreatAreSums
import Derived.Test.YtlnkhbnbcmllaaaGreatBytes
import Derived.Test.YtlnkhbnbcmllaaaGreatOpenStore
import Derived.Maps.OwnSet
/- impl.isPeer, impl.clonePeer. -/
namespace Go.Proofs.YtlnkhbnbcmllaaaGreat
open Go.RowKit
set_option maxRecDepth 100000 in
set_option maxHeartbeats 2000000 in
theorem isPeer_any (pl pw pt : Int) (pa : ByteArray) (v : Value) (pn : List ByteArray) (now wd : Int) (w : World) (hv : Reads w v pn) (hl : pn.length ≤ 1048576) (hsz : ∀ i, (tv pn i).size ≤ 1048576) (hwd : 1 ≤ wd) :
    Calls Tryz.prog 76 #[.agg #[.int .i64 pl, .int .i64 pw, .int .i64 pt, .string pa, v], .int .i64 now, .int .i64 wd] w fun e w' => VRes (PrOk now wd ⟨pl, pw, pt, pa, pn⟩) w e w' := by
  have hA := (Below.refl w.heap.size w).alloc (Nat.le_refl _) (.cells #[.int .i64 pl, .int .i64 pw, .int .i64 pt, .string pa, v] 81)
  have HS := hid (areSums_any v pn wd _ (hv.below hA) (by unfold maxLen; omega) (fun i => by have := hsz i; unfold maxLen; omega) hwd)
  have HA := hid hA
  obtain ⟨av, cv, rfl, _⟩ := hv.form
  clear hv hA hsz
  by_cases g1 : pl < 0
  · have HF : Hid (¬ PrOk now wd ⟨pl, pw, pt, pa, pn⟩) := fun h => by have := h.lies.1; dsimp only at this; omega
    go_enter Tryz.func76, Tryz.ntmps76
    go_wp2
    go_ret
    exact VRes.no HF.out HA.out
  by_cases g2 : 3 < pl
  · have HF : Hid (¬ PrOk now wd ⟨pl, pw, pt, pa, pn⟩) := fun h => by have := h.lies.2; dsimp only at this; omega
    go_enter Tryz.func76, Tryz.ntmps76
    go_wp2
    go_ret
    exact VRes.no HF.out HA.out
  by_cases g3 : pw < 0
  · have HF : Hid (¬ PrOk now wd ⟨pl, pw, pt, pa, pn⟩) := fun h => by have := h.wait.1; dsimp only at this; omega
    go_enter Tryz.func76, Tryz.ntmps76
    go_wp2
    go_ret
    exact VRes.no HF.out HA.out
  by_cases g4 : 5 < pw
  · have HF : Hid (¬ PrOk now wd ⟨pl, pw, pt, pa, pn⟩) := fun h => by have := h.wait.2; dsimp only at this; omega
    go_enter Tryz.func76, Tryz.ntmps76
    go_wp2
    go_ret
    exact VRes.no HF.out HA.out
  by_cases g5 : pt < -1
  · have HF : Hid (¬ PrOk now wd ⟨pl, pw, pt, pa, pn⟩) := fun h => by have := h.last.1; dsimp only at this; omega
    go_enter Tryz.func76, Tryz.ntmps76
    go_wp2
    go_ret
    exact VRes.no HF.out HA.out
  by_cases g6 : now < pt
  · have HF : Hid (¬ PrOk now wd ⟨pl, pw, pt, pa, pn⟩) := fun h => by have := h.last.2; dsimp only at this; omega
    go_enter Tryz.func76, Tryz.ntmps76
    go_wp2
    go_ret
    exact VRes.no HF.out HA.out
  have hts : Hid (pa.toList.length = pa.size) := by show pa.toList.length = pa.size; rw [ByteArray.toList_eq, Array.length_toList]; rfl
  by_cases g7 : pw = 0
  · by_cases g8 : pa.size = 0
    case neg =>
      have HF : Hid (¬ PrOk now wd ⟨pl, pw, pt, pa, pn⟩) := fun h => by
        rcases h.asked with ⟨_, k⟩ | ⟨k, _⟩
        · dsimp only at k; have := hts.out; rw [k] at this; simp at this; omega
        · dsimp only at k; omega
      subst g7
      clear hts
      have g9 : ¬ ((pa.size : Int) = 0) := by omega
      go_enter Tryz.func76, Tryz.ntmps76
      go_wp2
      go_ret
      exact VRes.no HF.out HA.out
    by_cases g10 : pn.length ≤ 376
    case neg =>
      have HF : Hid (¬ PrOk now wd ⟨pl, pw, pt, pa, pn⟩) := fun h => g10 h.many
      have g9 : (pa.size : Int) = 0 := by omega
      subst g7
      clear hts g8
      go_enter Tryz.func76, Tryz.ntmps76
      go_wp2
      go_ret
      exact VRes.no HF.out HA.out
    have HP : Hid (okSums wd pn ↔ PrOk now wd ⟨pl, pw, pt, pa, pn⟩) := ⟨fun h => ⟨by dsimp only; omega, by dsimp only; omega, by dsimp only; omega, g10, .inl ⟨g7, List.eq_nil_of_length_eq_zero (hts.out.trans g8)⟩, h⟩, fun h => h.nots⟩
    have g9 : (pa.size : Int) = 0 := by omega
    subst g7
    clear hts g8
    go_enter Tryz.func76, Tryz.ntmps76
    go_wp2_with fail
    refine HS.out.mono ?_
    rintro e w1 ⟨b, rfl, hb, rfl⟩
    cases b with
    | true =>
      have HY := hid (HP.out.1 (hb.1 rfl))
      clear hb
      go_wp2
      go_ret
      exact VRes.yes HY.out HA.out
    | false =>
      have HF : Hid (¬ PrOk now wd ⟨pl, 0, pt, pa, pn⟩) := fun h => by have := hb.2 (HP.out.2 h); cases this
      clear hb
      go_wp2
      go_ret
      exact VRes.no HF.out HA.out
  · have g7b : (pw == 0) = false := by rw [beq_eq_false_iff_ne]; exact g7
    by_cases g8 : (pa.size : Int) = wd
    case neg =>
      have HF : Hid (¬ PrOk now wd ⟨pl, pw, pt, pa, pn⟩) := fun h => by
        rcases h.asked with ⟨k, _⟩ | ⟨_, k⟩
        · exact g7 k
        · exact g8 k
      clear hts
      go_enter Tryz.func76, Tryz.ntmps76
      go_wp2
      go_ret
      exact VRes.no HF.out HA.out
    by_cases g10 : pn.length ≤ 376
    case neg =>
      have HF : Hid (¬ PrOk now wd ⟨pl, pw, pt, pa, pn⟩) := fun h => g10 h.many
      have g9 : ((pa.size : Int) == wd) = true := by simpa using g8
      clear hts g8
      go_enter Tryz.func76, Tryz.ntmps76
      go_wp2
      go_ret
      exact VRes.no HF.out HA.out
    have HP : Hid (okSums wd pn ↔ PrOk now wd ⟨pl, pw, pt, pa, pn⟩) := ⟨fun h => ⟨by dsimp only; omega, by dsimp only; omega, by dsimp only; omega, g10, .inr ⟨by dsimp only; omega, g8⟩, h⟩, fun h => h.nots⟩
    have g9 : ((pa.size : Int) == wd) = true := by simpa using g8
    clear hts g8
    go_enter Tryz.func76, Tryz.ntmps76
    go_wp2_with fail
    refine HS.out.mono ?_
    rintro e w1 ⟨b, rfl, hb, rfl⟩
    cases b with
    | true =>
      have HY := hid (HP.out.1 (hb.1 rfl))
      clear hb
      go_wp2
      go_ret
      exact VRes.yes HY.out HA.out
    | false =>
      have HF : Hid (¬ PrOk now wd ⟨pl, pw, pt, pa, pn⟩) := fun h => by have := hb.2 (HP.out.2 h); cases this
      clear hb
      go_wp2
      go_ret
      exact VRes.no HF.out HA.out
set_option maxRecDepth 100000 in
set_option maxHeartbeats 1000000 in
theorem clonePeer_any (pl pw pt : Int) (pa : ByteArray) (v : Value) (pn : List ByteArray) (w : World) (hv : Reads w v pn) (hpa : pa.size ≤ 1048576) (hl : pn.length ≤ 1048576) (hsz : ∀ i, (tv pn i).size ≤ 1048576) :
    Calls Tryz.prog 77 #[.agg #[.int .i64 pl, .int .i64 pw, .int .i64 pt, .string pa, v]] w fun e w' => ∃ v', e = .returned (.agg #[.int .i64 pl, .int .i64 pw, .int .i64 pt, .string pa, v']) ∧ w'.ownsRow (w.heap.size + 2) 9 1 v' pn.length (pn.map Value.string) ∧ Below w.heap.size w w' := by
  have HF := hid fun W => stringsClone_any pa W (by omega)
  have HC := hid fun W h => cloneTexts_any v pn W h hl hsz
  obtain ⟨a, ca, rfl, _⟩ := hv.form
  have hN1 := (Blk.new w 81 #[.int .i64 pl, .int .i64 pw, .int .i64 pt, .string pa, .slice a pn.length ca]).alloc (.cells #[.int .i64 0, .int .i64 0, .int .i64 0, .string ⟨#[]⟩, .slice none 0 0] 81)
  have hN2 := Blk.new (w.alloc (.cells #[.int .i64 pl, .int .i64 pw, .int .i64 pt, .string pa, .slice a pn.length ca] 81)) 81 #[.int .i64 0, .int .i64 0, .int .i64 0, .string ⟨#[]⟩, .slice none 0 0]
  rw [World.size_alloc] at hN2
  have hA := ((Below.refl w.heap.size w).alloc (Nat.le_refl _) (.cells #[.int .i64 pl, .int .i64 pw, .int .i64 pt, .string pa, .slice a pn.length ca] 81)).alloc (by simp) (.cells #[.int .i64 0, .int .i64 0, .int .i64 0, .string ⟨#[]⟩, .slice none 0 0] 81)
  have HV := hid hv
  have HN1 := hid hN1
  have HN2 := hid hN2
  have HA := hid hA
  clear hv hsz hN1 hN2 hA hpa
  go_enter Tryz.func77, Tryz.ntmps77
  go_wp2_with fail
  refine wp_region_held (S := fun w' => w'.cell? ⟨w.heap.size, 3, none⟩ = some (.string pa)) (by kernel_rfl) ?_
  change wpAnyH _ _ _ _ _ _ _ _ (World.drew _)
  have hS0 : ((w.alloc (.cells #[.int .i64 pl, .int .i64 pw, .int .i64 pt, .string pa, .slice a pn.length ca] 81)).alloc (.cells #[.int .i64 0, .int .i64 0, .int .i64 0, .string ⟨#[]⟩, .slice none 0 0] 81)).drew.cell? ⟨w.heap.size, 3, none⟩ = some (.string pa) := HN1.out.cell 3
  have h4 : ((w.alloc (.cells #[.int .i64 pl, .int .i64 pw, .int .i64 pt, .string pa, .slice a pn.length ca] 81)).alloc (.cells #[.int .i64 0, .int .i64 0, .int .i64 0, .string ⟨#[]⟩, .slice none 0 0] 81)).drew.cell? ⟨w.heap.size, 4, none⟩ = some (.slice a pn.length ca) := HN1.out.cell 4
  refine wpAnyH_take (i := 0) (v := .pointer (some ⟨w.heap.size, 3, none⟩)) rfl (by kernel_rfl) (by kernel_rfl) (by kernel_rfl) (fun _ _ _ h => h) (.inl ⟨rfl, fun w' hS => by obtain s1 := hS; go_simp⟩) hS0 ?_
  refine wpAnyH_take (i := 1) (v := .string pa) rfl (by kernel_rfl) (by kernel_rfl) (by kernel_rfl) (fun _ _ _ h => h) (.inl ⟨rfl, fun w' hS => by obtain s1 := hS; go_simp⟩) hS0 ?_
  refine wpAnyH_take (i := 3) (v := .pointer (some ⟨w.heap.size, 4, none⟩)) rfl (by kernel_rfl) (by kernel_rfl) (by kernel_rfl) (fun _ _ _ h => h) (.inl ⟨rfl, fun w' hS => by obtain s1 := hS; go_simp⟩) hS0 ?_
  have hec := enters_of Tryz.func59 (by kernel_rfl) rfl
  have hec2 := enters_of Tryz.func84 (by kernel_rfl) rfl
  have HK : Hid (∀ w1, Below ((w.alloc (.cells #[.int .i64 pl, .int .i64 pw, .int .i64 pt, .string pa, .slice a pn.length ca] 81)).alloc (.cells #[.int .i64 0, .int .i64 0, .int .i64 0, .string ⟨#[]⟩, .slice none 0 0] 81)).drew.heap.size ((w.alloc (.cells #[.int .i64 pl, .int .i64 pw, .int .i64 pt, .string pa, .slice a pn.length ca] 81)).alloc (.cells #[.int .i64 0, .int .i64 0, .int .i64 0, .string ⟨#[]⟩, .slice none 0 0] 81)).drew w1 → Blk w1 w.heap.size 81 #[.int .i64 pl, .int .i64 pw, .int .i64 pt, .string pa, .slice a pn.length ca] ∧ Blk w1 (w.heap.size + 1) 81 #[.int .i64 0, .int .i64 0, .int .i64 0, .string ⟨#[]⟩, .slice none 0 0] ∧ Below w.heap.size w w1 ∧ w.heap.size + 2 ≤ w1.heap.size) := fun w1 hb1 => by
    have hb1' : Below ((w.alloc (.cells #[.int .i64 pl, .int .i64 pw, .int .i64 pt, .string pa, .slice a pn.length ca] 81)).alloc (.cells #[.int .i64 0, .int .i64 0, .int .i64 0, .string ⟨#[]⟩, .slice none 0 0] 81)).heap.size ((w.alloc (.cells #[.int .i64 pl, .int .i64 pw, .int .i64 pt, .string pa, .slice a pn.length ca] 81)).alloc (.cells #[.int .i64 0, .int .i64 0, .int .i64 0, .string ⟨#[]⟩, .slice none 0 0] 81)) w1 := ⟨hb1.os, hb1.tape, hb1.output, hb1.size, hb1.block⟩
    have hs := hb1'.size
    rw [World.size_alloc, World.size_alloc] at hs
    exact ⟨HN1.out.below hb1', HN2.out.below hb1', HA.out.trans (hb1'.mono (by simp; omega)), hs⟩
  refine held_two 2 4 (by kernel_rfl) ?A ?B
  case A =>
    refine op_calls (f := 59) (args := #[.string pa]) rfl rfl (by go_simp) (HF.out _) ?_
    rintro e w1 ⟨rfl, hb1⟩
    obtain ⟨N1a, N2a, Ba, hs1⟩ := HK.out w1 hb1
    clear hb1 hS0 h4
    have hS1 : w1.cell? ⟨w.heap.size, 3, none⟩ = some (.string pa) := N1a.cell 3
    have k4 : w1.cell? ⟨w.heap.size, 4, none⟩ = some (.slice a pn.length ca) := N1a.cell 4
    refine ⟨_, rfl, hS1, ?_⟩
    refine held_one 4 (by kernel_rfl) (op_value (v := .slice a pn.length ca) (w' := w1) rfl rfl (by go_simp) ⟨hS1, ?_⟩)
    refine wpAnyH_take (i := 6) (v := .pointer (some ⟨w.heap.size, 3, none⟩)) rfl (by kernel_rfl) (by kernel_rfl) (by kernel_rfl) (fun _ _ _ h => h) (.inl ⟨rfl, fun w' hS => by obtain s1 := hS; go_simp⟩) hS1 ?_
    have HR := hid (HC.out w1 (HV.out.below Ba))
    clear hS1
    refine held_one 5 (by kernel_rfl) (op_calls (f := 84) (args := #[.slice a pn.length ca]) rfl rfl (by go_simp) HR.out ?_)
    rintro e w2 ⟨v2, rfl, ho2, hb2⟩
    obtain ⟨a2, c2, rfl, _⟩ := row_form ho2
    have N1b := N1a.below hb2
    have N2b := N2a.below hb2
    have Bb := Ba.trans (hb2.mono Ba.size)
    have hs2 := hb2.size
    have hS2 : w2.cell? ⟨w.heap.size, 3, none⟩ = some (.string pa) := N1b.cell 3
    have f3 := N1b.fz 3
    have N1c : Blk (w2.setCell ⟨w.heap.size, 3, none⟩ (.string pa)) w.heap.size 81 #[.int .i64 pl, .int .i64 pw, .int .i64 pt, .string pa, .slice a pn.length ca] := N1b.set 3 (.string pa)
    have f4 := N1c.fz 4
    have d4 : (w2.setCell ⟨w.heap.size, 3, none⟩ (.string pa)).cell? ⟨w.heap.size, 4, none⟩ = some (.slice a pn.length ca) := N1c.cell 4
    have hS3 : (w2.setCell ⟨w.heap.size, 3, none⟩ (.string pa)).cell? ⟨w.heap.size, 3, none⟩ = some (.string pa) := N1c.cell 3
    have N1d : Blk ((w2.setCell ⟨w.heap.size, 3, none⟩ (.string pa)).setCell ⟨w.heap.size, 4, none⟩ (.slice a2 pn.length c2)) w.heap.size 81 #[.int .i64 pl, .int .i64 pw, .int .i64 pt, .string pa, .slice a2 pn.length c2] := N1c.set 4 (.slice a2 pn.length c2)
    have hS4 : ((w2.setCell ⟨w.heap.size, 3, none⟩ (.string pa)).setCell ⟨w.heap.size, 4, none⟩ (.slice a2 pn.length c2)).cell? ⟨w.heap.size, 3, none⟩ = some (.string pa) := N1d.cell 3
    have GD := grown_same (grownBy_setCellAt w2 w.heap.size 3 (.string pa)) (grownBy_setCellAt _ w.heap.size 4 (.slice a2 pn.length c2))
    have N2d := N2b.kept GD (fun e => by simp at e)
    have BD := Bb.grown GD (by omega) (fun g e => by cases e; exact Nat.le_refl _)
    have OD := row_kept (ownsRow_base ho2 (show w.heap.size + 2 ≤ _ by omega)) GD (by omega)
    refine ⟨_, rfl, hS2, ?_⟩
    refine held_one 7 (by kernel_rfl) (op_skip (w' := w2.setCell ⟨w.heap.size, 3, none⟩ (.string pa)) rfl rfl (by go_simp) ⟨hS3, ?_⟩)
    refine wpAnyH_take (i := 8) (v := .pointer (some ⟨w.heap.size, 4, none⟩)) rfl (by kernel_rfl) (by kernel_rfl) (by kernel_rfl) (fun _ _ _ h => h) (.inl ⟨rfl, fun w' hS => by obtain s1 := hS; go_simp⟩) hS3 ?_
    refine held_one 9 (by kernel_rfl) (op_skip (w' := (w2.setCell ⟨w.heap.size, 3, none⟩ (.string pa)).setCell ⟨w.heap.size, 4, none⟩ (.slice a2 pn.length c2)) rfl rfl (by go_simp) ⟨hS4, wpAnyH_done (by kernel_rfl) ?_ _⟩)
    obtain ⟨w3, hw3⟩ : ∃ w3, w3 = (w2.setCell ⟨w.heap.size, 3, none⟩ (.string pa)).setCell ⟨w.heap.size, 4, none⟩ (.slice a2 pn.length c2) := ⟨_, rfl⟩
    rw [← hw3] at N1d N2d BD OD ⊢
    have l0 : w3.cell? ⟨w.heap.size, 0, none⟩ = some (.int .i64 pl) := N1d.cell 0
    have l1 : w3.cell? ⟨w.heap.size, 1, none⟩ = some (.int .i64 pw) := N1d.cell 1
    have l2 : w3.cell? ⟨w.heap.size, 2, none⟩ = some (.int .i64 pt) := N1d.cell 2
    have l3 : w3.cell? ⟨w.heap.size, 3, none⟩ = some (.string pa) := N1d.cell 3
    have l4 : w3.cell? ⟨w.heap.size, 4, none⟩ = some (.slice a2 pn.length c2) := N1d.cell 4
    obtain ⟨q0, k0, q1, k1, q2, k2, q3, k3, q4, k4'⟩ := N2d.store5 (.int .i64 pl) (.int .i64 pw) (.int .i64 pt) (.string pa) (.slice a2 pn.length c2)
    have Z := hid (N2d.set5 (.int .i64 pl) (.int .i64 pw) (.int .i64 pt) (.string pa) (.slice a2 pn.length c2))
    have BB := hid (below_set5 BD (b := w.heap.size + 1) (by omega) (Nat.le_refl _) (.int .i64 pl) (.int .i64 pw) (.int .i64 pt) (.string pa) (.slice a2 pn.length c2))
    have OO := hid (row_kept OD (grown_set5 w3 (w.heap.size + 1) (.int .i64 pl) (.int .i64 pw) (.int .i64 pt) (.string pa) (.slice a2 pn.length c2)) (by omega))
    clear hS2 hS3 hS4 f3 f4 d4 k4 N1a N2a Ba N1b N2b Bb N1c N1d GD N2d BD OD ho2 hb2 hw3 HR
    go_simp
    go_wp2
    rw [set5_def]
    refine bodyPost_ret (v := .agg #[.int .i64 pl, .int .i64 pw, .int .i64 pt, .string pa, .slice a2 pn.length c2]) (by simp [results, Tryz.results77, go_sem, Z.out.cell]) rfl ⟨_, rfl, OO.out, BB.out⟩
  case B =>
    refine op_value (v := .slice a pn.length ca) (w' := ((w.alloc (.cells #[.int .i64 pl, .int .i64 pw, .int .i64 pt, .string pa, .slice a pn.length ca] 81)).alloc (.cells #[.int .i64 0, .int .i64 0, .int .i64 0, .string ⟨#[]⟩, .slice none 0 0] 81)).drew) rfl rfl (by go_simp) ⟨hS0, ?_⟩
    refine held_one 2 (by kernel_rfl) (op_calls (f := 59) (args := #[.string pa]) rfl rfl (by go_simp) (HF.out _) ?_)
    rintro e w1 ⟨rfl, hb1⟩
    obtain ⟨N1a, N2a, Ba, hs1⟩ := HK.out w1 hb1
    clear hb1 hS0 h4
    have hS1 : w1.cell? ⟨w.heap.size, 3, none⟩ = some (.string pa) := N1a.cell 3
    have k4 : w1.cell? ⟨w.heap.size, 4, none⟩ = some (.slice a pn.length ca) := N1a.cell 4
    refine ⟨_, rfl, hS1, ?_⟩
    refine wpAnyH_take (i := 6) (v := .pointer (some ⟨w.heap.size, 3, none⟩)) rfl (by kernel_rfl) (by kernel_rfl) (by kernel_rfl) (fun _ _ _ h => h) (.inl ⟨rfl, fun w' hS => by obtain s1 := hS; go_simp⟩) hS1 ?_
    have HR := hid (HC.out w1 (HV.out.below Ba))
    clear hS1
    refine held_one 5 (by kernel_rfl) (op_calls (f := 84) (args := #[.slice a pn.length ca]) rfl rfl (by go_simp) HR.out ?_)
    rintro e w2 ⟨v2, rfl, ho2, hb2⟩
    obtain ⟨a2, c2, rfl, _⟩ := row_form ho2
    have N1b := N1a.below hb2
    have N2b := N2a.below hb2
    have Bb := Ba.trans (hb2.mono Ba.size)
    have hs2 := hb2.size
    have hS2 : w2.cell? ⟨w.heap.size, 3, none⟩ = some (.string pa) := N1b.cell 3
    have f3 := N1b.fz 3
    have N1c : Blk (w2.setCell ⟨w.heap.size, 3, none⟩ (.string pa)) w.heap.size 81 #[.int .i64 pl, .int .i64 pw, .int .i64 pt, .string pa, .slice a pn.length ca] := N1b.set 3 (.string pa)
    have f4 := N1c.fz 4
    have d4 : (w2.setCell ⟨w.heap.size, 3, none⟩ (.string pa)).cell? ⟨w.heap.size, 4, none⟩ = some (.slice a pn.length ca) := N1c.cell 4
    have hS3 : (w2.setCell ⟨w.heap.size, 3, none⟩ (.string pa)).cell? ⟨w.heap.size, 3, none⟩ = some (.string pa) := N1c.cell 3
    have N1d : Blk ((w2.setCell ⟨w.heap.size, 3, none⟩ (.string pa)).setCell ⟨w.heap.size, 4, none⟩ (.slice a2 pn.length c2)) w.heap.size 81 #[.int .i64 pl, .int .i64 pw, .int .i64 pt, .string pa, .slice a2 pn.length c2] := N1c.set 4 (.slice a2 pn.length c2)
    have hS4 : ((w2.setCell ⟨w.heap.size, 3, none⟩ (.string pa)).setCell ⟨w.heap.size, 4, none⟩ (.slice a2 pn.length c2)).cell? ⟨w.heap.size, 3, none⟩ = some (.string pa) := N1d.cell 3
    have GD := grown_same (grownBy_setCellAt w2 w.heap.size 3 (.string pa)) (grownBy_setCellAt _ w.heap.size 4 (.slice a2 pn.length c2))
    have N2d := N2b.kept GD (fun e => by simp at e)
    have BD := Bb.grown GD (by omega) (fun g e => by cases e; exact Nat.le_refl _)
    have OD := row_kept (ownsRow_base ho2 (show w.heap.size + 2 ≤ _ by omega)) GD (by omega)
    refine ⟨_, rfl, hS2, ?_⟩
    refine held_one 7 (by kernel_rfl) (op_skip (w' := w2.setCell ⟨w.heap.size, 3, none⟩ (.string pa)) rfl rfl (by go_simp) ⟨hS3, ?_⟩)
    refine wpAnyH_take (i := 8) (v := .pointer (some ⟨w.heap.size, 4, none⟩)) rfl (by kernel_rfl) (by kernel_rfl) (by kernel_rfl) (fun _ _ _ h => h) (.inl ⟨rfl, fun w' hS => by obtain s1 := hS; go_simp⟩) hS3 ?_
    refine held_one 9 (by kernel_rfl) (op_skip (w' := (w2.setCell ⟨w.heap.size, 3, none⟩ (.string pa)).setCell ⟨w.heap.size, 4, none⟩ (.slice a2 pn.length c2)) rfl rfl (by go_simp) ⟨hS4, wpAnyH_done (by kernel_rfl) ?_ _⟩)
    obtain ⟨w3, hw3⟩ : ∃ w3, w3 = (w2.setCell ⟨w.heap.size, 3, none⟩ (.string pa)).setCell ⟨w.heap.size, 4, none⟩ (.slice a2 pn.length c2) := ⟨_, rfl⟩
    rw [← hw3] at N1d N2d BD OD ⊢
    have l0 : w3.cell? ⟨w.heap.size, 0, none⟩ = some (.int .i64 pl) := N1d.cell 0
    have l1 : w3.cell? ⟨w.heap.size, 1, none⟩ = some (.int .i64 pw) := N1d.cell 1
    have l2 : w3.cell? ⟨w.heap.size, 2, none⟩ = some (.int .i64 pt) := N1d.cell 2
    have l3 : w3.cell? ⟨w.heap.size, 3, none⟩ = some (.string pa) := N1d.cell 3
    have l4 : w3.cell? ⟨w.heap.size, 4, none⟩ = some (.slice a2 pn.length c2) := N1d.cell 4
    obtain ⟨q0, k0, q1, k1, q2, k2, q3, k3, q4, k4'⟩ := N2d.store5 (.int .i64 pl) (.int .i64 pw) (.int .i64 pt) (.string pa) (.slice a2 pn.length c2)
    have Z := hid (N2d.set5 (.int .i64 pl) (.int .i64 pw) (.int .i64 pt) (.string pa) (.slice a2 pn.length c2))
    have BB := hid (below_set5 BD (b := w.heap.size + 1) (by omega) (Nat.le_refl _) (.int .i64 pl) (.int .i64 pw) (.int .i64 pt) (.string pa) (.slice a2 pn.length c2))
    have OO := hid (row_kept OD (grown_set5 w3 (w.heap.size + 1) (.int .i64 pl) (.int .i64 pw) (.int .i64 pt) (.string pa) (.slice a2 pn.length c2)) (by omega))
    clear hS2 hS3 hS4 f3 f4 d4 k4 N1a N2a Ba N1b N2b Bb N1c N1d GD N2d BD OD ho2 hb2 hw3 HR
    go_simp
    go_wp2
    rw [set5_def]
    refine bodyPost_ret (v := .agg #[.int .i64 pl, .int .i64 pw, .int .i64 pt, .string pa, .slice a2 pn.length c2]) (by simp [results, Tryz.results77, go_sem, Z.out.cell]) rfl ⟨_, rfl, OO.out, BB.out⟩
end Go.Proofs.YtlnkhbnbcmllaaaGreat
/- impl.isPeerCount. -/
namespace Go.Proofs.YtlnkhbnbcmllaaaGreat
open Go.RowKit
set_option maxRecDepth 100000 in
theorem isPeerCount_any (n : Int) (w : World) :
    Calls Tryz.prog 75 #[.int .i64 n] w fun e w' => e = .returned (.bool (decide (1 ≤ n ∧ n ≤ 5))) ∧ w' = w := by
  by_cases h1 : 1 ≤ n
  · by_cases h2 : n ≤ 5
    · have e : decide (1 ≤ n ∧ n ≤ 5) = true := by simp [h1, h2]
      rw [e]
      go_enter Tryz.func75, Tryz.ntmps75
      go_wp2
      go_ret
      exact ⟨rfl, rfl⟩
    · have e : decide (1 ≤ n ∧ n ≤ 5) = false := by simp [h2]
      rw [e]
      go_enter Tryz.func75, Tryz.ntmps75
      go_wp2
      go_ret
      exact ⟨rfl, rfl⟩
  · have e : decide (1 ≤ n ∧ n ≤ 5) = false := by simp [h1]
    rw [e]
    go_enter Tryz.func75, Tryz.ntmps75
    go_wp2
    go_ret
    exact ⟨rfl, rfl⟩
end Go.Proofs.YtlnkhbnbcmllaaaGreat
/- The peers of a hunt, under their numbers. -/
namespace Go.Proofs.YtlnkhbnbcmllaaaGreat
open Go.RowKit
/-- How a pointer reads as an element of a map. -/
def ptrElem (v : Value) : Option (DataW Unit × List MemPlace) :=
  match v with
  | .pointer (some ⟨b, 0, none⟩) => some (.lit (.int .i64 (b : Int)), [])
  | .pointer none => some (.lit (.int .i64 (-1)), [])
  | _ => none
theorem ptrElem_mk (b : Nat) : ptrElem (.pointer (some ⟨b, 0, none⟩)) = some (.lit (.int .i64 (b : Int)), []) := rfl
/-- The map of the first peers: their blocks by their numbers. -/
def mapP (pbs : List Nat) : Nat → DataW Unit
  | 0 => .map []
  | k + 1 => (mapP pbs k).put (.int .i64 ((k + 1 : Nat) : Int)) (.lit (.int .i64 ((pbs.getD k 0 : Nat) : Int)))
theorem mapP_snoc (pbs : List Nat) (b : Nat) : ∀ k, k ≤ pbs.length → mapP (pbs ++ [b]) k = mapP pbs k
  | 0, _ => rfl
  | k + 1, h => by
    have e : (pbs ++ [b]).getD k 0 = pbs.getD k 0 := by rw [List.getD_eq_getElem?_getD, List.getElem?_append_left (by omega), ← List.getD_eq_getElem?_getD]
    simp only [mapP]
    rw [mapP_snoc pbs b k (by omega), e]
theorem makePeers (n : Nat) (w : World) : (Instr.makeMap 94 (some (.int .i64 (n : Int)))).run Tryz.prog w = .ok (.map (some w.heap.size)) (w.alloc (.map #[] 0)) := by
  simp [Instr.makeMap, go_sem]
theorem keyed3 : Maps.Keyed Tryz.prog 3 := Maps.int_keyed Tryz.underlying3
theorem key3 (k : Nat) (h : k ≤ 1000) : keyOf Tryz.prog 3 (.int .i64 (k : Int)) = some (.int .i64 (k : Int)) := Maps.keyOf_int_mk Tryz.underlying3 (by
  have h1 : IntKind.i64.min = -9223372036854775808 := rfl
  have h2 : IntKind.i64.max = 9223372036854775807 := rfl
  simp [Lit.wf]
  omega)
abbrev pcells (p : Pr) (v : Value) : Array Value := #[.int .i64 p.lies, .int .i64 p.wait, .int .i64 p.last, .string p.asked, v]
/-- The peers of a hunt. -/
structure PeersAt (w : World) (C pm : Nat) (qs : PV) (pbs : List Nat) : Prop where
  len : pbs.length = qs.length
  map : w.ownsMap Tryz.prog 3 ptrElem pm qs.length (mapP pbs qs.length)
  blk : ∀ i, i < qs.length → C ≤ pbs.getD i 0 ∧ Blk w (pbs.getD i 0) 81 (pcells (qp qs i) (qv qs i))
  nots : ∀ i, i < qs.length → w.ownsRow C 9 1 (qv qs i) (qp qs i).nots.length ((qp qs i).nots.map Value.string)
  ap1 : ∀ i j, i < qs.length → j < qs.length → (qv qs i).ownBlock ≠ some (pbs.getD j 0)
  ap2 : ∀ i j, i < qs.length → j < qs.length → i ≠ j → pbs.getD i 0 ≠ pbs.getD j 0
  ap3 : ∀ i j, i < qs.length → j < qs.length → i ≠ j → ∀ g, (qv qs i).ownBlock = some g → (qv qs j).ownBlock ≠ some g
theorem PeersAt.below {w w' : World} {C pm : Nat} {qs : PV} {pbs : List Nat} (h : PeersAt w C pm qs pbs) (hb : Below w.heap.size w w') : PeersAt w' C pm qs pbs :=
  ⟨h.len, h.map.kept (grown_of_below hb) (by simp), fun i hi => ⟨(h.blk i hi).1, (h.blk i hi).2.below hb⟩, fun i hi => Below.row hb (h.nots i hi), h.ap1, h.ap2, h.ap3⟩
theorem qp_init (qs : PV) (q : Pr × Value) (j : Nat) (h : j < qs.length) : qp (qs ++ [q]) j = qp qs j := by
  unfold qp
  rw [List.getD_eq_getElem?_getD, List.getElem?_append_left h, ← List.getD_eq_getElem?_getD]
theorem qp_last (qs : PV) (q : Pr × Value) : qp (qs ++ [q]) qs.length = q.1 := by simp [qp]
theorem qv_init (qs : PV) (q : Pr × Value) (j : Nat) (h : j < qs.length) : qv (qs ++ [q]) j = qv qs j := by
  unfold qv
  rw [List.getD_eq_getElem?_getD, List.getElem?_append_left h, ← List.getD_eq_getElem?_getD]
theorem qv_last (qs : PV) (q : Pr × Value) : qv (qs ++ [q]) qs.length = q.2 := by simp [qv]
theorem pb_init (pbs : List Nat) (b j : Nat) (h : j < pbs.length) : (pbs ++ [b]).getD j 0 = pbs.getD j 0 := by
  rw [List.getD_eq_getElem?_getD, List.getElem?_append_left h, ← List.getD_eq_getElem?_getD]
theorem pb_last (pbs : List Nat) (b n : Nat) (h : pbs.length = n) : (pbs ++ [b]).getD n 0 = b := by subst h; simp
/-- One peer more: its box and its row are new. -/
theorem PeersAt.snoc {w w1 w2 : World} {C pm pb : Nat} {qs : PV} {pbs : List Nat} {p : Pr} {v : Value} (h : PeersAt w C pm qs pbs) (hpm : pm < C) (hC : C ≤ w.heap.size) (hb : Below w.heap.size w w1) (hblk : Blk w1 pb 81 (pcells p v)) (hpb : w.heap.size ≤ pb) (hrow : w1.ownsRow w.heap.size 9 1 v p.nots.length (p.nots.map Value.string)) (hne : v.ownBlock ≠ some pb)
    (hm : w2.ownsMap Tryz.prog 3 ptrElem pm (qs.length + 1) ((mapP pbs qs.length).put (.int .i64 ((qs.length + 1 : Nat) : Int)) (.lit (.int .i64 (pb : Int))))) (hg : w1.grownBy w2 (some pm)) : PeersAt w2 C pm (qs ++ [(p, v)]) (pbs ++ [pb]) := by
  have hl : (qs ++ [(p, v)]).length = qs.length + 1 := by simp
  have hlt : ∀ i, i < qs.length → pbs.getD i 0 < w.heap.size := fun i hi => (h.blk i hi).2.lt
  have hnl : ∀ i, i < qs.length → ∀ g, (qv qs i).ownBlock = some g → C ≤ g ∧ g < w.heap.size := fun i hi g e => (h.nots i hi).lt g e
  have hvl : ∀ g, v.ownBlock = some g → w.heap.size ≤ g := fun g e => (hrow.lt g e).1
  have hkb : ∀ i, i < qs.length + 1 → i = qs.length ∨ i < qs.length := fun i hi => by omega
  have P0 := pb_last pbs pb qs.length h.len
  have P1 : ∀ j, j < qs.length → (pbs ++ [pb]).getD j 0 = pbs.getD j 0 := fun j hj => pb_init pbs pb j (by rw [h.len]; exact hj)
  have Q0 := qp_last qs (p, v)
  have Q1 := qp_init qs (p, v)
  have V0 := qv_last qs (p, v)
  have V1 := qv_init qs (p, v)
  refine ⟨by simp [h.len], ?_, fun i hi => ?_, fun i hi => ?_, fun i j hi hj => ?_, fun i j hi hj hij => ?_, fun i j hi hj hij g => ?_⟩
  · rw [hl]
    have e : mapP (pbs ++ [pb]) (qs.length + 1) = (mapP pbs qs.length).put (.int .i64 ((qs.length + 1 : Nat) : Int)) (.lit (.int .i64 (pb : Int))) := by
      simp only [mapP]
      rw [mapP_snoc pbs pb qs.length (by rw [h.len]; exact Nat.le_refl _), P0]
    rw [e]
    exact hm
  · rw [hl] at hi
    rcases hkb i hi with rfl | hi'
    · rw [P0, Q0, V0]
      exact ⟨by omega, hblk.kept hg (fun e => by have := Option.some.inj e; omega)⟩
    · rw [P1 i hi', Q1 i hi', V1 i hi']
      have := h.blk i hi'
      exact ⟨this.1, (this.2.below hb).kept hg (fun e => by have := Option.some.inj e; omega)⟩
  · rw [hl] at hi
    rcases hkb i hi with rfl | hi'
    · rw [Q0, V0]
      exact row_far (ownsRow_base hrow hC) hg (fun e => by have := hvl _ e; omega)
    · rw [Q1 i hi', V1 i hi']
      exact row_far (Below.row hb (h.nots i hi')) hg (fun e => by have := (hnl i hi' _ e).1; omega)
  · rw [hl] at hi hj
    rcases hkb i hi with rfl | hi' <;> rcases hkb j hj with rfl | hj'
    · rw [V0, P0]; exact hne
    · rw [V0, P1 j hj']; exact fun e => by have := hvl _ e; have := hlt j hj'; omega
    · rw [V1 i hi', P0]; exact fun e => by have := (hnl i hi' _ e).2; omega
    · rw [V1 i hi', P1 j hj']; exact h.ap1 i j hi' hj'
  · rw [hl] at hi hj
    rcases hkb i hi with rfl | hi' <;> rcases hkb j hj with rfl | hj'
    · exact absurd rfl hij
    · rw [P0, P1 j hj']; have := hlt j hj'; omega
    · rw [P1 i hi', P0]; have := hlt i hi'; omega
    · rw [P1 i hi', P1 j hj']; exact h.ap2 i j hi' hj' hij
  · rw [hl] at hi hj
    rcases hkb i hi with rfl | hi' <;> rcases hkb j hj with rfl | hj'
    · exact absurd rfl hij
    · rw [V0, V1 j hj']; exact fun e e2 => by have := hvl _ e; have := (hnl j hj' _ e2).2; omega
    · rw [V1 i hi', V0]; exact fun e e2 => by have := hvl _ e2; have := (hnl i hi' _ e).2; omega
    · rw [V1 i hi', V1 j hj']; exact h.ap3 i j hi' hj' hij g
theorem ShelfAt.far {w w' : World} {B sb mb b : Nat} {vc : Value} {wd room : Int} {its : Itms} {ts : List ByteArray} {k : Nat} (h : ShelfAt w B sb mb vc wd room its ts k) (hg : w.grownBy w' (some b)) (h1 : b ≠ sb) (h2 : b ≠ mb) (h3 : vc.ownBlock ≠ some b) : ShelfAt w' B sb mb vc wd room its ts k :=
  ⟨h.box.kept hg (fun e => h1 (Option.some.inj e).symm), h.map.kept hg (fun e => h2 (Option.some.inj e).symm), row_far h.row hg h3, h.hs, h.hm, h.ne, h.ns, h.nm⟩
theorem ShelfAt.base {w : World} {B B' sb mb : Nat} {vc : Value} {wd room : Int} {its : Itms} {ts : List ByteArray} {k : Nat} (h : ShelfAt w B sb mb vc wd room its ts k) (hb : B' ≤ B) : ShelfAt w B' sb mb vc wd room its ts k :=
  ⟨h.box, h.map, ownsRow_base h.row hb, Nat.le_trans hb h.hs, Nat.le_trans hb h.hm, h.ne, h.ns, h.nm⟩
/-- A hunt: a shelf, below it the box and the map, below these the peers. -/
structure HuntAt (w : World) (B C1 C2 hb pm sb mb : Nat) (vc : Value) (nm : ByteArray) (now : Int) (full : Bool) (wd room : Int) (its : Itms) (ts : List ByteArray) (qs : PV) (pbs : List Nat) (lv : Value) (lk : Bool) : Prop where
  box : Blk w hb 96 #[.string nm, .int .i64 now, .bool full, .pointer (some ⟨sb, 0, none⟩), .map (some pm), lv, .bool lk]
  shelf : ShelfAt w B sb mb vc wd room its ts its.length
  peers : PeersAt w C2 pm qs pbs
  s1 : sb < C1
  s2 : mb < C1
  s3 : ∀ g, vc.ownBlock = some g → g < C1
  b1 : C1 ≤ hb
  b2 : C1 ≤ pm
  b3 : hb < C2
  b4 : pm < C2
  b5 : hb ≠ pm
  b6 : B ≤ C1
  b7 : C2 ≤ w.heap.size
def FRes (nm : ByteArray) (now : Int) (full : Bool) (wd room : Int) (its : Itms) (ts : List ByteArray) (ps : Prs) (w : World) (e : Ending) (w' : World) : Prop :=
  (¬ ValidF nm now wd room its ts ps ∧ e = .returned (.tuple #[.pointer none, .bool false]) ∧ Below w.heap.size w w') ∨
  (ValidF nm now wd room its ts ps ∧ ∃ C1 C2 hb pm sb mb vc qs pbs, e = .returned (.tuple #[.pointer (some ⟨hb, 0, none⟩), .bool true]) ∧ qs.map Prod.fst = ps ∧ HuntAt w' w.heap.size C1 C2 hb pm sb mb vc nm now full wd room its ts qs pbs (.slice none 0 0) false ∧ Below w.heap.size w w')
theorem FRes.no {nm : ByteArray} {now : Int} {full : Bool} {wd room : Int} {its : Itms} {ts : List ByteArray} {ps : Prs} {w w' : World} (h : ¬ ValidF nm now wd room its ts ps) (hb : Below w.heap.size w w') : FRes nm now full wd room its ts ps w (.returned (.tuple #[.pointer none, .bool false])) w' := .inl ⟨h, rfl, hb⟩
end Go.Proofs.YtlnkhbnbcmllaaaGreat
/- The map of the peers: how many, and who is under a number. -/
namespace Go.Proofs.YtlnkhbnbcmllaaaGreat
open Go.RowKit
theorem mapP_tidy (pbs : List Nat) : ∀ k, Maps.Tidy (mapP pbs k)
  | 0 => Maps.tidy_empty
  | k + 1 => (mapP_tidy pbs k).put (show WideAt.IsKeyLit (.int .i64 ((k + 1 : Nat) : Int)) from trivial) _
theorem mapP_has (pbs : List Nat) (j : Nat) : ∀ k, k < j → Maps.has (mapP pbs k) (.int .i64 (j : Int)) = false
  | 0, _ => rfl
  | k + 1, h => by
    have e : mapP pbs (k + 1) = (mapP pbs k).put (.int .i64 ((k + 1 : Nat) : Int)) (.lit (.int .i64 ((pbs.getD k 0 : Nat) : Int))) := rfl
    rw [e, Maps.has_put_other (k := .int .i64 ((k + 1 : Nat) : Int)) (k' := .int .i64 (j : Int)) (fun e => by injection e; omega)]
    exact mapP_has pbs j k (by omega)
theorem mapP_size (pbs : List Nat) : ∀ k, Maps.size (mapP pbs k) = k
  | 0 => rfl
  | k + 1 => by
    have e : mapP pbs (k + 1) = (mapP pbs k).put (.int .i64 ((k + 1 : Nat) : Int)) (.lit (.int .i64 ((pbs.getD k 0 : Nat) : Int))) := rfl
    rw [e, Maps.size_put (mapP_tidy pbs k), mapP_has pbs (k + 1) k (by omega), mapP_size pbs k]
    rfl
theorem len_peers {w : World} {C pm : Nat} {qs : PV} {pbs : List Nat} (h : PeersAt w C pm qs pbs) (ty : TypeId) : (Builtin.len_ #[94] ty #[.map (some pm)]).run Tryz.prog w = .ok (.int .i64 (qs.length : Int)) w := by
  have := h.map.len Tryz.underlying94 ty
  rw [mapP_size] at this
  exact this
theorem mapP_at (pbs : List Nat) (z : DataW Unit) (j : Nat) (h1 : 1 ≤ j) : ∀ n, j ≤ n → (mapP pbs n).atKey (.int .i64 (j : Int)) z = .lit (.int .i64 ((pbs.getD (j - 1) 0 : Nat) : Int))
  | 0, h => by omega
  | n + 1, h => by
    have e : mapP pbs (n + 1) = (mapP pbs n).put (.int .i64 ((n + 1 : Nat) : Int)) (.lit (.int .i64 ((pbs.getD n 0 : Nat) : Int))) := rfl
    rw [e]
    by_cases hj : j = n + 1
    · subst hj
      rw [Maps.atKey_put_same (mapP_tidy pbs n).isMap (show WideAt.IsKeyLit (.int .i64 ((n + 1 : Nat) : Int)) from trivial)]
      rfl
    · rw [Maps.atKey_put_other (k := .int .i64 ((n + 1 : Nat) : Int)) (k' := .int .i64 (j : Int)) (fun e => by injection e; omega)]
      exact mapP_at pbs z j h1 n (by omega)
theorem ptrElem_inv {v : Value} {b : Nat} {ps : List MemPlace} (h : ptrElem v = some (.lit (.int .i64 (b : Int)), ps)) : v = .pointer (some ⟨b, 0, none⟩) := by
  unfold ptrElem at h
  split at h
  · next c =>
    have h1 := (Prod.mk.inj (Option.some.inj h)).1
    injection h1 with h2
    injection h2 with _ h3
    have : c = b := by omega
    rw [this]
  · have h1 := (Prod.mk.inj (Option.some.inj h)).1
    injection h1 with h2
    injection h2 with _ h3
    omega
  · cases h
theorem zvPeer (w : World) : (zeroValue 126).run Tryz.prog w = .ok (.pointer none) w := by kernel_rfl
theorem len_mapP {w : World} {pm n : Nat} {pbs : List Nat} (h : w.ownsMap Tryz.prog 3 ptrElem pm n (mapP pbs n)) (ty : TypeId) : (Builtin.len_ #[94] ty #[.map (some pm)]).run Tryz.prog w = .ok (.int .i64 (n : Int)) w := by
  have := h.len Tryz.underlying94 ty
  rw [mapP_size] at this
  exact this
/-- A hunt as far as it is read. -/
structure HuntRd (w : World) (hb pm sb mb : Nat) (vc : Value) (nm : ByteArray) (now : Int) (full : Bool) (wd room tot : Int) (its : Itms) (ts : List ByteArray) (qs : PV) (pbs : List Nat) (lv : Value) (lk : Bool) : Prop where
  box : Blk w hb 96 #[.string nm, .int .i64 now, .bool full, .pointer (some ⟨sb, 0, none⟩), .map (some pm), lv, .bool lk]
  sbox : Blk w sb 109 #[.int .i64 wd, .int .i64 room, .int .i64 tot, .map (some mb), vc]
  smap : w.ownsMap Tryz.prog 9 itemElem mb its.length (mapI wd its its.length)
  srow : Reads w vc ts
  pmap : w.ownsMap Tryz.prog 3 ptrElem pm qs.length (mapP pbs qs.length)
  pblk : ∀ i, i < qs.length → Blk w (pbs.getD i 0) 81 (pcells (qp qs i) (qv qs i))
  nots : ∀ i, i < qs.length → Reads w (qv qs i) (qp qs i).nots
theorem HuntAt.rd {w : World} {B C1 C2 hb pm sb mb : Nat} {vc : Value} {nm : ByteArray} {now : Int} {full : Bool} {wd room : Int} {its : Itms} {ts : List ByteArray} {qs : PV} {pbs : List Nat} {lv : Value} {lk : Bool} (h : HuntAt w B C1 C2 hb pm sb mb vc nm now full wd room its ts qs pbs lv lk) : HuntRd w hb pm sb mb vc nm now full wd room (totI (its.take its.length) : Nat) its ts qs pbs lv lk :=
  ⟨h.box, h.shelf.box, h.shelf.map, Reads.of_row h.shelf.row, h.peers.map, fun i hi => (h.peers.blk i hi).2, fun i hi => Reads.of_row (h.peers.nots i hi)⟩
theorem HuntRd.below {w w' : World} {hb pm sb mb : Nat} {vc : Value} {nm : ByteArray} {now : Int} {full : Bool} {wd room tot : Int} {its : Itms} {ts : List ByteArray} {qs : PV} {pbs : List Nat} {lv : Value} {lk : Bool} (h : HuntRd w hb pm sb mb vc nm now full wd room tot its ts qs pbs lv lk) (hb' : Below w.heap.size w w') : HuntRd w' hb pm sb mb vc nm now full wd room tot its ts qs pbs lv lk :=
  ⟨h.box.below hb', h.sbox.below hb', h.smap.kept (grown_of_below hb') (by simp), h.srow.below hb', h.pmap.kept (grown_of_below hb') (by simp), fun i hi => (h.pblk i hi).below hb', fun i hi => (h.nots i hi).below hb'⟩
theorem map_lt {P : Program} {w : World} {k : TypeId} {R : Value → Option (DataW Unit × List MemPlace)} {b n : Nat} {D : DataW Unit} (h : w.ownsMap P k R b n D) : b < w.heap.size := by
  obtain ⟨es, clock, hm, _⟩ := h
  exact (Array.getElem?_eq_some_iff.1 hm).1
/-- The peer under a number. -/
theorem look_peer {W : World} {pm n : Nat} {pbs : List Nat} (h : W.ownsMap Tryz.prog 3 ptrElem pm n (mapP pbs n)) (j : Nat) (h1 : 1 ≤ j) (h2 : j ≤ n) (h3 : n ≤ 1000) : (Instr.lookup 94 (.map (some pm)) (.int .i64 (j : Int)) false).run Tryz.prog W = .ok (.pointer (some ⟨pbs.getD (j - 1) 0, 0, none⟩)) W := by
  obtain ⟨v, ps, hrun, hv⟩ := h.lookup keyed3 Tryz.underlying94 (zvPeer W) (show ptrElem (.pointer none) = some (.lit (.int .i64 (-1)), []) from rfl) (key3 j (by omega))
  rw [mapP_at pbs _ j h1 n h2] at hv
  obtain rfl := ptrElem_inv hv
  exact hrun
end Go.Proofs.YtlnkhbnbcmllaaaGreat
