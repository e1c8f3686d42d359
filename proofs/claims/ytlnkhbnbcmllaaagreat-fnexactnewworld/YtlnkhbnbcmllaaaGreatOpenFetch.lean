/- impl.openFetch opens a fetch, if it is valid; impl.ValidFetch. -/
import Derived.Test.YtlnkhbnbcmllaaaGreatMapPeers
namespace Go.Proofs.YtlnkhbnbcmllaaaGreat
open Go.RowKit
set_option maxRecDepth 100000 in
set_option maxHeartbeats 8000000 in
theorem openFetch_any (nm : ByteArray) (now : Int) (full : Bool) (wd room : Int) (vi vp vq : Value) (its : Itms) (ts : List ByteArray) (ps : Prs) (w : World) (hi : RdI w vi its) (hp : Reads w vp ts) (hq : RdP w vq ps) (hli : its.length ≤ 1048576) (hlp : ts.length ≤ 1048576) (hlq : ps.length ≤ 1048576) (hsi : ∀ i, (itx its i).size ≤ 1048576) (hsp : ∀ i, (tv ts i).size ≤ 1048576) (hf : PsFit 1048576 ps) :
    Calls Tryz.prog 52 #[fval nm now full wd room vi vp vq] w fun e w' => FRes nm now full wd room its ts ps w e w' := by
  have hA := (Below.refl w.heap.size w).alloc (Nat.le_refl _) (.cells (fcells nm now full wd room vi vp vq) 37)
  have HO := hid (openStore_any wd room vi vp its ts _ (hi.below hA) (hp.below hA) hli hlp hsi hsp)
  have HN := hid (Blk.new w 37 (fcells nm now full wd room vi vp vq))
  have HQ0 := hid hq
  have HA := hid hA
  have HF := hid hf
  obtain ⟨ai, ci, rfl, _⟩ := hi
  obtain ⟨ap, cp, rfl, _⟩ := hp.form
  obtain ⟨aq, cq, rfl, _⟩ := hq
  clear hp hA hsi hsp hf
  have hec := enters_of Tryz.func73 (by kernel_rfl) rfl
  have hec2 := enters_of Tryz.func74 (by kernel_rfl) rfl
  have hec3 := enters_of Tryz.func75 (by kernel_rfl) rfl
  go_enter Tryz.func52, Tryz.ntmps52
  go_wp2_with fail
  refine HO.out.mono ?_
  rintro e w1 (⟨hn, rfl, hb1⟩ | ⟨hv, sb, mb, vc, rfl, hsh, hb1⟩)
  · have N1 := HN.out.below hb1
    have HB1 := hid (HA.out.trans (hb1.mono (by simp)))
    have HNO : Hid (¬ ValidF nm now wd room its ts ps) := fun h => hn h.store
    have hS0 : w1.drew.cell? ⟨w.heap.size, 0, none⟩ = some (.string nm) ∧ w1.drew.cell? ⟨w.heap.size, 1, none⟩ = some (.int .i64 now) ∧ w1.drew.cell? ⟨w.heap.size, 7, none⟩ = some (.slice aq ps.length cq) := ⟨N1.cell 0, N1.cell 1, N1.cell 7⟩
    clear hn hb1 N1
    go_wp2_with fail
    refine wp_region_held (S := fun w' => w'.cell? ⟨w.heap.size, 0, none⟩ = some (.string nm) ∧ w'.cell? ⟨w.heap.size, 1, none⟩ = some (.int .i64 now) ∧ w'.cell? ⟨w.heap.size, 7, none⟩ = some (.slice aq ps.length cq)) (by kernel_rfl) ?_
    change wpAnyH _ _ _ _ _ _ _ _ (World.drew _)
    refine wpAnyH_take (i := 0) (v := .bool false) rfl (by kernel_rfl) (by kernel_rfl) (by kernel_rfl) (fun _ _ _ h => h) (.inl ⟨rfl, fun w' hS => by obtain ⟨s1, s2, s3⟩ := hS; go_simp⟩) hS0 ?_
    refine wpAnyH_take (i := 1) (v := .bool true) rfl (by kernel_rfl) (by kernel_rfl) (by kernel_rfl) (fun _ _ _ h => h) (.inl ⟨rfl, fun w' hS => by obtain ⟨s1, s2, s3⟩ := hS; go_simp⟩) hS0 ?_
    refine wpAnyH_take (i := 2) (v := .bool true) rfl (by kernel_rfl) (by kernel_rfl) (by kernel_rfl) (fun _ _ _ h => h) (.inl ⟨rfl, fun w' hS => by obtain ⟨s1, s2, s3⟩ := hS; go_simp⟩) hS0 ?_
    refine wpAnyH_take (i := 3) (v := undef) rfl (by kernel_rfl) (by kernel_rfl) (by kernel_rfl) (fun _ _ _ h => h) (.inr ⟨by first | (go_simp; done) | (go_simp; simp [undef]), rfl⟩) hS0 ?_
    refine wpAnyH_take (i := 4) (v := undef) rfl (by kernel_rfl) (by kernel_rfl) (by kernel_rfl) (fun _ _ _ h => h) (.inr ⟨by first | (go_simp; done) | (go_simp; simp [undef]), rfl⟩) hS0 ?_
    refine wpAnyH_take (i := 5) (v := undef) rfl (by kernel_rfl) (by kernel_rfl) (by kernel_rfl) (fun _ _ _ h => h) (.inr ⟨by first | (go_simp; done) | (go_simp; simp [undef]), rfl⟩) hS0 ?_
    refine wpAnyH_take (i := 6) (v := undef) rfl (by kernel_rfl) (by kernel_rfl) (by kernel_rfl) (fun _ _ _ h => h) (.inr ⟨by first | (go_simp; done) | (go_simp; simp [undef]), rfl⟩) hS0 ?_
    refine wpAnyH_take (i := 7) (v := undef) rfl (by kernel_rfl) (by kernel_rfl) (by kernel_rfl) (fun _ _ _ h => h) (.inr ⟨by first | (go_simp; done) | (go_simp; simp [undef]), rfl⟩) hS0 ?_
    refine wpAnyH_take (i := 8) (v := undef) rfl (by kernel_rfl) (by kernel_rfl) (by kernel_rfl) (fun _ _ _ h => h) (.inr ⟨by first | (go_simp; done) | (go_simp; simp [undef]), rfl⟩) hS0 ?_
    refine wpAnyH_take (i := 9) (v := undef) rfl (by kernel_rfl) (by kernel_rfl) (by kernel_rfl) (fun _ _ _ h => h) (.inr ⟨by first | (go_simp; done) | (go_simp; simp [undef]), rfl⟩) hS0 ?_
    refine wpAnyH_take (i := 10) (v := undef) rfl (by kernel_rfl) (by kernel_rfl) (by kernel_rfl) (fun _ _ _ h => h) (.inr ⟨by first | (go_simp; done) | (go_simp; simp [undef]), rfl⟩) hS0 ?_
    refine wpAnyH_take (i := 11) (v := .bool true) rfl (by kernel_rfl) (by kernel_rfl) (by kernel_rfl) (fun _ _ _ h => h) (.inl ⟨rfl, fun w' hS => by obtain ⟨s1, s2, s3⟩ := hS; go_simp⟩) hS0 ?_
    refine wpAnyH_take (i := 12) (v := .bool true) rfl (by kernel_rfl) (by kernel_rfl) (by kernel_rfl) (fun _ _ _ h => h) (.inl ⟨rfl, fun w' hS => by obtain ⟨s1, s2, s3⟩ := hS; go_simp⟩) hS0 ?_
    refine wpAnyH_take (i := 13) (v := undef) rfl (by kernel_rfl) (by kernel_rfl) (by kernel_rfl) (fun _ _ _ h => h) (.inr ⟨by first | (go_simp; done) | (go_simp; simp [undef]), rfl⟩) hS0 ?_
    refine wpAnyH_take (i := 14) (v := undef) rfl (by kernel_rfl) (by kernel_rfl) (by kernel_rfl) (fun _ _ _ h => h) (.inr ⟨by first | (go_simp; done) | (go_simp; simp [undef]), rfl⟩) hS0 ?_
    refine wpAnyH_take (i := 15) (v := undef) rfl (by kernel_rfl) (by kernel_rfl) (by kernel_rfl) (fun _ _ _ h => h) (.inr ⟨by first | (go_simp; done) | (go_simp; simp [undef]), rfl⟩) hS0 ?_
    refine wpAnyH_take (i := 16) (v := undef) rfl (by kernel_rfl) (by kernel_rfl) (by kernel_rfl) (fun _ _ _ h => h) (.inr ⟨by first | (go_simp; done) | (go_simp; simp [undef]), rfl⟩) hS0 ?_
    refine wpAnyH_take (i := 17) (v := .bool true) rfl (by kernel_rfl) (by kernel_rfl) (by kernel_rfl) (fun _ _ _ h => h) (.inl ⟨rfl, fun w' hS => by obtain ⟨s1, s2, s3⟩ := hS; go_simp⟩) hS0 ?_
    refine wpAnyH_take (i := 18) (v := .bool true) rfl (by kernel_rfl) (by kernel_rfl) (by kernel_rfl) (fun _ _ _ h => h) (.inl ⟨rfl, fun w' hS => by obtain ⟨s1, s2, s3⟩ := hS; go_simp⟩) hS0 ?_
    refine wpAnyH_take (i := 19) (v := undef) rfl (by kernel_rfl) (by kernel_rfl) (by kernel_rfl) (fun _ _ _ h => h) (.inr ⟨by first | (go_simp; done) | (go_simp; simp [undef]), rfl⟩) hS0 ?_
    refine wpAnyH_take (i := 20) (v := undef) rfl (by kernel_rfl) (by kernel_rfl) (by kernel_rfl) (fun _ _ _ h => h) (.inr ⟨by first | (go_simp; done) | (go_simp; simp [undef]), rfl⟩) hS0 ?_
    refine wpAnyH_take (i := 21) (v := undef) rfl (by kernel_rfl) (by kernel_rfl) (by kernel_rfl) (fun _ _ _ h => h) (.inr ⟨by first | (go_simp; done) | (go_simp; simp [undef]), rfl⟩) hS0 ?_
    refine wpAnyH_take (i := 22) (v := undef) rfl (by kernel_rfl) (by kernel_rfl) (by kernel_rfl) (fun _ _ _ h => h) (.inr ⟨by first | (go_simp; done) | (go_simp; simp [undef]), rfl⟩) hS0 ?_
    refine wpAnyH_take (i := 23) (v := undef) rfl (by kernel_rfl) (by kernel_rfl) (by kernel_rfl) (fun _ _ _ h => h) (.inr ⟨by first | (go_simp; done) | (go_simp; simp [undef]), rfl⟩) hS0 ?_
    refine wpAnyH_take (i := 24) (v := .bool true) rfl (by kernel_rfl) (by kernel_rfl) (by kernel_rfl) (fun _ _ _ h => h) (.inl ⟨rfl, fun w' hS => by obtain ⟨s1, s2, s3⟩ := hS; go_simp⟩) hS0 ?_
    refine wpAnyH_done (by kernel_rfl) ?_ _
    clear hS0
    go_simp
    go_wp2
    go_ret2
    exact FRes.no HNO.out (below_drewN HB1.out 1)
  have N1 := HN.out.below hb1
  have HB1 := hid (HA.out.trans (hb1.mono (by simp)))
  have hs1 := hb1.size
  rw [World.size_alloc] at hs1
  obtain ⟨ac, cc, rfl, _⟩ := row_form hsh.row
  have HSH := hid hsh
  have HN1 := hid N1
  have HVAL := hid hv
  have hS0 : w1.drew.cell? ⟨w.heap.size, 0, none⟩ = some (.string nm) ∧ w1.drew.cell? ⟨w.heap.size, 1, none⟩ = some (.int .i64 now) ∧ w1.drew.cell? ⟨w.heap.size, 7, none⟩ = some (.slice aq ps.length cq) ∧ w1.drew.cell? ⟨sb, 4, none⟩ = some (.slice ac ts.length cc) := ⟨N1.cell 0, N1.cell 1, N1.cell 7, hsh.box.cell 4⟩
  have HVC := hid (Reads.of_row hsh.row)
  have HTI := hid fun W => isTime_any now W
  have HPC := hid fun W => isPeerCount_any (ps.length : Int) W
  have HCT := hid fun W h => slContains_any (.slice ac ts.length cc) ts nm W h (by unfold maxLen; omega)
  have hsbl : sb < w1.heap.size := hsh.box.lt
  clear hb1 N1 hsh hv
  cases hin : inB ts nm with
  | false =>
    rw [hin] at HCT
    have HNO : Hid (¬ ValidF nm now wd room its ts ps) := fun h => by have := h.name; rw [hin] at this; cases this
    clear hin
    go_wp2_with fail
    refine wp_region_held (S := fun w' => w'.cell? ⟨w.heap.size, 0, none⟩ = some (.string nm) ∧ w'.cell? ⟨w.heap.size, 1, none⟩ = some (.int .i64 now) ∧ w'.cell? ⟨w.heap.size, 7, none⟩ = some (.slice aq ps.length cq) ∧ w'.cell? ⟨sb, 4, none⟩ = some (.slice ac ts.length cc)) (by kernel_rfl) ?_
    change wpAnyH _ _ _ _ _ _ _ _ (World.drew _)
    refine wpAnyH_take (i := 0) (v := .bool true) rfl (by kernel_rfl) (by kernel_rfl) (by kernel_rfl) (fun _ _ _ h => h) (.inl ⟨rfl, fun w' hS => by obtain ⟨s1, s2, s3, s4⟩ := hS; go_simp⟩) hS0 ?_
    refine wpAnyH_take (i := 1) (v := .bool false) rfl (by kernel_rfl) (by kernel_rfl) (by kernel_rfl) (fun _ _ _ h => h) (.inl ⟨rfl, fun w' hS => by obtain ⟨s1, s2, s3, s4⟩ := hS; go_simp⟩) hS0 ?_
    refine wpAnyH_take (i := 2) (v := .bool false) rfl (by kernel_rfl) (by kernel_rfl) (by kernel_rfl) (fun _ _ _ h => h) (.inl ⟨rfl, fun w' hS => by obtain ⟨s1, s2, s3, s4⟩ := hS; go_simp⟩) hS0 ?_
    refine wpAnyH_take (i := 3) (v := .pointer (some ⟨sb, 0, none⟩)) rfl (by kernel_rfl) (by kernel_rfl) (by kernel_rfl) (fun _ _ _ h => h) (.inl ⟨by go_simp, fun w' hS => by obtain ⟨s1, s2, s3, s4⟩ := hS; go_simp⟩) hS0 ?_
    refine wpAnyH_take (i := 4) (v := .pointer (some ⟨sb, 0, none⟩)) rfl (by kernel_rfl) (by kernel_rfl) (by kernel_rfl) (fun _ _ _ h => h) (.inl ⟨by go_simp, fun w' hS => by obtain ⟨s1, s2, s3, s4⟩ := hS; go_simp⟩) hS0 ?_
    refine wpAnyH_take (i := 5) (v := .pointer (some ⟨sb, 4, none⟩)) rfl (by kernel_rfl) (by kernel_rfl) (by kernel_rfl) (fun _ _ _ h => h) (.inl ⟨by go_simp, fun w' hS => by obtain ⟨s1, s2, s3, s4⟩ := hS; go_simp⟩) hS0 ?_
    refine wpAnyH_take (i := 6) (v := .slice ac ts.length cc) rfl (by kernel_rfl) (by kernel_rfl) (by kernel_rfl) (fun _ _ _ h => h) (.inl ⟨by go_simp, fun w' hS => by obtain ⟨s1, s2, s3, s4⟩ := hS; go_simp⟩) hS0 ?_
    refine wpAnyH_take (i := 7) (v := .pointer (some ⟨w.heap.size, 0, none⟩)) rfl (by kernel_rfl) (by kernel_rfl) (by kernel_rfl) (fun _ _ _ h => h) (.inl ⟨by go_simp, fun w' hS => by obtain ⟨s1, s2, s3, s4⟩ := hS; go_simp⟩) hS0 ?_
    refine wpAnyH_take (i := 8) (v := .string nm) rfl (by kernel_rfl) (by kernel_rfl) (by kernel_rfl) (fun _ _ _ h => h) (.inl ⟨by go_simp, fun w' hS => by obtain ⟨s1, s2, s3, s4⟩ := hS; go_simp⟩) hS0 ?_
    refine held_one 9 (by kernel_rfl) ?_
    refine @op_wpW _ _ _ _ _ _ 9 ?oja ?hoja ?hwja ?hhja
    case hoja => rfl
    case hwja => go_simp
    unfold Oper.wp
    go_simp
    refine (HCT.out _ (HVC.out.below (below_drewN (Below.refl _ _) 1))).mono ?_
    rintro e wq ⟨rfl, rfl⟩
    refine ⟨hS0, ?_⟩
    refine wpAnyH_take (i := 10) (v := .bool true) rfl (by kernel_rfl) (by kernel_rfl) (by kernel_rfl) (fun _ _ _ h => h) (.inl ⟨by go_simp, fun w' hS => by obtain ⟨s1, s2, s3, s4⟩ := hS; go_simp⟩) hS0 ?_
    refine wpAnyH_take (i := 11) (v := .bool true) rfl (by kernel_rfl) (by kernel_rfl) (by kernel_rfl) (fun _ _ _ h => h) (.inl ⟨rfl, fun w' hS => by obtain ⟨s1, s2, s3, s4⟩ := hS; go_simp⟩) hS0 ?_
    refine wpAnyH_take (i := 12) (v := .bool true) rfl (by kernel_rfl) (by kernel_rfl) (by kernel_rfl) (fun _ _ _ h => h) (.inl ⟨rfl, fun w' hS => by obtain ⟨s1, s2, s3, s4⟩ := hS; go_simp⟩) hS0 ?_
    refine wpAnyH_take (i := 13) (v := undef) rfl (by kernel_rfl) (by kernel_rfl) (by kernel_rfl) (fun _ _ _ h => h) (.inr ⟨by first | (go_simp; done) | (go_simp; simp [undef]), rfl⟩) hS0 ?_
    refine wpAnyH_take (i := 14) (v := undef) rfl (by kernel_rfl) (by kernel_rfl) (by kernel_rfl) (fun _ _ _ h => h) (.inr ⟨by first | (go_simp; done) | (go_simp; simp [undef]), rfl⟩) hS0 ?_
    refine wpAnyH_take (i := 15) (v := undef) rfl (by kernel_rfl) (by kernel_rfl) (by kernel_rfl) (fun _ _ _ h => h) (.inr ⟨by first | (go_simp; done) | (go_simp; simp [undef]), rfl⟩) hS0 ?_
    refine wpAnyH_take (i := 16) (v := undef) rfl (by kernel_rfl) (by kernel_rfl) (by kernel_rfl) (fun _ _ _ h => h) (.inr ⟨by first | (go_simp; done) | (go_simp; simp [undef]), rfl⟩) hS0 ?_
    refine wpAnyH_take (i := 17) (v := .bool true) rfl (by kernel_rfl) (by kernel_rfl) (by kernel_rfl) (fun _ _ _ h => h) (.inl ⟨rfl, fun w' hS => by obtain ⟨s1, s2, s3, s4⟩ := hS; go_simp⟩) hS0 ?_
    refine wpAnyH_take (i := 18) (v := .bool true) rfl (by kernel_rfl) (by kernel_rfl) (by kernel_rfl) (fun _ _ _ h => h) (.inl ⟨rfl, fun w' hS => by obtain ⟨s1, s2, s3, s4⟩ := hS; go_simp⟩) hS0 ?_
    refine wpAnyH_take (i := 19) (v := undef) rfl (by kernel_rfl) (by kernel_rfl) (by kernel_rfl) (fun _ _ _ h => h) (.inr ⟨by first | (go_simp; done) | (go_simp; simp [undef]), rfl⟩) hS0 ?_
    refine wpAnyH_take (i := 20) (v := undef) rfl (by kernel_rfl) (by kernel_rfl) (by kernel_rfl) (fun _ _ _ h => h) (.inr ⟨by first | (go_simp; done) | (go_simp; simp [undef]), rfl⟩) hS0 ?_
    refine wpAnyH_take (i := 21) (v := undef) rfl (by kernel_rfl) (by kernel_rfl) (by kernel_rfl) (fun _ _ _ h => h) (.inr ⟨by first | (go_simp; done) | (go_simp; simp [undef]), rfl⟩) hS0 ?_
    refine wpAnyH_take (i := 22) (v := undef) rfl (by kernel_rfl) (by kernel_rfl) (by kernel_rfl) (fun _ _ _ h => h) (.inr ⟨by first | (go_simp; done) | (go_simp; simp [undef]), rfl⟩) hS0 ?_
    refine wpAnyH_take (i := 23) (v := undef) rfl (by kernel_rfl) (by kernel_rfl) (by kernel_rfl) (fun _ _ _ h => h) (.inr ⟨by first | (go_simp; done) | (go_simp; simp [undef]), rfl⟩) hS0 ?_
    refine wpAnyH_take (i := 24) (v := .bool true) rfl (by kernel_rfl) (by kernel_rfl) (by kernel_rfl) (fun _ _ _ h => h) (.inl ⟨rfl, fun w' hS => by obtain ⟨s1, s2, s3, s4⟩ := hS; go_simp⟩) hS0 ?_
    refine wpAnyH_done (by kernel_rfl) ?_ _
    clear hS0
    go_simp
    go_wp2
    go_ret2
    exact FRes.no HNO.out (below_drewN HB1.out 1)
  | true =>
  rw [hin] at HCT
  have HNM := hid hin
  clear hin
  by_cases hnow : 0 ≤ now ∧ now ≤ 1000000
  case neg =>
    have HNO : Hid (¬ ValidF nm now wd room its ts ps) := fun h => hnow h.time
    rw [decide_eq_false hnow] at HTI
    clear hnow
    go_wp2_with fail
    refine wp_region_held (S := fun w' => w'.cell? ⟨w.heap.size, 0, none⟩ = some (.string nm) ∧ w'.cell? ⟨w.heap.size, 1, none⟩ = some (.int .i64 now) ∧ w'.cell? ⟨w.heap.size, 7, none⟩ = some (.slice aq ps.length cq) ∧ w'.cell? ⟨sb, 4, none⟩ = some (.slice ac ts.length cc)) (by kernel_rfl) ?_
    change wpAnyH _ _ _ _ _ _ _ _ (World.drew _)
    refine wpAnyH_take (i := 0) (v := .bool true) rfl (by kernel_rfl) (by kernel_rfl) (by kernel_rfl) (fun _ _ _ h => h) (.inl ⟨rfl, fun w' hS => by obtain ⟨s1, s2, s3, s4⟩ := hS; go_simp⟩) hS0 ?_
    refine wpAnyH_take (i := 1) (v := .bool false) rfl (by kernel_rfl) (by kernel_rfl) (by kernel_rfl) (fun _ _ _ h => h) (.inl ⟨rfl, fun w' hS => by obtain ⟨s1, s2, s3, s4⟩ := hS; go_simp⟩) hS0 ?_
    refine wpAnyH_take (i := 2) (v := .bool false) rfl (by kernel_rfl) (by kernel_rfl) (by kernel_rfl) (fun _ _ _ h => h) (.inl ⟨rfl, fun w' hS => by obtain ⟨s1, s2, s3, s4⟩ := hS; go_simp⟩) hS0 ?_
    refine wpAnyH_take (i := 3) (v := .pointer (some ⟨sb, 0, none⟩)) rfl (by kernel_rfl) (by kernel_rfl) (by kernel_rfl) (fun _ _ _ h => h) (.inl ⟨by go_simp, fun w' hS => by obtain ⟨s1, s2, s3, s4⟩ := hS; go_simp⟩) hS0 ?_
    refine wpAnyH_take (i := 4) (v := .pointer (some ⟨sb, 0, none⟩)) rfl (by kernel_rfl) (by kernel_rfl) (by kernel_rfl) (fun _ _ _ h => h) (.inl ⟨by go_simp, fun w' hS => by obtain ⟨s1, s2, s3, s4⟩ := hS; go_simp⟩) hS0 ?_
    refine wpAnyH_take (i := 5) (v := .pointer (some ⟨sb, 4, none⟩)) rfl (by kernel_rfl) (by kernel_rfl) (by kernel_rfl) (fun _ _ _ h => h) (.inl ⟨by go_simp, fun w' hS => by obtain ⟨s1, s2, s3, s4⟩ := hS; go_simp⟩) hS0 ?_
    refine wpAnyH_take (i := 6) (v := .slice ac ts.length cc) rfl (by kernel_rfl) (by kernel_rfl) (by kernel_rfl) (fun _ _ _ h => h) (.inl ⟨by go_simp, fun w' hS => by obtain ⟨s1, s2, s3, s4⟩ := hS; go_simp⟩) hS0 ?_
    refine wpAnyH_take (i := 7) (v := .pointer (some ⟨w.heap.size, 0, none⟩)) rfl (by kernel_rfl) (by kernel_rfl) (by kernel_rfl) (fun _ _ _ h => h) (.inl ⟨by go_simp, fun w' hS => by obtain ⟨s1, s2, s3, s4⟩ := hS; go_simp⟩) hS0 ?_
    refine wpAnyH_take (i := 8) (v := .string nm) rfl (by kernel_rfl) (by kernel_rfl) (by kernel_rfl) (fun _ _ _ h => h) (.inl ⟨by go_simp, fun w' hS => by obtain ⟨s1, s2, s3, s4⟩ := hS; go_simp⟩) hS0 ?_
    refine held_one 9 (by kernel_rfl) ?_
    refine @op_wpW _ _ _ _ _ _ 9 ?oka ?hoka ?hwka ?hhka
    case hoka => rfl
    case hwka => go_simp
    unfold Oper.wp
    go_simp
    refine (HCT.out _ (HVC.out.below (below_drewN (Below.refl _ _) 1))).mono ?_
    rintro e wq ⟨rfl, rfl⟩
    refine ⟨hS0, ?_⟩
    refine wpAnyH_take (i := 10) (v := .bool false) rfl (by kernel_rfl) (by kernel_rfl) (by kernel_rfl) (fun _ _ _ h => h) (.inl ⟨by go_simp, fun w' hS => by obtain ⟨s1, s2, s3, s4⟩ := hS; go_simp⟩) hS0 ?_
    refine wpAnyH_take (i := 11) (v := .bool false) rfl (by kernel_rfl) (by kernel_rfl) (by kernel_rfl) (fun _ _ _ h => h) (.inl ⟨rfl, fun w' hS => by obtain ⟨s1, s2, s3, s4⟩ := hS; go_simp⟩) hS0 ?_
    refine wpAnyH_take (i := 12) (v := .bool false) rfl (by kernel_rfl) (by kernel_rfl) (by kernel_rfl) (fun _ _ _ h => h) (.inl ⟨rfl, fun w' hS => by obtain ⟨s1, s2, s3, s4⟩ := hS; go_simp⟩) hS0 ?_
    refine wpAnyH_take (i := 13) (v := .pointer (some ⟨w.heap.size, 1, none⟩)) rfl (by kernel_rfl) (by kernel_rfl) (by kernel_rfl) (fun _ _ _ h => h) (.inl ⟨by go_simp, fun w' hS => by obtain ⟨s1, s2, s3, s4⟩ := hS; go_simp⟩) hS0 ?_
    refine wpAnyH_take (i := 14) (v := .int .i64 now) rfl (by kernel_rfl) (by kernel_rfl) (by kernel_rfl) (fun _ _ _ h => h) (.inl ⟨by go_simp, fun w' hS => by obtain ⟨s1, s2, s3, s4⟩ := hS; go_simp⟩) hS0 ?_
    refine held_one 15 (by kernel_rfl) ?_
    refine @op_wpW _ _ _ _ _ _ 15 ?okb ?hokb ?hwkb ?hhkb
    case hokb => rfl
    case hwkb => go_simp
    unfold Oper.wp
    go_simp
    refine (HTI.out _).mono ?_
    rintro e wq ⟨rfl, rfl⟩
    refine ⟨hS0, ?_⟩
    refine wpAnyH_take (i := 16) (v := .bool true) rfl (by kernel_rfl) (by kernel_rfl) (by kernel_rfl) (fun _ _ _ h => h) (.inl ⟨by go_simp, fun w' hS => by obtain ⟨s1, s2, s3, s4⟩ := hS; go_simp⟩) hS0 ?_
    refine wpAnyH_take (i := 17) (v := .bool true) rfl (by kernel_rfl) (by kernel_rfl) (by kernel_rfl) (fun _ _ _ h => h) (.inl ⟨rfl, fun w' hS => by obtain ⟨s1, s2, s3, s4⟩ := hS; go_simp⟩) hS0 ?_
    refine wpAnyH_take (i := 18) (v := .bool true) rfl (by kernel_rfl) (by kernel_rfl) (by kernel_rfl) (fun _ _ _ h => h) (.inl ⟨rfl, fun w' hS => by obtain ⟨s1, s2, s3, s4⟩ := hS; go_simp⟩) hS0 ?_
    refine wpAnyH_take (i := 19) (v := undef) rfl (by kernel_rfl) (by kernel_rfl) (by kernel_rfl) (fun _ _ _ h => h) (.inr ⟨by first | (go_simp; done) | (go_simp; simp [undef]), rfl⟩) hS0 ?_
    refine wpAnyH_take (i := 20) (v := undef) rfl (by kernel_rfl) (by kernel_rfl) (by kernel_rfl) (fun _ _ _ h => h) (.inr ⟨by first | (go_simp; done) | (go_simp; simp [undef]), rfl⟩) hS0 ?_
    refine wpAnyH_take (i := 21) (v := undef) rfl (by kernel_rfl) (by kernel_rfl) (by kernel_rfl) (fun _ _ _ h => h) (.inr ⟨by first | (go_simp; done) | (go_simp; simp [undef]), rfl⟩) hS0 ?_
    refine wpAnyH_take (i := 22) (v := undef) rfl (by kernel_rfl) (by kernel_rfl) (by kernel_rfl) (fun _ _ _ h => h) (.inr ⟨by first | (go_simp; done) | (go_simp; simp [undef]), rfl⟩) hS0 ?_
    refine wpAnyH_take (i := 23) (v := undef) rfl (by kernel_rfl) (by kernel_rfl) (by kernel_rfl) (fun _ _ _ h => h) (.inr ⟨by first | (go_simp; done) | (go_simp; simp [undef]), rfl⟩) hS0 ?_
    refine wpAnyH_take (i := 24) (v := .bool true) rfl (by kernel_rfl) (by kernel_rfl) (by kernel_rfl) (fun _ _ _ h => h) (.inl ⟨rfl, fun w' hS => by obtain ⟨s1, s2, s3, s4⟩ := hS; go_simp⟩) hS0 ?_
    refine wpAnyH_done (by kernel_rfl) ?_ _
    clear hS0
    go_simp
    go_wp2
    go_ret2
    exact FRes.no HNO.out (below_drewN HB1.out 1)
  rw [decide_eq_true hnow] at HTI
  by_cases hct : 1 ≤ ps.length ∧ ps.length ≤ 5
  case neg =>
    have HNO : Hid (¬ ValidF nm now wd room its ts ps) := fun h => hct h.count
    have hct' : ¬ (1 ≤ (ps.length : Int) ∧ (ps.length : Int) ≤ 5) := fun h => hct (by omega)
    rw [decide_eq_false hct'] at HPC
    clear hct hct' hnow
    go_wp2_with fail
    refine wp_region_held (S := fun w' => w'.cell? ⟨w.heap.size, 0, none⟩ = some (.string nm) ∧ w'.cell? ⟨w.heap.size, 1, none⟩ = some (.int .i64 now) ∧ w'.cell? ⟨w.heap.size, 7, none⟩ = some (.slice aq ps.length cq) ∧ w'.cell? ⟨sb, 4, none⟩ = some (.slice ac ts.length cc)) (by kernel_rfl) ?_
    change wpAnyH _ _ _ _ _ _ _ _ (World.drew _)
    refine wpAnyH_take (i := 0) (v := .bool true) rfl (by kernel_rfl) (by kernel_rfl) (by kernel_rfl) (fun _ _ _ h => h) (.inl ⟨rfl, fun w' hS => by obtain ⟨s1, s2, s3, s4⟩ := hS; go_simp⟩) hS0 ?_
    refine wpAnyH_take (i := 1) (v := .bool false) rfl (by kernel_rfl) (by kernel_rfl) (by kernel_rfl) (fun _ _ _ h => h) (.inl ⟨rfl, fun w' hS => by obtain ⟨s1, s2, s3, s4⟩ := hS; go_simp⟩) hS0 ?_
    refine wpAnyH_take (i := 2) (v := .bool false) rfl (by kernel_rfl) (by kernel_rfl) (by kernel_rfl) (fun _ _ _ h => h) (.inl ⟨rfl, fun w' hS => by obtain ⟨s1, s2, s3, s4⟩ := hS; go_simp⟩) hS0 ?_
    refine wpAnyH_take (i := 3) (v := .pointer (some ⟨sb, 0, none⟩)) rfl (by kernel_rfl) (by kernel_rfl) (by kernel_rfl) (fun _ _ _ h => h) (.inl ⟨by go_simp, fun w' hS => by obtain ⟨s1, s2, s3, s4⟩ := hS; go_simp⟩) hS0 ?_
    refine wpAnyH_take (i := 4) (v := .pointer (some ⟨sb, 0, none⟩)) rfl (by kernel_rfl) (by kernel_rfl) (by kernel_rfl) (fun _ _ _ h => h) (.inl ⟨by go_simp, fun w' hS => by obtain ⟨s1, s2, s3, s4⟩ := hS; go_simp⟩) hS0 ?_
    refine wpAnyH_take (i := 5) (v := .pointer (some ⟨sb, 4, none⟩)) rfl (by kernel_rfl) (by kernel_rfl) (by kernel_rfl) (fun _ _ _ h => h) (.inl ⟨by go_simp, fun w' hS => by obtain ⟨s1, s2, s3, s4⟩ := hS; go_simp⟩) hS0 ?_
    refine wpAnyH_take (i := 6) (v := .slice ac ts.length cc) rfl (by kernel_rfl) (by kernel_rfl) (by kernel_rfl) (fun _ _ _ h => h) (.inl ⟨by go_simp, fun w' hS => by obtain ⟨s1, s2, s3, s4⟩ := hS; go_simp⟩) hS0 ?_
    refine wpAnyH_take (i := 7) (v := .pointer (some ⟨w.heap.size, 0, none⟩)) rfl (by kernel_rfl) (by kernel_rfl) (by kernel_rfl) (fun _ _ _ h => h) (.inl ⟨by go_simp, fun w' hS => by obtain ⟨s1, s2, s3, s4⟩ := hS; go_simp⟩) hS0 ?_
    refine wpAnyH_take (i := 8) (v := .string nm) rfl (by kernel_rfl) (by kernel_rfl) (by kernel_rfl) (fun _ _ _ h => h) (.inl ⟨by go_simp, fun w' hS => by obtain ⟨s1, s2, s3, s4⟩ := hS; go_simp⟩) hS0 ?_
    refine held_one 9 (by kernel_rfl) ?_
    refine @op_wpW _ _ _ _ _ _ 9 ?ola ?hola ?hwla ?hhla
    case hola => rfl
    case hwla => go_simp
    unfold Oper.wp
    go_simp
    refine (HCT.out _ (HVC.out.below (below_drewN (Below.refl _ _) 1))).mono ?_
    rintro e wq ⟨rfl, rfl⟩
    refine ⟨hS0, ?_⟩
    refine wpAnyH_take (i := 10) (v := .bool false) rfl (by kernel_rfl) (by kernel_rfl) (by kernel_rfl) (fun _ _ _ h => h) (.inl ⟨by go_simp, fun w' hS => by obtain ⟨s1, s2, s3, s4⟩ := hS; go_simp⟩) hS0 ?_
    refine wpAnyH_take (i := 11) (v := .bool false) rfl (by kernel_rfl) (by kernel_rfl) (by kernel_rfl) (fun _ _ _ h => h) (.inl ⟨rfl, fun w' hS => by obtain ⟨s1, s2, s3, s4⟩ := hS; go_simp⟩) hS0 ?_
    refine wpAnyH_take (i := 12) (v := .bool false) rfl (by kernel_rfl) (by kernel_rfl) (by kernel_rfl) (fun _ _ _ h => h) (.inl ⟨rfl, fun w' hS => by obtain ⟨s1, s2, s3, s4⟩ := hS; go_simp⟩) hS0 ?_
    refine wpAnyH_take (i := 13) (v := .pointer (some ⟨w.heap.size, 1, none⟩)) rfl (by kernel_rfl) (by kernel_rfl) (by kernel_rfl) (fun _ _ _ h => h) (.inl ⟨by go_simp, fun w' hS => by obtain ⟨s1, s2, s3, s4⟩ := hS; go_simp⟩) hS0 ?_
    refine wpAnyH_take (i := 14) (v := .int .i64 now) rfl (by kernel_rfl) (by kernel_rfl) (by kernel_rfl) (fun _ _ _ h => h) (.inl ⟨by go_simp, fun w' hS => by obtain ⟨s1, s2, s3, s4⟩ := hS; go_simp⟩) hS0 ?_
    refine held_one 15 (by kernel_rfl) ?_
    refine @op_wpW _ _ _ _ _ _ 15 ?olb ?holb ?hwlb ?hhlb
    case holb => rfl
    case hwlb => go_simp
    unfold Oper.wp
    go_simp
    refine (HTI.out _).mono ?_
    rintro e wq ⟨rfl, rfl⟩
    refine ⟨hS0, ?_⟩
    refine wpAnyH_take (i := 16) (v := .bool false) rfl (by kernel_rfl) (by kernel_rfl) (by kernel_rfl) (fun _ _ _ h => h) (.inl ⟨by go_simp, fun w' hS => by obtain ⟨s1, s2, s3, s4⟩ := hS; go_simp⟩) hS0 ?_
    refine wpAnyH_take (i := 17) (v := .bool false) rfl (by kernel_rfl) (by kernel_rfl) (by kernel_rfl) (fun _ _ _ h => h) (.inl ⟨rfl, fun w' hS => by obtain ⟨s1, s2, s3, s4⟩ := hS; go_simp⟩) hS0 ?_
    refine wpAnyH_take (i := 18) (v := .bool false) rfl (by kernel_rfl) (by kernel_rfl) (by kernel_rfl) (fun _ _ _ h => h) (.inl ⟨rfl, fun w' hS => by obtain ⟨s1, s2, s3, s4⟩ := hS; go_simp⟩) hS0 ?_
    refine wpAnyH_take (i := 19) (v := .pointer (some ⟨w.heap.size, 7, none⟩)) rfl (by kernel_rfl) (by kernel_rfl) (by kernel_rfl) (fun _ _ _ h => h) (.inl ⟨by go_simp, fun w' hS => by obtain ⟨s1, s2, s3, s4⟩ := hS; go_simp⟩) hS0 ?_
    refine wpAnyH_take (i := 20) (v := .slice aq ps.length cq) rfl (by kernel_rfl) (by kernel_rfl) (by kernel_rfl) (fun _ _ _ h => h) (.inl ⟨by go_simp, fun w' hS => by obtain ⟨s1, s2, s3, s4⟩ := hS; go_simp⟩) hS0 ?_
    refine wpAnyH_take (i := 21) (v := .int .i64 (ps.length : Nat)) rfl (by kernel_rfl) (by kernel_rfl) (by kernel_rfl) (fun _ _ _ h => h) (.inl ⟨by go_simp, fun w' hS => by obtain ⟨s1, s2, s3, s4⟩ := hS; go_simp⟩) hS0 ?_
    refine held_one 22 (by kernel_rfl) ?_
    refine @op_wpW _ _ _ _ _ _ 22 ?olc ?holc ?hwlc ?hhlc
    case holc => rfl
    case hwlc => go_simp
    unfold Oper.wp
    go_simp
    refine (HPC.out _).mono ?_
    rintro e wq ⟨rfl, rfl⟩
    refine ⟨hS0, ?_⟩
    refine wpAnyH_take (i := 23) (v := .bool true) rfl (by kernel_rfl) (by kernel_rfl) (by kernel_rfl) (fun _ _ _ h => h) (.inl ⟨by go_simp, fun w' hS => by obtain ⟨s1, s2, s3, s4⟩ := hS; go_simp⟩) hS0 ?_
    refine wpAnyH_take (i := 24) (v := .bool true) rfl (by kernel_rfl) (by kernel_rfl) (by kernel_rfl) (fun _ _ _ h => h) (.inl ⟨rfl, fun w' hS => by obtain ⟨s1, s2, s3, s4⟩ := hS; go_simp⟩) hS0 ?_
    refine wpAnyH_done (by kernel_rfl) ?_ _
    clear hS0
    go_simp
    go_wp2
    go_ret2
    exact FRes.no HNO.out (below_drewN HB1.out 1)
  have hct' : 1 ≤ (ps.length : Int) ∧ (ps.length : Int) ≤ 5 := by omega
  rw [decide_eq_true hct'] at HPC
  have HALL : Hid ((∀ i, i < ps.length → PrOk now wd (pat ps i)) → ValidF nm now wd room its ts ps) := fun h => ⟨HVAL.out, HNM.out, hnow, hct, h⟩
  obtain ⟨hct1, hct5⟩ := hct
  clear hct' hnow
  go_wp2_with fail
  refine wp_region_held (S := fun w' => w'.cell? ⟨w.heap.size, 0, none⟩ = some (.string nm) ∧ w'.cell? ⟨w.heap.size, 1, none⟩ = some (.int .i64 now) ∧ w'.cell? ⟨w.heap.size, 7, none⟩ = some (.slice aq ps.length cq) ∧ w'.cell? ⟨sb, 4, none⟩ = some (.slice ac ts.length cc)) (by kernel_rfl) ?_
  change wpAnyH _ _ _ _ _ _ _ _ (World.drew _)
  refine wpAnyH_take (i := 0) (v := .bool true) rfl (by kernel_rfl) (by kernel_rfl) (by kernel_rfl) (fun _ _ _ h => h) (.inl ⟨rfl, fun w' hS => by obtain ⟨s1, s2, s3, s4⟩ := hS; go_simp⟩) hS0 ?_
  refine wpAnyH_take (i := 1) (v := .bool false) rfl (by kernel_rfl) (by kernel_rfl) (by kernel_rfl) (fun _ _ _ h => h) (.inl ⟨rfl, fun w' hS => by obtain ⟨s1, s2, s3, s4⟩ := hS; go_simp⟩) hS0 ?_
  refine wpAnyH_take (i := 2) (v := .bool false) rfl (by kernel_rfl) (by kernel_rfl) (by kernel_rfl) (fun _ _ _ h => h) (.inl ⟨rfl, fun w' hS => by obtain ⟨s1, s2, s3, s4⟩ := hS; go_simp⟩) hS0 ?_
  refine wpAnyH_take (i := 3) (v := .pointer (some ⟨sb, 0, none⟩)) rfl (by kernel_rfl) (by kernel_rfl) (by kernel_rfl) (fun _ _ _ h => h) (.inl ⟨by go_simp, fun w' hS => by obtain ⟨s1, s2, s3, s4⟩ := hS; go_simp⟩) hS0 ?_
  refine wpAnyH_take (i := 4) (v := .pointer (some ⟨sb, 0, none⟩)) rfl (by kernel_rfl) (by kernel_rfl) (by kernel_rfl) (fun _ _ _ h => h) (.inl ⟨by go_simp, fun w' hS => by obtain ⟨s1, s2, s3, s4⟩ := hS; go_simp⟩) hS0 ?_
  refine wpAnyH_take (i := 5) (v := .pointer (some ⟨sb, 4, none⟩)) rfl (by kernel_rfl) (by kernel_rfl) (by kernel_rfl) (fun _ _ _ h => h) (.inl ⟨by go_simp, fun w' hS => by obtain ⟨s1, s2, s3, s4⟩ := hS; go_simp⟩) hS0 ?_
  refine wpAnyH_take (i := 6) (v := .slice ac ts.length cc) rfl (by kernel_rfl) (by kernel_rfl) (by kernel_rfl) (fun _ _ _ h => h) (.inl ⟨by go_simp, fun w' hS => by obtain ⟨s1, s2, s3, s4⟩ := hS; go_simp⟩) hS0 ?_
  refine wpAnyH_take (i := 7) (v := .pointer (some ⟨w.heap.size, 0, none⟩)) rfl (by kernel_rfl) (by kernel_rfl) (by kernel_rfl) (fun _ _ _ h => h) (.inl ⟨by go_simp, fun w' hS => by obtain ⟨s1, s2, s3, s4⟩ := hS; go_simp⟩) hS0 ?_
  refine wpAnyH_take (i := 8) (v := .string nm) rfl (by kernel_rfl) (by kernel_rfl) (by kernel_rfl) (fun _ _ _ h => h) (.inl ⟨by go_simp, fun w' hS => by obtain ⟨s1, s2, s3, s4⟩ := hS; go_simp⟩) hS0 ?_
  refine held_one 9 (by kernel_rfl) ?_
  refine @op_wpW _ _ _ _ _ _ 9 ?oma ?homa ?hwma ?hhma
  case homa => rfl
  case hwma => go_simp
  unfold Oper.wp
  go_simp
  refine (HCT.out _ (HVC.out.below (below_drewN (Below.refl _ _) 1))).mono ?_
  rintro e wq ⟨rfl, rfl⟩
  refine ⟨hS0, ?_⟩
  refine wpAnyH_take (i := 10) (v := .bool false) rfl (by kernel_rfl) (by kernel_rfl) (by kernel_rfl) (fun _ _ _ h => h) (.inl ⟨by go_simp, fun w' hS => by obtain ⟨s1, s2, s3, s4⟩ := hS; go_simp⟩) hS0 ?_
  refine wpAnyH_take (i := 11) (v := .bool false) rfl (by kernel_rfl) (by kernel_rfl) (by kernel_rfl) (fun _ _ _ h => h) (.inl ⟨rfl, fun w' hS => by obtain ⟨s1, s2, s3, s4⟩ := hS; go_simp⟩) hS0 ?_
  refine wpAnyH_take (i := 12) (v := .bool false) rfl (by kernel_rfl) (by kernel_rfl) (by kernel_rfl) (fun _ _ _ h => h) (.inl ⟨rfl, fun w' hS => by obtain ⟨s1, s2, s3, s4⟩ := hS; go_simp⟩) hS0 ?_
  refine wpAnyH_take (i := 13) (v := .pointer (some ⟨w.heap.size, 1, none⟩)) rfl (by kernel_rfl) (by kernel_rfl) (by kernel_rfl) (fun _ _ _ h => h) (.inl ⟨by go_simp, fun w' hS => by obtain ⟨s1, s2, s3, s4⟩ := hS; go_simp⟩) hS0 ?_
  refine wpAnyH_take (i := 14) (v := .int .i64 now) rfl (by kernel_rfl) (by kernel_rfl) (by kernel_rfl) (fun _ _ _ h => h) (.inl ⟨by go_simp, fun w' hS => by obtain ⟨s1, s2, s3, s4⟩ := hS; go_simp⟩) hS0 ?_
  refine held_one 15 (by kernel_rfl) ?_
  refine @op_wpW _ _ _ _ _ _ 15 ?omb ?homb ?hwmb ?hhmb
  case homb => rfl
  case hwmb => go_simp
  unfold Oper.wp
  go_simp
  refine (HTI.out _).mono ?_
  rintro e wq ⟨rfl, rfl⟩
  refine ⟨hS0, ?_⟩
  refine wpAnyH_take (i := 16) (v := .bool false) rfl (by kernel_rfl) (by kernel_rfl) (by kernel_rfl) (fun _ _ _ h => h) (.inl ⟨by go_simp, fun w' hS => by obtain ⟨s1, s2, s3, s4⟩ := hS; go_simp⟩) hS0 ?_
  refine wpAnyH_take (i := 17) (v := .bool false) rfl (by kernel_rfl) (by kernel_rfl) (by kernel_rfl) (fun _ _ _ h => h) (.inl ⟨rfl, fun w' hS => by obtain ⟨s1, s2, s3, s4⟩ := hS; go_simp⟩) hS0 ?_
  refine wpAnyH_take (i := 18) (v := .bool false) rfl (by kernel_rfl) (by kernel_rfl) (by kernel_rfl) (fun _ _ _ h => h) (.inl ⟨rfl, fun w' hS => by obtain ⟨s1, s2, s3, s4⟩ := hS; go_simp⟩) hS0 ?_
  refine wpAnyH_take (i := 19) (v := .pointer (some ⟨w.heap.size, 7, none⟩)) rfl (by kernel_rfl) (by kernel_rfl) (by kernel_rfl) (fun _ _ _ h => h) (.inl ⟨by go_simp, fun w' hS => by obtain ⟨s1, s2, s3, s4⟩ := hS; go_simp⟩) hS0 ?_
  refine wpAnyH_take (i := 20) (v := .slice aq ps.length cq) rfl (by kernel_rfl) (by kernel_rfl) (by kernel_rfl) (fun _ _ _ h => h) (.inl ⟨by go_simp, fun w' hS => by obtain ⟨s1, s2, s3, s4⟩ := hS; go_simp⟩) hS0 ?_
  refine wpAnyH_take (i := 21) (v := .int .i64 (ps.length : Nat)) rfl (by kernel_rfl) (by kernel_rfl) (by kernel_rfl) (fun _ _ _ h => h) (.inl ⟨by go_simp, fun w' hS => by obtain ⟨s1, s2, s3, s4⟩ := hS; go_simp⟩) hS0 ?_
  refine held_one 22 (by kernel_rfl) ?_
  refine @op_wpW _ _ _ _ _ _ 22 ?omc ?homc ?hwmc ?hhmc
  case homc => rfl
  case hwmc => go_simp
  unfold Oper.wp
  go_simp
  refine (HPC.out _).mono ?_
  rintro e wq ⟨rfl, rfl⟩
  refine ⟨hS0, ?_⟩
  refine wpAnyH_take (i := 23) (v := .bool false) rfl (by kernel_rfl) (by kernel_rfl) (by kernel_rfl) (fun _ _ _ h => h) (.inl ⟨by go_simp, fun w' hS => by obtain ⟨s1, s2, s3, s4⟩ := hS; go_simp⟩) hS0 ?_
  refine wpAnyH_take (i := 24) (v := .bool false) rfl (by kernel_rfl) (by kernel_rfl) (by kernel_rfl) (fun _ _ _ h => h) (.inl ⟨rfl, fun w' hS => by obtain ⟨s1, s2, s3, s4⟩ := hS; go_simp⟩) hS0 ?_
  refine wpAnyH_done (by kernel_rfl) ?_ _
  clear hS0
  go_simp
  have hT0 : w1.drew.drew.cell? ⟨w.heap.size, 0, none⟩ = some (.string nm) ∧ w1.drew.drew.cell? ⟨w.heap.size, 1, none⟩ = some (.int .i64 now) ∧ w1.drew.drew.cell? ⟨w.heap.size, 2, none⟩ = some (.bool full) ∧ w1.drew.drew.cell? ⟨w.heap.size, 7, none⟩ = some (.slice aq ps.length cq) := ⟨HN1.out.cell 0, HN1.out.cell 1, HN1.out.cell 2, HN1.out.cell 7⟩
  have hT1 : ((w1.alloc (.map #[] 0)).drewN 2).cell? ⟨w.heap.size, 0, none⟩ = some (.string nm) ∧ ((w1.alloc (.map #[] 0)).drewN 2).cell? ⟨w.heap.size, 1, none⟩ = some (.int .i64 now) ∧ ((w1.alloc (.map #[] 0)).drewN 2).cell? ⟨w.heap.size, 2, none⟩ = some (.bool full) ∧ ((w1.alloc (.map #[] 0)).drewN 2).cell? ⟨w.heap.size, 7, none⟩ = some (.slice aq ps.length cq) := ⟨(HN1.out.alloc (.map #[] 0)).cell 0, (HN1.out.alloc (.map #[] 0)).cell 1, (HN1.out.alloc (.map #[] 0)).cell 2, (HN1.out.alloc (.map #[] 0)).cell 7⟩
  have M2 := (HN1.out.alloc (.map #[] 0)).alloc (.cells #[.string nm, .int .i64 now, .bool full, .pointer (some ⟨sb, 0, none⟩), .map (some w1.heap.size), .slice none 0 0, .bool false] 96)
  have hT2 : (((w1.alloc (.map #[] 0)).alloc (.cells #[.string nm, .int .i64 now, .bool full, .pointer (some ⟨sb, 0, none⟩), .map (some w1.heap.size), .slice none 0 0, .bool false] 96)).drewN 2).cell? ⟨w.heap.size, 0, none⟩ = some (.string nm) ∧ (((w1.alloc (.map #[] 0)).alloc (.cells #[.string nm, .int .i64 now, .bool full, .pointer (some ⟨sb, 0, none⟩), .map (some w1.heap.size), .slice none 0 0, .bool false] 96)).drewN 2).cell? ⟨w.heap.size, 1, none⟩ = some (.int .i64 now) ∧ (((w1.alloc (.map #[] 0)).alloc (.cells #[.string nm, .int .i64 now, .bool full, .pointer (some ⟨sb, 0, none⟩), .map (some w1.heap.size), .slice none 0 0, .bool false] 96)).drewN 2).cell? ⟨w.heap.size, 2, none⟩ = some (.bool full) ∧ (((w1.alloc (.map #[] 0)).alloc (.cells #[.string nm, .int .i64 now, .bool full, .pointer (some ⟨sb, 0, none⟩), .map (some w1.heap.size), .slice none 0 0, .bool false] 96)).drewN 2).cell? ⟨w.heap.size, 7, none⟩ = some (.slice aq ps.length cq) := ⟨M2.cell 0, M2.cell 1, M2.cell 2, M2.cell 7⟩
  have hmk2 : (Instr.makeMap 94 (some (.int .i64 (ps.length : Int)))).run Tryz.prog (w1.drewN 2) = .ok (.map (some w1.heap.size)) ((w1.alloc (.map #[] 0)).drewN 2) := makePeers ps.length (w1.drewN 2)
  clear M2
  go_wp2_with fail
  refine wp_region_held (S := fun w' => w'.cell? ⟨w.heap.size, 0, none⟩ = some (.string nm) ∧ w'.cell? ⟨w.heap.size, 1, none⟩ = some (.int .i64 now) ∧ w'.cell? ⟨w.heap.size, 2, none⟩ = some (.bool full) ∧ w'.cell? ⟨w.heap.size, 7, none⟩ = some (.slice aq ps.length cq)) (by kernel_rfl) ?_
  change wpAnyH _ _ _ _ _ _ _ _ (World.drew _)
  refine wpAnyH_take (i := 0) (v := .pointer (some ⟨w.heap.size, 0, none⟩)) rfl (by kernel_rfl) (by kernel_rfl) (by kernel_rfl) (fun _ _ _ h => h) (.inl ⟨rfl, fun w' hS => by obtain ⟨s1, s2, s3, s4⟩ := hS; go_simp⟩) hT0 ?_
  refine wpAnyH_take (i := 1) (v := .string nm) rfl (by kernel_rfl) (by kernel_rfl) (by kernel_rfl) (fun _ _ _ h => h) (.inl ⟨rfl, fun w' hS => by obtain ⟨s1, s2, s3, s4⟩ := hS; go_simp⟩) hT0 ?_
  refine wpAnyH_take (i := 2) (v := .pointer (some ⟨w.heap.size, 1, none⟩)) rfl (by kernel_rfl) (by kernel_rfl) (by kernel_rfl) (fun _ _ _ h => h) (.inl ⟨rfl, fun w' hS => by obtain ⟨s1, s2, s3, s4⟩ := hS; go_simp⟩) hT0 ?_
  refine wpAnyH_take (i := 3) (v := .int .i64 now) rfl (by kernel_rfl) (by kernel_rfl) (by kernel_rfl) (fun _ _ _ h => h) (.inl ⟨rfl, fun w' hS => by obtain ⟨s1, s2, s3, s4⟩ := hS; go_simp⟩) hT0 ?_
  refine wpAnyH_take (i := 4) (v := .pointer (some ⟨w.heap.size, 2, none⟩)) rfl (by kernel_rfl) (by kernel_rfl) (by kernel_rfl) (fun _ _ _ h => h) (.inl ⟨rfl, fun w' hS => by obtain ⟨s1, s2, s3, s4⟩ := hS; go_simp⟩) hT0 ?_
  refine wpAnyH_take (i := 5) (v := .bool full) rfl (by kernel_rfl) (by kernel_rfl) (by kernel_rfl) (fun _ _ _ h => h) (.inl ⟨rfl, fun w' hS => by obtain ⟨s1, s2, s3, s4⟩ := hS; go_simp⟩) hT0 ?_
  refine wpAnyH_take (i := 6) (v := .pointer (some ⟨sb, 0, none⟩)) rfl (by kernel_rfl) (by kernel_rfl) (by kernel_rfl) (fun _ _ _ h => h) (.inl ⟨rfl, fun w' hS => by obtain ⟨s1, s2, s3, s4⟩ := hS; go_simp⟩) hT0 ?_
  refine wpAnyH_take (i := 7) (v := .pointer (some ⟨w.heap.size, 7, none⟩)) rfl (by kernel_rfl) (by kernel_rfl) (by kernel_rfl) (fun _ _ _ h => h) (.inl ⟨rfl, fun w' hS => by obtain ⟨s1, s2, s3, s4⟩ := hS; go_simp⟩) hT0 ?_
  refine wpAnyH_take (i := 8) (v := .slice aq ps.length cq) rfl (by kernel_rfl) (by kernel_rfl) (by kernel_rfl) (fun _ _ _ h => h) (.inl ⟨rfl, fun w' hS => by obtain ⟨s1, s2, s3, s4⟩ := hS; go_simp⟩) hT0 ?_
  refine wpAnyH_take (i := 9) (v := .int .i64 (ps.length : Nat)) rfl (by kernel_rfl) (by kernel_rfl) (by kernel_rfl) (fun _ _ _ h => h) (.inl ⟨rfl, fun w' hS => by obtain ⟨s1, s2, s3, s4⟩ := hS; go_simp⟩) hT0 ?_
  refine held_one 10 (by kernel_rfl) (op_value (v := .map (some w1.heap.size)) (w' := (w1.alloc (.map #[] 0)).drewN 2) rfl rfl (by go_simp) ⟨hT1, ?_⟩)
  refine wpAnyH_take (i := 11) (v := .agg #[.string nm, .int .i64 now, .bool full, .pointer (some ⟨sb, 0, none⟩), .map (some w1.heap.size), .slice none 0 0, .bool false]) rfl (by kernel_rfl) (by kernel_rfl) (by kernel_rfl) (fun _ _ _ h => h) (.inl ⟨rfl, fun w' hS => by obtain ⟨s1, s2, s3, s4⟩ := hS; go_simp⟩) hT1 ?_
  refine held_one 12 (by kernel_rfl) (op_value (v := .pointer (some ⟨w1.heap.size + 1, 0, none⟩)) (w' := ((w1.alloc (.map #[] 0)).alloc (.cells #[.string nm, .int .i64 now, .bool full, .pointer (some ⟨sb, 0, none⟩), .map (some w1.heap.size), .slice none 0 0, .bool false] 96)).drewN 2) rfl rfl (by go_simp; rfl) ⟨hT2, ?_⟩)
  refine wpAnyH_take (i := 13) (v := .pointer (some ⟨w1.heap.size + 1, 0, none⟩)) rfl (by kernel_rfl) (by kernel_rfl) (by kernel_rfl) (fun _ _ _ h => h) (.inl ⟨rfl, fun w' hS => by obtain ⟨s1, s2, s3, s4⟩ := hS; go_simp⟩) hT2 ?_
  refine wpAnyH_done (by kernel_rfl) ?_ _
  clear hT0 hT1 hT2 hmk2
  obtain ⟨w3, hw3⟩ : ∃ w3, w3 = ((w1.alloc (.map #[] 0)).alloc (.cells #[.string nm, .int .i64 now, .bool full, .pointer (some ⟨sb, 0, none⟩), .map (some w1.heap.size), .slice none 0 0, .bool false] 96)).drewN 2 := ⟨_, rfl⟩
  have hb3 : Below w1.heap.size w1 w3 := by rw [hw3]; exact below_drewN (((Below.refl w1.heap.size w1).alloc (Nat.le_refl _) (.map #[] 0)).alloc (by simp) (.cells #[.string nm, .int .i64 now, .bool full, .pointer (some ⟨sb, 0, none⟩), .map (some w1.heap.size), .slice none 0 0, .bool false] 96)) 2
  have hs3 : w3.heap.size = w1.heap.size + 2 := by rw [hw3]; show ((w1.alloc (.map #[] 0)).alloc (.cells #[.string nm, .int .i64 now, .bool full, .pointer (some ⟨sb, 0, none⟩), .map (some w1.heap.size), .slice none 0 0, .bool false] 96)).heap.size = _; rw [World.size_alloc, World.size_alloc]
  have HN3 := hid (HN1.out.below hb3)
  have HSH3 := hid (HSH.out.below hb3)
  have HBX3 : Hid (Blk w3 (w1.heap.size + 1) 96 #[.string nm, .int .i64 now, .bool full, .pointer (some ⟨sb, 0, none⟩), .map (some w1.heap.size), .slice none 0 0, .bool false]) := by
    have h := Blk.new (w1.alloc (.map #[] 0)) 96 #[.string nm, .int .i64 now, .bool full, .pointer (some ⟨sb, 0, none⟩), .map (some w1.heap.size), .slice none 0 0, .bool false]
    rw [World.size_alloc] at h
    show Blk w3 (w1.heap.size + 1) 96 _
    rw [hw3]
    exact h.below (below_drewN (Below.refl _ _) 2)
  have HPA3 : Hid (PeersAt w3 (w1.heap.size + 2) w1.heap.size [] []) := by
    refine ⟨rfl, ?_, fun i hi => absurd hi (by simp), fun i hi => absurd hi (by simp), fun i j hi => absurd hi (by simp), fun i j hi => absurd hi (by simp), fun i j hi => absurd hi (by simp)⟩
    rw [hw3]
    exact ((World.ownsMap_made w1 Tryz.prog 3 ptrElem).alloc (.cells #[.string nm, .int .i64 now, .bool full, .pointer (some ⟨sb, 0, none⟩), .map (some w1.heap.size), .slice none 0 0, .bool false] 96)).kept (grown_of_below (below_drewN (Below.refl _ _) 2)) (by simp)
  have HB3 := hid (HB1.out.trans (hb3.mono HB1.out.size))
  have HSHI := hid HVAL.out.width
  have y7 : w3.cell? ⟨w.heap.size, 7, none⟩ = some (.slice aq ps.length cq) := HN3.out.cell 7
  have HLS := hid fun g (e : (Value.slice ac ts.length cc).ownBlock = some g) => HSH.out.row.lt g e
  have hmbl : mb < w1.heap.size := HSH.out.map.lt
  clear hb3
  go_simp
  rw [← hw3]
  clear hw3
  go_wp2
  go_loopw [57] (fun i wr => ∃ (k : Nat) (qs : PV) (pbs : List Nat), k ≤ ps.length ∧ i = .int .i64 k ∧ qs.map Prod.fst = ps.take k ∧ (∀ j, j < k → PrOk now wd (pat ps j)) ∧ PeersAt wr (w1.heap.size + 2) w1.heap.size qs pbs ∧ w3.grownBy wr (some w1.heap.size)) (fun i _ => ps.length - (intOf i).toNat)
  case atStart => exact ⟨0, [], [], Nat.zero_le _, rfl, rfl, fun j hj => absurd hj (by omega), HPA3.out, grown_refl2 _ _⟩
  case round =>
    obtain ⟨k, qs, pbs, hk, rfl, hqs, hok, hpa, hg⟩ := hrel
    have HOK := hid hok
    have HPA := hid hpa
    have HG := hid hg
    have HQS := hid hqs
    have hql : qs.length = k := by have := congrArg List.length hqs; simp at this; omega
    have HQL := hid hql
    have hgs := hg.size
    have hBR := HB3.out.grown hg (by omega) (fun g e => by cases e; omega)
    have HBR := hid hBR
    have hne0 : w.heap.size ≠ w1.heap.size := by omega
    have hneh : w1.heap.size + 1 ≠ w1.heap.size := by omega
    have NR := HN3.out.kept hg (fun e => hne0 (Option.some.inj e))
    have HXR := hid (HBX3.out.kept hg (fun e => hneh (Option.some.inj e)))
    have HSR := hid (HSH3.out.far hg (by omega) (by omega) (fun e => by have := (HLS.out _ e).2; omega))
    have HNR := hid NR
    clear hok hpa hqs hql
    by_cases hlt : k < ps.length
    case neg =>
      obtain rfl : k = ps.length := by omega
      clear hg hBR NR y7
      go_wp2
      go_ret2
      have hqq := HQS.out
      rw [List.take_length] at hqq
      exact .inr ⟨HALL.out HOK.out, w1.heap.size, w1.heap.size + 2, w1.heap.size + 1, w1.heap.size, sb, mb, _, qs, pbs, rfl, hqq, ⟨HXR.out, HSR.out.base (by rw [World.size_alloc]; omega), HPA.out, by omega, by omega, fun g e => (HLS.out g e).2, by omega, by omega, by omega, by omega, by omega, by omega, by omega⟩, HBR.out⟩
    obtain ⟨aq', cq', e', hc⟩ := HQ0.out.below hBR
    cases e'
    obtain ⟨b0, o0, vn, rfl, h5⟩ := hc k hlt
    have hfk := HF.out k hlt
    have HPK : Hid (PrOk now wd (pat ps k) → ∀ j, j < k + 1 → PrOk now wd (pat ps j)) := fun h j hj => (Nat.lt_or_eq_of_le (Nat.le_of_lt_succ hj)).elim (HOK.out j) (fun e => e ▸ h)
    have HNV : Hid (¬ PrOk now wd (pat ps k) → ¬ ValidF nm now wd room its ts ps) := fun h hv => h (hv.each k hlt)
    have HQN : Hid (∀ v', (qs ++ [(pat ps k, v')]).map Prod.fst = ps.take (k + 1)) := fun v' => by
      rw [List.map_append, HQS.out, List.take_succ_eq_append_getElem hlt]
      simp [pat, hlt]
    generalize pat ps k = p at *
    obtain ⟨pl, pw, pt, pa, pn⟩ := p
    obtain ⟨x0, x1, x2, x3, x4, x5, x6⟩ := h5
    dsimp only at x1 x2 x3 x4 x5 x6
    have hpa' := hfk.asked
    have hpn := hfk.nots
    have hpe := hfk.each
    dsimp only at hpa' hpn hpe
    obtain ⟨an, cn, rfl, _⟩ := x6.form
    have HIP := hid fun W h => isPeer_any pl pw pt pa (.slice an pn.length cn) pn now wd W h hpn hpe (of_decide_eq_true HSHI.out).1
    have HCP := hid fun W h => clonePeer_any pl pw pt pa (.slice an pn.length cn) pn W h hpa' hpn hpe
    have HX6 := hid x6
    have hPB := Blk.new wr 81 #[.int .i64 pl, .int .i64 pw, .int .i64 pt, .string pa, .slice an pn.length cn]
    have hAR := (Below.refl wr.heap.size wr).alloc (Nat.le_refl _) (.cells #[.int .i64 pl, .int .i64 pw, .int .i64 pt, .string pa, .slice an pn.length cn] 81)
    have HPB := hid hPB
    have HAR := hid hAR
    have hS0 : (wr.alloc (.cells #[.int .i64 pl, .int .i64 pw, .int .i64 pt, .string pa, .slice an pn.length cn] 81)).drew.cell? ⟨wr.heap.size, 0, none⟩ = some (.int .i64 pl) ∧ (wr.alloc (.cells #[.int .i64 pl, .int .i64 pw, .int .i64 pt, .string pa, .slice an pn.length cn] 81)).drew.cell? ⟨wr.heap.size, 1, none⟩ = some (.int .i64 pw) ∧ (wr.alloc (.cells #[.int .i64 pl, .int .i64 pw, .int .i64 pt, .string pa, .slice an pn.length cn] 81)).drew.cell? ⟨wr.heap.size, 2, none⟩ = some (.int .i64 pt) ∧ (wr.alloc (.cells #[.int .i64 pl, .int .i64 pw, .int .i64 pt, .string pa, .slice an pn.length cn] 81)).drew.cell? ⟨wr.heap.size, 3, none⟩ = some (.string pa) ∧ (wr.alloc (.cells #[.int .i64 pl, .int .i64 pw, .int .i64 pt, .string pa, .slice an pn.length cn] 81)).drew.cell? ⟨wr.heap.size, 4, none⟩ = some (.slice an pn.length cn) ∧ (wr.alloc (.cells #[.int .i64 pl, .int .i64 pw, .int .i64 pt, .string pa, .slice an pn.length cn] 81)).drew.cell? ⟨w.heap.size, 1, none⟩ = some (.int .i64 now) ∧ (wr.alloc (.cells #[.int .i64 pl, .int .i64 pw, .int .i64 pt, .string pa, .slice an pn.length cn] 81)).drew.cell? ⟨sb, 0, none⟩ = some (.int .i64 wd) := ⟨hPB.cell 0, hPB.cell 1, hPB.cell 2, hPB.cell 3, hPB.cell 4, (NR.alloc _).cell 1, (HSR.out.box.alloc _).cell 0⟩
    have hec4 := enters_of Tryz.func76 (by kernel_rfl) rfl
    clear hg hBR NR y7 hfk hpa' hpe x6 hc hPB hAR
    go_wp2_with fail
    refine wp_region_held (S := fun w' => w'.cell? ⟨wr.heap.size, 0, none⟩ = some (.int .i64 pl) ∧ w'.cell? ⟨wr.heap.size, 1, none⟩ = some (.int .i64 pw) ∧ w'.cell? ⟨wr.heap.size, 2, none⟩ = some (.int .i64 pt) ∧ w'.cell? ⟨wr.heap.size, 3, none⟩ = some (.string pa) ∧ w'.cell? ⟨wr.heap.size, 4, none⟩ = some (.slice an pn.length cn) ∧ w'.cell? ⟨w.heap.size, 1, none⟩ = some (.int .i64 now) ∧ w'.cell? ⟨sb, 0, none⟩ = some (.int .i64 wd)) (by kernel_rfl) ?_
    change wpAnyH _ _ _ _ _ _ _ _ (World.drew _)
    refine wpAnyH_take (i := 0) (v := .agg #[.int .i64 pl, .int .i64 pw, .int .i64 pt, .string pa, .slice an pn.length cn]) rfl (by kernel_rfl) (by kernel_rfl) (by kernel_rfl) (fun _ _ _ h => h) (.inl ⟨rfl, fun w' hS => by obtain ⟨s1, s2, s3, s4, s5, s6, s7⟩ := hS; go_simp⟩) hS0 ?_
    refine wpAnyH_take (i := 1) (v := .pointer (some ⟨w.heap.size, 1, none⟩)) rfl (by kernel_rfl) (by kernel_rfl) (by kernel_rfl) (fun _ _ _ h => h) (.inl ⟨rfl, fun w' hS => by obtain ⟨s1, s2, s3, s4, s5, s6, s7⟩ := hS; go_simp⟩) hS0 ?_
    refine wpAnyH_take (i := 2) (v := .int .i64 now) rfl (by kernel_rfl) (by kernel_rfl) (by kernel_rfl) (fun _ _ _ h => h) (.inl ⟨rfl, fun w' hS => by obtain ⟨s1, s2, s3, s4, s5, s6, s7⟩ := hS; go_simp⟩) hS0 ?_
    refine wpAnyH_take (i := 3) (v := .pointer (some ⟨sb, 0, none⟩)) rfl (by kernel_rfl) (by kernel_rfl) (by kernel_rfl) (fun _ _ _ h => h) (.inl ⟨rfl, fun w' hS => by obtain ⟨s1, s2, s3, s4, s5, s6, s7⟩ := hS; go_simp⟩) hS0 ?_
    refine wpAnyH_take (i := 4) (v := .pointer (some ⟨sb, 0, none⟩)) rfl (by kernel_rfl) (by kernel_rfl) (by kernel_rfl) (fun _ _ _ h => h) (.inl ⟨rfl, fun w' hS => by obtain ⟨s1, s2, s3, s4, s5, s6, s7⟩ := hS; go_simp⟩) hS0 ?_
    refine wpAnyH_take (i := 5) (v := .pointer (some ⟨sb, 0, none⟩)) rfl (by kernel_rfl) (by kernel_rfl) (by kernel_rfl) (fun _ _ _ h => h) (.inl ⟨rfl, fun w' hS => by obtain ⟨s1, s2, s3, s4, s5, s6, s7⟩ := hS; go_simp⟩) hS0 ?_
    refine wpAnyH_take (i := 6) (v := .int .i64 wd) rfl (by kernel_rfl) (by kernel_rfl) (by kernel_rfl) (fun _ _ _ h => h) (.inl ⟨rfl, fun w' hS => by obtain ⟨s1, s2, s3, s4, s5, s6, s7⟩ := hS; go_simp⟩) hS0 ?_
    refine held_one 7 (by kernel_rfl) (op_calls (f := 76) (args := #[.agg #[.int .i64 pl, .int .i64 pw, .int .i64 pt, .string pa, .slice an pn.length cn], .int .i64 now, .int .i64 wd]) rfl rfl (by go_simp) (HIP.out _ (HX6.out.below (below_drewN HAR.out 1))) ?_)
    rintro e w5 ⟨b, rfl, hb, hb5⟩
    have hb5' : Below (wr.alloc (.cells #[.int .i64 pl, .int .i64 pw, .int .i64 pt, .string pa, .slice an pn.length cn] 81)).heap.size (wr.alloc (.cells #[.int .i64 pl, .int .i64 pw, .int .i64 pt, .string pa, .slice an pn.length cn] 81)) w5 := ⟨hb5.os, hb5.tape, hb5.output, hb5.size, hb5.block⟩
    have P5 := HPB.out.below hb5'
    have B5 := HAR.out.trans (hb5'.mono (by simp))
    have hs5 := hb5'.size
    rw [World.size_alloc] at hs5
    have hS1 : w5.cell? ⟨wr.heap.size, 0, none⟩ = some (.int .i64 pl) ∧ w5.cell? ⟨wr.heap.size, 1, none⟩ = some (.int .i64 pw) ∧ w5.cell? ⟨wr.heap.size, 2, none⟩ = some (.int .i64 pt) ∧ w5.cell? ⟨wr.heap.size, 3, none⟩ = some (.string pa) ∧ w5.cell? ⟨wr.heap.size, 4, none⟩ = some (.slice an pn.length cn) ∧ w5.cell? ⟨w.heap.size, 1, none⟩ = some (.int .i64 now) ∧ w5.cell? ⟨sb, 0, none⟩ = some (.int .i64 wd) := ⟨P5.cell 0, P5.cell 1, P5.cell 2, P5.cell 3, P5.cell 4, (HNR.out.below B5).cell 1, (HSR.out.box.below B5).cell 0⟩
    have HP5 := hid P5
    have HB5 := hid B5
    have HBW5 := hid (HBR.out.trans (B5.mono HBR.out.size))
    clear hb5 hb5' P5 B5 hS0
    refine ⟨_, rfl, hS1, ?_⟩
    cases b with
    | false =>
      have HNO := hid (HNV.out (fun h => by have := hb.2 h; cases this))
      clear hb
      refine wpAnyH_take (i := 8) (v := .bool true) rfl (by kernel_rfl) (by kernel_rfl) (by kernel_rfl) (fun _ _ _ h => h) (.inl ⟨rfl, fun w' hS => by obtain ⟨s1, s2, s3, s4, s5, s6, s7⟩ := hS; go_simp⟩) hS1 ?_
      refine wpAnyH_done (by kernel_rfl) ?_ _
      clear hS1
      go_simp
      go_wp2
      go_ret2
      exact FRes.no HNO.out HBW5.out
    | true =>
      have HYES := hid (hb.1 rfl)
      clear hb
      refine wpAnyH_take (i := 8) (v := .bool false) rfl (by kernel_rfl) (by kernel_rfl) (by kernel_rfl) (fun _ _ _ h => h) (.inl ⟨rfl, fun w' hS => by obtain ⟨s1, s2, s3, s4, s5, s6, s7⟩ := hS; go_simp⟩) hS1 ?_
      refine wpAnyH_done (by kernel_rfl) ?_ _
      obtain ⟨s1, s2, s3, s4, s5, _, _⟩ := hS1
      have HC5 := hid (HCP.out w5 (HX6.out.below HB5.out))
      go_simp
      go_wp2_with fail
      refine HC5.out.mono ?_
      rintro e w6 ⟨v6, rfl, ho6, hb6⟩
      obtain ⟨a6, c6, rfl, _⟩ := row_form ho6
      have hs6 := hb6.size
      have B6 := HB5.out.trans (hb6.mono HB5.out.size)
      have hA7 := B6.alloc (by omega) (.cells #[.int .i64 pl, .int .i64 pw, .int .i64 pt, .string pa, .slice a6 pn.length c6] 81)
      have X7 := (HXR.out.below B6).alloc (.cells #[.int .i64 pl, .int .i64 pw, .int .i64 pt, .string pa, .slice a6 pn.length c6] 81)
      have x4' : (w6.alloc (.cells #[.int .i64 pl, .int .i64 pw, .int .i64 pt, .string pa, .slice a6 pn.length c6] 81)).cell? ⟨w1.heap.size + 1, 4, none⟩ = some (.map (some w1.heap.size)) := X7.cell 4
      have M7 := (HPA.out.below hA7).map
      have hkk : ((k + 1 : Nat) : Int) = (k : Int) + 1 := by omega
      obtain ⟨w8, hrun, hm8, hg8⟩ := M7.update keyed3 Tryz.underlying94 (by rw [HQL.out]; unfold maxLen; omega) (key3 (k + 1) (by omega)) (ptrElem_mk w6.heap.size)
      rw [hkk] at hrun
      have HM8 := hid hm8
      have HG8 := hid hg8
      have HA7 := hid hA7
      have HP7 := hid (Blk.new w6 81 #[.int .i64 pl, .int .i64 pw, .int .i64 pt, .string pa, .slice a6 pn.length c6])
      have HO7 := hid (ho6.alloc (.cells #[.int .i64 pl, .int .i64 pw, .int .i64 pt, .string pa, .slice a6 pn.length c6] 81))
      have HLV := hid ho6.lt
      clear s1 s2 s3 s4 s5 ho6 hb6 B6 hA7 X7 M7 hm8 hg8 hkk
      go_wp2
      have hs8 := HG8.out.size
      refine ⟨⟨k + 1, qs ++ [(⟨pl, pw, pt, pa, pn⟩, .slice a6 pn.length c6)], pbs ++ [w6.heap.size], by omega, by go_num, HQN.out _, HPK.out HYES.out, ?_, ?_⟩, by simp [intOf]; omega⟩
      · refine HPA.out.snoc (w1 := w6.alloc (.cells #[.int .i64 pl, .int .i64 pw, .int .i64 pt, .string pa, .slice a6 pn.length c6] 81)) (by omega) (by omega) HA7.out HP7.out (by omega) (ownsRow_base HO7.out (by omega)) (fun e => by have := (HLV.out _ e).2; omega) ?_ HG8.out
        rw [HQL.out]
        have h := HM8.out
        rw [HQL.out] at h
        exact h
      · exact grown_same (grown_same HG.out (grown_below' HA7.out)) HG8.out
end Go.Proofs.YtlnkhbnbcmllaaaGreat
