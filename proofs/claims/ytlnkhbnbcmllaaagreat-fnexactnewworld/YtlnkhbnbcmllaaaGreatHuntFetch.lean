/- (*impl.hunt).fetch. -/
import Derived.Test.YtlnkhbnbcmllaaaGreatMapPeers
import Derived.Test.YtlnkhbnbcmllaaaGreatCopySpec
import Derived.Test.YtlnkhbnbcmllaaaGreatUnpinMath
import Derived.Test.YtlnkhbnbcmllaaaGreatShort
import Derived.Test.YtlnkhbnbcmllaaaGreatPutImpl
namespace Go.Proofs.YtlnkhbnbcmllaaaGreat
open Go.RowKit
set_option maxRecDepth 100000 in
set_option maxHeartbeats 8000000 in
theorem huntFetch_any (hb pm sb mb : Nat) (vc : Value) (nm : ByteArray) (now : Int) (full : Bool) (wd room tot : Int) (its : Itms) (ts : List ByteArray) (qs : PV) (pbs : List Nat) (lv : Value) (lk : Bool) (w : World) (H : HuntRd w hb pm sb mb vc nm now full wd room tot its ts qs pbs lv lk) (hAA : AscI wd its) (hli : its.length ≤ 1048576) (hlp : ts.length ≤ 1048576) (hlq : qs.length ≤ 1000) (hsi : ∀ i, (itx its i).size ≤ 1048576) (hsp : ∀ i, (tv ts i).size ≤ 1048576) (hnm : nm.size ≤ 1048576) (hpf : ∀ i, i < qs.length → PrFits 1048576 (qp qs i)) :
    Calls Tryz.prog 57 #[.pointer (some ⟨hb, 0, none⟩)] w fun e w' => ∃ vi' vp' vq' qs', e = .returned (fval nm now full wd room vi' vp' vq') ∧ qs'.map Prod.fst = qs.map Prod.fst ∧ FetchOwn w' (w.heap.size + 1) vi' vp' vq' its ts qs' ∧ Below w.heap.size w w' := by
  obtain ⟨i0, hi0, hz0, hz1, hz2⟩ := info_parts Tryz.infoPeer
  have HH := hid H
  have hhb := H.box.lt
  have hpm : pm < w.heap.size := map_lt H.pmap
  have HPF := hid hpf
  have HCL := hid fun W => stringsClone_any nm W (by omega)
  have HST := hid fun (W : World) (h : Below w.heap.size w W) => shelfStore_any keysOK sb mb its.length vc wd room _ its ts (mapI wd its its.length) W (H.sbox.below h) (H.smap.kept (grown_of_below h) (by simp)) (mapI_tidy wd its its.length) hAA.lt (fun x => (mapI_all wd its x).symm) (fun j hj z => mapI_at wd its hAA.lt z its.length (Nat.le_refl _) j hj) (H.srow.below h) hli hlp hsp hsi
  have hA := (Below.refl w.heap.size w).alloc (Nat.le_refl _) (.cells fzero 37)
  have hN := Blk.new w 37 fzero
  obtain ⟨w1, hw1⟩ : ∃ x, x = w.alloc (.cells fzero 37) := ⟨_, rfl⟩
  have hz1' : w1.heap.size = w.heap.size + 1 := by rw [hw1, World.size_alloc]
  rw [← hw1] at hA hN
  have HA := hid hA
  have HN := hid hN
  have hs1a : w.heap.size + 1 ≤ w1.heap.size := by omega
  have hs1b : w1.heap.size ≤ w.heap.size + 1 := by omega
  have HSF := hid fun (W : World) (h : Below w1.heap.size w1 W) => (show W.cell? ⟨hb, 0, none⟩ = some (.string nm) ∧ W.cell? ⟨hb, 1, none⟩ = some (.int .i64 now) ∧ W.cell? ⟨hb, 2, none⟩ = some (.bool full) ∧ W.cell? ⟨hb, 3, none⟩ = some (.pointer (some ⟨sb, 0, none⟩)) from by
    have X := (HH.out.box.below HA.out).below h
    exact ⟨X.cell 0, X.cell 1, X.cell 2, X.cell 3⟩)
  have hbd : Below w1.heap.size w1 w1.drew := below_drewN (Below.refl _ _) 1
  have hS0 := HSF.out w1.drew hbd
  have hec1 := enters_of Tryz.func59 (by kernel_rfl) rfl
  have hec2 := enters_of Tryz.func58 (by kernel_rfl) rfl
  have hec3 := enters_of Tryz.func77 (by kernel_rfl) rfl
  clear H hA hN hz1' hpf hAA hsi hsp
  go_enter Tryz.func57, Tryz.ntmps57
  go_upto_region 1 with fail
  rw [← hw1]
  clear hw1
  go_cut [3] from 5 to 23 (fun s3 wx => ∃ ob v1 p1, s3 = .pointer (some ⟨ob, 0, none⟩) ∧ Blk wx ob 37 (fcells nm now full wd room v1 p1 (.slice none 0 0)) ∧ StoreOwn wx w1.heap.size v1 p1 its ts ∧ w1.heap.size ≤ ob ∧ Below w1.heap.size w1 wx)
  case first =>
    refine wp_region_held (S := fun w' => w'.cell? ⟨hb, 0, none⟩ = some (.string nm) ∧ w'.cell? ⟨hb, 1, none⟩ = some (.int .i64 now) ∧ w'.cell? ⟨hb, 2, none⟩ = some (.bool full) ∧ w'.cell? ⟨hb, 3, none⟩ = some (.pointer (some ⟨sb, 0, none⟩))) (by kernel_rfl) ?_
    change wpAnyH _ _ _ _ _ _ _ _ (World.drew _)
    refine wpAnyH_take (i := 0) (v := .pointer (some ⟨hb, 0, none⟩)) rfl (by kernel_rfl) (by kernel_rfl) (by kernel_rfl) (fun _ _ _ h => h) (.inl ⟨rfl, fun w' hS => by obtain ⟨s1, s2, s3, s4⟩ := hS; go_simp⟩) hS0 ?_
    refine wpAnyH_take (i := 1) (v := .pointer (some ⟨hb, 0, none⟩)) rfl (by kernel_rfl) (by kernel_rfl) (by kernel_rfl) (fun _ _ _ h => h) (.inl ⟨rfl, fun w' hS => by obtain ⟨s1, s2, s3, s4⟩ := hS; go_simp⟩) hS0 ?_
    refine wpAnyH_take (i := 2) (v := .pointer (some ⟨hb, 0, none⟩)) rfl (by kernel_rfl) (by kernel_rfl) (by kernel_rfl) (fun _ _ _ h => h) (.inl ⟨rfl, fun w' hS => by obtain ⟨s1, s2, s3, s4⟩ := hS; go_simp⟩) hS0 ?_
    refine wpAnyH_take (i := 3) (v := .string nm) rfl (by kernel_rfl) (by kernel_rfl) (by kernel_rfl) (fun _ _ _ h => h) (.inl ⟨rfl, fun w' hS => by obtain ⟨s1, s2, s3, s4⟩ := hS; go_simp⟩) hS0 ?_
    refine wpAnyH_take (i := 5) (v := .pointer (some ⟨hb, 0, none⟩)) rfl (by kernel_rfl) (by kernel_rfl) (by kernel_rfl) (fun _ _ _ h => h) (.inl ⟨rfl, fun w' hS => by obtain ⟨s1, s2, s3, s4⟩ := hS; go_simp⟩) hS0 ?_
    refine wpAnyH_take (i := 6) (v := .pointer (some ⟨hb, 0, none⟩)) rfl (by kernel_rfl) (by kernel_rfl) (by kernel_rfl) (fun _ _ _ h => h) (.inl ⟨rfl, fun w' hS => by obtain ⟨s1, s2, s3, s4⟩ := hS; go_simp⟩) hS0 ?_
    refine wpAnyH_take (i := 7) (v := .pointer (some ⟨hb, 1, none⟩)) rfl (by kernel_rfl) (by kernel_rfl) (by kernel_rfl) (fun _ _ _ h => h) (.inl ⟨rfl, fun w' hS => by obtain ⟨s1, s2, s3, s4⟩ := hS; go_simp⟩) hS0 ?_
    refine wpAnyH_take (i := 8) (v := .int .i64 now) rfl (by kernel_rfl) (by kernel_rfl) (by kernel_rfl) (fun _ _ _ h => h) (.inl ⟨rfl, fun w' hS => by obtain ⟨s1, s2, s3, s4⟩ := hS; go_simp⟩) hS0 ?_
    refine wpAnyH_take (i := 9) (v := .pointer (some ⟨hb, 0, none⟩)) rfl (by kernel_rfl) (by kernel_rfl) (by kernel_rfl) (fun _ _ _ h => h) (.inl ⟨rfl, fun w' hS => by obtain ⟨s1, s2, s3, s4⟩ := hS; go_simp⟩) hS0 ?_
    refine wpAnyH_take (i := 10) (v := .pointer (some ⟨hb, 0, none⟩)) rfl (by kernel_rfl) (by kernel_rfl) (by kernel_rfl) (fun _ _ _ h => h) (.inl ⟨rfl, fun w' hS => by obtain ⟨s1, s2, s3, s4⟩ := hS; go_simp⟩) hS0 ?_
    refine wpAnyH_take (i := 11) (v := .pointer (some ⟨hb, 2, none⟩)) rfl (by kernel_rfl) (by kernel_rfl) (by kernel_rfl) (fun _ _ _ h => h) (.inl ⟨rfl, fun w' hS => by obtain ⟨s1, s2, s3, s4⟩ := hS; go_simp⟩) hS0 ?_
    refine wpAnyH_take (i := 12) (v := .bool full) rfl (by kernel_rfl) (by kernel_rfl) (by kernel_rfl) (fun _ _ _ h => h) (.inl ⟨rfl, fun w' hS => by obtain ⟨s1, s2, s3, s4⟩ := hS; go_simp⟩) hS0 ?_
    refine wpAnyH_take (i := 13) (v := .pointer (some ⟨hb, 0, none⟩)) rfl (by kernel_rfl) (by kernel_rfl) (by kernel_rfl) (fun _ _ _ h => h) (.inl ⟨rfl, fun w' hS => by obtain ⟨s1, s2, s3, s4⟩ := hS; go_simp⟩) hS0 ?_
    refine wpAnyH_take (i := 14) (v := .pointer (some ⟨hb, 0, none⟩)) rfl (by kernel_rfl) (by kernel_rfl) (by kernel_rfl) (fun _ _ _ h => h) (.inl ⟨rfl, fun w' hS => by obtain ⟨s1, s2, s3, s4⟩ := hS; go_simp⟩) hS0 ?_
    refine wpAnyH_take (i := 15) (v := .pointer (some ⟨hb, 3, none⟩)) rfl (by kernel_rfl) (by kernel_rfl) (by kernel_rfl) (fun _ _ _ h => h) (.inl ⟨rfl, fun w' hS => by obtain ⟨s1, s2, s3, s4⟩ := hS; go_simp⟩) hS0 ?_
    refine wpAnyH_take (i := 16) (v := .pointer (some ⟨sb, 0, none⟩)) rfl (by kernel_rfl) (by kernel_rfl) (by kernel_rfl) (fun _ _ _ h => h) (.inl ⟨rfl, fun w' hS => by obtain ⟨s1, s2, s3, s4⟩ := hS; go_simp⟩) hS0 ?_
    refine held_two 4 19 (by kernel_rfl) ?A ?B
    case A =>
      refine op_calls (f := 59) (args := #[.string nm]) rfl rfl (by go_simp) (HCL.out _) ?_
      rintro e w2 ⟨rfl, hb2⟩
      have B2 : Below w1.heap.size w1 w2 := hbd.trans (hb2.mono hbd.size)
      have hS2 := HSF.out w2 B2
      have hz2' := B2.size
      clear hb2
      refine ⟨_, rfl, hS2, ?_⟩
      refine held_two 17 19 (by kernel_rfl) ?A1 ?A2
      case A1 =>
        refine op_calls (f := 58) (args := #[.pointer (some ⟨sb, 0, none⟩)]) rfl rfl (by go_simp) (HST.out _ (HA.out.trans (B2.mono HA.out.size))) ?_
        rintro e w3 ⟨v1, p1, rfl, oi3, op3, hap3, hb3⟩
        obtain ⟨a1, c1, rfl⟩ := row_any oi3
        obtain ⟨b1, d1, rfl⟩ := row_any op3
        have B3 : Below w1.heap.size w1 w3 := B2.trans (hb3.mono B2.size)
        have hz3 := B2.size
        have hz4 := hb3.size
        have hS3 := HSF.out w3 B3
        have SO3 : StoreOwn w3 w1.heap.size (.slice a1 its.length c1) (.slice b1 ts.length d1) its ts := ⟨ownsRow_base2 oi3 (by omega), ownsRow_base2 op3 (by omega), hap3⟩
        refine ⟨_, rfl, hS3, ?_⟩
        refine wpAnyH_take (i := 18) (v := .agg #[.string nm, .int .i64 now, .bool full, .int .i64 wd, .int .i64 room, .slice a1 its.length c1, .slice b1 ts.length d1, .slice none 0 0]) rfl (by kernel_rfl) (by kernel_rfl) (by kernel_rfl) (fun _ _ _ h => h) (.inl ⟨rfl, fun w' hS => by obtain ⟨s1, s2, s3, s4⟩ := hS; go_simp⟩) hS3 ?_
        have BE := B3.alloc B3.size (.cells fzero 37)
        have hS4 := HSF.out _ BE
        have BF := B3.alloc B3.size (.cells (fcells nm now full wd room (.slice a1 its.length c1) (.slice b1 ts.length d1) (.slice none 0 0)) 37)
        have hS5 := HSF.out _ BF
        have HBF := hid BF
        have HSO := hid (show StoreOwn (w3.alloc (.cells (fcells nm now full wd room (.slice a1 its.length c1) (.slice b1 ts.length d1) (.slice none 0 0)) 37)) w1.heap.size (.slice a1 its.length c1) (.slice b1 ts.length d1) its ts from ⟨SO3.items.alloc _, SO3.pins.alloc _, SO3.apart⟩)
        refine held_one 19 (by kernel_rfl) (op_value (v := .pointer (some ⟨w3.heap.size, 0, none⟩)) (w' := w3.alloc (.cells fzero 37)) rfl rfl (by go_simp) ⟨hS4, ?_⟩)
        refine held_one 20 (by kernel_rfl) (op_skip (w' := w3.alloc (.cells (fcells nm now full wd room (.slice a1 its.length c1) (.slice b1 ts.length d1) (.slice none 0 0)) 37)) rfl rfl (by go_simp) ⟨hS5, wpAnyH_done (by kernel_rfl) ?_ _⟩)
        clear hS0 hS2 hS3 hS4 hS5 BE BF SO3 oi3 op3 hap3 hb3
        go_simp
        go_wp2_with fail
        go_meet
        exact ⟨w3.heap.size, _, _, rfl, Blk.new w3 37 _, HSO.out, B3.size, HBF.out⟩
      case A2 =>
        have hA4 := B2.alloc B2.size (.cells fzero 37)
        have hS4 := HSF.out _ hA4
        have N2 := Blk.new w2 37 fzero
        refine op_value (v := .pointer (some ⟨w2.heap.size, 0, none⟩)) (w' := w2.alloc (.cells fzero 37)) rfl rfl (by go_simp) ⟨hS4, ?_⟩
        refine held_one 17 (by kernel_rfl) (op_calls (f := 58) (args := #[.pointer (some ⟨sb, 0, none⟩)]) rfl rfl (by go_simp) (HST.out _ (HA.out.trans (hA4.mono HA.out.size))) ?_)
        rintro e w3 ⟨v1, p1, rfl, oi3, op3, hap3, hb3⟩
        obtain ⟨a1, c1, rfl⟩ := row_any oi3
        obtain ⟨b1, d1, rfl⟩ := row_any op3
        have B3 : Below w1.heap.size w1 w3 := hA4.trans (hb3.mono hA4.size)
        have hz3 := hA4.size
        have hz4 := hb3.size
        have hS3 := HSF.out w3 B3
        have SO3 : StoreOwn w3 w1.heap.size (.slice a1 its.length c1) (.slice b1 ts.length d1) its ts := ⟨ownsRow_base2 oi3 (by omega), ownsRow_base2 op3 (by omega), hap3⟩
        refine ⟨_, rfl, hS3, ?_⟩
        refine wpAnyH_take (i := 18) (v := .agg #[.string nm, .int .i64 now, .bool full, .int .i64 wd, .int .i64 room, .slice a1 its.length c1, .slice b1 ts.length d1, .slice none 0 0]) rfl (by kernel_rfl) (by kernel_rfl) (by kernel_rfl) (fun _ _ _ h => h) (.inl ⟨rfl, fun w' hS => by obtain ⟨s1, s2, s3, s4⟩ := hS; go_simp⟩) hS3 ?_
        have N5 := N2.below hb3
        have s := N5.store8 (.string nm) (.int .i64 now) (.bool full) (.int .i64 wd) (.int .i64 room) (.slice a1 its.length c1) (.slice b1 ts.length d1) (.slice none 0 0)
        obtain ⟨q0, k0, q1, k1, q2, k2, q3, k3, q4, k4, q5, k5, q6, k6, q7, k7⟩ := s
        have HZ := hid (N5.set8 (.string nm) (.int .i64 now) (.bool full) (.int .i64 wd) (.int .i64 room) (.slice a1 its.length c1) (.slice b1 ts.length d1) (.slice none 0 0))
        have G8 := grown_set8 w3 w2.heap.size (.string nm) (.int .i64 now) (.bool full) (.int .i64 wd) (.int .i64 room) (.slice a1 its.length c1) (.slice b1 ts.length d1) (.slice none 0 0)
        have BF := below_set8 B3 (b := w2.heap.size) (by omega) (Nat.le_refl _) (.string nm) (.int .i64 now) (.bool full) (.int .i64 wd) (.int .i64 room) (.slice a1 its.length c1) (.slice b1 ts.length d1) (.slice none 0 0)
        have hS5 := HSF.out _ BF
        have HBF := hid BF
        have HSO := hid (show StoreOwn (set8 w3 w2.heap.size (.string nm) (.int .i64 now) (.bool full) (.int .i64 wd) (.int .i64 room) (.slice a1 its.length c1) (.slice b1 ts.length d1) (.slice none 0 0)) w1.heap.size (.slice a1 its.length c1) (.slice b1 ts.length d1) its ts from ⟨SO3.items.kept G8 (.inr fun e => by have := row_off_blk oi3 N5 (by decide) e; exact this), SO3.pins.kept G8 (.inr fun e => by have := row_off_blk op3 N5 (by decide) e; exact this), SO3.apart⟩)
        refine held_one 20 (by kernel_rfl) (op_skip (w' := set8 w3 w2.heap.size (.string nm) (.int .i64 now) (.bool full) (.int .i64 wd) (.int .i64 room) (.slice a1 its.length c1) (.slice b1 ts.length d1) (.slice none 0 0)) rfl rfl (by unfold set8; go_simp) ⟨hS5, wpAnyH_done (by kernel_rfl) ?_ _⟩)
        clear hS0 hS2 hS3 hS5 BF SO3 oi3 op3 hap3 hb3 N5 G8 q0 q1 q2 q3 q4 q5 q6 q7 k0 k1 k2 k3 k4 k5 k6 k7 N2 hS4
        go_simp
        go_wp2_with fail
        go_meet
        exact ⟨w2.heap.size, _, _, rfl, HZ.out, HSO.out, by omega, HBF.out⟩
    case B =>
      have hA4 : Below w1.heap.size w1 (w1.alloc (.cells fzero 37)).drew := below_drewN ((Below.refl w1.heap.size w1).alloc (Nat.le_refl _) (.cells fzero 37)) 1
      have hS4 := HSF.out _ hA4
      have N2 := Blk.new w1 37 fzero
      refine op_value (v := .pointer (some ⟨w1.heap.size, 0, none⟩)) (w' := (w1.alloc (.cells fzero 37)).drew) rfl rfl (by go_simp) ⟨hS4, ?_⟩
      refine held_one 4 (by kernel_rfl) (op_calls (f := 59) (args := #[.string nm]) rfl rfl (by go_simp) (HCL.out _) ?_)
      rintro e w2 ⟨rfl, hb2⟩
      have B2 : Below w1.heap.size w1 w2 := hA4.trans (hb2.mono hA4.size)
      have hS2 := HSF.out w2 B2
      have N3 : Blk w2 w1.heap.size 37 fzero := (hb2.block _ N2.lt).trans N2
      clear hb2
      refine ⟨_, rfl, hS2, ?_⟩
      refine held_one 17 (by kernel_rfl) (op_calls (f := 58) (args := #[.pointer (some ⟨sb, 0, none⟩)]) rfl rfl (by go_simp) (HST.out _ (HA.out.trans (B2.mono HA.out.size))) ?_)
      rintro e w3 ⟨v1, p1, rfl, oi3, op3, hap3, hb3⟩
      obtain ⟨a1, c1, rfl⟩ := row_any oi3
      obtain ⟨b1, d1, rfl⟩ := row_any op3
      have B3 : Below w1.heap.size w1 w3 := B2.trans (hb3.mono B2.size)
      have hz3 := B2.size
      have hz4 := hb3.size
      have hS3 := HSF.out w3 B3
      have SO3 : StoreOwn w3 w1.heap.size (.slice a1 its.length c1) (.slice b1 ts.length d1) its ts := ⟨ownsRow_base2 oi3 (by omega), ownsRow_base2 op3 (by omega), hap3⟩
      refine ⟨_, rfl, hS3, ?_⟩
      refine wpAnyH_take (i := 18) (v := .agg #[.string nm, .int .i64 now, .bool full, .int .i64 wd, .int .i64 room, .slice a1 its.length c1, .slice b1 ts.length d1, .slice none 0 0]) rfl (by kernel_rfl) (by kernel_rfl) (by kernel_rfl) (fun _ _ _ h => h) (.inl ⟨rfl, fun w' hS => by obtain ⟨s1, s2, s3, s4⟩ := hS; go_simp⟩) hS3 ?_
      have N5 := N3.below hb3
      have s := N5.store8 (.string nm) (.int .i64 now) (.bool full) (.int .i64 wd) (.int .i64 room) (.slice a1 its.length c1) (.slice b1 ts.length d1) (.slice none 0 0)
      obtain ⟨q0, k0, q1, k1, q2, k2, q3, k3, q4, k4, q5, k5, q6, k6, q7, k7⟩ := s
      have HZ := hid (N5.set8 (.string nm) (.int .i64 now) (.bool full) (.int .i64 wd) (.int .i64 room) (.slice a1 its.length c1) (.slice b1 ts.length d1) (.slice none 0 0))
      have G8 := grown_set8 w3 w1.heap.size (.string nm) (.int .i64 now) (.bool full) (.int .i64 wd) (.int .i64 room) (.slice a1 its.length c1) (.slice b1 ts.length d1) (.slice none 0 0)
      have BF := below_set8 B3 (b := w1.heap.size) (by omega) (Nat.le_refl _) (.string nm) (.int .i64 now) (.bool full) (.int .i64 wd) (.int .i64 room) (.slice a1 its.length c1) (.slice b1 ts.length d1) (.slice none 0 0)
      have hS5 := HSF.out _ BF
      have HBF := hid BF
      have HSO := hid (show StoreOwn (set8 w3 w1.heap.size (.string nm) (.int .i64 now) (.bool full) (.int .i64 wd) (.int .i64 room) (.slice a1 its.length c1) (.slice b1 ts.length d1) (.slice none 0 0)) w1.heap.size (.slice a1 its.length c1) (.slice b1 ts.length d1) its ts from ⟨SO3.items.kept G8 (.inr fun e => by have := row_off_blk oi3 N5 (by decide) e; exact this), SO3.pins.kept G8 (.inr fun e => by have := row_off_blk op3 N5 (by decide) e; exact this), SO3.apart⟩)
      refine held_one 20 (by kernel_rfl) (op_skip (w' := set8 w3 w1.heap.size (.string nm) (.int .i64 now) (.bool full) (.int .i64 wd) (.int .i64 room) (.slice a1 its.length c1) (.slice b1 ts.length d1) (.slice none 0 0)) rfl rfl (by unfold set8; go_simp) ⟨hS5, wpAnyH_done (by kernel_rfl) ?_ _⟩)
      clear hS0 hS2 hS3 hS5 BF SO3 oi3 op3 hap3 hb3 N5 G8 q0 q1 q2 q3 q4 q5 q6 q7 k0 k1 k2 k3 k4 k5 k6 k7 N2 N3 hS4
      go_simp
      go_wp2_with fail
      go_meet
      exact ⟨w1.heap.size, _, _, rfl, HZ.out, HSO.out, by omega, HBF.out⟩
  case rest =>
    obtain ⟨w5, hw5⟩ : ∃ x, x = wc := ⟨_, rfl⟩
    subst hw5
    obtain ⟨ob, v1, p1, rfl, hox, hso, hob, hb5⟩ := hcut
    obtain ⟨a1, c1, rfl⟩ := row_any hso.items
    obtain ⟨b1, d1, rfl⟩ := row_any hso.pins
    have hBW := HA.out.trans (hb5.mono HA.out.size)
    have HX5 := hid (HH.out.box.below hBW)
    have HP5 := hid (HH.out.below hBW)
    have HZ5 := hid (HN.out.below hb5)
    have HB5 := hid hBW
    have HO5 := hid hox
    have HSO5 := hid hso
    have hol := hox.lt
    have hs5 := hb5.size
    have HPL := hid fun i (hi : i < qs.length) => (HH.out.pblk i hi).lt
    clear hS0 hbd hox hso hb5 hBW
    go_wp2
    go_loopw [4] (fun iv wr => ∃ (k : Nat) (q : PV) (v : Value), iv = .int .i64 ((k : Int) + 1) ∧ k ≤ qs.length ∧ q.map Prod.fst = (qs.map Prod.fst).take k ∧ Blk wr ob 37 (fcells nm now full wd room (.slice a1 its.length c1) (.slice b1 ts.length d1) v) ∧ PeersOwn wr w5.heap.size v q ∧ But (fun b => b = ob) w5 wr) (fun iv _ => qs.length + 1 - (intOf iv).toNat)
    case atStart => exact ⟨0, [], _, rfl, Nat.zero_le _, rfl, HO5.out, PeersOwn.none _ _, But.refl _ _⟩
    case round =>
      obtain ⟨k, q, v, rfl, hk, hqs, hox, hpo, hbt⟩ := hrel
      obtain ⟨av, cv, rfl⟩ := row_any hpo.row
      have hqa : q.length ≤ k := by have := congrArg List.length hqs; simp at this; omega
      have hqb : k ≤ q.length := by have := congrArg List.length hqs; simp at this; omega
      have hsr := hbt.size
      have hnhb : ¬ hb = ob := by omega
      have hnpm : ¬ pm = ob := by omega
      have BW : Below w.heap.size w wr := HB5.out.trans (hbt.below (by have := HB5.out.size; omega) (fun b e => by have e' : b = ob := e; omega))
      have X := hbt.blk HX5.out hnhb
      have hlen : (Builtin.len_ #[94] 3 #[.map (some pm)]).run Tryz.prog wr = .ok (.int .i64 (qs.length : Int)) wr := len_mapP (HH.out.below BW).pmap 3
      have HOX := hid hox
      have HPO := hid hpo
      have HBT := hid hbt
      have HBW := hid BW
      have hwr := BW.size
      have n4 : wr.cell? ⟨hb, 4, none⟩ = some (.map (some pm)) := X.cell 4
      clear hpo hbt hox BW X
      by_cases hlt : k < qs.length
      · obtain ⟨pb, hpb⟩ : ∃ x, pbs.getD k 0 = x := ⟨_, rfl⟩
        obtain ⟨vn, hvn⟩ : ∃ x, qv qs k = x := ⟨_, rfl⟩
        obtain ⟨p, hp⟩ : ∃ x, qp qs k = x := ⟨_, rfl⟩
        have hpl : pb < w.heap.size := by rw [← hpb]; exact HPL.out k hlt
        have hnpb : ¬ pb = ob := by omega
        have HPB : Hid (Blk w5 pb 81 (pcells p vn)) := hid (by rw [← hpb, ← hvn, ← hp]; exact HP5.out.pblk k hlt)
        have HNR : Hid (Reads w vn p.nots) := hid (by rw [← hvn, ← hp]; exact HH.out.nots k hlt)
        have hfit : PrFits 1048576 p := by rw [← hp]; exact HPF.out k hlt
        have HLK : Hid (∀ W, But (fun b => b = ob) w5 W → (Instr.lookup 94 (.map (some pm)) (.int .i64 ((k : Int) + 1)) false).run Tryz.prog W = .ok (.pointer (some ⟨pb, 0, none⟩)) W) := hid fun W h => by
          have hb' : Below w.heap.size w W := HB5.out.trans (h.below (by have := HB5.out.size; omega) (fun b e => by have e' : b = ob := e; omega))
          have hl := look_peer (HH.out.below hb').pmap (k + 1) (by omega) (by omega) hlq
          rw [Nat.add_sub_cancel, hpb, show ((k + 1 : Nat) : Int) = (k : Int) + 1 by omega] at hl
          exact hl
        have HQS : Hid (∀ u, (q ++ [(p, u)]).map Prod.fst = (qs.map Prod.fst).take (k + 1)) := hid fun u => by
          rw [List.map_append, hqs, List.take_succ_eq_append_getElem (by simpa using hlt), ← hp]
          simp [qp, hlt]
        clear hvn hp hqs hpb
        obtain ⟨pl, pw, pt, pa, pn⟩ := p
        obtain ⟨an, cn, rfl, _⟩ := HNR.out.form
        dsimp only at HNR HPB
        have hfa := hfit.asked
        have hfn := hfit.nots
        dsimp only at hfa hfn
        have HCP := hid fun W (h : Reads W (.slice an pn.length cn) pn) => clonePeer_any pl pw pt pa (.slice an pn.length cn) pn W h hfa hfn hfit.each
        have hki : (k : Int) + 1 ≤ ((qs.length : Nat) : Int) := by omega
        have HFS : Hid (∀ W, But (fun b => b = ob) w5 W → Blk W ob 37 (fcells nm now full wd room (.slice a1 its.length c1) (.slice b1 ts.length d1) (.slice av q.length cv)) → W.cell? ⟨ob, 7, none⟩ = some (.slice av q.length cv) ∧ W.cell? ⟨hb, 4, none⟩ = some (.map (some pm)) ∧ (Instr.lookup 94 (.map (some pm)) (.int .i64 ((k : Int) + 1)) false).run Tryz.prog W = .ok (.pointer (some ⟨pb, 0, none⟩)) W ∧ W.cell? ⟨pb, 0, none⟩ = some (.int .i64 pl) ∧ W.cell? ⟨pb, 1, none⟩ = some (.int .i64 pw) ∧ W.cell? ⟨pb, 2, none⟩ = some (.int .i64 pt) ∧ W.cell? ⟨pb, 3, none⟩ = some (.string pa) ∧ W.cell? ⟨pb, 4, none⟩ = some (.slice an pn.length cn)) := hid fun W h hx => by
          have Y := h.blk HX5.out hnhb
          have Q := h.blk HPB.out hnpb
          exact ⟨hx.cell 7, Y.cell 4, HLK.out W h, Q.cell 0, Q.cell 1, Q.cell 2, Q.cell 3, Q.cell 4⟩
        have hbd : Below wr.heap.size wr wr.drew := below_drewN (Below.refl _ _) 1
        have T0 : But (fun b => b = ob) w5 wr.drew := HBT.out.trans (But.of_below hbd) (fun _ _ h => h)
        have hS0 := HFS.out wr.drew T0 (HOX.out.below hbd)
        have HRD : Hid (Reads wr.drew (.slice an pn.length cn) pn) := hid (HNR.out.below (HBW.out.trans (hbd.mono HBW.out.size)))
        clear n4 hlen hfit
        have hlen : (Builtin.len_ #[94] 3 #[.map (some pm)]).run Tryz.prog wr = .ok (.int .i64 (qs.length : Int)) wr := len_mapP (HH.out.below HBW.out).pmap 3
        have n4 : wr.cell? ⟨hb, 4, none⟩ = some (.map (some pm)) := (HBT.out.blk HX5.out hnhb).cell 4
        go_wp2_with fail
        refine wp_region_last 14 (S := fun w' => w'.cell? ⟨ob, 7, none⟩ = some (.slice av q.length cv) ∧ w'.cell? ⟨hb, 4, none⟩ = some (.map (some pm)) ∧ (Instr.lookup 94 (.map (some pm)) (.int .i64 ((k : Int) + 1)) false).run Tryz.prog w' = .ok (.pointer (some ⟨pb, 0, none⟩)) w' ∧ w'.cell? ⟨pb, 0, none⟩ = some (.int .i64 pl) ∧ w'.cell? ⟨pb, 1, none⟩ = some (.int .i64 pw) ∧ w'.cell? ⟨pb, 2, none⟩ = some (.int .i64 pt) ∧ w'.cell? ⟨pb, 3, none⟩ = some (.string pa) ∧ w'.cell? ⟨pb, 4, none⟩ = some (.slice an pn.length cn)) (by kernel_rfl) ?_
        change wpAnyC _ _ _ _ _ _ _ _ _ (World.drew _)
        refine lastH_take (i := 0) (v := .pointer (some ⟨ob, 7, none⟩)) 20 rfl (by kernel_rfl) (by kernel_rfl) (by kernel_rfl) (by kernel_rfl) (fun _ _ _ h => h) (.inl ⟨rfl, fun w' hS => by obtain ⟨s1, s2, s3, s4, s5, s6, s7, s8⟩ := hS; go_simp⟩) hS0 ?_
        refine lastH_take (i := 1) (v := .slice av q.length cv) 20 rfl (by kernel_rfl) (by kernel_rfl) (by kernel_rfl) (by kernel_rfl) (fun _ _ _ h => h) (.inl ⟨rfl, fun w' hS => by obtain ⟨s1, s2, s3, s4, s5, s6, s7, s8⟩ := hS; go_simp⟩) hS0 ?_
        refine lastH_take (i := 2) (v := .pointer (some ⟨hb, 0, none⟩)) 20 rfl (by kernel_rfl) (by kernel_rfl) (by kernel_rfl) (by kernel_rfl) (fun _ _ _ h => h) (.inl ⟨rfl, fun w' hS => by obtain ⟨s1, s2, s3, s4, s5, s6, s7, s8⟩ := hS; go_simp⟩) hS0 ?_
        refine lastH_take (i := 3) (v := .pointer (some ⟨hb, 0, none⟩)) 20 rfl (by kernel_rfl) (by kernel_rfl) (by kernel_rfl) (by kernel_rfl) (fun _ _ _ h => h) (.inl ⟨rfl, fun w' hS => by obtain ⟨s1, s2, s3, s4, s5, s6, s7, s8⟩ := hS; go_simp⟩) hS0 ?_
        refine lastH_take (i := 4) (v := .pointer (some ⟨hb, 4, none⟩)) 20 rfl (by kernel_rfl) (by kernel_rfl) (by kernel_rfl) (by kernel_rfl) (fun _ _ _ h => h) (.inl ⟨rfl, fun w' hS => by obtain ⟨s1, s2, s3, s4, s5, s6, s7, s8⟩ := hS; go_simp⟩) hS0 ?_
        refine lastH_take (i := 5) (v := .map (some pm)) 20 rfl (by kernel_rfl) (by kernel_rfl) (by kernel_rfl) (by kernel_rfl) (fun _ _ _ h => h) (.inl ⟨rfl, fun w' hS => by obtain ⟨s1, s2, s3, s4, s5, s6, s7, s8⟩ := hS; go_simp⟩) hS0 ?_
        refine lastH_take (i := 6) (v := .int .i64 ((k : Int) + 1)) 20 rfl (by kernel_rfl) (by kernel_rfl) (by kernel_rfl) (by kernel_rfl) (fun _ _ _ h => h) (.inl ⟨rfl, fun w' hS => by obtain ⟨s1, s2, s3, s4, s5, s6, s7, s8⟩ := hS; go_simp⟩) hS0 ?_
        refine lastH_take (i := 7) (v := .pointer (some ⟨pb, 0, none⟩)) 20 rfl (by kernel_rfl) (by kernel_rfl) (by kernel_rfl) (by kernel_rfl) (fun _ _ _ h => h) (.inl ⟨rfl, fun w' hS => by obtain ⟨s1, s2, s3, s4, s5, s6, s7, s8⟩ := hS; go_simp⟩) hS0 ?_
        refine lastH_take (i := 8) (v := .pointer (some ⟨pb, 0, none⟩)) 20 rfl (by kernel_rfl) (by kernel_rfl) (by kernel_rfl) (by kernel_rfl) (fun _ _ _ h => h) (.inl ⟨rfl, fun w' hS => by obtain ⟨s1, s2, s3, s4, s5, s6, s7, s8⟩ := hS; go_simp⟩) hS0 ?_
        refine lastH_take (i := 9) (v := .agg #[.int .i64 pl, .int .i64 pw, .int .i64 pt, .string pa, .slice an pn.length cn]) 20 rfl (by kernel_rfl) (by kernel_rfl) (by kernel_rfl) (by kernel_rfl) (fun _ _ _ h => h) (.inl ⟨rfl, fun w' hS => by obtain ⟨s1, s2, s3, s4, s5, s6, s7, s8⟩ := hS; go_simp⟩) hS0 ?_
        refine last_one 10 (by kernel_rfl) (op_calls (f := 77) (args := #[.agg #[.int .i64 pl, .int .i64 pw, .int .i64 pt, .string pa, .slice an pn.length cn]]) rfl rfl (by go_simp) (HCP.out _ HRD.out) ?_)
        rintro e w7 ⟨u, rfl, hu7, hb7⟩
        obtain ⟨au, cu, rfl⟩ := row_any hu7
        have B7 : Below wr.heap.size wr w7 := ⟨hb7.os, hb7.tape, hb7.output, hb7.size, hb7.block⟩
        have hz7 := B7.size
        have U7 : w7.ownsRow (wr.heap.size + 2) 9 1 (.slice au pn.length cu) pn.length (pn.map Value.string) := hu7
        have T7 : But (fun b => b = ob) w5 w7 := HBT.out.trans (But.of_below B7) (fun _ _ h => h)
        have O7 := HOX.out.below B7
        have hS7 := HFS.out w7 T7 O7
        refine ⟨_, rfl, fun _ => hS7, ?_⟩
        have D7 : Below w7.heap.size w7 (w7.alloc (.cells #[.int .i64 pl, .int .i64 pw, .int .i64 pt, .string pa, .slice au pn.length cu] 81)) := (Below.refl _ _).alloc (Nat.le_refl _) _
        have T8 : But (fun b => b = ob) w5 (w7.alloc (.cells #[.int .i64 pl, .int .i64 pw, .int .i64 pt, .string pa, .slice au pn.length cu] 81)) := T7.trans (But.of_below D7) (fun _ _ h => h)
        have O8 := O7.alloc (.cells #[.int .i64 pl, .int .i64 pw, .int .i64 pt, .string pa, .slice au pn.length cu] 81)
        have hS8 := HFS.out _ T8 O8
        refine last_one 11 (by kernel_rfl) (op_value (v := .slice (some ⟨w7.heap.size, 0, none⟩) 1 1) (w' := w7.alloc (.cells #[.int .i64 pl, .int .i64 pw, .int .i64 pt, .string pa, .slice au pn.length cu] 81)) rfl rfl (by go_simp) ⟨fun _ => hS8, ?_⟩)
        have PO7 := HPO.out.below B7
        have PO8 := PO7.below D7
        have hrow8 := PO8.row
        refine last_one 12 (by kernel_rfl) (op_wp rfl rfl (wp_append_own _ (.tmp 34) (.tmp 44) 35 rfl w5.heap.size 81 i0 (.agg #[.int .i64 0, .int .i64 0, .int .i64 0, .string ⟨#[]⟩, .slice none 0 0]) 5 64 Tryz.underlying35 hi0 hz0 hz1 hz2 rfl (by decide) (.slice av q.length cv) q.length _ (by go_simp) hrow8 ⟨w7.heap.size, 0, none⟩ 1 1 [.int .i64 pl, .int .i64 pw, .int .i64 pt, .string pa, .slice au pn.length cu] (by go_simp) rfl (five_new _ _ _ _ _ _ _) (by simp [Value.oneCell']) (by unfold maxLen; omega) (by omega) (by rw [World.size_alloc]; omega) ?_))
        intro v6 w6 hown6 hgrow6 _
        obtain ⟨a6, c6, rfl⟩ := row_any hown6
        have T9 := T8.grownR hgrow6 (fun r e => (hrow8.lt r e).1)
        have hb6 := O8.kept hgrow6 (fun e => by have := (hrow8.lt ob e.symm).1; omega)
        have hS9 := HFS.out w6 T9 hb6
        refine ⟨fun _ => hS9, ?_⟩
        refine lastH_take (i := 13) (v := .pointer (some ⟨ob, 7, none⟩)) 20 rfl (by kernel_rfl) (by kernel_rfl) (by kernel_rfl) (by kernel_rfl) (fun _ _ _ h => h) (.inl ⟨rfl, fun w' hS => by obtain ⟨s1, s2, s3, s4, s5, s6, s7, s8⟩ := hS; go_simp⟩) hS9 ?_
        have PO6 := PeersOwn.snoc (p := ⟨pl, pw, pt, pa, pn⟩) PO8 hgrow6 hown6 (ownsRow_base2 (U7.alloc (.cells #[.int .i64 pl, .int .i64 pw, .int .i64 pt, .string pa, .slice au pn.length cu] 81)) (by omega)) (fun i hi g e e2 => by have h1 := ((HPO.out.nots i hi).lt g e).2; have h2 := (U7.lt g e2).1; omega)
        have HPO6 := hid (PO6.kept (grownBy_setCellAt w6 ob 7 (.slice a6 (q.length + 1) c6)) (by omega))
        have HT6 := hid (T9.trans (But.of_grown (P := fun b => b = ob) (grownBy_setCellAt w6 ob 7 (.slice a6 (q.length + 1) c6)) rfl) (fun _ _ h => h))
        have HB6 := hid (hb6.set 7 (.slice a6 (q.length + 1) c6))
        have l6 : w6.cell? ⟨ob, 7, none⟩ = some (.slice av q.length cv) := hb6.cell 7
        have f6 := hb6.fz 7
        refine last_one 14 (by kernel_rfl) (op_skip (w' := w6.setCell ⟨ob, 7, none⟩ (.slice a6 (q.length + 1) c6)) rfl rfl (by go_simp) ⟨fun h => absurd rfl h, last_done (by kernel_rfl) ?_ _⟩)
        clear hS0 hS7 hS8 hS9 PO6 PO7 PO8 hrow8 T0 T7 T8 T9 O7 O8 hb6 l6 f6 hown6 hgrow6 hb7 B7 D7 hu7 U7 hbd hlen n4
        go_simp
        go_wp2
        exact ⟨⟨k + 1, q ++ [(⟨pl, pw, pt, pa, pn⟩, .slice au pn.length cu)], _, by go_num, by omega, HQS.out _, HB6.out, HPO6.out, HT6.out⟩, by simp [intOf]; omega⟩
      · have hki : ¬ (k : Int) + 1 ≤ ((qs.length : Nat) : Int) := by omega
        have hqe : q.map Prod.fst = qs.map Prod.fst := by rw [hqs, show k = (qs.map Prod.fst).length by simp; omega, List.take_length]
        have HQE := hid hqe
        have c0' : wr.cell? ⟨ob, 0, none⟩ = some (.string nm) := HOX.out.cell 0
        have c1' : wr.cell? ⟨ob, 1, none⟩ = some (.int .i64 now) := HOX.out.cell 1
        have c2' : wr.cell? ⟨ob, 2, none⟩ = some (.bool full) := HOX.out.cell 2
        have c3' : wr.cell? ⟨ob, 3, none⟩ = some (.int .i64 wd) := HOX.out.cell 3
        have c4' : wr.cell? ⟨ob, 4, none⟩ = some (.int .i64 room) := HOX.out.cell 4
        have c5' : wr.cell? ⟨ob, 5, none⟩ = some (.slice a1 its.length c1) := HOX.out.cell 5
        have c6' : wr.cell? ⟨ob, 6, none⟩ = some (.slice b1 ts.length d1) := HOX.out.cell 6
        have c7' : wr.cell? ⟨ob, 7, none⟩ = some (.slice av q.length cv) := HOX.out.cell 7
        have NR := HBT.out.blk HZ5.out (fun e => by have e' : w.heap.size = ob := e; omega)
        have s := NR.store8 (.string nm) (.int .i64 now) (.bool full) (.int .i64 wd) (.int .i64 room) (.slice a1 its.length c1) (.slice b1 ts.length d1) (.slice av q.length cv)
        obtain ⟨q0, k0, q1, k1, q2, k2, q3, k3, q4, k4, q5, k5, q6, k6, q7, k7⟩ := s
        have HZ := hid (NR.set8 (.string nm) (.int .i64 now) (.bool full) (.int .i64 wd) (.int .i64 room) (.slice a1 its.length c1) (.slice b1 ts.length d1) (.slice av q.length cv))
        have GG := grown_set8 wr w.heap.size (.string nm) (.int .i64 now) (.bool full) (.int .i64 wd) (.int .i64 room) (.slice a1 its.length c1) (.slice b1 ts.length d1) (.slice av q.length cv)
        have BB := hid (below_set8 HBW.out (b := w.heap.size) (Nat.le_refl _) (Nat.le_refl _) (.string nm) (.int .i64 now) (.bool full) (.int .i64 wd) (.int .i64 room) (.slice a1 its.length c1) (.slice b1 ts.length d1) (.slice av q.length cv))
        have SR : StoreOwn wr w1.heap.size (.slice a1 its.length c1) (.slice b1 ts.length d1) its ts := ⟨HBT.out.row HSO5.out.items (fun g e h => row_off_blk HSO5.out.items HO5.out (by decide) (e.trans (congrArg some h))), HBT.out.row HSO5.out.pins (fun g e h => row_off_blk HSO5.out.pins HO5.out (by decide) (e.trans (congrArg some h))), HSO5.out.apart⟩
        have FO := hid (show FetchOwn (set8 wr w.heap.size (.string nm) (.int .i64 now) (.bool full) (.int .i64 wd) (.int .i64 room) (.slice a1 its.length c1) (.slice b1 ts.length d1) (.slice av q.length cv)) (w.heap.size + 1) (.slice a1 its.length c1) (.slice b1 ts.length d1) (.slice av q.length cv) its ts q from
          ⟨(SR.kept GG (by omega)).base (by omega), (HPO.out.kept GG (by omega)).base (by omega), fun g e h => by have h1 := (HSO5.out.items.lt g e).2; have h2 := (HPO.out.lt g h).1; omega, fun g e h => by have h1 := (HSO5.out.pins.lt g e).2; have h2 := (HPO.out.lt g h).1; omega⟩)
        clear NR GG SR hqs hqe
        go_wp2
        rw [set8_def]
        refine bodyPost_ret (v := fval nm now full wd room (.slice a1 its.length c1) (.slice b1 ts.length d1) (.slice av q.length cv)) (by simp [results, Tryz.results57, go_sem, HZ.out.cell]) rfl (by first | exact ⟨_, _, _, q, rfl, HQE.out, FO.out, BB.out⟩ | exact ⟨_, _, _, rfl, q, HQE.out, FO.out, BB.out⟩)
end Go.Proofs.YtlnkhbnbcmllaaaGreat
