import Derived.Test.YtkghbegdjeehaaaGreatDoorShort
import Derived.Test.YtkghbegdjeehaaaGreatDoorMapPeers
import Derived.Test.YtkghbegdjeehaaaGreatDoorCopySpec
import Derived.Test.YtkghbegdjeehaaaGreatDoorUnpinSpec
import Derived.Test.YtkghbegdjeehaaaGreatDoorPutImpl
import Derived.Test.YtkghbegdjeehaaaGreatDoorTickImpl
import Derived.Test.YtkghbegdjeehaaaGreatDoorOpenFetch
/- (*impl.hunt).fetch. -/
namespace Go.Proofs.YtkghbegdjeehaaaGreatDoor
open Go.RowKit
set_option maxRecDepth 100000 in
set_option maxHeartbeats 8000000 in
theorem huntFetch_any (hb pm sb mb : Nat) (vc : Value) (nm : ByteArray) (now : Int) (full : Bool) (wd room tot : Int) (its : Itms) (ts : List ByteArray) (qs : PV) (pbs : List Nat) (lv : Value) (lk : Bool) (w : World) (H : HuntRd w hb pm sb mb vc nm now full wd room tot its ts qs pbs lv lk) (hAA : AscI wd its) (hli : its.length ≤ 1048576) (hlp : ts.length ≤ 1048576) (hlq : qs.length ≤ 1000) (hsi : ∀ i, (itx its i).size ≤ 1048576) (hsp : ∀ i, (tv ts i).size ≤ 1048576) (hnm : nm.size ≤ 1048576) (hpf : ∀ i, i < qs.length → PrFits 1048576 (qp qs i)) :
  Calls Tryz.prog 25 #[.pointer (some ⟨hb, 0, none⟩)] w fun e w' => ∃ vi' vp' vq' qs', e = .returned (fval nm now full wd room vi' vp' vq') ∧ qs'.map Prod.fst = qs.map Prod.fst ∧ FetchOwn w' (w.heap.size + 1) vi' vp' vq' its ts qs' ∧ Below w.heap.size w w' := by
 obtain ⟨i0, hi0, hz0, hz1, hz2⟩ := info_parts Tryz.infoPeer
 have HH := hid H
 have hhb := H.box.lt
 have hpm : pm < w.heap.size := map_lt H.pmap
 have HPF := hid hpf
 have HCL := hid fun W => stringsClone_any nm W (by omega)
 have HST := hid fun (W : World) (h : Below w.heap.size w W) => shelfStore_any keysOK sb mb its.length vc wd room _ its ts (mapI wd its its.length) W (H.sbox.below h) (H.smap.kept (grown_of_below h) (by simp)) (mapI_tidy wd its its.length) hAA.lt (fun x => (mapI_all wd its x).symm) (fun j hj z => mapI_at wd its hAA.lt z its.length (Nat.le_refl _) j hj) (H.srow.below h) hli hlp hsp hsi
 have hA := (Below.refl w.heap.size w).alloc (Nat.le_refl _) (.cells fzero 35)
 have hN := Blk.new w 35 fzero
 obtain ⟨w1, hw1⟩ : ∃ x, x = w.alloc (.cells fzero 35) := ⟨_, rfl⟩
 have hz1' : w1.heap.size = w.heap.size + 1 := by rw [hw1, World.size_alloc]
 rw [← hw1] at hA hN
 have HA := hid hA
 have HN := hid hN
 have hs1a : w.heap.size + 1 ≤ w1.heap.size := by omega
 have hs1b : w1.heap.size ≤ w.heap.size + 1 := by omega
 have HSF := hid fun (W : World) (h : Below w1.heap.size w1 W) => (show W.cell? ⟨hb, 0, none⟩ = some (.string nm) ∧ W.cell? ⟨hb, 1, none⟩ = some (.int .i64 now) ∧ W.cell? ⟨hb, 2, none⟩ = some (.bool full) ∧ W.cell? ⟨hb, 3, none⟩ = some (.pointer (some ⟨sb, 0, none⟩)) from by
  have X := (HH.out.box.below HA.out).below h
  exact ⟨X.cell 0, X.cell 1, X.cell 2, X.cell 3⟩)
 have hbd : Below w1.heap.size w1 w1.drew := below_drewN (Below.refl _ _) 1
 have hS0 := HSF.out w1.drew hbd
 have hec1 := enters_of Tryz.func54 (by kernel_rfl) rfl
 have hec2 := enters_of Tryz.func55 (by kernel_rfl) rfl
 have hec3 := enters_of Tryz.func51 (by kernel_rfl) rfl
 clear H hA hN hz1' hpf hAA hsi hsp
 go_enter Tryz.func25, Tryz.ntmps25
 go_upto_region 1 with fail
 rw [← hw1]
 clear hw1
 go_cut [3] from 5 to 23 (fun s3 wx => ∃ ob v1 p1, s3 = .pointer (some ⟨ob, 0, none⟩) ∧ Blk wx ob 35 (fcells nm now full wd room v1 p1 (.slice none 0 0)) ∧ StoreOwn wx w1.heap.size v1 p1 its ts ∧ w1.heap.size ≤ ob ∧ Below w1.heap.size w1 wx)
 case first =>
  refine wp_region_held (S := fun w' => w'.cell? ⟨hb, 0, none⟩ = some (.string nm) ∧ w'.cell? ⟨hb, 1, none⟩ = some (.int .i64 now) ∧ w'.cell? ⟨hb, 2, none⟩ = some (.bool full) ∧ w'.cell? ⟨hb, 3, none⟩ = some (.pointer (some ⟨sb, 0, none⟩))) (by kernel_rfl) ?_
  change wpAnyH _ _ _ _ _ _ _ _ (World.drew _)
  refine tkA 0 (.pointer (some ⟨hb, 0, none⟩)) rfl hS0 ?_
  refine tkA 1 (.pointer (some ⟨hb, 0, none⟩)) rfl hS0 ?_
  refine tkA 2 (.pointer (some ⟨hb, 0, none⟩)) rfl hS0 ?_
  refine tkA 3 (.string nm) rfl hS0 ?_
  refine tkA 5 (.pointer (some ⟨hb, 0, none⟩)) rfl hS0 ?_
  refine tkA 6 (.pointer (some ⟨hb, 0, none⟩)) rfl hS0 ?_
  refine tkA 7 (.pointer (some ⟨hb, 1, none⟩)) rfl hS0 ?_
  refine tkA 8 (.int .i64 now) rfl hS0 ?_
  refine tkA 9 (.pointer (some ⟨hb, 0, none⟩)) rfl hS0 ?_
  refine tkA 10 (.pointer (some ⟨hb, 0, none⟩)) rfl hS0 ?_
  refine tkA 11 (.pointer (some ⟨hb, 2, none⟩)) rfl hS0 ?_
  refine tkA 12 (.bool full) rfl hS0 ?_
  refine tkA 13 (.pointer (some ⟨hb, 0, none⟩)) rfl hS0 ?_
  refine tkA 14 (.pointer (some ⟨hb, 0, none⟩)) rfl hS0 ?_
  refine tkA 15 (.pointer (some ⟨hb, 3, none⟩)) rfl hS0 ?_
  refine tkA 16 (.pointer (some ⟨sb, 0, none⟩)) rfl hS0 ?_
  refine held_two 4 19 (by kernel_rfl) ?A ?B
  case A =>
   refine op_calls (f := 54) (args := #[.string nm]) rfl rfl (by go_simp) (HCL.out _) ?_
   rintro e w2 ⟨rfl, hb2⟩
   have B2 : Below w1.heap.size w1 w2 := hbd.trans (hb2.mono hbd.size)
   have hS2 := HSF.out w2 B2
   have hz2' := B2.size
   clear hb2
   refine ⟨_, rfl, hS2, ?_⟩
   refine held_two 17 19 (by kernel_rfl) ?A1 ?A2
   case A1 =>
    refine op_calls (f := 55) (args := #[.pointer (some ⟨sb, 0, none⟩)]) rfl rfl (by go_simp) (HST.out _ (HA.out.trans (B2.mono HA.out.size))) ?_
    rintro e w3 ⟨v1, p1, rfl, oi3, op3, hap3, hb3⟩
    obtain ⟨a1, c1, rfl⟩ := row_any oi3
    obtain ⟨b1, d1, rfl⟩ := row_any op3
    have B3 : Below w1.heap.size w1 w3 := B2.trans (hb3.mono B2.size)
    have hz3 := B2.size
    have hz4 := hb3.size
    have hS3 := HSF.out w3 B3
    have SO3 : StoreOwn w3 w1.heap.size (.slice a1 its.length c1) (.slice b1 ts.length d1) its ts := ⟨ownsRow_base2 oi3 (by omega), ownsRow_base2 op3 (by omega), hap3⟩
    refine ⟨_, rfl, hS3, ?_⟩
    refine tkA 18 (.agg #[.string nm, .int .i64 now, .bool full, .int .i64 wd, .int .i64 room, .slice a1 its.length c1, .slice b1 ts.length d1, .slice none 0 0]) rfl hS3 ?_
    have BE := B3.alloc B3.size (.cells fzero 35)
    have hS4 := HSF.out _ BE
    have BF := B3.alloc B3.size (.cells (fcells nm now full wd room (.slice a1 its.length c1) (.slice b1 ts.length d1) (.slice none 0 0)) 35)
    have hS5 := HSF.out _ BF
    have HBF := hid BF
    have HSO := hid (show StoreOwn (w3.alloc (.cells (fcells nm now full wd room (.slice a1 its.length c1) (.slice b1 ts.length d1) (.slice none 0 0)) 35)) w1.heap.size (.slice a1 its.length c1) (.slice b1 ts.length d1) its ts from ⟨SO3.items.alloc _, SO3.pins.alloc _, SO3.apart⟩)
    refine held_one 19 (by kernel_rfl) (op_value (v := .pointer (some ⟨w3.heap.size, 0, none⟩)) (w' := w3.alloc (.cells fzero 35)) rfl rfl (by go_simp) ⟨hS4, ?_⟩)
    refine held_one 20 (by kernel_rfl) (op_skip (w' := w3.alloc (.cells (fcells nm now full wd room (.slice a1 its.length c1) (.slice b1 ts.length d1) (.slice none 0 0)) 35)) rfl rfl (by go_simp) ⟨hS5, wpAnyH_done (by kernel_rfl) ?_ _⟩)
    clear hS0 hS2 hS3 hS4 hS5 BE BF SO3 oi3 op3 hap3 hb3
    go_simp
    go_wp2_with fail
    go_meet
    exact ⟨w3.heap.size, _, _, rfl, Blk.new w3 35 _, HSO.out, B3.size, HBF.out⟩
   case A2 =>
    have hA4 := B2.alloc B2.size (.cells fzero 35)
    have hS4 := HSF.out _ hA4
    have N2 := Blk.new w2 35 fzero
    refine op_value (v := .pointer (some ⟨w2.heap.size, 0, none⟩)) (w' := w2.alloc (.cells fzero 35)) rfl rfl (by go_simp) ⟨hS4, ?_⟩
    refine held_one 17 (by kernel_rfl) (op_calls (f := 55) (args := #[.pointer (some ⟨sb, 0, none⟩)]) rfl rfl (by go_simp) (HST.out _ (HA.out.trans (hA4.mono HA.out.size))) ?_)
    rintro e w3 ⟨v1, p1, rfl, oi3, op3, hap3, hb3⟩
    obtain ⟨a1, c1, rfl⟩ := row_any oi3
    obtain ⟨b1, d1, rfl⟩ := row_any op3
    have B3 : Below w1.heap.size w1 w3 := hA4.trans (hb3.mono hA4.size)
    have hz3 := hA4.size
    have hz4 := hb3.size
    have hS3 := HSF.out w3 B3
    have SO3 : StoreOwn w3 w1.heap.size (.slice a1 its.length c1) (.slice b1 ts.length d1) its ts := ⟨ownsRow_base2 oi3 (by omega), ownsRow_base2 op3 (by omega), hap3⟩
    refine ⟨_, rfl, hS3, ?_⟩
    refine tkA 18 (.agg #[.string nm, .int .i64 now, .bool full, .int .i64 wd, .int .i64 room, .slice a1 its.length c1, .slice b1 ts.length d1, .slice none 0 0]) rfl hS3 ?_
    have N5 := N2.below hb3
    have s := N5.store8 (.string nm) (.int .i64 now) (.bool full) (.int .i64 wd) (.int .i64 room) (.slice a1 its.length c1) (.slice b1 ts.length d1) (.slice none 0 0)
    obtain ⟨q0, k0, q1, k1, q2, k2, q3, k3, q4, k4, q5, k5, q6, k6, q7, k7⟩ := s
    have HZ := hid (N5.set8 (.string nm) (.int .i64 now) (.bool full) (.int .i64 wd) (.int .i64 room) (.slice a1 its.length c1) (.slice b1 ts.length d1) (.slice none 0 0))
    have G8 := grown_set8 w3 w2.heap.size (.string nm) (.int .i64 now) (.bool full) (.int .i64 wd) (.int .i64 room) (.slice a1 its.length c1) (.slice b1 ts.length d1) (.slice none 0 0)
    have BF := below_set8 B3 (b := w2.heap.size) (by omega) (Nat.le_refl _) (.string nm) (.int .i64 now) (.bool full) (.int .i64 wd) (.int .i64 room) (.slice a1 its.length c1) (.slice b1 ts.length d1) (.slice none 0 0)
    have hS5 := HSF.out _ BF
    have HBF := hid BF
    have HSO := hid (show StoreOwn (set8 w3 w2.heap.size (.string nm) (.int .i64 now) (.bool full) (.int .i64 wd) (.int .i64 room) (.slice a1 its.length c1) (.slice b1 ts.length d1) (.slice none 0 0)) w1.heap.size (.slice a1 its.length c1) (.slice b1 ts.length d1) its ts from ⟨SO3.items.kept G8 (.inr fun e => by have := row_off_blk oi3 N5 (by decide) e; exact this), SO3.pins.kept G8 (.inr fun e => by have := row_off_blk op3 N5 (by decide) e; exact this), SO3.apart⟩)
    refine held_one 20 (by kernel_rfl) (op_skip (w' := set8 w3 w2.heap.size (.string nm) (.int .i64 now) (.bool full) (.int .i64 wd) (.int .i64 room) (.slice a1 its.length c1) (.slice b1 ts.length d1) (.slice none 0 0)) rfl rfl (by unfold set8; go_simp) ⟨hS5, wpAnyH_done (by kernel_rfl) ?_ _⟩)
    clear hS0 hS2 hS3 hS5 BF SO3 oi3 op3 hap3 hb3 N5 G8 q0 q1 q2 q3 q4 q5 q6 q7 k0 k1 k2 k3 k4 k5 k6 k7 N2 hS4
    go_simp
    go_wp2_with fail
    go_meet
    exact ⟨w2.heap.size, _, _, rfl, HZ.out, HSO.out, by omega, HBF.out⟩
  case B =>
   have hA4 : Below w1.heap.size w1 (w1.alloc (.cells fzero 35)).drew := below_drewN ((Below.refl w1.heap.size w1).alloc (Nat.le_refl _) (.cells fzero 35)) 1
   have hS4 := HSF.out _ hA4
   have N2 := Blk.new w1 35 fzero
   refine op_value (v := .pointer (some ⟨w1.heap.size, 0, none⟩)) (w' := (w1.alloc (.cells fzero 35)).drew) rfl rfl (by go_simp) ⟨hS4, ?_⟩
   refine held_one 4 (by kernel_rfl) (op_calls (f := 54) (args := #[.string nm]) rfl rfl (by go_simp) (HCL.out _) ?_)
   rintro e w2 ⟨rfl, hb2⟩
   have B2 : Below w1.heap.size w1 w2 := hA4.trans (hb2.mono hA4.size)
   have hS2 := HSF.out w2 B2
   have N3 : Blk w2 w1.heap.size 35 fzero := (hb2.block _ N2.lt).trans N2
   clear hb2
   refine ⟨_, rfl, hS2, ?_⟩
   refine held_one 17 (by kernel_rfl) (op_calls (f := 55) (args := #[.pointer (some ⟨sb, 0, none⟩)]) rfl rfl (by go_simp) (HST.out _ (HA.out.trans (B2.mono HA.out.size))) ?_)
   rintro e w3 ⟨v1, p1, rfl, oi3, op3, hap3, hb3⟩
   obtain ⟨a1, c1, rfl⟩ := row_any oi3
   obtain ⟨b1, d1, rfl⟩ := row_any op3
   have B3 : Below w1.heap.size w1 w3 := B2.trans (hb3.mono B2.size)
   have hz3 := B2.size
   have hz4 := hb3.size
   have hS3 := HSF.out w3 B3
   have SO3 : StoreOwn w3 w1.heap.size (.slice a1 its.length c1) (.slice b1 ts.length d1) its ts := ⟨ownsRow_base2 oi3 (by omega), ownsRow_base2 op3 (by omega), hap3⟩
   refine ⟨_, rfl, hS3, ?_⟩
   refine tkA 18 (.agg #[.string nm, .int .i64 now, .bool full, .int .i64 wd, .int .i64 room, .slice a1 its.length c1, .slice b1 ts.length d1, .slice none 0 0]) rfl hS3 ?_
   have N5 := N3.below hb3
   have s := N5.store8 (.string nm) (.int .i64 now) (.bool full) (.int .i64 wd) (.int .i64 room) (.slice a1 its.length c1) (.slice b1 ts.length d1) (.slice none 0 0)
   obtain ⟨q0, k0, q1, k1, q2, k2, q3, k3, q4, k4, q5, k5, q6, k6, q7, k7⟩ := s
   have HZ := hid (N5.set8 (.string nm) (.int .i64 now) (.bool full) (.int .i64 wd) (.int .i64 room) (.slice a1 its.length c1) (.slice b1 ts.length d1) (.slice none 0 0))
   have G8 := grown_set8 w3 w1.heap.size (.string nm) (.int .i64 now) (.bool full) (.int .i64 wd) (.int .i64 room) (.slice a1 its.length c1) (.slice b1 ts.length d1) (.slice none 0 0)
   have BF := below_set8 B3 (b := w1.heap.size) (by omega) (Nat.le_refl _) (.string nm) (.int .i64 now) (.bool full) (.int .i64 wd) (.int .i64 room) (.slice a1 its.length c1) (.slice b1 ts.length d1) (.slice none 0 0)
   have hS5 := HSF.out _ BF
   have HBF := hid BF
   have HSO := hid (show StoreOwn (set8 w3 w1.heap.size (.string nm) (.int .i64 now) (.bool full) (.int .i64 wd) (.int .i64 room) (.slice a1 its.length c1) (.slice b1 ts.length d1) (.slice none 0 0)) w1.heap.size (.slice a1 its.length c1) (.slice b1 ts.length d1) its ts from ⟨SO3.items.kept G8 (.inr fun e => by have := row_off_blk oi3 N5 (by decide) e; exact this), SO3.pins.kept G8 (.inr fun e => by have := row_off_blk op3 N5 (by decide) e; exact this), SO3.apart⟩)
   refine held_one 20 (by kernel_rfl) (op_skip (w' := set8 w3 w1.heap.size (.string nm) (.int .i64 now) (.bool full) (.int .i64 wd) (.int .i64 room) (.slice a1 its.length c1) (.slice b1 ts.length d1) (.slice none 0 0)) rfl rfl (by unfold set8; go_simp) ⟨hS5, wpAnyH_done (by kernel_rfl) ?_ _⟩)
   clear hS0 hS2 hS3 hS5 BF SO3 oi3 op3 hap3 hb3 N5 G8 q0 q1 q2 q3 q4 q5 q6 q7 k0 k1 k2 k3 k4 k5 k6 k7 N2 N3 hS4
   go_simp
   go_wp2_with fail
   go_meet
   exact ⟨w1.heap.size, _, _, rfl, HZ.out, HSO.out, by omega, HBF.out⟩
 case rest =>
  obtain ⟨w5, hw5⟩ : ∃ x, x = wc := ⟨_, rfl⟩
  subst hw5
  obtain ⟨ob, v1, p1, rfl, hox, hso, hob, hb5⟩ := hcut
  obtain ⟨a1, c1, rfl⟩ := row_any hso.items
  obtain ⟨b1, d1, rfl⟩ := row_any hso.pins
  have hBW := HA.out.trans (hb5.mono HA.out.size)
  have HX5 := hid (HH.out.box.below hBW)
  have HP5 := hid (HH.out.below hBW)
  have HZ5 := hid (HN.out.below hb5)
  have HB5 := hid hBW
  have HO5 := hid hox
  have HSO5 := hid hso
  have hol := hox.lt
  have hs5 := hb5.size
  have HPL := hid fun i (hi : i < qs.length) => (HH.out.pblk i hi).lt
  clear hS0 hbd hox hso hb5 hBW
  go_wp2
  go_loopw [4] (fun iv wr => ∃ (k : Nat) (q : PV) (v : Value), iv = .int .i64 ((k : Int) + 1) ∧ k ≤ qs.length ∧ q.map Prod.fst = (qs.map Prod.fst).take k ∧ Blk wr ob 35 (fcells nm now full wd room (.slice a1 its.length c1) (.slice b1 ts.length d1) v) ∧ PeersOwn wr w5.heap.size v q ∧ But (fun b => b = ob) w5 wr) (fun iv _ => qs.length + 1 - (intOf iv).toNat)
  case atStart => exact ⟨0, [], _, rfl, Nat.zero_le _, rfl, HO5.out, PeersOwn.none _ _, But.refl _ _⟩
  case round =>
   obtain ⟨k, q, v, rfl, hk, hqs, hox, hpo, hbt⟩ := hrel
   obtain ⟨av, cv, rfl⟩ := row_any hpo.row
   have hqa : q.length ≤ k := by have := congrArg List.length hqs; simp at this; omega
   have hqb : k ≤ q.length := by have := congrArg List.length hqs; simp at this; omega
   have hsr := hbt.size
   have hnhb : ¬ hb = ob := by omega
   have hnpm : ¬ pm = ob := by omega
   have BW : Below w.heap.size w wr := HB5.out.trans (hbt.below (by have := HB5.out.size; omega) (fun b e => by have e' : b = ob := e; omega))
   have X := hbt.blk HX5.out hnhb
   have hlen : (Builtin.len_ #[93] 3 #[.map (some pm)]).run Tryz.prog wr = .ok (.int .i64 (qs.length : Int)) wr := len_mapP (HH.out.below BW).pmap 3
   have HOX := hid hox
   have HPO := hid hpo
   have HBT := hid hbt
   have HBW := hid BW
   have hwr := BW.size
   have n4 : wr.cell? ⟨hb, 4, none⟩ = some (.map (some pm)) := X.cell 4
   clear hpo hbt hox BW X
   by_cases hlt : k < qs.length
   ·obtain ⟨pb, hpb⟩ : ∃ x, pbs.getD k 0 = x := ⟨_, rfl⟩
    obtain ⟨vn, hvn⟩ : ∃ x, qv qs k = x := ⟨_, rfl⟩
    obtain ⟨p, hp⟩ : ∃ x, qp qs k = x := ⟨_, rfl⟩
    have hpl : pb < w.heap.size := by rw [← hpb]; exact HPL.out k hlt
    have hnpb : ¬ pb = ob := by omega
    have HPB : Hid (Blk w5 pb 50 (pcells p vn)) := hid (by rw [← hpb, ← hvn, ← hp]; exact HP5.out.pblk k hlt)
    have HNR : Hid (Reads w vn p.nots) := hid (by rw [← hvn, ← hp]; exact HH.out.nots k hlt)
    have hfit : PrFits 1048576 p := by rw [← hp]; exact HPF.out k hlt
    have HLK : Hid (∀ W, But (fun b => b = ob) w5 W → (Instr.lookup 93 (.map (some pm)) (.int .i64 ((k : Int) + 1)) false).run Tryz.prog W = .ok (.pointer (some ⟨pb, 0, none⟩)) W) := hid fun W h => by
     have hb' : Below w.heap.size w W := HB5.out.trans (h.below (by have := HB5.out.size; omega) (fun b e => by have e' : b = ob := e; omega))
     have hl := look_peer (HH.out.below hb').pmap (k + 1) (by omega) (by omega) hlq
     rw [Nat.add_sub_cancel, hpb, show ((k + 1 : Nat) : Int) = (k : Int) + 1 by omega] at hl
     exact hl
    have HQS : Hid (∀ u, (q ++ [(p, u)]).map Prod.fst = (qs.map Prod.fst).take (k + 1)) := hid fun u => by
     rw [List.map_append, hqs, List.take_succ_eq_append_getElem (by simpa using hlt), ← hp]
     simp [qp, hlt]
    clear hvn hp hqs hpb
    obtain ⟨pl, pw, pt, pa, pn⟩ := p
    obtain ⟨an, cn, rfl, _⟩ := HNR.out.form
    dsimp only at HNR HPB
    have hfa := hfit.asked
    have hfn := hfit.nots
    dsimp only at hfa hfn
    have HCP := hid fun W (h : Reads W (.slice an pn.length cn) pn) => clonePeer_any pl pw pt pa (.slice an pn.length cn) pn W h hfa hfn hfit.each
    have hki : (k : Int) + 1 ≤ ((qs.length : Nat) : Int) := by omega
    have HFS : Hid (∀ W, But (fun b => b = ob) w5 W → Blk W ob 35 (fcells nm now full wd room (.slice a1 its.length c1) (.slice b1 ts.length d1) (.slice av q.length cv)) → W.cell? ⟨ob, 7, none⟩ = some (.slice av q.length cv) ∧ W.cell? ⟨hb, 4, none⟩ = some (.map (some pm)) ∧ (Instr.lookup 93 (.map (some pm)) (.int .i64 ((k : Int) + 1)) false).run Tryz.prog W = .ok (.pointer (some ⟨pb, 0, none⟩)) W ∧ W.cell? ⟨pb, 0, none⟩ = some (.int .i64 pl) ∧ W.cell? ⟨pb, 1, none⟩ = some (.int .i64 pw) ∧ W.cell? ⟨pb, 2, none⟩ = some (.int .i64 pt) ∧ W.cell? ⟨pb, 3, none⟩ = some (.string pa) ∧ W.cell? ⟨pb, 4, none⟩ = some (.slice an pn.length cn)) := hid fun W h hx => by
     have Y := h.blk HX5.out hnhb
     have Q := h.blk HPB.out hnpb
     exact ⟨hx.cell 7, Y.cell 4, HLK.out W h, Q.cell 0, Q.cell 1, Q.cell 2, Q.cell 3, Q.cell 4⟩
    have hbd : Below wr.heap.size wr wr.drew := below_drewN (Below.refl _ _) 1
    have T0 : But (fun b => b = ob) w5 wr.drew := HBT.out.trans (But.of_below hbd) (fun _ _ h => h)
    have hS0 := HFS.out wr.drew T0 (HOX.out.below hbd)
    have HRD : Hid (Reads wr.drew (.slice an pn.length cn) pn) := hid (HNR.out.below (HBW.out.trans (hbd.mono HBW.out.size)))
    clear n4 hlen hfit
    have hlen : (Builtin.len_ #[93] 3 #[.map (some pm)]).run Tryz.prog wr = .ok (.int .i64 (qs.length : Int)) wr := len_mapP (HH.out.below HBW.out).pmap 3
    have n4 : wr.cell? ⟨hb, 4, none⟩ = some (.map (some pm)) := (HBT.out.blk HX5.out hnhb).cell 4
    go_wp2_with fail
    refine wp_region_last 14 (S := fun w' => w'.cell? ⟨ob, 7, none⟩ = some (.slice av q.length cv) ∧ w'.cell? ⟨hb, 4, none⟩ = some (.map (some pm)) ∧ (Instr.lookup 93 (.map (some pm)) (.int .i64 ((k : Int) + 1)) false).run Tryz.prog w' = .ok (.pointer (some ⟨pb, 0, none⟩)) w' ∧ w'.cell? ⟨pb, 0, none⟩ = some (.int .i64 pl) ∧ w'.cell? ⟨pb, 1, none⟩ = some (.int .i64 pw) ∧ w'.cell? ⟨pb, 2, none⟩ = some (.int .i64 pt) ∧ w'.cell? ⟨pb, 3, none⟩ = some (.string pa) ∧ w'.cell? ⟨pb, 4, none⟩ = some (.slice an pn.length cn)) (by kernel_rfl) ?_
    change wpAnyC _ _ _ _ _ _ _ _ _ (World.drew _)
    refine tkL 0 (.pointer (some ⟨ob, 7, none⟩)) rfl hS0 ?_
    refine tkL 1 (.slice av q.length cv) rfl hS0 ?_
    refine tkL 2 (.pointer (some ⟨hb, 0, none⟩)) rfl hS0 ?_
    refine tkL 3 (.pointer (some ⟨hb, 0, none⟩)) rfl hS0 ?_
    refine tkL 4 (.pointer (some ⟨hb, 4, none⟩)) rfl hS0 ?_
    refine tkL 5 (.map (some pm)) rfl hS0 ?_
    refine tkL 6 (.int .i64 ((k : Int) + 1)) rfl hS0 ?_
    refine tkL 7 (.pointer (some ⟨pb, 0, none⟩)) rfl hS0 ?_
    refine tkL 8 (.pointer (some ⟨pb, 0, none⟩)) rfl hS0 ?_
    refine tkL 9 (.agg #[.int .i64 pl, .int .i64 pw, .int .i64 pt, .string pa, .slice an pn.length cn]) rfl hS0 ?_
    refine last_one 10 (by kernel_rfl) (op_calls (f := 51) (args := #[.agg #[.int .i64 pl, .int .i64 pw, .int .i64 pt, .string pa, .slice an pn.length cn]]) rfl rfl (by go_simp) (HCP.out _ HRD.out) ?_)
    rintro e w7 ⟨u, rfl, hu7, hb7⟩
    obtain ⟨au, cu, rfl⟩ := row_any hu7
    have B7 : Below wr.heap.size wr w7 := ⟨hb7.os, hb7.tape, hb7.output, hb7.size, hb7.block⟩
    have hz7 := B7.size
    have U7 : w7.ownsRow (wr.heap.size + 2) 9 1 (.slice au pn.length cu) pn.length (pn.map Value.string) := hu7
    have T7 : But (fun b => b = ob) w5 w7 := HBT.out.trans (But.of_below B7) (fun _ _ h => h)
    have O7 := HOX.out.below B7
    have hS7 := HFS.out w7 T7 O7
    refine ⟨_, rfl, fun _ => hS7, ?_⟩
    have D7 : Below w7.heap.size w7 (w7.alloc (.cells #[.int .i64 pl, .int .i64 pw, .int .i64 pt, .string pa, .slice au pn.length cu] 50)) := (Below.refl _ _).alloc (Nat.le_refl _) _
    have T8 : But (fun b => b = ob) w5 (w7.alloc (.cells #[.int .i64 pl, .int .i64 pw, .int .i64 pt, .string pa, .slice au pn.length cu] 50)) := T7.trans (But.of_below D7) (fun _ _ h => h)
    have O8 := O7.alloc (.cells #[.int .i64 pl, .int .i64 pw, .int .i64 pt, .string pa, .slice au pn.length cu] 50)
    have hS8 := HFS.out _ T8 O8
    refine last_one 11 (by kernel_rfl) (op_value (v := .slice (some ⟨w7.heap.size, 0, none⟩) 1 1) (w' := w7.alloc (.cells #[.int .i64 pl, .int .i64 pw, .int .i64 pt, .string pa, .slice au pn.length cu] 50)) rfl rfl (by go_simp) ⟨fun _ => hS8, ?_⟩)
    have PO7 := HPO.out.below B7
    have PO8 := PO7.below D7
    have hrow8 := PO8.row
    refine last_one 12 (by kernel_rfl) (op_wp rfl rfl (wp_append_own _ (.tmp 34) (.tmp 44) 33 rfl w5.heap.size 50 i0 (.agg #[.int .i64 0, .int .i64 0, .int .i64 0, .string ⟨#[]⟩, .slice none 0 0]) 5 64 Tryz.underlying33 hi0 hz0 hz1 hz2 rfl (by decide) (.slice av q.length cv) q.length _ (by go_simp) hrow8 ⟨w7.heap.size, 0, none⟩ 1 1 [.int .i64 pl, .int .i64 pw, .int .i64 pt, .string pa, .slice au pn.length cu] (by go_simp) rfl (five_new _ _ _ _ _ _ _) (by simp [Value.oneCell']) (by unfold maxLen; omega) (by omega) (by rw [World.size_alloc]; omega) ?_))
    intro v6 w6 hown6 hgrow6 _
    obtain ⟨a6, c6, rfl⟩ := row_any hown6
    have T9 := T8.grownR hgrow6 (fun r e => (hrow8.lt r e).1)
    have hb6 := O8.kept hgrow6 (fun e => by have := (hrow8.lt ob e.symm).1; omega)
    have hS9 := HFS.out w6 T9 hb6
    refine ⟨fun _ => hS9, ?_⟩
    refine tkL 13 (.pointer (some ⟨ob, 7, none⟩)) rfl hS9 ?_
    have PO6 := PeersOwn.snoc (p := ⟨pl, pw, pt, pa, pn⟩) PO8 hgrow6 hown6 (ownsRow_base2 (U7.alloc (.cells #[.int .i64 pl, .int .i64 pw, .int .i64 pt, .string pa, .slice au pn.length cu] 50)) (by omega)) (fun i hi g e e2 => by have h1 := ((HPO.out.nots i hi).lt g e).2; have h2 := (U7.lt g e2).1; omega)
    have HPO6 := hid (PO6.kept (grownBy_setCellAt w6 ob 7 (.slice a6 (q.length + 1) c6)) (by omega))
    have HT6 := hid (T9.trans (But.of_grown (P := fun b => b = ob) (grownBy_setCellAt w6 ob 7 (.slice a6 (q.length + 1) c6)) rfl) (fun _ _ h => h))
    have HB6 := hid (hb6.set 7 (.slice a6 (q.length + 1) c6))
    have l6 : w6.cell? ⟨ob, 7, none⟩ = some (.slice av q.length cv) := hb6.cell 7
    have f6 := hb6.fz 7
    refine last_one 14 (by kernel_rfl) (op_skip (w' := w6.setCell ⟨ob, 7, none⟩ (.slice a6 (q.length + 1) c6)) rfl rfl (by go_simp) ⟨fun h => absurd rfl h, last_done (by kernel_rfl) ?_ _⟩)
    clear hS0 hS7 hS8 hS9 PO6 PO7 PO8 hrow8 T0 T7 T8 T9 O7 O8 hb6 l6 f6 hown6 hgrow6 hb7 B7 D7 hu7 U7 hbd hlen n4
    go_simp
    go_wp2
    exact ⟨⟨k + 1, q ++ [(⟨pl, pw, pt, pa, pn⟩, .slice au pn.length cu)], _, by go_num, by omega, HQS.out _, HB6.out, HPO6.out, HT6.out⟩, by simp [intOf]; omega⟩
   ·have hki : ¬ (k : Int) + 1 ≤ ((qs.length : Nat) : Int) := by omega
    have hqe : q.map Prod.fst = qs.map Prod.fst := by rw [hqs, show k = (qs.map Prod.fst).length by simp; omega, List.take_length]
    have HQE := hid hqe
    have c0' : wr.cell? ⟨ob, 0, none⟩ = some (.string nm) := HOX.out.cell 0
    have c1' : wr.cell? ⟨ob, 1, none⟩ = some (.int .i64 now) := HOX.out.cell 1
    have c2' : wr.cell? ⟨ob, 2, none⟩ = some (.bool full) := HOX.out.cell 2
    have c3' : wr.cell? ⟨ob, 3, none⟩ = some (.int .i64 wd) := HOX.out.cell 3
    have c4' : wr.cell? ⟨ob, 4, none⟩ = some (.int .i64 room) := HOX.out.cell 4
    have c5' : wr.cell? ⟨ob, 5, none⟩ = some (.slice a1 its.length c1) := HOX.out.cell 5
    have c6' : wr.cell? ⟨ob, 6, none⟩ = some (.slice b1 ts.length d1) := HOX.out.cell 6
    have c7' : wr.cell? ⟨ob, 7, none⟩ = some (.slice av q.length cv) := HOX.out.cell 7
    have NR := HBT.out.blk HZ5.out (fun e => by have e' : w.heap.size = ob := e; omega)
    have s := NR.store8 (.string nm) (.int .i64 now) (.bool full) (.int .i64 wd) (.int .i64 room) (.slice a1 its.length c1) (.slice b1 ts.length d1) (.slice av q.length cv)
    obtain ⟨q0, k0, q1, k1, q2, k2, q3, k3, q4, k4, q5, k5, q6, k6, q7, k7⟩ := s
    have HZ := hid (NR.set8 (.string nm) (.int .i64 now) (.bool full) (.int .i64 wd) (.int .i64 room) (.slice a1 its.length c1) (.slice b1 ts.length d1) (.slice av q.length cv))
    have GG := grown_set8 wr w.heap.size (.string nm) (.int .i64 now) (.bool full) (.int .i64 wd) (.int .i64 room) (.slice a1 its.length c1) (.slice b1 ts.length d1) (.slice av q.length cv)
    have BB := hid (below_set8 HBW.out (b := w.heap.size) (Nat.le_refl _) (Nat.le_refl _) (.string nm) (.int .i64 now) (.bool full) (.int .i64 wd) (.int .i64 room) (.slice a1 its.length c1) (.slice b1 ts.length d1) (.slice av q.length cv))
    have SR : StoreOwn wr w1.heap.size (.slice a1 its.length c1) (.slice b1 ts.length d1) its ts := ⟨HBT.out.row HSO5.out.items (fun g e h => row_off_blk HSO5.out.items HO5.out (by decide) (e.trans (congrArg some h))), HBT.out.row HSO5.out.pins (fun g e h => row_off_blk HSO5.out.pins HO5.out (by decide) (e.trans (congrArg some h))), HSO5.out.apart⟩
    have FO := hid (show FetchOwn (set8 wr w.heap.size (.string nm) (.int .i64 now) (.bool full) (.int .i64 wd) (.int .i64 room) (.slice a1 its.length c1) (.slice b1 ts.length d1) (.slice av q.length cv)) (w.heap.size + 1) (.slice a1 its.length c1) (.slice b1 ts.length d1) (.slice av q.length cv) its ts q from
     ⟨(SR.kept GG (by omega)).base (by omega), (HPO.out.kept GG (by omega)).base (by omega), fun g e h => by have h1 := (HSO5.out.items.lt g e).2; have h2 := (HPO.out.lt g h).1; omega, fun g e h => by have h1 := (HSO5.out.pins.lt g e).2; have h2 := (HPO.out.lt g h).1; omega⟩)
    clear NR GG SR hqs hqe
    go_wp2
    rw [set8_def]
    refine bodyPost_ret (v := fval nm now full wd room (.slice a1 its.length c1) (.slice b1 ts.length d1) (.slice av q.length cv)) (by simp [results, Tryz.results25, go_sem, HZ.out.cell]) rfl (by first | exact ⟨_, _, _, q, rfl, HQE.out, FO.out, BB.out⟩ | exact ⟨_, _, _, rfl, q, HQE.out, FO.out, BB.out⟩)
end Go.Proofs.YtkghbegdjeehaaaGreatDoor
/- impl.FetchTick. -/
namespace Go.Proofs.YtkghbegdjeehaaaGreatDoor
open Go.RowKit
theorem small_item {wd : Int} {its : Itms} (h : ∀ i, i < its.length → itemOk wd its i) (i : Nat) : (itx its i).size ≤ 1048576 := by
 by_cases hi : i < its.length
 ·have := (h i hi).1.2; omega
 ·simp only [itx]; rw [List.getD_eq_getElem?_getD, List.getElem?_eq_none (by omega)]; show (0 : Nat) ≤ _; omega
theorem small_pin {wd : Int} {ts : List ByteArray} (h : okSums wd ts) (hw : wd ≤ 8) (i : Nat) : (tv ts i).size ≤ 1048576 := by
 by_cases hi : i < ts.length
 ·have := (h i hi).1; omega
 ·simp only [tv]; rw [List.getD_eq_getElem?_getD, List.getElem?_eq_none (by omega)]; simp
theorem fits_of {now wd : Int} {p : Pr} (h : PrOk now wd p) (hw : wd ≤ 8) : PrFits 1048576 p := by
 refine ⟨?_, by have := h.many; omega, small_pin h.nots hw⟩
 rcases h.asked with ⟨_, h1⟩ | ⟨_, h1⟩
 ·rw [ByteArray.toList_eq] at h1
  have : p.asked.data.size = 0 := by rw [← Array.length_toList, h1]; rfl
  show p.asked.data.size ≤ _
  omega
 ·omega
/-- What FetchTick answers, and where it lies. -/
def TickQ (nm : ByteArray) (now : Int) (full : Bool) (wd room : Int) (its : Itms) (ts : List ByteArray) (ps : Prs) (w : World) (e : Ending) (w' : World) : Prop :=
 ∃ nm' now' full' wd' room' its' ts' qs' vi' vp' vq' vm out, e = .returned (.tuple #[fval nm' now' full' wd' room' vi' vp' vq', vm]) ∧ TickR nm now full wd room its ts ps nm' now' full' wd' room' its' ts' (qs'.map Prod.fst) out ∧ FetchOwn w' (w.heap.size + 2) vi' vp' vq' its' ts' qs' ∧ MsgOwn w' (w.heap.size + 2) vm (out.map msgOf) ∧ (∀ g, vm.ownBlock = some g → ¬ FBlk vi' vp' vq' qs' g) ∧ Below w.heap.size w w'
set_option maxRecDepth 100000 in
set_option maxHeartbeats 4000000 in
theorem implFetchTick_any (nm : ByteArray) (now : Int) (full : Bool) (wd room : Int) (vi vp vq : Value) (its : Itms) (ts : List ByteArray) (ps : Prs) (w : World) (hi : RdI w vi its) (hp : Reads w vp ts) (hq : RdP w vq ps) (hnm : nm.size ≤ 1048576) (hli : its.length ≤ 1048576) (hlp : ts.length ≤ 1048576) (hlq : ps.length ≤ 1048576) (hsi : ∀ i, (itx its i).size ≤ 1048576) (hsp : ∀ i, (tv ts i).size ≤ 1048576) (hf : PsFit 1048576 ps) (hE : Errs w) :
  Calls Tryz.prog 7 #[fval nm now full wd room vi vp vq] w (TickQ nm now full wd room its ts ps w) := by
 have HI := hid hi
 have HP := hid hp
 have HQ := hid hq
 obtain ⟨ai, ci, rfl, _⟩ := hi
 obtain ⟨ap, cp, rfl, _⟩ := hp.form
 obtain ⟨aq, cq, rfl, _⟩ := hq
 have hA := ((Below.refl w.heap.size w).alloc (Nat.le_refl _) (.cells (fcells nm now full wd room (.slice ai its.length ci) (.slice ap ts.length cp) (.slice aq ps.length cq)) 35)).alloc (by simp) (.cells fzero 35)
 have N3 := Blk.new (w.alloc (.cells (fcells nm now full wd room (.slice ai its.length ci) (.slice ap ts.length cp) (.slice aq ps.length cq)) 35)) 35 fzero
 rw [World.size_alloc] at N3
 obtain ⟨w3, hw3⟩ : ∃ x, x = (w.alloc (.cells (fcells nm now full wd room (.slice ai its.length ci) (.slice ap ts.length cp) (.slice aq ps.length cq)) 35)).alloc (.cells fzero 35) := ⟨_, rfl⟩
 have hz : w3.heap.size = w.heap.size + 2 := by rw [hw3, World.size_alloc, World.size_alloc]
 rw [← hw3] at hA N3
 have hza : w.heap.size + 2 ≤ w3.heap.size := by omega
 have hzb : w3.heap.size ≤ w.heap.size + 2 := by omega
 have HA := hid hA
 have HN3 := hid N3
 have HE := hid hE
 have HO := hid (openFetch_any nm now full wd room _ _ _ its ts ps w3 (HI.out.below hA) (HP.out.below hA) (HQ.out.below hA) hli hlp hlq hsi hsp hf)
 clear hp hA N3 hsi hsp hf hE hz
 go_enter Tryz.func7, Tryz.ntmps7
 go_wp2_with fail
 rw [← hw3]
 clear hw3
 refine HO.out.mono ?_
 rintro e w4 (⟨hn, rfl, hb4⟩ | ⟨hv, C1, C2, hb, pm, sb, mb, vc, qs, pbs, rfl, hqs, hH, hb4⟩)
 ·have HF : Hid (TickR nm now full wd room its ts ps ⟨#[]⟩ 0 false 0 0 [] [] (([] : PV).map Prod.fst) []) := hid (.inl ⟨hn, rfl, rfl, rfl, rfl, rfl, rfl, rfl, rfl, rfl⟩)
  have B4 := HA.out.trans (hb4.mono HA.out.size)
  have NR := HN3.out.below hb4
  have s := NR.store8 (.string ⟨#[]⟩) (.int .i64 0) (.bool false) (.int .i64 0) (.int .i64 0) (.slice none 0 0) (.slice none 0 0) (.slice none 0 0)
  obtain ⟨q0, k0, q1, k1, q2, k2, q3, k3, q4, k4, q5, k5, q6, k6, q7, k7⟩ := s
  have Z := hid (NR.set8 (.string ⟨#[]⟩) (.int .i64 0) (.bool false) (.int .i64 0) (.int .i64 0) (.slice none 0 0) (.slice none 0 0) (.slice none 0 0))
  have BB := hid (below_set8 B4 (b := w.heap.size + 1) (by omega) (Nat.le_refl _) (.string ⟨#[]⟩) (.int .i64 0) (.bool false) (.int .i64 0) (.int .i64 0) (.slice none 0 0) (.slice none 0 0) (.slice none 0 0))
  clear NR B4 hb4 hn
  go_wp2
  rw [set8_def]
  refine bodyPost_ret (v := .tuple #[fval ⟨#[]⟩ 0 false 0 0 (.slice none 0 0) (.slice none 0 0) (.slice none 0 0), .slice none 0 0]) (by simp [results, Tryz.results7, go_sem, Z.out.cell]) rfl ⟨⟨#[]⟩, 0, false, 0, 0, [], [], [], _, _, _, _, [], rfl, HF.out, FetchOwn.none _ _, World.ownsRow_nil _ _ _ _, fun g e => (by cases e), BB.out⟩
 ·have hv' : ValidF nm now wd room its ts (qs.map Prod.fst) := by rw [hqs]; exact hv
  have HV := hid hv'
  have HQS := hid hqs
  have HB4 := hid hb4
  have hs4 := hb4.size
  have HTK := hid (huntTick_any w3.heap.size C1 C2 hb pm sb mb vc nm now full wd room its ts qs pbs w4 hH hv' (fun W h => HE.out.below (HA.out.trans ((hb4.trans h).mono HA.out.size))) hs4)
  clear hv hv' hqs hH hb4
  go_wp2_with fail
  refine HTK.out.mono ?_
  rintro e w5 ⟨vm, now', qs', out, vl, lk, rfl, hts, hms, hrd, hb5⟩
  have hvf := hts.valid HV.out
  have hwd8 : 1 ≤ wd ∧ wd ≤ 8 := by have := hvf.store.width; simpa [isW] using this
  have hcnt := hvf.count
  rw [List.length_map] at hcnt
  have hol := hts.out_len
  rw [List.length_map] at hol
  have hqc := HV.out.count
  rw [List.length_map] at hqc
  have HFT := hid (huntFetch_any hb pm sb mb _ nm now' full wd room _ its ts qs' pbs _ lk w5 hrd (ascI_of hvf.store.each) (by have := hvf.store.items; omega) hlp (by omega) (small_item hvf.store.each) (small_pin hvf.store.sums hwd8.2) hnm (fun i hi => by have h := hvf.each i (by rw [List.length_map]; exact hi); rw [pat_fst1] at h; exact fits_of h hwd8.2))
  have HTS := hid hts
  have HB5 := hid (HB4.out.trans hb5)
  have HMS := hid hms
  have hs5 := HB5.out.size
  have hs45 := hb5.size
  obtain ⟨am, cm, hvm⟩ := row_any hms
  rw [List.length_map] at hvm
  subst hvm
  clear hts hrd hb5 hvf hms
  go_wp2_with fail
  refine HFT.out.mono ?_
  rintro e w6 ⟨vi6, vp6, vq6, qs9, rfl, hq9, fo, hb6⟩
  obtain ⟨a6, c6, rfl⟩ := row_any fo.store.items
  obtain ⟨b6, d6, rfl⟩ := row_any fo.store.pins
  obtain ⟨e6, g6, rfl⟩ := row_any fo.peers.row
  have HF : Hid (TickR nm now full wd room its ts ps nm now' full wd room its ts (qs9.map Prod.fst) out) := hid (.inr ⟨by rw [← HQS.out]; exact HV.out, rfl, rfl, rfl, rfl, rfl, rfl, by rw [hq9, ← HQS.out]; exact HTS.out⟩)
  have B6 := HA.out.trans ((HB5.out.trans (hb6.mono hs5)).mono HA.out.size)
  have NR : Blk w6 (w.heap.size + 1) 35 fzero := (HN3.out.belowAt HB5.out (by omega)).below hb6
  have s := NR.store8 (.string nm) (.int .i64 now') (.bool full) (.int .i64 wd) (.int .i64 room) (.slice a6 its.length c6) (.slice b6 ts.length d6) (.slice e6 qs9.length g6)
  obtain ⟨q0, k0, q1, k1, q2, k2, q3, k3, q4, k4, q5, k5, q6, k6, q7, k7⟩ := s
  have Z := hid (NR.set8 (.string nm) (.int .i64 now') (.bool full) (.int .i64 wd) (.int .i64 room) (.slice a6 its.length c6) (.slice b6 ts.length d6) (.slice e6 qs9.length g6))
  have BB := hid (below_set8 B6 (b := w.heap.size + 1) (by omega) (Nat.le_refl _) (.string nm) (.int .i64 now') (.bool full) (.int .i64 wd) (.int .i64 room) (.slice a6 its.length c6) (.slice b6 ts.length d6) (.slice e6 qs9.length g6))
  have G := grown_set8 w6 (w.heap.size + 1) (.string nm) (.int .i64 now') (.bool full) (.int .i64 wd) (.int .i64 room) (.slice a6 its.length c6) (.slice b6 ts.length d6) (.slice e6 qs9.length g6)
  have FO := hid ((fo.kept G (by omega)).base (show w.heap.size + 2 ≤ w5.heap.size + 1 by omega))
  have MO : Hid (MsgOwn (set8 w6 (w.heap.size + 1) (.string nm) (.int .i64 now') (.bool full) (.int .i64 wd) (.int .i64 room) (.slice a6 its.length c6) (.slice b6 ts.length d6) (.slice e6 qs9.length g6)) (w.heap.size + 2) (.slice am out.length cm) (out.map msgOf)) := hid (ownsRow_base (row_far (Below.row hb6 HMS.out) G (fun e => by have := (World.ownsRow.lt HMS.out _ e).1; omega)) (by omega))
  have AP : Hid (∀ g, (Value.slice am out.length cm).ownBlock = some g → ¬ FBlk (.slice a6 its.length c6) (.slice b6 ts.length d6) (.slice e6 qs9.length g6) qs9 g) := hid fun g e h => by
   have h1 := (World.ownsRow.lt HMS.out g e).2
   have h2 := (fo.lt g h).1
   omega
  clear NR B6 hb6 fo hq9 G
  go_wp2
  rw [set8_def]
  refine bodyPost_ret (v := .tuple #[fval nm now' full wd room (.slice a6 its.length c6) (.slice b6 ts.length d6) (.slice e6 qs9.length g6), .slice am out.length cm]) (by simp [results, Tryz.results7, go_sem, Z.out.cell]) rfl ⟨nm, now', full, wd, room, its, ts, qs9, _, _, _, _, out, rfl, HF.out, FO.out, MO.out, AP.out, BB.out⟩
end Go.Proofs.YtkghbegdjeehaaaGreatDoor
