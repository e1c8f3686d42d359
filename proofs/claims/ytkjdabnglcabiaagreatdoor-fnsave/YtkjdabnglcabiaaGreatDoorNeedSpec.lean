/- spec.l4Needed and spec.Needed: what pins need. -/
import Derived.Test.YtkjdabnglcabiaaGreatDoorShort
import Derived.Test.YtkjdabnglcabiaaGreatDoorListUnder
import Derived.Test.YtkjdabnglcabiaaGreatDoorAddSpec
import Derived.Deep.CutRange
import Derived.Deep.DeepCutAuto
namespace Go.Proofs.YtkjdabnglcabiaaGreatDoor
open Go.RowKit
/-- What spec.l4Add leaves, as a row. -/
theorem add_row {w w' : World} {v v' : Value} {b2 : Nat} {s : ByteArray} {ts : List ByteArray} (hrow : w.ownsRow b2 9 1 v ts.length (ts.map Value.string)) (hb : Below w.heap.size w w')
  (h : cutN s ts < ts.length ∧ tv ts (cutN s ts) = s ∧ v' = v ∨ ¬ (cutN s ts < ts.length ∧ tv ts (cutN s ts) = s) ∧ w'.ownsRow w.heap.size 9 1 v' (ts.length + 1) ((ts.take (cutN s ts) ++ s :: ts.drop (cutN s ts)).map Value.string)) :
  ∃ b3, w'.ownsRow b3 9 1 v' (putT s ts).length ((putT s ts).map Value.string) := by
 rcases h with ⟨h1, h2, rfl⟩ | ⟨hn, ho⟩
 ·refine ⟨b2, ?_⟩
  unfold putT
  rw [if_pos ⟨h1, h2⟩]
  exact Below.row hb hrow
 ·refine ⟨w.heap.size, ?_⟩
  unfold putT
  rw [if_neg hn]
  have e : (ts.take (cutN s ts) ++ s :: ts.drop (cutN s ts)).length = ts.length + 1 := by have := cutN_le s ts; simp; omega
  rw [e]
  exact ho
set_option maxRecDepth 100000 in
set_option maxHeartbeats 8000000 in
theorem l4Needed_any (wd room : Int) (vi vp : Value) (its : Itms) (ts : List ByteArray) (w : World) (hi : RdI w vi its) (hp : Reads w vp ts) (hN : (sumsL wd its).Pairwise (· < ·)) (hlp : ts.length ≤ 10) (hli : its.length ≤ 1048576) (hsi : ∀ i, (itx its i).size ≤ 1048576) :
  Calls Tryz.prog 57 #[.agg #[.int .i64 wd, .int .i64 room, vi, vp]] w fun e w' => ∃ v out b2, e = .returned v ∧ NeedR wd its ts ts.length out ∧ out.length ≤ 3760 ∧ w'.ownsRow b2 9 1 v out.length (out.map Value.string) ∧ Below w.heap.size w w' := by
 obtain ⟨ai, ci, rfl, _⟩ := id hi
 obtain ⟨ap, cp, rfl, _⟩ := hp.form
 have hA := (Below.refl w.heap.size w).alloc (Nat.le_refl _) (.cells #[.int .i64 wd, .int .i64 room, .slice ai its.length ci, .slice ap ts.length cp] 26)
 have HN0 := hid (Blk.new w 26 #[.int .i64 wd, .int .i64 room, .slice ai its.length ci, .slice ap ts.length cp])
 have HI := hid (hi.below hA)
 have HP := hid (hp.below hA)
 have HA := hid hA
 have HLL := hid fun (a : Option Addr) (W : World) (h1 : RdI W (.slice ai its.length ci) its) (h2 : Reads W (.slice a ts.length cp) ts) (p : ByteArray) => l4List_any wd room (.slice ai its.length ci) (.slice a ts.length cp) its ts p W h1 h2 hli hsi
 have HNN := hid hN
 have hO : ((w.alloc (.cells #[.int .i64 wd, .int .i64 room, .slice ai its.length ci, .slice ap ts.length cp] 26)).alloc (.cells #[] 9)).ownsRow (w.heap.size + 1) 9 1 (.slice (some ⟨w.heap.size + 1, 0, none⟩) 0 0) 0 [] := by
  have := World.ownsRow_made (base := w.heap.size + 1) (e := 9) (size := 1) (w.alloc (.cells #[.int .i64 wd, .int .i64 room, .slice ai its.length ci, .slice ap ts.length cp] 26)) #[] 0 (by simp) (by simp [maxLen]) rfl
  rw [World.size_alloc] at this
  exact this
 have HO := hid hO
 clear hi hp hA hO hN hsi
 go_enter Tryz.func57, Tryz.ntmps57
 go_wp2
 go_loopw [3, 4] (fun v i' wr => ∃ (k b2 : Nat) (out : List ByteArray), k ≤ ts.length ∧ i' = .int .i64 k ∧ NeedR wd its ts k out ∧ out.length ≤ k * 376 ∧ wr.ownsRow b2 9 1 v out.length (out.map Value.string) ∧ Below (w.alloc (.cells #[.int .i64 wd, .int .i64 room, .slice ai its.length ci, .slice ap ts.length cp] 26)).heap.size (w.alloc (.cells #[.int .i64 wd, .int .i64 room, .slice ai its.length ci, .slice ap ts.length cp] 26)) wr) (fun _ i' _ => ts.length - (intOf i').toNat)
 case atStart => exact ⟨0, w.heap.size + 1, [], Nat.zero_le _, rfl, ⟨List.Pairwise.nil, fun x => ⟨fun h => (by cases h), fun ⟨j, hj, _⟩ => absurd hj (by omega)⟩⟩, by simp, HO.out, (Below.refl _ _).alloc (Nat.le_refl _) _⟩
 case round =>
  obtain ⟨k, b2, out, hk, rfl, hneed, hlen, hrow, hbl⟩ := hrel
  have N1 := HN0.out.below hbl
  have hsr := hbl.size
  rw [World.size_alloc] at hsr
  have HBR := hid (HA.out.trans (hbl.mono (by simp)))
  have c3 : wr.cell? ⟨w.heap.size, 3, none⟩ = some (.slice ap ts.length cp) := N1.cell 3
  have HNR := hid N1
  have HND := hid hneed
  have HBL := hid hbl
  obtain ⟨av, cv, rfl, _⟩ := row_form hrow
  by_cases hlt : k < ts.length
  case neg =>
   obtain rfl : k = ts.length := by omega
   have HR := hid hrow
   clear hneed hrow hbl N1
   go_wp2
   go_ret
   exact ⟨_, out, b2, rfl, HND.out, by omega, HR.out, HBR.out⟩
  obtain ⟨ap', cp', e', hcp⟩ := (HP.out.below hbl).form
  cases e'
  obtain ⟨b0, o0, rfl, hpb, hpc⟩ := hcp k hlt
  have hpt : wr.cell? ⟨b0, o0 + k, none⟩ = some (.string (tv ts k)) := hpc
  have HSUC : Hid (∀ x, NeedTo wd its ts (k + 1) x ↔ NeedTo wd its ts k x ∨ NeedX wd its (tv ts k) x) := fun x => NeedTo.succ
  generalize tv ts k = p at hpt HSUC
  have HAD := hid (l4Add_any (.slice av out.length cv) out p b2 wr hrow hneed.asc (by omega))
  have HRW := hid hrow
  have HPB := hid hpb
  have HPT := hid hpt
  clear hcp hpc hrow hneed hbl N1 hpb
  go_wp2_with fail
  refine HAD.out.mono ?_
  rintro e w1 ⟨v1, rfl, hor, hb1⟩
  obtain ⟨b3, hrow1⟩ := add_row HRW.out hb1 hor
  have hl1 := putT_len p out
  have HAS := hid (putT_asc (s := p) HND.out.asc)
  have HMM : Hid (∀ x, x ∈ putT p out ↔ x = p ∨ NeedTo wd its ts k x) := fun x => by rw [putT_mem, HND.out.mem]
  obtain ⟨a1, c1, rfl, _⟩ := row_form hrow1
  generalize putT p out = out1 at *
  have N2 := HNR.out.below hb1
  have HN2 := hid N2
  have D1 := HBL.out.trans (hb1.mono HBL.out.size)
  have HD1 := hid D1
  have pt1 := (hb1.cell (p := ⟨b0, o0 + k, none⟩) HPB.out).trans HPT.out
  have hpb1 := Nat.lt_of_lt_of_le HPB.out hb1.size
  have HR1 := hid hrow1
  have HI1 := hid (HI.out.below D1)
  have HP1 := hid (HP.out.below D1)
  have hs1 := hb1.size
  have hS0 : w1.drew.cell? ⟨w.heap.size, 0, none⟩ = some (.int .i64 wd) ∧ w1.drew.cell? ⟨w.heap.size, 1, none⟩ = some (.int .i64 room) ∧ w1.drew.cell? ⟨w.heap.size, 2, none⟩ = some (.slice ai its.length ci) ∧ w1.drew.cell? ⟨w.heap.size, 3, none⟩ = some (.slice (some ⟨b0, o0, none⟩) ts.length cp) ∧ w1.drew.cell? ⟨b0, o0 + k, none⟩ = some (.string p) := ⟨N2.cell 0, N2.cell 1, N2.cell 2, N2.cell 3, pt1⟩
  have HPT1 := hid pt1
  clear hor hb1 hpt D1 N2 hrow1 HAD c3 pt1
  have hec := enters_of Tryz.func82 (by kernel_rfl) rfl
  go_upto_region 5 with fail
  go_cut [5, 6] from 23 to 32 (fun s5 s6 wx => ∃ lb vl b4 n ss ok, s5 = .pointer (some ⟨lb, 0, none⟩) ∧ s6 = .bool ok ∧ UL wd its p n ss ok ∧ LBox wx lb n vl ∧ wx.ownsRow b4 9 1 vl ss.length (ss.map Value.string) ∧ Below w1.heap.size w1 wx)
  case first =>
   refine wp_region_held (S := fun w' => w'.cell? ⟨w.heap.size, 0, none⟩ = some (.int .i64 wd) ∧ w'.cell? ⟨w.heap.size, 1, none⟩ = some (.int .i64 room) ∧ w'.cell? ⟨w.heap.size, 2, none⟩ = some (.slice ai its.length ci) ∧ w'.cell? ⟨w.heap.size, 3, none⟩ = some (.slice (some ⟨b0, o0, none⟩) ts.length cp) ∧ w'.cell? ⟨b0, o0 + k, none⟩ = some (.string p)) (by kernel_rfl) ?_
   change wpAnyH _ _ _ _ _ _ _ _ (World.drew _)
   refine tkA 0 (.agg #[.int .i64 wd, .int .i64 room, .slice ai its.length ci, .slice (some ⟨b0, o0, none⟩) ts.length cp]) rfl hS0 ?_
   refine tkA 1 (.pointer (some ⟨w.heap.size, 3, none⟩)) rfl hS0 ?_
   refine tkA 2 (.slice (some ⟨b0, o0, none⟩) ts.length cp) rfl hS0 ?_
   refine tkA 3 (.int .i64 (k : Nat)) rfl hS0 ?_
   refine tkA 4 (.pointer (some ⟨b0, o0 + k, none⟩)) rfl hS0 ?_
   refine tkA 5 (.string p) rfl hS0 ?_
   refine held_two 6 10 (by kernel_rfl) ?A ?B
   case A =>
    have hbd : Below w1.heap.size w1 w1.drew := below_drewN (Below.refl _ _) 1
    refine op_calls (f := 82) (args := #[.agg #[.int .i64 wd, .int .i64 room, .slice ai its.length ci, .slice (some ⟨b0, o0, none⟩) ts.length cp], .string p]) rfl rfl (by go_simp) (HLL.out _ _ (HI1.out.below hbd) (HP1.out.below hbd) p) ?_
    rintro e w2 ⟨v2, n, ss, ok, rfl, hul, ho2, hb2⟩
    have hb2' : Below w1.heap.size w1 w2 := ⟨hb2.os, hb2.tape, hb2.output, hb2.size, hb2.block⟩
    obtain ⟨a2, c2, rfl, _⟩ := row_form ho2
    have N3 := HN2.out.below hb2'
    have hS1 : w2.cell? ⟨w.heap.size, 0, none⟩ = some (.int .i64 wd) ∧ w2.cell? ⟨w.heap.size, 1, none⟩ = some (.int .i64 room) ∧ w2.cell? ⟨w.heap.size, 2, none⟩ = some (.slice ai its.length ci) ∧ w2.cell? ⟨w.heap.size, 3, none⟩ = some (.slice (some ⟨b0, o0, none⟩) ts.length cp) ∧ w2.cell? ⟨b0, o0 + k, none⟩ = some (.string p) := ⟨N3.cell 0, N3.cell 1, N3.cell 2, N3.cell 3, (hb2'.cell (p := ⟨b0, o0 + k, none⟩) hpb1).trans HPT1.out⟩
    have N4 := N3.alloc (.cells #[.int .i64 0, .slice none 0 0] 54)
    have pt4 : (w2.alloc (.cells #[.int .i64 0, .slice none 0 0] 54)).cell? ⟨b0, o0 + k, none⟩ = some (.string p) := Lib.cell?_alloc_some _ ((hb2'.cell (p := ⟨b0, o0 + k, none⟩) hpb1).trans HPT1.out)
    have hS2 : (w2.alloc (.cells #[.int .i64 0, .slice none 0 0] 54)).cell? ⟨w.heap.size, 0, none⟩ = some (.int .i64 wd) ∧ (w2.alloc (.cells #[.int .i64 0, .slice none 0 0] 54)).cell? ⟨w.heap.size, 1, none⟩ = some (.int .i64 room) ∧ (w2.alloc (.cells #[.int .i64 0, .slice none 0 0] 54)).cell? ⟨w.heap.size, 2, none⟩ = some (.slice ai its.length ci) ∧ (w2.alloc (.cells #[.int .i64 0, .slice none 0 0] 54)).cell? ⟨w.heap.size, 3, none⟩ = some (.slice (some ⟨b0, o0, none⟩) ts.length cp) ∧ (w2.alloc (.cells #[.int .i64 0, .slice none 0 0] 54)).cell? ⟨b0, o0 + k, none⟩ = some (.string p) := ⟨N4.cell 0, N4.cell 1, N4.cell 2, N4.cell 3, pt4⟩
    have N5 := N3.alloc (.cells #[.int .i64 n, .slice a2 ss.length c2] 54)
    have pt5 : (w2.alloc (.cells #[.int .i64 n, .slice a2 ss.length c2] 54)).cell? ⟨b0, o0 + k, none⟩ = some (.string p) := Lib.cell?_alloc_some _ ((hb2'.cell (p := ⟨b0, o0 + k, none⟩) hpb1).trans HPT1.out)
    have hS3 : (w2.alloc (.cells #[.int .i64 n, .slice a2 ss.length c2] 54)).cell? ⟨w.heap.size, 0, none⟩ = some (.int .i64 wd) ∧ (w2.alloc (.cells #[.int .i64 n, .slice a2 ss.length c2] 54)).cell? ⟨w.heap.size, 1, none⟩ = some (.int .i64 room) ∧ (w2.alloc (.cells #[.int .i64 n, .slice a2 ss.length c2] 54)).cell? ⟨w.heap.size, 2, none⟩ = some (.slice ai its.length ci) ∧ (w2.alloc (.cells #[.int .i64 n, .slice a2 ss.length c2] 54)).cell? ⟨w.heap.size, 3, none⟩ = some (.slice (some ⟨b0, o0, none⟩) ts.length cp) ∧ (w2.alloc (.cells #[.int .i64 n, .slice a2 ss.length c2] 54)).cell? ⟨b0, o0 + k, none⟩ = some (.string p) := ⟨N5.cell 0, N5.cell 1, N5.cell 2, N5.cell 3, pt5⟩
    have HZ : Hid (LBox (w2.alloc (.cells #[.int .i64 n, .slice a2 ss.length c2] 54)) w2.heap.size n (.slice a2 ss.length c2)) := World.alloc_heap_new w2 _
    have HO2 := hid ((show w2.ownsRow (w1.drew.heap.size + 1) 9 1 (.slice a2 ss.length c2) ss.length (ss.map Value.string) from ho2).alloc (.cells #[.int .i64 n, .slice a2 ss.length c2] 54))
    have HB2 := hid (hb2'.alloc hb2'.size (.cells #[.int .i64 n, .slice a2 ss.length c2] 54))
    have HUL := hid hul
    refine ⟨_, rfl, hS1, ?_⟩
    refine tkA 7 (.tuple #[.agg #[.int .i64 n, .slice a2 ss.length c2], .bool ok]) rfl hS1 ?_
    refine tkA 8 (.agg #[.int .i64 n, .slice a2 ss.length c2]) rfl hS1 ?_
    refine tkA 9 (.bool ok) rfl hS1 ?_
    refine held_one 10 (by kernel_rfl) (op_value (v := .pointer (some ⟨w2.heap.size, 0, none⟩)) (w' := w2.alloc (.cells #[.int .i64 0, .slice none 0 0] 54)) rfl rfl (by go_simp) ⟨hS2, ?_⟩)
    refine held_one 11 (by kernel_rfl) (op_skip (w' := (w2.alloc (.cells #[.int .i64 n, .slice a2 ss.length c2] 54))) rfl rfl (by go_simp) ⟨hS3, ?_⟩)
    refine tkA 12 (.bool ok) rfl hS3 ?_
    refine wpAnyH_done (by kernel_rfl) ?_ _
    clear hS0 hS1 hS2 hS3 N3 N4 N5 pt4 pt5 ho2 hb2 hb2' hbd hul
    go_simp
    go_wp2_with fail
    go_meet
    exact ⟨w2.heap.size, _, _, n, ss, ok, rfl, rfl, HUL.out, HZ.out, HO2.out, HB2.out⟩
   case B =>
    have N3 := HN2.out.alloc (.cells #[.int .i64 0, .slice none 0 0] 54)
    have pt3 : (w1.alloc (.cells #[.int .i64 0, .slice none 0 0] 54)).cell? ⟨b0, o0 + k, none⟩ = some (.string p) := Lib.cell?_alloc_some _ HPT1.out
    have hSb : (w1.alloc (.cells #[.int .i64 0, .slice none 0 0] 54)).drew.cell? ⟨w.heap.size, 0, none⟩ = some (.int .i64 wd) ∧ (w1.alloc (.cells #[.int .i64 0, .slice none 0 0] 54)).drew.cell? ⟨w.heap.size, 1, none⟩ = some (.int .i64 room) ∧ (w1.alloc (.cells #[.int .i64 0, .slice none 0 0] 54)).drew.cell? ⟨w.heap.size, 2, none⟩ = some (.slice ai its.length ci) ∧ (w1.alloc (.cells #[.int .i64 0, .slice none 0 0] 54)).drew.cell? ⟨w.heap.size, 3, none⟩ = some (.slice (some ⟨b0, o0, none⟩) ts.length cp) ∧ (w1.alloc (.cells #[.int .i64 0, .slice none 0 0] 54)).drew.cell? ⟨b0, o0 + k, none⟩ = some (.string p) := ⟨N3.cell 0, N3.cell 1, N3.cell 2, N3.cell 3, pt3⟩
    have hA3 := (Below.refl w1.heap.size w1).alloc (Nat.le_refl _) (.cells #[.int .i64 0, .slice none 0 0] 54)
    have hbd : Below w1.heap.size w1 (w1.alloc (.cells #[.int .i64 0, .slice none 0 0] 54)).drew := below_drewN hA3 1
    refine op_value (v := .pointer (some ⟨w1.heap.size, 0, none⟩)) (w' := (w1.alloc (.cells #[.int .i64 0, .slice none 0 0] 54)).drew) rfl rfl (by go_simp) ⟨hSb, ?_⟩
    refine held_one 6 (by kernel_rfl) (op_calls (f := 82) (args := #[.agg #[.int .i64 wd, .int .i64 room, .slice ai its.length ci, .slice (some ⟨b0, o0, none⟩) ts.length cp], .string p]) rfl rfl (by go_simp) (HLL.out _ _ (HI1.out.below hbd) (HP1.out.below hbd) p) ?_)
    rintro e w2 ⟨v2, n, ss, ok, rfl, hul, ho2, hb2⟩
    have hb2' : Below (w1.alloc (.cells #[.int .i64 0, .slice none 0 0] 54)).heap.size (w1.alloc (.cells #[.int .i64 0, .slice none 0 0] 54)) w2 := ⟨hb2.os, hb2.tape, hb2.output, hb2.size, hb2.block⟩
    obtain ⟨a2, c2, rfl, _⟩ := row_form ho2
    have D2 := hA3.trans (hb2'.mono (by simp))
    have N4 := HN2.out.below D2
    have hS1 : w2.cell? ⟨w.heap.size, 0, none⟩ = some (.int .i64 wd) ∧ w2.cell? ⟨w.heap.size, 1, none⟩ = some (.int .i64 room) ∧ w2.cell? ⟨w.heap.size, 2, none⟩ = some (.slice ai its.length ci) ∧ w2.cell? ⟨w.heap.size, 3, none⟩ = some (.slice (some ⟨b0, o0, none⟩) ts.length cp) ∧ w2.cell? ⟨b0, o0 + k, none⟩ = some (.string p) := ⟨N4.cell 0, N4.cell 1, N4.cell 2, N4.cell 3, (D2.cell (p := ⟨b0, o0 + k, none⟩) hpb1).trans HPT1.out⟩
    have L2 : LBox w2 w1.heap.size 0 (.slice none 0 0) := (show LBox (w1.alloc (.cells #[.int .i64 0, .slice none 0 0] 54)) w1.heap.size 0 (.slice none 0 0) from World.alloc_heap_new w1 _).below hb2'
    have g2 := grown_set2 w2 w1.heap.size n (.slice a2 ss.length c2)
    have D3 := D2.grown g2 D2.size (fun g e => by cases e; exact Nat.le_refl _)
    have N5 := HN2.out.below D3
    have hS2 : (set2 w2 w1.heap.size n (.slice a2 ss.length c2)).cell? ⟨w.heap.size, 0, none⟩ = some (.int .i64 wd) ∧ (set2 w2 w1.heap.size n (.slice a2 ss.length c2)).cell? ⟨w.heap.size, 1, none⟩ = some (.int .i64 room) ∧ (set2 w2 w1.heap.size n (.slice a2 ss.length c2)).cell? ⟨w.heap.size, 2, none⟩ = some (.slice ai its.length ci) ∧ (set2 w2 w1.heap.size n (.slice a2 ss.length c2)).cell? ⟨w.heap.size, 3, none⟩ = some (.slice (some ⟨b0, o0, none⟩) ts.length cp) ∧ (set2 w2 w1.heap.size n (.slice a2 ss.length c2)).cell? ⟨b0, o0 + k, none⟩ = some (.string p) := ⟨N5.cell 0, N5.cell 1, N5.cell 2, N5.cell 3, (D3.cell (p := ⟨b0, o0 + k, none⟩) hpb1).trans HPT1.out⟩
    have x0 := L2.c0
    have f0 := L2.fz 0
    have x1 := (L2.set0 n).c1
    have f1 := (L2.set0 n).fz 1
    have ho3 : w2.ownsRow (w1.heap.size + 1 + 1) 9 1 (.slice a2 ss.length c2) ss.length (ss.map Value.string) := by
     have h9 : w2.ownsRow ((w1.alloc (.cells #[.int .i64 0, .slice none 0 0] 54)).heap.size + 1) 9 1 (.slice a2 ss.length c2) ss.length (ss.map Value.string) := ho2
     rwa [World.size_alloc] at h9
    have HZ := hid (L2.set2 n (.slice a2 ss.length c2))
    have HO2 := hid (row_kept ho3 g2 (by omega))
    have HB2 := hid D3
    have HUL := hid hul
    refine ⟨_, rfl, hS1, ?_⟩
    refine tkA 7 (.tuple #[.agg #[.int .i64 n, .slice a2 ss.length c2], .bool ok]) rfl hS1 ?_
    refine tkA 8 (.agg #[.int .i64 n, .slice a2 ss.length c2]) rfl hS1 ?_
    refine tkA 9 (.bool ok) rfl hS1 ?_
    refine held_one 11 (by kernel_rfl) (op_skip (w' := set2 w2 w1.heap.size n (.slice a2 ss.length c2)) rfl rfl (by unfold set2; go_simp) ⟨hS2, ?_⟩)
    refine tkA 12 (.bool ok) rfl hS2 ?_
    refine wpAnyH_done (by kernel_rfl) ?_ _
    clear hS0 hS1 hS2 hSb N3 N4 N5 pt3 ho2 ho3 hb2 hb2' hbd hul D2 D3 g2 L2 x0 f0 x1 f1 hA3
    go_simp
    go_wp2_with fail
    go_meet
    exact ⟨w1.heap.size, _, _, n, ss, ok, rfl, rfl, HUL.out, HZ.out, HO2.out, HB2.out⟩
  case rest =>
   obtain ⟨lb, vl, b4, n, ss, ok, rfl, rfl, hul, hLB, hrl, hbc⟩ := hcut
   obtain ⟨hfew, hnok, _⟩ := hul.few
   have HXN : Hid (∀ x, NeedX wd its p x ↔ x = p ∨ x ∈ ss) := fun x => NeedX.of_list HNN.out hul
   obtain ⟨al, cl, rfl, hal⟩ := row_form hrl
   have HLB := hid hLB
   have HRL := hid hrl
   have HRC := hid (Below.row hbc HR1.out)
   have HDC := hid (HD1.out.trans (hbc.mono HD1.out.size))
   have HNOK := hid hnok
   clear hS0 hul hLB hrl hbc hnok
   go_wp2
   go_loopw [3, 7] (fun v i' wz => ∃ (m b5 : Nat) (o : List ByteArray), m ≤ ss.length ∧ i' = .int .i64 m ∧ Asc o ∧ (∀ x, x ∈ o ↔ (x = p ∨ NeedTo wd its ts k x) ∨ x ∈ ss.take m) ∧ o.length ≤ k * 376 + 1 + m ∧ wz.ownsRow b5 9 1 v o.length (o.map Value.string) ∧ Below wc.heap.size wc wz) (fun _ i' _ => ss.length - (intOf i').toNat)
   case atStart => exact ⟨0, b3, out1, Nat.zero_le _, rfl, HAS.out, fun x => by rw [HMM.out]; simp, by omega, HRC.out, Below.refl _ _⟩
   case round =>
    obtain ⟨m, b5, o, hm, rfl, hasc, hmem, hlo, hro, hbz⟩ := hrel
    have LZ := HLB.out.below hbz
    have l1 : wr.cell? ⟨lb, 1, none⟩ = some (.slice al ss.length cl) := LZ.c1
    obtain ⟨ao, co, rfl, _⟩ := row_form hro
    have HME := hid hmem
    have HBZ := hid hbz
    by_cases hltm : m < ss.length
    ·have hok : ok = true := by
      cases ok with
      | true => rfl
      | false => have := HNOK.out rfl; rw [this] at hltm; simp at hltm
     subst hok
     obtain ⟨al', cl', e', hcl⟩ := ((Reads.of_row HRL.out).below hbz).form
     cases e'
     obtain ⟨b6, o6, rfl, hb6, hc6⟩ := hcl m hltm
     have hx6 : wr.cell? ⟨b6, o6 + m, none⟩ = some (.string (tv ss m)) := hc6
     have HTK : Hid (∀ x, x ∈ ss.take (m + 1) ↔ x ∈ ss.take m ∨ x = tv ss m) := fun x => by
      rw [List.take_succ_eq_append_getElem hltm, List.mem_append, List.mem_singleton]
      have e : tv ss m = ss[m] := by simp [tv, hltm]
      rw [e]
     generalize tv ss m = y at hx6 HTK
     have HAD := hid (l4Add_any (.slice ao o.length co) o y b5 wr hro hasc (by omega))
     have HRO := hid hro
     have HASO := hid hasc
     clear hcl hc6 hb6 hro hasc hmem hbz LZ
     go_wp2_with fail
     refine HAD.out.mono ?_
     rintro e w3 ⟨v3, rfl, hor, hb3⟩
     obtain ⟨b7, hrow3⟩ := add_row HRO.out hb3 hor
     have hl3 := putT_len y o
     have HAS3 := hid (putT_asc (s := y) HASO.out)
     have HMM3 : Hid (∀ x, x ∈ putT y o ↔ (x = p ∨ NeedTo wd its ts k x) ∨ x ∈ ss.take (m + 1)) := fun x => by
      rw [putT_mem, HME.out, HTK.out]
      constructor
      ·rintro (h | h | h)
       ·exact .inr (.inr h)
       ·exact .inl h
       ·exact .inr (.inl h)
      ·rintro (h | h | h)
       ·exact .inr (.inl h)
       ·exact .inr (.inr h)
       ·exact .inl h
     obtain ⟨a3, c3, rfl, _⟩ := row_form hrow3
     have HR3 := hid hrow3
     have HB3 := hid (HBZ.out.trans (hb3.mono HBZ.out.size))
     clear hor hb3 hrow3 hx6 l1
     go_wp2
     go_roundw
     case rel => exact ⟨m + 1, b7, _, by omega, by go_num, HAS3.out, HMM3.out, by omega, HR3.out, HB3.out⟩
     case measure => simp [intOf]; omega
    ·obtain rfl : m = ss.length := by omega
     have HNX : Hid (NeedR wd its ts (k + 1) o) := ⟨hasc, fun x => by
      rw [HME.out, HSUC.out, HXN.out, List.take_length]
      constructor
      ·rintro ((h | h) | h)
       ·exact .inr (.inl h)
       ·exact .inl h
       ·exact .inr (.inr h)
      ·rintro (h | h | h)
       ·exact .inl (.inr h)
       ·exact .inl (.inl h)
       ·exact .inr h⟩
     have HRO := hid hro
     have HBO := hid (HDC.out.trans (hbz.mono HDC.out.size))
     clear hro hasc hmem hbz LZ
     cases ok <;>
     ·go_wp2
      go_roundw
      case rel => exact ⟨k + 1, b5, o, by omega, by go_num, HNX.out, by omega, HRO.out, HBO.out⟩
      case measure => simp [intOf]; omega
end Go.Proofs.YtkjdabnglcabiaaGreatDoor
