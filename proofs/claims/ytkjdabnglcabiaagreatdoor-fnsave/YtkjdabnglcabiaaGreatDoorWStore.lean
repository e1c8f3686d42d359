import Derived.Test.YtkjdabnglcabiaaGreatDoorHeapMath
import Derived.BigQuiet
import Derived.Test.YtkjdabnglcabiaaGreatDoorStoreSpec
import Derived.Test.YtkjdabnglcabiaaGreatDoorToItems
/- laws.wList: two lists are the same. -/
namespace Go.Proofs.YtkjdabnglcabiaaGreatDoor
open Go.RowKit
set_option maxRecDepth 100000 in
set_option maxHeartbeats 400000 in
theorem wTexts_same (va vb : Value) (ps : List ByteArray) (w : World) (ha : Reads w va ps) (hb : Reads w vb ps) (hl : ps.length ≤ maxLen) :
  Calls Tryz.prog 29 #[va, vb] w fun e w' => e = .returned (.bool true) ∧ ∃ n, w' = w.drewN n := by
 unfold maxLen at hl
 obtain ⟨a, ca, rfl, hca⟩ := ha.form
 obtain ⟨b, cb, rfl, hcb⟩ := hb.form
 go_enter Tryz.func29, Tryz.ntmps29
 go_wp2
 go_loopw [5] (fun i wr => ∃ k n : Nat, k ≤ ps.length ∧ i = .int .i64 k ∧ wr = w.drewN n) (fun i _ => ps.length - (intOf i).toNat)
 case atStart => exact ⟨0, 0, Nat.zero_le _, rfl, rfl⟩
 case round =>
  obtain ⟨k, n, hk, rfl, hw⟩ := hrel
  by_cases hlt : k < ps.length
  ·obtain ⟨b1, o1, rfl, hb1, hc1⟩ := hca k hlt
   obtain ⟨b2, o2, rfl, hb2, hc2⟩ := hcb k hlt
   have hd1 : wr.cell? ⟨b1, o1 + k, none⟩ = _ := (by rw [hw]; rfl : wr.cell? ⟨b1, o1 + k, none⟩ = w.cell? ⟨b1, o1 + k, none⟩).trans hc1
   have hd2 : wr.cell? ⟨b2, o2 + k, none⟩ = _ := (by rw [hw]; rfl : wr.cell? ⟨b2, o2 + k, none⟩ = w.cell? ⟨b2, o2 + k, none⟩).trans hc2
   generalize ps.getD k ByteArray.empty = s at *
   have HW := hid hw
   clear hca hcb hc1 hc2 ha hb hw
   go_wp2
   go_quiet (fail)
   go_wp2
   go_roundw
   case rel => exact ⟨k + 1, n + nq, by omega, by go_num, by rw [HW.out, World.drewN_drewN]⟩
   case measure => simp [intOf]; omega
  ·have HW := hid hw
   clear hw
   go_wp2
   go_ret
   exact ⟨by simp, n, HW.out⟩
end Go.Proofs.YtkjdabnglcabiaaGreatDoor
/- laws.wStore: two stores are the same. -/
namespace Go.Proofs.YtkjdabnglcabiaaGreatDoor
open Go.RowKit
set_option maxRecDepth 100000 in
set_option maxHeartbeats 2000000 in
theorem wStore_same (wd room : Int) (vi vp ui up : Value) (its : Itms) (ts : List ByteArray) (w : World) (hi : RdI w vi its) (hp : Reads w vp ts) (ki : RdI w ui its) (kp : Reads w up ts) (hli : its.length ≤ 1048576) (hlp : ts.length ≤ 1048576) :
  Calls Tryz.prog 7 #[.agg #[.int .i64 wd, .int .i64 room, vi, vp], .agg #[.int .i64 wd, .int .i64 room, ui, up]] w fun e w' => e = .returned (.bool true) ∧ Below w.heap.size w w' := by
 obtain ⟨ai, ci, rfl, hci⟩ := hi
 obtain ⟨bi, di, rfl, kci⟩ := ki
 obtain ⟨ap, cp, rfl, _⟩ := hp.form
 obtain ⟨bp, dp, rfl, _⟩ := kp.form
 have hA := ((Below.refl w.heap.size w).alloc (Nat.le_refl _) (.cells #[.int .i64 wd, .int .i64 room, .slice ai its.length ci, .slice ap ts.length cp] 26)).alloc (by simp) (.cells #[.int .i64 wd, .int .i64 room, .slice bi its.length di, .slice bp ts.length dp] 26)
 have HN1 := hid ((Blk.new w 26 #[.int .i64 wd, .int .i64 room, .slice ai its.length ci, .slice ap ts.length cp]).alloc (.cells #[.int .i64 wd, .int .i64 room, .slice bi its.length di, .slice bp ts.length dp] 26))
 have hN2 := Blk.new (w.alloc (.cells #[.int .i64 wd, .int .i64 room, .slice ai its.length ci, .slice ap ts.length cp] 26)) 26 #[.int .i64 wd, .int .i64 room, .slice bi its.length di, .slice bp ts.length dp]
 rw [World.size_alloc] at hN2
 have HN2 := hid hN2
 have HE := hid (wTexts_same _ _ ts _ (hp.below hA) (kp.below hA) (by unfold maxLen; omega))
 have HA := hid hA
 have HI : Hid (RdI w (.slice ai its.length ci) its) := hid ⟨ai, ci, rfl, hci⟩
 have HK : Hid (RdI w (.slice bi its.length di) its) := hid ⟨bi, di, rfl, kci⟩
 clear hci kci hA hN2 hp kp
 go_enter Tryz.func7, Tryz.ntmps7
 go_wp2_with fail
 refine HE.out.mono ?_
 rintro e w1 ⟨rfl, m, hw1⟩
 have HB1 : Hid (Below w.heap.size w w1) := hid (HA.out.trans (by rw [hw1]; exact ⟨rfl, rfl, rfl, by simp, fun _ _ => rfl⟩))
 have HM1 : Hid (Blk w1 w.heap.size 26 #[.int .i64 wd, .int .i64 room, .slice ai its.length ci, .slice ap ts.length cp]) := hid (by rw [hw1]; exact HN1.out)
 have HM2 : Hid (Blk w1 (w.heap.size + 1) 26 #[.int .i64 wd, .int .i64 room, .slice bi its.length di, .slice bp ts.length dp]) := hid (by rw [hw1]; exact HN2.out)
 have x2 : w1.cell? ⟨w.heap.size, 2, none⟩ = some (.slice ai its.length ci) := HM1.out.cell 2
 have y2 : w1.cell? ⟨w.heap.size + 1, 2, none⟩ = some (.slice bi its.length di) := HM2.out.cell 2
 clear hw1 HN1 HN2 HE HA
 go_wp2
 clear x2 y2
 go_loopw [5] (fun i wr => ∃ k : Nat, k ≤ its.length ∧ i = .int .i64 k ∧ Below w1.heap.size w1 wr) (fun i _ => its.length - (intOf i).toNat)
 case atStart => exact ⟨0, Nat.zero_le _, rfl, Below.refl _ _⟩
 case round =>
  obtain ⟨k, hk, rfl, hbl⟩ := hrel
  have x2 : wr.cell? ⟨w.heap.size, 2, none⟩ = some (.slice ai its.length ci) := (HM1.out.below hbl).cell 2
  have y2 : wr.cell? ⟨w.heap.size + 1, 2, none⟩ = some (.slice bi its.length di) := (HM2.out.below hbl).cell 2
  by_cases hlt : k < its.length
  ·have HBW := hid (HB1.out.trans (hbl.mono HB1.out.size))
   obtain ⟨a', c', e', h'⟩ := (HI.out.below HB1.out).below hbl
   cases e'
   obtain ⟨g1, o1, rfl, hg1, h11, h12⟩ := h' k hlt
   obtain ⟨a'', c'', e'', h''⟩ := (HK.out.below HB1.out).below hbl
   cases e''
   obtain ⟨g2, o2, rfl, hg2, h21, h22⟩ := h'' k hlt
   generalize itx its k = s at *
   generalize itu its k = u at *
   have HBL := hid hbl
   clear h' h'' hbl
   go_wp2
   go_quiet (fail)
   go_wp2
   go_roundw
   case rel => exact ⟨k + 1, by omega, by go_num, below_drewN HBL.out nq⟩
   case measure => simp [intOf]; omega
  ·have HBW := hid (HB1.out.trans (hbl.mono HB1.out.size))
   clear hbl
   go_wp2
   go_ret
   exact ⟨by simp, HBW.out⟩
end Go.Proofs.YtkjdabnglcabiaaGreatDoor
