import Derived.Test.YtffpdgpcjgfgcaaGreatDoorToItems
import Derived.Test.YtffpdgpcjgfgcaaGreatDoorHeld
import Derived.Test.YtffpdgpcjgfgcaaGreatDoorHeapMath
/- Stores as arguments: how large, copies, whether two are the same. -/
namespace Go.Proofs.YtffpdgpcjgfgcaaGreatDoor
open Go.RowKit
structure Store4 (u : World) (b : Nat) (T : TypeId) (c0 c1 c2 c3 d0 d1 d2 d3 : Value) : Prop where
  a0 : u.cell? ⟨b, 0, none⟩ = some c0
  f0 : u.frozen? ⟨b, 0, none⟩ = false
  a1 : (u.setCell ⟨b, 0, none⟩ d0).cell? ⟨b, 1, none⟩ = some c1
  f1 : (u.setCell ⟨b, 0, none⟩ d0).frozen? ⟨b, 1, none⟩ = false
  a2 : ((u.setCell ⟨b, 0, none⟩ d0).setCell ⟨b, 1, none⟩ d1).cell? ⟨b, 2, none⟩ = some c2
  f2 : ((u.setCell ⟨b, 0, none⟩ d0).setCell ⟨b, 1, none⟩ d1).frozen? ⟨b, 2, none⟩ = false
  a3 : (((u.setCell ⟨b, 0, none⟩ d0).setCell ⟨b, 1, none⟩ d1).setCell ⟨b, 2, none⟩ d2).cell? ⟨b, 3, none⟩ = some c3
  f3 : (((u.setCell ⟨b, 0, none⟩ d0).setCell ⟨b, 1, none⟩ d1).setCell ⟨b, 2, none⟩ d2).frozen? ⟨b, 3, none⟩ = false
  z : Blk ((((u.setCell ⟨b, 0, none⟩ d0).setCell ⟨b, 1, none⟩ d1).setCell ⟨b, 2, none⟩ d2).setCell ⟨b, 3, none⟩ d3) b T #[d0, d1, d2, d3]
theorem Blk.store4 {u : World} {b : Nat} {T : TypeId} {c0 c1 c2 c3 : Value} (h : Blk u b T #[c0, c1, c2, c3]) (d0 d1 d2 d3 : Value) : Store4 u b T c0 c1 c2 c3 d0 d1 d2 d3 where
  a0 := h.cell 0
  f0 := h.fz 0
  a1 := (h.set 0 d0).cell 1
  f1 := (h.set 0 d0).fz 1
  a2 := ((h.set 0 d0).set 1 d1).cell 2
  f2 := ((h.set 0 d0).set 1 d1).fz 2
  a3 := (((h.set 0 d0).set 1 d1).set 2 d2).cell 3
  f3 := (((h.set 0 d0).set 1 d1).set 2 d2).fz 3
  z := ((((h.set 0 d0).set 1 d1).set 2 d2).set 3 d3)

set_option maxRecDepth 100000 in
set_option maxHeartbeats 400000 in
theorem eqItem_any (t : ByteArray) (u : Int) (w : World) :
    Calls Tryz.prog 57 #[.agg #[.string t, .int .i64 u], .agg #[.string t, .int .i64 u]] w fun e w' => e = .returned (.bool true) ∧ Below w.heap.size w w' := by
  go_enter Tryz.func57, Tryz.ntmps57
  go_wp2
  go_ret
  exact ⟨by simp, ((Below.refl _ _).alloc (Nat.le_refl _) _).alloc (by simp) _⟩
set_option maxRecDepth 100000 in
set_option maxHeartbeats 1000000 in
theorem eqItemS_any (va vb : Value) (its : Itms) (w : World) (ha : RdI w va its) (hb : RdI w vb its) (hl : its.length ≤ maxLen) :
    Calls Tryz.prog 29 #[va, vb] w fun e w' => e = .returned (.bool true) ∧ Below w.heap.size w w' := by
  unfold maxLen at hl
  obtain ⟨a, ca, rfl, hca⟩ := ha
  obtain ⟨b, cb, rfl, hcb⟩ := hb
  have HCA := hid hca
  have HCB := hid hcb
  have HE := hid fun t u W => eqItem_any t u W
  clear hca hcb
  go_enter Tryz.func29, Tryz.ntmps29
  go_wp2
  go_loopw [5] (fun i wr => ∃ k : Nat, k ≤ its.length ∧ i = .int .i64 k ∧ Below w.heap.size w wr) (fun i _ => its.length - (intOf i).toNat)
  case atStart => exact ⟨0, Nat.zero_le _, rfl, Below.refl _ _⟩
  case round =>
    obtain ⟨k, hk, rfl, hbl⟩ := hrel
    by_cases hlt : k < its.length
    · obtain ⟨b1, o1, rfl, hb1, hx1, hy1⟩ := HCA.out k hlt
      obtain ⟨b2, o2, rfl, hb2, hx2, hy2⟩ := HCB.out k hlt
      have p1 := (hbl.cell (p := ⟨b1, o1 + k * 2, none⟩) hb1).trans hx1
      have q1 := (hbl.cell (p := ⟨b1, o1 + k * 2 + 1, none⟩) hb1).trans hy1
      have p2 := (hbl.cell (p := ⟨b2, o2 + k * 2, none⟩) hb2).trans hx2
      have q2 := (hbl.cell (p := ⟨b2, o2 + k * 2 + 1, none⟩) hb2).trans hy2
      have hc1 : b1 < wr.heap.size := Nat.lt_of_lt_of_le hb1 hbl.size
      have hc2 : b2 < wr.heap.size := Nat.lt_of_lt_of_le hb2 hbl.size
      generalize itx its k = t at *
      generalize itu its k = u at *
      have HBL := hid hbl
      clear hx1 hy1 hx2 hy2 hbl hb1 hb2
      go_wp2_with fail
      refine wp_region_held (S := fun w' => w'.cell? ⟨b1, o1 + k * 2, none⟩ = some (.string t) ∧ w'.cell? ⟨b1, o1 + k * 2 + 1, none⟩ = some (.int .i64 u) ∧ w'.cell? ⟨b2, o2 + k * 2, none⟩ = some (.string t) ∧ w'.cell? ⟨b2, o2 + k * 2 + 1, none⟩ = some (.int .i64 u)) (by kernel_rfl) ?_
      change wpAnyH _ _ _ _ _ _ _ _ (World.drew _)
      have hS0 : wr.drew.cell? ⟨b1, o1 + k * 2, none⟩ = some (.string t) ∧ wr.drew.cell? ⟨b1, o1 + k * 2 + 1, none⟩ = some (.int .i64 u) ∧ wr.drew.cell? ⟨b2, o2 + k * 2, none⟩ = some (.string t) ∧ wr.drew.cell? ⟨b2, o2 + k * 2 + 1, none⟩ = some (.int .i64 u) := ⟨p1, q1, p2, q2⟩
      refine wpAnyH_take (i := 0) (v := .slice (some ⟨b1, o1, none⟩) its.length ca) rfl (by kernel_rfl) (by kernel_rfl) (by kernel_rfl) (fun _ _ _ h => h) (.inl ⟨rfl, fun w' hS => by obtain ⟨s1, s2, s3, s4⟩ := hS; go_simp⟩) hS0 ?_
      refine wpAnyH_take (i := 1) (v := .int .i64 (k : Nat)) rfl (by kernel_rfl) (by kernel_rfl) (by kernel_rfl) (fun _ _ _ h => h) (.inl ⟨rfl, fun w' hS => by obtain ⟨s1, s2, s3, s4⟩ := hS; go_simp⟩) hS0 ?_
      refine wpAnyH_take (i := 2) (v := .pointer (some ⟨b1, o1 + k * 2, none⟩)) rfl (by kernel_rfl) (by kernel_rfl) (by kernel_rfl) (fun _ _ _ h => h) (.inl ⟨rfl, fun w' hS => by obtain ⟨s1, s2, s3, s4⟩ := hS; go_simp⟩) hS0 ?_
      refine wpAnyH_take (i := 3) (v := .agg #[.string t, .int .i64 u]) rfl (by kernel_rfl) (by kernel_rfl) (by kernel_rfl) (fun _ _ _ h => h) (.inl ⟨rfl, fun w' hS => by obtain ⟨s1, s2, s3, s4⟩ := hS; go_simp⟩) hS0 ?_
      refine wpAnyH_take (i := 4) (v := .slice (some ⟨b2, o2, none⟩) its.length cb) rfl (by kernel_rfl) (by kernel_rfl) (by kernel_rfl) (fun _ _ _ h => h) (.inl ⟨rfl, fun w' hS => by obtain ⟨s1, s2, s3, s4⟩ := hS; go_simp⟩) hS0 ?_
      refine wpAnyH_take (i := 5) (v := .int .i64 (k : Nat)) rfl (by kernel_rfl) (by kernel_rfl) (by kernel_rfl) (fun _ _ _ h => h) (.inl ⟨rfl, fun w' hS => by obtain ⟨s1, s2, s3, s4⟩ := hS; go_simp⟩) hS0 ?_
      refine wpAnyH_take (i := 6) (v := .pointer (some ⟨b2, o2 + k * 2, none⟩)) rfl (by kernel_rfl) (by kernel_rfl) (by kernel_rfl) (fun _ _ _ h => h) (.inl ⟨rfl, fun w' hS => by obtain ⟨s1, s2, s3, s4⟩ := hS; go_simp⟩) hS0 ?_
      refine wpAnyH_take (i := 7) (v := .agg #[.string t, .int .i64 u]) rfl (by kernel_rfl) (by kernel_rfl) (by kernel_rfl) (fun _ _ _ h => h) (.inl ⟨rfl, fun w' hS => by obtain ⟨s1, s2, s3, s4⟩ := hS; go_simp⟩) hS0 ?_
      have hec := enters_of Tryz.func57 (by kernel_rfl) rfl
      refine held_one 8 (by kernel_rfl) (op_calls (f := 57) (args := #[.agg #[.string t, .int .i64 u], .agg #[.string t, .int .i64 u]]) rfl rfl (by go_simp) (HE.out t u _) ?_)
      rintro e w1 ⟨rfl, hb1⟩
      have hb1' : Below wr.heap.size wr w1 := ⟨hb1.os, hb1.tape, hb1.output, hb1.size, hb1.block⟩
      have hS1 : w1.cell? ⟨b1, o1 + k * 2, none⟩ = some (.string t) ∧ w1.cell? ⟨b1, o1 + k * 2 + 1, none⟩ = some (.int .i64 u) ∧ w1.cell? ⟨b2, o2 + k * 2, none⟩ = some (.string t) ∧ w1.cell? ⟨b2, o2 + k * 2 + 1, none⟩ = some (.int .i64 u) := ⟨(hb1'.cell (p := ⟨b1, o1 + k * 2, none⟩) hc1).trans p1, (hb1'.cell (p := ⟨b1, o1 + k * 2 + 1, none⟩) hc1).trans q1, (hb1'.cell (p := ⟨b2, o2 + k * 2, none⟩) hc2).trans p2, (hb1'.cell (p := ⟨b2, o2 + k * 2 + 1, none⟩) hc2).trans q2⟩
      have HB1 := hid (HBL.out.trans (hb1'.mono HBL.out.size))
      clear hb1 hb1' hS0 p1 q1 p2 q2
      refine ⟨_, rfl, hS1, ?_⟩
      refine wpAnyH_take (i := 9) (v := .bool false) rfl (by kernel_rfl) (by kernel_rfl) (by kernel_rfl) (fun _ _ _ h => h) (.inl ⟨rfl, fun w' hS => by obtain ⟨s1, s2, s3, s4⟩ := hS; go_simp⟩) hS1 ?_
      refine wpAnyH_done (by kernel_rfl) ?_ _
      clear hS1
      go_simp
      go_wp2
      go_roundw
      case rel => exact ⟨k + 1, by omega, by go_num, HB1.out⟩
      case measure => simp [intOf]; omega
    · go_wp2
      go_ret
      exact ⟨by simp, hbl⟩
set_option maxRecDepth 100000 in
set_option maxHeartbeats 400000 in
theorem szStore_any (wd room : Int) (vi vp : Value) (its : Itms) (ts : List ByteArray) (w : World) (hi : RdI w vi its) (hp : Reads w vp ts) (hli : its.length ≤ maxLen) (hlp : ts.length ≤ maxLen) (hsi : ∀ i, (itx its i).size ≤ maxLen) (hsp : ∀ i, (tv ts i).size ≤ maxLen) :
    Calls Tryz.prog 5 #[.agg #[.int .i64 wd, .int .i64 room, vi, vp], .int .i64 1048576] w fun e w' => ∃ r : Int, e = .returned (.int .i64 r) ∧ (0 ≤ r → its.length ≤ 1048576 ∧ (∀ i, (itx its i).size ≤ 1048576) ∧ ts.length ≤ 1048576 ∧ ∀ i, (tv ts i).size ≤ 1048576) ∧ Below w.heap.size w w' := by
  have hA := (Below.refl w.heap.size w).alloc (Nat.le_refl _) (.cells #[.int .i64 wd, .int .i64 room, vi, vp] 25)
  have HI := hid (szItemS_any vi its 1048576 _ (hi.below hA) hli hsi (by omega))
  have HP := hid fun (L : Nat) (hL : L ≤ 1048576) W h => szStrs_any vp ts L W h hlp hsp hL
  have HRP := hid (hp.below hA)
  have HN := hid (Blk.new w 25 #[.int .i64 wd, .int .i64 room, vi, vp])
  have HA := hid hA
  obtain ⟨ai, ci, rfl, _⟩ := hi
  obtain ⟨ap, cp, rfl, _⟩ := hp.form
  clear hp hsi hsp hA
  go_enter Tryz.func5, Tryz.ntmps5
  go_wp2_with fail
  refine HI.out.mono ?_
  rintro e w1 ⟨r, rfl, hr1, hr, hb1⟩
  have B1 := HA.out.trans (hb1.mono (by simp))
  by_cases h0 : r < 0
  · clear hr
    have HB := hid B1
    clear hb1 B1
    go_wp2
    go_ret
    exact ⟨-1, rfl, fun h => by omega, HB.out⟩
  · obtain ⟨hl1, hs1⟩ := hr (by omega)
    obtain ⟨L, rfl⟩ := Int.eq_ofNat_of_zero_le (show 0 ≤ r by omega)
    have HP1 := hid (HP.out L (by omega) w1 (HRP.out.below hb1))
    have N1 := HN.out.below hb1
    have c3 : w1.cell? ⟨w.heap.size, 3, none⟩ = some (.slice ap ts.length cp) := N1.cell 3
    have HB := hid B1
    have HL1 := hid hl1
    have HS1 := hid hs1
    clear hb1 B1 hr hl1 hs1 N1
    go_wp2_with fail
    refine HP1.out.mono ?_
    rintro e w2 ⟨r2, rfl, hr2, hrr, rfl⟩
    have HRR := hid hrr
    clear hrr
    by_cases h2 : r2 < 0
    · go_wp2
      go_ret
      exact ⟨-1, rfl, fun h => by omega, HB.out⟩
    · go_wp2
      go_ret
      exact ⟨r2, rfl, fun h => ⟨HL1.out, HS1.out, Nat.le_trans (HRR.out h).1 (by omega), fun i => Nat.le_trans ((HRR.out h).2 i) (by omega)⟩, HB.out⟩
end Go.Proofs.YtffpdgpcjgfgcaaGreatDoor
/- Copies of stores; whether two are the same. -/
namespace Go.Proofs.YtffpdgpcjgfgcaaGreatDoor
open Go.RowKit
set_option maxRecDepth 100000 in
set_option maxHeartbeats 1000000 in
theorem toStore_any (wd room : Int) (vi vp : Value) (its : Itms) (ts : List ByteArray) (w : World) (hi : RdI w vi its) (hp : Reads w vp ts) (hli : its.length ≤ 1048576) (hlp : ts.length ≤ 1048576) :
    Calls Tryz.prog 7 #[.agg #[.int .i64 wd, .int .i64 room, vi, vp]] w fun e w' => ∃ vi' vp', e = .returned (.agg #[.int .i64 wd, .int .i64 room, vi', vp']) ∧ OwnI w' w.heap.size vi' its ∧ w'.ownsRow w.heap.size 9 1 vp' ts.length (ts.map Value.string) ∧ Below w.heap.size w w' := by
  have hN1 := ((Blk.new w 25 #[.int .i64 wd, .int .i64 room, vi, vp]).alloc (.cells #[.int .i64 0, .int .i64 0, .slice none 0 0, .slice none 0 0] 29)).alloc (.cells #[.int .i64 wd, .int .i64 room, .slice none 0 0, .slice none 0 0] 29)
  have hN2 := (Blk.new (w.alloc (.cells #[.int .i64 wd, .int .i64 room, vi, vp] 25)) 29 #[.int .i64 0, .int .i64 0, .slice none 0 0, .slice none 0 0]).alloc (.cells #[.int .i64 wd, .int .i64 room, .slice none 0 0, .slice none 0 0] 29)
  have hN3 := Blk.new ((w.alloc (.cells #[.int .i64 wd, .int .i64 room, vi, vp] 25)).alloc (.cells #[.int .i64 0, .int .i64 0, .slice none 0 0, .slice none 0 0] 29)) 29 #[.int .i64 wd, .int .i64 room, .slice none 0 0, .slice none 0 0]
  rw [World.size_alloc] at hN2
  rw [World.size_alloc, World.size_alloc] at hN3
  have hA := (((Below.refl w.heap.size w).alloc (Nat.le_refl _) (.cells #[.int .i64 wd, .int .i64 room, vi, vp] 25)).alloc (by simp) (.cells #[.int .i64 0, .int .i64 0, .slice none 0 0, .slice none 0 0] 29)).alloc (by simp; omega) (.cells #[.int .i64 wd, .int .i64 room, .slice none 0 0, .slice none 0 0] 29)
  have HI := hid (toItemS_any vi its _ (hi.below hA) hli)
  have HP := hid fun W h => toStrs_any vp ts W h hlp
  have HRP := hid hp
  obtain ⟨ai, ci, rfl, _⟩ := hi
  obtain ⟨ap, cp, rfl, _⟩ := hp.form
  have HN1 := hid hN1
  have HN2 := hid hN2
  have HN3 := hid hN3
  have HA := hid hA
  clear hp hA hN1 hN2 hN3
  go_enter Tryz.func7, Tryz.ntmps7
  go_wp2_with fail
  refine HI.out.mono ?_
  rintro e w1 ⟨v1, rfl, ho1, hb1⟩
  have N1 := HN1.out.below hb1
  have N2 := HN2.out.below hb1
  have N3 := HN3.out.below hb1
  have B1 := HA.out.trans (hb1.mono (by simp; omega))
  obtain ⟨g, rfl, hg, hG⟩ := ho1
  rw [World.size_alloc, World.size_alloc, World.size_alloc] at hg
  have x2 : w1.cell? ⟨w.heap.size + 1 + 1, 2, none⟩ = some (.slice none 0 0) := N3.cell 2
  have x3 := N3.fz 2
  have M3 := N3.set 2 (.slice (some ⟨g, 0, none⟩) its.length its.length)
  have g1 := grownBy_setCellAt w1 (w.heap.size + 1 + 1) 2 (.slice (some ⟨g, 0, none⟩) its.length its.length)
  have M1 := N1.kept g1 (fun e => by simp at e; omega)
  have M2 := N2.kept g1 (fun e => by simp at e)
  have MG := hG.kept g1 (fun e => by simp at e; omega)
  have MB := B1.setCell (p := ⟨w.heap.size + 1 + 1, 2, none⟩) (by simp; omega) (.slice (some ⟨g, 0, none⟩) its.length its.length)
  have HP2 := hid (HP.out _ (HRP.out.below MB))
  have y3 : (w1.setCell ⟨w.heap.size + 1 + 1, 2, none⟩ (.slice (some ⟨g, 0, none⟩) its.length its.length)).cell? ⟨w.heap.size, 3, none⟩ = some (.slice ap ts.length cp) := M1.cell 3
  have hs1 := B1.size
  have hlt3 := N3.lt
  clear N1 N2 N3 B1 hb1 g1 hG
  go_wp2_with fail
  refine HP2.out.mono ?_
  rintro e w2 ⟨v2, rfl, ho2, hb2⟩
  obtain ⟨a2, c2, rfl, _⟩ := row_form ho2
  have K2 := M2.below hb2
  have K3 := M3.below hb2
  have KG := MG.below hb2
  have KB := MB.trans (hb2.mono MB.size)
  have hsz2 : w.heap.size + 1 + 1 < (w1.setCell ⟨w.heap.size + 1 + 1, 2, none⟩ (.slice (some ⟨g, 0, none⟩) its.length its.length)).heap.size := M3.lt
  have z2 : w2.cell? ⟨w.heap.size + 1 + 1, 3, none⟩ = some (.slice none 0 0) := K3.cell 3
  have z3 := K3.fz 3
  have L3 := K3.set 3 (.slice a2 ts.length c2)
  have g2 := grownBy_setCellAt w2 (w.heap.size + 1 + 1) 3 (.slice a2 ts.length c2)
  have L2 := K2.kept g2 (fun e => by simp at e)
  have LG := KG.kept g2 (fun e => by simp at e; omega)
  have LB := KB.setCell (p := ⟨w.heap.size + 1 + 1, 3, none⟩) (by simp; omega) (.slice a2 ts.length c2)
  have LO := row_kept ho2 g2 (by omega)
  have l0 : (w2.setCell ⟨w.heap.size + 1 + 1, 3, none⟩ (.slice a2 ts.length c2)).cell? ⟨w.heap.size + 1 + 1, 0, none⟩ = some (.int .i64 wd) := L3.cell 0
  have l1 : (w2.setCell ⟨w.heap.size + 1 + 1, 3, none⟩ (.slice a2 ts.length c2)).cell? ⟨w.heap.size + 1 + 1, 1, none⟩ = some (.int .i64 room) := L3.cell 1
  have l2 : (w2.setCell ⟨w.heap.size + 1 + 1, 3, none⟩ (.slice a2 ts.length c2)).cell? ⟨w.heap.size + 1 + 1, 2, none⟩ = some (.slice (some ⟨g, 0, none⟩) its.length its.length) := L3.cell 2
  have l3 : (w2.setCell ⟨w.heap.size + 1 + 1, 3, none⟩ (.slice a2 ts.length c2)).cell? ⟨w.heap.size + 1 + 1, 3, none⟩ = some (.slice a2 ts.length c2) := L3.cell 3
  have s := L2.store4 (.int .i64 wd) (.int .i64 room) (.slice (some ⟨g, 0, none⟩) its.length its.length) (.slice a2 ts.length c2)
  have s0 := s.a0; have s1 := s.a1; have s2 := s.a2; have s3 := s.a3
  have f0 := s.f0; have f1 := s.f1; have f2 := s.f2; have f3 := s.f3
  have Z := hid s.z
  have BB := hid ((((LB.setCell (p := ⟨w.heap.size + 1, 0, none⟩) (by simp) (.int .i64 wd)).setCell (p := ⟨w.heap.size + 1, 1, none⟩) (by simp) (.int .i64 room)).setCell (p := ⟨w.heap.size + 1, 2, none⟩) (by simp) (.slice (some ⟨g, 0, none⟩) its.length its.length)).setCell (p := ⟨w.heap.size + 1, 3, none⟩) (by simp) (.slice a2 ts.length c2))
  have OO := hid (row_kept (row_kept (row_kept (row_kept LO (grownBy_setCellAt _ (w.heap.size + 1) 0 (.int .i64 wd)) (by omega)) (grownBy_setCellAt _ (w.heap.size + 1) 1 (.int .i64 room)) (by omega)) (grownBy_setCellAt _ (w.heap.size + 1) 2 (.slice (some ⟨g, 0, none⟩) its.length its.length)) (by omega)) (grownBy_setCellAt _ (w.heap.size + 1) 3 (.slice a2 ts.length c2)) (by omega))
  have GG := hid ((((LG.kept (grownBy_setCellAt _ (w.heap.size + 1) 0 (.int .i64 wd)) (fun e => by simp at e; omega)).kept (grownBy_setCellAt _ (w.heap.size + 1) 1 (.int .i64 room)) (fun e => by simp at e; omega)).kept (grownBy_setCellAt _ (w.heap.size + 1) 2 (.slice (some ⟨g, 0, none⟩) its.length its.length)) (fun e => by simp at e; omega)).kept (grownBy_setCellAt _ (w.heap.size + 1) 3 (.slice a2 ts.length c2)) (fun e => by simp at e; omega))
  clear s K2 K3 KG KB g2 L2 LG LB LO ho2 hb2 L3 M1 M2 M3 MG MB x2 x3 y3 HP2
  go_wp2
  refine bodyPost_ret (v := .agg #[.int .i64 wd, .int .i64 room, .slice (some ⟨g, 0, none⟩) its.length its.length, .slice a2 ts.length c2]) (by simp [results, Tryz.results7, go_sem, Z.out.cell]) rfl ⟨_, _, rfl, ⟨g, rfl, by omega, GG.out⟩, ownsRow_base OO.out (by omega), BB.out⟩
set_option maxRecDepth 100000 in
set_option maxHeartbeats 400000 in
theorem eqStore_any (wd room : Int) (vi vp vj vq : Value) (its : Itms) (ts : List ByteArray) (w : World) (hi : RdI w vi its) (hp : Reads w vp ts) (hj : RdI w vj its) (hq : Reads w vq ts) (hli : its.length ≤ maxLen) (hlp : ts.length ≤ maxLen) :
    Calls Tryz.prog 9 #[.agg #[.int .i64 wd, .int .i64 room, vi, vp], .agg #[.int .i64 wd, .int .i64 room, vj, vq]] w fun e w' => e = .returned (.bool true) ∧ Below w.heap.size w w' := by
  have hA := ((Below.refl w.heap.size w).alloc (Nat.le_refl _) (.cells #[.int .i64 wd, .int .i64 room, vi, vp] 29)).alloc (by simp) (.cells #[.int .i64 wd, .int .i64 room, vj, vq] 29)
  have HE := hid (eqItemS_any vi vj its _ (hi.below hA) (hj.below hA) hli)
  have HF := hid fun W h k => eqStringS_any vp vq ts W h k hlp
  have HP := hid (hp.below hA)
  have HQ := hid (hq.below hA)
  have HN1 := hid ((Blk.new w 29 #[.int .i64 wd, .int .i64 room, vi, vp]).alloc (.cells #[.int .i64 wd, .int .i64 room, vj, vq] 29))
  have hN2 := Blk.new (w.alloc (.cells #[.int .i64 wd, .int .i64 room, vi, vp] 29)) 29 #[.int .i64 wd, .int .i64 room, vj, vq]
  rw [World.size_alloc] at hN2
  have HN2 := hid hN2
  obtain ⟨ai, ci, rfl, _⟩ := hi
  obtain ⟨aj, cj, rfl, _⟩ := hj
  obtain ⟨ap, cp, rfl, _⟩ := hp.form
  obtain ⟨aq, cq, rfl, _⟩ := hq.form
  have HA := hid hA
  clear hp hq hA hN2
  go_enter Tryz.func9, Tryz.ntmps9
  go_wp2_with fail
  refine HE.out.mono ?_
  rintro e w1 ⟨rfl, hb1⟩
  have c1 : w1.cell? ⟨w.heap.size, 3, none⟩ = some (.slice ap ts.length cp) := (HN1.out.below hb1).cell 3
  have c2 : w1.cell? ⟨w.heap.size + 1, 3, none⟩ = some (.slice aq ts.length cq) := (HN2.out.below hb1).cell 3
  have HF1 := hid (HF.out w1 (HP.out.below hb1) (HQ.out.below hb1))
  have HB := hid (HA.out.trans (hb1.mono (by simp; omega)))
  clear hb1
  go_wp2_with fail
  refine HF1.out.mono ?_
  rintro e w2 ⟨rfl, hb2⟩
  have HB2 := hid (HB.out.trans (hb2.mono HB.out.size))
  clear hb2
  go_wp2
  go_ret
  exact ⟨by simp, HB2.out⟩
end Go.Proofs.YtffpdgpcjgfgcaaGreatDoor
/- spec.l4Bytes; what a valid store is. -/
namespace Go.Proofs.YtffpdgpcjgfgcaaGreatDoor
open Go.RowKit
/-- How many bytes items have together. -/
def totI : Itms → Nat
  | [] => 0
  | p :: r => p.1.size + totI r
theorem totI_append : ∀ (a b : Itms), totI (a ++ b) = totI a + totI b
  | [], b => by simp [totI]
  | p :: a, b => by simp [totI, totI_append a b]; omega
theorem totI_take (its : Itms) (k : Nat) (h : k < its.length) : totI (its.take (k + 1)) = totI (its.take k) + (itx its k).size := by
  rw [List.take_add_one, totI_append, List.getElem?_eq_getElem h]
  simp [totI, itx, h]
theorem totI_mono (its : Itms) (k : Nat) : totI (its.take k) ≤ totI its := by
  have := totI_append (its.take k) (its.drop k)
  rw [List.take_append_drop] at this
  omega
theorem totI_le (M : Nat) : ∀ its : Itms, (∀ i, i < its.length → (itx its i).size ≤ M) → totI its ≤ its.length * M
  | [], _ => by simp [totI]
  | p :: r, h => by
    have h0 : p.1.size ≤ M := by simpa [itx] using h 0 (by simp)
    have ih := totI_le M r fun i hi => by simpa [itx] using h (i + 1) (by simpa using hi)
    simp only [totI, List.length_cons, Nat.succ_mul]
    omega
/-- The sum of a text. -/
def sumX (n : Int) (p : ByteArray) : ByteArray := ⟨(sumOf p.data.toList n).toArray⟩
def itemOk (n : Int) (its : Itms) (i : Nat) : Prop :=
  (1 ≤ (itx its i).size ∧ (itx its i).size ≤ 7000) ∧ (0 ≤ itu its i ∧ itu its i ≤ 1000000) ∧ (0 < i → tlt (sumX n (itx its (i - 1))) (sumX n (itx its i)) = true)
/-- A valid store. -/
structure ValidSt (wd room : Int) (its : Itms) (ts : List ByteArray) : Prop where
  width : isW wd = true
  room0 : 0 ≤ room
  room1 : room ≤ 60000
  items : its.length ≤ 1000
  pins : ts.length ≤ 10
  each : ∀ i, i < its.length → itemOk wd its i
  sums : okSums wd ts
  fits : (totI its : Int) ≤ room
set_option maxRecDepth 100000 in
set_option maxHeartbeats 1000000 in
theorem l4Bytes_any (wd room : Int) (vi vp : Value) (its : Itms) (w : World) (hi : RdI w vi its) (hp : ∃ a l c, vp = .slice a l c) (hl : its.length ≤ 1000) (hsz : ∀ i, i < its.length → (itx its i).size ≤ 7000) :
    Calls Tryz.prog 22 #[.agg #[.int .i64 wd, .int .i64 room, vi, vp]] w fun e w' => e = .returned (.int .i64 (totI its : Nat)) ∧ Below w.heap.size w w' := by
  obtain ⟨ap, lp, cp, rfl⟩ := hp
  have HTL := hid (totI_le 7000 its hsz)
  have HRI := hid hi
  obtain ⟨a, ca, rfl, _⟩ := hi
  have HN := hid (Blk.new w 29 #[.int .i64 wd, .int .i64 room, .slice a its.length ca, .slice ap lp cp])
  have HA := hid ((Below.refl w.heap.size w).alloc (Nat.le_refl _) (.cells #[.int .i64 wd, .int .i64 room, .slice a its.length ca, .slice ap lp cp] 29))
  have HSZ := hid hsz
  clear hsz
  go_enter Tryz.func22, Tryz.ntmps22
  go_wp2
  go_loop [3, 4] (fun n i => ∃ k : Nat, k ≤ its.length ∧ i = .int .i64 k ∧ n = .int .i64 (totI (its.take k) : Nat)) (fun _ i => its.length - (intOf i).toNat)
  case atStart => exact ⟨0, Nat.zero_le _, rfl, rfl⟩
  case round =>
    obtain ⟨k, hk, rfl, rfl⟩ := hrel
    by_cases hlt : k < its.length
    · obtain ⟨a', c', e, hc⟩ := HRI.out.below HA.out
      cases e
      obtain ⟨b, o, rfl, hb, h1, _⟩ := hc k hlt
      have hz := HSZ.out k hlt
      have HT := hid (totI_take its k hlt)
      have ht := totI_mono its k
      have htt := HTL.out
      have hbig : totI (its.take k) ≤ 7000000 := by omega
      generalize itx its k = t at *
      generalize totI (its.take k) = n at *
      clear hc ht htt
      go_wp2
      go_round
      case rel => exact ⟨k + 1, by omega, by go_num, by rw [HT.out]; go_num⟩
      case measure => simp [intOf]; omega
    · obtain rfl : k = its.length := by omega
      rw [List.take_length] at *
      have HB := HA
      go_wp2
      go_ret
      exact ⟨rfl, HB.out⟩
end Go.Proofs.YtffpdgpcjgfgcaaGreatDoor
