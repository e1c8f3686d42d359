import Derived.Test.YtlnkhbnbcmllaaaGreatToItems
import Derived.Test.YtlnkhbnbcmllaaaGreatShort
/- Stores as arguments: how large, copies, whether two are the same. -/
namespace Go.Proofs.YtlnkhbnbcmllaaaGreat
open Go.RowKit
structure Store4 (u : World) (b : Nat) (T : TypeId) (c0 c1 c2 c3 d0 d1 d2 d3 : Value) : Prop where
  a0 : u.cell? ⟨b, 0, none⟩ = some c0
  f0 : u.frozen? ⟨b, 0, none⟩ = false
  a1 : (u.setCell ⟨b, 0, none⟩ d0).cell? ⟨b, 1, none⟩ = some c1
  f1 : (u.setCell ⟨b, 0, none⟩ d0).frozen? ⟨b, 1, none⟩ = false
  a2 : ((u.setCell ⟨b, 0, none⟩ d0).setCell ⟨b, 1, none⟩ d1).cell? ⟨b, 2, none⟩ = some c2
  f2 : ((u.setCell ⟨b, 0, none⟩ d0).setCell ⟨b, 1, none⟩ d1).frozen? ⟨b, 2, none⟩ = false
  a3 : (((u.setCell ⟨b, 0, none⟩ d0).setCell ⟨b, 1, none⟩ d1).setCell ⟨b, 2, none⟩ d2).cell? ⟨b, 3, none⟩ = some c3
  f3 : (((u.setCell ⟨b, 0, none⟩ d0).setCell ⟨b, 1, none⟩ d1).setCell ⟨b, 2, none⟩ d2).frozen? ⟨b, 3, none⟩ = false
  z : Blk ((((u.setCell ⟨b, 0, none⟩ d0).setCell ⟨b, 1, none⟩ d1).setCell ⟨b, 2, none⟩ d2).setCell ⟨b, 3, none⟩ d3) b T #[d0, d1, d2, d3]
theorem Blk.store4 {u : World} {b : Nat} {T : TypeId} {c0 c1 c2 c3 : Value} (h : Blk u b T #[c0, c1, c2, c3]) (d0 d1 d2 d3 : Value) : Store4 u b T c0 c1 c2 c3 d0 d1 d2 d3 where
  a0 := h.cell 0
  f0 := h.fz 0
  a1 := (h.set 0 d0).cell 1
  f1 := (h.set 0 d0).fz 1
  a2 := ((h.set 0 d0).set 1 d1).cell 2
  f2 := ((h.set 0 d0).set 1 d1).fz 2
  a3 := (((h.set 0 d0).set 1 d1).set 2 d2).cell 3
  f3 := (((h.set 0 d0).set 1 d1).set 2 d2).fz 3
  z := ((((h.set 0 d0).set 1 d1).set 2 d2).set 3 d3)

set_option maxRecDepth 100000 in
set_option maxHeartbeats 400000 in
theorem eqItem_any (t : ByteArray) (u : Int) (w : World) :
    Calls Tryz.prog 88 #[.agg #[.string t, .int .i64 u], .agg #[.string t, .int .i64 u]] w fun e w' => e = .returned (.bool true) ∧ Below w.heap.size w w' := by
  go_enter Tryz.func88, Tryz.ntmps88
  go_wp2
  go_ret
  exact ⟨by simp, ((Below.refl _ _).alloc (Nat.le_refl _) _).alloc (by simp) _⟩
set_option maxRecDepth 100000 in
set_option maxHeartbeats 1000000 in
theorem eqItemS_any (va vb : Value) (its : Itms) (w : World) (ha : RdI w va its) (hb : RdI w vb its) (hl : its.length ≤ maxLen) :
    Calls Tryz.prog 61 #[va, vb] w fun e w' => e = .returned (.bool true) ∧ Below w.heap.size w w' := by
  unfold maxLen at hl
  obtain ⟨a, ca, rfl, hca⟩ := ha
  obtain ⟨b, cb, rfl, hcb⟩ := hb
  have HCA := hid hca
  have HCB := hid hcb
  have HE := hid fun t u W => eqItem_any t u W
  clear hca hcb
  go_enter Tryz.func61, Tryz.ntmps61
  go_wp2
  go_loopw [5] (fun i wr => ∃ k : Nat, k ≤ its.length ∧ i = .int .i64 k ∧ Below w.heap.size w wr) (fun i _ => its.length - (intOf i).toNat)
  case atStart => exact ⟨0, Nat.zero_le _, rfl, Below.refl _ _⟩
  case round =>
    obtain ⟨k, hk, rfl, hbl⟩ := hrel
    by_cases hlt : k < its.length
    · obtain ⟨b1, o1, rfl, hb1, hx1, hy1⟩ := HCA.out k hlt
      obtain ⟨b2, o2, rfl, hb2, hx2, hy2⟩ := HCB.out k hlt
      have p1 := (hbl.cell (p := ⟨b1, o1 + k * 2, none⟩) hb1).trans hx1
      have q1 := (hbl.cell (p := ⟨b1, o1 + k * 2 + 1, none⟩) hb1).trans hy1
      have p2 := (hbl.cell (p := ⟨b2, o2 + k * 2, none⟩) hb2).trans hx2
      have q2 := (hbl.cell (p := ⟨b2, o2 + k * 2 + 1, none⟩) hb2).trans hy2
      have hc1 : b1 < wr.heap.size := Nat.lt_of_lt_of_le hb1 hbl.size
      have hc2 : b2 < wr.heap.size := Nat.lt_of_lt_of_le hb2 hbl.size
      generalize itx its k = t at *
      generalize itu its k = u at *
      have HBL := hid hbl
      clear hx1 hy1 hx2 hy2 hbl hb1 hb2
      go_wp2_with fail
      refine wp_region_held (S := fun w' => w'.cell? ⟨b1, o1 + k * 2, none⟩ = some (.string t) ∧ w'.cell? ⟨b1, o1 + k * 2 + 1, none⟩ = some (.int .i64 u) ∧ w'.cell? ⟨b2, o2 + k * 2, none⟩ = some (.string t) ∧ w'.cell? ⟨b2, o2 + k * 2 + 1, none⟩ = some (.int .i64 u)) (by kernel_rfl) ?_
      change wpAnyH _ _ _ _ _ _ _ _ (World.drew _)
      have hS0 : wr.drew.cell? ⟨b1, o1 + k * 2, none⟩ = some (.string t) ∧ wr.drew.cell? ⟨b1, o1 + k * 2 + 1, none⟩ = some (.int .i64 u) ∧ wr.drew.cell? ⟨b2, o2 + k * 2, none⟩ = some (.string t) ∧ wr.drew.cell? ⟨b2, o2 + k * 2 + 1, none⟩ = some (.int .i64 u) := ⟨p1, q1, p2, q2⟩
      refine wpAnyH_take (i := 0) (v := .slice (some ⟨b1, o1, none⟩) its.length ca) rfl (by kernel_rfl) (by kernel_rfl) (by kernel_rfl) (fun _ _ _ h => h) (.inl ⟨rfl, fun w' hS => by obtain ⟨s1, s2, s3, s4⟩ := hS; go_simp⟩) hS0 ?_
      refine wpAnyH_take (i := 1) (v := .int .i64 (k : Nat)) rfl (by kernel_rfl) (by kernel_rfl) (by kernel_rfl) (fun _ _ _ h => h) (.inl ⟨rfl, fun w' hS => by obtain ⟨s1, s2, s3, s4⟩ := hS; go_simp⟩) hS0 ?_
      refine wpAnyH_take (i := 2) (v := .pointer (some ⟨b1, o1 + k * 2, none⟩)) rfl (by kernel_rfl) (by kernel_rfl) (by kernel_rfl) (fun _ _ _ h => h) (.inl ⟨rfl, fun w' hS => by obtain ⟨s1, s2, s3, s4⟩ := hS; go_simp⟩) hS0 ?_
      refine wpAnyH_take (i := 3) (v := .agg #[.string t, .int .i64 u]) rfl (by kernel_rfl) (by kernel_rfl) (by kernel_rfl) (fun _ _ _ h => h) (.inl ⟨rfl, fun w' hS => by obtain ⟨s1, s2, s3, s4⟩ := hS; go_simp⟩) hS0 ?_
      refine wpAnyH_take (i := 4) (v := .slice (some ⟨b2, o2, none⟩) its.length cb) rfl (by kernel_rfl) (by kernel_rfl) (by kernel_rfl) (fun _ _ _ h => h) (.inl ⟨rfl, fun w' hS => by obtain ⟨s1, s2, s3, s4⟩ := hS; go_simp⟩) hS0 ?_
      refine wpAnyH_take (i := 5) (v := .int .i64 (k : Nat)) rfl (by kernel_rfl) (by kernel_rfl) (by kernel_rfl) (fun _ _ _ h => h) (.inl ⟨rfl, fun w' hS => by obtain ⟨s1, s2, s3, s4⟩ := hS; go_simp⟩) hS0 ?_
      refine wpAnyH_take (i := 6) (v := .pointer (some ⟨b2, o2 + k * 2, none⟩)) rfl (by kernel_rfl) (by kernel_rfl) (by kernel_rfl) (fun _ _ _ h => h) (.inl ⟨rfl, fun w' hS => by obtain ⟨s1, s2, s3, s4⟩ := hS; go_simp⟩) hS0 ?_
      refine wpAnyH_take (i := 7) (v := .agg #[.string t, .int .i64 u]) rfl (by kernel_rfl) (by kernel_rfl) (by kernel_rfl) (fun _ _ _ h => h) (.inl ⟨rfl, fun w' hS => by obtain ⟨s1, s2, s3, s4⟩ := hS; go_simp⟩) hS0 ?_
      have hec := enters_of Tryz.func88 (by kernel_rfl) rfl
      refine held_one 8 (by kernel_rfl) (op_calls (f := 88) (args := #[.agg #[.string t, .int .i64 u], .agg #[.string t, .int .i64 u]]) rfl rfl (by go_simp) (HE.out t u _) ?_)
      rintro e w1 ⟨rfl, hb1⟩
      have hb1' : Below wr.heap.size wr w1 := ⟨hb1.os, hb1.tape, hb1.output, hb1.size, hb1.block⟩
      have hS1 : w1.cell? ⟨b1, o1 + k * 2, none⟩ = some (.string t) ∧ w1.cell? ⟨b1, o1 + k * 2 + 1, none⟩ = some (.int .i64 u) ∧ w1.cell? ⟨b2, o2 + k * 2, none⟩ = some (.string t) ∧ w1.cell? ⟨b2, o2 + k * 2 + 1, none⟩ = some (.int .i64 u) := ⟨(hb1'.cell (p := ⟨b1, o1 + k * 2, none⟩) hc1).trans p1, (hb1'.cell (p := ⟨b1, o1 + k * 2 + 1, none⟩) hc1).trans q1, (hb1'.cell (p := ⟨b2, o2 + k * 2, none⟩) hc2).trans p2, (hb1'.cell (p := ⟨b2, o2 + k * 2 + 1, none⟩) hc2).trans q2⟩
      have HB1 := hid (HBL.out.trans (hb1'.mono HBL.out.size))
      clear hb1 hb1' hS0 p1 q1 p2 q2
      refine ⟨_, rfl, hS1, ?_⟩
      refine wpAnyH_take (i := 9) (v := .bool false) rfl (by kernel_rfl) (by kernel_rfl) (by kernel_rfl) (fun _ _ _ h => h) (.inl ⟨rfl, fun w' hS => by obtain ⟨s1, s2, s3, s4⟩ := hS; go_simp⟩) hS1 ?_
      refine wpAnyH_done (by kernel_rfl) ?_ _
      clear hS1
      go_simp
      go_wp2
      go_roundw
      case rel => exact ⟨k + 1, by omega, by go_num, HB1.out⟩
      case measure => simp [intOf]; omega
    · go_wp2
      go_ret
      exact ⟨by simp, hbl⟩
end Go.Proofs.YtlnkhbnbcmllaaaGreat
/- Copies of stores; whether two are the same. -/
namespace Go.Proofs.YtlnkhbnbcmllaaaGreat
open Go.RowKit
set_option maxRecDepth 100000 in
set_option maxHeartbeats 400000 in
theorem eqStore_any (wd room : Int) (vi vp vj vq : Value) (its : Itms) (ts : List ByteArray) (w : World) (hi : RdI w vi its) (hp : Reads w vp ts) (hj : RdI w vj its) (hq : Reads w vq ts) (hli : its.length ≤ maxLen) (hlp : ts.length ≤ maxLen) :
    Calls Tryz.prog 29 #[.agg #[.int .i64 wd, .int .i64 room, vi, vp], .agg #[.int .i64 wd, .int .i64 room, vj, vq]] w fun e w' => e = .returned (.bool true) ∧ Below w.heap.size w w' := by
  have hA := ((Below.refl w.heap.size w).alloc (Nat.le_refl _) (.cells #[.int .i64 wd, .int .i64 room, vi, vp] 34)).alloc (by simp) (.cells #[.int .i64 wd, .int .i64 room, vj, vq] 34)
  have HE := hid (eqItemS_any vi vj its _ (hi.below hA) (hj.below hA) hli)
  have HF := hid fun W h k => eqStringS_any vp vq ts W h k hlp
  have HP := hid (hp.below hA)
  have HQ := hid (hq.below hA)
  have HN1 := hid ((Blk.new w 34 #[.int .i64 wd, .int .i64 room, vi, vp]).alloc (.cells #[.int .i64 wd, .int .i64 room, vj, vq] 34))
  have hN2 := Blk.new (w.alloc (.cells #[.int .i64 wd, .int .i64 room, vi, vp] 34)) 34 #[.int .i64 wd, .int .i64 room, vj, vq]
  rw [World.size_alloc] at hN2
  have HN2 := hid hN2
  obtain ⟨ai, ci, rfl, _⟩ := hi
  obtain ⟨aj, cj, rfl, _⟩ := hj
  obtain ⟨ap, cp, rfl, _⟩ := hp.form
  obtain ⟨aq, cq, rfl, _⟩ := hq.form
  have HA := hid hA
  clear hp hq hA hN2
  go_enter Tryz.func29, Tryz.ntmps29
  go_wp2_with fail
  refine HE.out.mono ?_
  rintro e w1 ⟨rfl, hb1⟩
  have c1 : w1.cell? ⟨w.heap.size, 3, none⟩ = some (.slice ap ts.length cp) := (HN1.out.below hb1).cell 3
  have c2 : w1.cell? ⟨w.heap.size + 1, 3, none⟩ = some (.slice aq ts.length cq) := (HN2.out.below hb1).cell 3
  have HF1 := hid (HF.out w1 (HP.out.below hb1) (HQ.out.below hb1))
  have HB := hid (HA.out.trans (hb1.mono (by simp; omega)))
  clear hb1
  go_wp2_with fail
  refine HF1.out.mono ?_
  rintro e w2 ⟨rfl, hb2⟩
  have HB2 := hid (HB.out.trans (hb2.mono HB.out.size))
  clear hb2
  go_wp2
  go_ret
  exact ⟨by simp, HB2.out⟩
end Go.Proofs.YtlnkhbnbcmllaaaGreat
