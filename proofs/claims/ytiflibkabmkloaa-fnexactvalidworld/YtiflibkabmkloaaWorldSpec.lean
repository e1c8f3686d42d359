/- spec.ValidWorld. -/
import Derived.Test.YtiflibkabmkloaaWorlds
import Derived.Test.YtiflibkabmkloaaFetchValid
namespace Go.Proofs.Ytiflibkabmkloaa
open Go.RowKit
/-- What a message in flight is. -/
structure MgOk (n : Nat) (p : Mg) : Prop where
  fr : 0 ≤ p.fr ∧ p.fr ≤ n
  dst : 0 ≤ p.to ∧ p.to ≤ n
  sum : p.sum.size ≤ 8
  text : p.text.size ≤ 7000
/-- What a valid world is. -/
structure ValidW (x : Wd) : Prop where
  fetch : ValidF x.nm x.now x.wd x.room x.its x.ts x.ps
  up : x.bs.length = x.ps.length
  many : x.ss.length = x.ps.length
  few : x.ms.length ≤ 300
  wst : 0 ≤ x.wst
  each : ∀ i, i < x.ss.length → ValidSt (sat x.ss i).wd (sat x.ss i).room (sat x.ss i).its (sat x.ss i).ts ∧ (sat x.ss i).wd = x.wd
  flight : ∀ i, i < x.ms.length → MgOk x.ps.length (mat x.ms i)
set_option maxRecDepth 100000 in
set_option maxHeartbeats 8000000 in
theorem specValidWorld_any (x : Wd) (vi vp vq vu vs vm : Value) (w : World) (h : RdW w vi vp vq vu vs vm x) (hf : WFits 1048576 x) :
    Calls Try.prog 11 #[wval x.nm x.now x.full x.wd x.room vi vp vq vu vs vm x.wst] w fun e w' => VRes (ValidW x) w e w' := by
  obtain ⟨nm, now, full, wd, room, its, ts, ps, bs, ss, ms, wst⟩ := x
  obtain ⟨hi, hp, hq, hu, hs, hm⟩ := h
  obtain ⟨q0, q1, q2, q3, q4, q5, q6, q7, q8, q9, q10, q11⟩ := hf
  dsimp only at *
  obtain ⟨ai, ci, rfl, _⟩ := id hi
  obtain ⟨ap, cp, rfl, _⟩ := hp.form
  obtain ⟨aq, cq, rfl, _⟩ := id hq
  obtain ⟨au, cu, rfl, _⟩ := id hu
  obtain ⟨ax, cx, rfl, _⟩ := id hs
  obtain ⟨am, cm, rfl, _⟩ := id hm
  have hA := (Below.refl w.heap.size w).alloc (Nat.le_refl _) (.cells #[.string nm, .int .i64 now, .bool full, .int .i64 wd, .int .i64 room, .slice ai its.length ci, .slice ap ts.length cp, .slice aq ps.length cq, .slice au bs.length cu, .slice ax ss.length cx, .slice am ms.length cm, .int .i64 wst] 50)
  have HFE := hid (specValidFetch_any nm now full wd room _ _ _ its ts ps _ (hi.below hA) (hp.below hA) (hq.below hA) q1 q3 q5 q2 q4 q6)
  have HN := hid (Blk.new w 50 #[.string nm, .int .i64 now, .bool full, .int .i64 wd, .int .i64 room, .slice ai its.length ci, .slice ap ts.length cp, .slice aq ps.length cq, .slice au bs.length cu, .slice ax ss.length cx, .slice am ms.length cm, .int .i64 wst])
  have HRS := hid (hs.below hA)
  have HRM := hid (hm.below hA)
  have HQ9 := hid q9
  have HQ11 := hid q11
  have HA := hid hA
  clear hi hp hq hu hs hm hA q0 q1 q2 q3 q4 q6 q9 q11
  go_enter Try.func11, Try.ntmps11
  go_wp2_with fail
  refine HFE.out.mono ?_
  rintro e w1 ⟨b, rfl, hb, hb1⟩
  have N1 := HN.out.below hb1
  have HB1 := hid (HA.out.trans (hb1.mono (by simp)))
  have HN1 := hid N1
  have HRS1 := hid (HRS.out.below hb1)
  have HRM1 := hid (HRM.out.below hb1)
  have hs1 := hb1.size
  rw [World.size_alloc] at hs1
  cases b with
  | false =>
    have HNO : Hid (¬ ValidW ⟨nm, now, full, wd, room, its, ts, ps, bs, ss, ms, wst⟩) := fun h => by have := hb.2 h.fetch; cases this
    clear hb hb1 N1
    go_wp2
    go_ret
    exact VRes.no HNO.out HB1.out
  | true =>
  have HFV := hid (hb.1 rfl)
  have c8 : w1.cell? ⟨w.heap.size, 8, none⟩ = some (.slice au bs.length cu) := N1.cell 8
  have c9 : w1.cell? ⟨w.heap.size, 9, none⟩ = some (.slice ax ss.length cx) := N1.cell 9
  have c10 : w1.cell? ⟨w.heap.size, 10, none⟩ = some (.slice am ms.length cm) := N1.cell 10
  have c11 : w1.cell? ⟨w.heap.size, 11, none⟩ = some (.int .i64 wst) := N1.cell 11
  clear hb hb1 N1
  by_cases hu : bs.length = ps.length
  case neg =>
    have HNO : Hid (¬ ValidW ⟨nm, now, full, wd, room, its, ts, ps, bs, ss, ms, wst⟩) := fun h => hu h.up
    have hu' : ¬ (((bs.length : Nat) : Int) = ((ps.length : Nat) : Int)) := by omega
    clear hu
    go_wp2
    go_ret
    exact VRes.no HNO.out HB1.out
  by_cases hsl : ss.length = ps.length
  case neg =>
    have HNO : Hid (¬ ValidW ⟨nm, now, full, wd, room, its, ts, ps, bs, ss, ms, wst⟩) := fun h => hsl h.many
    have hu' : ((bs.length : Nat) : Int) = ((ps.length : Nat) : Int) := by omega
    have hs' : ¬ (((ss.length : Nat) : Int) = ((ps.length : Nat) : Int)) := by omega
    clear hu hsl
    go_wp2
    go_ret
    exact VRes.no HNO.out HB1.out
  by_cases hfw : ms.length ≤ 300
  case neg =>
    have HNO : Hid (¬ ValidW ⟨nm, now, full, wd, room, its, ts, ps, bs, ss, ms, wst⟩) := fun h => hfw h.few
    have hu' : ((bs.length : Nat) : Int) = ((ps.length : Nat) : Int) := by omega
    have hs' : ((ss.length : Nat) : Int) = ((ps.length : Nat) : Int) := by omega
    have hf' : (300 : Int) < ((ms.length : Nat) : Int) := by omega
    clear hu hsl hfw
    go_wp2
    go_ret
    exact VRes.no HNO.out HB1.out
  by_cases hw : 0 ≤ wst
  case neg =>
    have HNO : Hid (¬ ValidW ⟨nm, now, full, wd, room, its, ts, ps, bs, ss, ms, wst⟩) := fun h => hw h.wst
    have hu' : ((bs.length : Nat) : Int) = ((ps.length : Nat) : Int) := by omega
    have hs' : ((ss.length : Nat) : Int) = ((ps.length : Nat) : Int) := by omega
    have hf' : ¬ ((300 : Int) < ((ms.length : Nat) : Int)) := by omega
    have hw' : wst < 0 := by omega
    clear hu hsl hfw hw
    go_wp2
    go_ret
    exact VRes.no HNO.out HB1.out
  have HALL : Hid ((∀ i, i < ss.length → ValidSt (sat ss i).wd (sat ss i).room (sat ss i).its (sat ss i).ts ∧ (sat ss i).wd = wd) → (∀ i, i < ms.length → MgOk ps.length (mat ms i)) → ValidW ⟨nm, now, full, wd, room, its, ts, ps, bs, ss, ms, wst⟩) := fun a b => ⟨HFV.out, hu, hsl, hfw, hw, a, b⟩
  have HSL := hid hsl
  have hu' : ((bs.length : Nat) : Int) = ((ps.length : Nat) : Int) := by omega
  have hs' : ((ss.length : Nat) : Int) = ((ps.length : Nat) : Int) := by omega
  have hf' : ¬ ((300 : Int) < ((ms.length : Nat) : Int)) := by omega
  have hw' : ¬ (wst < 0) := by omega
  clear hu hsl hw
  go_wp2
  clear hu' hs' hf' hw' c8 c9 c10 c11
  go_loopw [4] (fun i' wr => ∃ k : Nat, k ≤ ps.length ∧ i' = .int .i64 k ∧ (∀ j, j < k → ValidSt (sat ss j).wd (sat ss j).room (sat ss j).its (sat ss j).ts ∧ (sat ss j).wd = wd) ∧ Below w1.heap.size w1 wr) (fun i' _ => ps.length - (intOf i').toNat)
  case atStart => exact ⟨0, Nat.zero_le _, rfl, fun j hj => absurd hj (by omega), Below.refl _ _⟩
  case round =>
    obtain ⟨k, hk, rfl, hok, hbl⟩ := hrel
    have HOK := hid hok
    have NR := HN1.out.below hbl
    have HNR := hid NR
    have HBR := hid (HB1.out.trans (hbl.mono HB1.out.size))
    have hsr := hbl.size
    have HBL := hid hbl
    clear hok
    by_cases hlt : k < ps.length
    · obtain ⟨ax', cx', e', hc⟩ := id (HRS1.out.below hbl)
      cases e'
      have hks : k < ss.length := by rw [HSL.out]; exact hlt
      obtain ⟨b0, o0, vi, vp, rfl, h4⟩ := hc k hks
      have hfk := HQ9.out k (by rw [HSL.out]; exact hlt)
      have HPK : Hid (ValidSt (sat ss k).wd (sat ss k).room (sat ss k).its (sat ss k).ts ∧ (sat ss k).wd = wd → ∀ j, j < k + 1 → ValidSt (sat ss j).wd (sat ss j).room (sat ss j).its (sat ss j).ts ∧ (sat ss j).wd = wd) := fun h j hj => (Nat.lt_or_eq_of_le (Nat.le_of_lt_succ hj)).elim (HOK.out j) (fun e => e ▸ h)
      have HNV : Hid (¬ (ValidSt (sat ss k).wd (sat ss k).room (sat ss k).its (sat ss k).ts ∧ (sat ss k).wd = wd) → ¬ ValidW ⟨nm, now, full, wd, room, its, ts, ps, bs, ss, ms, wst⟩) := fun h hv => h (hv.each k (by show k < ss.length; rw [HSL.out]; exact hlt))
      generalize sat ss k = p at h4 hfk HPK HNV
      obtain ⟨pw, pr, pi, pt⟩ := p
      obtain ⟨x0, x1, x2, x3, x4, x5, x6⟩ := h4
      obtain ⟨y0, y1, y2, y3⟩ := hfk
      dsimp only at x1 x2 x3 x4 x5 x6 y0 y1 y2 y3 HPK HNV
      obtain ⟨a3, c3, hvi, _⟩ := id x5
      obtain ⟨a5, c5, hvp, _⟩ := x6.form
      subst hvi hvp
      have HVS := hid fun W a b => specValidStore_any pw pr (.slice a3 pi.length c3) (.slice a5 pt.length c5) pi pt W a b y0 y2 y1 y3
      have HX5 := hid x5
      have HX6 := hid x6
      have hbd : Below wr.heap.size wr wr.drew := below_drewN (Below.refl _ _) 1
      have HV1 := hid (HVS.out wr.drew (x5.below hbd) (x6.below hbd))
      have hS0 : wr.drew.cell? ⟨w.heap.size, 9, none⟩ = some (.slice (some ⟨b0, o0, none⟩) ss.length cx) ∧ wr.drew.cell? ⟨w.heap.size, 3, none⟩ = some (.int .i64 wd) ∧ wr.drew.cell? ⟨b0, o0 + k * 4, none⟩ = some (.int .i64 pw) ∧ wr.drew.cell? ⟨b0, o0 + k * 4 + 1, none⟩ = some (.int .i64 pr) ∧ wr.drew.cell? ⟨b0, o0 + k * 4 + 2, none⟩ = some (.slice a3 pi.length c3) ∧ wr.drew.cell? ⟨b0, o0 + k * 4 + 3, none⟩ = some (.slice a5 pt.length c5) := ⟨NR.cell 9, NR.cell 3, x1, x2, x3, x4⟩
      have HXL := hid x0
      have HXC := hid (show wr.cell? ⟨b0, o0 + k * 4, none⟩ = some (.int .i64 pw) ∧ wr.cell? ⟨b0, o0 + k * 4 + 1, none⟩ = some (.int .i64 pr) ∧ wr.cell? ⟨b0, o0 + k * 4 + 2, none⟩ = some (.slice a3 pi.length c3) ∧ wr.cell? ⟨b0, o0 + k * 4 + 3, none⟩ = some (.slice a5 pt.length c5) from ⟨x1, x2, x3, x4⟩)
      clear x0 x1 x2 x3 x4 x5 x6 y0 y1 y2 y3 hc hbl hbd NR HVS
      have hec := enters_of Try.func17 (by kernel_rfl) rfl
      go_wp2_with fail
      refine wp_region_held (S := fun w' => w'.cell? ⟨w.heap.size, 9, none⟩ = some (.slice (some ⟨b0, o0, none⟩) ss.length cx) ∧ w'.cell? ⟨w.heap.size, 3, none⟩ = some (.int .i64 wd) ∧ w'.cell? ⟨b0, o0 + k * 4, none⟩ = some (.int .i64 pw) ∧ w'.cell? ⟨b0, o0 + k * 4 + 1, none⟩ = some (.int .i64 pr) ∧ w'.cell? ⟨b0, o0 + k * 4 + 2, none⟩ = some (.slice a3 pi.length c3) ∧ w'.cell? ⟨b0, o0 + k * 4 + 3, none⟩ = some (.slice a5 pt.length c5)) (by kernel_rfl) ?_
      change wpAnyH _ _ _ _ _ _ _ _ (World.drew _)
      refine wpAnyH_take (i := 0) (v := .pointer (some ⟨w.heap.size, 9, none⟩)) rfl (by kernel_rfl) (by kernel_rfl) (by kernel_rfl) (fun _ _ _ h => h) (.inl ⟨rfl, fun w' hS => by obtain ⟨s1, s2, s3, s4, s5, s6⟩ := hS; go_simp⟩) hS0 ?_
      refine wpAnyH_take (i := 1) (v := .slice (some ⟨b0, o0, none⟩) ss.length cx) rfl (by kernel_rfl) (by kernel_rfl) (by kernel_rfl) (fun _ _ _ h => h) (.inl ⟨rfl, fun w' hS => by obtain ⟨s1, s2, s3, s4, s5, s6⟩ := hS; go_simp⟩) hS0 ?_
      refine wpAnyH_take (i := 2) (v := .int .i64 (k : Nat)) rfl (by kernel_rfl) (by kernel_rfl) (by kernel_rfl) (fun _ _ _ h => h) (.inl ⟨rfl, fun w' hS => by obtain ⟨s1, s2, s3, s4, s5, s6⟩ := hS; go_simp⟩) hS0 ?_
      refine wpAnyH_take (i := 3) (v := .pointer (some ⟨b0, o0 + k * 4, none⟩)) rfl (by kernel_rfl) (by kernel_rfl) (by kernel_rfl) (fun _ _ _ h => h) (.inl ⟨rfl, fun w' hS => by obtain ⟨s1, s2, s3, s4, s5, s6⟩ := hS; go_simp⟩) hS0 ?_
      refine wpAnyH_take (i := 4) (v := .agg #[.int .i64 pw, .int .i64 pr, .slice a3 pi.length c3, .slice a5 pt.length c5]) rfl (by kernel_rfl) (by kernel_rfl) (by kernel_rfl) (fun _ _ _ h => h) (.inl ⟨rfl, fun w' hS => by obtain ⟨s1, s2, s3, s4, s5, s6⟩ := hS; go_simp⟩) hS0 ?_
      refine held_one 5 (by kernel_rfl) (op_calls (f := 17) (args := #[.agg #[.int .i64 pw, .int .i64 pr, .slice a3 pi.length c3, .slice a5 pt.length c5]]) rfl rfl (by go_simp) HV1.out ?_)
      rintro e w5 ⟨b, rfl, hb, hb5⟩
      have hb5' : Below wr.heap.size wr w5 := ⟨hb5.os, hb5.tape, hb5.output, hb5.size, hb5.block⟩
      have N5 := HNR.out.below hb5'
      obtain ⟨z1, z2, z3, z4⟩ := HXC.out
      have hS1 : w5.cell? ⟨w.heap.size, 9, none⟩ = some (.slice (some ⟨b0, o0, none⟩) ss.length cx) ∧ w5.cell? ⟨w.heap.size, 3, none⟩ = some (.int .i64 wd) ∧ w5.cell? ⟨b0, o0 + k * 4, none⟩ = some (.int .i64 pw) ∧ w5.cell? ⟨b0, o0 + k * 4 + 1, none⟩ = some (.int .i64 pr) ∧ w5.cell? ⟨b0, o0 + k * 4 + 2, none⟩ = some (.slice a3 pi.length c3) ∧ w5.cell? ⟨b0, o0 + k * 4 + 3, none⟩ = some (.slice a5 pt.length c5) := ⟨N5.cell 9, N5.cell 3, (hb5'.cell (p := ⟨b0, o0 + k * 4, none⟩) HXL.out).trans z1, (hb5'.cell (p := ⟨b0, o0 + k * 4 + 1, none⟩) HXL.out).trans z2, (hb5'.cell (p := ⟨b0, o0 + k * 4 + 2, none⟩) HXL.out).trans z3, (hb5'.cell (p := ⟨b0, o0 + k * 4 + 3, none⟩) HXL.out).trans z4⟩
      have HB5 := hid (HBR.out.trans (hb5'.mono HBR.out.size))
      have HRL := hid (HBL.out.trans (hb5'.mono HBL.out.size))
      clear hb5 hb5' N5 z1 z2 z3 z4
      refine ⟨_, rfl, hS1, ?_⟩
      cases b with
      | false =>
        have HNO := hid (HNV.out (fun h => by have := hb.2 h.1; cases this))
        clear hb
        refine wpAnyH_take (i := 6) (v := .bool true) rfl (by kernel_rfl) (by kernel_rfl) (by kernel_rfl) (fun _ _ _ h => h) (.inl ⟨rfl, fun w' hS => by obtain ⟨s1, s2, s3, s4, s5, s6⟩ := hS; go_simp⟩) hS1 ?_
        refine wpAnyH_take (i := 7) (v := .bool true) rfl (by kernel_rfl) (by kernel_rfl) (by kernel_rfl) (fun _ _ _ h => h) (.inl ⟨rfl, fun w' hS => by obtain ⟨s1, s2, s3, s4, s5, s6⟩ := hS; go_simp⟩) hS1 ?_
        refine wpAnyH_take (i := 8) (v := undef) rfl (by kernel_rfl) (by kernel_rfl) (by kernel_rfl) (fun _ _ _ h => h) (.inr ⟨by first | (go_simp; done) | (go_simp; simp [undef]), rfl⟩) hS1 ?_
        refine wpAnyH_take (i := 9) (v := undef) rfl (by kernel_rfl) (by kernel_rfl) (by kernel_rfl) (fun _ _ _ h => h) (.inr ⟨by first | (go_simp; done) | (go_simp; simp [undef]), rfl⟩) hS1 ?_
        refine wpAnyH_take (i := 10) (v := undef) rfl (by kernel_rfl) (by kernel_rfl) (by kernel_rfl) (fun _ _ _ h => h) (.inr ⟨by first | (go_simp; done) | (go_simp; simp [undef]), rfl⟩) hS1 ?_
        refine wpAnyH_take (i := 11) (v := undef) rfl (by kernel_rfl) (by kernel_rfl) (by kernel_rfl) (fun _ _ _ h => h) (.inr ⟨by first | (go_simp; done) | (go_simp; simp [undef]), rfl⟩) hS1 ?_
        refine wpAnyH_take (i := 12) (v := undef) rfl (by kernel_rfl) (by kernel_rfl) (by kernel_rfl) (fun _ _ _ h => h) (.inr ⟨by first | (go_simp; done) | (go_simp; simp [undef]), rfl⟩) hS1 ?_
        refine wpAnyH_take (i := 13) (v := undef) rfl (by kernel_rfl) (by kernel_rfl) (by kernel_rfl) (fun _ _ _ h => h) (.inr ⟨by first | (go_simp; done) | (go_simp; simp [undef]), rfl⟩) hS1 ?_
        refine wpAnyH_take (i := 14) (v := undef) rfl (by kernel_rfl) (by kernel_rfl) (by kernel_rfl) (fun _ _ _ h => h) (.inr ⟨by first | (go_simp; done) | (go_simp; simp [undef]), rfl⟩) hS1 ?_
        refine wpAnyH_take (i := 15) (v := undef) rfl (by kernel_rfl) (by kernel_rfl) (by kernel_rfl) (fun _ _ _ h => h) (.inr ⟨by first | (go_simp; done) | (go_simp; simp [undef]), rfl⟩) hS1 ?_
        refine wpAnyH_take (i := 16) (v := undef) rfl (by kernel_rfl) (by kernel_rfl) (by kernel_rfl) (fun _ _ _ h => h) (.inr ⟨by first | (go_simp; done) | (go_simp; simp [undef]), rfl⟩) hS1 ?_
        refine wpAnyH_take (i := 17) (v := undef) rfl (by kernel_rfl) (by kernel_rfl) (by kernel_rfl) (fun _ _ _ h => h) (.inr ⟨by first | (go_simp; done) | (go_simp; simp [undef]), rfl⟩) hS1 ?_
        refine wpAnyH_take (i := 18) (v := undef) rfl (by kernel_rfl) (by kernel_rfl) (by kernel_rfl) (fun _ _ _ h => h) (.inr ⟨by first | (go_simp; done) | (go_simp; simp [undef]), rfl⟩) hS1 ?_
        refine wpAnyH_take (i := 19) (v := .bool true) rfl (by kernel_rfl) (by kernel_rfl) (by kernel_rfl) (fun _ _ _ h => h) (.inl ⟨rfl, fun w' hS => by obtain ⟨s1, s2, s3, s4, s5, s6⟩ := hS; go_simp⟩) hS1 ?_
        refine wpAnyH_done (by kernel_rfl) ?_ _
        clear hS0 hS1
        go_simp
        go_wp2
        go_ret
        exact VRes.no HNO.out HB5.out
      | true =>
        have HYES := hid (hb.1 rfl)
        clear hb
        refine wpAnyH_take (i := 6) (v := .bool false) rfl (by kernel_rfl) (by kernel_rfl) (by kernel_rfl) (fun _ _ _ h => h) (.inl ⟨rfl, fun w' hS => by obtain ⟨s1, s2, s3, s4, s5, s6⟩ := hS; go_simp⟩) hS1 ?_
        refine wpAnyH_take (i := 7) (v := .bool false) rfl (by kernel_rfl) (by kernel_rfl) (by kernel_rfl) (fun _ _ _ h => h) (.inl ⟨rfl, fun w' hS => by obtain ⟨s1, s2, s3, s4, s5, s6⟩ := hS; go_simp⟩) hS1 ?_
        refine wpAnyH_take (i := 8) (v := .pointer (some ⟨w.heap.size, 9, none⟩)) rfl (by kernel_rfl) (by kernel_rfl) (by kernel_rfl) (fun _ _ _ h => h) (.inl ⟨by go_simp, fun w' hS => by obtain ⟨s1, s2, s3, s4, s5, s6⟩ := hS; go_simp⟩) hS1 ?_
        refine wpAnyH_take (i := 9) (v := .slice (some ⟨b0, o0, none⟩) ss.length cx) rfl (by kernel_rfl) (by kernel_rfl) (by kernel_rfl) (fun _ _ _ h => h) (.inl ⟨by go_simp, fun w' hS => by obtain ⟨s1, s2, s3, s4, s5, s6⟩ := hS; go_simp⟩) hS1 ?_
        refine wpAnyH_take (i := 10) (v := .int .i64 (k : Nat)) rfl (by kernel_rfl) (by kernel_rfl) (by kernel_rfl) (fun _ _ _ h => h) (.inl ⟨by go_simp, fun w' hS => by obtain ⟨s1, s2, s3, s4, s5, s6⟩ := hS; go_simp⟩) hS1 ?_
        refine wpAnyH_take (i := 11) (v := .pointer (some ⟨b0, o0 + k * 4, none⟩)) rfl (by kernel_rfl) (by kernel_rfl) (by kernel_rfl) (fun _ _ _ h => h) (.inl ⟨by go_simp, fun w' hS => by obtain ⟨s1, s2, s3, s4, s5, s6⟩ := hS; go_simp⟩) hS1 ?_
        refine wpAnyH_take (i := 12) (v := .pointer (some ⟨b0, o0 + k * 4, none⟩)) rfl (by kernel_rfl) (by kernel_rfl) (by kernel_rfl) (fun _ _ _ h => h) (.inl ⟨by go_simp, fun w' hS => by obtain ⟨s1, s2, s3, s4, s5, s6⟩ := hS; go_simp⟩) hS1 ?_
        refine wpAnyH_take (i := 13) (v := .int .i64 pw) rfl (by kernel_rfl) (by kernel_rfl) (by kernel_rfl) (fun _ _ _ h => h) (.inl ⟨by go_simp, fun w' hS => by obtain ⟨s1, s2, s3, s4, s5, s6⟩ := hS; go_simp⟩) hS1 ?_
        refine wpAnyH_take (i := 14) (v := .pointer (some ⟨w.heap.size, 0, none⟩)) rfl (by kernel_rfl) (by kernel_rfl) (by kernel_rfl) (fun _ _ _ h => h) (.inl ⟨by go_simp, fun w' hS => by obtain ⟨s1, s2, s3, s4, s5, s6⟩ := hS; go_simp⟩) hS1 ?_
        refine wpAnyH_take (i := 15) (v := .pointer (some ⟨w.heap.size, 3, none⟩)) rfl (by kernel_rfl) (by kernel_rfl) (by kernel_rfl) (fun _ _ _ h => h) (.inl ⟨by go_simp, fun w' hS => by obtain ⟨s1, s2, s3, s4, s5, s6⟩ := hS; go_simp⟩) hS1 ?_
        refine wpAnyH_take (i := 16) (v := .pointer (some ⟨w.heap.size, 3, none⟩)) rfl (by kernel_rfl) (by kernel_rfl) (by kernel_rfl) (fun _ _ _ h => h) (.inl ⟨by go_simp, fun w' hS => by obtain ⟨s1, s2, s3, s4, s5, s6⟩ := hS; go_simp⟩) hS1 ?_
        refine wpAnyH_take (i := 17) (v := .int .i64 wd) rfl (by kernel_rfl) (by kernel_rfl) (by kernel_rfl) (fun _ _ _ h => h) (.inl ⟨by go_simp, fun w' hS => by obtain ⟨s1, s2, s3, s4, s5, s6⟩ := hS; go_simp⟩) hS1 ?_
        by_cases hpw : pw = wd
        · have HGO := hid (HPK.out ⟨HYES.out, hpw⟩)
          refine wpAnyH_take (i := 18) (v := .bool false) rfl (by kernel_rfl) (by kernel_rfl) (by kernel_rfl) (fun _ _ _ h => h) (.inl ⟨by go_simp, fun w' hS => by obtain ⟨s1, s2, s3, s4, s5, s6⟩ := hS; go_simp⟩) hS1 ?_
          refine wpAnyH_take (i := 19) (v := .bool false) rfl (by kernel_rfl) (by kernel_rfl) (by kernel_rfl) (fun _ _ _ h => h) (.inl ⟨rfl, fun w' hS => by obtain ⟨s1, s2, s3, s4, s5, s6⟩ := hS; go_simp⟩) hS1 ?_
          refine wpAnyH_done (by kernel_rfl) ?_ _
          clear hS0 hS1
          go_simp
          clear hpw
          go_wp2
          go_roundw
          case rel => exact ⟨k + 1, by omega, by go_num, HGO.out, HRL.out⟩
          case measure => simp [intOf]; omega
        · have HNO := hid (HNV.out (fun h => hpw h.2))
          refine wpAnyH_take (i := 18) (v := .bool true) rfl (by kernel_rfl) (by kernel_rfl) (by kernel_rfl) (fun _ _ _ h => h) (.inl ⟨by go_simp, fun w' hS => by obtain ⟨s1, s2, s3, s4, s5, s6⟩ := hS; go_simp⟩) hS1 ?_
          refine wpAnyH_take (i := 19) (v := .bool true) rfl (by kernel_rfl) (by kernel_rfl) (by kernel_rfl) (fun _ _ _ h => h) (.inl ⟨rfl, fun w' hS => by obtain ⟨s1, s2, s3, s4, s5, s6⟩ := hS; go_simp⟩) hS1 ?_
          refine wpAnyH_done (by kernel_rfl) ?_ _
          clear hS0 hS1
          go_simp
          go_wp2
          go_ret
          exact VRes.no HNO.out HB5.out
    · obtain rfl : k = ps.length := by omega
      have HS2 : Hid (∀ i, i < ss.length → ValidSt (sat ss i).wd (sat ss i).room (sat ss i).its (sat ss i).ts ∧ (sat ss i).wd = wd) := fun i hi => HOK.out i (by rw [← HSL.out]; exact hi)
      have HRM2 := hid (HRM1.out.below hbl)
      clear hbl NR hlt hk
      go_wp2
      go_loopw [5] (fun i' wz => ∃ k : Nat, k ≤ ms.length ∧ i' = .int .i64 k ∧ (∀ j, j < k → MgOk ps.length (mat ms j)) ∧ Below wr.heap.size wr wz) (fun i' _ => ms.length - (intOf i').toNat)
      case atStart => exact ⟨0, Nat.zero_le _, rfl, fun j hj => absurd hj (by omega), Below.refl _ _⟩
      case round =>
        obtain ⟨k, hk, rfl, hok, hbl⟩ := hrel
        have HOK2 := hid hok
        have c10 : wr.cell? ⟨w.heap.size, 10, none⟩ = some (.slice am ms.length cm) := (HNR.out.below hbl).cell 10
        have HBZ := hid (HBR.out.trans (hbl.mono HBR.out.size))
        have HBL2 := hid hbl
        clear hok
        by_cases hlt : k < ms.length
        · obtain ⟨am', cm', e', hc⟩ := id (HRM2.out.below hbl)
          cases e'
          obtain ⟨b0, o0, rfl, h5⟩ := hc k hlt
          have hfk := HQ11.out k hlt
          have HPK : Hid (MgOk ps.length (mat ms k) → ∀ j, j < k + 1 → MgOk ps.length (mat ms j)) := fun h j hj => (Nat.lt_or_eq_of_le (Nat.le_of_lt_succ hj)).elim (HOK2.out j) (fun e => e ▸ h)
          have HNV : Hid (¬ MgOk ps.length (mat ms k) → ¬ ValidW ⟨nm, now, full, wd, room, its, ts, ps, bs, ss, ms, wst⟩) := fun h hv => h (hv.flight k hlt)
          generalize mat ms k = p at h5 hfk HPK HNV
          obtain ⟨pf, pt, psm, ph, px⟩ := p
          obtain ⟨x0, x1, x2, x3, x4, x5⟩ := h5
          obtain ⟨y0, y1⟩ := hfk
          dsimp only at x1 x2 x3 x4 x5 y0 y1 HPK HNV
          have HAZ := hid ((Below.refl wr.heap.size wr).alloc (Nat.le_refl _) (.cells #[.int .i64 pf, .int .i64 pt, .string psm, .bool ph, .string px] 72))
          have HBA := hid (HBZ.out.trans (HAZ.out.mono HBZ.out.size))
          have HRA := hid (hbl.trans (HAZ.out.mono hbl.size))
          clear hc hbl x0
          by_cases h1 : 0 ≤ pf ∧ pf ≤ (ps.length : Int)
          case neg =>
            have HNO := hid (HNV.out (fun h => h1 h.fr))
            have HL := hid fun W => l1In_no pf 0 (ps.length : Int) W h1
            clear h1
            go_wp2_with fail
            refine (HL.out _).mono ?_
            rintro e w5 ⟨rfl, rfl⟩
            go_wp2
            go_ret
            exact VRes.no HNO.out HBA.out
          have HL := hid fun W => l1In_yes pf 0 (ps.length : Int) W h1
          by_cases h2 : 0 ≤ pt ∧ pt ≤ (ps.length : Int)
          case neg =>
            have HNO := hid (HNV.out (fun h => h2 h.dst))
            have HL2 := hid fun W => l1In_no pt 0 (ps.length : Int) W h2
            clear h1 h2
            go_wp2_with fail
            refine (HL.out _).mono ?_
            rintro e w5 ⟨rfl, rfl⟩
            go_wp2_with fail
            refine (HL2.out _).mono ?_
            rintro e w5 ⟨rfl, rfl⟩
            go_wp2
            go_ret
            exact VRes.no HNO.out HBA.out
          have HL2 := hid fun W => l1In_yes pt 0 (ps.length : Int) W h2
          by_cases h3 : psm.size ≤ 8
          case neg =>
            have HNO := hid (HNV.out (fun h => h3 h.sum))
            have h3' : (8 : Int) < (psm.size : Int) := by omega
            clear h1 h2 h3
            go_wp2_with fail
            refine (HL.out _).mono ?_
            rintro e w5 ⟨rfl, rfl⟩
            go_wp2_with fail
            refine (HL2.out _).mono ?_
            rintro e w5 ⟨rfl, rfl⟩
            go_wp2
            go_ret
            exact VRes.no HNO.out HBA.out
          have h3' : ¬ ((8 : Int) < (psm.size : Int)) := by omega
          by_cases h4 : px.size ≤ 7000
          case neg =>
            have HNO := hid (HNV.out (fun h => h4 h.text))
            have h4' : (7000 : Int) < (px.size : Int) := by omega
            clear h1 h2 h3 h4
            go_wp2_with fail
            refine (HL.out _).mono ?_
            rintro e w5 ⟨rfl, rfl⟩
            go_wp2_with fail
            refine (HL2.out _).mono ?_
            rintro e w5 ⟨rfl, rfl⟩
            go_wp2
            go_ret
            exact VRes.no HNO.out HBA.out
          have h4' : ¬ ((7000 : Int) < (px.size : Int)) := by omega
          have HGO := hid (HPK.out ⟨h1, h2, h3, h4⟩)
          clear h1 h2 h3 h4
          go_wp2_with fail
          refine (HL.out _).mono ?_
          rintro e w5 ⟨rfl, rfl⟩
          go_wp2_with fail
          refine (HL2.out _).mono ?_
          rintro e w5 ⟨rfl, rfl⟩
          go_wp2
          go_roundw
          case rel => exact ⟨k + 1, by omega, by go_num, HGO.out, HRA.out⟩
          case measure => simp [intOf]; omega
        · obtain rfl : k = ms.length := by omega
          have HYES := hid (HALL.out HS2.out HOK2.out)
          clear hbl
          go_wp2
          go_ret
          exact VRes.yes HYES.out HBZ.out
end Go.Proofs.Ytiflibkabmkloaa
