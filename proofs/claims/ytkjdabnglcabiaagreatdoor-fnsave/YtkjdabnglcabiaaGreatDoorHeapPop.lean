import Derived.Test.YtkjdabnglcabiaaGreatDoorShort
import Derived.Test.YtkjdabnglcabiaaGreatDoorHeapPush2
/- (*impl.heap).sink. -/
namespace Go.Proofs.YtkjdabnglcabiaaGreatDoor
open Go.RowKit
/-- The least of a place and the first of what stands below it. -/
structure LeastOf (hs : List Lv) (k b m : Nat) : Prop where
 wh : m = k ∨ (0 < m ∧ m < hs.length ∧ (m - 1) / 2 = k ∧ m < b ∧ lfB (hv hs m) (hv hs k) = true)
 all : ∀ c, 2 * k + 1 ≤ c → c < b → c < hs.length → lfB (hv hs c) (hv hs m) = false
theorem LeastOf.start (hs : List Lv) (k : Nat) : LeastOf hs k (2 * k + 1) k := ⟨.inl rfl, fun c h1 h2 => by omega⟩
theorem LeastOf.no {hs : List Lv} {k b m : Nat} (h : LeastOf hs k b m) (hf : lfB (hv hs b) (hv hs m) = false) : LeastOf hs k (b + 1) m := by
 refine ⟨h.wh.imp id fun ⟨h1, h2, h3, h4, h5⟩ => ⟨h1, h2, h3, by omega, h5⟩, fun c h1 h2 h3 => ?_⟩
 by_cases e : c = b
 ·subst e; exact hf
 ·exact h.all c h1 (by omega) h3
theorem LeastOf.yes {hs : List Lv} {k b m : Nat} (h : LeastOf hs k b m) (hb0 : 2 * k + 1 ≤ b) (hb1 : b ≤ 2 * k + 2) (hbl : b < hs.length) (hf : lfB (hv hs b) (hv hs m) = true) : LeastOf hs k (b + 1) b := by
 refine ⟨.inr ⟨by omega, hbl, by omega, by omega, ?_⟩, fun c h1 h2 h3 => ?_⟩
 ·rcases h.wh with rfl | ⟨_, _, _, _, h5⟩
  ·exact hf
  ·cases e : lfB (hv hs b) (hv hs k) with
   | true => rfl
   | false =>
    have := lfB_co _ _ _ e (lfB_as _ _ h5)
    rw [hf] at this; cases this
 ·by_cases e : c = b
  ·subst e; exact lfB_irr _
  ·exact lfB_co _ _ _ (h.all c h1 (by omega) h3) (lfB_as _ _ hf)
theorem LeastOf.kids {hs : List Lv} {k b m : Nat} (h : LeastOf hs k b m) (hb : ¬ (b ≤ 2 * k + 2 ∧ b < hs.length)) : ∀ c, 0 < c → c < hs.length → (c - 1) / 2 = k → lfB (hv hs c) (hv hs m) = false := fun c h0 hc he => by
 refine h.all c (by omega) ?_ hc
 apply Classical.byContradiction
 intro hn
 exact hb ⟨by omega, by omega⟩
set_option maxRecDepth 100000 in
set_option maxHeartbeats 8000000 in
theorem heapSink_any (hb B g n cap : Nat) (hs : List Lv) (w : World) (hbx : Blk w hb 151 #[.slice (some ⟨g, 0, none⟩) n cap, fFirst]) (hrow : LRow w B (.slice (some ⟨g, 0, none⟩) n cap) hs) (hn : hs.length = n) (hne : hb < B) (hgB : B ≤ g) (hd : Dn lfB lv0 hs 0) (hlen : n ≤ 1000) :
  Calls Tryz.prog 107 #[.pointer (some ⟨hb, 0, none⟩)] w fun e w' => e = .returned (.tuple #[]) ∧ ∃ hs', hs'.Perm hs ∧ HpL hs' ∧ Blk w' hb 151 #[.slice (some ⟨g, 0, none⟩) n cap, fFirst] ∧ LRow w' B (.slice (some ⟨g, 0, none⟩) n cap) hs' ∧ w.grownBy w' (some g) := by
 have HB0 := hid hbx
 have HR0 := hid hrow
 have HD0 := hid hd
 have HN0 := hid hn
 clear hbx hrow hd hn
 go_enter Tryz.func107, Tryz.ntmps107
 go_wp2
 go_loopw [2] (fun iv wr => ∃ (k : Nat) (hs' : List Lv), iv = .int .i64 k ∧ k ≤ 1000 ∧ hs'.length = n ∧ hs'.Perm hs ∧ Dn lfB lv0 hs' k ∧ Blk wr hb 151 #[.slice (some ⟨g, 0, none⟩) n cap, fFirst] ∧ LRow wr B (.slice (some ⟨g, 0, none⟩) n cap) hs' ∧ w.grownBy wr (some g)) (fun iv _ => 1001 - (intOf iv).toNat)
 case atStart => exact ⟨0, hs, rfl, by omega, HN0.out, List.Perm.refl _, HD0.out, HB0.out, HR0.out, grown_refl2 _ _⟩
 case round =>
  obtain ⟨k, hs', rfl, hk, hl', hpm, hdn, hbx, hrw, hgr⟩ := hrel
  have HPM := hid hpm
  have HDN := hid hdn
  have HBX := hid hbx
  have HRW := hid hrw
  have HGR := hid hgr
  have HL' := hid hl'
  obtain ⟨w1, hw1⟩ : ∃ x, x = wr := ⟨_, rfl⟩
  clear hpm hdn hbx hrw hgr hl'
  go_wp2
  subst hw1
  go_loopw [3, 4] (fun mv bv wz => ∃ (m b : Nat), mv = .int .i64 m ∧ bv = .int .i64 b ∧ 2 * k + 1 ≤ b ∧ b ≤ 2 * k + 3 ∧ (b ≠ 2 * k + 1 → b - 1 < n) ∧ LeastOf hs' k b m ∧ Below w1.heap.size w1 wz) (fun _ bv _ => 2 * k + 3 - (intOf bv).toNat)
  case atStart => exact ⟨k, 2 * k + 1, rfl, by go_num, by omega, by omega, fun h => absurd rfl h, LeastOf.start hs' k, Below.refl _ _⟩
  case round =>
   obtain ⟨m, b, rfl, rfl, hb0, hb1, hbn, hlo, hbw⟩ := hrel
   have HLO := hid hlo
   have HBW := hid hbw
   have X := HBX.out.below hbw
   have R := HRW.out.below hbw
   have x0 : wr.cell? ⟨hb, 0, none⟩ = some (.slice (some ⟨g, 0, none⟩) n cap) := X.cell 0
   have x1 : wr.cell? ⟨hb, 1, none⟩ = some fFirst := X.cell 1
   have HX := hid X
   have HR := hid R
   have HEX : Hid (¬ (b ≤ 2 * k + 2 ∧ b < n) → m = k → HpL hs') := hid fun hn2 e => by
    refine HDN.out.done lfB lv0 fun c h0 hc he => ?_
    have h := HLO.out.kids (by rw [HL'.out]; exact hn2) c h0 hc he
    rw [e] at h
    exact h
   have HSW : Hid (¬ (b ≤ 2 * k + 2 ∧ b < n) → m ≠ k → m < n ∧ k < m ∧ Dn lfB lv0 (swp lv0 hs' k m) m) := hid fun hn2 e => by
    rcases HLO.out.wh with h | ⟨h1, h2, h3, _, h5⟩
    ·exact absurd h e
    ·refine ⟨by rw [← HL'.out]; exact h2, by omega, HDN.out.step lfB lv0 lfB_as h1 h2 h3 h5 (HLO.out.kids (by rw [HL'.out]; exact hn2))⟩
   have HGW : Hid (w.grownBy wr (some g)) := hid (grown_same HGR.out (grown_below' hbw))
   have hkI : (0 : Int) ≤ (k : Int) := by omega
   clear hlo hbw X R
   by_cases hin : b ≤ 2 * k + 2 ∧ b < n
   case neg =>
    by_cases hmk : m = k
    ·have HH := hid (HEX.out hin hmk)
     subst hmk
     by_cases hA : (b : Int) ≤ 2 * (m : Int) + 2
     ·have hB : (n : Int) ≤ (b : Int) := by omega
      clear hin x1
      go_wp2
      refine bodyPost_ret (results_none rfl _ _ _) rfl ?_
      exact ⟨rfl, hs', HPM.out, HH.out, HX.out, HR.out, HGW.out⟩
     ·have hA' : 2 * (m : Int) + 2 < (b : Int) := by omega
      clear hin x0 x1 hA
      go_wp2
      refine bodyPost_ret (results_none rfl _ _ _) rfl ?_
      exact ⟨rfl, hs', HPM.out, HH.out, HX.out, HR.out, HGW.out⟩
    ·obtain ⟨hmn, hkm, hdn⟩ := HSW.out hin hmk
     have HDS := hid hdn
     obtain ⟨lk, hlk⟩ : ∃ l, hv hs' k = l := ⟨_, rfl⟩
     obtain ⟨lm, hlm⟩ : ∃ l, hv hs' m = l := ⟨_, rfl⟩
     obtain ⟨ck0, ck1⟩ := HR.out.cell k (by rw [HL'.out]; omega)
     obtain ⟨cm0, cm1⟩ := HR.out.cell m (by rw [HL'.out]; exact hmn)
     rw [hlk] at ck0 ck1
     rw [hlm] at cm0 cm1
     have HLK := hid hlk
     have HLM := hid hlm
     have f0 := HR.out.fz (k * 2)
     have f1 := HR.out.fz (k * 2 + 1)
     have f2 := HR.out.fz (m * 2)
     have f3 := HR.out.fz (m * 2 + 1)
     have hmk' : ¬ ((m : Int) = (k : Int)) := by omega
     clear hdn hlk hlm
     by_cases hA : (b : Int) ≤ 2 * (k : Int) + 2
     ·have hB : (n : Int) ≤ (b : Int) := by omega
      clear hin x1 hmk
      go_wp2_with fail
      go_region
      go_wp2
      have G4 : wr.grownBy ((((wr.setCell ⟨g, k * 2, none⟩ (.string lm.1)).setCell ⟨g, k * 2 + 1, none⟩ (.int .i64 lm.2)).setCell ⟨g, m * 2, none⟩ (.string lk.1)).setCell ⟨g, m * 2 + 1, none⟩ (.int .i64 lk.2)) (some g) := grown_same (grown_same (grown_same (grownBy_setCellAt wr g (k * 2) _) (grownBy_setCellAt _ g (k * 2 + 1) _)) (grownBy_setCellAt _ g (m * 2) _)) (grownBy_setCellAt _ g (m * 2 + 1) _)
      have G5 : wr.grownBy ((((wr.setCell ⟨g, k * 2, none⟩ (.string lm.1)).setCell ⟨g, k * 2 + 1, none⟩ (.int .i64 lm.2)).setCell ⟨g, m * 2, none⟩ (.string lk.1)).setCell ⟨g, m * 2 + 1, none⟩ (.int .i64 lk.2)).drew (some g) := ⟨G4.os, G4.tape, G4.output, G4.size, G4.block⟩
      have L4 := (HR.out.set k (by rw [HL'.out]; omega) lm.1 lm.2).set m (by rw [List.length_set, HL'.out]; exact hmn) lk.1 lk.2
      have e4 : (hs'.set k (lm.1, lm.2)).set m (lk.1, lk.2) = swp lv0 hs' k m := by
       show (hs'.set k lm).set m lk = swp lv0 hs' k m
       rw [← HLK.out, ← HLM.out]
       rfl
      rw [e4] at L4
      exact ⟨⟨m, swp lv0 hs' k m, rfl, by omega, by rw [swp_len]; exact HL'.out, (swp_perm lv0 hs' k m (by rw [HL'.out]; omega) (by rw [HL'.out]; exact hmn) (by omega)).trans HPM.out, HDS.out, HX.out.kept G5 (fun e => by have e' : hb = g := Option.some.inj e; omega), L4, grown_same HGW.out G5⟩, by simp [intOf]; omega⟩
     ·have hA' : 2 * (k : Int) + 2 < (b : Int) := by omega
      clear hin x1 hA hmk
      go_wp2_with fail
      go_region
      go_wp2
      have G4 : wr.grownBy ((((wr.setCell ⟨g, k * 2, none⟩ (.string lm.1)).setCell ⟨g, k * 2 + 1, none⟩ (.int .i64 lm.2)).setCell ⟨g, m * 2, none⟩ (.string lk.1)).setCell ⟨g, m * 2 + 1, none⟩ (.int .i64 lk.2)) (some g) := grown_same (grown_same (grown_same (grownBy_setCellAt wr g (k * 2) _) (grownBy_setCellAt _ g (k * 2 + 1) _)) (grownBy_setCellAt _ g (m * 2) _)) (grownBy_setCellAt _ g (m * 2 + 1) _)
      have G5 : wr.grownBy ((((wr.setCell ⟨g, k * 2, none⟩ (.string lm.1)).setCell ⟨g, k * 2 + 1, none⟩ (.int .i64 lm.2)).setCell ⟨g, m * 2, none⟩ (.string lk.1)).setCell ⟨g, m * 2 + 1, none⟩ (.int .i64 lk.2)).drew (some g) := ⟨G4.os, G4.tape, G4.output, G4.size, G4.block⟩
      have L4 := (HR.out.set k (by rw [HL'.out]; omega) lm.1 lm.2).set m (by rw [List.length_set, HL'.out]; exact hmn) lk.1 lk.2
      have e4 : (hs'.set k (lm.1, lm.2)).set m (lk.1, lk.2) = swp lv0 hs' k m := by
       show (hs'.set k lm).set m lk = swp lv0 hs' k m
       rw [← HLK.out, ← HLM.out]
       rfl
      rw [e4] at L4
      exact ⟨⟨m, swp lv0 hs' k m, rfl, by omega, by rw [swp_len]; exact HL'.out, (swp_perm lv0 hs' k m (by rw [HL'.out]; omega) (by rw [HL'.out]; exact hmn) (by omega)).trans HPM.out, HDS.out, HX.out.kept G5 (fun e => by have e' : hb = g := Option.some.inj e; omega), L4, grown_same HGW.out G5⟩, by simp [intOf]; omega⟩
   obtain ⟨hb2, hbN⟩ := hin
   have hmN : m < n := by
    rcases HLO.out.wh with h | ⟨_, h2, _⟩
    ·omega
    ·rw [← HL'.out]; exact h2
   obtain ⟨lb, hlb⟩ : ∃ l, hv hs' b = l := ⟨_, rfl⟩
   obtain ⟨lm, hlm⟩ : ∃ l, hv hs' m = l := ⟨_, rfl⟩
   obtain ⟨cb0, cb1⟩ := HR.out.cell b (by rw [HL'.out]; exact hbN)
   obtain ⟨cm0, cm1⟩ := HR.out.cell m (by rw [HL'.out]; exact hmN)
   rw [hlb] at cb0 cb1
   rw [hlm] at cm0 cm1
   have HLB := hid hlb
   have HLM := hid hlm
   have HCL := hid (leavesFirst_any lb lm wr.drew)
   have hS0 : wr.drew.cell? ⟨hb, 0, none⟩ = some (.slice (some ⟨g, 0, none⟩) n cap) ∧ wr.drew.cell? ⟨hb, 1, none⟩ = some fFirst ∧ wr.drew.cell? ⟨g, b * 2, none⟩ = some (.string lb.1) ∧ wr.drew.cell? ⟨g, b * 2 + 1, none⟩ = some (.int .i64 lb.2) ∧ wr.drew.cell? ⟨g, m * 2, none⟩ = some (.string lm.1) ∧ wr.drew.cell? ⟨g, m * 2 + 1, none⟩ = some (.int .i64 lm.2) := ⟨x0, x1, cb0, cb1, cm0, cm1⟩
   have hec := enters_of Tryz.func105 (by kernel_rfl) rfl
   have hA : (b : Int) ≤ 2 * (k : Int) + 2 := by omega
   have hB : (b : Int) < (n : Int) := by omega
   clear hlb hlm cb0 cb1 cm0 cm1 x1 HEX HSW
   go_wp2_with fail
   refine wp_region_held (S := fun w' => w'.cell? ⟨hb, 0, none⟩ = some (.slice (some ⟨g, 0, none⟩) n cap) ∧ w'.cell? ⟨hb, 1, none⟩ = some fFirst ∧ w'.cell? ⟨g, b * 2, none⟩ = some (.string lb.1) ∧ w'.cell? ⟨g, b * 2 + 1, none⟩ = some (.int .i64 lb.2) ∧ w'.cell? ⟨g, m * 2, none⟩ = some (.string lm.1) ∧ w'.cell? ⟨g, m * 2 + 1, none⟩ = some (.int .i64 lm.2)) (by kernel_rfl) ?_
   change wpAnyH _ _ _ _ _ _ _ _ (World.drew _)
   refine tkA 0 (.pointer (some ⟨hb, 0, none⟩)) rfl hS0 ?_
   refine tkA 1 (.pointer (some ⟨hb, 0, none⟩)) rfl hS0 ?_
   refine tkA 2 (.pointer (some ⟨hb, 1, none⟩)) rfl hS0 ?_
   refine tkA 3 (fFirst) rfl hS0 ?_
   refine tkA 4 (.pointer (some ⟨hb, 0, none⟩)) rfl hS0 ?_
   refine tkA 5 (.pointer (some ⟨hb, 0, none⟩)) rfl hS0 ?_
   refine tkA 6 (.pointer (some ⟨hb, 0, none⟩)) rfl hS0 ?_
   refine tkA 7 (.slice (some ⟨g, 0, none⟩) n cap) rfl hS0 ?_
   refine tkA 8 (.int .i64 (b : Nat)) rfl hS0 ?_
   refine tkA 9 (.pointer (some ⟨g, b * 2, none⟩)) rfl hS0 ?_
   refine tkA 10 (.agg #[.string lb.1, .int .i64 lb.2]) rfl hS0 ?_
   refine tkA 11 (.pointer (some ⟨hb, 0, none⟩)) rfl hS0 ?_
   refine tkA 12 (.pointer (some ⟨hb, 0, none⟩)) rfl hS0 ?_
   refine tkA 13 (.pointer (some ⟨hb, 0, none⟩)) rfl hS0 ?_
   refine tkA 14 (.slice (some ⟨g, 0, none⟩) n cap) rfl hS0 ?_
   refine tkA 15 (.int .i64 (m : Nat)) rfl hS0 ?_
   refine tkA 16 (.pointer (some ⟨g, m * 2, none⟩)) rfl hS0 ?_
   refine tkA 17 (.agg #[.string lm.1, .int .i64 lm.2]) rfl hS0 ?_
   refine held_one 18 (by kernel_rfl) (op_calls (f := 105) (args := #[.agg #[.string lb.1, .int .i64 lb.2], .agg #[.string lm.1, .int .i64 lm.2]]) rfl rfl (by go_simp) HCL.out ?_)
   rintro e w6 ⟨rfl, hb6⟩
   have hb6' : Below wr.heap.size wr w6 := ⟨hb6.os, hb6.tape, hb6.output, hb6.size, hb6.block⟩
   have R6 := HR.out.below hb6'
   have X6 := HX.out.below hb6'
   obtain ⟨cb0, cb1⟩ := R6.cell b (by rw [HL'.out]; exact hbN)
   obtain ⟨cm0, cm1⟩ := R6.cell m (by rw [HL'.out]; exact hmN)
   rw [HLB.out] at cb0 cb1
   rw [HLM.out] at cm0 cm1
   have hS1 : w6.cell? ⟨hb, 0, none⟩ = some (.slice (some ⟨g, 0, none⟩) n cap) ∧ w6.cell? ⟨hb, 1, none⟩ = some fFirst ∧ w6.cell? ⟨g, b * 2, none⟩ = some (.string lb.1) ∧ w6.cell? ⟨g, b * 2 + 1, none⟩ = some (.int .i64 lb.2) ∧ w6.cell? ⟨g, m * 2, none⟩ = some (.string lm.1) ∧ w6.cell? ⟨g, m * 2 + 1, none⟩ = some (.int .i64 lm.2) := ⟨X6.cell 0, X6.cell 1, cb0, cb1, cm0, cm1⟩
   have HB6 := hid (HBW.out.trans (hb6'.mono HBW.out.size))
   clear R6 X6 hb6 hb6' hS0 cb0 cb1 cm0 cm1 x0
   refine ⟨_, rfl, hS1, ?_⟩
   refine wpAnyH_done (by kernel_rfl) ?_ _
   clear hS1
   cases hf : lfB lb lm with
   | false =>
    have HNX := hid (HLO.out.no (by rw [HLB.out, HLM.out]; exact hf))
    go_simp
    go_wp2
    exact ⟨⟨m, b + 1, rfl, by go_num, by omega, by omega, fun _ => by omega, HNX.out, HB6.out⟩, by simp [intOf]; omega⟩
   | true =>
    have HNX := hid (HLO.out.yes hb0 hb2 (by rw [HL'.out]; exact hbN) (by rw [HLB.out, HLM.out]; exact hf))
    go_simp
    go_wp2
    exact ⟨⟨b, b + 1, rfl, by go_num, by omega, by omega, fun _ => by omega, HNX.out, HB6.out⟩, by simp [intOf]; omega⟩
end Go.Proofs.YtkjdabnglcabiaaGreatDoor
/- (*impl.heap).pop. -/
namespace Go.Proofs.YtkjdabnglcabiaaGreatDoor
open Go.RowKit
structure Store2 (u : World) (b : Nat) (T : TypeId) (c0 c1 d0 d1 : Value) : Prop where
 a0 : u.cell? ⟨b, 0, none⟩ = some c0
 f0 : u.frozen? ⟨b, 0, none⟩ = false
 a1 : (u.setCell ⟨b, 0, none⟩ d0).cell? ⟨b, 1, none⟩ = some c1
 f1 : (u.setCell ⟨b, 0, none⟩ d0).frozen? ⟨b, 1, none⟩ = false
 z : Blk ((u.setCell ⟨b, 0, none⟩ d0).setCell ⟨b, 1, none⟩ d1) b T #[d0, d1]
theorem Blk.store2 {u : World} {b : Nat} {T : TypeId} {c0 c1 : Value} (h : Blk u b T #[c0, c1]) (d0 d1 : Value) : Store2 u b T c0 c1 d0 d1 where
 a0 := h.cell 0
 f0 := h.fz 0
 a1 := (h.set 0 d0).cell 1
 f1 := (h.set 0 d0).fz 1
 z := (h.set 0 d0).set 1 d1
theorem grown_store2 (u : World) (b : Nat) (d0 d1 : Value) : u.grownBy ((u.setCell ⟨b, 0, none⟩ d0).setCell ⟨b, 1, none⟩ d1) (some b) := grown_same (grownBy_setCellAt u b 0 d0) (grownBy_setCellAt _ b 1 d1)
/-- What pop answers, and what it leaves. -/
def PopR (hb B : Nat) (v : Value) (hs : List Lv) (w : World) (e : Ending) (w' : World) : Prop :=
 (hs = [] ∧ e = .returned (.tuple #[.agg #[.string ⟨#[]⟩, .int .i64 0], .bool false]) ∧ Below w.heap.size w w') ∨
 (0 < hs.length ∧ e = .returned (.tuple #[.agg #[.string (hv hs 0).1, .int .i64 (hv hs 0).2], .bool true]) ∧ ∃ v' hs', (hv hs 0 :: hs').Perm hs ∧ HpL hs' ∧ Blk w' hb 151 #[v', fFirst] ∧ LRow w' B v' hs' ∧ But (fun b => b = hb ∨ v.ownBlock = some b) w w')
set_option maxRecDepth 100000 in
set_option maxHeartbeats 8000000 in
theorem heapPop_any (hb B : Nat) (v : Value) (hs : List Lv) (w : World) (hbx : Blk w hb 151 #[v, fFirst]) (hrow : LRow w B v hs) (hne : hb < B) (hp : HpL hs) (hlen : hs.length ≤ 1000) :
  Calls Tryz.prog 88 #[.pointer (some ⟨hb, 0, none⟩)] w (PopR hb B v hs w) := by
 obtain ⟨av, cv, rfl⟩ := row_any hrow
 have hA := ((Below.refl w.heap.size w).alloc (Nat.le_refl _) (.cells #[.string ⟨#[]⟩, .int .i64 0] 132)).alloc (by simp) (.cells #[.string ⟨#[]⟩, .int .i64 0] 132)
 have N0 := (Blk.new w 132 #[.string ⟨#[]⟩, .int .i64 0]).alloc (.cells #[.string ⟨#[]⟩, .int .i64 0] 132)
 have N1 := Blk.new (w.alloc (.cells #[.string ⟨#[]⟩, .int .i64 0] 132)) 132 #[.string ⟨#[]⟩, .int .i64 0]
 rw [World.size_alloc] at N1
 have X := hbx.below hA
 have R := hrow.below hA
 have hbl := hbx.lt
 obtain ⟨w2, hw2⟩ : ∃ x, x = (w.alloc (.cells #[.string ⟨#[]⟩, .int .i64 0] 132)).alloc (.cells #[.string ⟨#[]⟩, .int .i64 0] 132) := ⟨_, rfl⟩
 rw [← hw2] at hA N0 N1 X R
 have x0 : w2.cell? ⟨hb, 0, none⟩ = some (.slice av hs.length cv) := X.cell 0
 have s2 : w.heap.size + 2 ≤ w2.heap.size := by rw [hw2, World.size_alloc, World.size_alloc]; omega
 by_cases h0 : hs.length = 0
 ·obtain rfl : hs = [] := List.length_eq_zero_iff.1 h0
  have t0 : w2.cell? ⟨w.heap.size + 1, 0, none⟩ = some (.string ⟨#[]⟩) := N1.cell 0
  have t1 : w2.cell? ⟨w.heap.size + 1, 1, none⟩ = some (.int .i64 0) := N1.cell 1
  have Z := hid N0
  have BB := hid hA
  clear N0 N1 X R hA hbx hrow hp
  go_enter Tryz.func88, Tryz.ntmps88
  rw [hw2] at *
  go_wp2
  exact bodyPost_ret (v := .tuple #[.agg #[.string ⟨#[]⟩, .int .i64 0], .bool false]) (by simp [results, Tryz.results88, go_sem, Z.out.cell]) rfl (.inl ⟨rfl, rfl, BB.out⟩)
 ·have h0' : 0 < hs.length := by omega
  obtain ⟨g, cap, e0, hgB, hgl⟩ := R.form h0'
  obtain ⟨rfl, _, rfl⟩ : av = some ⟨g, 0, none⟩ ∧ hs.length = hs.length ∧ cv = cap := Value.slice.inj e0
  have hgw : g < w.heap.size := (World.ownsRow.lt hrow g rfl).2
  obtain ⟨n, hn⟩ : ∃ n, hs.length = n + 1 := ⟨hs.length - 1, by omega⟩
  obtain ⟨lt, hlt⟩ : ∃ l, hv hs 0 = l := ⟨_, rfl⟩
  obtain ⟨le, hle⟩ : ∃ l, hv hs n = l := ⟨_, rfl⟩
  have HP := hid hp
  have HT := hid hlt
  have HE := hid hle
  have HN := hid hn
  obtain ⟨c0, c1⟩ := R.cell 0 h0'
  rw [hlt] at c0 c1
  have c0' : w2.cell? ⟨g, 0, none⟩ = some (.string lt.1) := by simpa using c0
  have c1' : w2.cell? ⟨g, 1, none⟩ = some (.int .i64 lt.2) := by simpa using c1
  obtain ⟨W1, hW1⟩ : ∃ x, x = (w.alloc (.cells #[.string ⟨#[]⟩, .int .i64 0] 132)).alloc (.cells #[.string lt.1, .int .i64 lt.2] 132) := ⟨_, rfl⟩
  have hA1 := ((Below.refl w.heap.size w).alloc (Nat.le_refl _) (.cells #[.string ⟨#[]⟩, .int .i64 0] 132)).alloc (by simp) (.cells #[.string lt.1, .int .i64 lt.2] 132)
  have M0 := (Blk.new w 132 #[.string ⟨#[]⟩, .int .i64 0]).alloc (.cells #[.string lt.1, .int .i64 lt.2] 132)
  have M1 := Blk.new (w.alloc (.cells #[.string ⟨#[]⟩, .int .i64 0] 132)) 132 #[.string lt.1, .int .i64 lt.2]
  rw [World.size_alloc] at M1
  rw [← hW1] at hA1 M0 M1
  have X' := hbx.below hA1
  have R' : LRow W1 B (.slice (some ⟨g, 0, none⟩) (n + 1) cv) hs := by have := hrow.below hA1; rw [hn] at this; exact this
  rw [hn] at x0 X' hlen
  have HM0 := hid M0
  have HX := hid X'
  have HR := hid R'
  have HM1 := hid M1
  have HA1 := hid hA1
  have y0 : W1.cell? ⟨hb, 0, none⟩ = some (.slice (some ⟨g, 0, none⟩) (n + 1) cv) := X'.cell 0
  obtain ⟨d0, d1⟩ := R'.cell n (by omega)
  rw [hle] at d0 d1
  obtain ⟨b0, b1⟩ := R'.cell 0 h0'
  have b0' : ∃ z, W1.cell? ⟨g, 0, none⟩ = some z := ⟨_, by simpa using b0⟩
  have b1' : ∃ z, W1.cell? ⟨g, 1, none⟩ = some z := ⟨_, by simpa using b1⟩
  obtain ⟨z0, b0'⟩ := b0'
  obtain ⟨z1, b1'⟩ := b1'
  have k0 := R'.fz 0
  have k1 := R'.fz 1
  clear N0 N1 X R hA hbx hrow hp X' R' c0 c1 b0 b1 hlt hle e0 M0 M1 hA1
  go_enter Tryz.func88, Tryz.ntmps88
  rw [hw2] at x0 c0' c1'
  rw [hW1] at y0 d0 d1 b0' b1' k0 k1
  go_wp2_with fail
  rw [← hW1] at y0 d0 d1 b0' b1' k0 k1 ⊢
  clear x0 c0' c1' hW1 hw2
  have hbg : hb ≠ g := by omega
  go_region
  have G6 : W1.grownBy ((W1.setCell ⟨g, 0, none⟩ (.string le.1)).setCell ⟨g, 1, none⟩ (.int .i64 le.2)).drew (some g) := by
   have h := grown_store2 W1 g (.string le.1) (.int .i64 le.2)
   exact ⟨h.os, h.tape, h.output, h.size, h.block⟩
  have HG6 := hid G6
  have HX6 := hid (HX.out.kept G6 (fun e => hbg (Option.some.inj e)))
  have HR6 : Hid (LRow ((W1.setCell ⟨g, 0, none⟩ (.string le.1)).setCell ⟨g, 1, none⟩ (.int .i64 le.2)).drew B (.slice (some ⟨g, 0, none⟩) (n + 1) cv) (hs.set 0 (le.1, le.2))) := hid (HR.out.set 0 h0' le.1 le.2)
  have HM06 := hid (HM0.out.kept G6 (fun e => by have e' : w.heap.size = g := Option.some.inj e; omega))
  have HM16 := hid (HM1.out.kept G6 (fun e => by have e' : w.heap.size + 1 = g := Option.some.inj e; omega))
  clear G6 y0 d0 d1 b0' b1' k0 k1
  generalize ((W1.setCell ⟨g, 0, none⟩ (.string le.1)).setCell ⟨g, 1, none⟩ (.int .i64 le.2)).drew = W6 at HG6 HX6 HR6 HM06 HM16 ⊢
  have y0 : W6.cell? ⟨hb, 0, none⟩ = some (.slice (some ⟨g, 0, none⟩) (n + 1) cv) := HX6.out.cell 0
  have k0 := HX6.out.fz 0
  have hcap : n + 1 ≤ cv := by
   obtain ⟨_, ⟨e, _⟩ | ⟨g', cap', cur, e1, _, _, e4, _⟩⟩ := HR6.out
   ·cases e
   ·have := (Value.slice.inj e1).2.2
    rw [List.length_set, HN.out] at e4
    omega
  have X7 : Blk (W6.setCell ⟨hb, 0, none⟩ (.slice (some ⟨g, 0, none⟩) n cv)) hb 151 #[.slice (some ⟨g, 0, none⟩) n cv, fFirst] := HX6.out.set 0 (.slice (some ⟨g, 0, none⟩) n cv)
  have G7 := grownBy_setCellAt W6 hb 0 (.slice (some ⟨g, 0, none⟩) n cv)
  have hgne : ¬ g = hb := by omega
  have R7 := (HR6.out.far G7 (fun e => hgne (Option.some.inj e))).take n (by rw [List.length_set, HN.out]; omega)
  have HM07 := hid (HM06.out.kept G7 (fun e => by have e' : w.heap.size = hb := Option.some.inj e; omega))
  have HM17 := hid (HM16.out.kept G7 (fun e => by have e' : w.heap.size + 1 = hb := Option.some.inj e; omega))
  have HDN : Hid (Dn lfB lv0 ((hs.set 0 (le.1, le.2)).take n) 0) := hid (by
   have h := pop_dn lfB lv0 HP.out h0'
   have e : hs.length - 1 = n := by rw [HN.out]; omega
   rw [e] at h
   have e2 : ha lv0 hs n = le := HE.out
   rw [e2] at h
   exact h)
  have HPE : Hid ((lt :: (hs.set 0 (le.1, le.2)).take n).Perm hs) := hid (by
   have h := pop_perm lv0 hs h0'
   have e : hs.length - 1 = n := by rw [HN.out]; omega
   have e1 : ha lv0 hs 0 = lt := HT.out
   have e2 : ha lv0 hs n = le := HE.out
   rw [e, e1, e2] at h
   exact h)
  have HSK := hid (heapSink_any hb B g n cv ((hs.set 0 (le.1, le.2)).take n) (W6.setCell ⟨hb, 0, none⟩ (.slice (some ⟨g, 0, none⟩) n cv)) X7 R7 (by rw [List.length_take, List.length_set, HN.out]; omega) hne hgB HDN.out (by omega))
  have HG7 := hid G7
  clear X7 G7 R7
  go_wp2_with fail
  refine HSK.out.mono ?_
  rintro e w8 ⟨rfl, hs8, hpm8, hhp8, X8, R8, G8⟩
  have M0 := HM07.out.kept G8 (fun e => by have e' : w.heap.size = g := Option.some.inj e; omega)
  have M1 := HM17.out.kept G8 (fun e => by have e' : w.heap.size + 1 = g := Option.some.inj e; omega)
  have t0 : w8.cell? ⟨w.heap.size + 1, 0, none⟩ = some (.string lt.1) := M1.cell 0
  have t1 : w8.cell? ⟨w.heap.size + 1, 1, none⟩ = some (.int .i64 lt.2) := M1.cell 1
  have s9 := M0.store2 (.string lt.1) (.int .i64 lt.2)
  have a0 := s9.a0; have a1 := s9.a1; have f0 := s9.f0; have f1 := s9.f1
  have Z := hid s9.z
  have G9 := grown_store2 w8 w.heap.size (.string lt.1) (.int .i64 lt.2)
  have HX9 := hid (X8.kept G9 (fun e => by have e' : hb = w.heap.size := Option.some.inj e; omega))
  have HR9 := hid (R8.far G9 (fun e => by have e' : g = w.heap.size := Option.some.inj e; omega))
  have HPM := hid hpm8
  have HHP := hid hhp8
  have HBT : Hid (But (fun b => b = hb ∨ (Value.slice (some ⟨g, 0, none⟩) (n + 1) cv).ownBlock = some b) w ((w8.setCell ⟨w.heap.size, 0, none⟩ (.string lt.1)).setCell ⟨w.heap.size, 1, none⟩ (.int .i64 lt.2))) := hid (by
   have b1 : But (fun b => b = hb ∨ (Value.slice (some ⟨g, 0, none⟩) (n + 1) cv).ownBlock = some b) w W1 := But.of_below HA1.out
   have b2 := b1.trans (But.of_grown (P := fun b => b = g) HG6.out rfl) (fun i _ e => .inr (by subst e; rfl))
   have b3 := b2.trans (But.of_grown (P := fun b => b = hb) HG7.out rfl) (fun i _ e => .inl e)
   have b4 := b3.trans (But.of_grown (P := fun b => b = g) G8 rfl) (fun i _ e => .inr (by subst e; rfl))
   exact b4.trans (But.of_grown (P := fun b => b = w.heap.size) G9 rfl) (fun i hi e => by omega))
  clear M0 M1 s9 G9 X8 R8 G8 hpm8 hhp8 y0 k0
  go_wp2
  refine bodyPost_ret (v := .tuple #[.agg #[.string lt.1, .int .i64 lt.2], .bool true]) (by simp [results, Tryz.results88, go_sem, Z.out.cell]) rfl ?_
  rw [← HN.out] at HBT
  exact .inr ⟨h0', by rw [HT.out], _, hs8, by rw [HT.out]; exact (HPM.out.cons lt).trans HPE.out, HHP.out, HX9.out, HR9.out, HBT.out⟩
end Go.Proofs.YtkjdabnglcabiaaGreatDoor
