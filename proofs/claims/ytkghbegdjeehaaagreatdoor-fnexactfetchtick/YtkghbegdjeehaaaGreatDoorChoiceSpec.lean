/- spec.l7Choice. -/
import Derived.Test.YtkghbegdjeehaaaGreatDoorPeerRange
import Derived.Test.YtkghbegdjeehaaaGreatDoorShort
import Derived.Test.YtkghbegdjeehaaaGreatDoorToItems
namespace Go.Proofs.YtkghbegdjeehaaaGreatDoor
open Go.RowKit
theorem askd_take (ps : Prs) (x : ByteArray) (j : Nat) (h : j < ps.length) : askd (ps.take (j + 1)) x = (askd (ps.take j) x || (decide ((pat ps j).wait ≠ 0) && decide ((pat ps j).asked = x))) := by
 unfold askd
 rw [List.take_succ_eq_append_getElem h, List.any_append, show pat ps j = ps[j] by simp [pat, h]]
 simp
/-- Whether a peer is asked for a text. -/
def mayB (ps : Prs) (k : Nat) (x : ByteArray) : Bool := !askd ps x && !inB (pat ps k).nots x
theorem choice_at {ps : Prs} {lacks : List ByteArray} {k i : Nat} (hi : i < lacks.length) (h1 : mayB ps k (tv lacks i) = true) (h2 : ∀ j, j < i → mayB ps k (tv lacks j) = false) : choice ps lacks k = some (tv lacks i) := find_at hi h1 h2
theorem choice_no {ps : Prs} {lacks : List ByteArray} {k : Nat} (h : ∀ j, j < lacks.length → mayB ps k (tv lacks j) = false) : choice ps lacks k = none := find_no h
set_option maxRecDepth 100000 in
set_option maxHeartbeats 4000000 in
theorem l7Choice_any (nm : ByteArray) (now : Int) (full : Bool) (wd room : Int) (vi vp vq vl : Value) (ps : Prs) (lacks : List ByteArray) (at' : Nat) (w : World) (hvi : ∃ a l c, vi = .slice a l c) (hvp : ∃ a l c, vp = .slice a l c) (hq : RdP w vq ps) (hlq : ps.length ≤ 5) (hat : at' < ps.length) (hwt : ∀ i, i < ps.length → 0 ≤ (pat ps i).wait) (hnl : (pat ps at').nots.length ≤ 1048576) (hl : Reads w vl lacks) (hll : lacks.length ≤ 1048576) :
  Calls Tryz.prog 20 #[fval nm now full wd room vi vp vq, vl, .int .i64 at'] w fun e w' => ∃ s, e = .returned (.string s) ∧ ((choice ps lacks at' = none ∧ s = ⟨#[]⟩) ∨ choice ps lacks at' = some s) ∧ Below w.heap.size w w' := by
 obtain ⟨ai, li, ci, rfl⟩ := hvi
 obtain ⟨ap, lp, cp, rfl⟩ := hvp
 have hA := (Below.refl w.heap.size w).alloc (Nat.le_refl _) (.cells (fcells nm now full wd room (.slice ai li ci) (.slice ap lp cp) vq) 35)
 have HA := hid hA
 have HN := hid (Blk.new w 35 (fcells nm now full wd room (.slice ai li ci) (.slice ap lp cp) vq))
 have HQ := hid (hq.below hA)
 have HL := hid (hl.below hA)
 have HWA := hid hwt
 obtain ⟨aq, cq, rfl, hq5⟩ := hq
 obtain ⟨al, lc, rfl, _⟩ := hl.form
 obtain ⟨b0, o0, _, rfl, _⟩ := hq5 at' hat
 clear hA hl hq5 hwt
 obtain ⟨w1, hw1⟩ : ∃ x, x = w.alloc (.cells (fcells nm now full wd room (.slice ai li ci) (.slice ap lp cp) (.slice (some ⟨b0, o0, none⟩) ps.length cq)) 35) := ⟨_, rfl⟩
 have hz1 : w1.heap.size = w.heap.size + 1 := by rw [hw1, World.size_alloc]
 rw [← hw1] at HA HN HQ HL
 have hs1 : w.heap.size + 1 ≤ w1.heap.size := by omega
 clear hz1
 go_enter Tryz.func20, Tryz.ntmps20
 go_wp2
 rw [← hw1]
 clear hw1
 go_loopw [7] (fun i' wr => ∃ i : Nat, i ≤ lacks.length ∧ (∀ j, j < i → mayB ps at' (tv lacks j) = false) ∧ i' = .int .i64 i ∧ Below w1.heap.size w1 wr) (fun i' _ => lacks.length - (intOf i').toNat)
 case atStart => exact ⟨0, Nat.zero_le _, fun j hj => absurd hj (by omega), rfl, Below.refl _ _⟩
 case round =>
  obtain ⟨i, hi, hno, rfl, hbl⟩ := hrel
  obtain ⟨w5, rfl⟩ : ∃ x, x = wr := ⟨_, rfl⟩
  have HNO := hid hno
  have HBW := hid (HA.out.trans (hbl.mono HA.out.size))
  have HBL := hid hbl
  by_cases hlt : i < lacks.length
  case neg =>
   obtain rfl : i = lacks.length := by omega
   clear hno hbl
   go_wp2
   go_ret
   exact ⟨⟨#[]⟩, rfl, .inl ⟨choice_no HNO.out, rfl⟩, HBW.out⟩
  obtain ⟨al', lc', e', hcl⟩ := HL.out.form
  cases e'
  obtain ⟨lb, lo, rfl, hlb, hcx⟩ := hcl i hlt
  obtain ⟨x, hx⟩ : ∃ x, x = tv lacks i := ⟨_, rfl⟩
  have HXV := hid hx
  rw [show lacks.getD i ByteArray.empty = x from hx.symm] at hcx
  have HXC : Hid (∀ W, Below w1.heap.size w1 W → W.cell? ⟨lb, lo + i, none⟩ = some (.string x)) := hid fun W h => (h.cell (p := ⟨lb, lo + i, none⟩) hlb).trans hcx
  obtain ⟨aq', cq', e', hc⟩ := HQ.out
  cases e'
  obtain ⟨b1, o1, vn, e1, h5⟩ := hc at' hat
  cases e1
  have HNC : Hid (∀ W, Below w1.heap.size w1 W → W.cell? ⟨b0, o0 + at' * 5 + 4, none⟩ = some vn ∧ Reads W vn (pat ps at').nots) := hid fun W h => ⟨(h.cell (p := ⟨b0, o0 + at' * 5 + 4, none⟩) h5.lt).trans h5.c4, h5.rd.below h⟩
  have HPJ : Hid (∀ j, j < ps.length → ∀ W, Below w1.heap.size w1 W → W.cell? ⟨b0, o0 + j * 5 + 1, none⟩ = some (.int .i64 (pat ps j).wait) ∧ W.cell? ⟨b0, o0 + j * 5 + 3, none⟩ = some (.string (pat ps j).asked)) := hid fun j hj W h => by
   obtain ⟨b1, o1, v1, e1, h1⟩ := hc j hj
   cases e1
   exact ⟨(h.cell (p := ⟨b0, o0 + j * 5 + 1, none⟩) h1.lt).trans h1.c1, (h.cell (p := ⟨b0, o0 + j * 5 + 3, none⟩) h1.lt).trans h1.c3⟩
  obtain ⟨an, cn, hvn, _⟩ := h5.rd.form
  clear hcl hcx hc h5 hno hbl hx
  have hbd : Below w1.heap.size w1 w5.drew := below_drewN HBL.out 1
  have HBD := hid hbd
  have HIN := hid (l2In_in vn (pat ps at').nots x w5.drew (HNC.out _ hbd).2 (by unfold maxLen; omega))
  have hS0 : w5.drew.cell? ⟨w.heap.size, 7, none⟩ = some (.slice (some ⟨b0, o0, none⟩) ps.length cq) ∧ w5.drew.cell? ⟨b0, o0 + at' * 5 + 4, none⟩ = some vn ∧ w5.drew.cell? ⟨lb, lo + i, none⟩ = some (.string x) := ⟨(HN.out.below hbd).cell 7, (HNC.out _ hbd).1, HXC.out _ hbd⟩
  clear hbd
  subst hvn
  go_upto_region 4 with fail
  refine wp_region_held (S := fun w' => w'.cell? ⟨w.heap.size, 7, none⟩ = some (.slice (some ⟨b0, o0, none⟩) ps.length cq) ∧ w'.cell? ⟨b0, o0 + at' * 5 + 4, none⟩ = some (.slice an (pat ps at').nots.length cn) ∧ w'.cell? ⟨lb, lo + i, none⟩ = some (.string x)) (by kernel_rfl) ?_
  change wpAnyH _ _ _ _ _ _ _ _ (World.drew _)
  refine tkA 0 (.pointer (some ⟨w.heap.size, 7, none⟩)) rfl hS0 ?_
  refine tkA 1 (.slice (some ⟨b0, o0, none⟩) ps.length cq) rfl hS0 ?_
  refine tkA 2 (.int .i64 at') rfl hS0 ?_
  refine tkA 3 (.pointer (some ⟨b0, o0 + at' * 5, none⟩)) rfl hS0 ?_
  refine tkA 4 (.pointer (some ⟨b0, o0 + at' * 5 + 4, none⟩)) rfl hS0 ?_
  refine tkA 5 (.slice an (pat ps at').nots.length cn) rfl hS0 ?_
  refine tkA 6 (.slice (some ⟨lb, lo, none⟩) lacks.length lc) rfl hS0 ?_
  refine tkA 7 (.int .i64 i) rfl hS0 ?_
  refine tkA 8 (.pointer (some ⟨lb, lo + i, none⟩)) rfl hS0 ?_
  refine tkA 9 (.string x) rfl hS0 ?_
  refine held_one 10 (by kernel_rfl) (op_calls (f := 38) (args := #[.slice an (pat ps at').nots.length cn, .string x]) rfl rfl (by go_simp) HIN.out ?_)
  rintro e w7 ⟨rfl, hw7⟩
  have hw7' := hw7.symm
  subst hw7'
  clear hw7
  refine ⟨_, rfl, hS0, ?_⟩
  refine tkA 11 (.bool (!inB (pat ps at').nots x)) rfl hS0 ?_
  refine tkA 12 (.bool (!inB (pat ps at').nots x)) rfl hS0 ?_
  refine wpAnyH_done (by kernel_rfl) ?_ _
  clear hS0
  go_simp
  obtain ⟨w4, hw4⟩ : ∃ x, x = w5.drew := ⟨_, rfl⟩
  rw [← hw4] at HBD
  obtain ⟨fr0, hfr0⟩ : ∃ b, b = inB (pat ps at').nots x := ⟨_, rfl⟩
  have HFV := hid hfr0
  go_wp2
  rw [← hw4]
  clear hw4
  rw [← hfr0]
  clear hfr0
  go_loopw [8, 9] (fun f j' wr => ∃ j : Nat, j ≤ ps.length ∧ f = .bool (!fr0 && !askd (ps.take j) x) ∧ True ∧ j' = .int .i64 j ∧ Below w1.heap.size w1 wr) (fun _ j' _ => ps.length - (intOf j').toNat)
  case atStart => exact ⟨0, Nat.zero_le _, by simp [askd], trivial, rfl, HBD.out⟩
  case round =>
   obtain ⟨j, hj, rfl, _, rfl, hbl⟩ := hrel
   obtain ⟨w6, rfl⟩ : ∃ x, x = wr := ⟨_, rfl⟩
   have HB6 := hid hbl
   have HC7 := hid ((HN.out.below hbl).cell 7)
   have c7 : w6.cell? ⟨w.heap.size, 7, none⟩ = some (.slice (some ⟨b0, o0, none⟩) ps.length cq) := (HN.out.below hbl).cell 7
   have HX6 := hid (HXC.out _ hbl)
   by_cases hjl : j < ps.length
   case neg =>
    obtain rfl : j = ps.length := by omega
    rw [List.take_length]
    have HBE := hid (HA.out.trans (hbl.mono HA.out.size))
    have hcx := HXC.out _ hbl
    have hmv : mayB ps at' x = (!fr0 && !askd ps x) := by unfold mayB; rw [HFV.out, Bool.and_comm]
    cases hm : (!fr0 && !askd ps x) with
    | true =>
     have HCH := hid (choice_at hlt (by rw [← HXV.out, hmv]; exact hm) HNO.out)
     clear hm hmv hbl
     go_wp2
     go_ret
     exact ⟨x, rfl, .inr (by rw [HXV.out]; exact HCH.out), HBE.out⟩
    | false =>
     have HNX : Hid (∀ j, j < i + 1 → mayB ps at' (tv lacks j) = false) := hid fun j hj => (Nat.lt_or_eq_of_le (Nat.le_of_lt_succ hj)).elim (HNO.out j) (fun e => by rw [e, ← HXV.out, hmv]; exact hm)
     clear hm hmv hbl
     go_wp2
     refine ⟨⟨i + 1, by omega, HNX.out, by go_simp, HB6.out⟩, ?_⟩
     simp [intOf]
     omega
   obtain ⟨pw, hpw⟩ : ∃ z, z = (pat ps j).wait := ⟨_, rfl⟩
   obtain ⟨pa, hpa⟩ : ∃ z, z = (pat ps j).asked := ⟨_, rfl⟩
   have hp0 : 0 ≤ pw := by rw [hpw]; exact HWA.out j hjl
   have HWT : Hid (w6.cell? ⟨b0, o0 + j * 5 + 1, none⟩ = some (.int .i64 pw)) := by rw [hpw]; exact hid (HPJ.out j hjl _ hbl).1
   have HAS : Hid (w6.cell? ⟨b0, o0 + j * 5 + 3, none⟩ = some (.string pa)) := by rw [hpa]; exact hid (HPJ.out j hjl _ hbl).2
   have HST := hid (askd_take ps x j hjl)
   rw [← hpw, ← hpa] at HST
   have HBD := hid (below_drewN hbl 1)
   clear hpw hpa hbl
   obtain ⟨fj, hfj⟩ : ∃ b, b = askd (ps.take j) x := ⟨_, rfl⟩
   rw [← hfj] at HST ⊢
   clear hfj
   by_cases hw0 : 0 < pw
   case neg =>
    have hw0' : pw = 0 := by omega
    have HFR1 : Hid (True) := hid trivial
    have HE : Hid (askd (ps.take (j + 1)) x = fj) := hid (by rw [HST.out, hw0']; simp)
    have hS0 : w6.drew.cell? ⟨w.heap.size, 7, none⟩ = some (.slice (some ⟨b0, o0, none⟩) ps.length cq) ∧ w6.drew.cell? ⟨b0, o0 + j * 5 + 1, none⟩ = some (.int .i64 pw) ∧ w6.drew.cell? ⟨b0, o0 + j * 5 + 3, none⟩ = some (.string pa) ∧ w6.drew.cell? ⟨lb, lo + i, none⟩ = some (.string x) := ⟨HC7.out, HWT.out, HAS.out, HX6.out⟩
    go_upto_region 8 with fail
    refine wp_region_held (S := fun w' => w'.cell? ⟨w.heap.size, 7, none⟩ = some (.slice (some ⟨b0, o0, none⟩) ps.length cq) ∧ w'.cell? ⟨b0, o0 + j * 5 + 1, none⟩ = some (.int .i64 pw) ∧ w'.cell? ⟨b0, o0 + j * 5 + 3, none⟩ = some (.string pa) ∧ w'.cell? ⟨lb, lo + i, none⟩ = some (.string x)) (by kernel_rfl) ?_
    change wpAnyH _ _ _ _ _ _ _ _ (World.drew _)
    refine tkA 0 (.pointer (some ⟨w.heap.size, 7, none⟩)) rfl hS0 ?_
    refine tkA 1 (.slice (some ⟨b0, o0, none⟩) ps.length cq) rfl hS0 ?_
    refine tkA 2 (.int .i64 j) rfl hS0 ?_
    refine tkA 3 (.pointer (some ⟨b0, o0 + j * 5, none⟩)) rfl hS0 ?_
    refine tkA 4 (.pointer (some ⟨b0, o0 + j * 5 + 1, none⟩)) rfl hS0 ?_
    refine tkA 5 (.int .i64 pw) rfl hS0 ?_
    refine tkA 6 (.bool false) rfl hS0 ?_
    refine tkA 7 (.bool false) rfl hS0 ?_
    refine tkO 8 rfl hS0 ?_
    refine tkO 9 rfl hS0 ?_
    refine tkO 10 rfl hS0 ?_
    refine tkO 11 rfl hS0 ?_
    refine tkO 12 rfl hS0 ?_
    refine tkO 13 rfl hS0 ?_
    refine tkO 14 rfl hS0 ?_
    refine tkO 15 rfl hS0 ?_
    refine tkO 16 rfl hS0 ?_
    refine tkO 17 rfl hS0 ?_
    refine tkO 18 rfl hS0 ?_
    refine tkA 19 (.bool false) rfl hS0 ?_
    refine wpAnyH_done (by kernel_rfl) ?_ _
    clear hS0
    go_simp
    go_wp2
    refine ⟨⟨j + 1, by omega, by first | (rw [HE.out]; done) | (rw [HE.out]; go_simp), HFR1.out, by go_simp, HBD.out⟩, ?_⟩
    simp [intOf]
    omega
   by_cases hpx : pa = x
   ·have hae : (pa.toList == x.toList) = true := by rw [hpx]; simp
    have HFR0 : Hid (True) := hid trivial
    have HE : Hid (askd (ps.take (j + 1)) x = true) := hid (by rw [HST.out, hpx]; simp [show pw ≠ 0 by omega])
    clear hpx
    have hS0 : w6.drew.cell? ⟨w.heap.size, 7, none⟩ = some (.slice (some ⟨b0, o0, none⟩) ps.length cq) ∧ w6.drew.cell? ⟨b0, o0 + j * 5 + 1, none⟩ = some (.int .i64 pw) ∧ w6.drew.cell? ⟨b0, o0 + j * 5 + 3, none⟩ = some (.string pa) ∧ w6.drew.cell? ⟨lb, lo + i, none⟩ = some (.string x) := ⟨HC7.out, HWT.out, HAS.out, HX6.out⟩
    go_upto_region 8 with fail
    refine wp_region_held (S := fun w' => w'.cell? ⟨w.heap.size, 7, none⟩ = some (.slice (some ⟨b0, o0, none⟩) ps.length cq) ∧ w'.cell? ⟨b0, o0 + j * 5 + 1, none⟩ = some (.int .i64 pw) ∧ w'.cell? ⟨b0, o0 + j * 5 + 3, none⟩ = some (.string pa) ∧ w'.cell? ⟨lb, lo + i, none⟩ = some (.string x)) (by kernel_rfl) ?_
    change wpAnyH _ _ _ _ _ _ _ _ (World.drew _)
    refine tkA 0 (.pointer (some ⟨w.heap.size, 7, none⟩)) rfl hS0 ?_
    refine tkA 1 (.slice (some ⟨b0, o0, none⟩) ps.length cq) rfl hS0 ?_
    refine tkA 2 (.int .i64 j) rfl hS0 ?_
    refine tkA 3 (.pointer (some ⟨b0, o0 + j * 5, none⟩)) rfl hS0 ?_
    refine tkA 4 (.pointer (some ⟨b0, o0 + j * 5 + 1, none⟩)) rfl hS0 ?_
    refine tkA 5 (.int .i64 pw) rfl hS0 ?_
    refine tkA 6 (.bool true) rfl hS0 ?_
    refine tkA 7 (.bool true) rfl hS0 ?_
    refine tkG 8 (.pointer (some ⟨w.heap.size, 7, none⟩)) rfl hS0 ?_
    refine tkG 9 (.slice (some ⟨b0, o0, none⟩) ps.length cq) rfl hS0 ?_
    refine tkG 10 (.int .i64 j) rfl hS0 ?_
    refine tkG 11 (.pointer (some ⟨b0, o0 + j * 5, none⟩)) rfl hS0 ?_
    refine tkG 12 (.pointer (some ⟨b0, o0 + j * 5 + 3, none⟩)) rfl hS0 ?_
    refine tkG 13 (.string pa) rfl hS0 ?_
    refine tkG 14 (.slice (some ⟨lb, lo, none⟩) lacks.length lc) rfl hS0 ?_
    refine tkG 15 (.int .i64 i) rfl hS0 ?_
    refine tkG 16 (.pointer (some ⟨lb, lo + i, none⟩)) rfl hS0 ?_
    refine tkG 17 (.string x) rfl hS0 ?_
    refine tkG 18 (.bool true) rfl hS0 ?_
    refine tkA 19 (.bool true) rfl hS0 ?_
    refine wpAnyH_done (by kernel_rfl) ?_ _
    clear hS0
    go_simp
    go_wp2
    refine ⟨⟨j + 1, by omega, by first | (rw [HE.out]; done) | (rw [HE.out]; go_simp), HFR0.out, by go_simp, HBD.out⟩, ?_⟩
    simp [intOf]
    omega
   ·have hae : (pa.toList == x.toList) = false := by
     cases e : (pa.toList == x.toList) with
     | false => rfl
     | true => exact absurd (text_eq (by simpa using e)) hpx
    have HFR1 : Hid (True) := hid trivial
    have HE : Hid (askd (ps.take (j + 1)) x = fj) := hid (by rw [HST.out]; simp [hpx])
    clear hpx
    have hS0 : w6.drew.cell? ⟨w.heap.size, 7, none⟩ = some (.slice (some ⟨b0, o0, none⟩) ps.length cq) ∧ w6.drew.cell? ⟨b0, o0 + j * 5 + 1, none⟩ = some (.int .i64 pw) ∧ w6.drew.cell? ⟨b0, o0 + j * 5 + 3, none⟩ = some (.string pa) ∧ w6.drew.cell? ⟨lb, lo + i, none⟩ = some (.string x) := ⟨HC7.out, HWT.out, HAS.out, HX6.out⟩
    go_upto_region 8 with fail
    refine wp_region_held (S := fun w' => w'.cell? ⟨w.heap.size, 7, none⟩ = some (.slice (some ⟨b0, o0, none⟩) ps.length cq) ∧ w'.cell? ⟨b0, o0 + j * 5 + 1, none⟩ = some (.int .i64 pw) ∧ w'.cell? ⟨b0, o0 + j * 5 + 3, none⟩ = some (.string pa) ∧ w'.cell? ⟨lb, lo + i, none⟩ = some (.string x)) (by kernel_rfl) ?_
    change wpAnyH _ _ _ _ _ _ _ _ (World.drew _)
    refine tkA 0 (.pointer (some ⟨w.heap.size, 7, none⟩)) rfl hS0 ?_
    refine tkA 1 (.slice (some ⟨b0, o0, none⟩) ps.length cq) rfl hS0 ?_
    refine tkA 2 (.int .i64 j) rfl hS0 ?_
    refine tkA 3 (.pointer (some ⟨b0, o0 + j * 5, none⟩)) rfl hS0 ?_
    refine tkA 4 (.pointer (some ⟨b0, o0 + j * 5 + 1, none⟩)) rfl hS0 ?_
    refine tkA 5 (.int .i64 pw) rfl hS0 ?_
    refine tkA 6 (.bool true) rfl hS0 ?_
    refine tkA 7 (.bool true) rfl hS0 ?_
    refine tkG 8 (.pointer (some ⟨w.heap.size, 7, none⟩)) rfl hS0 ?_
    refine tkG 9 (.slice (some ⟨b0, o0, none⟩) ps.length cq) rfl hS0 ?_
    refine tkG 10 (.int .i64 j) rfl hS0 ?_
    refine tkG 11 (.pointer (some ⟨b0, o0 + j * 5, none⟩)) rfl hS0 ?_
    refine tkG 12 (.pointer (some ⟨b0, o0 + j * 5 + 3, none⟩)) rfl hS0 ?_
    refine tkG 13 (.string pa) rfl hS0 ?_
    refine tkG 14 (.slice (some ⟨lb, lo, none⟩) lacks.length lc) rfl hS0 ?_
    refine tkG 15 (.int .i64 i) rfl hS0 ?_
    refine tkG 16 (.pointer (some ⟨lb, lo + i, none⟩)) rfl hS0 ?_
    refine tkG 17 (.string x) rfl hS0 ?_
    refine tkG 18 (.bool false) rfl hS0 ?_
    refine tkA 19 (.bool false) rfl hS0 ?_
    refine wpAnyH_done (by kernel_rfl) ?_ _
    clear hS0
    go_simp
    go_wp2
    refine ⟨⟨j + 1, by omega, by first | (rw [HE.out]; done) | (rw [HE.out]; go_simp), HFR1.out, by go_simp, HBD.out⟩, ?_⟩
    simp [intOf]
    omega
end Go.Proofs.YtkghbegdjeehaaaGreatDoor
