/- spec.l7Next. -/
import Derived.Test.YtkghbegdjeehaaaGreatDoorPeerRange
import Derived.Test.YtkghbegdjeehaaaGreatDoorShort
import Derived.Test.YtkghbegdjeehaaaGreatDoorToItems
namespace Go.Proofs.YtkghbegdjeehaaaGreatDoor
open Go.RowKit
/-- The best of those that were looked at so far. -/
def BestN (ps : Prs) (pre : List Nat) (n : Nat) (r : Int) : Prop := (r = -1 ∧ ∀ i, i < n → ¬ Cand ps pre i) ∨ ∃ k : Nat, k < n ∧ r = (k : Int) ∧ Cand ps pre k ∧ ∀ i, i < n → Cand ps pre i → i ≠ k → Sooner ps k i
theorem BestN.start (ps : Prs) (pre : List Nat) : BestN ps pre 0 (-1) := .inl ⟨rfl, fun i h => absurd h (by omega)⟩
theorem BestN.done {ps : Prs} {pre : List Nat} {r : Int} (h : BestN ps pre ps.length r) : NextR ps pre r := by
 rcases h with ⟨rfl, h⟩ | ⟨k, _, rfl, hk, h⟩
 ·exact .inl ⟨rfl, fun i hi => h i hi.1 hi⟩
 ·exact .inr ⟨k, rfl, hk, fun i hi => h i hi.1 hi⟩
theorem BestN.skip {ps : Prs} {pre : List Nat} {n : Nat} {r : Int} (h : BestN ps pre n r) (hn : ¬ Cand ps pre n) : BestN ps pre (n + 1) r := by
 rcases h with ⟨rfl, h⟩ | ⟨k, hk1, rfl, hk, h⟩
 ·exact .inl ⟨rfl, fun i hi => (Nat.lt_or_eq_of_le (Nat.le_of_lt_succ hi)).elim (h i) (fun e => e ▸ hn)⟩
 ·exact .inr ⟨k, by omega, rfl, hk, fun i hi hc => (Nat.lt_or_eq_of_le (Nat.le_of_lt_succ hi)).elim (fun h1 => h i h1 hc) (fun e => absurd hc (e ▸ hn))⟩
theorem BestN.first {ps : Prs} {pre : List Nat} {n : Nat} (h : BestN ps pre n (-1)) (hn : Cand ps pre n) : BestN ps pre (n + 1) (n : Int) := by
 rcases h with ⟨_, h⟩ | ⟨k, _, e, _⟩
 ·exact .inr ⟨n, by omega, rfl, hn, fun i hi hc hne => (Nat.lt_or_eq_of_le (Nat.le_of_lt_succ hi)).elim (fun h1 => absurd hc (h i h1)) (fun e => absurd e hne)⟩
 ·omega
theorem BestN.less {ps : Prs} {pre : List Nat} {n m : Nat} (h : BestN ps pre n (m : Int)) (hn : Cand ps pre n) (hl : (pat ps n).last < (pat ps m).last) : BestN ps pre (n + 1) (n : Int) := by
 rcases h with ⟨e, _⟩ | ⟨k, hk1, e, hk, h⟩
 ·omega
 ·obtain rfl : m = k := by omega
  refine .inr ⟨n, by omega, rfl, hn, fun i hi hc hne => ?_⟩
  have hi' : i < n := by omega
  by_cases e : i = m
  ·subst e; exact .inl hl
  ·have := h i hi' hc e
   unfold Sooner at this ⊢
   omega
theorem BestN.more {ps : Prs} {pre : List Nat} {n m : Nat} (h : BestN ps pre n (m : Int)) (hl : ¬ (pat ps n).last < (pat ps m).last) : BestN ps pre (n + 1) (m : Int) := by
 rcases h with ⟨e, _⟩ | ⟨k, hk1, e, hk, h⟩
 ·omega
 ·obtain rfl : m = k := by omega
  refine .inr ⟨m, by omega, rfl, hk, fun i hi hc hne => ?_⟩
  by_cases e : i = n
  ·subst e; unfold Sooner; omega
  ·exact h i (by omega) hc hne
theorem BestN.form {ps : Prs} {pre : List Nat} {n : Nat} {r : Int} (h : BestN ps pre n r) : r = -1 ∨ ∃ m : Nat, m < n ∧ r = (m : Int) := by
 rcases h with ⟨h, _⟩ | ⟨k, h1, h2, _⟩
 ·exact .inl h
 ·exact .inr ⟨k, h1, h2⟩
set_option maxRecDepth 100000 in
set_option maxHeartbeats 4000000 in
theorem l7Next_any (nm : ByteArray) (now : Int) (full : Bool) (wd room : Int) (vi vp vq : Value) (ps : Prs) (pre : List Nat) (sb cs : Nat) (w : World) (hvi : ∃ a l c, vi = .slice a l c) (hvp : ∃ a l c, vp = .slice a l c) (hq : RdP w vq ps) (hlq : ps.length ≤ 5) (hsl : sb < w.heap.size) (hs : ∀ i, i < ps.length → w.cell? ⟨sb, i, none⟩ = some (.bool (decide (i ∈ pre)))) :
  Calls Tryz.prog 19 #[fval nm now full wd room vi vp vq, .slice (some ⟨sb, 0, none⟩) ps.length cs] w fun e w' => ∃ r, e = .returned (.int .i64 r) ∧ NextR ps pre r ∧ Below w.heap.size w w' := by
 obtain ⟨ai, li, ci, rfl⟩ := hvi
 obtain ⟨ap, lp, cp, rfl⟩ := hvp
 have hA := (Below.refl w.heap.size w).alloc (Nat.le_refl _) (.cells (fcells nm now full wd room (.slice ai li ci) (.slice ap lp cp) vq) 35)
 have HA := hid hA
 have HN := hid (Blk.new w 35 (fcells nm now full wd room (.slice ai li ci) (.slice ap lp cp) vq))
 have HS := hid hs
 have HQ := hid hq
 obtain ⟨aq, cq, rfl, _⟩ := hq
 clear hA hs
 obtain ⟨w1, hw1⟩ : ∃ x, x = w.alloc (.cells (fcells nm now full wd room (.slice ai li ci) (.slice ap lp cp) (.slice aq ps.length cq)) 35) := ⟨_, rfl⟩
 have hz1 : w1.heap.size = w.heap.size + 1 := by rw [hw1, World.size_alloc]
 rw [← hw1] at HA HN
 have hs1 : w.heap.size + 1 ≤ w1.heap.size := by omega
 clear hz1
 go_enter Tryz.func19, Tryz.ntmps19
 go_wp2
 rw [← hw1]
 clear hw1
 go_loopw [5, 6] (fun r i wr => ∃ (k : Nat) (b : Int), k ≤ ps.length ∧ BestN ps pre k b ∧ r = .int .i64 b ∧ i = .int .i64 k ∧ Below w1.heap.size w1 wr) (fun _ i _ => ps.length - (intOf i).toNat)
 case atStart => exact ⟨0, -1, Nat.zero_le _, BestN.start _ _, rfl, rfl, Below.refl _ _⟩
 case round =>
  obtain ⟨k, b, hk, hbest, rfl, rfl, hbl⟩ := hrel
  obtain ⟨w5, rfl⟩ : ∃ x, x = wr := ⟨_, rfl⟩
  have HBEST := hid hbest
  have NR := HN.out.below hbl
  have hs5 := hbl.size
  by_cases hlt : k < ps.length
  case neg =>
   obtain rfl : k = ps.length := by omega
   have c7 : w5.cell? ⟨w.heap.size, 7, none⟩ = some (.slice aq ps.length cq) := NR.cell 7
   have HBW := hid (HA.out.trans (hbl.mono HA.out.size))
   clear NR hbl hbest
   go_wp2
   go_ret
   exact ⟨b, rfl, HBEST.out.done, HBW.out⟩
  obtain ⟨aq', cq', e', hc⟩ := (HQ.out.below HA.out).below hbl
  cases e'
  obtain ⟨b0, o0, vn, rfl, h5⟩ := hc k hlt
  have c7 : w5.cell? ⟨w.heap.size, 7, none⟩ = some (.slice (some ⟨b0, o0, none⟩) ps.length cq) := NR.cell 7
  have HLA : Hid (∀ m, m < ps.length → w5.cell? ⟨b0, o0 + m * 5 + 2, none⟩ = some (.int .i64 (pat ps m).last) ∧ b0 < w5.heap.size) := hid fun m hm => by
   obtain ⟨b1, o1, v1, e1, h1⟩ := hc m hm
   cases e1
   exact ⟨h1.c2, h1.lt⟩
  obtain ⟨pl, pw, pt, pa, pn, hp⟩ : ∃ pl pw pt pa pn, pat ps k = ⟨pl, pw, pt, pa, pn⟩ := ⟨_, _, _, _, _, rfl⟩
  rw [hp] at h5
  obtain ⟨x0, x1, x2, x3, x4, x5, x6⟩ := h5
  dsimp only at x1 x2 x3 x4 x5 x6
  obtain ⟨an, cn, rfl, _⟩ := x6.form
  have HP := hid hp
  have hD : Below w5.heap.size w5 (w5.alloc (.cells #[.int .i64 pl, .int .i64 pw, .int .i64 pt, .string pa, .slice an pn.length cn] 50)) := (Below.refl _ _).alloc (Nat.le_refl _) _
  have HNP := hid (Blk.new w5 50 #[.int .i64 pl, .int .i64 pw, .int .i64 pt, .string pa, .slice an pn.length cn])
  have HBX := hid (NR.alloc (.cells #[.int .i64 pl, .int .i64 pw, .int .i64 pt, .string pa, .slice an pn.length cn] 50))
  have HSN0 : Hid (∀ W : World, Below w5.heap.size w5 W → W.cell? ⟨sb, k, none⟩ = some (.bool (decide (k ∈ pre)))) := hid fun W h => ((HA.out.trans ((hbl.trans (h.mono hbl.size)).mono HA.out.size)).cell (p := ⟨sb, k, none⟩) hsl).trans (HS.out k hlt)
  have HSN1 := hid (HSN0.out _ hD)
  have HB7 := hid (below_drewN (hbl.trans (hD.mono hbl.size)) 1)
  have HLB : Hid (∀ m, m < ps.length → (w5.alloc (.cells #[.int .i64 pl, .int .i64 pw, .int .i64 pt, .string pa, .slice an pn.length cn] 50)).cell? ⟨b0, o0 + m * 5 + 2, none⟩ = some (.int .i64 (pat ps m).last)) := hid fun m hm => (hD.cell (p := ⟨b0, o0 + m * 5 + 2, none⟩) (HLA.out m hm).2).trans (HLA.out m hm).1
  obtain ⟨w6, hw6⟩ : ∃ x, x = w5.alloc (.cells #[.int .i64 pl, .int .i64 pw, .int .i64 pt, .string pa, .slice an pn.length cn] 50) := ⟨_, rfl⟩
  rw [← hw6] at HNP HBX HSN1 HB7 HLB
  clear hp hD NR hbl hbest HSN0 HLA hc x6 hs5
  by_cases hse : k ∈ pre
  ·have HSN : Hid (w6.cell? ⟨sb, k, none⟩ = some (.bool true)) := by rw [decide_eq_true hse] at HSN1; exact HSN1
   have HR := hid (HBEST.out.skip fun h => h.2.1 hse)
   clear hse HSN1
   have hS0 : w6.drew.cell? ⟨sb, k, none⟩ = some (.bool true) ∧ w6.drew.cell? ⟨w5.heap.size, 0, none⟩ = some (.int .i64 pl) ∧ w6.drew.cell? ⟨w5.heap.size, 1, none⟩ = some (.int .i64 pw) ∧ w6.drew.cell? ⟨w5.heap.size, 2, none⟩ = some (.int .i64 pt) := ⟨HSN.out, HNP.out.cell 0, HNP.out.cell 1, HNP.out.cell 2⟩
   go_upto_region 6 with fail
   rw [← hw6]
   clear hw6
   refine wp_region_held (S := fun w' => w'.cell? ⟨sb, k, none⟩ = some (.bool true) ∧ w'.cell? ⟨w5.heap.size, 0, none⟩ = some (.int .i64 pl) ∧ w'.cell? ⟨w5.heap.size, 1, none⟩ = some (.int .i64 pw) ∧ w'.cell? ⟨w5.heap.size, 2, none⟩ = some (.int .i64 pt)) (by kernel_rfl) ?_
   change wpAnyH _ _ _ _ _ _ _ _ (World.drew _)
   refine tkA 0 (.slice (some ⟨sb, 0, none⟩) ps.length cs) rfl hS0 ?_
   refine tkA 1 (.int .i64 k) rfl hS0 ?_
   refine tkA 2 (.pointer (some ⟨sb, k, none⟩)) rfl hS0 ?_
   refine tkA 3 (.bool true) rfl hS0 ?_
   refine tkA 4 (.bool false) rfl hS0 ?_
   refine tkA 5 (.bool false) rfl hS0 ?_
   refine tkO 6 rfl hS0 ?_
   refine tkO 7 rfl hS0 ?_
   refine tkO 8 rfl hS0 ?_
   refine tkA 9 (.bool false) rfl hS0 ?_
   refine tkA 10 (.bool false) rfl hS0 ?_
   refine tkO 11 rfl hS0 ?_
   refine tkO 12 rfl hS0 ?_
   refine tkO 13 rfl hS0 ?_
   refine tkA 14 (.bool false) rfl hS0 ?_
   refine tkA 15 (.bool false) rfl hS0 ?_
   refine tkO 16 rfl hS0 ?_
   refine tkO 17 rfl hS0 ?_
   refine tkO 18 rfl hS0 ?_
   refine tkO 19 rfl hS0 ?_
   refine tkO 20 rfl hS0 ?_
   refine tkO 21 rfl hS0 ?_
   refine tkO 22 rfl hS0 ?_
   refine tkO 23 rfl hS0 ?_
   refine tkO 24 rfl hS0 ?_
   refine tkO 25 rfl hS0 ?_
   refine tkO 26 rfl hS0 ?_
   refine tkO 27 rfl hS0 ?_
   refine tkO 28 rfl hS0 ?_
   refine tkA 29 (.bool false) rfl hS0 ?_
   refine wpAnyH_done (by kernel_rfl) ?_ _
   clear hS0
   go_simp
   go_wp2
   refine ⟨⟨k + 1, b, by omega, HR.out, by simp, by go_simp, HB7.out⟩, ?_⟩
   simp [intOf]
   omega
  have HSN : Hid (w6.cell? ⟨sb, k, none⟩ = some (.bool false)) := by rw [decide_eq_false hse] at HSN1; exact HSN1
  have HSE := hid hse
  clear hse HSN1
  by_cases hw0 : pw = 0
  case neg =>
   have hw0' : (pw == 0) = false := by simpa using hw0
   have HR := hid (HBEST.out.skip fun h => by have := h.2.2.1; rw [HP.out] at this; exact hw0 this)
   clear hw0
   have hS0 : w6.drew.cell? ⟨sb, k, none⟩ = some (.bool false) ∧ w6.drew.cell? ⟨w5.heap.size, 0, none⟩ = some (.int .i64 pl) ∧ w6.drew.cell? ⟨w5.heap.size, 1, none⟩ = some (.int .i64 pw) ∧ w6.drew.cell? ⟨w5.heap.size, 2, none⟩ = some (.int .i64 pt) := ⟨HSN.out, HNP.out.cell 0, HNP.out.cell 1, HNP.out.cell 2⟩
   go_upto_region 6 with fail
   rw [← hw6]
   clear hw6
   refine wp_region_held (S := fun w' => w'.cell? ⟨sb, k, none⟩ = some (.bool false) ∧ w'.cell? ⟨w5.heap.size, 0, none⟩ = some (.int .i64 pl) ∧ w'.cell? ⟨w5.heap.size, 1, none⟩ = some (.int .i64 pw) ∧ w'.cell? ⟨w5.heap.size, 2, none⟩ = some (.int .i64 pt)) (by kernel_rfl) ?_
   change wpAnyH _ _ _ _ _ _ _ _ (World.drew _)
   refine tkA 0 (.slice (some ⟨sb, 0, none⟩) ps.length cs) rfl hS0 ?_
   refine tkA 1 (.int .i64 k) rfl hS0 ?_
   refine tkA 2 (.pointer (some ⟨sb, k, none⟩)) rfl hS0 ?_
   refine tkA 3 (.bool false) rfl hS0 ?_
   refine tkA 4 (.bool true) rfl hS0 ?_
   refine tkA 5 (.bool true) rfl hS0 ?_
   refine tkG 6 (.pointer (some ⟨w5.heap.size, 1, none⟩)) rfl hS0 ?_
   refine tkG 7 (.int .i64 pw) rfl hS0 ?_
   refine tkG 8 (.bool false) rfl hS0 ?_
   refine tkA 9 (.bool false) rfl hS0 ?_
   refine tkA 10 (.bool false) rfl hS0 ?_
   refine tkO 11 rfl hS0 ?_
   refine tkO 12 rfl hS0 ?_
   refine tkO 13 rfl hS0 ?_
   refine tkA 14 (.bool false) rfl hS0 ?_
   refine tkA 15 (.bool false) rfl hS0 ?_
   refine tkO 16 rfl hS0 ?_
   refine tkO 17 rfl hS0 ?_
   refine tkO 18 rfl hS0 ?_
   refine tkO 19 rfl hS0 ?_
   refine tkO 20 rfl hS0 ?_
   refine tkO 21 rfl hS0 ?_
   refine tkO 22 rfl hS0 ?_
   refine tkO 23 rfl hS0 ?_
   refine tkO 24 rfl hS0 ?_
   refine tkO 25 rfl hS0 ?_
   refine tkO 26 rfl hS0 ?_
   refine tkO 27 rfl hS0 ?_
   refine tkO 28 rfl hS0 ?_
   refine tkA 29 (.bool false) rfl hS0 ?_
   refine wpAnyH_done (by kernel_rfl) ?_ _
   clear hS0
   go_simp
   go_wp2
   refine ⟨⟨k + 1, b, by omega, HR.out, by simp, by go_simp, HB7.out⟩, ?_⟩
   simp [intOf]
   omega
  subst hw0
  by_cases hl3 : pl < 3
  case neg =>
   have HR := hid (HBEST.out.skip fun h => by have := h.2.2.2; rw [HP.out] at this; exact hl3 this)
   have hS0 : w6.drew.cell? ⟨sb, k, none⟩ = some (.bool false) ∧ w6.drew.cell? ⟨w5.heap.size, 0, none⟩ = some (.int .i64 pl) ∧ w6.drew.cell? ⟨w5.heap.size, 1, none⟩ = some (.int .i64 0) ∧ w6.drew.cell? ⟨w5.heap.size, 2, none⟩ = some (.int .i64 pt) := ⟨HSN.out, HNP.out.cell 0, HNP.out.cell 1, HNP.out.cell 2⟩
   go_upto_region 6 with fail
   rw [← hw6]
   clear hw6
   refine wp_region_held (S := fun w' => w'.cell? ⟨sb, k, none⟩ = some (.bool false) ∧ w'.cell? ⟨w5.heap.size, 0, none⟩ = some (.int .i64 pl) ∧ w'.cell? ⟨w5.heap.size, 1, none⟩ = some (.int .i64 0) ∧ w'.cell? ⟨w5.heap.size, 2, none⟩ = some (.int .i64 pt)) (by kernel_rfl) ?_
   change wpAnyH _ _ _ _ _ _ _ _ (World.drew _)
   refine tkA 0 (.slice (some ⟨sb, 0, none⟩) ps.length cs) rfl hS0 ?_
   refine tkA 1 (.int .i64 k) rfl hS0 ?_
   refine tkA 2 (.pointer (some ⟨sb, k, none⟩)) rfl hS0 ?_
   refine tkA 3 (.bool false) rfl hS0 ?_
   refine tkA 4 (.bool true) rfl hS0 ?_
   refine tkA 5 (.bool true) rfl hS0 ?_
   refine tkG 6 (.pointer (some ⟨w5.heap.size, 1, none⟩)) rfl hS0 ?_
   refine tkG 7 (.int .i64 0) rfl hS0 ?_
   refine tkG 8 (.bool true) rfl hS0 ?_
   refine tkA 9 (.bool true) rfl hS0 ?_
   refine tkA 10 (.bool true) rfl hS0 ?_
   refine tkG 11 (.pointer (some ⟨w5.heap.size, 0, none⟩)) rfl hS0 ?_
   refine tkG 12 (.int .i64 pl) rfl hS0 ?_
   refine tkG 13 (.bool false) rfl hS0 ?_
   refine tkA 14 (.bool false) rfl hS0 ?_
   refine tkA 15 (.bool false) rfl hS0 ?_
   refine tkO 16 rfl hS0 ?_
   refine tkO 17 rfl hS0 ?_
   refine tkO 18 rfl hS0 ?_
   refine tkO 19 rfl hS0 ?_
   refine tkO 20 rfl hS0 ?_
   refine tkO 21 rfl hS0 ?_
   refine tkO 22 rfl hS0 ?_
   refine tkO 23 rfl hS0 ?_
   refine tkO 24 rfl hS0 ?_
   refine tkO 25 rfl hS0 ?_
   refine tkO 26 rfl hS0 ?_
   refine tkO 27 rfl hS0 ?_
   refine tkO 28 rfl hS0 ?_
   refine tkA 29 (.bool false) rfl hS0 ?_
   refine wpAnyH_done (by kernel_rfl) ?_ _
   clear hS0
   go_simp
   go_wp2
   refine ⟨⟨k + 1, b, by omega, HR.out, by simp, by go_simp, HB7.out⟩, ?_⟩
   simp [intOf]
   omega
  have HC : Hid (Cand ps pre k) := hid ⟨hlt, HSE.out, by rw [HP.out]; exact ⟨rfl, hl3⟩⟩
  rcases HBEST.out.form with hbf | ⟨m, hmk, hbf⟩
  ·subst hbf
   have HR := hid (HBEST.out.first HC.out)
   have hS0 : w6.drew.cell? ⟨sb, k, none⟩ = some (.bool false) ∧ w6.drew.cell? ⟨w5.heap.size, 0, none⟩ = some (.int .i64 pl) ∧ w6.drew.cell? ⟨w5.heap.size, 1, none⟩ = some (.int .i64 0) ∧ w6.drew.cell? ⟨w5.heap.size, 2, none⟩ = some (.int .i64 pt) := ⟨HSN.out, HNP.out.cell 0, HNP.out.cell 1, HNP.out.cell 2⟩
   go_upto_region 6 with fail
   rw [← hw6]
   clear hw6
   refine wp_region_held (S := fun w' => w'.cell? ⟨sb, k, none⟩ = some (.bool false) ∧ w'.cell? ⟨w5.heap.size, 0, none⟩ = some (.int .i64 pl) ∧ w'.cell? ⟨w5.heap.size, 1, none⟩ = some (.int .i64 0) ∧ w'.cell? ⟨w5.heap.size, 2, none⟩ = some (.int .i64 pt)) (by kernel_rfl) ?_
   change wpAnyH _ _ _ _ _ _ _ _ (World.drew _)
   refine tkA 0 (.slice (some ⟨sb, 0, none⟩) ps.length cs) rfl hS0 ?_
   refine tkA 1 (.int .i64 k) rfl hS0 ?_
   refine tkA 2 (.pointer (some ⟨sb, k, none⟩)) rfl hS0 ?_
   refine tkA 3 (.bool false) rfl hS0 ?_
   refine tkA 4 (.bool true) rfl hS0 ?_
   refine tkA 5 (.bool true) rfl hS0 ?_
   refine tkG 6 (.pointer (some ⟨w5.heap.size, 1, none⟩)) rfl hS0 ?_
   refine tkG 7 (.int .i64 0) rfl hS0 ?_
   refine tkG 8 (.bool true) rfl hS0 ?_
   refine tkA 9 (.bool true) rfl hS0 ?_
   refine tkA 10 (.bool true) rfl hS0 ?_
   refine tkG 11 (.pointer (some ⟨w5.heap.size, 0, none⟩)) rfl hS0 ?_
   refine tkG 12 (.int .i64 pl) rfl hS0 ?_
   refine tkG 13 (.bool true) rfl hS0 ?_
   refine tkA 14 (.bool true) rfl hS0 ?_
   refine tkA 15 (.bool true) rfl hS0 ?_
   refine tkG 16 (.int .i64 (-1)) rfl hS0 ?_
   refine tkG 17 (.bool true) rfl hS0 ?_
   refine tkG 18 (.bool true) rfl hS0 ?_
   refine tkO 19 rfl hS0 ?_
   refine tkO 20 rfl hS0 ?_
   refine tkO 21 rfl hS0 ?_
   refine tkO 22 rfl hS0 ?_
   refine tkO 23 rfl hS0 ?_
   refine tkO 24 rfl hS0 ?_
   refine tkO 25 rfl hS0 ?_
   refine tkO 26 rfl hS0 ?_
   refine tkO 27 rfl hS0 ?_
   refine tkG 28 (.bool true) rfl hS0 ?_
   refine tkA 29 (.bool true) rfl hS0 ?_
   refine wpAnyH_done (by kernel_rfl) ?_ _
   clear hS0
   go_simp
   go_wp2
   refine ⟨⟨k + 1, (k : Int), by omega, HR.out, by simp, by go_simp, HB7.out⟩, ?_⟩
   simp [intOf]
   omega
  ·subst hbf
   obtain ⟨mt, hmt⟩ : ∃ mt, mt = (pat ps m).last := ⟨_, rfl⟩
   have HMT : Hid (w6.cell? ⟨b0, o0 + m * 5 + 2, none⟩ = some (.int .i64 mt)) := by rw [hmt]; exact hid (HLB.out m (by omega))
   have HMM := hid hmt
   have hmp : m < ps.length := by omega
   clear hmt
   by_cases hlm : pt < mt
   ·have HR := hid (HBEST.out.less HC.out (by rw [HP.out, ← HMM.out]; exact hlm))
    have hS0 : w6.drew.cell? ⟨sb, k, none⟩ = some (.bool false) ∧ w6.drew.cell? ⟨w5.heap.size, 0, none⟩ = some (.int .i64 pl) ∧ w6.drew.cell? ⟨w5.heap.size, 1, none⟩ = some (.int .i64 0) ∧ w6.drew.cell? ⟨w5.heap.size, 2, none⟩ = some (.int .i64 pt) ∧ w6.drew.cell? ⟨w.heap.size, 7, none⟩ = some (.slice (some ⟨b0, o0, none⟩) ps.length cq) ∧ w6.drew.cell? ⟨b0, o0 + m * 5 + 2, none⟩ = some (.int .i64 mt) := ⟨HSN.out, HNP.out.cell 0, HNP.out.cell 1, HNP.out.cell 2, HBX.out.cell 7, HMT.out⟩
    go_upto_region 6 with fail
    rw [← hw6]
    clear hw6
    refine wp_region_held (S := fun w' => w'.cell? ⟨sb, k, none⟩ = some (.bool false) ∧ w'.cell? ⟨w5.heap.size, 0, none⟩ = some (.int .i64 pl) ∧ w'.cell? ⟨w5.heap.size, 1, none⟩ = some (.int .i64 0) ∧ w'.cell? ⟨w5.heap.size, 2, none⟩ = some (.int .i64 pt) ∧ w'.cell? ⟨w.heap.size, 7, none⟩ = some (.slice (some ⟨b0, o0, none⟩) ps.length cq) ∧ w'.cell? ⟨b0, o0 + m * 5 + 2, none⟩ = some (.int .i64 mt)) (by kernel_rfl) ?_
    change wpAnyH _ _ _ _ _ _ _ _ (World.drew _)
    refine tkA 0 (.slice (some ⟨sb, 0, none⟩) ps.length cs) rfl hS0 ?_
    refine tkA 1 (.int .i64 k) rfl hS0 ?_
    refine tkA 2 (.pointer (some ⟨sb, k, none⟩)) rfl hS0 ?_
    refine tkA 3 (.bool false) rfl hS0 ?_
    refine tkA 4 (.bool true) rfl hS0 ?_
    refine tkA 5 (.bool true) rfl hS0 ?_
    refine tkG 6 (.pointer (some ⟨w5.heap.size, 1, none⟩)) rfl hS0 ?_
    refine tkG 7 (.int .i64 0) rfl hS0 ?_
    refine tkG 8 (.bool true) rfl hS0 ?_
    refine tkA 9 (.bool true) rfl hS0 ?_
    refine tkA 10 (.bool true) rfl hS0 ?_
    refine tkG 11 (.pointer (some ⟨w5.heap.size, 0, none⟩)) rfl hS0 ?_
    refine tkG 12 (.int .i64 pl) rfl hS0 ?_
    refine tkG 13 (.bool true) rfl hS0 ?_
    refine tkA 14 (.bool true) rfl hS0 ?_
    refine tkA 15 (.bool true) rfl hS0 ?_
    refine tkG 16 (.int .i64 m) rfl hS0 ?_
    refine tkG 17 (.bool false) rfl hS0 ?_
    refine tkG 18 (.bool false) rfl hS0 ?_
    refine tkG 19 (.pointer (some ⟨w5.heap.size, 2, none⟩)) rfl hS0 ?_
    refine tkG 20 (.int .i64 pt) rfl hS0 ?_
    refine tkG 21 (.pointer (some ⟨w.heap.size, 7, none⟩)) rfl hS0 ?_
    refine tkG 22 (.slice (some ⟨b0, o0, none⟩) ps.length cq) rfl hS0 ?_
    refine tkG 23 (.int .i64 m) rfl hS0 ?_
    refine tkG 24 (.pointer (some ⟨b0, o0 + m * 5, none⟩)) rfl hS0 ?_
    refine tkG 25 (.pointer (some ⟨b0, o0 + m * 5 + 2, none⟩)) rfl hS0 ?_
    refine tkG 26 (.int .i64 mt) rfl hS0 ?_
    refine tkG 27 (.bool true) rfl hS0 ?_
    refine tkG 28 (.bool true) rfl hS0 ?_
    refine tkA 29 (.bool true) rfl hS0 ?_
    refine wpAnyH_done (by kernel_rfl) ?_ _
    clear hS0
    go_simp
    go_wp2
    refine ⟨⟨k + 1, (k : Int), by omega, HR.out, by simp, by go_simp, HB7.out⟩, ?_⟩
    simp [intOf]
    omega
   ·have HR := hid (HBEST.out.more (n := k) (by rw [HP.out, ← HMM.out]; exact hlm))
    have hS0 : w6.drew.cell? ⟨sb, k, none⟩ = some (.bool false) ∧ w6.drew.cell? ⟨w5.heap.size, 0, none⟩ = some (.int .i64 pl) ∧ w6.drew.cell? ⟨w5.heap.size, 1, none⟩ = some (.int .i64 0) ∧ w6.drew.cell? ⟨w5.heap.size, 2, none⟩ = some (.int .i64 pt) ∧ w6.drew.cell? ⟨w.heap.size, 7, none⟩ = some (.slice (some ⟨b0, o0, none⟩) ps.length cq) ∧ w6.drew.cell? ⟨b0, o0 + m * 5 + 2, none⟩ = some (.int .i64 mt) := ⟨HSN.out, HNP.out.cell 0, HNP.out.cell 1, HNP.out.cell 2, HBX.out.cell 7, HMT.out⟩
    go_upto_region 6 with fail
    rw [← hw6]
    clear hw6
    refine wp_region_held (S := fun w' => w'.cell? ⟨sb, k, none⟩ = some (.bool false) ∧ w'.cell? ⟨w5.heap.size, 0, none⟩ = some (.int .i64 pl) ∧ w'.cell? ⟨w5.heap.size, 1, none⟩ = some (.int .i64 0) ∧ w'.cell? ⟨w5.heap.size, 2, none⟩ = some (.int .i64 pt) ∧ w'.cell? ⟨w.heap.size, 7, none⟩ = some (.slice (some ⟨b0, o0, none⟩) ps.length cq) ∧ w'.cell? ⟨b0, o0 + m * 5 + 2, none⟩ = some (.int .i64 mt)) (by kernel_rfl) ?_
    change wpAnyH _ _ _ _ _ _ _ _ (World.drew _)
    refine tkA 0 (.slice (some ⟨sb, 0, none⟩) ps.length cs) rfl hS0 ?_
    refine tkA 1 (.int .i64 k) rfl hS0 ?_
    refine tkA 2 (.pointer (some ⟨sb, k, none⟩)) rfl hS0 ?_
    refine tkA 3 (.bool false) rfl hS0 ?_
    refine tkA 4 (.bool true) rfl hS0 ?_
    refine tkA 5 (.bool true) rfl hS0 ?_
    refine tkG 6 (.pointer (some ⟨w5.heap.size, 1, none⟩)) rfl hS0 ?_
    refine tkG 7 (.int .i64 0) rfl hS0 ?_
    refine tkG 8 (.bool true) rfl hS0 ?_
    refine tkA 9 (.bool true) rfl hS0 ?_
    refine tkA 10 (.bool true) rfl hS0 ?_
    refine tkG 11 (.pointer (some ⟨w5.heap.size, 0, none⟩)) rfl hS0 ?_
    refine tkG 12 (.int .i64 pl) rfl hS0 ?_
    refine tkG 13 (.bool true) rfl hS0 ?_
    refine tkA 14 (.bool true) rfl hS0 ?_
    refine tkA 15 (.bool true) rfl hS0 ?_
    refine tkG 16 (.int .i64 m) rfl hS0 ?_
    refine tkG 17 (.bool false) rfl hS0 ?_
    refine tkG 18 (.bool false) rfl hS0 ?_
    refine tkG 19 (.pointer (some ⟨w5.heap.size, 2, none⟩)) rfl hS0 ?_
    refine tkG 20 (.int .i64 pt) rfl hS0 ?_
    refine tkG 21 (.pointer (some ⟨w.heap.size, 7, none⟩)) rfl hS0 ?_
    refine tkG 22 (.slice (some ⟨b0, o0, none⟩) ps.length cq) rfl hS0 ?_
    refine tkG 23 (.int .i64 m) rfl hS0 ?_
    refine tkG 24 (.pointer (some ⟨b0, o0 + m * 5, none⟩)) rfl hS0 ?_
    refine tkG 25 (.pointer (some ⟨b0, o0 + m * 5 + 2, none⟩)) rfl hS0 ?_
    refine tkG 26 (.int .i64 mt) rfl hS0 ?_
    refine tkG 27 (.bool false) rfl hS0 ?_
    refine tkG 28 (.bool false) rfl hS0 ?_
    refine tkA 29 (.bool false) rfl hS0 ?_
    refine wpAnyH_done (by kernel_rfl) ?_ _
    clear hS0
    go_simp
    go_wp2
    refine ⟨⟨k + 1, (m : Int), by omega, HR.out, by simp, by go_simp, HB7.out⟩, ?_⟩
    simp [intOf]
    omega
end Go.Proofs.YtkghbegdjeehaaaGreatDoor
