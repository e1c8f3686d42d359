import Derived.Test.YtkghbegdjeehaaaGreatDoorHeapRow
import Derived.Test.YtkghbegdjeehaaaGreatDoorShort
import Derived.Test.YtkghbegdjeehaaaGreatDoorPeerRange
/- Insertion sort over a list whose elements are told apart. -/
namespace Go.Proofs.YtkghbegdjeehaaaGreatDoor
/-- The first n are in their order. -/
def Srt (lt : Int → Int → Bool) (hs : List Int) (n : Nat) : Prop := ∀ p q, p < q → q < n → lt (ha 0 hs p) (ha 0 hs q) = true
/-- The first i + 1 are in their order but for the one at j, which comes ahead of all behind it. -/
structure Ins (lt : Int → Int → Bool) (hs : List Int) (i j : Nat) : Prop where
 le : j ≤ i
 len : i < hs.length
 rest : ∀ p q, p < q → q ≤ i → p ≠ j → q ≠ j → lt (ha 0 hs p) (ha 0 hs q) = true
 up : ∀ q, j < q → q ≤ i → lt (ha 0 hs j) (ha 0 hs q) = true
theorem Ins.start {lt : Int → Int → Bool} {hs : List Int} {i : Nat} (h : Srt lt hs i) (hi : i < hs.length) : Ins lt hs i i :=
 ⟨Nat.le_refl _, hi, fun p q hpq hq _ hne => h p q hpq (by omega), fun q h1 h2 => by omega⟩
theorem Ins.step {lt : Int → Int → Bool} {hs : List Int} {i j : Nat} (h : Ins lt hs i j) (h0 : 0 < j) (hl : lt (ha 0 hs j) (ha 0 hs (j - 1)) = true) : Ins lt (swp 0 hs j (j - 1)) i (j - 1) := by
 have h1 := h.le
 have h2 := h.len
 have A := fun k => swp_at 0 hs j (j - 1) k (by omega) (by omega)
 refine ⟨by omega, by rw [swp_len]; omega, fun p q hpq hq hp1 hq1 => ?_, fun q hq1 hq2 => ?_⟩
 ·rw [A p, A q, if_neg hp1, if_neg hq1]
  by_cases e1 : p = j
  ·rw [if_pos e1, if_neg (by omega)]
   exact h.rest (j - 1) q (by omega) hq (by omega) (by omega)
  ·rw [if_neg e1]
   by_cases e2 : q = j
   ·rw [if_pos e2]
    exact h.rest p (j - 1) (by omega) (by omega) e1 (by omega)
   ·rw [if_neg e2]
    exact h.rest p q hpq hq e1 e2
 ·rw [A (j - 1), A q, if_pos rfl, if_neg (by omega)]
  by_cases e2 : q = j
  ·rw [if_pos e2]; exact hl
  ·rw [if_neg e2]; exact h.up q (by omega) hq2
theorem Ins.zero {lt : Int → Int → Bool} {hs : List Int} {i : Nat} (h : Ins lt hs i 0) : Srt lt hs (i + 1) := fun p q hpq hq => by
 by_cases e : p = 0
 ·subst e; exact h.up q hpq (by omega)
 ·exact h.rest p q hpq (by omega) e (by omega)
theorem Ins.done {lt : Int → Int → Bool} {hs : List Int} {i j : Nat} (htr : ∀ a b c, lt a b = true → lt b c = true → lt a c = true) (h : Ins lt hs i j) (h0 : 0 < j) (hl : lt (ha 0 hs (j - 1)) (ha 0 hs j) = true) : Srt lt hs (i + 1) := fun p q hpq hq => by
 have h1 := h.le
 by_cases e : p = j
 ·subst e; exact h.up q hpq (by omega)
 ·by_cases e2 : q = j
  ·subst e2
   by_cases e3 : p = q - 1
   ·subst e3; exact hl
   ·exact htr _ _ _ (h.rest p (q - 1) (by omega) (by omega) e (by omega)) hl
  ·exact h.rest p q hpq (by omega) e e2
theorem Srt.pair {lt : Int → Int → Bool} {hs : List Int} (h : Srt lt hs hs.length) : hs.Pairwise fun a b => lt a b = true := by
 rw [List.pairwise_iff_getElem]
 intro i j hi hj hij
 have := h i j hij hj
 rwa [ha_get 0 hs i hi, ha_get 0 hs j hj] at this
theorem ha_mem (hs : List Int) (i : Nat) (h : i < hs.length) : ha 0 hs i ∈ hs := by rw [ha_get 0 hs i h]; exact List.getElem_mem h
theorem ha_ne {hs : List Int} (hn : hs.Nodup) {i j : Nat} (hi : i < hs.length) (hj : j < hs.length) (h : i ≠ j) : ha 0 hs i ≠ ha 0 hs j := by
 rw [ha_get 0 hs i hi, ha_get 0 hs j hj]
 intro e
 exact h (List.getElem_inj hn |>.1 e)
end Go.Proofs.YtkghbegdjeehaaaGreatDoor
/- cmp.Compare and cmp.Or over ints; slices.SortFunc over a short row of ints. -/
namespace Go.Proofs.YtkghbegdjeehaaaGreatDoor
open Go.RowKit
def cmpZ (x y : Int) : Int := if x < y then -1 else if y < x then 1 else 0
theorem isNaNI_any (x : Int) (w : World) : Calls Tryz.prog 113 #[.int .i64 x] w fun e w' => e = .returned (.bool false) ∧ w' = w := by
 go_enter Tryz.func113, Tryz.ntmps113
 go_wp2
 go_ret
 exact ⟨by simp, rfl⟩
theorem cmpI_any (x y : Int) (w : World) : Calls Tryz.prog 98 #[.int .i64 x, .int .i64 y] w fun e w' => e = .returned (.int .i64 (cmpZ x y)) ∧ w' = w := by
 have H1 := hid (isNaNI_any x w)
 have H2 := hid (isNaNI_any y w)
 by_cases h1 : x < y
 ·have HZ : Hid (cmpZ x y = -1) := hid (by unfold cmpZ; rw [if_pos h1])
  go_enter Tryz.func98, Tryz.ntmps98
  go_wp2_with fail
  refine H1.out.mono ?_
  rintro e w1 ⟨rfl, rfl⟩
  go_wp2_with fail
  refine H2.out.mono ?_
  rintro e w1 ⟨rfl, rfl⟩
  go_wp2
  go_ret
  exact ⟨by rw [HZ.out] <;> rfl, rfl⟩
 ·by_cases h2 : y < x
  ·have HZ : Hid (cmpZ x y = 1) := hid (by unfold cmpZ; rw [if_neg h1, if_pos h2])
   go_enter Tryz.func98, Tryz.ntmps98
   go_wp2_with fail
   refine H1.out.mono ?_
   rintro e w1 ⟨rfl, rfl⟩
   go_wp2_with fail
   refine H2.out.mono ?_
   rintro e w1 ⟨rfl, rfl⟩
   go_wp2
   go_ret
   exact ⟨by rw [HZ.out] <;> rfl, rfl⟩
  ·have HZ : Hid (cmpZ x y = 0) := hid (by unfold cmpZ; rw [if_neg h1, if_neg h2])
   go_enter Tryz.func98, Tryz.ntmps98
   go_wp2_with fail
   refine H1.out.mono ?_
   rintro e w1 ⟨rfl, rfl⟩
   go_wp2_with fail
   refine H2.out.mono ?_
   rintro e w1 ⟨rfl, rfl⟩
   go_wp2
   go_ret
   exact ⟨by rw [HZ.out] <;> rfl, rfl⟩
def orZ (x y : Int) : Int := if x ≠ 0 then x else y
set_option maxRecDepth 100000 in
set_option maxHeartbeats 1000000 in
theorem cmpOr_any (b : Nat) (x y : Int) (w : World) (c0 : w.cell? ⟨b, 0, none⟩ = some (.int .i64 x)) (c1 : w.cell? ⟨b, 1, none⟩ = some (.int .i64 y)) : Calls Tryz.prog 97 #[.slice (some ⟨b, 0, none⟩) 2 2] w fun e w' => e = .returned (.int .i64 (orZ x y)) ∧ w' = w := by
 go_enter Tryz.func97, Tryz.ntmps97
 go_wp2
 go_loopw [8] (fun i wr => ∃ k : Nat, k ≤ 2 ∧ i = .int .i64 k ∧ Hid ((0 < k → x = 0) ∧ (1 < k → y = 0) ∧ wr = w)) (fun i _ => 2 - (intOf i).toNat)
 case atStart => exact ⟨0, by omega, rfl, hid ⟨fun h => by omega, fun h => by omega, rfl⟩⟩
 case round =>
  obtain ⟨k, hk, rfl, h3⟩ := hrel
  obtain ⟨h1, h2, hw⟩ := h3.out
  subst hw
  clear h3
  obtain rfl | rfl | rfl : k = 0 ∨ k = 1 ∨ k = 2 := by omega
  ·by_cases hx : x = 0
   ·have e0 : (x != 0) = false := by simpa using hx
    go_wp2
    exact ⟨⟨1, by omega, by go_simp, hid ⟨fun _ => hx, fun h => by omega, by first | exact rfl | trivial⟩⟩, by simp [intOf]⟩
   ·have e0 : (x != 0) = true := by simpa using hx
    have HZ : Hid (orZ x y = x) := hid (by unfold orZ; rw [if_pos hx])
    go_wp2
    go_ret
    exact ⟨by rw [HZ.out] <;> rfl, rfl⟩
  ·have hx := h1 (by omega)
   have HZ : Hid (orZ x y = y) := hid (by unfold orZ; rw [if_neg (fun h => h hx)])
   by_cases hy : y = 0
   ·have e0 : (y != 0) = false := by simpa using hy
    go_wp2
    exact ⟨⟨2, by omega, by go_simp, hid ⟨fun _ => hx, fun _ => hy, by first | exact rfl | trivial⟩⟩, by simp [intOf]⟩
   ·have e0 : (y != 0) = true := by simpa using hy
    go_wp2
    go_ret
    exact ⟨by rw [HZ.out] <;> rfl, rfl⟩
  ·have hx := h1 (by omega)
   have hy := h2 (by omega)
   have HZ : Hid (orZ x y = 0) := hid (by unfold orZ; rw [if_neg (fun h => h hx)]; exact hy)
   go_wp2
   go_ret
   exact ⟨by rw [HZ.out] <;> rfl, rfl⟩
theorem bitsLen_small (n : Nat) (h : n ≤ 5) (w : World) : Calls Tryz.prog 112 #[.int .u64 (n : Int)] w fun e w' => (∃ l, e = .returned (.int .i64 l)) ∧ w' = w := by
 have H64 : ∀ m : Nat, m ≤ 5 → Calls Tryz.prog 129 #[.int .u64 (m : Int)] w fun e w' => (∃ l, e = .returned (.int .i64 l)) ∧ w' = w := by
  intro m hm
  obtain rfl | rfl | rfl | rfl | rfl | rfl : m = 0 ∨ m = 1 ∨ m = 2 ∨ m = 3 ∨ m = 4 ∨ m = 5 := by omega
  all_goals
   go_enter Tryz.func129, Tryz.ntmps129
   go_wp2
   go_ret
   exact ⟨⟨_, rfl⟩, rfl⟩
 have HC := hid (H64 n h)
 clear H64
 go_enter Tryz.func112, Tryz.ntmps112
 go_wp2_with fail
 refine HC.out.mono ?_
 rintro e w1 ⟨⟨l, rfl⟩, rfl⟩
 go_wp2
 go_ret
 exact ⟨⟨l, rfl⟩, rfl⟩
end Go.Proofs.YtkghbegdjeehaaaGreatDoor
/- slices.SortFunc over a short row of ints. -/
namespace Go.Proofs.YtkghbegdjeehaaaGreatDoor
open Go.RowKit
/-- A function that tells which of two comes first, and turns nothing. -/
def Tells (C : Nat) (bv : Value) (cf : Int → Int → Int) (g : Nat) (ns : List Int) (w : World) : Prop := ∀ a b W, a ∈ ns → b ∈ ns → But (fun k => k = g) w W → Calls Tryz.prog C #[.int .i64 a, .int .i64 b, bv] W fun e w' => e = .returned (.int .i64 (cf a b)) ∧ Below W.heap.size W w'
/-- What a sort leaves. -/
def SortP (cf : Int → Int → Int) (g cap B : Nat) (ns : List Int) (w : World) (e : Ending) (w' : World) : Prop :=
 e = .returned (.tuple #[]) ∧ ∃ ms : List Int, ms.Perm ns ∧ ms.Pairwise (fun a b => cf a b < 0) ∧ w'.ownsRow B 3 1 (.slice (some ⟨g, 0, none⟩) ns.length cap) ns.length (ms.map (Value.int .i64)) ∧ But (fun k => k = g) w w'
theorem ints_at (ms : List Int) (i : Nat) (h : i < ms.length) : (ms.map (Value.int .i64))[i]? = some (.int .i64 (ha 0 ms i)) := by simp [ha, h]
set_option maxRecDepth 100000 in
set_option maxHeartbeats 4000000 in
theorem insFunc_any (C : Nat) (bv : Value) (cf : Int → Int → Int) (g cap B : Nat) (ns : List Int) (w : World) (eg : ∀ args w, (callFunc C args).run Tryz.prog w = .ok (.enter C args) w) (hrow : w.ownsRow B 3 1 (.slice (some ⟨g, 0, none⟩) ns.length cap) ns.length (ns.map (Value.int .i64))) (hnd : ns.Nodup) (hlen : ns.length ≤ 5) (htr : ∀ a b c, cf a b < 0 → cf b c < 0 → cf a c < 0) (htot : ∀ a b, a ∈ ns → b ∈ ns → a ≠ b → ¬ cf a b < 0 → cf b a < 0) (hcf : Tells C bv cf g ns w) :
  Calls Tryz.prog 120 #[.slice (some ⟨g, 0, none⟩) ns.length cap, .int .i64 0, .int .i64 (ns.length : Int), .func (.func C) #[] #[bv]] w (SortP cf g cap B ns w) := by
 have HROW := hid hrow
 have HND := hid hnd
 have HTR : Hid (∀ a b c, (fun a b => decide (cf a b < 0)) a b = true → (fun a b => decide (cf a b < 0)) b c = true → (fun a b => decide (cf a b < 0)) a c = true) := hid fun a b c h1 h2 => by simp only [decide_eq_true_eq] at h1 h2 ⊢; exact htr a b c h1 h2
 have HTOT := hid htot
 have HCF := hid hcf
 clear hrow hnd htr htot hcf
 go_enter Tryz.func120, Tryz.ntmps120
 go_wp2
 go_loopw [8] (fun i' wr => ∃ (i : Nat) (ms : List Int), i' = .int .i64 i ∧ 1 ≤ i ∧ (i ≤ ns.length ∨ i = 1) ∧ ms.Perm ns ∧ Srt (fun a b => decide (cf a b < 0)) ms i ∧ wr.ownsRow B 3 1 (.slice (some ⟨g, 0, none⟩) ns.length cap) ns.length (ms.map (Value.int .i64)) ∧ But (fun k => k = g) w wr) (fun i' _ => ns.length - (intOf i').toNat)
 case atStart => exact ⟨1, ns, by go_simp, by omega, .inr rfl, List.Perm.refl _, fun p q h1 h2 => by omega, HROW.out, But.refl _ _⟩
 case round =>
  obtain ⟨i, ms, rfl, h1, hin, hpm, hsr, hrow, hbt⟩ := hrel
  have HPM := hid hpm
  have HSR := hid hsr
  have HR := hid hrow
  have HBT := hid hbt
  have hml : ms.length = ns.length := hpm.length_eq
  by_cases hlt : i < ns.length
  case neg =>
   have HPW : Hid (ms.Pairwise (fun a b => cf a b < 0)) := hid ((Srt.pair (lt := fun a b => decide (cf a b < 0)) (fun p q hp hq => HSR.out p q hp (by omega))).imp (fun h => by simpa using h))
   clear hpm hsr hrow hbt hml
   go_wp2
   exact bodyPost_ret (results_none rfl _ _ _) rfl ⟨rfl, ms, HPM.out, HPW.out, HR.out, HBT.out⟩
  have HI := hid (Ins.start HSR.out (by omega))
  clear hpm hsr hrow hbt hml
  go_wp2
  go_loopw [9] (fun j' wr => ∃ (j : Nat) (ms : List Int), j' = .int .i64 j ∧ ms.Perm ns ∧ Ins (fun a b => decide (cf a b < 0)) ms i j ∧ wr.ownsRow B 3 1 (.slice (some ⟨g, 0, none⟩) ns.length cap) ns.length (ms.map (Value.int .i64)) ∧ But (fun k => k = g) w wr) (fun j' _ => (intOf j').toNat)
  case atStart => exact ⟨i, ms, rfl, HPM.out, HI.out, HR.out, HBT.out⟩
  case round =>
   clear ms HPM HSR HR HBT HI
   obtain ⟨j, ms, rfl, hpm, hins, hrow, hbt⟩ := hrel
   have HPM := hid hpm
   have HINS := hid hins
   have HR := hid hrow
   have HBT := hid hbt
   have hml : ms.length = ns.length := hpm.length_eq
   have hji := hins.le
   by_cases hj0 : j = 0
   ·subst hj0
    have HS1 := hid HINS.out.zero
    clear hpm hins hrow hbt hml
    go_upto_region 4 with fail
    have hS0 : True := trivial
    refine wp_region_held (S := fun _ => True) (by kernel_rfl) ?_
    change wpAnyH _ _ _ _ _ _ _ _ (World.drew _)
    refine tkA 0 (.int .i64 0) rfl hS0 ?_
    refine tkA 1 (.int .i64 0) rfl hS0 ?_
    refine tkA 2 (.bool false) rfl hS0 ?_
    refine tkA 3 (.bool false) rfl hS0 ?_
    refine tkO 4 rfl hS0 ?_
    refine tkO 5 rfl hS0 ?_
    refine tkO 6 rfl hS0 ?_
    refine tkO 7 rfl hS0 ?_
    refine tkO 8 rfl hS0 ?_
    refine tkO 9 rfl hS0 ?_
    refine tkO 10 rfl hS0 ?_
    refine tkO 11 rfl hS0 ?_
    refine tkO 12 rfl hS0 ?_
    refine tkO 13 rfl hS0 ?_
    refine tkO 14 rfl hS0 ?_
    refine tkO 15 rfl hS0 ?_
    refine tkA 16 (.bool false) rfl hS0 ?_
    refine wpAnyH_done (by kernel_rfl) ?_ _
    clear hS0
    go_simp
    go_wp2
    refine ⟨⟨i + 1, ms, by go_simp, by omega, .inl (by omega), HPM.out, HS1.out, Below.row (below_drewN (Below.refl _ _) 1) HR.out, HBT.out.trans (But.of_below (P := fun _ => False) (below_drewN (Below.refl _ _) 1)) (fun _ _ h => h.elim)⟩, ?_⟩
    simp [intOf]
    omega
   obtain ⟨zj, hzj⟩ : ∃ z, z = ha 0 ms j := ⟨_, rfl⟩
   obtain ⟨zk, hzk⟩ : ∃ z, z = ha 0 ms (j - 1) := ⟨_, rfl⟩
   have hmj : ha 0 ms j ∈ ns := hpm.subset (ha_mem ms j (by omega))
   have hmk : ha 0 ms (j - 1) ∈ ns := hpm.subset (ha_mem ms (j - 1) (by omega))
   have hne : zj ≠ zk := by rw [hzj, hzk]; exact ha_ne (hpm.nodup_iff.2 HND.out) (by omega) (by omega) (by omega)
   have cj : wr.cell? ⟨g, j, none⟩ = some (.int .i64 zj) := by
    rw [hzj]; have := hrow.cellAt j (by simp; omega); rw [ints_at ms j (by omega)] at this; exact this
   have ck : wr.cell? ⟨g, j - 1, none⟩ = some (.int .i64 zk) := by
    rw [hzk]; have := hrow.cellAt (j - 1) (by simp; omega); rw [ints_at ms (j - 1) (by omega)] at this; exact this
   rw [← hzj] at hmj
   rw [← hzk] at hmk
   have hbd : But (fun k => k = g) w wr.drew := HBT.out.trans (But.of_below (P := fun _ => False) (below_drewN (Below.refl _ _) 1)) (fun _ _ h => h.elim)
   have HCL := hid (HCF.out zj zk wr.drew hmj hmk hbd)
   have HTT := hid (HTOT.out zj zk hmj hmk hne)
   have HZJ := hid hzj
   have HZK := hid hzk
   have hgl : g < wr.heap.size := (hrow.lt g rfl).2
   have hS0 : wr.drew.cell? ⟨g, j, none⟩ = some (.int .i64 zj) ∧ wr.drew.cell? ⟨g, j - 1, none⟩ = some (.int .i64 zk) := ⟨cj, ck⟩
   have hwj : IntKind.i64.wrap ((j : Int) - 1) = ((j - 1 : Nat) : Int) := by rw [IntKind.wrap_i64]; omega
   have hjn : j < ns.length := by omega
   obtain ⟨cv, hcv⟩ : ∃ c, c = cf zj zk := ⟨_, rfl⟩
   rw [← hcv] at HCL HTT
   have HCV := hid hcv
   clear hpm hins hrow hbt hml hzj hzk cj ck hbd hmj hmk hcv hne
   go_upto_region 4 with fail
   refine wp_region_held (S := fun w' => w'.cell? ⟨g, j, none⟩ = some (.int .i64 zj) ∧ w'.cell? ⟨g, j - 1, none⟩ = some (.int .i64 zk)) (by kernel_rfl) ?_
   change wpAnyH _ _ _ _ _ _ _ _ (World.drew _)
   refine tkA 0 (.int .i64 (j : Nat)) rfl hS0 ?_
   refine tkA 1 (.int .i64 0) rfl hS0 ?_
   refine tkA 2 (.bool true) rfl hS0 ?_
   refine tkA 3 (.bool true) rfl hS0 ?_
   refine tkG 4 (.func (.func C) #[] #[bv]) rfl hS0 ?_
   refine tkG 5 (.slice (some ⟨g, 0, none⟩) ns.length cap) rfl hS0 ?_
   refine tkG 6 (.int .i64 (j : Nat)) rfl hS0 ?_
   refine tkG 7 (.pointer (some ⟨g, j, none⟩)) rfl hS0 ?_
   refine tkG 8 (.int .i64 zj) rfl hS0 ?_
   refine tkG 9 (.slice (some ⟨g, 0, none⟩) ns.length cap) rfl hS0 ?_
   refine tkG 10 (.int .i64 (j : Nat)) rfl hS0 ?_
   refine tkG 11 (.int .i64 ((j - 1 : Nat) : Int)) rfl hS0 ?_
   refine tkG 12 (.pointer (some ⟨g, j - 1, none⟩)) rfl hS0 ?_
   refine tkG 13 (.int .i64 zk) rfl hS0 ?_
   refine held_one 14 (by kernel_rfl) ?_
   refine @op_wpW _ _ _ _ _ _ 14 ?oya ?hoya ?hwya ?hhya
   case hoya => rfl
   case hwya => go_simp
   unfold Oper.wp
   go_simp
   refine HCL.out.mono ?_
   rintro e w6 ⟨rfl, hb6⟩
   have hb6' : Below wr.heap.size wr w6 := ⟨hb6.os, hb6.tape, hb6.output, hb6.size, hb6.block⟩
   have hS1 : w6.cell? ⟨g, j, none⟩ = some (.int .i64 zj) ∧ w6.cell? ⟨g, j - 1, none⟩ = some (.int .i64 zk) := ⟨(hb6'.cell (p := ⟨g, j, none⟩) hgl).trans hS0.1, (hb6'.cell (p := ⟨g, j - 1, none⟩) hgl).trans hS0.2⟩
   have R6 := Below.row hb6' HR.out
   have HR6 := hid R6
   have HB6 := hid (HBT.out.trans (But.of_below (P := fun _ => False) hb6') (fun _ _ h => h.elim))
   clear hb6 hb6' hS0
   refine ⟨hS1, ?_⟩
   by_cases hlz : cv < 0
   case neg =>
    have HS1 := hid (HINS.out.done HTR.out (by omega) (by show decide (cf (ha 0 ms (j - 1)) (ha 0 ms j) < 0) = true; rw [← HZJ.out, ← HZK.out]; exact decide_eq_true (HTT.out (by omega))))
    clear R6
    refine tkG 15 (.bool false) rfl hS1 ?_
    refine tkA 16 (.bool false) rfl hS1 ?_
    refine wpAnyH_done (by kernel_rfl) ?_ _
    clear hS1
    go_simp
    go_wp2
    refine ⟨⟨i + 1, ms, by go_simp, by omega, .inl (by omega), HPM.out, HS1.out, HR6.out, HB6.out⟩, ?_⟩
    simp [intOf]
    omega
   have HST := hid (HINS.out.step (by omega) (by show decide (cf (ha 0 ms j) (ha 0 ms (j - 1)) < 0) = true; rw [← HZJ.out, ← HZK.out, ← HCV.out]; exact decide_eq_true hlz))
   have hml : ms.length = ns.length := HPM.out.length_eq
   have HPS := hid ((swp_perm 0 ms j (j - 1) (by omega) (by omega) (by omega)).trans HPM.out)
   have cj : w6.cell? ⟨g, j, none⟩ = some (.int .i64 zj) := hS1.1
   have ck : w6.cell? ⟨g, j - 1, none⟩ = some (.int .i64 zk) := hS1.2
   have f0 := R6.frozenAt j
   have f1 := R6.frozenAt (j - 1)
   have HRS := hid ((R6.stored j (.int .i64 zk)).1.stored (j - 1) (.int .i64 zj)).1
   have HGS := hid (grown_same (grownBy_setCellAt w6 g j (.int .i64 zk)) (grownBy_setCellAt _ g (j - 1) (.int .i64 zj)))
   clear R6 hml
   refine tkG 15 (.bool true) rfl hS1 ?_
   refine tkA 16 (.bool true) rfl hS1 ?_
   refine wpAnyH_done (by kernel_rfl) ?_ _
   clear hS1
   go_simp
   go_wp2_with fail
   go_region
   go_wp2
   have e4 : ((ms.map (Value.int .i64)).set j (.int .i64 zk)).set (j - 1) (.int .i64 zj) = (swp 0 ms j (j - 1)).map (Value.int .i64) := by
    unfold swp
    rw [List.map_set, List.map_set, ← HZJ.out, ← HZK.out]
   have R7 := HRS.out
   rw [e4] at R7
   have G7 := But.of_grown (P := fun k => k = g) HGS.out rfl
   refine ⟨⟨j - 1, swp 0 ms j (j - 1), by go_simp, HPS.out, HST.out, Below.row (below_drewN (Below.refl _ _) 1) R7, (HB6.out.trans G7 (fun _ _ h => h)).trans (But.of_below (P := fun _ => False) (below_drewN (Below.refl _ _) 1)) (fun _ _ h => h.elim)⟩, ?_⟩
   simp [intOf]
   omega
set_option maxRecDepth 100000 in
set_option maxHeartbeats 1000000 in
theorem sortFunc_any (C : Nat) (bv : Value) (cf : Int → Int → Int) (g cap B : Nat) (ns : List Int) (w : World) (eg : ∀ args w, (callFunc C args).run Tryz.prog w = .ok (.enter C args) w) (hrow : w.ownsRow B 3 1 (.slice (some ⟨g, 0, none⟩) ns.length cap) ns.length (ns.map (Value.int .i64))) (hnd : ns.Nodup) (hlen : ns.length ≤ 5) (htr : ∀ a b c, cf a b < 0 → cf b c < 0 → cf a c < 0) (htot : ∀ a b, a ∈ ns → b ∈ ns → a ≠ b → ¬ cf a b < 0 → cf b a < 0) (hcf : Tells C bv cf g ns w) :
  Calls Tryz.prog 95 #[.slice (some ⟨g, 0, none⟩) ns.length cap, .func (.func C) #[] #[bv]] w (SortP cf g cap B ns w) := by
 have HIN := hid (insFunc_any C bv cf g cap B ns w eg hrow hnd hlen htr htot hcf)
 clear hrow hnd htr htot hcf eg
 have HPD : Hid (∀ l : Int, Calls Tryz.prog 111 #[.slice (some ⟨g, 0, none⟩) ns.length cap, .int .i64 0, .int .i64 (ns.length : Int), .int .i64 l, .func (.func C) #[] #[bv]] w (SortP cf g cap B ns w)) := hid fun l => by
  go_enter Tryz.func111, Tryz.ntmps111
  go_wp2
  go_loopw [1, 2] (fun a b wr => a = .int .i64 0 ∧ b = .int .i64 (ns.length : Int) ∧ wr = w) (fun _ _ _ => 1)
  case atStart => exact ⟨rfl, rfl, rfl⟩
  case round =>
   obtain ⟨rfl, rfl, rfl⟩ := hrel
   go_wp2_with fail
   refine HIN.out.mono ?_
   intro e w1 hP
   have hP' := hP
   obtain ⟨rfl, _⟩ := hP
   have HP := hid hP'
   clear hP'
   go_wp2
   exact bodyPost_ret (results_none rfl _ _ _) rfl HP.out
 have HLN := hid (bitsLen_small ns.length hlen w)
 go_enter Tryz.func95, Tryz.ntmps95
 go_wp2_with fail
 refine HLN.out.mono ?_
 rintro e w1 ⟨⟨l, rfl⟩, rfl⟩
 go_wp2_with fail
 refine (HPD.out l).mono ?_
 intro e w1 hP
 have hP' := hP
 obtain ⟨rfl, _⟩ := hP
 have HP := hid hP'
 clear hP'
 go_wp2
 exact bodyPost_ret (results_none rfl _ _ _) rfl HP.out
end Go.Proofs.YtkghbegdjeehaaaGreatDoor
/- (*impl.hunt).askable. -/
namespace Go.Proofs.YtkghbegdjeehaaaGreatDoor
open Go.RowKit
/-- Which of two peers comes first. -/
def cfP (qs : PV) (x y : Int) : Int := orZ (cmpZ (qp qs (x - 1).toNat).last (qp qs (y - 1).toNat).last) (cmpZ x y)
theorem cmpZ_ne (x y : Int) : cmpZ x y ≠ 0 ↔ x ≠ y := by
 unfold cmpZ
 split
 ·simp; omega
 ·split
  ·simp; omega
  ·simp; omega
theorem cmpZ_lt (x y : Int) : cmpZ x y < 0 ↔ x < y := by
 unfold cmpZ
 split
 ·simp; omega
 ·split
  ·simp; omega
  ·simp; omega
theorem cfP_lt (qs : PV) (x y : Int) : cfP qs x y < 0 ↔ (qp qs (x - 1).toNat).last < (qp qs (y - 1).toNat).last ∨ ((qp qs (x - 1).toNat).last = (qp qs (y - 1).toNat).last ∧ x < y) := by
 unfold cfP orZ
 by_cases h : cmpZ (qp qs (x - 1).toNat).last (qp qs (y - 1).toNat).last = 0
 ·have h1 : (qp qs (x - 1).toNat).last = (qp qs (y - 1).toNat).last := by
   by_cases e : (qp qs (x - 1).toNat).last = (qp qs (y - 1).toNat).last
   ·exact e
   ·exact absurd h ((cmpZ_ne _ _).2 e)
  rw [if_neg (fun e => e h), cmpZ_lt]
  omega
 ·rw [if_pos h, cmpZ_lt]
  have h1 := (cmpZ_ne _ _).1 h
  omega
set_option maxRecDepth 100000 in
set_option maxHeartbeats 2000000 in
theorem askableC_any (bx hb pm sb mb : Nat) (vc : Value) (nm : ByteArray) (now : Int) (full : Bool) (wd room tot : Int) (its : Itms) (ts : List ByteArray) (qs : PV) (pbs : List Nat) (lv : Value) (lk : Bool) (i j : Nat) (w : World) (H : HuntRd w hb pm sb mb vc nm now full wd room tot its ts qs pbs lv lk) (hbx : w.cell? ⟨bx, 0, none⟩ = some (.pointer (some ⟨hb, 0, none⟩))) (hbl : bx < w.heap.size) (hn : qs.length ≤ 5) (hi : i < qs.length) (hj : j < qs.length) :
  Calls Tryz.prog 96 #[.int .i64 ((i + 1 : Nat) : Int), .int .i64 ((j + 1 : Nat) : Int), .pointer (some ⟨bx, 0, none⟩)] w fun e w' => e = .returned (.int .i64 (cfP qs ((i + 1 : Nat) : Int) ((j + 1 : Nat) : Int))) ∧ Below w.heap.size w w' := by
 have HC1 := hid fun (x y : Int) (W : World) => cmpI_any x y W
 have D0 : Below w.heap.size w w.drew := below_drewN (Below.refl _ _) 1
 obtain ⟨pa, hpa⟩ : ∃ b, b = pbs.getD i 0 := ⟨_, rfl⟩
 obtain ⟨pb, hpb⟩ : ∃ b, b = pbs.getD j 0 := ⟨_, rfl⟩
 obtain ⟨ta, hta⟩ : ∃ b, b = (qp qs i).last := ⟨_, rfl⟩
 obtain ⟨tb, htb⟩ : ∃ b, b = (qp qs j).last := ⟨_, rfl⟩
 obtain ⟨x, hx⟩ : ∃ x, x = ((i + 1 : Nat) : Int) := ⟨_, rfl⟩
 obtain ⟨y, hy⟩ : ∃ x, x = ((j + 1 : Nat) : Int) := ⟨_, rfl⟩
 have HS : Hid (∀ W, Below w.heap.size w W → W.cell? ⟨bx, 0, none⟩ = some (.pointer (some ⟨hb, 0, none⟩)) ∧ W.cell? ⟨hb, 4, none⟩ = some (.map (some pm)) ∧ (Instr.lookup 93 (.map (some pm)) (.int .i64 x) false).run Tryz.prog W = .ok (.pointer (some ⟨pa, 0, none⟩)) W ∧ (Instr.lookup 93 (.map (some pm)) (.int .i64 y) false).run Tryz.prog W = .ok (.pointer (some ⟨pb, 0, none⟩)) W ∧ W.cell? ⟨pa, 2, none⟩ = some (.int .i64 ta) ∧ W.cell? ⟨pb, 2, none⟩ = some (.int .i64 tb)) := hid fun W hW => by
  have h' := H.below hW
  have l1 := look_peer h'.pmap (i + 1) (by omega) (by omega) (by omega)
  have l2 := look_peer h'.pmap (j + 1) (by omega) (by omega) (by omega)
  rw [Nat.add_sub_cancel] at l1 l2
  rw [hpa, hpb, hta, htb, hx, hy]
  exact ⟨(hW.cell (p := ⟨bx, 0, none⟩) hbl).trans hbx, h'.box.cell 4, l1, l2, (h'.pblk i hi).cell 2, (h'.pblk j hj).cell 2⟩
 have HV : Hid (cfP qs x y = orZ (cmpZ ta tb) (cmpZ x y)) := hid (by
  unfold cfP
  rw [hta, htb, hx, hy, show (((i + 1 : Nat) : Int) - 1).toNat = i by omega, show (((j + 1 : Nat) : Int) - 1).toNat = j by omega])
 rw [← hx, ← hy, HV.out]
 have hS0 := HS.out _ D0
 clear H hbx HV hpa hpb hta htb hx hy hbl hi hj
 have hec := enters_of Tryz.func98 (by kernel_rfl) rfl
 have heo := enters_of Tryz.func97 (by kernel_rfl) rfl
 go_enter Tryz.func96, Tryz.ntmps96
 go_upto_region 1 with fail
 refine wp_region_held (S := fun w' => w'.cell? ⟨bx, 0, none⟩ = some (.pointer (some ⟨hb, 0, none⟩)) ∧ w'.cell? ⟨hb, 4, none⟩ = some (.map (some pm)) ∧ (Instr.lookup 93 (.map (some pm)) (.int .i64 x) false).run Tryz.prog w' = .ok (.pointer (some ⟨pa, 0, none⟩)) w' ∧ (Instr.lookup 93 (.map (some pm)) (.int .i64 y) false).run Tryz.prog w' = .ok (.pointer (some ⟨pb, 0, none⟩)) w' ∧ w'.cell? ⟨pa, 2, none⟩ = some (.int .i64 ta) ∧ w'.cell? ⟨pb, 2, none⟩ = some (.int .i64 tb)) (by kernel_rfl) ?_
 change wpAnyH _ _ _ _ _ _ _ _ (World.drew _)
 refine tkA 0 (.pointer (some ⟨hb, 0, none⟩)) rfl hS0 ?_
 refine tkA 1 (.pointer (some ⟨hb, 0, none⟩)) rfl hS0 ?_
 refine tkA 2 (.pointer (some ⟨hb, 4, none⟩)) rfl hS0 ?_
 refine tkA 3 (.map (some pm)) rfl hS0 ?_
 refine tkA 4 (.int .i64 x) rfl hS0 ?_
 refine tkA 5 (.pointer (some ⟨pa, 0, none⟩)) rfl hS0 ?_
 refine tkA 6 (.pointer (some ⟨pa, 0, none⟩)) rfl hS0 ?_
 refine tkA 7 (.pointer (some ⟨pa, 2, none⟩)) rfl hS0 ?_
 refine tkA 8 (.int .i64 ta) rfl hS0 ?_
 refine tkA 9 (.pointer (some ⟨hb, 0, none⟩)) rfl hS0 ?_
 refine tkA 10 (.pointer (some ⟨hb, 0, none⟩)) rfl hS0 ?_
 refine tkA 11 (.pointer (some ⟨hb, 4, none⟩)) rfl hS0 ?_
 refine tkA 12 (.map (some pm)) rfl hS0 ?_
 refine tkA 13 (.int .i64 y) rfl hS0 ?_
 refine tkA 14 (.pointer (some ⟨pb, 0, none⟩)) rfl hS0 ?_
 refine tkA 15 (.pointer (some ⟨pb, 0, none⟩)) rfl hS0 ?_
 refine tkA 16 (.pointer (some ⟨pb, 2, none⟩)) rfl hS0 ?_
 refine tkA 17 (.int .i64 tb) rfl hS0 ?_
 refine tkA 19 (.int .i64 x) rfl hS0 ?_
 refine tkA 20 (.int .i64 y) rfl hS0 ?_
 refine held_one 18 (by kernel_rfl) (op_calls (f := 98) (args := #[.int .i64 ta, .int .i64 tb]) rfl rfl (by go_simp) (HC1.out ta tb _) ?_)
 rintro e w2 ⟨rfl, hw2⟩
 have hw2' := hw2.symm
 subst hw2'
 clear hw2
 refine ⟨_, rfl, hS0, ?_⟩
 refine held_one 21 (by kernel_rfl) (op_calls (f := 98) (args := #[.int .i64 x, .int .i64 y]) rfl rfl (by go_simp) (HC1.out x y _) ?_)
 rintro e w2 ⟨rfl, hw2⟩
 have hw2' := hw2.symm
 subst hw2'
 clear hw2
 refine ⟨_, rfl, hS0, ?_⟩
 obtain ⟨z1, hz1⟩ : ∃ z, z = cmpZ ta tb := ⟨_, rfl⟩
 obtain ⟨z2, hz2⟩ : ∃ z, z = cmpZ x y := ⟨_, rfl⟩
 rw [← hz1, ← hz2]
 have hs8 : w.drew.heap.size = w.heap.size := rfl
 have A1 : Below w.heap.size w (w.drew.alloc (.cells #[.int .i64 z1, .int .i64 z2] 3)) := D0.alloc (by omega) _
 have N1 := Blk.new w.drew 3 #[.int .i64 z1, .int .i64 z2]
 have HOR := hid (cmpOr_any w.drew.heap.size z1 z2 _ (N1.cell 0) (N1.cell 1))
 have HA1 := hid A1
 have hS1 := HS.out _ A1
 have HZ1 := hid hz1
 have HZ2 := hid hz2
 clear hS0 hz1 hz2 A1 N1 hs8
 refine held_one 22 (by kernel_rfl) (op_value (v := .slice (some ⟨w.drew.heap.size, 0, none⟩) 2 2) (w' := w.drew.alloc (.cells #[.int .i64 z1, .int .i64 z2] 3)) rfl rfl (by go_simp) ?_)
 refine ⟨hS1, ?_⟩
 refine held_one 23 (by kernel_rfl) (op_calls (f := 97) (args := #[.slice (some ⟨w.drew.heap.size, 0, none⟩) 2 2]) rfl rfl (by go_simp) HOR.out ?_)
 rintro e w3 ⟨rfl, hw3⟩
 have hw3' := hw3.symm
 subst hw3'
 clear hw3
 refine ⟨_, rfl, hS1, ?_⟩
 refine tkA 24 (.int .i64 (orZ z1 z2)) rfl hS1 ?_
 refine wpAnyH_done (by kernel_rfl) ?_ _
 clear hS1
 go_simp
 go_wp2
 go_ret
 exact ⟨by rw [← HZ1.out, ← HZ2.out] <;> rfl, HA1.out⟩
theorem sortFunc_nil (C : Nat) (bv : Value) (w : World) : Calls Tryz.prog 95 #[.slice none 0 0, .func (.func C) #[] #[bv]] w fun e w' => e = .returned (.tuple #[]) ∧ Below w.heap.size w w' := by
 have HIN : Hid (Calls Tryz.prog 120 #[.slice none 0 0, .int .i64 0, .int .i64 0, .func (.func C) #[] #[bv]] w fun e w' => e = .returned (.tuple #[]) ∧ Below w.heap.size w w') := hid (by
  go_enter Tryz.func120, Tryz.ntmps120
  go_wp2
  go_loopw [8] (fun i' wr => i' = .int .i64 1 ∧ Below w.heap.size w wr) (fun _ _ => 1)
  case atStart => exact ⟨by go_simp, Below.refl _ _⟩
  case round =>
   obtain ⟨rfl, hb⟩ := hrel
   go_wp2
   exact bodyPost_end (results_none rfl _ _ _) rfl ⟨rfl, hb⟩)
 have HPD : Hid (∀ l : Int, Calls Tryz.prog 111 #[.slice none 0 0, .int .i64 0, .int .i64 0, .int .i64 l, .func (.func C) #[] #[bv]] w fun e w' => e = .returned (.tuple #[]) ∧ Below w.heap.size w w') := hid fun l => by
  go_enter Tryz.func111, Tryz.ntmps111
  go_wp2
  go_loopw [1, 2] (fun a b wr => a = .int .i64 0 ∧ b = .int .i64 0 ∧ wr = w) (fun _ _ _ => 1)
  case atStart => exact ⟨rfl, rfl, rfl⟩
  case round =>
   obtain ⟨rfl, rfl, rfl⟩ := hrel
   go_wp2_with fail
   refine HIN.out.mono ?_
   rintro e w1 ⟨rfl, hb⟩
   have HB := hid hb
   clear hb
   go_wp2
   exact bodyPost_ret (results_none rfl _ _ _) rfl ⟨rfl, HB.out⟩
 have HLN := hid (bitsLen_small 0 (by omega) w)
 go_enter Tryz.func95, Tryz.ntmps95
 go_wp2_with fail
 refine HLN.out.mono ?_
 rintro e w1 ⟨⟨l, rfl⟩, rfl⟩
 go_wp2_with fail
 refine (HPD.out l).mono ?_
 rintro e w2 ⟨rfl, hb⟩
 have HB := hid hb
 clear hb
 go_wp2
 exact bodyPost_end (results_none rfl _ _ _) rfl ⟨rfl, HB.out⟩
/-- The numbers of those that have come up so far and may be asked. -/
structure Nums (qs : PV) (left : Lit → Bool) (ns : List Int) : Prop where
 nodup : ns.Nodup
 mem : ∀ x, x ∈ ns ↔ ∃ i : Nat, i < qs.length ∧ x = ((i + 1 : Nat) : Int) ∧ May (qp qs i) ∧ left (.int .i64 ((i + 1 : Nat) : Int)) = false
theorem Nums.start (qs : PV) (pbs : List Nat) : Nums qs (Maps.has (mapP pbs qs.length)) [] := by
 refine ⟨List.nodup_nil, fun x => ⟨fun h => (by cases h), fun ⟨i, hi, _, _, h⟩ => ?_⟩⟩
 rw [mapP_in pbs (i + 1) (by omega) qs.length (by omega)] at h
 cases h
theorem Nums.skip {qs : PV} {left : Lit → Bool} {ns : List Int} {i : Nat} (h : Nums qs left ns) (hi : ¬ May (qp qs i)) : Nums qs (fun z => left z && !z.sameKey (.int .i64 ((i + 1 : Nat) : Int))) ns := by
 refine ⟨h.nodup, fun x => (h.mem x).trans ⟨fun ⟨j, h1, h2, h3, h4⟩ => ⟨j, h1, h2, h3, left_int.2 (.inl h4)⟩, fun ⟨j, h1, h2, h3, h4⟩ => ⟨j, h1, h2, h3, (left_int.1 h4).resolve_right fun e => ?_⟩⟩⟩
 subst e
 exact hi h3
theorem Nums.push {qs : PV} {left : Lit → Bool} {ns : List Int} {i : Nat} (h : Nums qs left ns) (hl : i < qs.length) (hi : May (qp qs i)) (hf : left (.int .i64 ((i + 1 : Nat) : Int)) = true) : Nums qs (fun z => left z && !z.sameKey (.int .i64 ((i + 1 : Nat) : Int))) (ns ++ [((i + 1 : Nat) : Int)]) := by
 refine ⟨?_, fun x => ?_⟩
 ·rw [List.nodup_append]
  refine ⟨h.nodup, by simp, fun a ha b hb e => ?_⟩
  rw [List.mem_singleton] at hb
  obtain ⟨j, _, h2, _, h4⟩ := (h.mem a).1 ha
  have : j = i := by omega
  subst this
  rw [hf] at h4
  cases h4
 ·rw [List.mem_append, List.mem_singleton, h.mem]
  constructor
  ·rintro (⟨j, h1, h2, h3, h4⟩ | rfl)
   ·exact ⟨j, h1, h2, h3, left_int.2 (.inl h4)⟩
   ·exact ⟨i, hl, rfl, hi, left_int.2 (.inr rfl)⟩
  ·rintro ⟨j, h1, h2, h3, h4⟩
   rcases left_int.1 h4 with h5 | h5
   ·exact .inl ⟨j, h1, h2, h3, h5⟩
   ·subst h5; exact .inr h2
theorem Nums.len {qs : PV} {left : Lit → Bool} {ns : List Int} (h : Nums qs left ns) : ns.length ≤ qs.length := by
 have h1 : (ns.map fun x => (x - 1).toNat).Nodup := by
  unfold List.Nodup
  rw [List.pairwise_map]
  refine List.Pairwise.imp_of_mem ?_ h.nodup
  intro a b ha hb hne e
  obtain ⟨i, _, h1, _⟩ := (h.mem a).1 ha
  obtain ⟨j, _, h2, _⟩ := (h.mem b).1 hb
  omega
 have h2 := few_nats qs.length _ h1 (fun i hi => by
  obtain ⟨x, hx, rfl⟩ := List.mem_map.1 hi
  obtain ⟨i, h1, h2, _⟩ := (h.mem x).1 hx
  omega)
 simpa using h2
theorem cfP_trans (qs : PV) (a b c : Int) (h1 : cfP qs a b < 0) (h2 : cfP qs b c < 0) : cfP qs a c < 0 := by
 rw [cfP_lt] at h1 h2 ⊢
 omega
theorem cfP_total (qs : PV) (a b : Int) (hne : a ≠ b) (h : ¬ cfP qs a b < 0) : cfP qs b a < 0 := by
 rw [cfP_lt] at h ⊢
 omega
/-- The sorted numbers are who is asked, in order. -/
theorem turns_of {qs : PV} {left : Lit → Bool} {ns ms : List Int} (h : Nums qs left ns) (hl : ∀ k, left k = false) (hp : ms.Perm ns) (hs : ms.Pairwise fun a b => cfP qs a b < 0) : ∃ ord : List Nat, Turns (qs.map Prod.fst) ord ∧ ms = ord.map (fun i => ((i + 1 : Nat) : Int)) := by
 have hm : ∀ x, x ∈ ms ↔ ∃ i : Nat, i < qs.length ∧ x = ((i + 1 : Nat) : Int) ∧ May (qp qs i) := fun x => by
  rw [hp.mem_iff, h.mem]
  exact ⟨fun ⟨i, h1, h2, h3, _⟩ => ⟨i, h1, h2, h3⟩, fun ⟨i, h1, h2, h3⟩ => ⟨i, h1, h2, h3, hl _⟩⟩
 refine ⟨ms.map fun x => (x - 1).toNat, ⟨?_, fun i => ?_⟩, ?_⟩
 ·rw [List.pairwise_map]
  refine List.Pairwise.imp_of_mem ?_ hs
  intro a b ha hb hc
  obtain ⟨i, _, h1, _⟩ := (hm a).1 ha
  obtain ⟨j, _, h2, _⟩ := (hm b).1 hb
  rw [cfP_lt] at hc
  unfold Sooner
  rw [pat_fst1, pat_fst1]
  omega
 ·rw [List.mem_map, List.length_map, pat_fst1]
  constructor
  ·rintro ⟨x, hx, rfl⟩
   obtain ⟨i, h1, h2, h3⟩ := (hm x).1 hx
   have e : (x - 1).toNat = i := by omega
   rw [e]
   exact ⟨h1, h3⟩
  ·rintro ⟨h1, h2⟩
   exact ⟨((i + 1 : Nat) : Int), (hm _).2 ⟨i, h1, rfl, h2⟩, by omega⟩
 ·rw [List.map_map]
  refine (List.map_id ms).symm.trans (List.map_congr_left fun x hx => ?_)
  obtain ⟨i, h1, h2, _⟩ := (hm x).1 hx
  simp only [id, Function.comp]
  omega
end Go.Proofs.YtkghbegdjeehaaaGreatDoor
/- (*impl.hunt).askable. -/
namespace Go.Proofs.YtkghbegdjeehaaaGreatDoor
open Go.RowKit
theorem Tryz.infoInt : (Tryz.prog.info? 3).map (fun i => (i.zero, i.size, i.bytes)) = some (some (.int .i64 0), 1, 8) := by kernel_rfl
theorem row_no_iterI {w : World} {B size n m : Nat} {e : TypeId} {v : Value} {xs : List Value} (h : w.ownsRow B e size v n xs) {Pr : Program} {k : TypeId} {R : Value → Option (DataW Unit × List MemPlace)} {b r : Nat} {D : DataW Unit} {left : Lit → Bool} {cnt : Nat} (hr : w.ranges Pr k R b r m D left cnt) : v.ownBlock ≠ some r := by
 intro e
 obtain ⟨es, clock, since, seen, c0, _, _, _, _, e5, _⟩ := hr
 obtain ⟨_, ⟨e1, _⟩ | ⟨g, cap, cur, e1, _, e3, _⟩⟩ := h
 ·subst e1; cases e
 ·subst e1
  obtain rfl : g = r := Option.some.inj e
  rw [e3] at e5; cases e5
set_option maxRecDepth 100000 in
set_option maxHeartbeats 8000000 in
theorem askable_any (hb pm sb mb : Nat) (vc : Value) (nm : ByteArray) (now : Int) (full : Bool) (wd room tot : Int) (its : Itms) (ts : List ByteArray) (qs : PV) (pbs : List Nat) (lv : Value) (lk : Bool) (w : World) (H : HuntRd w hb pm sb mb vc nm now full wd room tot its ts qs pbs lv lk) (hn : qs.length ≤ 5) :
  Calls Tryz.prog 77 #[.pointer (some ⟨hb, 0, none⟩)] w fun e w' => ∃ v ord, e = .returned v ∧ Turns (qs.map Prod.fst) ord ∧ w'.ownsRow w.heap.size 3 1 v ord.length (ord.map fun i => Value.int .i64 ((i + 1 : Nat) : Int)) ∧ Below w.heap.size w w' := by
 obtain ⟨i0, hi0, hz0, hz1, hz2⟩ := info_parts Tryz.infoInt
 have HH := hid H
 have hA := (Below.refl w.heap.size w).alloc (Nat.le_refl _) (.cells #[.pointer (some ⟨hb, 0, none⟩)] 59)
 have N0 := Blk.new w 59 #[.pointer (some ⟨hb, 0, none⟩)]
 have H1 := H.below hA
 obtain ⟨w1, hw1⟩ : ∃ x, x = w.alloc (.cells #[.pointer (some ⟨hb, 0, none⟩)] 59) := ⟨_, rfl⟩
 have hz : w1.heap.size = w.heap.size + 1 := by rw [hw1, World.size_alloc]
 rw [← hw1] at hA N0 H1
 have hs1 : w.heap.size + 1 ≤ w1.heap.size := by omega
 have hs1b : w1.heap.size ≤ w.heap.size + 1 := by omega
 have HA := hid hA
 have HN0 := hid N0
 have HH1 := hid H1
 have c0 : w1.cell? ⟨w.heap.size, 0, none⟩ = some (.pointer (some ⟨hb, 0, none⟩)) := N0.cell 0
 have x4 : w1.cell? ⟨hb, 4, none⟩ = some (.map (some pm)) := H1.box.cell 4
 have hmm := H1.pmap
 have hpl := map_lt H.pmap
 have hec := enters_of Tryz.func96 (by kernel_rfl) rfl
 clear H H1 hA N0 hz
 go_enter Tryz.func77, Tryz.ntmps77
 go_upto_region 2 with fail
 rw [← hw1]
 clear hw1
 go_wp2_with (at_range; refine wpList_range_own _ rfl _ 93 rfl 3 98 keyed3 Tryz.underlying93 _ pm qs.length _ rfl hmm ?_; intro w3 hrg0 hg0 hs0)
 go_frame
 have HRG0 := hid hrg0
 have B0 : Below w1.heap.size w1 w3 := ⟨hg0.os, hg0.tape, hg0.output, hg0.size, fun k hk => hg0.block k hk (by simp)⟩
 have HB0 := hid B0
 have hw3 : w1.heap.size + 1 ≤ w3.heap.size := by omega
 clear hmm hrg0 hg0 hs0 x4 c0 B0
 go_loopw [3] (fun v wr => ∃ (left : Lit → Bool) (cnt : Nat) (ns : List Int), wr.ranges Tryz.prog 3 ptrElem pm w1.heap.size qs.length (mapP pbs qs.length) left cnt ∧ (∀ k, left k = true → Maps.has (mapP pbs qs.length) k = true) ∧ Nums qs left ns ∧ wr.ownsRow (w1.heap.size + 1) 3 1 v ns.length (ns.map (Value.int .i64)) ∧ (ns = [] → v = .slice none 0 0) ∧ Below w1.heap.size w1 wr ∧ w1.heap.size + 1 ≤ wr.heap.size) (fun _ wr => wr.rangeLeft pm w1.heap.size)
 case atStart => exact ⟨_, _, [], HRG0.out, fun _ h => h, Nums.start qs pbs, World.ownsRow_nil _ _ _ _, fun _ => rfl, HB0.out, hw3⟩
 case round =>
  obtain ⟨left, cnt, ns, hrg, hsub, hnums, hrow, hnil, hbw, hsz⟩ := hrel
  have HRG := hid hrg
  have HSUB := hid hsub
  have HNUM := hid hnums
  have HROW := hid hrow
  have HBW := hid hbw
  have HNIL := hid hnil
  have hnl := hnums.len
  obtain ⟨av, cv, hvv⟩ := row_any hrow
  subst hvv
  clear hsub hnums hbw hrow hnil
  go_wp2_with (at_next; refine wpList_next_ranges _ rfl _ rfl 3 keyed3 ptrElem (Value.int .i64) (fun v => v) key_int (fun v _ _ => ⟨v, rfl⟩) pm w1.heap.size qs.length _ _ _ (by go_simp) hrg ?_ ?_)
  ·intro hc0 hl0
   have HL := hid hl0
   have HBE := hid (HA.out.trans (HBW.out.mono HA.out.size))
   clear hl0 hrg
   by_cases h0 : ns = []
   ·have hv := HNIL.out h0
    obtain ⟨ord, hT, ho⟩ := turns_of HNUM.out HL.out (ms := ns) (List.Perm.refl _) (by rw [h0]; exact List.Pairwise.nil)
    rw [h0] at ho
    have ho' : ord = [] := List.map_eq_nil_iff.1 ho.symm
    have HT := hid hT
    have HSN := hid (sortFunc_nil 96 (.pointer (some ⟨w.heap.size, 0, none⟩)) wr)
    have HO := hid ho'
    rw [hv]
    clear hv h0 ho ho' hT
    go_wp2_with fail
    refine HSN.out.mono ?_
    rintro e w5 ⟨rfl, hb5⟩
    have HB5 := hid (HBE.out.trans (hb5.mono HBE.out.size))
    clear hb5
    go_wp2
    go_ret
    exact ⟨_, ord, rfl, HT.out, by rw [HO.out]; exact World.ownsRow_nil _ _ _ _, HB5.out⟩
   ·have hpos : 0 < ns.length := by
     cases ns with
     | nil => exact absurd rfl h0
     | cons _ _ => simp
    obtain ⟨g, cap, ev, hg, hgl⟩ := World.ownsRow.form HROW.out hpos
    have R0 := HROW.out
    rw [ev] at R0
    have HT : Hid (Tells 96 (.pointer (some ⟨w.heap.size, 0, none⟩)) (cfP qs) g ns wr) := hid fun a b W ha hb' hW => by
     obtain ⟨i, hi, rfl, _⟩ := (HNUM.out.mem a).1 ha
     obtain ⟨j, hj, rfl, _⟩ := (HNUM.out.mem b).1 hb'
     have BW : Below w1.heap.size w1 W := HBW.out.trans ((hW.below HBW.out.size (fun b e => by omega)))
     exact askableC_any w.heap.size hb pm sb mb vc nm now full wd room tot its ts qs pbs lv lk i j W (HH1.out.below BW) ((HN0.out.below BW).cell 0) (by have := BW.size; omega) hn hi hj
    have HSF := hid (sortFunc_any 96 (.pointer (some ⟨w.heap.size, 0, none⟩)) (cfP qs) g cap (w1.heap.size + 1) ns wr hec R0 HNUM.out.nodup (by omega) (cfP_trans qs) (fun a b _ _ hne h => cfP_total qs a b hne h) HT.out)
    have hav : Value.slice av ns.length cv = .slice (some ⟨g, 0, none⟩) ns.length cap := ev
    rw [hav]
    clear R0 ev h0 hav
    go_wp2_with fail
    refine HSF.out.mono ?_
    rintro e w5 ⟨rfl, ms, hpm, hpw, hrow5, hbt5⟩
    obtain ⟨ord, hT, ho⟩ := turns_of HNUM.out HL.out hpm hpw
    have hlo : ns.length = ord.length := by have := hpm.length_eq; rw [ho] at this; simpa using this.symm
    have HTT := hid hT
    have HR5 : Hid (w5.ownsRow w.heap.size 3 1 (.slice (some ⟨g, 0, none⟩) ns.length cap) ord.length (ord.map fun i => Value.int .i64 ((i + 1 : Nat) : Int))) := hid (by
     rw [ho, List.map_map, hlo] at hrow5
     rw [hlo]
     exact ownsRow_base hrow5 (by omega))
    have HB5 := hid (HBE.out.trans (hbt5.below HBE.out.size (fun b e => by omega)))
    clear hpm hpw hrow5 hbt5 hT ho hlo
    go_wp2
    go_ret
    exact ⟨_, ord, rfl, HTT.out, HR5.out, HB5.out⟩
  ·intro x c kl yd yp w4 cnt1 hkey hlk hv hat hrg1 hlt hg1 hs1' hen
   obtain ⟨i, hi, hx, rfl, rfl⟩ := entry_peer hkey (HSUB.out _ hlk) hv hat
   have HRG1 := hid hrg1
   have HSUB1 : Hid (∀ k, (left k && !k.sameKey (.int .i64 ((i + 1 : Nat) : Int))) = true → Maps.has (mapP pbs qs.length) k = true) := hid fun k h => HSUB.out k (by rw [Bool.and_eq_true] at h; exact h.1)
   have B4 : Below w1.heap.size w1 w4 := HBW.out.trans ⟨hg1.os, hg1.tape, hg1.output, hg1.size, fun k hk => hg1.block k (by have := HBW.out.size; omega) (fun e => by have e' : k = w1.heap.size := Option.some.inj e; omega)⟩
   have hri := row_no_iterI HROW.out HRG.out
   have HR4 := hid (HROW.out.kept hg1 (.inr hri))
   have hpk := (HH1.out.below B4).pblk i hi
   have HB4 := hid B4
   obtain ⟨pw, hpw⟩ : ∃ z, z = (qp qs i).wait := ⟨_, rfl⟩
   obtain ⟨pl, hpl'⟩ : ∃ z, z = (qp qs i).lies := ⟨_, rfl⟩
   have k0 : w4.cell? ⟨pbs.getD i 0, 0, none⟩ = some (.int .i64 pl) := by rw [hpl']; exact hpk.cell 0
   have k1 : w4.cell? ⟨pbs.getD i 0, 1, none⟩ = some (.int .i64 pw) := by rw [hpw]; exact hpk.cell 1
   have HMAY : Hid (May (qp qs i) ↔ pw = 0 ∧ pl < 3) := hid (by unfold May; rw [hpw, hpl'])
   have HLK := hid hlk
   have hs4 : w4.heap.size ≤ wr.heap.size := by omega
   have hs4b : wr.heap.size ≤ w4.heap.size := by omega
   have HX := hid hx
   generalize pbs.getD i 0 = pb at *
   clear hkey hlk hv hat hrg1 hg1 hrg B4 hpk hpw hpl' hri hs1' hx
   by_cases hw0 : pw = 0
   case neg =>
    have e0 : (pw == 0) = false := by simpa using hw0
    have HN1 := hid (HNUM.out.skip (i := i) (fun h => hw0 (HMAY.out.1 h).1))
    clear hw0
    go_wp2
    refine ⟨⟨_, cnt1, ns, HRG1.out, HSUB1.out, HN1.out, HR4.out, HNIL.out, HB4.out, by omega⟩, ?_⟩
    rw [HRG1.out.left_eq, HRG.out.left_eq]
    omega
   have e0 : (pw == 0) = true := by simpa using hw0
   by_cases hl3 : pl < 3
   case neg =>
    have HN1 := hid (HNUM.out.skip (i := i) (fun h => hl3 (HMAY.out.1 h).2))
    clear hw0
    go_wp2
    refine ⟨⟨_, cnt1, ns, HRG1.out, HSUB1.out, HN1.out, HR4.out, HNIL.out, HB4.out, by omega⟩, ?_⟩
    rw [HRG1.out.left_eq, HRG.out.left_eq]
    omega
   have HN1 : Hid (Nums qs (fun z => left z && !z.sameKey (.int .i64 ((i + 1 : Nat) : Int))) (ns ++ [x])) := by rw [HX.out]; exact hid (HNUM.out.push hi (HMAY.out.2 ⟨hw0, hl3⟩) HLK.out)
   have hown := HR4.out
   clear hw0
   go_wp2_with (at_builtin; refine wpList_append_own _ rfl _ _ 120 rfl (w1.heap.size + 1) 3 i0 (.int .i64 0) 1 8 Tryz.underlying120 hi0 hz0 hz1 hz2 rfl (by decide) _ _ _ rfl (hown.alloc _) ⟨_, 0, none⟩ 1 1 [.int .i64 x] rfl rfl (cell_one_new _ _ _) (by simp [Value.oneCell']) (by unfold maxLen; omega) (by omega) (by simp; omega) ?_; intro v' w6 hown' hgrow _)
   have hvb : ∀ b, (Value.slice av ns.length cv).ownBlock = some b → w1.heap.size + 1 ≤ b := fun b e => (hown.lt b e).1
   have T6 : But (fun b => (Value.slice av ns.length cv).ownBlock = some b) (w4.alloc (.cells #[.int .i64 x] 3)) w6 := ⟨hgrow.os, hgrow.tape, hgrow.output, hgrow.size, fun k hk hn => hgrow.block k hk (fun e => hn e.symm)⟩
   have RG6 := T6.ranges (HRG1.out.alloc (.cells #[.int .i64 x] 3)) (fun e => by have := hvb _ e; omega) (fun e => by have := hvb _ e; omega)
   have B6 : Below w1.heap.size w1 w6 := (HB4.out.alloc HB4.out.size (.cells #[.int .i64 x] 3)).trans (T6.below (by rw [World.size_alloc]; omega) (fun b e => by have := hvb _ e; omega))
   have hs6 := T6.size
   rw [World.size_alloc] at hs6
   have R6 : w6.ownsRow (w1.heap.size + 1) 3 1 v' (ns ++ [x]).length ((ns ++ [x]).map (Value.int .i64)) := by
    rw [List.length_append, List.map_append]; exact hown'
   have HRG6 := hid RG6
   have HB6 := hid B6
   have HR6 := hid R6
   clear RG6 B6 R6 hown hown' hgrow T6 hvb
   go_wp2
   refine ⟨⟨_, cnt1, _, HRG6.out, HSUB1.out, HN1.out, HR6.out, fun h => by simp at h, HB6.out, by omega⟩, ?_⟩
   rw [HRG6.out.left_eq, HRG.out.left_eq]
   omega
end Go.Proofs.YtkghbegdjeehaaaGreatDoor
