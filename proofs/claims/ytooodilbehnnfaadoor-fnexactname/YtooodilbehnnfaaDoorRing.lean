/- The ring of the last bytes: add, sum, isCut. -/
import Derived.Test.YtooodilbehnnfaaDoorCut
import Derived.WalkSmall
namespace Go.Proofs.YtooodilbehnnfaaDoor
open Go.RowKit
theorem wrap_small (n : Int) (h0 : 0 ≤ n) (h1 : n < 1000) : IntKind.i64.wrap n = n := by
  simp [IntKind.wrap, IntKind.bits, IntKind.signed]; omega
set_option maxRecDepth 100000 in
set_option maxHeartbeats 400000 in
theorem add_any (b o : Nat) (x y : Int) (w : World) (ho : o < 8) (h8 : w.cell? ⟨b, 8, none⟩ = some (.int .i64 o)) (hy : w.cell? ⟨b, o, none⟩ = some (.int .u8 y))
    (hf : w.frozen? ⟨b, o, none⟩ = false) (hf8 : w.frozen? ⟨b, 8, none⟩ = false) :
    Calls Tryd.prog 53 #[.pointer (some ⟨b, 0, none⟩), .int .u8 x] w fun e w' => e = .returned (.tuple #[]) ∧ ∃ n, w' = ((w.setCell ⟨b, o, none⟩ (.int .u8 x)).setCell ⟨b, 8, none⟩ (.int .i64 (((o + 1) % 8 : Nat) : Int))).drewN n := by
  go_enter Tryd.func53, Tryd.ntmps53
  go_wp2
  go_region
  all_goals go_wp2
  all_goals go_end0
  all_goals exact ⟨rfl, 1, rfl⟩
set_option maxRecDepth 100000 in
set_option maxHeartbeats 400000 in
theorem rsum_any (b o : Nat) (z : Nat → Int) (w : World) (ho : o < 8) (h8 : w.cell? ⟨b, 8, none⟩ = some (.int .i64 o)) (hy : ∀ t, t < 8 → w.cell? ⟨b, t, none⟩ = some (.int .u8 (z t))) :
    Calls Tryd.prog 58 #[.pointer (some ⟨b, 0, none⟩)] w fun e w' => e = .returned (.int .u64 ((List.range 8).foldl (fun v q => fnv v (z ((o + q) % 8))) fnvStart)) ∧ ∃ n, w' = w.drewN n := by
  go_enter Tryd.func58, Tryd.ntmps58
  go_wp2
  go_loopw [3, 4, 5] (fun v _ i wr => ∃ k : Nat, k ≤ 8 ∧ i = .int .i64 k ∧ v = .int .u64 ((List.range k).foldl (fun v q => fnv v (z ((o + q) % 8))) fnvStart) ∧ ∃ n, wr = w.drewN n) (fun _ _ i _ => 8 - (intOf i).toNat)
  case atStart => exact ⟨0, by omega, rfl, rfl, 0, rfl⟩
  case round =>
    obtain ⟨k, hk, rfl, rfl, n, hw⟩ := hrel
    have HW : Hid (wr = w.drewN n) := hw
    by_cases hlt : k < 8
    · have hz : wr.cell? ⟨b, (o + k) % 8, none⟩ = _ := (by rw [hw]; rfl : wr.cell? ⟨b, (o + k) % 8, none⟩ = w.cell? ⟨b, (o + k) % 8, none⟩).trans (hy ((o + k) % 8) (by omega))
      have h8' : wr.cell? ⟨b, 8, none⟩ = _ := (by rw [hw]; rfl : wr.cell? ⟨b, 8, none⟩ = w.cell? ⟨b, 8, none⟩).trans h8
      clear hw h8
      have HS : Hid ((List.range (k + 1)).foldl (fun v q => fnv v (z ((o + q) % 8))) fnvStart = fnv ((List.range k).foldl (fun v q => fnv v (z ((o + q) % 8))) fnvStart) (z ((o + k) % 8))) := by
        rw [List.range_succ, List.foldl_append]; rfl
      obtain ⟨t, ht⟩ : ∃ t, t = (o + k) % 8 := ⟨_, rfl⟩
      rw [← ht] at hz HS
      have ew : IntKind.i64.wrap ((o : Int) + k) = (o : Int) + k := wrap_small _ (by omega) (by omega)
      have em : ((o : Int) + k).tmod 8 = (t : Int) := by rw [Int.tmod_eq_emod_of_nonneg (by omega)]; omega
      have ht8 : t < 8 := by omega
      have hti : (t : Int) < 8 := by omega
      have ht0 : 0 ≤ (t : Int) := by omega
      clear hy ht
      generalize (List.range k).foldl (fun v q => fnv v (z ((o + q) % 8))) fnvStart = v at *
      go_wp2
      go_quiet ((go_at_call 63; exact Calls.quiet_of_same (sumStep_any _ _ _)))
      go_wp2
      go_roundw
      case rel => exact ⟨k + 1, by omega, by go_num, by rw [HS.out], n + nq, by rw [HW.out, World.drewN_drewN]⟩
      case measure => simp [intOf]; omega
    · obtain rfl : k = 8 := by omega
      go_wp2
      go_ret
      exact ⟨rfl, n, rfl⟩
/-- The sum of a ring whose oldest byte lies at o. -/
def ringSum (z : Nat → Int) (o : Nat) : Int := (List.range 8).foldl (fun v q => fnv v (z ((o + q) % 8))) fnvStart
theorem ringSum_nn (z : Nat → Int) (o : Nat) : 0 ≤ ringSum z o := by
  unfold ringSum
  rw [show List.range 8 = List.range 7 ++ [7] from rfl, List.foldl_append]
  exact (wrap_u64 _).1
set_option maxRecDepth 100000 in
set_option maxHeartbeats 400000 in
theorem isCut_any (n : Int) (b o : Nat) (z : Nat → Int) (w : World) (ho : o < 8) (h8 : w.cell? ⟨b, 8, none⟩ = some (.int .i64 o)) (hy : ∀ t, t < 8 → w.cell? ⟨b, t, none⟩ = some (.int .u8 (z t))) :
    Calls Tryd.prog 54 #[.int .i64 n, .pointer (some ⟨b, 0, none⟩)] w fun e w' => e = .returned (.bool (decide (64 ≤ n) || (decide (8 ≤ n) && decide (ringSum z o % 16 = 0)))) ∧ ∃ m, w' = w.drewN m := by
  have hR := fun W => rsum_any b o z W ho
  have hv := ringSum_nn z o
  by_cases h1 : 64 ≤ n
  · have e : (decide (64 ≤ n) || (decide (8 ≤ n) && decide (ringSum z o % 16 = 0))) = true := by simp [h1]
    rw [e]; clear e hR hy h8
    go_enter Tryd.func54, Tryd.ntmps54
    go_wp2
    go_ret
    exact ⟨by simp, 0, rfl⟩
  · by_cases h2 : 8 ≤ n
    · have e : (decide (64 ≤ n) || (decide (8 ≤ n) && decide (ringSum z o % 16 = 0))) = decide (ringSum z o % 16 = 0) := by simp [h1, h2]
      rw [e]; clear e
      have HR : Hid _ := hR w h8 hy
      clear hR hy
      change Hid (Calls Tryd.prog 58 #[.pointer (some ⟨b, 0, none⟩)] w fun e w' => e = .returned (.int .u64 (ringSum z o)) ∧ ∃ n, w' = w.drewN n) at HR
      generalize ringSum z o = v at *
      go_enter Tryd.func54, Tryd.ntmps54
      go_wp2_with (go_at_call 58; refine HR.out.mono ?_; rintro e w' ⟨rfl, m, rfl⟩)
      go_ret
      refine ⟨?_, m, rfl⟩
      simp
      by_cases hz : v % 16 = 0 <;> simp [hz]
    · have e : (decide (64 ≤ n) || (decide (8 ≤ n) && decide (ringSum z o % 16 = 0))) = false := by simp [h1, h2]
      rw [e]; clear e hR hy h8
      go_enter Tryd.func54, Tryd.ntmps54
      go_wp2
      go_ret
      exact ⟨by simp, 0, rfl⟩
end Go.Proofs.YtooodilbehnnfaaDoor
