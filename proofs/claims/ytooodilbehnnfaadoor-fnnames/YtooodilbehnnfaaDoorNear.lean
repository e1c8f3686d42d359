/- l2Near draws a text that is nearly another. -/
import Derived.Test.YtooodilbehnnfaaDoorThing
import Derived.Deep.RegionWith
namespace Go.Proofs.YtooodilbehnnfaaDoor
open Go.RowKit
set_option maxRecDepth 100000 in
set_option maxHeartbeats 2000000 in
theorem l2Near_any (rb : Nat) (a : Option Addr) (nn cap : Nat) (bs : List Int) (p : Nat) (s : ByteArray) (w : World) (h : Rd w rb a nn cap bs p) (hp : p ≤ 800000) (hs : s.size ≤ 3000) :
    Calls Tryd.prog 35 #[.pointer (some ⟨rb, 0, none⟩), .string s] w fun e w' => ∃ t : ByteArray, e = .returned (.string t) ∧ t.size ≤ 7000 ∧ ∃ p', p' ≤ p + 8 ∧ Rd w' rb a nn cap bs p' ∧ Below rb w w' := by
  have HP := hid fun (q : Nat) (n : Int) (W : World) (hr : Rd W rb a nn cap bs q) (h1 : 1 ≤ n) (h2 : n ≤ 100000) (hq : q ≤ 1000000) => pick_any rb a nn cap bs q n W hr h1 h2 hq
  have HT := hid fun (q : Nat) (W : World) (hr : Rd W rb a nn cap bs q) (hq : q ≤ 900000) => l2Thing_any rb a nn cap bs q W hr hq
  go_enter Tryd.func35, Tryd.ntmps35
  go_wp2_with fail
  refine (HP.out p 256 _ h (by omega) (by omega) (by omega)).mono ?_
  rintro e w1 ⟨y, rfl, hy, hr1, hg1⟩
  have HB1 := hid (grown_below hg1 h.lt)
  have HR1 := hid hr1
  have hm : y * (s.size + 1) ≤ 255 * (s.size + 1) := Nat.mul_le_mul_right _ (by omega)
  obtain ⟨K, hK⟩ : ∃ K : Nat, K = y * (s.size + 1) / 256 := ⟨_, rfl⟩
  have hKs : K ≤ s.size := by omega
  have hKe : ((y : Int) * ((s.size : Int) + 1)) / 256 = (K : Int) := by rw [hK]; rfl
  have hm0 : 0 ≤ (y : Int) * ((s.size : Int) + 1) := Int.mul_nonneg (by omega) (by omega)
  have hm1 : (y : Int) * ((s.size : Int) + 1) ≤ 1000000 := by
    have : ((y * (s.size + 1) : Nat) : Int) ≤ 1000000 := by omega
    simpa using this
  clear hr1 h hg1 hm hK
  go_wp2_with fail
  rw [hKe]
  refine (HP.out (p + 1) 4 _ HR1.out (by omega) (by omega) (by omega)).mono ?_
  rintro e w2 ⟨x, rfl, hx, hr2, hg2⟩
  have HB2 := hid (HB1.out.trans (grown_below hg2 HR1.out.lt))
  have HR2 := hid hr2
  clear hr2 hg2 hKe hm0 hm1
  have hx4 : x = 0 ∨ x = 1 ∨ x = 2 ∨ x = 3 := by omega
  rcases hx4 with rfl | rfl | rfl | rfl
  · have hKi : (K : Int) ≤ (s.size : Int) := by omega
    go_wp2
    go_region
    all_goals go_wp2
    all_goals go_ret
    all_goals exact ⟨_, rfl, by rw [ByteArray.size_append, ByteArray.size_append, ByteArray.size_extract, ByteArray.size_extract]; show _ + 3 + _ ≤ _; omega, p + 1 + 1, by omega, HR2.out, HB2.out.drew⟩
  · have hKi : (K : Int) ≤ (s.size : Int) := by omega
    go_wp2_with fail
    refine (HP.out (p + 1 + 1) 20 _ HR2.out (by omega) (by omega) (by omega)).mono ?_
    rintro e w3 ⟨z, rfl, hz, hr3, hg3⟩
    have HB3 := hid (HB2.out.trans (grown_below hg3 HR2.out.lt))
    have HR3 := hid hr3
    clear hr3 hg3
    by_cases hj : K + z < s.size
    · have hji : (K : Int) + (z : Int) < (s.size : Int) := by omega
      go_wp2
      go_region
      all_goals go_wp2
      all_goals go_ret
      all_goals exact ⟨_, rfl, by rw [ByteArray.size_append, ByteArray.size_extract, ByteArray.size_extract]; omega, p + 1 + 1 + 1, by omega, HR3.out, HB3.out.drew⟩
    · have hji : ¬ ((K : Int) + (z : Int) < (s.size : Int)) := by omega
      go_wp2
      go_region_with (go_at_call 34; refine (HT.out (p + 1 + 1 + 1) _ (by exact HR3.out) (by omega)).mono ?_; rintro e w4 ⟨t, rfl, ht, p', hp', hr4, hb4⟩)
      all_goals go_wp2
      all_goals go_ret
      all_goals exact ⟨_, rfl, by rw [ByteArray.size_append, ByteArray.size_extract]; omega, p', by omega, hr4, HB3.out.trans ⟨hb4.os, hb4.tape, hb4.output, hb4.size, hb4.block⟩⟩
  · go_wp2_with fail
    refine (HT.out (p + 1 + 1) _ HR2.out (by omega)).mono ?_
    rintro e w3 ⟨t, rfl, ht, p', hp', hr3, hb3⟩
    have HR3 := hid hr3
    have HB3 := hid (HB2.out.trans hb3)
    clear hr3 hb3
    go_wp2
    go_ret
    exact ⟨_, rfl, by rw [ByteArray.size_append]; omega, p', by omega, HR3.out, HB3.out⟩
  · have hKi : (K : Int) ≤ (s.size : Int) := by omega
    go_wp2
    go_region_with (go_at_call 34; refine (HT.out (p + 1 + 1) _ (by exact HR2.out) (by omega)).mono ?_; rintro e w4 ⟨t, rfl, ht, p', hp', hr4, hb4⟩)
    all_goals go_wp2
    all_goals go_ret
    all_goals exact ⟨_, rfl, by rw [ByteArray.size_append, ByteArray.size_extract]; omega, p', by omega, hr4, HB2.out.trans ⟨hb4.os, hb4.tape, hb4.output, hb4.size, hb4.block⟩⟩
end Go.Proofs.YtooodilbehnnfaaDoor
