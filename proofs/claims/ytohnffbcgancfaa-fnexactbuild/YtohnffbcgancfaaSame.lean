/- spec.l3Same and slices.Equal: two lists are the same. -/
import Derived.Test.YtohnffbcgancfaaBuildParts
namespace Go.Proofs.Ytohnffbcgancfaa
open Go.RowKit
theorem list_eq_at {xs ys : List ByteArray} (hl : xs.length = ys.length) (h : ∀ i, i < xs.length → xs.getD i ByteArray.empty = ys.getD i ByteArray.empty) : xs = ys := by
  have := map_eq_iff (f := id) hl h
  rwa [List.map_id] at this
theorem list_ne_at {xs ys : List ByteArray} (i : Nat) (h : xs.getD i ByteArray.empty ≠ ys.getD i ByteArray.empty) : xs ≠ ys := by
  rintro rfl; exact h rfl
set_option maxRecDepth 100000 in
set_option maxHeartbeats 1000000 in
theorem l3Same_any (n n' : Int) (va vb : Value) (xs ys : List ByteArray) (w : World) (ha : Reads w va xs) (hb : Reads w vb ys) (hl : xs.length ≤ maxLen) (hl' : ys.length ≤ maxLen) :
    Calls Try.prog 52 #[.agg #[.int .i64 n, va], .agg #[.int .i64 n', vb]] w fun e w' => e = .returned (.bool (decide (n = n' ∧ xs = ys))) ∧ Below w.heap.size w w' := by
  unfold maxLen at hl hl'
  obtain ⟨a, ca, rfl, hca⟩ := ha.form
  obtain ⟨b, cb, rfl, hcb⟩ := hb.form
  obtain ⟨B, hB⟩ : ∃ B, B = decide (n = n' ∧ xs = ys) := ⟨_, rfl⟩
  rw [← hB]
  have HB := hid hB
  have hbl := ((Below.refl w.heap.size w).alloc (Nat.le_refl _) (.cells #[.int .i64 n, .slice a xs.length ca] 42)).alloc (by simp) (.cells #[.int .i64 n', .slice b ys.length cb] 42)
  clear hB ha hb
  by_cases hn : n = n'
  · subst hn
    have hB' : B = decide (xs = ys) := by rw [HB.out]; simp
    clear HB
    have HB := hid hB'
    clear hB'
    by_cases hlen : xs.length = ys.length
    · have HLEN := hid hlen
      have hcb' : ∀ i, i < xs.length → ∃ b' off, b = some ⟨b', off, none⟩ ∧ b' < w.heap.size ∧ w.cell? ⟨b', off + i, none⟩ = some (.string (ys.getD i ByteArray.empty)) := fun i hi => hcb i (by omega)
      rw [← hlen] at hbl ⊢
      have HBL := hid hbl
      clear hcb hlen hbl
      go_enter Try.func52, Try.ntmps52
      go_wp2
      go_loopw [5] (fun i wr => ∃ k : Nat, k ≤ xs.length ∧ i = .int .i64 k ∧ (∀ j, j < k → xs.getD j ByteArray.empty = ys.getD j ByteArray.empty) ∧ ∃ q, wr = ((w.alloc (.cells #[.int .i64 n, .slice a xs.length ca] 42)).alloc (.cells #[.int .i64 n, .slice b xs.length cb] 42)).drewN q) (fun i _ => xs.length - (intOf i).toNat)
      case atStart => exact ⟨0, Nat.zero_le _, rfl, fun j hj => absurd hj (by omega), 0, rfl⟩
      case round =>
        obtain ⟨k, hk, rfl, hall, q, rfl⟩ := hrel
        by_cases hlt : k < xs.length
        · obtain ⟨b1, o1, rfl, hb1, hc1⟩ := hca k hlt
          obtain ⟨b2, o2, rfl, hb2, hc2⟩ := hcb' k hlt
          have hd1 := (HBL.out.cell (p := ⟨b1, o1 + k, none⟩) hb1).trans hc1
          have hd2 := (HBL.out.cell (p := ⟨b2, o2 + k, none⟩) hb2).trans hc2
          have HA : Hid (xs.getD k ByteArray.empty = ys.getD k ByteArray.empty → ∀ j, j < k + 1 → xs.getD j ByteArray.empty = ys.getD j ByteArray.empty) := fun h j hj => by
            rcases Nat.lt_succ_iff_lt_or_eq.1 hj with h' | rfl
            · exact hall j h'
            · exact h
          have HF : Hid (xs.getD k ByteArray.empty ≠ ys.getD k ByteArray.empty → decide (xs = ys) = false) := fun h => by
            rw [decide_eq_false_iff_not]; exact list_ne_at k h
          clear hall hca hcb' hc1 hc2
          generalize xs.getD k ByteArray.empty = s at *
          generalize ys.getD k ByteArray.empty = t at *
          cases hx : (s.toList == t.toList) with
          | true =>
            have HE : Hid (s = t) := by
              show s = t
              rw [beq_text] at hx; exact of_decide_eq_true hx
            go_wp2
            go_quiet (fail)
            go_wp2
            refine ⟨⟨k + 1, by omega, by go_num, HA.out HE.out, _, rfl⟩, by simp [intOf]; omega⟩
          | false =>
            have HE : Hid (s ≠ t) := by
              show s ≠ t
              rw [beq_text] at hx; exact of_decide_eq_false hx
            go_wp2
            go_quiet (fail)
            go_wp2
            go_ret
            exact ⟨by rw [HB.out, HF.out HE.out]; rfl, below_drewN (below_drewN HBL.out _) _⟩
        · obtain rfl : k = xs.length := by omega
          have HF : Hid (decide (xs = ys) = true) := decide_eq_true (list_eq_at HLEN.out hall)
          clear hall hca hcb'
          go_wp2
          go_ret
          exact ⟨by rw [HB.out, HF.out]; rfl, below_drewN HBL.out _⟩
    · have hlen' : ¬ ((xs.length : Int) = (ys.length : Int)) := by omega
      have HF : Hid (decide (xs = ys) = false) := by
        show _ = _
        rw [decide_eq_false_iff_not]; rintro rfl; exact hlen rfl
      have HBL := hid hbl
      clear hca hcb hbl
      go_enter Try.func52, Try.ntmps52
      go_wp2
      go_ret
      exact ⟨by rw [HB.out, HF.out]; rfl, HBL.out⟩
  · have HF : Hid (decide (n = n' ∧ xs = ys) = false) := by
      show _ = _
      rw [decide_eq_false_iff_not]; exact fun e => hn e.1
    have HBL := hid hbl
    clear hca hcb hbl
    go_enter Try.func52, Try.ntmps52
    go_wp2
    go_ret
    exact ⟨by rw [HB.out, HF.out]; rfl, HBL.out⟩
set_option maxRecDepth 100000 in
set_option maxHeartbeats 1000000 in
theorem slicesEqual_any (va vb : Value) (xs ys : List ByteArray) (w : World) (ha : Reads w va xs) (hb : Reads w vb ys) (hl : xs.length ≤ maxLen) (hl' : ys.length ≤ maxLen) :
    Calls Try.prog 58 #[va, vb] w fun e w' => e = .returned (.bool (decide (xs = ys))) ∧ ∃ q, w' = w.drewN q := by
  unfold maxLen at hl hl'
  obtain ⟨a, ca, rfl, hca⟩ := ha.form
  obtain ⟨b, cb, rfl, hcb⟩ := hb.form
  obtain ⟨B, hB⟩ : ∃ B, B = decide (xs = ys) := ⟨_, rfl⟩
  rw [← hB]
  have HB := hid hB
  clear hB ha hb
  by_cases hlen : xs.length = ys.length
  · have HLEN := hid hlen
    have hcb' : ∀ i, i < xs.length → ∃ b' off, b = some ⟨b', off, none⟩ ∧ b' < w.heap.size ∧ w.cell? ⟨b', off + i, none⟩ = some (.string (ys.getD i ByteArray.empty)) := fun i hi => hcb i (by omega)
    rw [← hlen]
    clear hcb hlen
    go_enter Try.func58, Try.ntmps58
    go_wp2
    go_loopw [13] (fun i wr => ∃ k : Nat, k ≤ xs.length ∧ i = .int .i64 k ∧ (∀ j, j < k → xs.getD j ByteArray.empty = ys.getD j ByteArray.empty) ∧ ∃ q, wr = w.drewN q) (fun i _ => xs.length - (intOf i).toNat)
    case atStart => exact ⟨0, Nat.zero_le _, rfl, fun j hj => absurd hj (by omega), 0, rfl⟩
    case round =>
      obtain ⟨k, hk, rfl, hall, q, rfl⟩ := hrel
      by_cases hlt : k < xs.length
      · obtain ⟨b1, o1, rfl, hb1, hd1⟩ := hca k hlt
        obtain ⟨b2, o2, rfl, hb2, hd2⟩ := hcb' k hlt
        have HA : Hid (xs.getD k ByteArray.empty = ys.getD k ByteArray.empty → ∀ j, j < k + 1 → xs.getD j ByteArray.empty = ys.getD j ByteArray.empty) := fun h j hj => by
          rcases Nat.lt_succ_iff_lt_or_eq.1 hj with h' | rfl
          · exact hall j h'
          · exact h
        have HF : Hid (xs.getD k ByteArray.empty ≠ ys.getD k ByteArray.empty → decide (xs = ys) = false) := fun h => by
          rw [decide_eq_false_iff_not]; exact list_ne_at k h
        clear hall hca hcb'
        generalize xs.getD k ByteArray.empty = s at *
        generalize ys.getD k ByteArray.empty = t at *
        cases hx : (s.toList == t.toList) with
        | true =>
          have HE : Hid (s = t) := by
            show s = t
            rw [beq_text] at hx; exact of_decide_eq_true hx
          go_wp2
          go_quiet (fail)
          go_wp2
          refine ⟨⟨k + 1, by omega, by go_num, HA.out HE.out, _, rfl⟩, by simp [intOf]; omega⟩
        | false =>
          have HE : Hid (s ≠ t) := by
            show s ≠ t
            rw [beq_text] at hx; exact of_decide_eq_false hx
          go_wp2
          go_quiet (fail)
          go_wp2
          go_ret
          exact ⟨by rw [HB.out, HF.out HE.out]; rfl, _, World.drewN_drewN _ _ _⟩
      · obtain rfl : k = xs.length := by omega
        have HF : Hid (decide (xs = ys) = true) := decide_eq_true (list_eq_at HLEN.out hall)
        clear hall hca hcb'
        go_wp2
        go_ret
        exact ⟨by rw [HB.out, HF.out]; rfl, _, rfl⟩
  · have hlen' : ¬ ((xs.length : Int) = (ys.length : Int)) := by omega
    have HF : Hid (decide (xs = ys) = false) := by
      show _ = _
      rw [decide_eq_false_iff_not]; rintro rfl; exact hlen rfl
    clear hca hcb
    go_enter Try.func58, Try.ntmps58
    go_wp2
    go_ret
    exact ⟨by rw [HB.out, HF.out]; rfl, 0, rfl⟩
end Go.Proofs.Ytohnffbcgancfaa
