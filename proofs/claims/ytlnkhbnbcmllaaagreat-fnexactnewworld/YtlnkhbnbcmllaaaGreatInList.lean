/- spec.l2In, slices.Index and slices.Contains over texts. -/
import Derived.Test.YtlnkhbnbcmllaaaGreatOrder
namespace Go.Proofs.YtlnkhbnbcmllaaaGreat
open Go.RowKit
def inB (ps : List ByteArray) (x : ByteArray) : Bool := ps.any fun p => p.toList == x.toList
theorem inB_step (ps : List ByteArray) (x : ByteArray) (k : Nat) (hlt : k < ps.length) : inB (ps.take (k + 1)) x = (inB (ps.take k) x || ((ps.getD k ByteArray.empty).toList == x.toList)) := by
  unfold inB; rw [List.take_succ_eq_append_getElem hlt, List.any_append, List.getD_eq_getElem?_getD, List.getElem?_eq_getElem hlt]; simp
theorem inB_of (ps : List ByteArray) (x : ByteArray) (k : Nat) (hlt : k < ps.length) (h : ((ps.getD k ByteArray.empty).toList == x.toList) = true) : inB ps x = true := by
  unfold inB; rw [List.any_eq_true]; exact ⟨ps[k], List.getElem_mem hlt, by simpa [hlt] using h⟩
set_option maxRecDepth 100000 in
set_option maxHeartbeats 400000 in
theorem l2In_in (va : Value) (ps : List ByteArray) (x : ByteArray) (w : World) (ha : Reads w va ps) (hl : ps.length ≤ maxLen) :
    Calls Tryz.prog 44 #[va, .string x] w fun e w' => e = .returned (.bool (inB ps x)) ∧ w' = w := by
  unfold maxLen at hl
  obtain ⟨a, ca, rfl, hca⟩ := ha.form
  go_enter Tryz.func44, Tryz.ntmps44
  go_wp2
  go_loop [5] (fun i => ∃ k : Nat, k ≤ ps.length ∧ i = .int .i64 k ∧ inB (ps.take k) x = false) (fun i => ps.length - (intOf i).toNat)
  case atStart => exact ⟨0, Nat.zero_le _, rfl, by simp [inB]⟩
  case round =>
    obtain ⟨k, hk, rfl, hno⟩ := hrel
    by_cases hlt : k < ps.length
    · obtain ⟨b1, o1, rfl, hb1, hc1⟩ := hca k hlt
      have hsn := inB_step ps x k hlt
      have hall := inB_of ps x k hlt
      generalize ps.getD k ByteArray.empty = q at *
      have HN := hid hsn
      have HA := hid hall
      have HO := hid hno
      clear hsn hall hno hca ha
      cases hq : (q.toList == x.toList) with
      | true =>
        go_wp2
        go_ret
        rw [HA.out hq]
        exact ⟨by simp, rfl⟩
      | false =>
        go_wp2
        go_round
        case rel => exact ⟨k + 1, by omega, by go_num, by rw [HN.out, HO.out, hq]; rfl⟩
        case measure => simp [intOf]; omega
    · have e : inB ps x = false := by rw [List.take_of_length_le (by omega)] at hno; exact hno
      have HE := hid e
      clear e hno
      go_wp2
      go_ret
      rw [HE.out]
      exact ⟨rfl, rfl⟩
set_option maxRecDepth 100000 in
set_option maxHeartbeats 400000 in
theorem slIndex_any (va : Value) (ps : List ByteArray) (x : ByteArray) (w : World) (ha : Reads w va ps) (hl : ps.length ≤ maxLen) :
    Calls Tryz.prog 89 #[va, .string x] w fun e w' => ∃ r : Int, e = .returned (.int .i64 r) ∧ (decide (0 ≤ r)) = inB ps x ∧ w' = w := by
  unfold maxLen at hl
  obtain ⟨a, ca, rfl, hca⟩ := ha.form
  go_enter Tryz.func89, Tryz.ntmps89
  go_wp2
  go_loop [8] (fun i => ∃ k : Nat, k ≤ ps.length ∧ i = .int .i64 k ∧ inB (ps.take k) x = false) (fun i => ps.length - (intOf i).toNat)
  case atStart => exact ⟨0, Nat.zero_le _, rfl, by simp [inB]⟩
  case round =>
    obtain ⟨k, hk, rfl, hno⟩ := hrel
    by_cases hlt : k < ps.length
    · obtain ⟨b1, o1, rfl, hb1, hc1⟩ := hca k hlt
      have hsn := inB_step ps x k hlt
      have hall := inB_of ps x k hlt
      generalize ps.getD k ByteArray.empty = q at *
      have HN := hid hsn
      have HA := hid hall
      have HO := hid hno
      clear hsn hall hno hca ha
      cases hq : (x.toList == q.toList) with
      | true =>
        have hq2 : (q.toList == x.toList) = true := by rw [beq_iff_eq] at hq ⊢; exact hq.symm
        go_wp2
        go_ret
        exact ⟨_, rfl, by rw [HA.out hq2]; simp, rfl⟩
      | false =>
        have hq2 : Hid ((q.toList == x.toList) = false) := by show (q.toList == x.toList) = false; rw [Bool.eq_false_iff] at hq ⊢; intro h; rw [beq_iff_eq] at h; exact hq (by rw [beq_iff_eq]; exact h.symm)
        go_wp2
        go_round
        case rel => exact ⟨k + 1, by omega, by go_num, by rw [HN.out, HO.out, hq2.out]; rfl⟩
        case measure => simp [intOf]; omega
    · have e : inB ps x = false := by rw [List.take_of_length_le (by omega)] at hno; exact hno
      have HE := hid e
      clear e hno
      go_wp2
      go_ret
      exact ⟨-1, rfl, by rw [HE.out]; rfl, rfl⟩
set_option maxRecDepth 100000 in
theorem slContains_any (va : Value) (ps : List ByteArray) (x : ByteArray) (w : World) (ha : Reads w va ps) (hl : ps.length ≤ maxLen) :
    Calls Tryz.prog 73 #[va, .string x] w fun e w' => e = .returned (.bool (inB ps x)) ∧ w' = w := by
  have HI := hid (slIndex_any va ps x w ha hl)
  clear ha hl
  go_enter Tryz.func73, Tryz.ntmps73
  go_wp2_with fail
  refine HI.out.mono ?_
  rintro e w1 ⟨r, rfl, hr, rfl⟩
  have HR := hid hr
  clear hr
  by_cases h0 : 0 ≤ r
  · have HT : Hid (inB ps x = true) := by show inB ps x = true; rw [← HR.out]; simpa using h0
    go_wp2
    go_ret
    rw [HT.out]
    exact ⟨by simp, rfl⟩
  · have HT : Hid (inB ps x = false) := by show inB ps x = false; rw [← HR.out]; simpa using h0
    go_wp2
    go_ret
    rw [HT.out]
    exact ⟨by simp; omega, rfl⟩
end Go.Proofs.YtlnkhbnbcmllaaaGreat
