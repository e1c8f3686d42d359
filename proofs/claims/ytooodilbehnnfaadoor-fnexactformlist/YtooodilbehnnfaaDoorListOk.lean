/- spec.l3Ok and impl.isList say whether a list is valid for a width. -/
import Derived.Test.YtooodilbehnnfaaDoorListBox
namespace Go.Proofs.YtooodilbehnnfaaDoor
open Go.RowKit
theorem all_true {ss : List ByteArray} {f : ByteArray → Bool} (h : ∀ i, i < ss.length → f (ss.getD i ByteArray.empty) = true) : ss.all f = true := by
  rw [List.all_eq_true]
  intro x hx
  obtain ⟨i, hi, rfl⟩ := List.getElem_of_mem hx
  have := h i hi
  rwa [List.getD_eq_getElem?_getD, List.getElem?_eq_getElem hi] at this
theorem all_false {ss : List ByteArray} {f : ByteArray → Bool} (i : Nat) (hi : i < ss.length) (h : f (ss.getD i ByteArray.empty) = false) : ss.all f = false := by
  rw [Bool.eq_false_iff]
  intro hc
  rw [List.all_eq_true] at hc
  have := hc _ (List.getElem_mem hi)
  rw [List.getD_eq_getElem?_getD, List.getElem?_eq_getElem hi] at h
  rw [Option.getD_some] at h
  rw [h] at this; cases this
/-- A list is valid for a width. -/
def okL (n : Int) (ss : List ByteArray) (m : Int) : Bool := isW m && (decide (0 ≤ n ∧ n ≤ 3000) && (decide (ss.length ≤ 375) && ss.all fun s => decide ((s.size : Int) = m)))
set_option maxRecDepth 100000 in
set_option maxHeartbeats 400000 in
theorem isSize_any (n : Int) (w : World) : Calls Tryd.prog 43 #[.int .i64 n] w fun e w' => e = .returned (.bool (decide (0 ≤ n ∧ n ≤ 3000))) ∧ w' = w := by
  by_cases h1 : 0 ≤ n
  · by_cases h2 : n ≤ 3000
    · go_enter Tryd.func43, Tryd.ntmps43
      go_wp2
      go_ret
      exact ⟨by simp [h1, h2], rfl⟩
    · go_enter Tryd.func43, Tryd.ntmps43
      go_wp2
      go_ret
      exact ⟨by simp [h2], rfl⟩
  · go_enter Tryd.func43, Tryd.ntmps43
    go_wp2
    go_ret
    exact ⟨by simp; omega, rfl⟩
set_option maxRecDepth 100000 in
set_option maxHeartbeats 1000000 in
theorem l3Ok_any (n : Int) (v : Value) (ss : List ByteArray) (m : Int) (w : World) (hv : Reads w v ss) (hl : ss.length ≤ maxLen) (hsz : ∀ i, (ss.getD i ByteArray.empty).size ≤ maxLen) :
    Calls Tryd.prog 18 #[.agg #[.int .i64 n, v], .int .i64 m] w fun e w' => e = .returned (.bool (okL n ss m)) ∧ Below w.heap.size w w' := by
  unfold maxLen at hl
  obtain ⟨a, ca, rfl, hca⟩ := hv.form
  have hbl := (Below.refl w.heap.size w).alloc (Nat.le_refl _) (.cells #[.int .i64 n, .slice a ss.length ca] 27)
  cases hw : isW m with
  | false =>
    have e : okL n ss m = false := by simp [okL, hw]
    rw [e]; clear e
    go_enter Tryd.func18, Tryd.ntmps18
    go_wp2_with (go_at_call 40; refine (l1Width_any _ _).mono ?_; rintro e w' ⟨rfl, rfl⟩)
    go_ret
    exact ⟨rfl, hbl⟩
  | true =>
    cases hn : decide (0 ≤ n ∧ n ≤ 3000) with
    | false =>
      have e : okL n ss m = false := by simp [okL, hw, hn]
      rw [e]; clear e
      go_enter Tryd.func18, Tryd.ntmps18
      go_wp2_with (first | (go_at_call 40; refine (l1Width_any _ _).mono ?_; rintro e w' ⟨rfl, rfl⟩) | (go_at_call 41; refine (l1In_any _ _ _ _).mono ?_; rintro e w' ⟨rfl, rfl⟩; rw [hn]))
      go_ret
      exact ⟨rfl, hbl⟩
    | true =>
      by_cases h375 : ss.length ≤ 375
      · have e : okL n ss m = ss.all fun s => decide ((s.size : Int) = m) := by simp [okL, hw, hn, h375]
        rw [e]; clear e
        obtain ⟨B, hB⟩ : ∃ B, B = ss.all fun s => decide ((s.size : Int) = m) := ⟨_, rfl⟩
        rw [← hB]
        have HB := hid hB
        clear hB
        go_enter Tryd.func18, Tryd.ntmps18
        go_wp2_with (first | (go_at_call 40; refine (l1Width_any _ _).mono ?_; rintro e w' ⟨rfl, rfl⟩) | (go_at_call 41; refine (l1In_any _ _ _ _).mono ?_; rintro e w' ⟨rfl, rfl⟩; rw [hn]))
        go_loopw [5] (fun i wr => ∃ k : Nat, k ≤ ss.length ∧ i = .int .i64 k ∧ (∀ j, j < k → ((ss.getD j ByteArray.empty).size : Int) = m) ∧ wr = w.alloc (.cells #[.int .i64 n, .slice a ss.length ca] 27)) (fun i _ => ss.length - (intOf i).toNat)
        case atStart => exact ⟨0, Nat.zero_le _, rfl, fun j hj => absurd hj (by omega), rfl⟩
        case round =>
          obtain ⟨k, hk, rfl, hall, rfl⟩ := hrel
          by_cases hlt : k < ss.length
          · obtain ⟨b1, o1, rfl, hb1, hc1⟩ := hca k hlt
            have hd1 := (hbl.cell (p := ⟨b1, o1 + k, none⟩) hb1).trans hc1
            have hz := hsz k
            by_cases hm : ((ss.getD k ByteArray.empty).size : Int) = m
            · have HA : Hid (∀ j, j < k + 1 → ((ss.getD j ByteArray.empty).size : Int) = m) := fun j hj => by
                rcases Nat.lt_succ_iff_lt_or_eq.1 hj with h | rfl
                · exact hall j h
                · exact hm
              clear hall hca hc1
              generalize ss.getD k ByteArray.empty = s at *
              go_wp2
              go_roundw
              case rel => exact ⟨k + 1, by omega, by go_num, HA.out, trivial⟩
              case measure => simp [intOf]; omega
            · have HF : Hid ((ss.all fun s => decide ((s.size : Int) = m)) = false) := all_false k hlt (by simpa using hm)
              clear hall hca hc1
              generalize ss.getD k ByteArray.empty = s at *
              go_wp2
              go_ret
              exact ⟨by rw [HB.out, HF.out]; rfl, hbl⟩
          · obtain rfl : k = ss.length := by omega
            have HF : Hid ((ss.all fun s => decide ((s.size : Int) = m)) = true) := all_true fun i hi => by simpa using hall i hi
            clear hall hca
            go_wp2
            go_ret
            exact ⟨by rw [HB.out, HF.out]; rfl, hbl⟩
      · have e : okL n ss m = false := by simp [okL, hw, hn, h375]
        rw [e]; clear e
        go_enter Tryd.func18, Tryd.ntmps18
        go_wp2_with (first | (go_at_call 40; refine (l1Width_any _ _).mono ?_; rintro e w' ⟨rfl, rfl⟩) | (go_at_call 41; refine (l1In_any _ _ _ _).mono ?_; rintro e w' ⟨rfl, rfl⟩; rw [hn]))
        go_ret
        exact ⟨rfl, hbl⟩
set_option maxRecDepth 100000 in
set_option maxHeartbeats 1000000 in
theorem isList_any (n : Int) (v : Value) (ss : List ByteArray) (m : Int) (w : World) (hv : Reads w v ss) (hl : ss.length ≤ maxLen) (hsz : ∀ i, (ss.getD i ByteArray.empty).size ≤ maxLen) :
    Calls Tryd.prog 22 #[.agg #[.int .i64 n, v], .int .i64 m] w fun e w' => e = .returned (.bool (okL n ss m)) ∧ Below w.heap.size w w' := by
  unfold maxLen at hl
  obtain ⟨a, ca, rfl, hca⟩ := hv.form
  have hbl := (Below.refl w.heap.size w).alloc (Nat.le_refl _) (.cells #[.int .i64 n, .slice a ss.length ca] 27)
  cases hw : isW m with
  | false =>
    have e : okL n ss m = false := by simp [okL, hw]
    rw [e]; clear e
    go_enter Tryd.func22, Tryd.ntmps22
    go_wp2_with (go_at_call 42; refine (isWidth_any _ _).mono ?_; rintro e w' ⟨rfl, rfl⟩)
    go_ret
    exact ⟨rfl, hbl⟩
  | true =>
    cases hn : decide (0 ≤ n ∧ n ≤ 3000) with
    | false =>
      have e : okL n ss m = false := by simp [okL, hw, hn]
      rw [e]; clear e
      go_enter Tryd.func22, Tryd.ntmps22
      go_wp2_with (first | (go_at_call 42; refine (isWidth_any _ _).mono ?_; rintro e w' ⟨rfl, rfl⟩) | (go_at_call 43; refine (isSize_any _ _).mono ?_; rintro e w' ⟨rfl, rfl⟩; rw [hn]))
      go_ret
      exact ⟨rfl, hbl⟩
    | true =>
      by_cases h375 : ss.length ≤ 375
      · have e : okL n ss m = ss.all fun s => decide ((s.size : Int) = m) := by simp [okL, hw, hn, h375]
        rw [e]; clear e
        obtain ⟨B, hB⟩ : ∃ B, B = ss.all fun s => decide ((s.size : Int) = m) := ⟨_, rfl⟩
        rw [← hB]
        have HB := hid hB
        clear hB
        go_enter Tryd.func22, Tryd.ntmps22
        go_wp2_with (first | (go_at_call 42; refine (isWidth_any _ _).mono ?_; rintro e w' ⟨rfl, rfl⟩) | (go_at_call 43; refine (isSize_any _ _).mono ?_; rintro e w' ⟨rfl, rfl⟩; rw [hn]))
        go_loopw [25] (fun i wr => ∃ k : Nat, k ≤ ss.length ∧ i = .int .i64 k ∧ (∀ j, j < k → ((ss.getD j ByteArray.empty).size : Int) = m) ∧ wr = w.alloc (.cells #[.int .i64 n, .slice a ss.length ca] 27)) (fun i _ => ss.length - (intOf i).toNat)
        case atStart => exact ⟨0, Nat.zero_le _, rfl, fun j hj => absurd hj (by omega), rfl⟩
        case round =>
          obtain ⟨k, hk, rfl, hall, rfl⟩ := hrel
          by_cases hlt : k < ss.length
          · obtain ⟨b1, o1, rfl, hb1, hc1⟩ := hca k hlt
            have hd1 := (hbl.cell (p := ⟨b1, o1 + k, none⟩) hb1).trans hc1
            have hz := hsz k
            by_cases hm : ((ss.getD k ByteArray.empty).size : Int) = m
            · have HA : Hid (∀ j, j < k + 1 → ((ss.getD j ByteArray.empty).size : Int) = m) := fun j hj => by
                rcases Nat.lt_succ_iff_lt_or_eq.1 hj with h | rfl
                · exact hall j h
                · exact hm
              clear hall hca hc1
              generalize ss.getD k ByteArray.empty = s at *
              go_wp2
              go_roundw
              case rel => exact ⟨k + 1, by omega, by go_num, HA.out, trivial⟩
              case measure => simp [intOf]; omega
            · have HF : Hid ((ss.all fun s => decide ((s.size : Int) = m)) = false) := all_false k hlt (by simpa using hm)
              clear hall hca hc1
              generalize ss.getD k ByteArray.empty = s at *
              go_wp2
              go_ret
              exact ⟨by rw [HB.out, HF.out]; rfl, hbl⟩
          · obtain rfl : k = ss.length := by omega
            have HF : Hid ((ss.all fun s => decide ((s.size : Int) = m)) = true) := all_true fun i hi => by simpa using hall i hi
            clear hall hca
            go_wp2
            go_ret
            exact ⟨by rw [HB.out, HF.out]; rfl, hbl⟩
      · have e : okL n ss m = false := by simp [okL, hw, hn, h375]
        rw [e]; clear e
        go_enter Tryd.func22, Tryd.ntmps22
        go_wp2_with (first | (go_at_call 42; refine (isWidth_any _ _).mono ?_; rintro e w' ⟨rfl, rfl⟩) | (go_at_call 43; refine (isSize_any _ _).mono ?_; rintro e w' ⟨rfl, rfl⟩; rw [hn]))
        go_ret
        exact ⟨rfl, hbl⟩
end Go.Proofs.YtooodilbehnnfaaDoor
