/- The parts of Build: impl.haveSize, impl.haveSums, spec.l3Same. -/
import Derived.Test.YtohnffbcgancfaaListOk
import Derived.Test.YtohnffbcgancfaaHeld
namespace Go.Proofs.Ytohnffbcgancfaa
open Go.RowKit
/-- How many bytes texts have together. -/
def total : List ByteArray → Nat
  | [] => 0
  | p :: ps => p.size + total ps
theorem total_append : ∀ (a b : List ByteArray), total (a ++ b) = total a + total b
  | [], b => by simp [total]
  | p :: a, b => by simp [total, total_append a b]; omega
theorem total_take (ps : List ByteArray) (k : Nat) (h : k < ps.length) : total (ps.take (k + 1)) = total (ps.take k) + (ps.getD k ByteArray.empty).size := by
  rw [List.take_add_one, total_append, List.getElem?_eq_getElem h]
  simp [total, h]
theorem total_le (ps : List ByteArray) (k : Nat) : total (ps.take k) ≤ total ps := by
  have := total_append (ps.take k) (ps.drop k)
  rw [List.take_append_drop] at this
  omega
theorem map_eq_iff {ps ss : List ByteArray} {f : ByteArray → ByteArray} (hl : ps.length = ss.length) (h : ∀ i, i < ps.length → f (ps.getD i ByteArray.empty) = ss.getD i ByteArray.empty) : ps.map f = ss := by
  apply List.ext_getElem (by simpa using hl)
  intro i h1 h2
  have := h i (by simpa using h1)
  rw [List.getD_eq_getElem?_getD, List.getD_eq_getElem?_getD, List.getElem?_eq_getElem (by simpa using h1), List.getElem?_eq_getElem h2] at this
  simpa using this
theorem map_ne_at {ps ss : List ByteArray} {f : ByteArray → ByteArray} (i : Nat) (hi : i < ps.length) (h : f (ps.getD i ByteArray.empty) ≠ ss.getD i ByteArray.empty) : ps.map f ≠ ss := by
  rintro rfl
  apply h
  rw [List.getD_eq_getElem?_getD, List.getD_eq_getElem?_getD, List.getElem?_eq_getElem hi, List.getElem?_map, List.getElem?_eq_getElem hi]
  rfl
set_option maxRecDepth 100000 in
set_option maxHeartbeats 400000 in
theorem haveSize_any (v : Value) (ps : List ByteArray) (n : Int) (w : World) (hv : Reads w v ps) (hl : ps.length ≤ maxLen) (hsz : ∀ i, (ps.getD i ByteArray.empty).size ≤ maxLen) (h0 : 0 ≤ n) (h3 : n ≤ 3000) :
    Calls Try.prog 54 #[v, .int .i64 n] w fun e w' => e = .returned (.bool (decide ((total ps : Int) = n))) ∧ w' = w := by
  unfold maxLen at hl
  obtain ⟨a, ca, rfl, hca⟩ := hv.form
  obtain ⟨B, hB⟩ : ∃ B, B = decide ((total ps : Int) = n) := ⟨_, rfl⟩
  rw [← hB]
  have HB := hid hB
  clear hB
  go_enter Try.func54, Try.ntmps54
  go_wp2
  go_loopw [5, 11] (fun l i wr => ∃ k : Nat, k ≤ ps.length ∧ i = .int .i64 k ∧ l = .int .i64 (n - total (ps.take k)) ∧ (total (ps.take k) : Int) ≤ n ∧ wr = w) (fun _ i _ => ps.length - (intOf i).toNat)
  case atStart => exact ⟨0, Nat.zero_le _, rfl, by simp [total], by simpa [total] using h0, rfl⟩
  case round =>
    obtain ⟨k, hk, rfl, rfl, hle, rfl⟩ := hrel
    by_cases hlt : k < ps.length
    · obtain ⟨b1, o1, rfl, hb1, hc1⟩ := hca k hlt
      have ht := total_take ps k hlt
      have hle2 := total_le ps (k + 1)
      have hz := hsz k
      unfold maxLen at hz
      obtain ⟨t, hT⟩ : ∃ t : Nat, t = total (ps.take k) := ⟨_, rfl⟩
      by_cases hm : ((ps.getD k ByteArray.empty).size : Int) ≤ n - total (ps.take k)
      · have HT : Hid (total (ps.take (k + 1)) = t + (ps.getD k ByteArray.empty).size) := by rw [hT]; exact ht
        rw [← hT] at hm hle ⊢
        clear ht hle2 hca hT
        generalize ps.getD k ByteArray.empty = p at *
        go_wp2
        go_roundw
        case rel => exact ⟨k + 1, by omega, by go_num, by rw [HT.out]; go_num, by rw [HT.out]; omega, trivial⟩
        case measure => simp [intOf]; omega
      · have HF : Hid (decide ((total ps : Int) = n) = false) := by
          show _ = _
          rw [decide_eq_false_iff_not]; omega
        rw [← hT] at hm hle ⊢
        clear ht hle2 hca hT
        generalize ps.getD k ByteArray.empty = p at *
        go_wp2
        go_ret
        exact ⟨by rw [HB.out, HF.out]; rfl, rfl⟩
    · obtain rfl : k = ps.length := by omega
      rw [List.take_length] at *
      have HF : Hid (decide ((total ps : Int) = n) = (n - total ps == 0)) := by
        show _ = _
        by_cases h : (total ps : Int) = n
        · simp [h]
        · rw [decide_eq_false h]; symm; simp; omega
      clear hca
      generalize total ps = t at *
      go_wp2
      go_ret
      exact ⟨by rw [HB.out, HF.out]; rfl, rfl⟩
theorem beq_text (s t : ByteArray) : (s.toList == t.toList) = decide (s = t) := by
  by_cases h : s = t
  · subst h; simp
  · rw [decide_eq_false h, beq_eq_false_iff_ne]
    rcases s with ⟨⟨a⟩⟩
    rcases t with ⟨⟨b⟩⟩
    intro e
    rw [ByteArray.toList_mk, ByteArray.toList_mk] at e
    exact h (by rw [e])
set_option maxRecDepth 100000 in
set_option maxHeartbeats 1000000 in
theorem haveSums_any (vp vs : Value) (ps ss : List ByteArray) (m : Int) (w : World) (hp : Reads w vp ps) (hs : Reads w vs ss) (hl : ps.length ≤ maxLen) (hl' : ss.length ≤ maxLen) (hsz : ∀ i, (ps.getD i ByteArray.empty).size ≤ maxLen) :
    Calls Try.prog 55 #[vp, vs, .int .i64 m] w fun e w' => e = .returned (.bool (decide (ps.map (sumT m) = ss))) ∧ Below w.heap.size w w' := by
  have HSZ := hid hsz
  unfold maxLen at hl hl'
  obtain ⟨a, ca, rfl, hca⟩ := hp.form
  obtain ⟨b, cb, rfl, hcb⟩ := hs.form
  clear hsz
  by_cases hlen : ps.length = ss.length
  · obtain ⟨B, hB⟩ : ∃ B, B = decide (ps.map (sumT m) = ss) := ⟨_, rfl⟩
    rw [← hB]
    have HB := hid hB
    have HLEN := hid hlen
    have hcb' : ∀ i, i < ps.length → ∃ b' off, b = some ⟨b', off, none⟩ ∧ b' < w.heap.size ∧ w.cell? ⟨b', off + i, none⟩ = some (.string (ss.getD i ByteArray.empty)) := fun i hi => hcb i (by omega)
    rw [← hlen]
    clear hB hcb hlen hs hp
    go_enter Try.func55, Try.ntmps55
    go_wp2
    go_loopw [16] (fun i wr => ∃ k : Nat, k ≤ ps.length ∧ i = .int .i64 k ∧ (∀ j, j < k → sumT m (ps.getD j ByteArray.empty) = ss.getD j ByteArray.empty) ∧ Below w.heap.size w wr) (fun i _ => ps.length - (intOf i).toNat)
    case atStart => exact ⟨0, Nat.zero_le _, rfl, fun j hj => absurd hj (by omega), Below.refl _ _⟩
    case round =>
      obtain ⟨k, hk, rfl, hall, hbl⟩ := hrel
      by_cases hlt : k < ps.length
      · obtain ⟨b1, o1, rfl, hb1, hc1⟩ := hca k hlt
        obtain ⟨b2, o2, rfl, hb2, hc2⟩ := hcb' k hlt
        have hd1 := (hbl.cell (p := ⟨b1, o1 + k, none⟩) hb1).trans hc1
        have hd2 := (hbl.cell (p := ⟨b2, o2 + k, none⟩) hb2).trans hc2
        have HSk := hid fun W => implSum_any (ps.getD k ByteArray.empty) m W (HSZ.out k)
        change Hid (∀ W, Calls Try.prog 12 #[.string (ps.getD k ByteArray.empty), .int .i64 m] W fun e w' => e = .returned (.string (sumT m (ps.getD k ByteArray.empty))) ∧ Below W.heap.size W w') at HSk
        have HA : Hid (sumT m (ps.getD k ByteArray.empty) = ss.getD k ByteArray.empty → ∀ j, j < k + 1 → sumT m (ps.getD j ByteArray.empty) = ss.getD j ByteArray.empty) := fun h j hj => by
          rcases Nat.lt_succ_iff_lt_or_eq.1 hj with h' | rfl
          · exact hall j h'
          · exact h
        have HF : Hid (sumT m (ps.getD k ByteArray.empty) ≠ ss.getD k ByteArray.empty → decide (ps.map (sumT m) = ss) = false) := fun h => by
          rw [decide_eq_false_iff_not]; exact map_ne_at k hlt h
        have hlw : b2 < wr.heap.size := Nat.lt_of_lt_of_le hb2 hbl.size
        have HBL := hid hbl
        clear hall hca hcb' hc1 hc2 hbl
        generalize ps.getD k ByteArray.empty = p at *
        generalize ss.getD k ByteArray.empty = q at *
        go_wp2_with fail
        have hl0 : (0 : Int) ≤ (k : Int) := by omega
        have hl1 : (k : Int) < (ps.length : Int) := by omega
        refine wp_region_held (S := fun w' => w'.cell? ⟨b2, o2 + k, none⟩ = some (.string q)) (by kernel_rfl) ?_
        change wpAnyH _ _ _ _ _ _ _ _ (World.drew _)
        have hS0 : wr.drew.cell? ⟨b2, o2 + k, none⟩ = some (.string q) := hd2
        refine wpAnyH_take (i := 0) (v := .string p) rfl (by kernel_rfl) (by kernel_rfl) (by kernel_rfl) (fun _ _ _ h => h) (.inl ⟨rfl, fun w' hS => by go_simp⟩) hS0 ?_
        refine wpAnyH_take (i := 1) (v := .int .i64 m) rfl (by kernel_rfl) (by kernel_rfl) (by kernel_rfl) (fun _ _ _ h => h) (.inl ⟨rfl, fun w' hS => by go_simp⟩) hS0 ?_
        refine wpAnyH_take (i := 3) (v := .slice (some ⟨b2, o2, none⟩) ps.length cb) rfl (by kernel_rfl) (by kernel_rfl) (by kernel_rfl) (fun _ _ _ h => h) (.inl ⟨rfl, fun w' hS => by go_simp⟩) hS0 ?_
        refine wpAnyH_take (i := 4) (v := .int .i64 k) rfl (by kernel_rfl) (by kernel_rfl) (by kernel_rfl) (fun _ _ _ h => h) (.inl ⟨rfl, fun w' hS => by go_simp⟩) hS0 ?_
        refine wpAnyH_take (i := 5) (v := .pointer (some ⟨b2, o2 + k, none⟩)) rfl (by kernel_rfl) (by kernel_rfl) (by kernel_rfl) (fun _ _ _ h => h) (.inl ⟨rfl, fun w' hS => by go_simp⟩) hS0 ?_
        refine wpAnyH_take (i := 6) (v := .string q) rfl (by kernel_rfl) (by kernel_rfl) (by kernel_rfl) (fun _ _ _ h => h) (.inl ⟨rfl, fun w' hS => by go_simp⟩) hS0 ?_
        have hec := enters_of Try.func12 (by kernel_rfl) rfl
        refine held_one 2 (by kernel_rfl) (op_calls (f := 12) (args := #[.string p, .int .i64 m]) rfl rfl (by go_simp) (HSk.out _) ?_)
        rintro e w3 ⟨rfl, hb3⟩
        have hb3' : Below wr.heap.size wr w3 := ⟨hb3.os, hb3.tape, hb3.output, hb3.size, hb3.block⟩
        have hd3 := (hb3'.cell (p := ⟨b2, o2 + k, none⟩) hlw).trans hd2
        have HB3 := hid (HBL.out.trans (hb3'.mono HBL.out.size))
        clear hb3 hb3'
        refine ⟨_, rfl, hd3, ?_⟩
        cases hx : ((sumT m p).toList == q.toList) with
        | true =>
          have HE : Hid (sumT m p = q) := by
            show sumT m p = q
            rw [beq_text] at hx; exact of_decide_eq_true hx
          refine held_one 7 (by kernel_rfl) (op_value (v := .bool false) (w' := w3) rfl rfl (by go_simp) ⟨hd3, wpAnyH_done (by kernel_rfl) ?_ _⟩)
          clear hx
          go_simp
          go_wp2
          go_roundw
          case rel => exact ⟨k + 1, by omega, by go_num, HA.out HE.out, HB3.out⟩
          case measure => simp [intOf]; omega
        | false =>
          have HE : Hid (sumT m p ≠ q) := by
            show sumT m p ≠ q
            rw [beq_text] at hx; exact of_decide_eq_false hx
          refine held_one 7 (by kernel_rfl) (op_value (v := .bool true) (w' := w3) rfl rfl (by go_simp) ⟨hd3, wpAnyH_done (by kernel_rfl) ?_ _⟩)
          clear hx
          go_simp
          go_wp2
          go_ret
          exact ⟨by rw [HB.out, HF.out HE.out]; rfl, HB3.out⟩
      · obtain rfl : k = ps.length := by omega
        have HF : Hid (decide (ps.map (sumT m) = ss) = true) := decide_eq_true (map_eq_iff HLEN.out hall)
        have HBL := hid hbl
        clear hall hbl hca hcb'
        go_wp2
        go_ret
        exact ⟨by rw [HB.out, HF.out]; rfl, HBL.out⟩
  · have e : decide (ps.map (sumT m) = ss) = false := by
      rw [decide_eq_false_iff_not]; rintro rfl; simp at hlen
    rw [e]; clear e
    have hlen' : ¬ ((ps.length : Int) = (ss.length : Int)) := by omega
    go_enter Try.func55, Try.ntmps55
    go_wp2
    go_ret
    exact ⟨rfl, Below.refl _ _⟩
end Go.Proofs.Ytohnffbcgancfaa
