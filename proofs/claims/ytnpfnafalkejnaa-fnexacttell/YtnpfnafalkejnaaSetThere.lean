/- spec.l6There: those of a list from a text to another. -/
import Derived.Test.YtnpfnafalkejnaaOrder
import Derived.Test.YtnpfnafalkejnaaCut
namespace Go.Proofs.Ytnpfnafalkejnaa
open Go.RowKit
def goes (f t x : ByteArray) : Bool := !tlt x f && (decide (t.toList = []) || tlt x t)
theorem fromTo_step (f t : ByteArray) (ts : List ByteArray) (k : Nat) (h : k < ts.length) : fromTo f t (ts.take (k + 1)) = if goes f t (tv ts k) = true then fromTo f t (ts.take k) ++ [tv ts k] else fromTo f t (ts.take k) := by
  have e : tv ts k = ts[k] := by simp [tv, h]
  rw [e]
  unfold fromTo
  rw [List.take_succ_eq_append_getElem h, List.filter_append]
  by_cases g : goes f t ts[k] = true
  · rw [if_pos g, List.filter_cons_of_pos (by exact g), List.filter_nil]
  · rw [if_neg g, List.filter_cons_of_neg (by exact g), List.filter_nil, List.append_nil]
theorem fromTo_len (f t : ByteArray) (ts : List ByteArray) : (fromTo f t ts).length ≤ ts.length := List.length_filter_le _ _
set_option maxRecDepth 100000 in
set_option maxHeartbeats 1000000 in
theorem l6There_any (v : Value) (ts : List ByteArray) (f t : ByteArray) (w : World) (hv : Reads w v ts) (hl : ts.length ≤ 1048576) :
    Calls Try.prog 23 #[v, .string f, .string t] w fun e w' => ∃ v', e = .returned v' ∧ w'.ownsRow w.heap.size 9 1 v' (fromTo f t ts).length ((fromTo f t ts).map Value.string) ∧ Below w.heap.size w w' := by
  obtain ⟨i0, hi, hz0, hz1, hz2⟩ := info_parts Try.info9
  obtain ⟨a, ca, rfl, hca⟩ := hv.form
  have HC : Hid (∀ i, i < ts.length → ∃ b off, a = some ⟨b, off, none⟩ ∧ b < w.heap.size ∧ w.cell? ⟨b, off + i, none⟩ = some (.string (tv ts i))) := hca
  clear hca hv
  go_enter Try.func23, Try.ntmps23
  go_wp2
  go_loopw [7, 8] (fun v' i wr => ∃ k : Nat, k ≤ ts.length ∧ i = .int .i64 k ∧ wr.ownsRow w.heap.size 9 1 v' (fromTo f t (ts.take k)).length ((fromTo f t (ts.take k)).map Value.string) ∧ Below w.heap.size w wr) (fun _ i _ => ts.length - (intOf i).toNat)
  case atStart => exact ⟨0, Nat.zero_le _, rfl, World.ownsRow_made w #[] 0 (Nat.le_refl _) (by simp [maxLen]) rfl, (Below.refl _ _).alloc (Nat.le_refl _) _⟩
  case round =>
    obtain ⟨k, hk, rfl, hown, hb⟩ := hrel
    by_cases hlt : k < ts.length
    · obtain ⟨b1, o1, rfl, hb1, hc1⟩ := HC.out k hlt
      have hd1 := (hb.cell (p := ⟨b1, o1 + k, none⟩) hb1).trans hc1
      have hst := fromTo_step f t ts k hlt
      have hle : (fromTo f t (ts.take k)).length ≤ 1048576 := Nat.le_trans (fromTo_len _ _ _) (by rw [List.length_take]; omega)
      generalize tv ts k = x at *
      cases hx : tlt x f with
      | true =>
        have HN : Hid (fromTo f t (ts.take (k + 1)) = fromTo f t (ts.take k)) := hst.trans (if_neg (by simp [goes, hx]))
        unfold tlt at hx
        generalize fromTo f t (ts.take k) = ps at *
        clear hst hc1
        go_wp2
        refine ⟨⟨k + 1, by omega, by go_num, by rw [HN.out]; exact hown, hb⟩, by simp [intOf]; omega⟩
      | false =>
        by_cases ht : t.toList = []
        · have HN : Hid (fromTo f t (ts.take (k + 1)) = fromTo f t (ts.take k) ++ [x]) := hst.trans (if_pos (by simp [goes, hx, ht]))
          have et : t = ⟨#[]⟩ := text_eq (ht.trans (by simp [ByteArray.toList_eq]))
          unfold tlt at hx
          generalize fromTo f t (ts.take k) = ps at *
          subst et
          clear hst hc1
          go_wp2_with (at_builtin; refine wpList_append_own _ rfl _ _ 22 rfl w.heap.size 9 i0 (.string ⟨#[]⟩) 1 16 Try.underlying22 hi hz0 hz1 hz2 rfl (by decide) _ _ _ rfl (hown.alloc _) ⟨_, 0, none⟩ 1 1 [.string x] rfl rfl (cell_one_new _ _ _) (by simp [Value.oneCell']) (by unfold maxLen; omega) (by omega) (by have := hb.size; simp; omega) ?_; intro v' w1 hown' hgrow _)
          have hb1 : Below w.heap.size w w1 := append_below hb hown hgrow
          refine ⟨⟨k + 1, by omega, by go_num, ?_, hb1⟩, by simp [intOf]; omega⟩
          rw [HN.out]; simpa using hown'
        · have het : (t.toList == []) = false := by simpa using ht
          cases hy : tlt x t with
          | true =>
            have HN : Hid (fromTo f t (ts.take (k + 1)) = fromTo f t (ts.take k) ++ [x]) := hst.trans (if_pos (by simp [goes, hx, hy]))
            unfold tlt at hx hy
            generalize fromTo f t (ts.take k) = ps at *
            clear hst hc1
            go_wp2_with (at_builtin; refine wpList_append_own _ rfl _ _ 22 rfl w.heap.size 9 i0 (.string ⟨#[]⟩) 1 16 Try.underlying22 hi hz0 hz1 hz2 rfl (by decide) _ _ _ rfl (hown.alloc _) ⟨_, 0, none⟩ 1 1 [.string x] rfl rfl (cell_one_new _ _ _) (by simp [Value.oneCell']) (by unfold maxLen; omega) (by omega) (by have := hb.size; simp; omega) ?_; intro v' w1 hown' hgrow _)
            have hb1 : Below w.heap.size w w1 := append_below hb hown hgrow
            refine ⟨⟨k + 1, by omega, by go_num, ?_, hb1⟩, by simp [intOf]; omega⟩
            rw [HN.out]; simpa using hown'
          | false =>
            have HN : Hid (fromTo f t (ts.take (k + 1)) = fromTo f t (ts.take k)) := hst.trans (if_neg (by simp [goes, hx, hy, ht]))
            unfold tlt at hx hy
            generalize fromTo f t (ts.take k) = ps at *
            clear hst hc1
            go_wp2
            refine ⟨⟨k + 1, by omega, by go_num, by rw [HN.out]; exact hown, hb⟩, by simp [intOf]; omega⟩
    · obtain rfl : k = ts.length := by omega
      rw [List.take_length] at hown
      go_wp2
      go_ret
      exact ⟨_, rfl, hown, hb⟩
end Go.Proofs.Ytnpfnafalkejnaa
