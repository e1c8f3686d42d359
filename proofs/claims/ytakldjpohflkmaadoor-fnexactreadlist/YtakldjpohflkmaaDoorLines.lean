/- spec.l3Cut: the lines of a text. -/
import Derived.Test.YtakldjpohflkmaaDoorCut
import Derived.Test.YtakldjpohflkmaaDoorIter
namespace Go.Proofs.YtakldjpohflkmaaDoor
open Go.RowKit
/-- What has been cut when k bytes have come: where the open line begins, and the lines ahead of it. -/
def linesTo (s : ByteArray) : Nat → Nat × List ByteArray
  | 0 => (0, [])
  | k + 1 => if s.data.toList.getD k 0 = 10 then (k + 1, (linesTo s k).2 ++ [s.extract (linesTo s k).1 k]) else linesTo s k
/-- The lines of a text; the last is what lies behind the last newline. -/
def linesOf (s : ByteArray) : List ByteArray := (linesTo s s.size).2 ++ [s.extract (linesTo s s.size).1 s.size]
theorem linesTo_le (s : ByteArray) (k : Nat) : (linesTo s k).1 ≤ k ∧ (linesTo s k).2.length ≤ k := by
  induction k with
  | zero => simp [linesTo]
  | succ k ih => unfold linesTo; split <;> first | (simp; omega) | omega
theorem linesTo_cut (s : ByteArray) (k : Nat) (h : s.data.toList.getD k 0 = 10) : linesTo s (k + 1) = (k + 1, (linesTo s k).2 ++ [s.extract (linesTo s k).1 k]) := by
  conv => lhs; unfold linesTo
  rw [if_pos h]
theorem linesTo_on (s : ByteArray) (k : Nat) (h : ¬ s.data.toList.getD k 0 = 10) : linesTo s (k + 1) = linesTo s k := by
  conv => lhs; unfold linesTo
  rw [if_neg h]
theorem getD_at (s : ByteArray) (k : Nat) (h : k < s.size) : s.data.toList.getD k 0 = s[k] := by
  have hk : k < s.data.toList.length := by rw [Array.length_toList]; exact h
  rw [List.getD_eq_getElem?_getD, List.getElem?_eq_getElem hk]
  rfl
set_option maxRecDepth 100000 in
set_option maxHeartbeats 1000000 in
theorem l3Cut_any (s : ByteArray) (w : World) (hs : s.size ≤ 1048576) :
    Calls Tryd.prog 25 #[.string s, .int .u8 10] w fun e w' => ∃ v, e = .returned v ∧ w'.ownsRow w.heap.size 9 1 v (linesOf s).length ((linesOf s).map Value.string) ∧ Below w.heap.size w w' := by
  obtain ⟨i0, hi, hz0, hz1, hz2⟩ := info_parts Tryd.info9
  go_enter Tryd.func25, Tryd.ntmps25
  go_wp2
  go_loopw [5, 6, 7] (fun v f i wr => ∃ k : Nat, k ≤ s.size ∧ i = .int .i64 (k : Int) ∧ f = .int .i64 ((linesTo s k).1 : Nat) ∧ wr.ownsRow w.heap.size 9 1 v (linesTo s k).2.length ((linesTo s k).2.map Value.string) ∧ Below w.heap.size w wr) (fun _ _ i _ => s.size - (intOf i).toNat)
  case atStart => exact ⟨0, Nat.zero_le _, rfl, rfl, World.ownsRow_made w #[] 0 (Nat.le_refl _) (by simp [maxLen]) rfl, (Below.refl _ _).alloc (Nat.le_refl _) _⟩
  case round =>
    obtain ⟨k, hk, rfl, rfl, hown, hb⟩ := hrel
    have hcl := linesTo_le s k
    by_cases hlt : k < s.size
    · have hk0 : (0 : Int) ≤ (k : Int) := by omega
      have hk1 : (k : Int) < (s.size : Int) := by omega
      by_cases h10 : s[k] = 10
      · have HN := hid (linesTo_cut s k (by rw [getD_at s k hlt]; exact h10))
        have h10' : (((s[k].toNat : Nat) : Int) == 10) = true := by rw [h10]; rfl
        generalize linesTo s k = c at *
        obtain ⟨f, ps⟩ := c
        clear h10
        dsimp only at *
        go_wp2_with (at_builtin; refine wpList_append_own _ rfl _ _ 22 rfl w.heap.size 9 i0 (.string ⟨#[]⟩) 1 16 Tryd.underlying22 hi hz0 hz1 hz2 rfl (by decide) _ _ _ rfl (hown.alloc _) ⟨_, 0, none⟩ 1 1 [.string (s.extract f k)] rfl rfl (cell_one_new _ _ _) (by simp [Value.oneCell']) (by unfold maxLen; omega) (by omega) (by have := hb.size; simp; omega) ?_; intro v' w1 hown' hgrow _)
        have hb1 : Below w.heap.size w w1 := append_below hb hown hgrow
        refine ⟨⟨k + 1, by omega, by go_num, by rw [HN.out]; go_num, ?_, hb1⟩, by simp [intOf]; omega⟩
        rw [HN.out]; simpa using hown'
      · have HN := hid (linesTo_on s k (by rw [getD_at s k hlt]; exact h10))
        have h10' : (((s[k].toNat : Nat) : Int) == 10) = false := by
          have : s[k].toNat ≠ 10 := fun e => h10 (UInt8.toNat_inj.1 e)
          simp; omega
        generalize linesTo s k = c at *
        obtain ⟨f, ps⟩ := c
        clear h10
        go_wp2
        exact ⟨⟨k + 1, by omega, by go_num, by rw [HN.out], by rw [HN.out]; exact hown, hb⟩, by simp [intOf]; omega⟩
    · obtain rfl : k = s.size := by omega
      have HL : Hid (linesOf s = (linesTo s s.size).2 ++ [s.extract (linesTo s s.size).1 s.size]) := rfl
      generalize linesTo s s.size = c at *
      obtain ⟨f, ps⟩ := c
      dsimp only at *
      go_wp2_with (at_builtin; refine wpList_append_own _ rfl _ _ 22 rfl w.heap.size 9 i0 (.string ⟨#[]⟩) 1 16 Tryd.underlying22 hi hz0 hz1 hz2 rfl (by decide) _ _ _ rfl (hown.alloc _) ⟨_, 0, none⟩ 1 1 [.string (s.extract f s.size)] rfl rfl (cell_one_new _ _ _) (by simp [Value.oneCell']) (by unfold maxLen; omega) (by omega) (by have := hb.size; simp; omega) ?_; intro v' w1 hown' hgrow _)
      have hb1 : Below w.heap.size w w1 := append_below hb hown hgrow
      go_ret
      exact ⟨_, rfl, by rw [HL.out]; simpa using hown', hb1⟩
end Go.Proofs.YtakldjpohflkmaaDoor
