/- The pieces of a text: spec.l2Ends, spec.Pieces. -/
import Derived.Test.YtooodilbehnnfaaDoorBytes
import Derived.Test.YtooodilbehnnfaaDoorStrs
namespace Go.Proofs.YtooodilbehnnfaaDoor
open Go.RowKit
def cutHere (p : ByteArray) : Bool := decide (fnvList (p.extract (p.size - 8) p.size).data.toList % 16 = 0)
def endsB (p : ByteArray) : Bool := if p.size < 8 then false else (decide (64 ≤ p.size) || cutHere p)
/-- What has been cut when k bytes have come: where the open piece begins, and the pieces ahead of it. -/
def cutTo (s : ByteArray) : Nat → Nat × List ByteArray
  | 0 => (0, [])
  | k + 1 => if endsB (s.extract (cutTo s k).1 (k + 1)) || decide (k + 1 = s.size) then (k + 1, (cutTo s k).2 ++ [s.extract (cutTo s k).1 (k + 1)]) else cutTo s k
def piecesOf (s : ByteArray) : List ByteArray := if 3000 < s.size then [] else (cutTo s s.size).2
theorem cutTo_le (s : ByteArray) (k : Nat) : (cutTo s k).1 ≤ k ∧ (cutTo s k).2.length ≤ k := by
  induction k with
  | zero => simp [cutTo]
  | succ k ih => unfold cutTo; split <;> first | (simp; omega) | omega
theorem piecesOf_len (s : ByteArray) : (piecesOf s).length ≤ 3000 := by
  unfold piecesOf; split
  · simp
  · have := (cutTo_le s s.size).2; omega
set_option maxRecDepth 100000 in
set_option maxHeartbeats 400000 in
theorem l2Ends_any (s : ByteArray) (w : World) (hs : s.size ≤ maxLen) :
    Calls Tryd.prog 51 #[.string s] w fun e w' => e = .returned (.bool (endsB s)) ∧ w' = w := by
  have hs' := hs
  unfold maxLen at hs
  by_cases h1 : s.size < 8
  · have e : endsB s = false := by simp [endsB, h1]
    rw [e]; clear e
    go_enter Tryd.func51, Tryd.ntmps51
    go_wp2
    go_ret
    exact ⟨by simp, rfl⟩
  · by_cases h2 : 64 ≤ s.size
    · have e : endsB s = true := by simp [endsB, h1, h2]
      rw [e]; clear e
      go_enter Tryd.func51, Tryd.ntmps51
      go_wp2
      go_ret
      exact ⟨by simp, rfl⟩
    · have e : endsB s = cutHere s := by simp [endsB, h1, h2]
      rw [e]; clear e
      have hc := fun W => l1Sum64_any (s.extract (s.size - 8) s.size) W (by simp [maxLen]; omega)
      have hv : 0 ≤ fnvList (s.extract (s.size - 8) s.size).data.toList := (fnvList_u64 _).1
      have HE : Hid (cutHere s = decide (fnvList (s.extract (s.size - 8) s.size).data.toList % 16 = 0)) := rfl
      generalize fnvList (s.extract (s.size - 8) s.size).data.toList = v at *
      have HC : Hid _ := hc
      clear hc
      have e8 : ((s.size : Int) - 8) = ((s.size - 8 : Nat) : Int) := by omega
      go_enter Tryd.func51, Tryd.ntmps51
      go_wp2_with (go_at_call 47; refine (HC.out _).mono ?_; rintro e w' ⟨rfl, rfl⟩)
      go_ret
      refine ⟨?_, rfl⟩
      rw [HE.out]
      have h64 : ¬ (64 ≤ (s.size : Int)) := by omega
      simp [h64]
      by_cases hz : v % 16 = 0 <;> simp [hz]
theorem cutTo_cut (s : ByteArray) (k : Nat) (h : (endsB (s.extract (cutTo s k).1 (k + 1)) || decide (k + 1 = s.size)) = true) :
    cutTo s (k + 1) = (k + 1, (cutTo s k).2 ++ [s.extract (cutTo s k).1 (k + 1)]) := by
  conv => lhs; unfold cutTo
  rw [if_pos h]
theorem cutTo_on (s : ByteArray) (k : Nat) (h : (endsB (s.extract (cutTo s k).1 (k + 1)) || decide (k + 1 = s.size)) = false) :
    cutTo s (k + 1) = cutTo s k := by
  conv => lhs; unfold cutTo
  rw [if_neg (by simp [h])]
theorem Tryd.info9 : (Tryd.prog.info? 9).map (fun i => (i.zero, i.size, i.bytes)) = some (some (.string ⟨#[]⟩), 1, 16) := by kernel_rfl
theorem append_below {w w' w1 : World} {B : Nat} {e : TypeId} {n : Nat} {xs : List Value} {v : Value} {o : Obj} (hb : Below B w w') (hown : w'.ownsRow B e 1 v n xs) (hg : (w'.alloc o).grownBy w1 v.ownBlock) (hB : B ≤ w'.heap.size := by first | exact Below.size (by assumption) | omega) : Below B w w1 :=
  (hb.alloc hB _).grown hg (by simp; omega) (fun k e => (hown.lt k e).1)
set_option maxRecDepth 100000 in
set_option maxHeartbeats 1000000 in
theorem specPieces_any (s : ByteArray) (w : World) (hs : s.size ≤ maxLen) :
    Calls Tryd.prog 36 #[.string s] w fun e w' => ∃ v, e = .returned v ∧ w'.ownsRow w.heap.size 9 1 v (piecesOf s).length ((piecesOf s).map Value.string) ∧ Below w.heap.size w w' := by
  have hs' := hs
  unfold maxLen at hs
  obtain ⟨i0, hi, hz0, hz1, hz2⟩ := info_parts Tryd.info9
  by_cases h1 : 3000 < s.size
  · have e : piecesOf s = [] := by simp [piecesOf, h1]
    rw [e]; clear e
    go_enter Tryd.func36, Tryd.ntmps36
    go_wp2
    go_ret
    exact ⟨_, rfl, World.ownsRow_made w #[] 0 (Nat.le_refl _) (by simp [maxLen]) rfl, (Below.refl _ _).alloc (Nat.le_refl _) _⟩
  · have e : piecesOf s = (cutTo s s.size).2 := by simp [piecesOf, h1]
    rw [e]; clear e
    go_enter Tryd.func36, Tryd.ntmps36
    go_wp2
    go_loopw [3, 4, 5] (fun v f i wr => ∃ k : Nat, k ≤ s.size ∧ i = .int .i64 ((k + 1 : Nat) : Int) ∧ f = .int .i64 ((cutTo s k).1 : Nat) ∧ wr.ownsRow w.heap.size 9 1 v (cutTo s k).2.length ((cutTo s k).2.map Value.string) ∧ Below w.heap.size w wr) (fun _ _ i _ => s.size + 1 - (intOf i).toNat)
    case atStart => exact ⟨0, Nat.zero_le _, rfl, rfl, World.ownsRow_made w #[] 0 (Nat.le_refl _) (by simp [maxLen]) rfl, (Below.refl _ _).alloc (Nat.le_refl _) _⟩
    case round =>
      obtain ⟨k, hk, rfl, rfl, hown, hb⟩ := hrel
      by_cases hlt : k < s.size
      · have hcl := cutTo_le s k
        have hE := fun W => l2Ends_any (s.extract (cutTo s k).1 (k + 1)) W (by simp [maxLen]; omega)
        cases hc : (endsB (s.extract (cutTo s k).1 (k + 1)) || decide (k + 1 = s.size)) with
        | true =>
          have hn := cutTo_cut s k hc
          have HN : Hid (cutTo s (k + 1) = (k + 1, (cutTo s k).2 ++ [s.extract (cutTo s k).1 (k + 1)])) := hn
          clear hn
          cases hend : endsB (s.extract (cutTo s k).1 (k + 1)) with
          | true =>
            rw [hend] at hE
            have HE : Hid _ := hE
            generalize cutTo s k = c at *
            obtain ⟨f, ps⟩ := c
            clear hE hc hend
            dsimp only at *
            go_wp2_with (first | (go_at_call 51; refine (HE.out _).mono ?_; rintro e w' ⟨rfl, rfl⟩) | (at_builtin; refine wpList_append_own _ rfl _ _ 22 rfl w.heap.size 9 i0 (.string ⟨#[]⟩) 1 16 Tryd.underlying22 hi hz0 hz1 hz2 rfl (by decide) _ _ _ rfl (hown.alloc _) ⟨_, 0, none⟩ 1 1 [.string (s.extract f (k + 1))] rfl rfl (cell_one_new _ _ _) (by simp [Value.oneCell']) (by omega) (by omega) (by have := hb.size; simp; omega) ?_; intro v' w1 hown' hgrow _))
            have hb1 : Below w.heap.size w w1 := append_below hb hown hgrow
            refine ⟨⟨k + 1, by omega, by go_num, by rw [HN.out]; go_num, ?_, hb1⟩, by simp [intOf]; omega⟩
            rw [HN.out]; simpa using hown'
          | false =>
            rw [hend] at hE hc
            have HE : Hid _ := hE
            have heq : (((k : Int) + 1) == (s.size : Int)) = true := by simp at hc; simp; omega
            generalize cutTo s k = c at *
            obtain ⟨f, ps⟩ := c
            clear hE hc hend
            dsimp only at *
            go_wp2_with (first | (go_at_call 51; refine (HE.out _).mono ?_; rintro e w' ⟨rfl, rfl⟩) | (at_builtin; refine wpList_append_own _ rfl _ _ 22 rfl w.heap.size 9 i0 (.string ⟨#[]⟩) 1 16 Tryd.underlying22 hi hz0 hz1 hz2 rfl (by decide) _ _ _ rfl (hown.alloc _) ⟨_, 0, none⟩ 1 1 [.string (s.extract f (k + 1))] rfl rfl (cell_one_new _ _ _) (by simp [Value.oneCell']) (by omega) (by omega) (by have := hb.size; simp; omega) ?_; intro v' w1 hown' hgrow _))
            have hb1 : Below w.heap.size w w1 := append_below hb hown hgrow
            refine ⟨⟨k + 1, by omega, by go_num, by rw [HN.out]; go_num, ?_, hb1⟩, by simp [intOf]; omega⟩
            rw [HN.out]; simpa using hown'
        | false =>
          have hn := cutTo_on s k hc
          have HN : Hid (cutTo s (k + 1) = cutTo s k) := hn
          clear hn
          simp only [Bool.or_eq_false_iff, decide_eq_false_iff_not] at hc
          rw [hc.1] at hE
          have HE : Hid _ := hE
          have hne : (((k : Int) + 1) == (s.size : Int)) = false := by simp; omega
          generalize cutTo s k = c at *
          obtain ⟨f, ps⟩ := c
          clear hE hc
          go_wp2_with (go_at_call 51; refine (HE.out _).mono ?_; rintro e w' ⟨rfl, rfl⟩)
          exact ⟨⟨k + 1, by omega, by go_num, by rw [HN.out], by rw [HN.out]; exact hown, hb⟩, by simp [intOf]; omega⟩
      · obtain rfl : k = s.size := by omega
        go_wp2
        go_ret
        exact ⟨_, rfl, hown, hb⟩
end Go.Proofs.YtooodilbehnnfaaDoor
