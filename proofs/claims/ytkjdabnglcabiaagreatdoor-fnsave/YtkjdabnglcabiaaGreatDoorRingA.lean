import Derived.Test.YtkjdabnglcabiaaGreatDoorBytes
import Derived.Test.YtkjdabnglcabiaaGreatDoorStrs
import Derived.WalkSmall
/- The pieces of a text: spec.l2Ends, spec.Pieces. -/
namespace Go.Proofs.YtkjdabnglcabiaaGreatDoor
open Go.RowKit
def cutHere (p : ByteArray) : Bool := decide (fnvList (p.extract (p.size - 8) p.size).data.toList % 16 = 0)
def endsB (p : ByteArray) : Bool := if p.size < 8 then false else (decide (64 ≤ p.size) || cutHere p)
/-- What has been cut when k bytes have come: where the open piece begins, and the pieces ahead of it. -/
def cutTo (s : ByteArray) : Nat → Nat × List ByteArray
 | 0 => (0, [])
 | k + 1 => if endsB (s.extract (cutTo s k).1 (k + 1)) || decide (k + 1 = s.size) then (k + 1, (cutTo s k).2 ++ [s.extract (cutTo s k).1 (k + 1)]) else cutTo s k
def piecesOf (s : ByteArray) : List ByteArray := if 3000 < s.size then [] else (cutTo s s.size).2
theorem cutTo_le (s : ByteArray) (k : Nat) : (cutTo s k).1 ≤ k ∧ (cutTo s k).2.length ≤ k := by
 induction k with
 | zero => simp [cutTo]
 | succ k ih => unfold cutTo; split <;> first | (simp; omega) | omega
theorem piecesOf_len (s : ByteArray) : (piecesOf s).length ≤ 3000 := by
 unfold piecesOf; split
 ·simp
 ·have := (cutTo_le s s.size).2; omega
set_option maxRecDepth 100000 in
set_option maxHeartbeats 400000 in
theorem l2Ends_any (s : ByteArray) (w : World) (hs : s.size ≤ maxLen) :
  Calls Tryz.prog 55 #[.string s] w fun e w' => e = .returned (.bool (endsB s)) ∧ w' = w := by
 have hs' := hs
 unfold maxLen at hs
 by_cases h1 : s.size < 8
 ·have e : endsB s = false := by simp [endsB, h1]
  rw [e]; clear e
  go_enter Tryz.func55, Tryz.ntmps55
  go_wp2
  go_ret
  exact ⟨by simp, rfl⟩
 ·by_cases h2 : 64 ≤ s.size
  ·have e : endsB s = true := by simp [endsB, h1, h2]
   rw [e]; clear e
   go_enter Tryz.func55, Tryz.ntmps55
   go_wp2
   go_ret
   exact ⟨by simp, rfl⟩
  ·have e : endsB s = cutHere s := by simp [endsB, h1, h2]
   rw [e]; clear e
   have hc := fun W => l1Sum64_any (s.extract (s.size - 8) s.size) W (by simp [maxLen]; omega)
   have hv : 0 ≤ fnvList (s.extract (s.size - 8) s.size).data.toList := (fnvList_u64 _).1
   have HE : Hid (cutHere s = decide (fnvList (s.extract (s.size - 8) s.size).data.toList % 16 = 0)) := rfl
   generalize fnvList (s.extract (s.size - 8) s.size).data.toList = v at *
   have HC : Hid _ := hc
   clear hc
   have e8 : ((s.size : Int) - 8) = ((s.size - 8 : Nat) : Int) := by omega
   go_enter Tryz.func55, Tryz.ntmps55
   go_wp2_with (go_at_call 60; refine (HC.out _).mono ?_; rintro e w' ⟨rfl, rfl⟩)
   go_ret
   refine ⟨?_, rfl⟩
   rw [HE.out]
   have h64 : ¬ (64 ≤ (s.size : Int)) := by omega
   simp [h64]
   by_cases hz : v % 16 = 0 <;> simp [hz]
theorem cutTo_cut (s : ByteArray) (k : Nat) (h : (endsB (s.extract (cutTo s k).1 (k + 1)) || decide (k + 1 = s.size)) = true) :
  cutTo s (k + 1) = (k + 1, (cutTo s k).2 ++ [s.extract (cutTo s k).1 (k + 1)]) := by
 conv => lhs; unfold cutTo
 rw [if_pos h]
theorem cutTo_on (s : ByteArray) (k : Nat) (h : (endsB (s.extract (cutTo s k).1 (k + 1)) || decide (k + 1 = s.size)) = false) :
  cutTo s (k + 1) = cutTo s k := by
 conv => lhs; unfold cutTo
 rw [if_neg (by simp [h])]
theorem Tryz.info9 : (Tryz.prog.info? 9).map (fun i => (i.zero, i.size, i.bytes)) = some (some (.string ⟨#[]⟩), 1, 16) := by kernel_rfl
theorem append_below {w w' w1 : World} {B : Nat} {e : TypeId} {n : Nat} {xs : List Value} {v : Value} {o : Obj} (hb : Below B w w') (hown : w'.ownsRow B e 1 v n xs) (hg : (w'.alloc o).grownBy w1 v.ownBlock) (hB : B ≤ w'.heap.size := by first | exact Below.size (by assumption) | omega) : Below B w w1 :=
 (hb.alloc hB _).grown hg (by simp; omega) (fun k e => (hown.lt k e).1)
set_option maxRecDepth 100000 in
set_option maxHeartbeats 1000000 in
theorem specPieces_any (s : ByteArray) (w : World) (hs : s.size ≤ maxLen) :
  Calls Tryz.prog 27 #[.string s] w fun e w' => ∃ v, e = .returned v ∧ w'.ownsRow w.heap.size 9 1 v (piecesOf s).length ((piecesOf s).map Value.string) ∧ Below w.heap.size w w' := by
 have hs' := hs
 unfold maxLen at hs
 obtain ⟨i0, hi, hz0, hz1, hz2⟩ := info_parts Tryz.info9
 by_cases h1 : 3000 < s.size
 ·have e : piecesOf s = [] := by simp [piecesOf, h1]
  rw [e]; clear e
  go_enter Tryz.func27, Tryz.ntmps27
  go_wp2
  go_ret
  exact ⟨_, rfl, World.ownsRow_made w #[] 0 (Nat.le_refl _) (by simp [maxLen]) rfl, (Below.refl _ _).alloc (Nat.le_refl _) _⟩
 ·have e : piecesOf s = (cutTo s s.size).2 := by simp [piecesOf, h1]
  rw [e]; clear e
  go_enter Tryz.func27, Tryz.ntmps27
  go_wp2
  go_loopw [3, 4, 5] (fun v f i wr => ∃ k : Nat, k ≤ s.size ∧ i = .int .i64 ((k + 1 : Nat) : Int) ∧ f = .int .i64 ((cutTo s k).1 : Nat) ∧ wr.ownsRow w.heap.size 9 1 v (cutTo s k).2.length ((cutTo s k).2.map Value.string) ∧ Below w.heap.size w wr) (fun _ _ i _ => s.size + 1 - (intOf i).toNat)
  case atStart => exact ⟨0, Nat.zero_le _, rfl, rfl, World.ownsRow_made w #[] 0 (Nat.le_refl _) (by simp [maxLen]) rfl, (Below.refl _ _).alloc (Nat.le_refl _) _⟩
  case round =>
   obtain ⟨k, hk, rfl, rfl, hown, hb⟩ := hrel
   by_cases hlt : k < s.size
   ·have hcl := cutTo_le s k
    have hE := fun W => l2Ends_any (s.extract (cutTo s k).1 (k + 1)) W (by simp [maxLen]; omega)
    cases hc : (endsB (s.extract (cutTo s k).1 (k + 1)) || decide (k + 1 = s.size)) with
    | true =>
     have hn := cutTo_cut s k hc
     have HN : Hid (cutTo s (k + 1) = (k + 1, (cutTo s k).2 ++ [s.extract (cutTo s k).1 (k + 1)])) := hn
     clear hn
     cases hend : endsB (s.extract (cutTo s k).1 (k + 1)) with
     | true =>
      rw [hend] at hE
      have HE : Hid _ := hE
      generalize cutTo s k = c at *
      obtain ⟨f, ps⟩ := c
      clear hE hc hend
      dsimp only at *
      go_wp2_with (first | (go_at_call 55; refine (HE.out _).mono ?_; rintro e w' ⟨rfl, rfl⟩) | (at_builtin; refine wpList_append_own _ rfl _ _ 24 rfl w.heap.size 9 i0 (.string ⟨#[]⟩) 1 16 Tryz.underlying24 hi hz0 hz1 hz2 rfl (by decide) _ _ _ rfl (hown.alloc _) ⟨_, 0, none⟩ 1 1 [.string (s.extract f (k + 1))] rfl rfl (cell_one_new _ _ _) (by simp [Value.oneCell']) (by omega) (by omega) (by have := hb.size; simp; omega) ?_; intro v' w1 hown' hgrow _))
      have hb1 : Below w.heap.size w w1 := append_below hb hown hgrow
      refine ⟨⟨k + 1, by omega, by go_num, by rw [HN.out]; go_num, ?_, hb1⟩, by simp [intOf]; omega⟩
      rw [HN.out]; simpa using hown'
     | false =>
      rw [hend] at hE hc
      have HE : Hid _ := hE
      have heq : (((k : Int) + 1) == (s.size : Int)) = true := by simp at hc; simp; omega
      generalize cutTo s k = c at *
      obtain ⟨f, ps⟩ := c
      clear hE hc hend
      dsimp only at *
      go_wp2_with (first | (go_at_call 55; refine (HE.out _).mono ?_; rintro e w' ⟨rfl, rfl⟩) | (at_builtin; refine wpList_append_own _ rfl _ _ 24 rfl w.heap.size 9 i0 (.string ⟨#[]⟩) 1 16 Tryz.underlying24 hi hz0 hz1 hz2 rfl (by decide) _ _ _ rfl (hown.alloc _) ⟨_, 0, none⟩ 1 1 [.string (s.extract f (k + 1))] rfl rfl (cell_one_new _ _ _) (by simp [Value.oneCell']) (by omega) (by omega) (by have := hb.size; simp; omega) ?_; intro v' w1 hown' hgrow _))
      have hb1 : Below w.heap.size w w1 := append_below hb hown hgrow
      refine ⟨⟨k + 1, by omega, by go_num, by rw [HN.out]; go_num, ?_, hb1⟩, by simp [intOf]; omega⟩
      rw [HN.out]; simpa using hown'
    | false =>
     have hn := cutTo_on s k hc
     have HN : Hid (cutTo s (k + 1) = cutTo s k) := hn
     clear hn
     simp only [Bool.or_eq_false_iff, decide_eq_false_iff_not] at hc
     rw [hc.1] at hE
     have HE : Hid _ := hE
     have hne : (((k : Int) + 1) == (s.size : Int)) = false := by simp; omega
     generalize cutTo s k = c at *
     obtain ⟨f, ps⟩ := c
     clear hE hc
     go_wp2_with (go_at_call 55; refine (HE.out _).mono ?_; rintro e w' ⟨rfl, rfl⟩)
     exact ⟨⟨k + 1, by omega, by go_num, by rw [HN.out], by rw [HN.out]; exact hown, hb⟩, by simp [intOf]; omega⟩
   ·obtain rfl : k = s.size := by omega
    go_wp2
    go_ret
    exact ⟨_, rfl, hown, hb⟩
end Go.Proofs.YtkjdabnglcabiaaGreatDoor
/- The ring of the last bytes: add, sum, isCut. -/
namespace Go.Proofs.YtkjdabnglcabiaaGreatDoor
open Go.RowKit
theorem wrap_small (n : Int) (h0 : 0 ≤ n) (h1 : n < 1000) : IntKind.i64.wrap n = n := by
 simp [IntKind.wrap, IntKind.bits, IntKind.signed]; omega
set_option maxRecDepth 100000 in
set_option maxHeartbeats 400000 in
theorem add_any (b o : Nat) (x y : Int) (w : World) (ho : o < 8) (h8 : w.cell? ⟨b, 8, none⟩ = some (.int .i64 o)) (hy : w.cell? ⟨b, o, none⟩ = some (.int .u8 y))
  (hf : w.frozen? ⟨b, o, none⟩ = false) (hf8 : w.frozen? ⟨b, 8, none⟩ = false) :
  Calls Tryz.prog 80 #[.pointer (some ⟨b, 0, none⟩), .int .u8 x] w fun e w' => e = .returned (.tuple #[]) ∧ ∃ n, w' = ((w.setCell ⟨b, o, none⟩ (.int .u8 x)).setCell ⟨b, 8, none⟩ (.int .i64 (((o + 1) % 8 : Nat) : Int))).drewN n := by
 go_enter Tryz.func80, Tryz.ntmps80
 go_wp2
 go_region
 all_goals go_wp2
 all_goals go_end0
 all_goals exact ⟨rfl, 1, rfl⟩
set_option maxRecDepth 100000 in
set_option maxHeartbeats 400000 in
theorem rsum_any (b o : Nat) (z : Nat → Int) (w : World) (ho : o < 8) (h8 : w.cell? ⟨b, 8, none⟩ = some (.int .i64 o)) (hy : ∀ t, t < 8 → w.cell? ⟨b, t, none⟩ = some (.int .u8 (z t))) :
  Calls Tryz.prog 100 #[.pointer (some ⟨b, 0, none⟩)] w fun e w' => e = .returned (.int .u64 ((List.range 8).foldl (fun v q => fnv v (z ((o + q) % 8))) fnvStart)) ∧ ∃ n, w' = w.drewN n := by
 go_enter Tryz.func100, Tryz.ntmps100
 go_wp2
 go_loopw [3, 4, 5] (fun v _ i wr => ∃ k : Nat, k ≤ 8 ∧ i = .int .i64 k ∧ v = .int .u64 ((List.range k).foldl (fun v q => fnv v (z ((o + q) % 8))) fnvStart) ∧ ∃ n, wr = w.drewN n) (fun _ _ i _ => 8 - (intOf i).toNat)
 case atStart => exact ⟨0, by omega, rfl, rfl, 0, rfl⟩
 case round =>
  obtain ⟨k, hk, rfl, rfl, n, hw⟩ := hrel
  have HW : Hid (wr = w.drewN n) := hw
  by_cases hlt : k < 8
  ·have hz : wr.cell? ⟨b, (o + k) % 8, none⟩ = _ := (by rw [hw]; rfl : wr.cell? ⟨b, (o + k) % 8, none⟩ = w.cell? ⟨b, (o + k) % 8, none⟩).trans (hy ((o + k) % 8) (by omega))
   have h8' : wr.cell? ⟨b, 8, none⟩ = _ := (by rw [hw]; rfl : wr.cell? ⟨b, 8, none⟩ = w.cell? ⟨b, 8, none⟩).trans h8
   clear hw h8
   have HS : Hid ((List.range (k + 1)).foldl (fun v q => fnv v (z ((o + q) % 8))) fnvStart = fnv ((List.range k).foldl (fun v q => fnv v (z ((o + q) % 8))) fnvStart) (z ((o + k) % 8))) := by
    rw [List.range_succ, List.foldl_append]; rfl
   obtain ⟨t, ht⟩ : ∃ t, t = (o + k) % 8 := ⟨_, rfl⟩
   rw [← ht] at hz HS
   have ew : IntKind.i64.wrap ((o : Int) + k) = (o : Int) + k := wrap_small _ (by omega) (by omega)
   have em : ((o : Int) + k).tmod 8 = (t : Int) := by rw [Int.tmod_eq_emod_of_nonneg (by omega)]; omega
   have ht8 : t < 8 := by omega
   have hti : (t : Int) < 8 := by omega
   have ht0 : 0 ≤ (t : Int) := by omega
   clear hy ht
   generalize (List.range k).foldl (fun v q => fnv v (z ((o + q) % 8))) fnvStart = v at *
   go_wp2
   go_quiet ((go_at_call 108; exact Calls.quiet_of_same (sumStep_any _ _ _)))
   go_wp2
   go_roundw
   case rel => exact ⟨k + 1, by omega, by go_num, by rw [HS.out], n + nq, by rw [HW.out, World.drewN_drewN]⟩
   case measure => simp [intOf]; omega
  ·obtain rfl : k = 8 := by omega
   go_wp2
   go_ret
   exact ⟨rfl, n, rfl⟩
/-- The sum of a ring whose oldest byte lies at o. -/
def ringSum (z : Nat → Int) (o : Nat) : Int := (List.range 8).foldl (fun v q => fnv v (z ((o + q) % 8))) fnvStart
theorem ringSum_nn (z : Nat → Int) (o : Nat) : 0 ≤ ringSum z o := by
 unfold ringSum
 rw [show List.range 8 = List.range 7 ++ [7] from rfl, List.foldl_append]
 exact (wrap_u64 _).1
set_option maxRecDepth 100000 in
set_option maxHeartbeats 400000 in
theorem isCut_any (n : Int) (b o : Nat) (z : Nat → Int) (w : World) (ho : o < 8) (h8 : w.cell? ⟨b, 8, none⟩ = some (.int .i64 o)) (hy : ∀ t, t < 8 → w.cell? ⟨b, t, none⟩ = some (.int .u8 (z t))) :
  Calls Tryz.prog 81 #[.int .i64 n, .pointer (some ⟨b, 0, none⟩)] w fun e w' => e = .returned (.bool (decide (64 ≤ n) || (decide (8 ≤ n) && decide (ringSum z o % 16 = 0)))) ∧ ∃ m, w' = w.drewN m := by
 have hR := fun W => rsum_any b o z W ho
 have hv := ringSum_nn z o
 by_cases h1 : 64 ≤ n
 ·have e : (decide (64 ≤ n) || (decide (8 ≤ n) && decide (ringSum z o % 16 = 0))) = true := by simp [h1]
  rw [e]; clear e hR hy h8
  go_enter Tryz.func81, Tryz.ntmps81
  go_wp2
  go_ret
  exact ⟨by simp, 0, rfl⟩
 ·by_cases h2 : 8 ≤ n
  ·have e : (decide (64 ≤ n) || (decide (8 ≤ n) && decide (ringSum z o % 16 = 0))) = decide (ringSum z o % 16 = 0) := by simp [h1, h2]
   rw [e]; clear e
   have HR : Hid _ := hR w h8 hy
   clear hR hy
   change Hid (Calls Tryz.prog 100 #[.pointer (some ⟨b, 0, none⟩)] w fun e w' => e = .returned (.int .u64 (ringSum z o)) ∧ ∃ n, w' = w.drewN n) at HR
   generalize ringSum z o = v at *
   go_enter Tryz.func81, Tryz.ntmps81
   go_wp2_with (go_at_call 100; refine HR.out.mono ?_; rintro e w' ⟨rfl, m, rfl⟩)
   go_ret
   refine ⟨?_, m, rfl⟩
   simp
   by_cases hz : v % 16 = 0 <;> simp [hz]
  ·have e : (decide (64 ≤ n) || (decide (8 ≤ n) && decide (ringSum z o % 16 = 0))) = false := by simp [h1, h2]
   rw [e]; clear e hR hy h8
   go_enter Tryz.func81, Tryz.ntmps81
   go_wp2
   go_ret
   exact ⟨by simp, 0, rfl⟩
end Go.Proofs.YtkjdabnglcabiaaGreatDoor
/- The ring of a text's last bytes, as the text's bytes come. -/
namespace Go.Proofs.YtkjdabnglcabiaaGreatDoor
open Go.RowKit
def byteAt (s : ByteArray) (k : Nat) : Int := ((s.data.toList.getD k 0).toNat : Int)
theorem byteAt_get (s : ByteArray) (k : Nat) (h : k < s.size) : (s[k].toNat : Int) = byteAt s k := by
 have h' : k < s.data.toList.length := by simpa using h
 unfold byteAt
 rw [List.getD_eq_getElem?_getD, List.getElem?_eq_getElem h']; rfl
def ringZ (s : ByteArray) : Nat → Nat → Int
 | 0, _ => 0
 | k + 1, t => if k % 8 = t then byteAt s k else ringZ s k t
theorem ringZ_at (s : ByteArray) (j : Nat) : ∀ k, j < k → k ≤ j + 8 → ringZ s k (j % 8) = byteAt s j
 | 0, h, _ => by omega
 | k + 1, h, h8 => by
  unfold ringZ
  by_cases e : k = j
  ·subst e; rw [if_pos rfl]
  ·rw [if_neg (by omega)]
   exact ringZ_at s j k (by omega) (by omega)
theorem extract_list (s : ByteArray) (k : Nat) (h : k + 8 ≤ s.size) : (s.extract k (k + 8)).data.toList = (List.range 8).map fun q => s.data.toList.getD (k + q) 0 := by
 have h' : k + 8 ≤ s.data.toList.length := by simpa using h
 apply List.ext_getElem
 ·simp; omega
 ·intro i h1 h2
  simp at h2
  have hi : k + i < s.data.toList.length := by omega
  have hd : k + i < s.data.size := by simpa using hi
  simp [Array.getElem?_eq_getElem hd]
theorem foldl_same (f g : Int → Nat → Int) : ∀ (l : List Nat) (v : Int), (∀ q ∈ l, ∀ v, f v q = g v q) → l.foldl f v = l.foldl g v
 | [], _, _ => rfl
 | q :: l, v, h => by
  rw [List.foldl_cons, List.foldl_cons, h q (by simp) v]
  exact foldl_same f g l _ (fun q' h' => h q' (by simp [h']))
theorem ringSum_eq (s : ByteArray) (k : Nat) (h : k + 8 ≤ s.size) : ringSum (ringZ s (k + 8)) ((k + 8) % 8) = fnvList (s.extract k (k + 8)).data.toList := by
 unfold ringSum fnvList
 rw [extract_list s k h, List.foldl_map]
 refine foldl_same _ _ _ _ (fun q hq v => ?_)
 have hq8 : q < 8 := by simpa using hq
 have e : ((k + 8) % 8 + q) % 8 = (k + q) % 8 := by omega
 rw [e, ringZ_at s (k + q) (k + 8) (by omega) (by omega)]
 unfold byteAt
 with_reducible rfl
/-- What isCut reckons is what l2Ends asks of the open piece. -/
theorem ends_ring (s : ByteArray) (f k : Nat) (hf : f ≤ k) (hk : k ≤ s.size) :
  (decide (64 ≤ ((k - f : Nat) : Int)) || (decide (8 ≤ ((k - f : Nat) : Int)) && decide (ringSum (ringZ s k) (k % 8) % 16 = 0))) = endsB (s.extract f k) := by
 have hz : (s.extract f k).size = k - f := by simp; omega
 unfold endsB
 rw [hz]
 by_cases h8 : k - f < 8
 ·rw [if_pos h8]; simp; omega
 ·rw [if_neg h8]
  obtain ⟨m, rfl⟩ : ∃ m, k = m + 8 := ⟨k - 8, by omega⟩
  have e : ((s.extract f (m + 8)).extract (m + 8 - f - 8) (m + 8 - f)) = s.extract m (m + 8) := by
   rw [ByteArray.extract_extract]; congr 1 <;> omega
  unfold cutHere
  rw [hz, e, ringSum_eq s m hk]
  have h8' : (8 : Int) ≤ ((m + 8 - f : Nat) : Int) := by omega
  simp only [h8', decide_true, Bool.true_and]
  congr 1
  simp; omega
/-- The ring's cells when k bytes have come. -/
def ringA (s : ByteArray) (k : Nat) : Array Value := ((List.range 8).map (fun t => Value.int .u8 (ringZ s k t)) ++ [Value.int .i64 ((k % 8 : Nat) : Int)]).toArray
theorem ringA_get (s : ByteArray) (k t : Nat) (h : t < 8) : (ringA s k)[t]? = some (.int .u8 (ringZ s k t)) := by
 simp [ringA, List.getElem?_append, h]
theorem ringA_last (s : ByteArray) (k : Nat) : (ringA s k)[8]? = some (.int .i64 ((k % 8 : Nat) : Int)) := by
 simp [ringA]
theorem ringA_succ (s : ByteArray) (k : Nat) : ((ringA s k).setIfInBounds (k % 8) (.int .u8 (byteAt s k))).setIfInBounds 8 (.int .i64 ((((k % 8) + 1) % 8 : Nat) : Int)) = ringA s (k + 1) := by
 apply Array.ext
 ·simp [ringA]
 ·intro t h1 h2
  have ht : t < 9 := by simpa [ringA] using h2
  have hz : (ringA s k).size = 9 := by simp [ringA]
  by_cases e8 : t = 8
  ·subst e8
   rw [Array.getElem_setIfInBounds_self]
   have := ringA_last s (k + 1)
   rw [Array.getElem?_eq_getElem h2] at this
   rw [Option.some.inj this]
   congr 2; omega
  ·rw [Array.getElem_setIfInBounds_ne (by simp [hz]; omega) (by omega)]
   have h3 := ringA_get s (k + 1) t (by omega)
   rw [Array.getElem?_eq_getElem h2] at h3
   rw [Option.some.inj h3]
   by_cases ek : k % 8 = t
   ·subst ek
    rw [Array.getElem_setIfInBounds_self]
    simp [ringZ]
   ·rw [Array.getElem_setIfInBounds_ne (by simp [hz]; omega) ek]
    have h4 := ringA_get s k t (by omega)
    rw [Array.getElem?_eq_getElem (by omega)] at h4
    rw [Option.some.inj h4]
    simp [ringZ, ek]
end Go.Proofs.YtkjdabnglcabiaaGreatDoor
