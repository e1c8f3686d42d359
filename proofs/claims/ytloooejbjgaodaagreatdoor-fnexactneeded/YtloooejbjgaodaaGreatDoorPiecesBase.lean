import Derived.Test.YtloooejbjgaodaaGreatDoorBytes
import Derived.Test.YtloooejbjgaodaaGreatDoorStrs
import Derived.WalkSmall
import Derived.RangeFuncCalls
/- The pieces of a text: spec.l2Ends, spec.Pieces. -/
namespace Go.Proofs.YtloooejbjgaodaaGreatDoor
open Go.RowKit
def cutHere (p : ByteArray) : Bool := decide (fnvList (p.extract (p.size - 8) p.size).data.toList % 16 = 0)
def endsB (p : ByteArray) : Bool := if p.size < 8 then false else (decide (64 ≤ p.size) || cutHere p)
/-- What has been cut when k bytes have come: where the open piece begins, and the pieces ahead of it. -/
def cutTo (s : ByteArray) : Nat → Nat × List ByteArray
  | 0 => (0, [])
  | k + 1 => if endsB (s.extract (cutTo s k).1 (k + 1)) || decide (k + 1 = s.size) then (k + 1, (cutTo s k).2 ++ [s.extract (cutTo s k).1 (k + 1)]) else cutTo s k
def piecesOf (s : ByteArray) : List ByteArray := if 3000 < s.size then [] else (cutTo s s.size).2
theorem cutTo_le (s : ByteArray) (k : Nat) : (cutTo s k).1 ≤ k ∧ (cutTo s k).2.length ≤ k := by
  induction k with
  | zero => simp [cutTo]
  | succ k ih => unfold cutTo; split <;> first | (simp; omega) | omega
theorem piecesOf_len (s : ByteArray) : (piecesOf s).length ≤ 3000 := by
  unfold piecesOf; split
  · simp
  · have := (cutTo_le s s.size).2; omega
set_option maxRecDepth 100000 in
set_option maxHeartbeats 400000 in
theorem l2Ends_any (s : ByteArray) (w : World) (hs : s.size ≤ maxLen) :
    Calls Tryz.prog 174 #[.string s] w fun e w' => e = .returned (.bool (endsB s)) ∧ w' = w := by
  have hs' := hs
  unfold maxLen at hs
  by_cases h1 : s.size < 8
  · have e : endsB s = false := by simp [endsB, h1]
    rw [e]; clear e
    go_enter Tryz.func174, Tryz.ntmps174
    go_wp2
    go_ret
    exact ⟨by simp, rfl⟩
  · by_cases h2 : 64 ≤ s.size
    · have e : endsB s = true := by simp [endsB, h1, h2]
      rw [e]; clear e
      go_enter Tryz.func174, Tryz.ntmps174
      go_wp2
      go_ret
      exact ⟨by simp, rfl⟩
    · have e : endsB s = cutHere s := by simp [endsB, h1, h2]
      rw [e]; clear e
      have hc := fun W => l1Sum64_any (s.extract (s.size - 8) s.size) W (by simp [maxLen]; omega)
      have hv : 0 ≤ fnvList (s.extract (s.size - 8) s.size).data.toList := (fnvList_u64 _).1
      have HE : Hid (cutHere s = decide (fnvList (s.extract (s.size - 8) s.size).data.toList % 16 = 0)) := rfl
      generalize fnvList (s.extract (s.size - 8) s.size).data.toList = v at *
      have HC : Hid _ := hc
      clear hc
      have e8 : ((s.size : Int) - 8) = ((s.size - 8 : Nat) : Int) := by omega
      go_enter Tryz.func174, Tryz.ntmps174
      go_wp2_with (go_at_call 101; refine (HC.out _).mono ?_; rintro e w' ⟨rfl, rfl⟩)
      go_ret
      refine ⟨?_, rfl⟩
      rw [HE.out]
      have h64 : ¬ (64 ≤ (s.size : Int)) := by omega
      simp [h64]
      by_cases hz : v % 16 = 0 <;> simp [hz]
theorem cutTo_cut (s : ByteArray) (k : Nat) (h : (endsB (s.extract (cutTo s k).1 (k + 1)) || decide (k + 1 = s.size)) = true) :
    cutTo s (k + 1) = (k + 1, (cutTo s k).2 ++ [s.extract (cutTo s k).1 (k + 1)]) := by
  conv => lhs; unfold cutTo
  rw [if_pos h]
theorem cutTo_on (s : ByteArray) (k : Nat) (h : (endsB (s.extract (cutTo s k).1 (k + 1)) || decide (k + 1 = s.size)) = false) :
    cutTo s (k + 1) = cutTo s k := by
  conv => lhs; unfold cutTo
  rw [if_neg (by simp [h])]
theorem Tryz.info9 : (Tryz.prog.info? 9).map (fun i => (i.zero, i.size, i.bytes)) = some (some (.string ⟨#[]⟩), 1, 16) := by kernel_rfl
theorem append_below {w w' w1 : World} {B : Nat} {e : TypeId} {n : Nat} {xs : List Value} {v : Value} {o : Obj} (hb : Below B w w') (hown : w'.ownsRow B e 1 v n xs) (hg : (w'.alloc o).grownBy w1 v.ownBlock) (hB : B ≤ w'.heap.size := by first | exact Below.size (by assumption) | omega) : Below B w w1 :=
  (hb.alloc hB _).grown hg (by simp; omega) (fun k e => (hown.lt k e).1)
set_option maxRecDepth 100000 in
set_option maxHeartbeats 1000000 in
theorem specPieces_any (s : ByteArray) (w : World) (hs : s.size ≤ maxLen) :
    Calls Tryz.prog 152 #[.string s] w fun e w' => ∃ v, e = .returned v ∧ w'.ownsRow w.heap.size 9 1 v (piecesOf s).length ((piecesOf s).map Value.string) ∧ Below w.heap.size w w' := by
  have hs' := hs
  unfold maxLen at hs
  obtain ⟨i0, hi, hz0, hz1, hz2⟩ := info_parts Tryz.info9
  by_cases h1 : 3000 < s.size
  · have e : piecesOf s = [] := by simp [piecesOf, h1]
    rw [e]; clear e
    go_enter Tryz.func152, Tryz.ntmps152
    go_wp2
    go_ret
    exact ⟨_, rfl, World.ownsRow_made w #[] 0 (Nat.le_refl _) (by simp [maxLen]) rfl, (Below.refl _ _).alloc (Nat.le_refl _) _⟩
  · have e : piecesOf s = (cutTo s s.size).2 := by simp [piecesOf, h1]
    rw [e]; clear e
    go_enter Tryz.func152, Tryz.ntmps152
    go_wp2
    go_loopw [3, 4, 5] (fun v f i wr => ∃ k : Nat, k ≤ s.size ∧ i = .int .i64 ((k + 1 : Nat) : Int) ∧ f = .int .i64 ((cutTo s k).1 : Nat) ∧ wr.ownsRow w.heap.size 9 1 v (cutTo s k).2.length ((cutTo s k).2.map Value.string) ∧ Below w.heap.size w wr) (fun _ _ i _ => s.size + 1 - (intOf i).toNat)
    case atStart => exact ⟨0, Nat.zero_le _, rfl, rfl, World.ownsRow_made w #[] 0 (Nat.le_refl _) (by simp [maxLen]) rfl, (Below.refl _ _).alloc (Nat.le_refl _) _⟩
    case round =>
      obtain ⟨k, hk, rfl, rfl, hown, hb⟩ := hrel
      by_cases hlt : k < s.size
      · have hcl := cutTo_le s k
        have hE := fun W => l2Ends_any (s.extract (cutTo s k).1 (k + 1)) W (by simp [maxLen]; omega)
        cases hc : (endsB (s.extract (cutTo s k).1 (k + 1)) || decide (k + 1 = s.size)) with
        | true =>
          have hn := cutTo_cut s k hc
          have HN : Hid (cutTo s (k + 1) = (k + 1, (cutTo s k).2 ++ [s.extract (cutTo s k).1 (k + 1)])) := hn
          clear hn
          cases hend : endsB (s.extract (cutTo s k).1 (k + 1)) with
          | true =>
            rw [hend] at hE
            have HE : Hid _ := hE
            generalize cutTo s k = c at *
            obtain ⟨f, ps⟩ := c
            clear hE hc hend
            dsimp only at *
            go_wp2_with (first | (go_at_call 174; refine (HE.out _).mono ?_; rintro e w' ⟨rfl, rfl⟩) | (at_builtin; refine wpList_append_own _ rfl _ _ 23 rfl w.heap.size 9 i0 (.string ⟨#[]⟩) 1 16 Tryz.underlying23 hi hz0 hz1 hz2 rfl (by decide) _ _ _ rfl (hown.alloc _) ⟨_, 0, none⟩ 1 1 [.string (s.extract f (k + 1))] rfl rfl (cell_one_new _ _ _) (by simp [Value.oneCell']) (by omega) (by omega) (by have := hb.size; simp; omega) ?_; intro v' w1 hown' hgrow _))
            have hb1 : Below w.heap.size w w1 := append_below hb hown hgrow
            refine ⟨⟨k + 1, by omega, by go_num, by rw [HN.out]; go_num, ?_, hb1⟩, by simp [intOf]; omega⟩
            rw [HN.out]; simpa using hown'
          | false =>
            rw [hend] at hE hc
            have HE : Hid _ := hE
            have heq : (((k : Int) + 1) == (s.size : Int)) = true := by simp at hc; simp; omega
            generalize cutTo s k = c at *
            obtain ⟨f, ps⟩ := c
            clear hE hc hend
            dsimp only at *
            go_wp2_with (first | (go_at_call 174; refine (HE.out _).mono ?_; rintro e w' ⟨rfl, rfl⟩) | (at_builtin; refine wpList_append_own _ rfl _ _ 23 rfl w.heap.size 9 i0 (.string ⟨#[]⟩) 1 16 Tryz.underlying23 hi hz0 hz1 hz2 rfl (by decide) _ _ _ rfl (hown.alloc _) ⟨_, 0, none⟩ 1 1 [.string (s.extract f (k + 1))] rfl rfl (cell_one_new _ _ _) (by simp [Value.oneCell']) (by omega) (by omega) (by have := hb.size; simp; omega) ?_; intro v' w1 hown' hgrow _))
            have hb1 : Below w.heap.size w w1 := append_below hb hown hgrow
            refine ⟨⟨k + 1, by omega, by go_num, by rw [HN.out]; go_num, ?_, hb1⟩, by simp [intOf]; omega⟩
            rw [HN.out]; simpa using hown'
        | false =>
          have hn := cutTo_on s k hc
          have HN : Hid (cutTo s (k + 1) = cutTo s k) := hn
          clear hn
          simp only [Bool.or_eq_false_iff, decide_eq_false_iff_not] at hc
          rw [hc.1] at hE
          have HE : Hid _ := hE
          have hne : (((k : Int) + 1) == (s.size : Int)) = false := by simp; omega
          generalize cutTo s k = c at *
          obtain ⟨f, ps⟩ := c
          clear hE hc
          go_wp2_with (go_at_call 174; refine (HE.out _).mono ?_; rintro e w' ⟨rfl, rfl⟩)
          exact ⟨⟨k + 1, by omega, by go_num, by rw [HN.out], by rw [HN.out]; exact hown, hb⟩, by simp [intOf]; omega⟩
      · obtain rfl : k = s.size := by omega
        go_wp2
        go_ret
        exact ⟨_, rfl, hown, hb⟩
end Go.Proofs.YtloooejbjgaodaaGreatDoor
/- The ring of the last bytes: add, sum, isCut. -/
namespace Go.Proofs.YtloooejbjgaodaaGreatDoor
open Go.RowKit
theorem wrap_small (n : Int) (h0 : 0 ≤ n) (h1 : n < 1000) : IntKind.i64.wrap n = n := by
  simp [IntKind.wrap, IntKind.bits, IntKind.signed]; omega
set_option maxRecDepth 100000 in
set_option maxHeartbeats 400000 in
theorem add_any (b o : Nat) (x y : Int) (w : World) (ho : o < 8) (h8 : w.cell? ⟨b, 8, none⟩ = some (.int .i64 o)) (hy : w.cell? ⟨b, o, none⟩ = some (.int .u8 y))
    (hf : w.frozen? ⟨b, o, none⟩ = false) (hf8 : w.frozen? ⟨b, 8, none⟩ = false) :
    Calls Tryz.prog 281 #[.pointer (some ⟨b, 0, none⟩), .int .u8 x] w fun e w' => e = .returned (.tuple #[]) ∧ ∃ n, w' = ((w.setCell ⟨b, o, none⟩ (.int .u8 x)).setCell ⟨b, 8, none⟩ (.int .i64 (((o + 1) % 8 : Nat) : Int))).drewN n := by
  go_enter Tryz.func281, Tryz.ntmps281
  go_wp2
  go_region
  all_goals go_wp2
  all_goals go_end0
  all_goals exact ⟨rfl, 1, rfl⟩
set_option maxRecDepth 100000 in
set_option maxHeartbeats 400000 in
theorem rsum_any (b o : Nat) (z : Nat → Int) (w : World) (ho : o < 8) (h8 : w.cell? ⟨b, 8, none⟩ = some (.int .i64 o)) (hy : ∀ t, t < 8 → w.cell? ⟨b, t, none⟩ = some (.int .u8 (z t))) :
    Calls Tryz.prog 283 #[.pointer (some ⟨b, 0, none⟩)] w fun e w' => e = .returned (.int .u64 ((List.range 8).foldl (fun v q => fnv v (z ((o + q) % 8))) fnvStart)) ∧ ∃ n, w' = w.drewN n := by
  go_enter Tryz.func283, Tryz.ntmps283
  go_wp2
  go_loopw [3, 4, 5] (fun v _ i wr => ∃ k : Nat, k ≤ 8 ∧ i = .int .i64 k ∧ v = .int .u64 ((List.range k).foldl (fun v q => fnv v (z ((o + q) % 8))) fnvStart) ∧ ∃ n, wr = w.drewN n) (fun _ _ i _ => 8 - (intOf i).toNat)
  case atStart => exact ⟨0, by omega, rfl, rfl, 0, rfl⟩
  case round =>
    obtain ⟨k, hk, rfl, rfl, n, hw⟩ := hrel
    have HW : Hid (wr = w.drewN n) := hw
    by_cases hlt : k < 8
    · have hz : wr.cell? ⟨b, (o + k) % 8, none⟩ = _ := (by rw [hw]; rfl : wr.cell? ⟨b, (o + k) % 8, none⟩ = w.cell? ⟨b, (o + k) % 8, none⟩).trans (hy ((o + k) % 8) (by omega))
      have h8' : wr.cell? ⟨b, 8, none⟩ = _ := (by rw [hw]; rfl : wr.cell? ⟨b, 8, none⟩ = w.cell? ⟨b, 8, none⟩).trans h8
      clear hw h8
      have HS : Hid ((List.range (k + 1)).foldl (fun v q => fnv v (z ((o + q) % 8))) fnvStart = fnv ((List.range k).foldl (fun v q => fnv v (z ((o + q) % 8))) fnvStart) (z ((o + k) % 8))) := by
        rw [List.range_succ, List.foldl_append]; rfl
      obtain ⟨t, ht⟩ : ∃ t, t = (o + k) % 8 := ⟨_, rfl⟩
      rw [← ht] at hz HS
      have ew : IntKind.i64.wrap ((o : Int) + k) = (o : Int) + k := wrap_small _ (by omega) (by omega)
      have em : ((o : Int) + k).tmod 8 = (t : Int) := by rw [Int.tmod_eq_emod_of_nonneg (by omega)]; omega
      have ht8 : t < 8 := by omega
      have hti : (t : Int) < 8 := by omega
      have ht0 : 0 ≤ (t : Int) := by omega
      clear hy ht
      generalize (List.range k).foldl (fun v q => fnv v (z ((o + q) % 8))) fnvStart = v at *
      go_wp2
      go_quiet ((go_at_call 175; exact Calls.quiet_of_same (sumStep_any _ _ _)))
      go_wp2
      go_roundw
      case rel => exact ⟨k + 1, by omega, by go_num, by rw [HS.out], n + nq, by rw [HW.out, World.drewN_drewN]⟩
      case measure => simp [intOf]; omega
    · obtain rfl : k = 8 := by omega
      go_wp2
      go_ret
      exact ⟨rfl, n, rfl⟩
/-- The sum of a ring whose oldest byte lies at o. -/
def ringSum (z : Nat → Int) (o : Nat) : Int := (List.range 8).foldl (fun v q => fnv v (z ((o + q) % 8))) fnvStart
theorem ringSum_nn (z : Nat → Int) (o : Nat) : 0 ≤ ringSum z o := by
  unfold ringSum
  rw [show List.range 8 = List.range 7 ++ [7] from rfl, List.foldl_append]
  exact (wrap_u64 _).1
set_option maxRecDepth 100000 in
set_option maxHeartbeats 400000 in
theorem isCut_any (n : Int) (b o : Nat) (z : Nat → Int) (w : World) (ho : o < 8) (h8 : w.cell? ⟨b, 8, none⟩ = some (.int .i64 o)) (hy : ∀ t, t < 8 → w.cell? ⟨b, t, none⟩ = some (.int .u8 (z t))) :
    Calls Tryz.prog 282 #[.int .i64 n, .pointer (some ⟨b, 0, none⟩)] w fun e w' => e = .returned (.bool (decide (64 ≤ n) || (decide (8 ≤ n) && decide (ringSum z o % 16 = 0)))) ∧ ∃ m, w' = w.drewN m := by
  have hR := fun W => rsum_any b o z W ho
  have hv := ringSum_nn z o
  by_cases h1 : 64 ≤ n
  · have e : (decide (64 ≤ n) || (decide (8 ≤ n) && decide (ringSum z o % 16 = 0))) = true := by simp [h1]
    rw [e]; clear e hR hy h8
    go_enter Tryz.func282, Tryz.ntmps282
    go_wp2
    go_ret
    exact ⟨by simp, 0, rfl⟩
  · by_cases h2 : 8 ≤ n
    · have e : (decide (64 ≤ n) || (decide (8 ≤ n) && decide (ringSum z o % 16 = 0))) = decide (ringSum z o % 16 = 0) := by simp [h1, h2]
      rw [e]; clear e
      have HR : Hid _ := hR w h8 hy
      clear hR hy
      change Hid (Calls Tryz.prog 283 #[.pointer (some ⟨b, 0, none⟩)] w fun e w' => e = .returned (.int .u64 (ringSum z o)) ∧ ∃ n, w' = w.drewN n) at HR
      generalize ringSum z o = v at *
      go_enter Tryz.func282, Tryz.ntmps282
      go_wp2_with (go_at_call 283; refine HR.out.mono ?_; rintro e w' ⟨rfl, m, rfl⟩)
      go_ret
      refine ⟨?_, m, rfl⟩
      simp
      by_cases hz : v % 16 = 0 <;> simp [hz]
    · have e : (decide (64 ≤ n) || (decide (8 ≤ n) && decide (ringSum z o % 16 = 0))) = false := by simp [h1, h2]
      rw [e]; clear e hR hy h8
      go_enter Tryz.func282, Tryz.ntmps282
      go_wp2
      go_ret
      exact ⟨by simp, 0, rfl⟩
end Go.Proofs.YtloooejbjgaodaaGreatDoor
/- The ring of a text's last bytes, as the text's bytes come. -/
namespace Go.Proofs.YtloooejbjgaodaaGreatDoor
open Go.RowKit
def byteAt (s : ByteArray) (k : Nat) : Int := ((s.data.toList.getD k 0).toNat : Int)
theorem byteAt_get (s : ByteArray) (k : Nat) (h : k < s.size) : (s[k].toNat : Int) = byteAt s k := by
  have h' : k < s.data.toList.length := by simpa using h
  unfold byteAt
  rw [List.getD_eq_getElem?_getD, List.getElem?_eq_getElem h']; rfl
def ringZ (s : ByteArray) : Nat → Nat → Int
  | 0, _ => 0
  | k + 1, t => if k % 8 = t then byteAt s k else ringZ s k t
theorem ringZ_at (s : ByteArray) (j : Nat) : ∀ k, j < k → k ≤ j + 8 → ringZ s k (j % 8) = byteAt s j
  | 0, h, _ => by omega
  | k + 1, h, h8 => by
    unfold ringZ
    by_cases e : k = j
    · subst e; rw [if_pos rfl]
    · rw [if_neg (by omega)]
      exact ringZ_at s j k (by omega) (by omega)
theorem extract_list (s : ByteArray) (k : Nat) (h : k + 8 ≤ s.size) : (s.extract k (k + 8)).data.toList = (List.range 8).map fun q => s.data.toList.getD (k + q) 0 := by
  have h' : k + 8 ≤ s.data.toList.length := by simpa using h
  apply List.ext_getElem
  · simp; omega
  · intro i h1 h2
    simp at h2
    have hi : k + i < s.data.toList.length := by omega
    have hd : k + i < s.data.size := by simpa using hi
    simp [Array.getElem?_eq_getElem hd]
theorem foldl_same (f g : Int → Nat → Int) : ∀ (l : List Nat) (v : Int), (∀ q ∈ l, ∀ v, f v q = g v q) → l.foldl f v = l.foldl g v
  | [], _, _ => rfl
  | q :: l, v, h => by
    rw [List.foldl_cons, List.foldl_cons, h q (by simp) v]
    exact foldl_same f g l _ (fun q' h' => h q' (by simp [h']))
theorem ringSum_eq (s : ByteArray) (k : Nat) (h : k + 8 ≤ s.size) : ringSum (ringZ s (k + 8)) ((k + 8) % 8) = fnvList (s.extract k (k + 8)).data.toList := by
  unfold ringSum fnvList
  rw [extract_list s k h, List.foldl_map]
  refine foldl_same _ _ _ _ (fun q hq v => ?_)
  have hq8 : q < 8 := by simpa using hq
  have e : ((k + 8) % 8 + q) % 8 = (k + q) % 8 := by omega
  rw [e, ringZ_at s (k + q) (k + 8) (by omega) (by omega)]
  unfold byteAt
  with_reducible rfl
/-- What isCut reckons is what l2Ends asks of the open piece. -/
theorem ends_ring (s : ByteArray) (f k : Nat) (hf : f ≤ k) (hk : k ≤ s.size) :
    (decide (64 ≤ ((k - f : Nat) : Int)) || (decide (8 ≤ ((k - f : Nat) : Int)) && decide (ringSum (ringZ s k) (k % 8) % 16 = 0))) = endsB (s.extract f k) := by
  have hz : (s.extract f k).size = k - f := by simp; omega
  unfold endsB
  rw [hz]
  by_cases h8 : k - f < 8
  · rw [if_pos h8]; simp; omega
  · rw [if_neg h8]
    obtain ⟨m, rfl⟩ : ∃ m, k = m + 8 := ⟨k - 8, by omega⟩
    have e : ((s.extract f (m + 8)).extract (m + 8 - f - 8) (m + 8 - f)) = s.extract m (m + 8) := by
      rw [ByteArray.extract_extract]; congr 1 <;> omega
    unfold cutHere
    rw [hz, e, ringSum_eq s m hk]
    have h8' : (8 : Int) ≤ ((m + 8 - f : Nat) : Int) := by omega
    simp only [h8', decide_true, Bool.true_and]
    congr 1
    simp; omega
/-- The ring's cells when k bytes have come. -/
def ringA (s : ByteArray) (k : Nat) : Array Value := ((List.range 8).map (fun t => Value.int .u8 (ringZ s k t)) ++ [Value.int .i64 ((k % 8 : Nat) : Int)]).toArray
theorem ringA_zero (s : ByteArray) : ringA s 0 = #[.int .u8 0, .int .u8 0, .int .u8 0, .int .u8 0, .int .u8 0, .int .u8 0, .int .u8 0, .int .u8 0, .int .i64 0] := rfl
theorem ringA_get (s : ByteArray) (k t : Nat) (h : t < 8) : (ringA s k)[t]? = some (.int .u8 (ringZ s k t)) := by
  simp [ringA, List.getElem?_append, h]
theorem ringA_last (s : ByteArray) (k : Nat) : (ringA s k)[8]? = some (.int .i64 ((k % 8 : Nat) : Int)) := by
  simp [ringA]
theorem ringA_succ (s : ByteArray) (k : Nat) : ((ringA s k).setIfInBounds (k % 8) (.int .u8 (byteAt s k))).setIfInBounds 8 (.int .i64 ((((k % 8) + 1) % 8 : Nat) : Int)) = ringA s (k + 1) := by
  apply Array.ext
  · simp [ringA]
  · intro t h1 h2
    have ht : t < 9 := by simpa [ringA] using h2
    have hz : (ringA s k).size = 9 := by simp [ringA]
    by_cases e8 : t = 8
    · subst e8
      rw [Array.getElem_setIfInBounds_self]
      have := ringA_last s (k + 1)
      rw [Array.getElem?_eq_getElem h2] at this
      rw [Option.some.inj this]
      congr 2; omega
    · rw [Array.getElem_setIfInBounds_ne (by simp [hz]; omega) (by omega)]
      have h3 := ringA_get s (k + 1) t (by omega)
      rw [Array.getElem?_eq_getElem h2] at h3
      rw [Option.some.inj h3]
      by_cases ek : k % 8 = t
      · subst ek
        rw [Array.getElem_setIfInBounds_self]
        simp [ringZ]
      · rw [Array.getElem_setIfInBounds_ne (by simp [hz]; omega) ek]
        have h4 := ringA_get s k t (by omega)
        rw [Array.getElem?_eq_getElem (by omega)] at h4
        rw [Option.some.inj h4]
        simp [ringZ, ek]
end Go.Proofs.YtloooejbjgaodaaGreatDoor
/- impl.eachPiece: the iterator over a text's pieces. -/
namespace Go.Proofs.YtloooejbjgaodaaGreatDoor
open Go.RowKit
attribute [local go_sem] Oper.semAt_some
theorem cell_of_heap {w : World} {b : Nat} {A : Array Value} {t : TypeId} (h : w.heap[b]? = some (.cells A t (0, 0))) (i : Nat) : w.cell? ⟨b, i, none⟩ = A[i]? := by
  simp [World.cell?, h]
theorem frozen_of_heap {w : World} {b : Nat} {A : Array Value} {t : TypeId} (h : w.heap[b]? = some (.cells A t (0, 0))) (i : Nat) : w.frozen? ⟨b, i, none⟩ = false := by
  simp [World.frozen?, h]
theorem add_ring (s : ByteArray) (k b : Nat) (w : World) (h : w.heap[b]? = some (.cells (ringA s k) 337 (0, 0))) :
    Calls Tryz.prog 281 #[.pointer (some ⟨b, 0, none⟩), .int .u8 (byteAt s k)] w fun e w' => e = .returned (.tuple #[]) ∧ w.grownBy w' (some b) ∧ w'.heap[b]? = some (.cells (ringA s (k + 1)) 337 (0, 0)) := by
  refine (add_any b (k % 8) (byteAt s k) (ringZ s k (k % 8)) w (by omega) ?_ ?_ (frozen_of_heap h _) (frozen_of_heap h _)).mono ?_
  · rw [cell_of_heap h, ringA_last]
  · rw [cell_of_heap h, ringA_get s k _ (by omega)]
  · rintro e w' ⟨rfl, n, rfl⟩
    have h1 := heap_setCell_same w b (k % 8) _ _ (.int .u8 (byteAt s k)) h
    have h2 := heap_setCell_same _ b 8 _ _ (.int .i64 ((((k % 8) + 1) % 8 : Nat) : Int)) h1
    rw [ringA_succ] at h2
    refine ⟨rfl, ⟨rfl, rfl, rfl, ?_, fun j hj hne => ?_⟩, h2⟩
    · show w.heap.size ≤ ((w.setCell _ _).setCell _ _).heap.size
      simp
    · have hj' : j ≠ b := fun e => hne (by rw [e])
      show ((w.setCell _ _).setCell _ _).heap[j]? = _
      rw [heap_setCell_other _ _ _ _ hj', heap_setCell_other _ _ _ _ hj']
theorem isCut_ring (s : ByteArray) (f k b : Nat) (w : World) (hf : f ≤ k) (hk : k ≤ s.size) (h : w.heap[b]? = some (.cells (ringA s k) 337 (0, 0))) :
    Calls Tryz.prog 282 #[.int .i64 ((k - f : Nat) : Int), .pointer (some ⟨b, 0, none⟩)] w fun e w' => e = .returned (.bool (endsB (s.extract f k))) ∧ ∃ m, w' = w.drewN m := by
  have := isCut_any ((k - f : Nat) : Int) b (k % 8) (ringZ s k) w (by omega) (by rw [cell_of_heap h, ringA_last]) (fun t ht => by rw [cell_of_heap h, ringA_get s k t ht])
  rw [ends_ring s f k hf hk] at this
  exact this
theorem cutTo_grows (s : ByteArray) (k : Nat) : ∀ j, k ≤ j → (cutTo s k).2 <+: (cutTo s j).2
  | 0, h => by obtain rfl : k = 0 := by omega
               exact List.prefix_refl _
  | j + 1, h => by
    by_cases e : k = j + 1
    · subst e; exact List.prefix_refl _
    · refine (cutTo_grows s k j (by omega)).trans ?_
      conv => rhs; unfold cutTo
      split
      · exact List.prefix_append _ _
      · exact List.prefix_refl _
/-- What a round must keep: the ring, and the text's box. -/
def KeepP (Bn : Nat) (A B : World) : Prop := (∀ (k : Nat) (c : Array Value), A.heap[k]? = some (.cells c 337 (0, 0)) → B.heap[k]? = some (.cells c 337 (0, 0))) ∧ B.heap[Bn]? = A.heap[Bn]?
theorem KeepP.trans {Bn : Nat} {A B C : World} (h : KeepP Bn A B) (k : KeepP Bn B C) : KeepP Bn A C := ⟨fun i c hc => k.1 i c (h.1 i c hc), k.2.trans h.2⟩
theorem KeepP.put {Bn : Nat} (W : World) (l : Nat) (o o' : Obj) (hl : Bn < l) (h : W.heap[l]? = some o) (ho : o.isCells = false) : KeepP Bn W (W.putObj l o') := by
  refine ⟨fun k c hc => ?_, World.putObj_heap_other (by omega)⟩
  have hne : k ≠ l := fun e => by subst e; rw [h] at hc; cases hc; cases ho
  exact (World.putObj_heap_other hne).trans hc
set_option maxRecDepth 100000 in
set_option maxHeartbeats 400000 in
theorem eachPiece_any (s : ByteArray) (w : World) :
    Calls Tryz.prog 278 #[.string s] w fun e w' => e = .returned (.func (.func 280) #[] #[.pointer (some ⟨w.heap.size, 0, none⟩)]) ∧ w' = w.alloc (.cells #[.string s] 9) := by
  go_enter Tryz.func278, Tryz.ntmps278
  go_wp2
  go_ret
  exact ⟨rfl, rfl⟩
theorem hid {p : Prop} (h : p) : Hid p := h
theorem box_kept {wr w1 : World} {Bn b : Nat} {o : Obj} (hb : wr.heap[Bn]? = some o) (hg : wr.grownBy w1 (some b)) (h : Bn < b) : w1.heap[Bn]? = some o :=
  (hg.block Bn (Array.getElem?_eq_some_iff.1 hb).1 (fun e => by cases e; omega)).trans hb
theorem cell_box {w : World} {b : Nat} {v : Value} {t : TypeId} (h : w.heap[b]? = some (.cells #[v] t (0, 0))) : w.cell? ⟨b, 0, none⟩ = some v := by rw [cell_of_heap h]; rfl
theorem ring_drewN {J : List ByteArray → World → Prop} {B : Nat} {wr w1 : World} {ps : List ByteArray} {A : Array Value} (hJ : AbT 337 B J) (hj : J ps wr) (hg : wr.grownBy w1 (some B)) (hr : wr.heap[B]? = some (.cells A 337 (0, 0))) (m : Nat) : J ps (w1.drewN m) :=
  hJ ps wr _ (some B) hj ⟨hg.os, hg.tape, hg.output, hg.size, hg.block⟩ (fun r e => by cases e; exact ⟨Nat.le_refl _, _, hr⟩)
set_option maxRecDepth 100000 in
set_option maxHeartbeats 1000000 in
theorem iter_seq (s : ByteArray) (Bn : Nat) (w0 : World) (hB : Bn < w0.heap.size) (hs : w0.heap[Bn]? = some (.cells #[.string s] 9 (0, 0))) :
    SeqT Tryz.prog 337 280 #[.pointer (some ⟨Bn, 0, none⟩)] (fun p : ByteArray => #[Value.string p]) (KeepP Bn) (piecesOf s) w0 := by
  intro l J W hW hJ hY h0
  have hBW : W.heap[Bn]? = some (.cells #[.string s] 9 (0, 0)) := (hW.block Bn hB).trans hs
  have hBlt : Bn < W.heap.size := (Array.getElem?_eq_some_iff.1 hBW).1
  have hcell : W.cell? ⟨Bn, 0, none⟩ = some (.string s) := by rw [cell_of_heap hBW]; rfl
  refine callsIn_of_wp Tryz.func280 rfl trivial ?_ rfl
  simp only [Tryz.ntmps280, List.size_toArray, List.length_cons, List.length_nil, Nat.reduceAdd, Nat.reduceSub, Array.replicate_succ, Array.replicate_zero, List.push_toArray, List.append_toArray, List.nil_append, List.cons_append]
  by_cases h3 : 3000 < s.size
  · have e : piecesOf s = [] := by simp [piecesOf, h3]
    rw [e]; clear e
    gi_wp2
    refine bodyPost_ret (results_none rfl _ _ _) rfl ?_
    exact ⟨⟨_, rfl⟩, h0⟩
  · have e : piecesOf s = (cutTo s s.size).2 := by simp [piecesOf, h3]
    rw [e] at hY ⊢; clear e
    gi_wp2
    gi_loopw [4, 5, 6] (fun bg i _ wr => ∃ k : Nat, k ≤ s.size ∧ i = .int .i64 k ∧ bg = .int .i64 ((cutTo s k).1 : Nat) ∧ J (cutTo s k).2 wr ∧ wr.heap[W.heap.size]? = some (.cells (ringA s k) 337 (0, 0)) ∧ wr.heap[Bn]? = some (.cells #[.string s] 9 (0, 0))) (fun _ i _ _ => s.size - (intOf i).toNat)
    case atStart =>
      refine ⟨0, Nat.zero_le _, rfl, rfl, ?_, World.alloc_heap_new W _, (Below.heap_alloc W _ Bn hBlt).trans hBW⟩
      exact hJ [] W _ none h0 (World.grownBy_alloc W _ none) (fun r e => by cases e)
    case round =>
      obtain ⟨k, hk, rfl, rfl, hj, hr, hb⟩ := hrel
      have hc : wr.cell? ⟨Bn, 0, none⟩ = some (.string s) := by rw [cell_of_heap hb]; rfl
      clear hcell
      by_cases hlt : k < s.size
      · have hcl := (cutTo_le s k).1
        have hadd := add_ring s k W.heap.size wr hr
        rw [← byteAt_get s k hlt] at hadd
        have HA := hid hadd
        clear hadd
        have hcut := fun W1 h => isCut_ring s (cutTo s k).1 (k + 1) W.heap.size W1 (by omega) (by omega) h
        cases hend : (endsB (s.extract (cutTo s k).1 (k + 1)) || decide (k + 1 = s.size)) with
        | false =>
          have HN := hid (cutTo_on s k hend)
          simp only [Bool.or_eq_false_iff, decide_eq_false_iff_not] at hend
          rw [hend.1] at hcut
          have HC := hid hcut
          have hlt2 : k + 1 < s.size := by omega
          clear hcut hend hY
          generalize cutTo s k = c at *
          obtain ⟨f, ps⟩ := c
          dsimp only at *
          gi_wp2_with (first | (refine ⟨trivial, rfl, ?_⟩; gi_at_call 281; refine (callsIn_wide.2 HA.out).mono ?_; rintro e w1 ⟨rfl, hg1, hr1⟩; have hb1 := box_kept hb hg1 hBlt; have hc1 := cell_box hb1) | (refine ⟨trivial, rfl, ?_⟩; gi_at_call 282; rw [show ((k : Int) + 1 - (f : Int)) = ((k + 1 - f : Nat) : Int) by omega]; refine (callsIn_wide.2 (HC.out _ hr1)).mono ?_; rintro e w2 ⟨rfl, m, rfl⟩))
          go_roundw
          case rel =>
            refine ⟨k + 1, by omega, by go_num, by rw [HN.out], ?_, hr1, hb1⟩
            rw [HN.out]
            exact ring_drewN hJ hj hg1 hr m
          case measure => simp [intOf]; omega
        | true =>
          have HN := hid (cutTo_cut s k hend)
          have hpre : (cutTo s k).2 ++ [s.extract (cutTo s k).1 (k + 1)] <+: (cutTo s s.size).2 := by
            have := cutTo_grows s (k + 1) s.size (by omega)
            rw [HN.out] at this; exact this
          have HY := hid fun W1 h => hY (cutTo s k).2 (s.extract (cutTo s k).1 (k + 1)) W1 h hpre
          clear hY hpre
          by_cases hlt2 : k + 1 < s.size
          · have he1 : endsB (s.extract (cutTo s k).1 (k + 1)) = true := by
              have : decide (k + 1 = s.size) = false := by simp; omega
              rwa [this, Bool.or_false] at hend
            rw [he1] at hcut
            have HC := hid hcut
            clear hcut hend he1
            generalize cutTo s k = c at *
            obtain ⟨f, ps⟩ := c
            dsimp only at *
            gi_wp2_with (first | (refine ⟨trivial, rfl, ?_⟩; gi_at_call 281; refine (callsIn_wide.2 HA.out).mono ?_; rintro e w1 ⟨rfl, hg1, hr1⟩; have hb1 := box_kept hb hg1 hBlt; have hc1 := cell_box hb1) | (refine ⟨trivial, rfl, ?_⟩; gi_at_call 282; rw [show ((k : Int) + 1 - (f : Int)) = ((k + 1 - f : Nat) : Int) by omega]; refine (callsIn_wide.2 (HC.out _ hr1)).mono ?_; rintro e w2 ⟨rfl, m, rfl⟩; obtain ⟨fn, tmps, assign, body, hy, hR⟩ := HY.out (w1.drewN m) (ring_drewN hJ hj hg1 hr m)))
            refine ⟨rfl, hR.mono ?_⟩
            rintro e w3 ⟨rfl, hj3, hk3⟩
            gi_wp2
            go_roundw
            case rel =>
              refine ⟨k + 1, by omega, by go_num, by rw [HN.out]; go_num, ?_, hk3.1 _ _ hr1, hk3.2.trans hb1⟩
              rw [HN.out]; exact hj3
            case measure => simp [intOf]; omega
          · have hk1 : decide ((k : Int) + 1 < (s.size : Int)) = false := by simp; omega
            clear hcut hend
            generalize cutTo s k = c at *
            obtain ⟨f, ps⟩ := c
            dsimp only at *
            gi_wp2_with (refine ⟨trivial, rfl, ?_⟩; gi_at_call 281; refine (callsIn_wide.2 HA.out).mono ?_; rintro e w1 ⟨rfl, hg1, hr1⟩; have hb1 := box_kept hb hg1 hBlt; have hc1 := cell_box hb1; obtain ⟨fn, tmps, assign, body, hy, hR⟩ := HY.out w1 (ring_drewN hJ hj hg1 hr 0))
            refine ⟨trivial, ?_⟩
            gi_wp2
            refine ⟨rfl, hR.mono ?_⟩
            rintro e w3 ⟨rfl, hj3, hk3⟩
            gi_wp2
            go_roundw
            case rel =>
              refine ⟨k + 1, by omega, by go_num, by rw [HN.out]; go_num, ?_, hk3.1 _ _ hr1, hk3.2.trans hb1⟩
              rw [HN.out]; exact hj3
            case measure => simp [intOf]; omega
      · obtain rfl : k = s.size := by omega
        gi_wp2
        go_end0
        exact ⟨⟨_, rfl⟩, hj⟩
end Go.Proofs.YtloooejbjgaodaaGreatDoor
/- Small facts on pieces, boxes and rows. -/
namespace Go.Proofs.YtloooejbjgaodaaGreatDoor
open Go.RowKit
theorem cutTo_size (s : ByteArray) (k : Nat) : ∀ p ∈ (cutTo s k).2, p.size ≤ s.size := by
  induction k with
  | zero => intro p hp; simp [cutTo] at hp
  | succ k ih =>
    intro p hp
    unfold cutTo at hp
    split at hp
    · simp only [List.mem_append, List.mem_singleton] at hp
      rcases hp with hp | rfl
      · exact ih p hp
      · simp; omega
    · exact ih p hp
theorem piecesOf_size (s : ByteArray) : ∀ p ∈ piecesOf s, p.size ≤ 3000 := by
  intro p hp
  unfold piecesOf at hp
  split at hp
  · simp at hp
  · exact Nat.le_trans (cutTo_size s _ p hp) (by omega)
theorem Below.boxed {W w1 : World} {B : Nat} {t : TypeId} {v : Value} (h : Below W.heap.size W w1) (hv : Boxed W B t v) : Boxed w1 B t v := (h.block B hv.lt).trans hv
theorem ownsRow_base {W : World} {b b' : Nat} {e : TypeId} {size : Nat} {v : Value} {n : Nat} {xs : List Value} (h : W.ownsRow b e size v n xs) (hb : b' ≤ b) : W.ownsRow b' e size v n xs := by
  obtain ⟨h1, h2⟩ := h
  refine ⟨h1, ?_⟩
  rcases h2 with h2 | ⟨g, cap, cur, e1, h3, h4⟩
  · exact .inl h2
  · exact .inr ⟨g, cap, cur, e1, Nat.le_trans hb h3, h4⟩
end Go.Proofs.YtloooejbjgaodaaGreatDoor
