/- Notes; what one list has and another has not: spec.l6Minus, impl.without. -/
import Derived.Test.YtnpfnafalkejnaaInList
import Derived.Test.YtnpfnafalkejnaaTellSpec
import Derived.Test.YtnpfnafalkejnaaStretch
namespace Go.Proofs.Ytnpfnafalkejnaa
open Go.RowKit
structure Nt where
  f : ByteArray
  t : ByteArray
  c : Int
  m : ByteArray
  h : Bool
  ss : List ByteArray
/-- What one list has and another has not. -/
def minusL (a b : List ByteArray) : List ByteArray := a.filter fun x => !inB b x
theorem minusL_len (a b : List ByteArray) : (minusL a b).length ≤ a.length := List.length_filter_le _ _
theorem minusL_step (a b : List ByteArray) (k : Nat) (h : k < a.length) : minusL (a.take (k + 1)) b = if inB b (tv a k) = true then minusL (a.take k) b else minusL (a.take k) b ++ [tv a k] := by
  have e : tv a k = a[k] := by simp [tv, h]
  rw [e]
  unfold minusL
  rw [List.take_succ_eq_append_getElem h, List.filter_append]
  by_cases g : inB b a[k] = true
  · rw [if_pos g, List.filter_cons_of_neg (by rw [g]; simp), List.filter_nil, List.append_nil]
  · rw [if_neg g, List.filter_cons_of_pos (by simpa using g), List.filter_nil]
theorem cut_in {ts : List ByteArray} (hA : Asc ts) (x : ByteArray) : (cutN x ts < ts.length ∧ tv ts (cutN x ts) = x) ↔ inB ts x = true := by
  rw [inB_iff]
  constructor
  · rintro ⟨h1, h2⟩
    rw [← h2]
    simp [tv, h1]
  · intro h
    obtain ⟨i, hi, rfl⟩ := List.getElem_of_mem h
    have ht : tv ts i = ts[i] := by simp [tv, hi]
    have hc : cutN ts[i] ts = i := by
      rcases Nat.lt_trichotomy (cutN ts[i] ts) i with hl | hl | hl
      · have h1 := cut_above ts[i] ts hA (cutN ts[i] ts) (Nat.le_refl _) (by omega)
        have h2 := List.pairwise_iff_getElem.1 hA (cutN ts[i] ts) i (by omega) hi hl
        have h3 : tv ts (cutN ts[i] ts) = ts[cutN ts[i] ts]'(by omega) := by simp [tv, show cutN ts[i] ts < ts.length by omega]
        rw [h3, h2] at h1
        cases h1
      · exact hl
      · have h1 := cut_below ts[i] ts i hl
        rw [ht, tlt_irrefl] at h1
        cases h1
    rw [hc]
    exact ⟨hi, ht⟩
set_option maxRecDepth 100000 in
set_option maxHeartbeats 1000000 in
theorem l6Minus_any (va vb : Value) (a b : List ByteArray) (w : World) (ha : Reads w va a) (hb : Reads w vb b) (hla : a.length ≤ 1048576) (hlb : b.length ≤ 1048576) :
    Calls Try.prog 30 #[va, vb] w fun e w' => ∃ v', e = .returned v' ∧ w'.ownsRow w.heap.size 9 1 v' (minusL a b).length ((minusL a b).map Value.string) ∧ Below w.heap.size w w' := by
  obtain ⟨i0, hi, hz0, hz1, hz2⟩ := info_parts Try.info9
  have HB := hid hb
  obtain ⟨aa, ca, rfl, hca⟩ := ha.form
  obtain ⟨ab, cb, rfl, _⟩ := hb.form
  have HC : Hid (∀ i, i < a.length → ∃ b off, aa = some ⟨b, off, none⟩ ∧ b < w.heap.size ∧ w.cell? ⟨b, off + i, none⟩ = some (.string (tv a i))) := hca
  have HI := hid fun x W h => l2In_in (.slice ab b.length cb) b x W h (by unfold maxLen; omega)
  clear hca ha hb
  go_enter Try.func30, Try.ntmps30
  go_wp2
  go_loopw [5, 6] (fun v' i wr => ∃ k : Nat, k ≤ a.length ∧ i = .int .i64 k ∧ wr.ownsRow w.heap.size 9 1 v' (minusL (a.take k) b).length ((minusL (a.take k) b).map Value.string) ∧ Below w.heap.size w wr) (fun _ i _ => a.length - (intOf i).toNat)
  case atStart => exact ⟨0, Nat.zero_le _, rfl, World.ownsRow_made w #[] 0 (Nat.le_refl _) (by simp [maxLen]) rfl, (Below.refl _ _).alloc (Nat.le_refl _) _⟩
  case round =>
    obtain ⟨k, hk, rfl, hown, hbl⟩ := hrel
    by_cases hlt : k < a.length
    · obtain ⟨b1, o1, rfl, hb1, hc1⟩ := HC.out k hlt
      have hd1 := (hbl.cell (p := ⟨b1, o1 + k, none⟩) hb1).trans hc1
      have hst := minusL_step a b k hlt
      have hle : (minusL (a.take k) b).length ≤ 1048576 := Nat.le_trans (minusL_len _ _) (by rw [List.length_take]; omega)
      have HIx := hid (HI.out (tv a k) wr (HB.out.below hbl))
      generalize tv a k = x at *
      have hsz := hbl.size
      cases hx : inB b x with
      | true =>
        have HN : Hid (minusL (a.take (k + 1)) b = minusL (a.take k) b) := hst.trans (if_pos hx)
        rw [hx] at HIx
        generalize minusL (a.take k) b = ps at *
        clear hst hc1 hx
        go_wp2_with fail
        refine HIx.out.mono ?_
        rintro e w1 ⟨rfl, rfl⟩
        go_wp2
        refine ⟨⟨k + 1, by omega, by go_num, by rw [HN.out]; exact hown, hbl⟩, by simp [intOf]; omega⟩
      | false =>
        have HN : Hid (minusL (a.take (k + 1)) b = minusL (a.take k) b ++ [x]) := hst.trans (if_neg (by rw [hx]; simp))
        rw [hx] at HIx
        generalize minusL (a.take k) b = ps at *
        clear hst hc1 hx
        go_wp2_with fail
        refine HIx.out.mono ?_
        rintro e w1 ⟨rfl, rfl⟩
        go_wp2_with (at_builtin; refine wpList_append_own _ rfl _ _ 22 rfl w.heap.size 9 i0 (.string ⟨#[]⟩) 1 16 Try.underlying22 hi hz0 hz1 hz2 rfl (by decide) _ _ _ rfl (hown.alloc _) ⟨_, 0, none⟩ 1 1 [.string x] rfl rfl (cell_one_new _ _ _) (by simp [Value.oneCell']) (by unfold maxLen; omega) (by omega) (by simp; omega) ?_; intro v' w2 hown' hgrow _)
        have hb2 : Below w.heap.size w w2 := append_below hbl hown hgrow
        refine ⟨⟨k + 1, by omega, by go_num, ?_, hb2⟩, by simp [intOf]; omega⟩
        rw [HN.out]; simpa using hown'
    · obtain rfl : k = a.length := by omega
      rw [List.take_length] at hown
      go_wp2
      go_ret
      exact ⟨_, rfl, hown, hbl⟩
theorem searchR_any (v : Value) (ts : List ByteArray) (x : ByteArray) (w : World) (hv : Rdc w v ts) (hA : Asc ts) (hl : ts.length ≤ 1048576) :
    Calls Try.prog 49 #[v, .string x] w fun e w' => (∃ (n : Nat), e = .returned (.tuple #[.int .i64 (n : Int), .bool (inB ts x)])) ∧ ∃ q, w' = w.drewN q := by
  obtain ⟨a, cap, rfl, _, h⟩ := hv
  rcases h with rfl | ⟨b, off, rfl, hb, hc⟩
  · refine (search_none a cap x w).mono ?_
    rintro e w' ⟨rfl, rfl⟩
    exact ⟨⟨0, rfl⟩, 0, rfl⟩
  · refine (search_any b off cap ts x w hA hl hc).mono ?_
    rintro e w' ⟨⟨q, rfl, hq⟩, n, rfl⟩
    have : q = inB ts x := Bool.eq_iff_iff.2 (hq.trans (cut_in hA x))
    subst this
    exact ⟨⟨_, rfl⟩, n, rfl⟩
set_option maxRecDepth 100000 in
set_option maxHeartbeats 1000000 in
theorem without_any (va vb : Value) (a b : List ByteArray) (w : World) (ha : Reads w va a) (hb : Rdc w vb b) (hA : Asc b) (hla : a.length ≤ 1048576) (hlb : b.length ≤ 1048576) :
    Calls Try.prog 44 #[va, vb] w fun e w' => ∃ v', e = .returned v' ∧ w'.ownsRow w.heap.size 9 1 v' (minusL a b).length ((minusL a b).map Value.string) ∧ Below w.heap.size w w' := by
  obtain ⟨i0, hi, hz0, hz1, hz2⟩ := info_parts Try.info9
  have HB := hid hb
  obtain ⟨aa, ca, rfl, hca⟩ := ha.form
  obtain ⟨ab, cb, rfl, _⟩ := hb
  have HC : Hid (∀ i, i < a.length → ∃ b off, aa = some ⟨b, off, none⟩ ∧ b < w.heap.size ∧ w.cell? ⟨b, off + i, none⟩ = some (.string (tv a i))) := hca
  have HS := hid fun x W h => searchR_any (.slice ab b.length cb) b x W h hA hlb
  clear hca ha hA
  go_enter Try.func44, Try.ntmps44
  go_wp2
  go_loopw [5, 12] (fun v' i wr => ∃ k : Nat, k ≤ a.length ∧ i = .int .i64 k ∧ wr.ownsRow w.heap.size 9 1 v' (minusL (a.take k) b).length ((minusL (a.take k) b).map Value.string) ∧ Below w.heap.size w wr) (fun _ i _ => a.length - (intOf i).toNat)
  case atStart => exact ⟨0, Nat.zero_le _, rfl, World.ownsRow_nil _ _ _ _, Below.refl _ _⟩
  case round =>
    obtain ⟨k, hk, rfl, hown, hbl⟩ := hrel
    by_cases hlt : k < a.length
    · obtain ⟨b1, o1, rfl, hb1, hc1⟩ := HC.out k hlt
      have hd1 := (hbl.cell (p := ⟨b1, o1 + k, none⟩) hb1).trans hc1
      have hst := minusL_step a b k hlt
      have hle : (minusL (a.take k) b).length ≤ 1048576 := Nat.le_trans (minusL_len _ _) (by rw [List.length_take]; omega)
      have HSx := hid (HS.out (tv a k) wr (HB.out.below hbl))
      generalize tv a k = x at *
      cases hx : inB b x with
      | true =>
        have HN : Hid (minusL (a.take (k + 1)) b = minusL (a.take k) b) := hst.trans (if_pos hx)
        rw [hx] at HSx
        generalize minusL (a.take k) b = ps at *
        clear hst hc1 hx
        go_wp2_with fail
        refine HSx.out.mono ?_
        rintro e w1 ⟨⟨n, rfl⟩, q, rfl⟩
        have hb2 := hid (below_drewN hbl q)
        have ho2 := hid (Below.row (below_drewN (Below.refl _ _) q) hown)
        clear hbl hown hd1
        go_wp2
        refine ⟨⟨k + 1, by omega, by go_num, by rw [HN.out]; exact ho2.out, hb2.out⟩, by simp [intOf]; omega⟩
      | false =>
        have HN : Hid (minusL (a.take (k + 1)) b = minusL (a.take k) b ++ [x]) := hst.trans (if_neg (by rw [hx]; simp))
        rw [hx] at HSx
        generalize minusL (a.take k) b = ps at *
        clear hst hc1 hx
        go_wp2_with fail
        refine HSx.out.mono ?_
        rintro e w1 ⟨⟨n, rfl⟩, q, rfl⟩
        have hb2 := below_drewN hbl q
        have ho2 := Below.row (below_drewN (Below.refl _ _) q) hown
        generalize wr.drewN q = w2 at *
        have hsz := hb2.size
        clear hbl hown hd1
        go_wp2_with (at_builtin; refine wpList_append_own _ rfl _ _ 22 rfl w.heap.size 9 i0 (.string ⟨#[]⟩) 1 16 Try.underlying22 hi hz0 hz1 hz2 rfl (by decide) _ _ _ rfl (ho2.alloc _) ⟨_, 0, none⟩ 1 1 [.string x] rfl rfl (cell_one_new _ _ _) (by simp [Value.oneCell']) (by unfold maxLen; omega) (by omega) (by simp; omega) ?_; intro v' w3 hown' hgrow _)
        have hb3 : Below w.heap.size w w3 := append_below hb2 ho2 hgrow
        refine ⟨⟨k + 1, by omega, by go_num, ?_, hb3⟩, by simp [intOf]; omega⟩
        rw [HN.out]; simpa using hown'
    · obtain rfl : k = a.length := by omega
      rw [List.take_length] at hown
      go_wp2
      go_ret
      exact ⟨_, rfl, hown, hbl⟩
end Go.Proofs.Ytnpfnafalkejnaa
