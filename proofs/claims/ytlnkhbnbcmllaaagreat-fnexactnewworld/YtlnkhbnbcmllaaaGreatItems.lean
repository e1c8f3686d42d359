/- Rows of items: two cells an item. -/
import Derived.Test.YtlnkhbnbcmllaaaGreatArgs
import Derived.Test.YtlnkhbnbcmllaaaGreatBlk
namespace Go.Proofs.YtlnkhbnbcmllaaaGreat
open Go.RowKit
abbrev Itms := List (ByteArray × Int)
def itx (its : Itms) (i : Nat) : ByteArray := (its.getD i (ByteArray.empty, 0)).1
def itu (its : Itms) (i : Nat) : Int := (its.getD i (ByteArray.empty, 0)).2
/-- A slice that reads as a list of items. -/
def RdI (w : World) (v : Value) (its : Itms) : Prop :=
  ∃ a cap, v = .slice a its.length cap ∧ ∀ i, i < its.length → ∃ b off, a = some ⟨b, off, none⟩ ∧ b < w.heap.size ∧ w.cell? ⟨b, off + i * 2, none⟩ = some (.string (itx its i)) ∧ w.cell? ⟨b, off + i * 2 + 1, none⟩ = some (.int .i64 (itu its i))
theorem RdI.below {w w' : World} {v : Value} {its : Itms} (h : RdI w v its) (hb : Below w.heap.size w w') : RdI w' v its := by
  obtain ⟨a, cap, e, hc⟩ := h
  refine ⟨a, cap, e, fun i hi => ?_⟩
  obtain ⟨b, off, ha, hl, h1, h2⟩ := hc i hi
  exact ⟨b, off, ha, Nat.lt_of_lt_of_le hl hb.size, (hb.cell (p := ⟨b, off + i * 2, none⟩) hl).trans h1, (hb.cell (p := ⟨b, off + i * 2 + 1, none⟩) hl).trans h2⟩
set_option maxRecDepth 100000 in
set_option maxHeartbeats 400000 in
theorem szItem_any (t : ByteArray) (u : Int) (L : Nat) (w : World) (ht : t.size ≤ maxLen) (hL : L ≤ 1048576) :
    Calls Tryz.prog 69 #[.agg #[.string t, .int .i64 u], .int .i64 L] w fun e w' => ∃ r : Int, e = .returned (.int .i64 r) ∧ (if L < t.size then r = -1 else r = ((L - t.size : Nat) : Int)) ∧ Below w.heap.size w w' := by
  unfold maxLen at ht
  by_cases h1 : L < t.size
  · have h1' : (L : Int) - (t.size : Int) < 0 := by omega
    go_enter Tryz.func69, Tryz.ntmps69
    go_wp2
    go_ret
    exact ⟨-1, rfl, rfl, (Below.refl _ _).alloc (Nat.le_refl _) _⟩
  · have h1' : ¬ ((L : Int) - (t.size : Int) < 0) := by omega
    go_enter Tryz.func69, Tryz.ntmps69
    go_wp2
    go_ret
    exact ⟨_, rfl, by omega, (Below.refl _ _).alloc (Nat.le_refl _) _⟩
set_option maxRecDepth 100000 in
set_option maxHeartbeats 1000000 in
theorem szItemS_any (v : Value) (its : Itms) (L : Nat) (w : World) (hv : RdI w v its) (hl : its.length ≤ maxLen) (hsz : ∀ i, (itx its i).size ≤ maxLen) (hL : L ≤ 1048576) :
    Calls Tryz.prog 41 #[v, .int .i64 L] w fun e w' => ∃ r : Int, e = .returned (.int .i64 r) ∧ r ≤ L ∧ (0 ≤ r → its.length ≤ L ∧ ∀ i, (itx its i).size ≤ L) ∧ Below w.heap.size w w' := by
  unfold maxLen at hl
  obtain ⟨a, ca, rfl, hca⟩ := hv
  by_cases h1 : L < its.length
  · have h1' : (L : Int) - (its.length : Int) < 0 := by omega
    go_enter Tryz.func41, Tryz.ntmps41
    go_wp2
    go_ret
    exact ⟨-1, rfl, by omega, fun h => by omega, Below.refl _ _⟩
  · have h1' : ¬ ((L : Int) - (its.length : Int) < 0) := by omega
    have HC := hid hca
    have HSZ := hid hsz
    clear hca hsz
    go_enter Tryz.func41, Tryz.ntmps41
    go_wp2
    go_loopw [1, 5] (fun l' i' wr => ∃ l i : Nat, i ≤ its.length ∧ i' = .int .i64 i ∧ l' = .int .i64 l ∧ l ≤ L ∧ (∀ k, k < i → (itx its k).size ≤ L) ∧ Below w.heap.size w wr) (fun _ i' _ => its.length - (intOf i').toNat)
    case atStart => exact ⟨L - its.length, 0, Nat.zero_le _, rfl, by go_num, by omega, fun k hk => by omega, Below.refl _ _⟩
    case round =>
      obtain ⟨l, i, hi, rfl, rfl, hll, hs, hb⟩ := hrel
      have HS := hid hs
      clear hs
      by_cases hil : i < its.length
      · obtain ⟨b, o, rfl, hbw, hc1, hc2⟩ := HC.out i hil
        have hd1 := (hb.cell (p := ⟨b, o + i * 2, none⟩) hbw).trans hc1
        have hd2 := (hb.cell (p := ⟨b, o + i * 2 + 1, none⟩) hbw).trans hc2
        have hz := HSZ.out i
        have HZI := hid fun W => szItem_any (itx its i) (itu its i) l W hz (by omega)
        generalize hti : itx its i = t at *
        generalize itu its i = u at *
        have HTI := hid hti
        have HB := hid hb
        clear hti hc1 hc2 hb
        by_cases hlt : l < t.size
        · simp only [if_pos hlt] at HZI
          go_wp2_with fail
          refine (HZI.out _).mono ?_
          rintro e w1 ⟨r, rfl, rfl, hb1⟩
          have hb2 := hid (HB.out.trans (hb1.mono HB.out.size))
          clear hb1
          go_wp2
          go_ret
          exact ⟨-1, rfl, by omega, fun h => by omega, hb2.out⟩
        · simp only [if_neg hlt] at HZI
          go_wp2_with fail
          refine (HZI.out _).mono ?_
          rintro e w1 ⟨r, rfl, rfl, hb1⟩
          have hb2 := hid (HB.out.trans (hb1.mono HB.out.size))
          have hnn : ¬ (((l - t.size : Nat) : Int) < 0) := by omega
          clear hb1
          go_wp2
          refine ⟨⟨l - t.size, i + 1, by omega, by go_num, by go_num, by omega, fun k hk => (Nat.lt_or_eq_of_le (Nat.le_of_lt_succ hk)).elim (HS.out k) (fun e => by rw [e, HTI.out]; omega), hb2.out⟩, by simp [intOf]; omega⟩
      · obtain rfl : i = its.length := by omega
        go_wp2
        go_ret
        refine ⟨_, rfl, by omega, fun _ => ⟨by omega, fun k => ?_⟩, hb⟩
        by_cases hk : k < its.length
        · exact HS.out k hk
        · have : itx its k = ByteArray.empty := by simp [itx, hk]
          rw [this]; simp
end Go.Proofs.YtlnkhbnbcmllaaaGreat
