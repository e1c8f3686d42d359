/- impl.areSums, impl.isSet, impl.cloneTexts. -/
import Derived.Test.YtlnkhbnbcmllaaaGreatSetOk
import Derived.Test.YtlnkhbnbcmllaaaGreatCut
import Derived.Test.YtlnkhbnbcmllaaaGreatClone
namespace Go.Proofs.YtlnkhbnbcmllaaaGreat
open Go.RowKit
def lastOf (ts : List ByteArray) (k : Nat) : ByteArray := if k = 0 then ⟨#[]⟩ else tv ts (k - 1)
theorem okAt_iff {n : Int} {ts : List ByteArray} {k : Nat} (hn : 1 ≤ n) : okAt n ts k ↔ ((tv ts k).size : Int) = n ∧ tlt (lastOf ts k) (tv ts k) = true := by
  unfold okAt lastOf
  cases k with
  | zero =>
    refine ⟨fun h => ⟨h.1, ?_⟩, fun h => ⟨h.1, fun h0 => absurd h0 (by omega)⟩⟩
    have h1 := h.1
    rw [if_pos rfl]
    unfold tlt
    rw [ByteArray.toList_eq, ByteArray.toList_eq]
    generalize tv ts 0 = x at *
    have hs : x.data.toList.length = x.size := by rw [Array.length_toList]; rfl
    cases hx : x.data.toList with
    | nil => rw [hx] at hs; simp at hs; omega
    | cons a l => rfl
  | succ k => simp
set_option maxRecDepth 100000 in
set_option maxHeartbeats 1000000 in
theorem areSums_any (v : Value) (ts : List ByteArray) (n : Int) (w : World) (hv : Reads w v ts) (hl : ts.length ≤ maxLen) (hsz : ∀ i, (tv ts i).size ≤ maxLen) (hn : 1 ≤ n) :
    Calls Tryz.prog 80 #[v, .int .i64 n] w fun e w' => ∃ b, e = .returned (.bool b) ∧ (b = true ↔ okSums n ts) ∧ w' = w := by
  unfold maxLen at hl
  obtain ⟨a, ca, rfl, hca⟩ := hv.form
  have HC : Hid (∀ i, i < ts.length → ∃ b off, a = some ⟨b, off, none⟩ ∧ b < w.heap.size ∧ w.cell? ⟨b, off + i, none⟩ = some (.string (tv ts i))) := hca
  have HSZ := hid hsz
  have HI : Hid (∀ k, okAt n ts k ↔ ((tv ts k).size : Int) = n ∧ tlt (lastOf ts k) (tv ts k) = true) := fun k => okAt_iff hn
  have HQ : Hid (∀ k, lastOf ts (k + 1) = tv ts k) := fun k => by simp [lastOf]
  clear hca hv hsz
  go_enter Tryz.func80, Tryz.ntmps80
  go_wp2
  go_loop [5, 10] (fun l i => ∃ k : Nat, k ≤ ts.length ∧ i = .int .i64 k ∧ l = .string (lastOf ts k) ∧ (∀ j, j < k → okAt n ts j)) (fun _ i => ts.length - (intOf i).toNat)
  case atStart => exact ⟨0, Nat.zero_le _, rfl, rfl, fun j hj => absurd hj (by omega)⟩
  case round =>
    obtain ⟨k, hk, rfl, rfl, hok⟩ := hrel
    have HOK := hid hok
    clear hok
    by_cases hlt : k < ts.length
    · obtain ⟨b1, o1, rfl, hb1, hc1⟩ := HC.out k hlt
      have hz := HSZ.out k
      unfold maxLen at hz
      have hi := HI.out k
      generalize lastOf ts k = l at *
      generalize htx : tv ts k = t at *
      have HTX := hid htx
      by_cases hs : (t.size : Int) = n
      · cases hp : tlt l t with
        | true =>
          have HA : Hid (okAt n ts k) := hi.2 ⟨hs, hp⟩
          have hle := tlt_leq t l
          rw [hp] at hle
          have hl1 : Op.bytesLess t.toList l.toList = false := (Bool.or_eq_false_iff.1 hle).1
          have hl2 : (t.toList == l.toList) = false := (Bool.or_eq_false_iff.1 hle).2
          clear hi hle hp htx
          go_wp2
          go_round
          case rel => exact ⟨k + 1, by omega, by go_num, by rw [HQ.out k, HTX.out], fun j hj => (Nat.lt_or_eq_of_le (Nat.le_of_lt_succ hj)).elim (HOK.out j) (fun e => e ▸ HA.out)⟩
          case measure => simp [intOf]; omega
        | false =>
          have HA : Hid (¬ okAt n ts k) := fun h => by have := (hi.1 h).2; rw [hp] at this; cases this
          have hle := tlt_leq t l
          rw [hp] at hle
          clear hi hp htx
          cases hl1 : Op.bytesLess t.toList l.toList with
          | true =>
            clear hle
            go_wp2
            go_ret
            exact .inl ⟨rfl, fun h => absurd (h _ hlt) HA.out, rfl⟩
          | false =>
            have hl2 : (t.toList == l.toList) = true := by rw [hl1] at hle; simpa using hle
            clear hle
            go_wp2
            go_ret
            exact .inl ⟨rfl, fun h => absurd (h _ hlt) HA.out, rfl⟩
      · have HA : Hid (¬ okAt n ts k) := fun h => hs (hi.1 h).1
        clear hi htx
        go_wp2
        go_ret
        exact .inl ⟨rfl, fun h => absurd (h _ hlt) HA.out, rfl⟩
    · obtain rfl : k = ts.length := by omega
      go_wp2
      go_ret
      exact .inr ⟨rfl, HOK.out, rfl⟩
set_option maxRecDepth 100000 in
set_option maxHeartbeats 1000000 in
theorem cloneTexts_any (v : Value) (ts : List ByteArray) (w : World) (hv : Reads w v ts) (hl : ts.length ≤ 1048576) (hsz : ∀ i, (tv ts i).size ≤ 1048576) :
    Calls Tryz.prog 84 #[v] w fun e w' => ∃ v', e = .returned v' ∧ w'.ownsRow w.heap.size 9 1 v' ts.length (ts.map Value.string) ∧ Below w.heap.size w w' := by
  obtain ⟨i0, hi, hz0, hz1, hz2⟩ := info_parts Tryz.info9
  obtain ⟨a, ca, rfl, hca⟩ := hv.form
  have HC : Hid (∀ i, i < ts.length → ∃ b off, a = some ⟨b, off, none⟩ ∧ b < w.heap.size ∧ w.cell? ⟨b, off + i, none⟩ = some (.string (tv ts i))) := hca
  have HSZ := hid hsz
  clear hca hv hsz
  go_enter Tryz.func84, Tryz.ntmps84
  go_wp2
  go_loopw [3, 8] (fun v' i wr => ∃ k : Nat, k ≤ ts.length ∧ i = .int .i64 k ∧ wr.ownsRow w.heap.size 9 1 v' k ((ts.take k).map Value.string) ∧ Below w.heap.size w wr) (fun _ i _ => ts.length - (intOf i).toNat)
  case atStart => exact ⟨0, Nat.zero_le _, rfl, World.ownsRow_nil _ _ _ _, Below.refl _ _⟩
  case round =>
    obtain ⟨k, hk, rfl, hown, hb⟩ := hrel
    by_cases hlt : k < ts.length
    · obtain ⟨b1, o1, rfl, hb1, hc1⟩ := HC.out k hlt
      have hd1 := (hb.cell (p := ⟨b1, o1 + k, none⟩) hb1).trans hc1
      have HCL := hid fun W => stringsClone_any (tv ts k) W (by have := HSZ.out k; omega)
      have HN : Hid (ts.take (k + 1) = ts.take k ++ [tv ts k]) := by
        show ts.take (k + 1) = ts.take k ++ [tv ts k]
        rw [List.take_succ_eq_append_getElem hlt]; simp [tv, hlt]
      generalize tv ts k = x at *
      have hsz := hb.size
      clear hc1
      go_wp2_with (first | (go_at_call 59; refine (HCL.out _).mono ?_; rintro e w1 ⟨rfl, hb1⟩; have hown1 := Below.row hb1 hown; have hbb := hb.trans (hb1.mono hb.size); have hbs := hbb.size; clear hown hb1 hb) | (at_builtin; refine wpList_append_own _ rfl _ _ 23 rfl w.heap.size 9 i0 (.string ⟨#[]⟩) 1 16 Tryz.underlying23 hi hz0 hz1 hz2 rfl (by decide) _ _ _ rfl (hown1.alloc _) ⟨_, 0, none⟩ 1 1 [.string x] rfl rfl (cell_one_new _ _ _) (by simp [Value.oneCell']) (by unfold maxLen; omega) (by omega) (by simp; omega) ?_; intro v' w2 hown' hgrow _))
      have hb2 : Below w.heap.size w w2 := append_below hbb hown1 hgrow hbs
      refine ⟨⟨k + 1, by omega, by go_num, ?_, hb2⟩, by simp [intOf]; omega⟩
      rw [HN.out]; simpa using hown'
    · obtain rfl : k = ts.length := by omega
      rw [List.take_length] at hown
      go_wp2
      go_ret
      exact ⟨_, rfl, hown, hb⟩
end Go.Proofs.YtlnkhbnbcmllaaaGreat
