/- spec.l4Bytes; what a valid store is. -/
import Derived.Test.YtlnkhbnbcmllaaaGreatStoreTo
import Derived.Test.YtlnkhbnbcmllaaaGreatOrder
import Derived.Test.YtlnkhbnbcmllaaaGreatArgs
namespace Go.Proofs.YtlnkhbnbcmllaaaGreat
open Go.RowKit
/-- How many bytes items have together. -/
def totI : Itms → Nat
  | [] => 0
  | p :: r => p.1.size + totI r
theorem totI_append : ∀ (a b : Itms), totI (a ++ b) = totI a + totI b
  | [], b => by simp [totI]
  | p :: a, b => by simp [totI, totI_append a b]; omega
theorem totI_take (its : Itms) (k : Nat) (h : k < its.length) : totI (its.take (k + 1)) = totI (its.take k) + (itx its k).size := by
  rw [List.take_add_one, totI_append, List.getElem?_eq_getElem h]
  simp [totI, itx, h]
theorem totI_mono (its : Itms) (k : Nat) : totI (its.take k) ≤ totI its := by
  have := totI_append (its.take k) (its.drop k)
  rw [List.take_append_drop] at this
  omega
theorem totI_le (M : Nat) : ∀ its : Itms, (∀ i, i < its.length → (itx its i).size ≤ M) → totI its ≤ its.length * M
  | [], _ => by simp [totI]
  | p :: r, h => by
    have h0 : p.1.size ≤ M := by simpa [itx] using h 0 (by simp)
    have ih := totI_le M r fun i hi => by simpa [itx] using h (i + 1) (by simpa using hi)
    simp only [totI, List.length_cons, Nat.succ_mul]
    omega
/-- The sum of a text. -/
def sumX (n : Int) (p : ByteArray) : ByteArray := ⟨(sumOf p.data.toList n).toArray⟩
def itemOk (n : Int) (its : Itms) (i : Nat) : Prop :=
  (1 ≤ (itx its i).size ∧ (itx its i).size ≤ 7000) ∧ (0 ≤ itu its i ∧ itu its i ≤ 1000000) ∧ (0 < i → tlt (sumX n (itx its (i - 1))) (sumX n (itx its i)) = true)
/-- A valid store. -/
structure ValidSt (wd room : Int) (its : Itms) (ts : List ByteArray) : Prop where
  width : isW wd = true
  room0 : 0 ≤ room
  room1 : room ≤ 60000
  items : its.length ≤ 1000
  pins : ts.length ≤ 10
  each : ∀ i, i < its.length → itemOk wd its i
  sums : okSums wd ts
  fits : (totI its : Int) ≤ room
set_option maxRecDepth 100000 in
set_option maxHeartbeats 1000000 in
theorem l4Bytes_any (wd room : Int) (vi vp : Value) (its : Itms) (w : World) (hi : RdI w vi its) (hp : ∃ a l c, vp = .slice a l c) (hl : its.length ≤ 1000) (hsz : ∀ i, i < its.length → (itx its i).size ≤ 7000) :
    Calls Tryz.prog 48 #[.agg #[.int .i64 wd, .int .i64 room, vi, vp]] w fun e w' => e = .returned (.int .i64 (totI its : Nat)) ∧ Below w.heap.size w w' := by
  obtain ⟨ap, lp, cp, rfl⟩ := hp
  have HTL := hid (totI_le 7000 its hsz)
  have HRI := hid hi
  obtain ⟨a, ca, rfl, _⟩ := hi
  have HN := hid (Blk.new w 34 #[.int .i64 wd, .int .i64 room, .slice a its.length ca, .slice ap lp cp])
  have HA := hid ((Below.refl w.heap.size w).alloc (Nat.le_refl _) (.cells #[.int .i64 wd, .int .i64 room, .slice a its.length ca, .slice ap lp cp] 34))
  have HSZ := hid hsz
  clear hsz
  go_enter Tryz.func48, Tryz.ntmps48
  go_wp2
  go_loop [3, 4] (fun n i => ∃ k : Nat, k ≤ its.length ∧ i = .int .i64 k ∧ n = .int .i64 (totI (its.take k) : Nat)) (fun _ i => its.length - (intOf i).toNat)
  case atStart => exact ⟨0, Nat.zero_le _, rfl, rfl⟩
  case round =>
    obtain ⟨k, hk, rfl, rfl⟩ := hrel
    by_cases hlt : k < its.length
    · obtain ⟨a', c', e, hc⟩ := HRI.out.below HA.out
      cases e
      obtain ⟨b, o, rfl, hb, h1, _⟩ := hc k hlt
      have hz := HSZ.out k hlt
      have HT := hid (totI_take its k hlt)
      have ht := totI_mono its k
      have htt := HTL.out
      have hbig : totI (its.take k) ≤ 7000000 := by omega
      generalize itx its k = t at *
      generalize totI (its.take k) = n at *
      clear hc ht htt
      go_wp2
      go_round
      case rel => exact ⟨k + 1, by omega, by go_num, by rw [HT.out]; go_num⟩
      case measure => simp [intOf]; omega
    · obtain rfl : k = its.length := by omega
      rw [List.take_length] at *
      have HB := HA
      go_wp2
      go_ret
      exact ⟨rfl, HB.out⟩
end Go.Proofs.YtlnkhbnbcmllaaaGreat
