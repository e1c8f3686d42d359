/- The reader of drawn bytes, and its pick. -/
import Derived.Test.YtooodilbehnnfaaDoorStrs
import Derived.Test.YtooodilbehnnfaaDoorIter
namespace Go.Proofs.YtooodilbehnnfaaDoor
open Go.RowKit
/-- A reader of drawn bytes: the slice that it reads, and how many have been picked. -/
def Rd (w : World) (rb : Nat) (a : Option Addr) (n cap : Nat) (bs : List Int) (p : Nat) : Prop :=
  w.heap[rb]? = some (.cells #[.slice a n cap, .int .i64 p] 79 (0, 0)) ∧ bs.length = n ∧ n ≤ 2000 ∧ (∀ i, 0 ≤ bs.getD i 0 ∧ bs.getD i 0 ≤ 255) ∧
    ∀ i, i < n → ∃ b off, a = some ⟨b, off, none⟩ ∧ b < rb ∧ w.cell? ⟨b, off + i, none⟩ = some (.int .u8 (bs.getD i 0))
theorem wrap_mid (n : Int) (h0 : 0 ≤ n) (h1 : n < 1000000000000) : IntKind.i64.wrap n = n := by
  simp [IntKind.wrap, IntKind.bits, IntKind.signed]; omega
theorem xor_i64 (a b : Nat) (ha : a < 4611686018427387904) (hb : b < 4611686018427387904) : ∃ Y : Nat, bits .xor .i64 (a : Int) (b : Int) = (Y : Int) := by
  refine ⟨a ^^^ b, ?_⟩
  have hx : a ^^^ b < 2 ^ 62 := Nat.xor_lt_two_pow (by omega) (by omega)
  show IntKind.i64.wrap ((BitVec.ofInt 64 (a : Int) ^^^ BitVec.ofInt 64 (b : Int)).toNat : Int) = _
  rw [BitVec.toNat_xor, ofInt_u64 a (by omega), ofInt_u64 b (by omega)]
  simp [IntKind.wrap, IntKind.bits, IntKind.signed]; omega
set_option maxRecDepth 100000 in
set_option maxHeartbeats 1000000 in
theorem pick_far (rb : Nat) (b off nn cap p i1 i2 : Nat) (y1 y2 : Int) (n q : Int) (w : World) (hc0 : w.cell? ⟨rb, 0, none⟩ = some (.slice (some ⟨b, off, none⟩) nn cap)) (hc1 : w.cell? ⟨rb, 1, none⟩ = some (.int .i64 p)) (hf1 : w.frozen? ⟨rb, 1, none⟩ = false)
    (hne : b ≠ rb) (hn0 : ((nn : Int) == 0) = false) (hnn : 0 < nn) (hlt : ¬ ((p : Int) < (nn : Int))) (h1 : 1 ≤ n) (h2 : n ≤ 100000) (hp : p ≤ 1000000)
    (_eq : IntKind.i64.wrap ((p : Int).tdiv (nn : Int)) = q) (q0 : 0 ≤ q) (q1 : q ≤ 1000000) (hi1 : i1 < nn) (hi2 : i2 < nn) (e1 : ((p : Int)).tmod (nn : Int) = (i1 : Int)) (e2 : ((p : Int) * 7 + 3).tmod (nn : Int) = (i2 : Int))
    (hy1 : w.cell? ⟨b, off + i1, none⟩ = some (.int .u8 y1)) (hy2 : w.cell? ⟨b, off + i2, none⟩ = some (.int .u8 y2)) (b1 : 0 ≤ y1) (b2 : y1 ≤ 255) (b3 : 0 ≤ y2) (b4 : y2 ≤ 255) :
    Calls Tryd.prog 49 #[.pointer (some ⟨rb, 0, none⟩), .int .i64 n] w fun e w' => ∃ x : Nat, e = .returned (.int .i64 x) ∧ (x : Int) < n ∧ ∃ m, w' = (w.setCell ⟨rb, 1, none⟩ (.int .i64 ((p : Int) + 1))).drewN m := by
  have hn1 : ¬ (n < 1) := by omega
  go_enter Tryd.func49, Tryd.ntmps49
  go_wp2
  have hi1' : (i1 : Int) < (nn : Int) := by omega
  have hi2' : (i2 : Int) < (nn : Int) := by omega
  have hnz : ¬ ((nn : Int) = 0) := by omega
  have w1 : IntKind.i64.wrap ((p : Int) * 7) = (p : Int) * 7 := wrap_mid _ (by omega) (by omega)
  have w2 : IntKind.i64.wrap ((p : Int) * 7 + 3) = (p : Int) * 7 + 3 := wrap_mid _ (by omega) (by omega)
  have w3 : IntKind.i64.wrap (y1 * 131) = y1 * 131 := wrap_mid _ (by omega) (by omega)
  have w4 : IntKind.i64.wrap (y2 * 1117) = y2 * 1117 := wrap_mid _ (by omega) (by omega)
  have w5 : IntKind.i64.wrap (y1 * 131 + y2 * 1117) = y1 * 131 + y2 * 1117 := wrap_mid _ (by omega) (by omega)
  have w6 : IntKind.i64.wrap ((p : Int) * 29) = (p : Int) * 29 := wrap_mid _ (by omega) (by omega)
  have w7 : IntKind.i64.wrap (y1 * 131 + y2 * 1117 + (p : Int) * 29) = y1 * 131 + y2 * 1117 + (p : Int) * 29 := wrap_mid _ (by omega) (by omega)
  have w8 : IntKind.i64.wrap (q * 53) = q * 53 := wrap_mid _ (by omega) (by omega)
  have w9 : IntKind.i64.wrap (y1 * 131 + y2 * 1117 + (p : Int) * 29 + q * 53) = y1 * 131 + y2 * 1117 + (p : Int) * 29 + q * 53 := wrap_mid _ (by omega) (by omega)
  go_quiet (fail)
  have hX : ∃ X : Nat, wrap64 (y1 * 131 + y2 * 1117 + (p : Int) * 29 + wrap64 (wrap64 ((p : Int) / (nn : Int)) * 53)) = (X : Int) ∧ X ≤ 1000000000 := by
    have hq : (p : Int) / (nn : Int) ≤ 1000000 := Int.le_trans (Int.ediv_le_self _ (by omega)) (by omega)
    have hq0 : 0 ≤ (p : Int) / (nn : Int) := Int.ediv_nonneg (by omega) (by omega)
    generalize (p : Int) / (nn : Int) = z at *
    refine ⟨(y1 * 131 + y2 * 1117 + (p : Int) * 29 + z * 53).toNat, ?_, by omega⟩
    simp only [wrap64]; omega
  obtain ⟨X, hX, hXb⟩ := hX
  rw [hX]
  obtain ⟨Y, hY⟩ := xor_i64 X (X / 64) (by omega) (by omega)
  have hY' : bits .xor .i64 (X : Int) ((X : Int) / 64) = (Y : Int) := by rw [← hY]; rfl
  clear hX hY w1 w2 w3 w4 w5 w6 w7 w8 w9 _eq e1 e2 hy1 hy2
  go_wp2
  go_ret
  obtain ⟨x, hx⟩ := Int.eq_ofNat_of_zero_le (Int.emod_nonneg (Y : Int) (show n ≠ 0 by omega))
  exact ⟨x, ret_int hx, by rw [← hx]; exact Int.emod_lt_of_pos _ (by omega), nq, rfl⟩
set_option maxRecDepth 100000 in
set_option maxHeartbeats 1000000 in
theorem pick_near (rb : Nat) (b off nn cap p : Nat) (y n : Int) (w : World) (hc0 : w.cell? ⟨rb, 0, none⟩ = some (.slice (some ⟨b, off, none⟩) nn cap)) (hc1 : w.cell? ⟨rb, 1, none⟩ = some (.int .i64 p)) (hf1 : w.frozen? ⟨rb, 1, none⟩ = false)
    (hne : b ≠ rb) (hn0 : ((nn : Int) == 0) = false) (hlt : (p : Int) < (nn : Int)) (h1 : 1 ≤ n) (h2 : n ≤ 100000) (hp : p ≤ 1000000)
    (hy : w.cell? ⟨b, off + p, none⟩ = some (.int .u8 y)) (b1 : 0 ≤ y) (b2 : y ≤ 255) :
    Calls Tryd.prog 49 #[.pointer (some ⟨rb, 0, none⟩), .int .i64 n] w fun e w' => ∃ x : Nat, e = .returned (.int .i64 x) ∧ (x : Int) < n ∧ ∃ m, w' = (w.setCell ⟨rb, 1, none⟩ (.int .i64 ((p : Int) + 1))).drewN m := by
  have hn1 : ¬ (n < 1) := by omega
  go_enter Tryd.func49, Tryd.ntmps49
  go_wp2
  go_ret
  obtain ⟨x, hx⟩ := Int.eq_ofNat_of_zero_le (Int.emod_nonneg y (show n ≠ 0 by omega))
  refine ⟨x, ?_, by rw [← hx]; exact Int.emod_lt_of_pos _ (by omega), 0, rfl⟩
  refine ret_int ?_
  rw [← hx]
set_option maxRecDepth 100000 in
set_option maxHeartbeats 1000000 in
theorem pick_none (rb : Nat) (a : Option Addr) (cap p : Nat) (n : Int) (w : World) (hc0 : w.cell? ⟨rb, 0, none⟩ = some (.slice a 0 cap)) (hc1 : w.cell? ⟨rb, 1, none⟩ = some (.int .i64 p)) (hf1 : w.frozen? ⟨rb, 1, none⟩ = false)
    (h1 : 1 ≤ n) (hp : p ≤ 1000000) :
    Calls Tryd.prog 49 #[.pointer (some ⟨rb, 0, none⟩), .int .i64 n] w fun e w' => ∃ x : Nat, e = .returned (.int .i64 x) ∧ (x : Int) < n ∧ ∃ m, w' = (w.setCell ⟨rb, 1, none⟩ (.int .i64 ((p : Int) + 1))).drewN m := by
  have hn1 : ¬ (n < 1) := by omega
  go_enter Tryd.func49, Tryd.ntmps49
  go_wp2
  go_ret
  exact ⟨0, by simp, by omega, 0, rfl⟩
theorem pick_any (rb : Nat) (a : Option Addr) (nn cap : Nat) (bs : List Int) (p : Nat) (n : Int) (w : World) (h : Rd w rb a nn cap bs p) (h1 : 1 ≤ n) (h2 : n ≤ 100000) (hp : p ≤ 1000000) :
    Calls Tryd.prog 49 #[.pointer (some ⟨rb, 0, none⟩), .int .i64 n] w fun e w' => ∃ x : Nat, e = .returned (.int .i64 x) ∧ (x : Int) < n ∧ Rd w' rb a nn cap bs (p + 1) ∧ w.grownBy w' (some rb) := by
  have fin : Calls Tryd.prog 49 #[.pointer (some ⟨rb, 0, none⟩), .int .i64 n] w fun e w' => ∃ x : Nat, e = .returned (.int .i64 x) ∧ (x : Int) < n ∧ ∃ m, w' = (w.setCell ⟨rb, 1, none⟩ (.int .i64 ((p : Int) + 1))).drewN m := by
    obtain ⟨hh, hl, hn, hb, hc⟩ := h
    have hc0 : w.cell? ⟨rb, 0, none⟩ = some (.slice a nn cap) := by rw [cell_of_heap hh]; rfl
    have hc1 : w.cell? ⟨rb, 1, none⟩ = some (.int .i64 p) := by rw [cell_of_heap hh]; rfl
    have hf1 := frozen_of_heap hh 1
    by_cases h0 : nn = 0
    · subst h0
      exact pick_none rb a cap p n w hc0 hc1 hf1 h1 hp
    · by_cases hlt : p < nn
      · obtain ⟨b, off, rfl, hbr, hy⟩ := hc p hlt
        exact pick_near rb b off nn cap p _ n w hc0 hc1 hf1 (by omega) (by simp; omega) (by omega) h1 h2 hp hy (hb p).1 (hb p).2
      · obtain ⟨b, off, rfl, hbr, _⟩ := hc 0 (by omega)
        have e1 : ((p : Int)).tmod (nn : Int) = ((p % nn : Nat) : Int) := by rw [Int.tmod_eq_emod_of_nonneg (by omega)]; rfl
        have e2 : ((p : Int) * 7 + 3).tmod (nn : Int) = (((p * 7 + 3) % nn : Nat) : Int) := by rw [Int.tmod_eq_emod_of_nonneg (by omega)]; rfl
        have hq : (p : Int).tdiv (nn : Int) = ((p / nn : Nat) : Int) := by rw [Int.tdiv_eq_ediv_of_nonneg (by omega)]; rfl
        have hq2 : p / nn ≤ p := Nat.div_le_self _ _
        generalize p / nn = Q at hq hq2
        have i1 : p % nn < nn := Nat.mod_lt _ (by omega)
        have i2 : (p * 7 + 3) % nn < nn := Nat.mod_lt _ (by omega)
        obtain ⟨b', off', e', _, y1⟩ := hc (p % nn) i1
        obtain ⟨b'', off'', e'', _, y2⟩ := hc ((p * 7 + 3) % nn) i2
        cases e'; cases e''
        exact pick_far rb b off nn cap p (p % nn) ((p * 7 + 3) % nn) _ _ n (Q : Int) w hc0 hc1 hf1 (by omega) (by simp; omega) (by omega) (by omega) h1 h2 hp (by rw [hq]; exact wrap_mid _ (by omega) (by omega)) (by omega) (by omega) i1 i2 e1 e2 y1 y2 (hb _).1 (hb _).2 (hb _).1 (hb _).2
  refine fin.mono ?_
  rintro e w' ⟨x, rfl, hx, m, rfl⟩
  obtain ⟨hh, hl, hn, hb, hc⟩ := h
  have hg := heap_setCell_same w rb 1 _ _ (.int .i64 ((p : Int) + 1)) hh
  refine ⟨x, rfl, hx, ⟨hg, hl, hn, hb, fun i hi => ?_⟩, ⟨rfl, rfl, rfl, by show w.heap.size ≤ (w.setCell _ _).heap.size; simp, fun j hj hne => heap_setCell_other _ _ _ _ (fun e => hne (by rw [e]))⟩⟩
  obtain ⟨b, off, ea, hbr, hy⟩ := hc i hi
  refine ⟨b, off, ea, hbr, ?_⟩
  have : (w.setCell ⟨rb, 1, none⟩ (.int .i64 ((p : Int) + 1))).heap[b]? = w.heap[b]? := heap_setCell_other _ _ _ _ (by show b ≠ rb; omega)
  exact (World.cell?_of_block (w := w) (w' := (w.setCell ⟨rb, 1, none⟩ (.int .i64 ((p : Int) + 1))).drewN m) (a := ⟨b, off + i, none⟩) this).trans hy
end Go.Proofs.YtooodilbehnnfaaDoor
