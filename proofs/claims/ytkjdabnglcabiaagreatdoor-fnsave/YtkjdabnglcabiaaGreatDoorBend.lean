import Derived.Test.YtkjdabnglcabiaaGreatDoorStrs
import Derived.Test.YtkjdabnglcabiaaGreatDoorPiecesBase
import Derived.Test.YtkjdabnglcabiaaGreatDoorRingA
import Derived.Deep.RegionWith
import Derived.Test.YtkjdabnglcabiaaGreatDoorHeapMath
/- The reader of drawn bytes, and its pick. -/
namespace Go.Proofs.YtkjdabnglcabiaaGreatDoor
open Go.RowKit
/-- A reader of drawn bytes: the slice that it reads, and how many have been picked. -/
def Rd (w : World) (rb : Nat) (a : Option Addr) (n cap : Nat) (bs : List Int) (p : Nat) : Prop :=
 w.heap[rb]? = some (.cells #[.slice a n cap, .int .i64 p] 68 (0, 0)) ∧ bs.length = n ∧ n ≤ 2000 ∧ (∀ i, 0 ≤ bs.getD i 0 ∧ bs.getD i 0 ≤ 255) ∧
  ∀ i, i < n → ∃ b off, a = some ⟨b, off, none⟩ ∧ b < rb ∧ w.cell? ⟨b, off + i, none⟩ = some (.int .u8 (bs.getD i 0))
theorem wrap_mid (n : Int) (h0 : 0 ≤ n) (h1 : n < 1000000000000) : IntKind.i64.wrap n = n := by
 simp [IntKind.wrap, IntKind.bits, IntKind.signed]; omega
theorem xor_i64 (a b : Nat) (ha : a < 4611686018427387904) (hb : b < 4611686018427387904) : ∃ Y : Nat, bits .xor .i64 (a : Int) (b : Int) = (Y : Int) := by
 refine ⟨a ^^^ b, ?_⟩
 have hx : a ^^^ b < 2 ^ 62 := Nat.xor_lt_two_pow (by omega) (by omega)
 show IntKind.i64.wrap ((BitVec.ofInt 64 (a : Int) ^^^ BitVec.ofInt 64 (b : Int)).toNat : Int) = _
 rw [BitVec.toNat_xor, ofInt_u64 a (by omega), ofInt_u64 b (by omega)]
 simp [IntKind.wrap, IntKind.bits, IntKind.signed]; omega
set_option maxRecDepth 100000 in
set_option maxHeartbeats 1000000 in
theorem pick_far (rb : Nat) (b off nn cap p i1 i2 : Nat) (y1 y2 : Int) (n q : Int) (w : World) (hc0 : w.cell? ⟨rb, 0, none⟩ = some (.slice (some ⟨b, off, none⟩) nn cap)) (hc1 : w.cell? ⟨rb, 1, none⟩ = some (.int .i64 p)) (hf1 : w.frozen? ⟨rb, 1, none⟩ = false)
  (hne : b ≠ rb) (hn0 : ((nn : Int) == 0) = false) (hnn : 0 < nn) (hlt : ¬ ((p : Int) < (nn : Int))) (h1 : 1 ≤ n) (h2 : n ≤ 100000) (hp : p ≤ 1000000)
  (_eq : IntKind.i64.wrap ((p : Int).tdiv (nn : Int)) = q) (q0 : 0 ≤ q) (q1 : q ≤ 1000000) (hi1 : i1 < nn) (hi2 : i2 < nn) (e1 : ((p : Int)).tmod (nn : Int) = (i1 : Int)) (e2 : ((p : Int) * 7 + 3).tmod (nn : Int) = (i2 : Int))
  (hy1 : w.cell? ⟨b, off + i1, none⟩ = some (.int .u8 y1)) (hy2 : w.cell? ⟨b, off + i2, none⟩ = some (.int .u8 y2)) (b1 : 0 ≤ y1) (b2 : y1 ≤ 255) (b3 : 0 ≤ y2) (b4 : y2 ≤ 255) :
  Calls Tryz.prog 15 #[.pointer (some ⟨rb, 0, none⟩), .int .i64 n] w fun e w' => ∃ x : Nat, e = .returned (.int .i64 x) ∧ (x : Int) < n ∧ ∃ m, w' = (w.setCell ⟨rb, 1, none⟩ (.int .i64 ((p : Int) + 1))).drewN m := by
 have hn1 : ¬ (n < 1) := by omega
 go_enter Tryz.func15, Tryz.ntmps15
 go_wp2
 have hi1' : (i1 : Int) < (nn : Int) := by omega
 have hi2' : (i2 : Int) < (nn : Int) := by omega
 have hnz : ¬ ((nn : Int) = 0) := by omega
 have w1 : IntKind.i64.wrap ((p : Int) * 7) = (p : Int) * 7 := wrap_mid _ (by omega) (by omega)
 have w2 : IntKind.i64.wrap ((p : Int) * 7 + 3) = (p : Int) * 7 + 3 := wrap_mid _ (by omega) (by omega)
 have w3 : IntKind.i64.wrap (y1 * 131) = y1 * 131 := wrap_mid _ (by omega) (by omega)
 have w4 : IntKind.i64.wrap (y2 * 1117) = y2 * 1117 := wrap_mid _ (by omega) (by omega)
 have w5 : IntKind.i64.wrap (y1 * 131 + y2 * 1117) = y1 * 131 + y2 * 1117 := wrap_mid _ (by omega) (by omega)
 have w6 : IntKind.i64.wrap ((p : Int) * 29) = (p : Int) * 29 := wrap_mid _ (by omega) (by omega)
 have w7 : IntKind.i64.wrap (y1 * 131 + y2 * 1117 + (p : Int) * 29) = y1 * 131 + y2 * 1117 + (p : Int) * 29 := wrap_mid _ (by omega) (by omega)
 have w8 : IntKind.i64.wrap (q * 53) = q * 53 := wrap_mid _ (by omega) (by omega)
 have w9 : IntKind.i64.wrap (y1 * 131 + y2 * 1117 + (p : Int) * 29 + q * 53) = y1 * 131 + y2 * 1117 + (p : Int) * 29 + q * 53 := wrap_mid _ (by omega) (by omega)
 go_quiet (fail)
 have hX : ∃ X : Nat, wrap64 (y1 * 131 + y2 * 1117 + (p : Int) * 29 + wrap64 (wrap64 ((p : Int) / (nn : Int)) * 53)) = (X : Int) ∧ X ≤ 1000000000 := by
  have hq : (p : Int) / (nn : Int) ≤ 1000000 := Int.le_trans (Int.ediv_le_self _ (by omega)) (by omega)
  have hq0 : 0 ≤ (p : Int) / (nn : Int) := Int.ediv_nonneg (by omega) (by omega)
  generalize (p : Int) / (nn : Int) = z at *
  refine ⟨(y1 * 131 + y2 * 1117 + (p : Int) * 29 + z * 53).toNat, ?_, by omega⟩
  simp only [wrap64]; omega
 obtain ⟨X, hX, hXb⟩ := hX
 rw [hX]
 obtain ⟨Y, hY⟩ := xor_i64 X (X / 64) (by omega) (by omega)
 have hY' : bits .xor .i64 (X : Int) ((X : Int) / 64) = (Y : Int) := by rw [← hY]; rfl
 clear hX hY w1 w2 w3 w4 w5 w6 w7 w8 w9 _eq e1 e2 hy1 hy2
 go_wp2
 go_ret
 obtain ⟨x, hx⟩ := Int.eq_ofNat_of_zero_le (Int.emod_nonneg (Y : Int) (show n ≠ 0 by omega))
 exact ⟨x, ret_int hx, by rw [← hx]; exact Int.emod_lt_of_pos _ (by omega), nq, rfl⟩
set_option maxRecDepth 100000 in
set_option maxHeartbeats 1000000 in
theorem pick_near (rb : Nat) (b off nn cap p : Nat) (y n : Int) (w : World) (hc0 : w.cell? ⟨rb, 0, none⟩ = some (.slice (some ⟨b, off, none⟩) nn cap)) (hc1 : w.cell? ⟨rb, 1, none⟩ = some (.int .i64 p)) (hf1 : w.frozen? ⟨rb, 1, none⟩ = false)
  (hne : b ≠ rb) (hn0 : ((nn : Int) == 0) = false) (hlt : (p : Int) < (nn : Int)) (h1 : 1 ≤ n) (h2 : n ≤ 100000) (hp : p ≤ 1000000)
  (hy : w.cell? ⟨b, off + p, none⟩ = some (.int .u8 y)) (b1 : 0 ≤ y) (b2 : y ≤ 255) :
  Calls Tryz.prog 15 #[.pointer (some ⟨rb, 0, none⟩), .int .i64 n] w fun e w' => ∃ x : Nat, e = .returned (.int .i64 x) ∧ (x : Int) < n ∧ ∃ m, w' = (w.setCell ⟨rb, 1, none⟩ (.int .i64 ((p : Int) + 1))).drewN m := by
 have hn1 : ¬ (n < 1) := by omega
 go_enter Tryz.func15, Tryz.ntmps15
 go_wp2
 go_ret
 obtain ⟨x, hx⟩ := Int.eq_ofNat_of_zero_le (Int.emod_nonneg y (show n ≠ 0 by omega))
 refine ⟨x, ?_, by rw [← hx]; exact Int.emod_lt_of_pos _ (by omega), 0, rfl⟩
 refine ret_int ?_
 rw [← hx]
set_option maxRecDepth 100000 in
set_option maxHeartbeats 1000000 in
theorem pick_none (rb : Nat) (a : Option Addr) (cap p : Nat) (n : Int) (w : World) (hc0 : w.cell? ⟨rb, 0, none⟩ = some (.slice a 0 cap)) (hc1 : w.cell? ⟨rb, 1, none⟩ = some (.int .i64 p)) (hf1 : w.frozen? ⟨rb, 1, none⟩ = false)
  (h1 : 1 ≤ n) (hp : p ≤ 1000000) :
  Calls Tryz.prog 15 #[.pointer (some ⟨rb, 0, none⟩), .int .i64 n] w fun e w' => ∃ x : Nat, e = .returned (.int .i64 x) ∧ (x : Int) < n ∧ ∃ m, w' = (w.setCell ⟨rb, 1, none⟩ (.int .i64 ((p : Int) + 1))).drewN m := by
 have hn1 : ¬ (n < 1) := by omega
 go_enter Tryz.func15, Tryz.ntmps15
 go_wp2
 go_ret
 exact ⟨0, by simp, by omega, 0, rfl⟩
theorem pick_any (rb : Nat) (a : Option Addr) (nn cap : Nat) (bs : List Int) (p : Nat) (n : Int) (w : World) (h : Rd w rb a nn cap bs p) (h1 : 1 ≤ n) (h2 : n ≤ 100000) (hp : p ≤ 1000000) :
  Calls Tryz.prog 15 #[.pointer (some ⟨rb, 0, none⟩), .int .i64 n] w fun e w' => ∃ x : Nat, e = .returned (.int .i64 x) ∧ (x : Int) < n ∧ Rd w' rb a nn cap bs (p + 1) ∧ w.grownBy w' (some rb) := by
 have fin : Calls Tryz.prog 15 #[.pointer (some ⟨rb, 0, none⟩), .int .i64 n] w fun e w' => ∃ x : Nat, e = .returned (.int .i64 x) ∧ (x : Int) < n ∧ ∃ m, w' = (w.setCell ⟨rb, 1, none⟩ (.int .i64 ((p : Int) + 1))).drewN m := by
  obtain ⟨hh, hl, hn, hb, hc⟩ := h
  have hc0 : w.cell? ⟨rb, 0, none⟩ = some (.slice a nn cap) := by rw [cell_of_heap hh]; rfl
  have hc1 : w.cell? ⟨rb, 1, none⟩ = some (.int .i64 p) := by rw [cell_of_heap hh]; rfl
  have hf1 := frozen_of_heap hh 1
  by_cases h0 : nn = 0
  ·subst h0
   exact pick_none rb a cap p n w hc0 hc1 hf1 h1 hp
  ·by_cases hlt : p < nn
   ·obtain ⟨b, off, rfl, hbr, hy⟩ := hc p hlt
    exact pick_near rb b off nn cap p _ n w hc0 hc1 hf1 (by omega) (by simp; omega) (by omega) h1 h2 hp hy (hb p).1 (hb p).2
   ·obtain ⟨b, off, rfl, hbr, _⟩ := hc 0 (by omega)
    have e1 : ((p : Int)).tmod (nn : Int) = ((p % nn : Nat) : Int) := by rw [Int.tmod_eq_emod_of_nonneg (by omega)]; rfl
    have e2 : ((p : Int) * 7 + 3).tmod (nn : Int) = (((p * 7 + 3) % nn : Nat) : Int) := by rw [Int.tmod_eq_emod_of_nonneg (by omega)]; rfl
    have hq : (p : Int).tdiv (nn : Int) = ((p / nn : Nat) : Int) := by rw [Int.tdiv_eq_ediv_of_nonneg (by omega)]; rfl
    have hq2 : p / nn ≤ p := Nat.div_le_self _ _
    generalize p / nn = Q at hq hq2
    have i1 : p % nn < nn := Nat.mod_lt _ (by omega)
    have i2 : (p * 7 + 3) % nn < nn := Nat.mod_lt _ (by omega)
    obtain ⟨b', off', e', _, y1⟩ := hc (p % nn) i1
    obtain ⟨b'', off'', e'', _, y2⟩ := hc ((p * 7 + 3) % nn) i2
    cases e'; cases e''
    exact pick_far rb b off nn cap p (p % nn) ((p * 7 + 3) % nn) _ _ n (Q : Int) w hc0 hc1 hf1 (by omega) (by simp; omega) (by omega) (by omega) h1 h2 hp (by rw [hq]; exact wrap_mid _ (by omega) (by omega)) (by omega) (by omega) i1 i2 e1 e2 y1 y2 (hb _).1 (hb _).2 (hb _).1 (hb _).2
 refine fin.mono ?_
 rintro e w' ⟨x, rfl, hx, m, rfl⟩
 obtain ⟨hh, hl, hn, hb, hc⟩ := h
 have hg := heap_setCell_same w rb 1 _ _ (.int .i64 ((p : Int) + 1)) hh
 refine ⟨x, rfl, hx, ⟨hg, hl, hn, hb, fun i hi => ?_⟩, ⟨rfl, rfl, rfl, by show w.heap.size ≤ (w.setCell _ _).heap.size; simp, fun j hj hne => heap_setCell_other _ _ _ _ (fun e => hne (by rw [e]))⟩⟩
 obtain ⟨b, off, ea, hbr, hy⟩ := hc i hi
 refine ⟨b, off, ea, hbr, ?_⟩
 have : (w.setCell ⟨rb, 1, none⟩ (.int .i64 ((p : Int) + 1))).heap[b]? = w.heap[b]? := heap_setCell_other _ _ _ _ (by show b ≠ rb; omega)
 exact (World.cell?_of_block (w := w) (w' := (w.setCell ⟨rb, 1, none⟩ (.int .i64 ((p : Int) + 1))).drewN m) (a := ⟨b, off + i, none⟩) this).trans hy
end Go.Proofs.YtkjdabnglcabiaaGreatDoor
/- l1Many, and what keeps a reader. -/
namespace Go.Proofs.YtkjdabnglcabiaaGreatDoor
open Go.RowKit
theorem Rd.keep {w w' : World} {rb : Nat} {a : Option Addr} {nn cap : Nat} {bs : List Int} {p : Nat} (h : Rd w rb a nn cap bs p) (hb : Below (rb + 1) w w') : Rd w' rb a nn cap bs p := by
 obtain ⟨hh, hl, hn, hbb, hc⟩ := h
 refine ⟨(hb.block rb (by omega)).trans hh, hl, hn, hbb, fun i hi => ?_⟩
 obtain ⟨b, off, ea, hbr, hy⟩ := hc i hi
 exact ⟨b, off, ea, hbr, (hb.cell (p := ⟨b, off + i, none⟩) (by show b < rb + 1; omega)).trans hy⟩
theorem Rd.lt {w : World} {rb : Nat} {a : Option Addr} {nn cap : Nat} {bs : List Int} {p : Nat} (h : Rd w rb a nn cap bs p) : rb < w.heap.size := (Array.getElem?_eq_some_iff.1 h.1).1
set_option maxRecDepth 100000 in
set_option maxHeartbeats 1000000 in
theorem l1Many_any (s : ByteArray) (n : Nat) (w : World) (hs : s.size ≤ 10) (hn : n ≤ 3001) :
  Calls Tryz.prog 16 #[.string s, .int .i64 n] w fun e w' => ∃ t : ByteArray, e = .returned (.string t) ∧ t.size ≤ s.size * n ∧ w' = w := by
 go_enter Tryz.func16, Tryz.ntmps16
 go_wp2
 go_loop [0, 1, 5] (fun x m out => ∃ (t u : ByteArray) (k : Nat), x = .string t ∧ m = .int .i64 k ∧ out = .string u ∧ u.size + t.size * k ≤ s.size * n ∧ k ≤ n ∧ t.size ≤ 70000) (fun _ m _ => (intOf m).toNat)
 case atStart => exact ⟨s, ⟨#[]⟩, n, rfl, rfl, rfl, by show 0 + s.size * n ≤ s.size * n; omega, by omega, by omega⟩
 case round =>
  obtain ⟨t, u, k, rfl, rfl, rfl, h1, h2, h4⟩ := hrel
  have hsn : s.size * n ≤ 30010 := by have := Nat.mul_le_mul hs hn; omega
  have hu : u.size ≤ 30010 := by omega
  by_cases hk : 0 < k
  ·have ht : t.size ≤ 30010 := by have := Nat.le_mul_of_pos_right t.size hk; omega
   by_cases hodd : k % 2 = 1
   ·have ho : ((k : Int) % 2 == 1) = true := by simp; omega
    obtain ⟨j, rfl⟩ : ∃ j, k = 2 * j + 1 := ⟨k / 2, by omega⟩
    have HJ : Hid (u.size + t.size + (t.size + t.size) * j ≤ s.size * n) := by
     show _ ≤ _
     rw [Nat.mul_add, Nat.mul_comm 2 j, ← Nat.mul_assoc] at h1; rw [Nat.add_mul]; omega
    clear h1
    go_wp2
    exact ⟨⟨t ++ t, u ++ t, j, rfl, by go_num, rfl, by rw [ByteArray.size_append, ByteArray.size_append]; exact HJ.out, by omega, by rw [ByteArray.size_append]; omega⟩, by simp [intOf]; omega⟩
   ·have ho : ((k : Int) % 2 == 1) = false := by simp; omega
    obtain ⟨j, rfl⟩ : ∃ j, k = 2 * j := ⟨k / 2, by omega⟩
    have HJ : Hid (u.size + (t.size + t.size) * j ≤ s.size * n) := by
     show _ ≤ _
     rw [Nat.mul_comm 2 j, ← Nat.mul_assoc] at h1; rw [Nat.add_mul]; omega
    clear h1
    go_wp2
    exact ⟨⟨t ++ t, u, j, rfl, by go_num, rfl, by rw [ByteArray.size_append]; exact HJ.out, by omega, by rw [ByteArray.size_append]; omega⟩, by simp [intOf]; omega⟩
  ·obtain rfl : k = 0 := by omega
   go_wp2
   go_ret
   exact ⟨u, rfl, by omega, rfl⟩
end Go.Proofs.YtkjdabnglcabiaaGreatDoor
/- l2Thing draws a text. -/
namespace Go.Proofs.YtkjdabnglcabiaaGreatDoor
open Go.RowKit
theorem grown_below {w w' : World} {rb : Nat} (hg : w.grownBy w' (some rb)) (h : rb < w.heap.size) : Below rb w w' :=
 (Below.refl rb w).grown hg (by omega) (fun k e => by cases e; exact Nat.le_refl _)
theorem grown_thing {A B C : World} {o : Option Nat} (h : A.grownBy B o) (k : B.grownBy C o) : A.grownBy C o :=
 ⟨k.os.trans h.os, k.tape.trans h.tape, k.output.trans h.output, Nat.le_trans h.size k.size, fun j hj hne => (k.block j (Nat.lt_of_lt_of_le hj h.size) hne).trans (h.block j hj hne)⟩
theorem Tryz.info5 : (Tryz.prog.info? 5).map (fun i => (i.zero, i.size, i.bytes)) = some (some (.int .u8 0), 1, 1) := by kernel_rfl
theorem conv_row {w : World} {base k : Nat} {v : Value} {ys : List Int} (h : w.ownsRow base 5 1 v k (ys.map (Value.int .u8))) :
  (convert 22 9 v).run Tryz.prog w = .ok (.string (strOfNums ys)) w := by
 have hl : ys.length = k := by have := h.1; simpa using this
 rcases h with ⟨h1, ⟨rfl, rfl⟩ | ⟨g, cap, cur, rfl, hb, hg, hn, hm, hs, hx⟩⟩
 ·have : ys = [] := List.eq_nil_of_length_eq_zero hl
  subst this
  exact run_convert_bytes_nil w 22 5 Tryz.underlying22 Tryz.underlying5 0 0 9 Tryz.underlying9
 ·have hr : w.ownsRow base 5 1 (.slice (some ⟨g, 0, none⟩) k cap) k (ys.map (Value.int .u8)) := ⟨h1, .inr ⟨g, cap, cur, rfl, hb, hg, hn, hm, hs, hx⟩⟩
  refine run_convert_bytes_arg w 22 5 Tryz.underlying22 Tryz.underlying5 g 0 k cap ys hl (fun i hi => ?_) 9 Tryz.underlying9
  rw [Nat.zero_add, hr.cellAt i (by omega)]
  have : i < ys.length := by omega
  simp [this]
set_option maxRecDepth 100000 in
set_option maxHeartbeats 2000000 in
theorem l2Thing_own (rb : Nat) (a : Option Addr) (nn cap : Nat) (bs : List Int) (p : Nat) (w : World) (h : Rd w rb a nn cap bs p) (hp : p ≤ 900000) :
  Calls Tryz.prog 14 #[.pointer (some ⟨rb, 0, none⟩)] w fun e w' => ∃ t : ByteArray, e = .returned (.string t) ∧ t.size ≤ 3000 ∧ ∃ p', p' ≤ p + 5 ∧ Rd w' rb a nn cap bs p' ∧ w.grownBy w' (some rb) := by
 have HP := hid fun (q : Nat) (n : Int) (W : World) (hr : Rd W rb a nn cap bs q) (h1 : 1 ≤ n) (h2 : n ≤ 100000) (hq : q ≤ 1000000) => pick_any rb a nn cap bs q n W hr h1 h2 hq
 go_enter Tryz.func14, Tryz.ntmps14
 go_wp2_with fail
 refine (HP.out p 10 _ h (by omega) (by omega) (by omega)).mono ?_
 rintro e w1 ⟨x, rfl, hx, hr1, hg1⟩
 have hb1 := grown_below hg1 h.lt
 have HG1 := hid hg1
 have hwB := hg1.size
 have hx4 : x = 0 ∨ x = 1 ∨ x = 2 ∨ x = 3 ∨ 4 ≤ x := by omega
 have HR := hid hr1
 clear hr1 h
 rcases hx4 with rfl | rfl | rfl | rfl | hx4
 ·go_wp2
  go_ret
  exact ⟨_, rfl, by simp [ByteArray.size], p + 1, by omega, HR.out, HG1.out⟩
 ·go_wp2_with fail
  refine (HP.out (p + 1) 200 _ HR.out (by omega) (by omega) (by omega)).mono ?_
  rintro e w2 ⟨y, rfl, hy, hr2, hg2⟩
  have HG2 := hid (grown_thing HG1.out hg2)
  have HR2 := hid hr2
  clear hr2
  go_wp2_with fail
  refine (l1Many_any ⟨#[122]⟩ y _ (by decide) (by omega)).mono ?_
  rintro e w3 ⟨t, rfl, ht, rfl⟩
  go_wp2
  go_ret
  exact ⟨t, rfl, Nat.le_trans ht (by show 1 * y ≤ 3000; omega), p + 1 + 1, by omega, HR2.out, HG2.out⟩
 ·go_wp2_with fail
  refine (HP.out (p + 1) 30 _ HR.out (by omega) (by omega) (by omega)).mono ?_
  rintro e w2 ⟨y, rfl, hy, hr2, hg2⟩
  have HG2 := hid (grown_thing HG1.out hg2)
  have HR2 := hid hr2
  clear hr2
  go_wp2_with fail
  refine (l1Many_any ⟨#[97, 98, 99, 100, 101, 102, 103, 104, 105, 106]⟩ y _ (by decide) (by omega)).mono ?_
  rintro e w3 ⟨t, rfl, ht, rfl⟩
  go_wp2
  go_ret
  exact ⟨t, rfl, Nat.le_trans ht (by show 10 * y ≤ 3000; omega), p + 1 + 1, by omega, HR2.out, HG2.out⟩
 ·go_wp2_with fail
  refine (HP.out (p + 1) 2 _ HR.out (by omega) (by omega) (by omega)).mono ?_
  rintro e w2 ⟨y, rfl, hy, hr2, hg2⟩
  have HG2 := hid (grown_thing HG1.out hg2)
  have HR2 := hid hr2
  clear hr2
  go_wp2_with fail
  rw [show (3000 : Int) - (y : Int) = ((3000 - y : Nat) : Int) by omega]
  refine (l1Many_any ⟨#[109]⟩ (3000 - y) _ (by decide) (by omega)).mono ?_
  rintro e w3 ⟨t, rfl, ht, rfl⟩
  go_wp2
  go_ret
  exact ⟨t, rfl, Nat.le_trans ht (by show 1 * (3000 - y) ≤ 3000; omega), p + 1 + 1, by omega, HR2.out, HG2.out⟩
 ·have h0 : ((x : Int) == 0) = false := by simp; omega
  have h1 : ((x : Int) == 1) = false := by simp; omega
  have h2 : ((x : Int) == 2) = false := by simp; omega
  have h3 : ((x : Int) == 3) = false := by simp; omega
  have ho1 : (w1.alloc (.cells #[] 5)).ownsRow w1.heap.size 5 1 (.slice (some ⟨w1.heap.size, 0, none⟩) 0 0) 0 [] := World.ownsRow_made w1 #[] 0 (Nat.le_refl _) (by simp [maxLen]) rfl
  have hr1 : Rd (w1.alloc (.cells #[] 5)) rb a nn cap bs (p + 1) := HR.out.keep ((Below.refl (rb + 1) w1).alloc HR.out.lt _)
  have hb1' : Below rb w (w1.alloc (.cells #[] 5)) := hb1.alloc (Nat.le_of_lt HR.out.lt) _
  have hlt := HR.out.lt
  have HO1 := hid ho1
  have HR1 := hid hr1
  have HB1 := hid hb1'
  have HGA := hid (grown_thing HG1.out (World.grownBy_alloc w1 (.cells #[] 5) (some rb)))
  clear ho1 hr1 hb1' hb1 hg1
  go_wp2_with fail
  refine (HP.out (p + 1) 200 _ HR1.out (by omega) (by omega) (by omega)).mono ?_
  rintro e w2 ⟨y1, rfl, hy1, hr2, hg2⟩
  have HO2 := hid (HO1.out.kept hg2 (.inr (fun e => by simp [Value.ownBlock] at e; omega)))
  have HB2 := hid (HB1.out.trans (grown_below hg2 HR1.out.lt))
  have HR2 := hid hr2
  have HG2x := hid (grown_thing HGA.out hg2)
  clear hr2 hg2
  go_wp2_with fail
  refine (HP.out (p + 1 + 1) 200 _ HR2.out (by omega) (by omega) (by omega)).mono ?_
  rintro e w3 ⟨y2, rfl, hy2, hr3, hg3⟩
  have HO3 := hid (HO2.out.kept hg3 (.inr (fun e => by simp [Value.ownBlock] at e; omega)))
  have HB3 := hid (HB2.out.trans (grown_below hg3 HR2.out.lt))
  have HR3 := hid hr3
  have HG3x := hid (grown_thing HG2x.out hg3)
  clear hr3 hg3
  go_wp2_with fail
  refine (HP.out (p + 1 + 1 + 1) 256 _ HR3.out (by omega) (by omega) (by omega)).mono ?_
  rintro e w4 ⟨y3, rfl, hy3, hr4, hg4⟩
  have HO4 := hid (HO3.out.kept hg4 (.inr (fun e => by simp [Value.ownBlock] at e; omega)))
  have HB4 := hid (HB3.out.trans (grown_below hg4 HR3.out.lt))
  have HR4 := hid hr4
  have HG4x := hid (grown_thing HG3x.out hg4)
  clear hr4 hg4
  go_wp2_with fail
  refine (HP.out (p + 1 + 1 + 1 + 1) 256 _ HR4.out (by omega) (by omega) (by omega)).mono ?_
  rintro e w5 ⟨y4, rfl, hy4, hr5, hg5⟩
  have HO5 := hid (HO4.out.kept hg5 (.inr (fun e => by simp [Value.ownBlock] at e; omega)))
  have HB5 := hid (HB4.out.trans (grown_below hg5 HR4.out.lt))
  have HR5 := hid hr5
  have HG5x := hid (grown_thing HG4x.out hg5)
  clear hr5 hg5 HO1 HO2 HO3 HO4 HR1 HR2 HR3 HR4 HB1 HB2 HB3 HB4 HP HR HGA HG2x HG3x HG4x
  generalize w1.heap.size = B at *
  have hB5 : B < w5.heap.size := (HO5.out.lt B rfl).2
  obtain ⟨i0, hi, hz0, hz1, hz2⟩ := info_parts Tryz.info5
  go_wp2
  go_loopw [3, 5, 6] (fun v z i wr => ∃ (k zz : Nat) (ys : List Int), k ≤ y1 + y2 ∧ ys.length = k ∧ i = .int .i64 k ∧ z = .int .i64 zz ∧ zz ≤ 100000 ∧ wr.ownsRow B 5 1 v k (ys.map (Value.int .u8)) ∧ Below B w5 wr) (fun _ _ i _ => y1 + y2 - (intOf i).toNat)
  case atStart => exact ⟨0, y3 * 256 + y4 + 1, [], Nat.zero_le _, rfl, rfl, by go_num, by omega, by simpa using HO5.out, Below.refl _ _⟩
  case round =>
   obtain ⟨k, zz, ys, hk, hyl, rfl, rfl, hzz, hrow, hbl⟩ := hrel
   by_cases hlk : k < y1 + y2
   ·have HL := hid hyl
    clear hyl
    go_wp2_with (at_builtin; refine wpList_append_own _ rfl _ _ 22 rfl B 5 i0 (.int .u8 0) 1 1 Tryz.underlying22 hi hz0 hz1 hz2 rfl (by decide) _ _ _ rfl (hrow.alloc _) ⟨wr.heap.size, 0, none⟩ 1 1 [.int .u8 (97 + ((zz : Int) * 4005 + 7) % 65521 / 7 % 26)] rfl rfl (cell_one_new _ _ _) (by simp [Value.oneCell']) (by unfold maxLen; omega) (by omega) (by have := hbl.size; simp; omega) ?_; intro v' w6 hown' hgrow _)
    refine ⟨⟨k + 1, (zz * 4005 + 7) % 65521, ys ++ [97 + ((zz : Int) * 4005 + 7) % 65521 / 7 % 26], by omega, by simp [HL.out], by go_num, by go_num, by omega, by simpa using hown', append_below hbl hrow hgrow (by have := hbl.size; omega)⟩, by simp [intOf]; omega⟩
   ·obtain rfl : k = y1 + y2 := by omega
    have hcv := conv_row hrow
    go_wp2
    go_ret
    refine ⟨_, rfl, ?_, p + 5, by omega, ?_, ?_⟩
    ·rw [strOfNums_size]; omega
    ·exact HR5.out.keep (hbl.mono (by omega))
    ·exact ⟨hbl.os.trans HG5x.out.os, hbl.tape.trans HG5x.out.tape, hbl.output.trans HG5x.out.output, Nat.le_trans HG5x.out.size hbl.size, fun k hk hn => (hbl.block k (by omega)).trans (HG5x.out.block k hk hn)⟩
end Go.Proofs.YtkjdabnglcabiaaGreatDoor
/- l1Open. -/
namespace Go.Proofs.YtkjdabnglcabiaaGreatDoor
open Go.RowKit
/-- A slice of bytes that came in. -/
def BytesIn (w : World) (a : Option Addr) (n cap : Nat) (zs : List Int) : Prop :=
 n ≤ cap ∧ zs.length = n ∧ (∀ i, 0 ≤ zs.getD i 0 ∧ zs.getD i 0 ≤ 255) ∧
  ∀ i, i < n → ∃ b off, a = some ⟨b, off, none⟩ ∧ b < w.heap.size ∧ w.cell? ⟨b, off + i, none⟩ = some (.int .u8 (zs.getD i 0))
theorem take_getD (zs : List Int) (m i : Nat) : (zs.take m).getD i 0 = if i < m then zs.getD i 0 else 0 := by
 simp only [List.getD_eq_getElem?_getD, List.getElem?_take]
 split <;> rfl
set_option maxRecDepth 100000 in
set_option maxHeartbeats 1000000 in
theorem l1Open_any (a : Option Addr) (n cap : Nat) (zs : List Int) (w : World) (h : BytesIn w a n cap zs) (hn : n ≤ maxLen) :
  Calls Tryz.prog 12 #[.slice a n cap] w fun e w' => e = .returned (.pointer (some ⟨w.heap.size, 0, none⟩)) ∧ ∃ nn bs, Rd w' w.heap.size a nn cap bs 0 ∧ Below w.heap.size w w' := by
 obtain ⟨hnc, hl, hb, hc⟩ := h
 have fin : ∀ nn : Nat, nn ≤ n → nn ≤ 2000 → ∃ nn' bs, Rd (w.alloc (.cells #[.slice a nn cap, .int .i64 0] 68)) w.heap.size a nn' cap bs 0 ∧ Below w.heap.size w (w.alloc (.cells #[.slice a nn cap, .int .i64 0] 68)) := by
  intro nn h1 h2
  refine ⟨nn, zs.take nn, ⟨World.alloc_heap_new w _, by simp; omega, h2, fun i => ?_, fun i hi => ?_⟩, (Below.refl _ _).alloc (Nat.le_refl _) _⟩
  ·rw [take_getD]; split
   ·exact hb i
   ·omega
  ·obtain ⟨b, off, e, hlt, hcell⟩ := hc i (by omega)
   refine ⟨b, off, e, hlt, ?_⟩
   rw [take_getD, if_pos hi]
   exact (((Below.refl _ w).alloc (Nat.le_refl _) _).cell (p := ⟨b, off + i, none⟩) hlt).trans hcell
 unfold maxLen at hn
 by_cases h2 : 2000 < n
 ·obtain ⟨b, off, rfl, hlt, hcell⟩ := hc 0 (by omega)
  have hn2 : (2000 : Int) < (n : Int) := by omega
  have hcap : (2000 : Int) ≤ (cap : Int) := by omega
  clear hc
  go_enter Tryz.func12, Tryz.ntmps12
  go_wp2
  go_ret
  exact ⟨rfl, fin 2000 (by omega) (Nat.le_refl _)⟩
 ·have hn2 : ¬ ((2000 : Int) < (n : Int)) := by omega
  clear hc
  go_enter Tryz.func12, Tryz.ntmps12
  go_wp2
  go_ret
  obtain ⟨nn', bs, f1, f2⟩ := fin n (Nat.le_refl _) (by omega)
  first | exact ⟨rfl, ⟨nn', bs, f1⟩, f2⟩ | exact ⟨rfl, nn', bs, f1, f2⟩
end Go.Proofs.YtkjdabnglcabiaaGreatDoor
/- l1DrawWidth, DrawPieces, DrawDescribe. -/
namespace Go.Proofs.YtkjdabnglcabiaaGreatDoor
open Go.RowKit
theorem BytesIn.below {w w' : World} {a : Option Addr} {n cap : Nat} {zs : List Int} (h : BytesIn w a n cap zs) (hb : Below w.heap.size w w') : BytesIn w' a n cap zs := by
 obtain ⟨h1, h2, h3, h4⟩ := h
 refine ⟨h1, h2, h3, fun i hi => ?_⟩
 obtain ⟨b, off, e, hlt, hc⟩ := h4 i hi
 exact ⟨b, off, e, Nat.lt_of_lt_of_le hlt hb.size, (hb.cell (p := ⟨b, off + i, none⟩) hlt).trans hc⟩
end Go.Proofs.YtkjdabnglcabiaaGreatDoor
/- l1Bend changes one place of a text. -/
namespace Go.Proofs.YtkjdabnglcabiaaGreatDoor
open Go.RowKit
theorem grown_pick {A B C : World} {b : Nat} (h : A.grownBy B (some b)) (k : B.grownBy C (some b)) : A.grownBy C (some b) := grownBy_trans h k (fun g e => .inl (by cases e; rfl))
theorem grown_alloc {A B : World} {b : Nat} (h : A.grownBy B (some b)) (o : Obj) : A.grownBy (B.alloc o) (some b) := grownBy_trans h (World.grownBy_alloc B o none) (fun g e => by cases e)
end Go.Proofs.YtkjdabnglcabiaaGreatDoor
