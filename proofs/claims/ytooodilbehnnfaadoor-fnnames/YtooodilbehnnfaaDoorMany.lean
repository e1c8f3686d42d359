/- l1Many, and what keeps a reader. -/
import Derived.Test.YtooodilbehnnfaaDoorRd
namespace Go.Proofs.YtooodilbehnnfaaDoor
open Go.RowKit
theorem Rd.keep {w w' : World} {rb : Nat} {a : Option Addr} {nn cap : Nat} {bs : List Int} {p : Nat} (h : Rd w rb a nn cap bs p) (hb : Below (rb + 1) w w') : Rd w' rb a nn cap bs p := by
  obtain ⟨hh, hl, hn, hbb, hc⟩ := h
  refine ⟨(hb.block rb (by omega)).trans hh, hl, hn, hbb, fun i hi => ?_⟩
  obtain ⟨b, off, ea, hbr, hy⟩ := hc i hi
  exact ⟨b, off, ea, hbr, (hb.cell (p := ⟨b, off + i, none⟩) (by show b < rb + 1; omega)).trans hy⟩
theorem Rd.lt {w : World} {rb : Nat} {a : Option Addr} {nn cap : Nat} {bs : List Int} {p : Nat} (h : Rd w rb a nn cap bs p) : rb < w.heap.size := (Array.getElem?_eq_some_iff.1 h.1).1
set_option maxRecDepth 100000 in
set_option maxHeartbeats 1000000 in
theorem l1Many_any (s : ByteArray) (n : Nat) (w : World) (hs : s.size ≤ 10) (hn : n ≤ 3001) :
    Calls Tryd.prog 50 #[.string s, .int .i64 n] w fun e w' => ∃ t : ByteArray, e = .returned (.string t) ∧ t.size ≤ s.size * n ∧ w' = w := by
  go_enter Tryd.func50, Tryd.ntmps50
  go_wp2
  go_loop [0, 1, 5] (fun x m out => ∃ (t u : ByteArray) (k : Nat), x = .string t ∧ m = .int .i64 k ∧ out = .string u ∧ u.size + t.size * k ≤ s.size * n ∧ k ≤ n ∧ t.size ≤ 70000) (fun _ m _ => (intOf m).toNat)
  case atStart => exact ⟨s, ⟨#[]⟩, n, rfl, rfl, rfl, by show 0 + s.size * n ≤ s.size * n; omega, by omega, by omega⟩
  case round =>
    obtain ⟨t, u, k, rfl, rfl, rfl, h1, h2, h4⟩ := hrel
    have hsn : s.size * n ≤ 30010 := by have := Nat.mul_le_mul hs hn; omega
    have hu : u.size ≤ 30010 := by omega
    by_cases hk : 0 < k
    · have ht : t.size ≤ 30010 := by have := Nat.le_mul_of_pos_right t.size hk; omega
      by_cases hodd : k % 2 = 1
      · have ho : ((k : Int) % 2 == 1) = true := by simp; omega
        obtain ⟨j, rfl⟩ : ∃ j, k = 2 * j + 1 := ⟨k / 2, by omega⟩
        have HJ : Hid (u.size + t.size + (t.size + t.size) * j ≤ s.size * n) := by
          show _ ≤ _
          rw [Nat.mul_add, Nat.mul_comm 2 j, ← Nat.mul_assoc] at h1; rw [Nat.add_mul]; omega
        clear h1
        go_wp2
        exact ⟨⟨t ++ t, u ++ t, j, rfl, by go_num, rfl, by rw [ByteArray.size_append, ByteArray.size_append]; exact HJ.out, by omega, by rw [ByteArray.size_append]; omega⟩, by simp [intOf]; omega⟩
      · have ho : ((k : Int) % 2 == 1) = false := by simp; omega
        obtain ⟨j, rfl⟩ : ∃ j, k = 2 * j := ⟨k / 2, by omega⟩
        have HJ : Hid (u.size + (t.size + t.size) * j ≤ s.size * n) := by
          show _ ≤ _
          rw [Nat.mul_comm 2 j, ← Nat.mul_assoc] at h1; rw [Nat.add_mul]; omega
        clear h1
        go_wp2
        exact ⟨⟨t ++ t, u, j, rfl, by go_num, rfl, by rw [ByteArray.size_append]; exact HJ.out, by omega, by rw [ByteArray.size_append]; omega⟩, by simp [intOf]; omega⟩
    · obtain rfl : k = 0 := by omega
      go_wp2
      go_ret
      exact ⟨u, rfl, by omega, rfl⟩
end Go.Proofs.YtooodilbehnnfaaDoor
