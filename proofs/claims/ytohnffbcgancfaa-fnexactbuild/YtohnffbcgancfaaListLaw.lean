/- What the laws ask of lists: markList, heldList. -/
import Derived.Test.YtohnffbcgancfaaEqList
import Derived.Test.YtohnffbcgancfaaMark
namespace Go.Proofs.Ytohnffbcgancfaa
open Go.RowKit
set_option maxRecDepth 100000 in
set_option maxHeartbeats 400000 in
theorem markList_any (n : Int) (v : Value) (k base : Nat) (xs : List ByteArray) (w : World) (hown : w.ownsRow base 9 1 v xs.length (xs.map Value.string)) (hbase : base ≤ w.heap.size) (h1 : 1 ≤ k) (h2 : k + xs.length ≤ 4400000) :
    Calls Try.prog 30 #[.agg #[.int .i64 n, v], .int .i64 k] w fun e w' => e = .returned (.int .i64 ((k + xs.length : Nat) : Int)) ∧ w'.ownsRow base 9 1 v xs.length ((marks k xs.length).map Value.string) ∧ Below base w w' := by
  have HM := hid fun o => markStringS_any v k base xs (w.alloc o) (hown.alloc o) (by simp; omega) h1 h2
  obtain ⟨a, cap, rfl, _⟩ := row_form hown
  have HL := hid fun o => (Below.refl base w).alloc hbase o
  obtain ⟨N, hN⟩ : ∃ N, N = k + xs.length := ⟨_, rfl⟩
  rw [← hN] at HM ⊢
  clear hown hN
  go_enter Try.func30, Try.ntmps30
  go_wp2_with (go_at_call 16; refine (HM.out _).mono ?_; rintro e w1 ⟨rfl, hr1, hb1⟩)
  go_ret
  exact ⟨rfl, hr1, (HL.out _).trans hb1⟩
set_option maxRecDepth 100000 in
set_option maxHeartbeats 400000 in
theorem heldList_any (m : Int) (v : Value) (k n : Nat) (w : World) (hv : Reads w v (marks k n)) (h1 : 1 ≤ k) (h2 : k + n ≤ 4400000) :
    Calls Try.prog 31 #[.agg #[.int .i64 m, v], .int .i64 k] w fun e w' => e = .returned (.int .i64 ((k + n : Nat) : Int)) ∧ Below w.heap.size w w' := by
  have HM := hid fun o => heldStringS_any v k n (w.alloc o) (hv.below ((Below.refl w.heap.size w).alloc (Nat.le_refl _) o)) h1 h2
  obtain ⟨a, cap, rfl, _⟩ := hv.form
  have HL := hid fun o => (Below.refl w.heap.size w).alloc (Nat.le_refl _) o
  obtain ⟨N, hN⟩ : ∃ N, N = k + n := ⟨_, rfl⟩
  rw [← hN] at HM ⊢
  clear hv hN
  go_enter Try.func31, Try.ntmps31
  go_wp2_with (go_at_call 17; refine (HM.out _).mono ?_; rintro e w1 ⟨rfl, hb1⟩)
  go_ret
  exact ⟨rfl, (HL.out _).trans (hb1.mono (by simp))⟩
end Go.Proofs.Ytohnffbcgancfaa
