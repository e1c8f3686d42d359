/- laws.eqNote, laws.markNote and laws.heldNote of notes without sums. -/
import Derived.Test.YtnpfnafalkejnaaTellImpl
import Derived.Test.YtnpfnafalkejnaaMark2
namespace Go.Proofs.Ytnpfnafalkejnaa
open Go.RowKit
set_option maxRecDepth 100000 in
set_option maxHeartbeats 1000000 in
theorem eqNote_any (f t m : ByteArray) (c : Int) (h : Bool) (va vb : Value) (ss : List ByteArray) (w : World) (ha : Reads w va ss) (hb : Reads w vb ss) (hl : ss.length ≤ maxLen) :
    Calls Try.prog 9 #[.agg #[.string f, .string t, .int .i64 c, .string m, .bool h, va], .agg #[.string f, .string t, .int .i64 c, .string m, .bool h, vb]] w fun e w' => e = .returned (.bool true) ∧ Below w.heap.size w w' := by
  have hA := ((Below.refl w.heap.size w).alloc (Nat.le_refl _) (.cells #[.string f, .string t, .int .i64 c, .string m, .bool h, va] 25)).alloc (by simp) (.cells #[.string f, .string t, .int .i64 c, .string m, .bool h, vb] 25)
  have HE := hid fun W ha hb => eqStringS_any va vb ss W ha hb hl
  have HRa := hid (ha.below hA)
  have HRb := hid (hb.below hA)
  obtain ⟨aa, ca, rfl, _⟩ := ha.form
  obtain ⟨ab, cb, rfl, _⟩ := hb.form
  have HA := hid hA
  clear ha hb hA
  cases h with
  | true =>
    go_enter Try.func9, Try.ntmps9
    go_wp2_with (go_at_call 10; refine (HE.out _ HRa.out HRb.out).mono ?_; rintro e w1 ⟨rfl, hb1⟩; have HB1 := hid hb1; clear hb1)
    go_ret
    exact ⟨by simp, HA.out.trans (HB1.out.mono (by simp; omega))⟩
  | false =>
    go_enter Try.func9, Try.ntmps9
    go_wp2_with (go_at_call 10; refine (HE.out _ HRa.out HRb.out).mono ?_; rintro e w1 ⟨rfl, hb1⟩; have HB1 := hid hb1; clear hb1)
    go_ret
    exact ⟨by simp, HA.out.trans (HB1.out.mono (by simp; omega))⟩
set_option maxRecDepth 100000 in
set_option maxHeartbeats 1000000 in
theorem markNote_none (f t m : ByteArray) (c : Int) (h : Bool) (a : Option Addr) (ca : Nat) (w : World) :
    Calls Try.prog 12 #[.agg #[.string f, .string t, .int .i64 c, .string m, .bool h, .slice a 0 ca], .int .i64 1] w fun e w' => e = .returned (.int .i64 1) ∧ Below w.heap.size w w' := by
  have HM : Hid (∀ W : World, Calls Try.prog 11 #[.slice a 0 ca, .int .i64 1] W fun e w' => e = .returned (.int .i64 1) ∧ w' = W) := fun W => by
    go_enter Try.func11, Try.ntmps11
    go_wp2
    go_loop [1, 5] (fun x i => i = .int .i64 0 ∧ x = .int .i64 1) (fun _ _ => 0)
    case atStart => exact ⟨rfl, rfl⟩
    case round =>
      obtain ⟨rfl, rfl⟩ := hrel
      go_wp2
      go_ret
      exact ⟨rfl, rfl⟩
  go_enter Try.func12, Try.ntmps12
  go_wp2_with (go_at_call 11; refine (HM.out _).mono ?_; rintro e w1 ⟨rfl, rfl⟩)
  go_ret
  exact ⟨rfl, (Below.refl _ w).alloc (Nat.le_refl _) _⟩
set_option maxRecDepth 100000 in
set_option maxHeartbeats 1000000 in
theorem heldNote_none (f t m : ByteArray) (c : Int) (h : Bool) (a : Option Addr) (ca : Nat) (w : World) :
    Calls Try.prog 13 #[.agg #[.string f, .string t, .int .i64 c, .string m, .bool h, .slice a 0 ca], .int .i64 1] w fun e w' => e = .returned (.int .i64 1) ∧ Below w.heap.size w w' := by
  have HM : Hid (∀ W : World, Calls Try.prog 21 #[.slice a 0 ca, .int .i64 1] W fun e w' => e = .returned (.int .i64 1) ∧ w' = W) := fun W => by
    go_enter Try.func21, Try.ntmps21
    go_wp2
    go_loop [1, 5] (fun x i => i = .int .i64 0 ∧ x = .int .i64 1) (fun _ _ => 0)
    case atStart => exact ⟨rfl, rfl⟩
    case round =>
      obtain ⟨rfl, rfl⟩ := hrel
      go_wp2
      go_ret
      exact ⟨rfl, rfl⟩
  go_enter Try.func13, Try.ntmps13
  go_wp2_with (go_at_call 21; refine (HM.out _).mono ?_; rintro e w1 ⟨rfl, rfl⟩)
  go_ret
  exact ⟨rfl, (Below.refl _ w).alloc (Nat.le_refl _) _⟩
end Go.Proofs.Ytnpfnafalkejnaa
