/- eqList: two lists are the same. -/
import Derived.Test.YtooodilbehnnfaaDoorListBox
namespace Go.Proofs.YtooodilbehnnfaaDoor
open Go.RowKit
set_option maxRecDepth 100000 in
set_option maxHeartbeats 400000 in
theorem eqList_any (n : Int) (va vb : Value) (ps : List ByteArray) (w : World) (ha : Reads w va ps) (hb : Reads w vb ps) (hl : ps.length ≤ maxLen) :
    Calls Tryd.prog 10 #[.agg #[.int .i64 n, va], .agg #[.int .i64 n, vb]] w fun e w' => e = .returned (.bool true) ∧ Below w.heap.size w w' := by
  have HE := hid fun W (h1 : Reads W va ps) (h2 : Reads W vb ps) => eqStringS_any va vb ps W h1 h2 hl
  have hbl := fun o1 o2 => ((Below.refl w.heap.size w).alloc (Nat.le_refl _) o1).alloc (by simp) o2
  have hra := fun o1 o2 => ha.below (hbl o1 o2)
  have hrb := fun o1 o2 => hb.below (hbl o1 o2)
  obtain ⟨a, ca, rfl, _⟩ := ha.form
  obtain ⟨b, cb, rfl, _⟩ := hb.form
  have HA := hid hra
  have HB := hid hrb
  have HL := hid hbl
  clear hra hrb hbl ha hb
  go_enter Tryd.func10, Tryd.ntmps10
  go_wp2_with (go_at_call 27; refine (HE.out _ (HA.out _ _) (HB.out _ _)).mono ?_; rintro e w1 ⟨rfl, hb1⟩)
  go_ret
  exact ⟨rfl, (HL.out _ _).trans (hb1.mono (by simp; omega))⟩
end Go.Proofs.YtooodilbehnnfaaDoor
