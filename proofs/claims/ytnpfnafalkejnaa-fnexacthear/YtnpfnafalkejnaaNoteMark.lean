/- laws.markNote of a note with sums in a row of their own. -/
import Derived.Test.YtnpfnafalkejnaaOpenNote
namespace Go.Proofs.Ytnpfnafalkejnaa
open Go.RowKit
set_option maxRecDepth 100000 in
theorem markNote_any (f t m : ByteArray) (c : Int) (h : Bool) (v : Value) (k B : Nat) (ss : List ByteArray) (w : World) (hown : w.ownsRow B 9 1 v ss.length (ss.map Value.string)) (h1 : 1 ≤ k) (h2 : k + ss.length ≤ 4400000) :
    Calls Try.prog 12 #[.agg #[.string f, .string t, .int .i64 c, .string m, .bool h, v], .int .i64 k] w fun e w' => e = .returned (.int .i64 ((k + ss.length : Nat) : Int)) ∧ w.grownBy w' v.ownBlock := by
  have hA := (Below.refl w.heap.size w).alloc (Nat.le_refl _) (.cells #[.string f, .string t, .int .i64 c, .string m, .bool h, v] 25)
  have HM := hid (markStringS_grown v k B ss _ (Below.row hA hown) h1 h2)
  have HG := hid (grown_below' (o := v.ownBlock) hA)
  obtain ⟨a, ca, rfl, _⟩ := row_form hown
  clear hA hown
  go_enter Try.func12, Try.ntmps12
  go_wp2_with fail
  refine HM.out.mono ?_
  rintro e w1 ⟨rfl, _, hg⟩
  have HG1 := hid (grown_same HG.out hg)
  clear hg
  go_wp2
  go_ret
  exact ⟨rfl, HG1.out⟩
end Go.Proofs.Ytnpfnafalkejnaa
