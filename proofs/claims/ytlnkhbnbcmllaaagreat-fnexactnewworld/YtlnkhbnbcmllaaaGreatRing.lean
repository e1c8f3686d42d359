/- The ring of the last bytes: add, sum, isCut. -/
import Derived.Test.YtlnkhbnbcmllaaaGreatCut
import Derived.WalkSmall
namespace Go.Proofs.YtlnkhbnbcmllaaaGreat
open Go.RowKit
theorem wrap_small (n : Int) (h0 : 0 ≤ n) (h1 : n < 1000) : IntKind.i64.wrap n = n := by
  simp [IntKind.wrap, IntKind.bits, IntKind.signed]; omega
/-- The sum of a ring whose oldest byte lies at o. -/
def ringSum (z : Nat → Int) (o : Nat) : Int := (List.range 8).foldl (fun v q => fnv v (z ((o + q) % 8))) fnvStart
theorem ringSum_nn (z : Nat → Int) (o : Nat) : 0 ≤ ringSum z o := by
  unfold ringSum
  rw [show List.range 8 = List.range 7 ++ [7] from rfl, List.foldl_append]
  exact (wrap_u64 _).1
end Go.Proofs.YtlnkhbnbcmllaaaGreat
