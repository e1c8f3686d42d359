/- The closed facts of the row of laws.FnExactNeeded, one by one. -/
import Derived.Test.YtloooejbjgaodaaGreatDoorNeedMath
import Derived.JoinedOf
namespace Go.Proofs.YtloooejbjgaodaaGreatDoor
set_option maxRecDepth 100000 in
set_option maxHeartbeats 200000000 in
theorem fnExactNeeded_closed : joinedFacts Tryz.prog 8 Tryz.f8 Rows.fnExactNeededSpec Rows.fnExactNeededRow = true := by
  unfold joinedFacts
  simp only [Bool.and_eq_true]
  repeat' apply And.intro
  all_goals as_aux_lemma => kernel_rfl
end Go.Proofs.YtloooejbjgaodaaGreatDoor
