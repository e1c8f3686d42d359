/- The closed facts of the row of laws.FnExactFetchTick, one by one. -/
import Derived.Test.YtkghbegdjeehaaaGreatDoorBytes
import Derived.JoinedOf
namespace Go.Proofs.YtkghbegdjeehaaaGreatDoor
set_option maxRecDepth 100000 in
set_option maxHeartbeats 200000000 in
theorem fnExactFetchTick_closed : joinedFacts Tryz.prog 3 Tryz.f3 Rows.fnExactFetchTickSpec Rows.fnExactFetchTickRow = true := by
 unfold joinedFacts
 simp only [Bool.and_eq_true]
 repeat' apply And.intro
 all_goals as_aux_lemma => kernel_rfl
end Go.Proofs.YtkghbegdjeehaaaGreatDoor
