/- The closed facts of the row of laws.FnExactFetchDone, one by one. -/
import Derived.Test.YtiipaeieofbdpaaGreatDoorSums
import Derived.JoinedOf
namespace Go.Proofs.YtiipaeieofbdpaaGreatDoor
set_option maxRecDepth 100000 in
set_option maxHeartbeats 200000000 in
theorem fnExactFetchDone_closed : joinedFacts Tryz.prog 3 Tryz.f3 Rows.fnExactFetchDoneSpec Rows.fnExactFetchDoneRow = true := by
  unfold joinedFacts
  simp only [Bool.and_eq_true]
  repeat' apply And.intro
  all_goals as_aux_lemma => kernel_rfl
end Go.Proofs.YtiipaeieofbdpaaGreatDoor
