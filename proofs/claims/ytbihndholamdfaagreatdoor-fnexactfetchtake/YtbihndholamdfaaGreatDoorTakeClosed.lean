/- The closed facts of the row of laws.FnExactFetchTake, one by one. -/
import Derived.Test.YtbihndholamdfaaGreatDoorBytes
import Derived.JoinedOf
namespace Go.Proofs.YtbihndholamdfaaGreatDoor
set_option maxRecDepth 100000 in
set_option maxHeartbeats 200000000 in
theorem fnExactFetchTake_closed : joinedFacts Tryz.prog 4 Tryz.f4 Rows.fnExactFetchTakeSpec Rows.fnExactFetchTakeRow = true := by
 unfold joinedFacts
 simp only [Bool.and_eq_true]
 repeat' apply And.intro
 all_goals as_aux_lemma => kernel_rfl
end Go.Proofs.YtbihndholamdfaaGreatDoor
