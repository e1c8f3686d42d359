/- The closed facts of the row of laws.FnExactSave, one by one. -/
import Derived.Test.YtffpdgpcjgfgcaaGreatDoorBytes
import Derived.JoinedOf
namespace Go.Proofs.YtffpdgpcjgfgcaaGreatDoor
set_option maxRecDepth 100000 in
set_option maxHeartbeats 200000000 in
theorem fnExactSave_closed : joinedFacts Tryz.prog 4 Tryz.f4 Rows.fnExactSaveSpec Rows.fnExactSaveRow = true := by
  unfold joinedFacts
  simp only [Bool.and_eq_true]
  repeat' apply And.intro
  all_goals as_aux_lemma => kernel_rfl
end Go.Proofs.YtffpdgpcjgfgcaaGreatDoor
