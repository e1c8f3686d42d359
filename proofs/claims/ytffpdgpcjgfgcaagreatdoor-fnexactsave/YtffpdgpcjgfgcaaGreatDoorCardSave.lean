/- The tied card of laws.FnExactSave. -/
import Derived.Test.YtffpdgpcjgfgcaaGreatDoorExactSave
import Derived.Test.YtffpdgpcjgfgcaaGreatDoorTie
import Derived.Test.YtffpdgpcjgfgcaaGreatDoorCards
import Derived.SevenTiedAt
namespace Go.Proofs.YtffpdgpcjgfgcaaGreatDoor
open Go
theorem fnExactSave_card : Rows.FnExactSaveCardSaid :=
  Claim7.holds_tied_plain_at .later [] [.data, .data, .data, .handle, .sentinel, .sentinel, .sentinel, .sentinel, .sentinel, .sentinel] true Rows.fnExactSaveCard.stood.harness Rows.fnExactSaveCard.stood.looks
    fnExactSave.over (fun _ h => by cases h) (by kernel_rfl) (fun _ h => by cases h) fnExactSave_row_tie rfl ⟨rfl, rfl⟩ (by kernel_rfl) rfl
    (fun f fn hf hfn => by
      obtain rfl : f = 4 := Option.some.inj ((show Tryz.prog.funcNamed Rows.fnExactSaveRow.func = some 4 by kernel_rfl).symm.trans hf) |>.symm
      obtain rfl : fn = Tryz.f4 := (Option.some.inj (Tryz.func4.symm.trans hfn)).symm
      exact ⟨by kernel_rfl, fun j t ht => by
        rw [Tryz.params4] at ht
        have hm : t ∈ [25, 9, 3] := by simpa using Array.mem_of_getElem? ht
        have hall : ([25, 9, 3].all fun u => !Tryz.prog.wantsStandIn u) = true := by kernel_rfl
        exact (show Tryz.prog.wantsStandIn t = false by simpa using List.all_eq_true.1 hall t hm)⟩)
    (by kernel_rfl)
#print axioms fnExactSave_card
end Go.Proofs.YtffpdgpcjgfgcaaGreatDoor
