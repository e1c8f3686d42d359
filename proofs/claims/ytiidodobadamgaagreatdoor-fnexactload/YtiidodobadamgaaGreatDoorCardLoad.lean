/- The tied card of laws.FnExactLoad. -/
import Derived.Test.YtiidodobadamgaaGreatDoorExactLoad
import Derived.Test.YtiidodobadamgaaGreatDoorTie
import Derived.Test.YtiidodobadamgaaGreatDoorCards
import Derived.SevenTiedAt
namespace Go.Proofs.YtiidodobadamgaaGreatDoor
open Go
theorem fnExactLoad_card : Rows.FnExactLoadCardSaid :=
  Claim7.holds_tied_plain_at .later [] [.data, .data, .data, .handle, .sentinel, .sentinel, .sentinel, .sentinel, .sentinel, .sentinel] true Rows.fnExactLoadCard.stood.harness Rows.fnExactLoadCard.stood.looks
    fnExactLoad.over (fun _ h => by cases h) (by kernel_rfl) (fun _ h => by cases h) fnExactLoad_row_tie rfl ⟨rfl, rfl⟩ (by kernel_rfl) rfl
    (fun f fn hf hfn => by
      obtain rfl : f = 3 := Option.some.inj ((show Tryz.prog.funcNamed Rows.fnExactLoadRow.func = some 3 by kernel_rfl).symm.trans hf) |>.symm
      obtain rfl : fn = Tryz.f3 := (Option.some.inj (Tryz.func3.symm.trans hfn)).symm
      exact ⟨by kernel_rfl, fun j t ht => by
        rw [Tryz.params3] at ht
        have hm : t ∈ [25, 9] := by simpa using Array.mem_of_getElem? ht
        have hall : ([25, 9].all fun u => !Tryz.prog.wantsStandIn u) = true := by kernel_rfl
        exact (show Tryz.prog.wantsStandIn t = false by simpa using List.all_eq_true.1 hall t hm)⟩)
    (by kernel_rfl)
#print axioms fnExactLoad_card
end Go.Proofs.YtiidodobadamgaaGreatDoor
