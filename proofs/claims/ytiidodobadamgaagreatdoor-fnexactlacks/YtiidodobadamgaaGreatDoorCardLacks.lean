/- The tied card of laws.FnExactLacks. -/
import Derived.Test.YtiidodobadamgaaGreatDoorExactLacks
import Derived.Test.YtiidodobadamgaaGreatDoorTie
import Derived.Test.YtiidodobadamgaaGreatDoorCards
import Derived.SevenTiedAt
namespace Go.Proofs.YtiidodobadamgaaGreatDoor
open Go
theorem fnExactLacks_card : Rows.FnExactLacksCardSaid :=
  Claim7.holds_tied_plain_at .later [] [.data, .data, .data, .handle, .sentinel, .sentinel, .sentinel, .sentinel, .sentinel, .sentinel] true Rows.fnExactLacksCard.stood.harness Rows.fnExactLacksCard.stood.looks
    fnExactLacks.over (fun _ h => by cases h) (by kernel_rfl) (fun _ h => by cases h) fnExactLacks_row_tie rfl ⟨rfl, rfl⟩ (by kernel_rfl) rfl
    (fun f fn hf hfn => by
      obtain rfl : f = 4 := Option.some.inj ((show Tryz.prog.funcNamed Rows.fnExactLacksRow.func = some 4 by kernel_rfl).symm.trans hf) |>.symm
      obtain rfl : fn = Tryz.f4 := (Option.some.inj (Tryz.func4.symm.trans hfn)).symm
      exact ⟨by kernel_rfl, fun j t ht => by
        rw [Tryz.params4] at ht
        have hm : t ∈ [25, 9] := by simpa using Array.mem_of_getElem? ht
        have hall : ([25, 9].all fun u => !Tryz.prog.wantsStandIn u) = true := by kernel_rfl
        exact (show Tryz.prog.wantsStandIn t = false by simpa using List.all_eq_true.1 hall t hm)⟩)
    (by kernel_rfl)
#print axioms fnExactLacks_card
end Go.Proofs.YtiidodobadamgaaGreatDoor
