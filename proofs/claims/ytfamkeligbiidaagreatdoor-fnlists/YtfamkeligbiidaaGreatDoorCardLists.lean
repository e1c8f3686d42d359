/- The tied card of laws.FnLists. -/
import Derived.Test.YtfamkeligbiidaaGreatDoorFnLists
import Derived.Test.YtfamkeligbiidaaGreatDoorTie
import Derived.Test.YtfamkeligbiidaaGreatDoorCards
import Derived.SevenTiedAt
namespace Go.Proofs.YtfamkeligbiidaaGreatDoor
open Go
theorem fnLists_card : Rows.FnListsCardSaid :=
  Claim7.holds_tied_plain_at .later [] [.data, .data, .data, .handle, .sentinel, .sentinel, .sentinel, .sentinel, .sentinel, .sentinel] true Rows.fnListsCard.stood.harness Rows.fnListsCard.stood.looks
    fnLists.over (fun _ h => by cases h) (by kernel_rfl) (fun _ h => by cases h) fnLists_row_tie rfl ⟨rfl, rfl⟩ (by kernel_rfl) rfl
    (fun f fn hf hfn => by
      obtain rfl : f = 3 := Option.some.inj ((show Tryz.prog.funcNamed Rows.fnListsRow.func = some 3 by kernel_rfl).symm.trans hf) |>.symm
      obtain rfl : fn = Tryz.f3 := (Option.some.inj (Tryz.func3.symm.trans hfn)).symm
      exact ⟨by kernel_rfl, fun j t ht => by
        rw [Tryz.params3] at ht
        have hm : t ∈ [22] := by simpa using Array.mem_of_getElem? ht
        have hall : ([22].all fun u => !Tryz.prog.wantsStandIn u) = true := by kernel_rfl
        exact (show Tryz.prog.wantsStandIn t = false by simpa using List.all_eq_true.1 hall t hm)⟩)
    (by kernel_rfl)
#print axioms fnLists_card
end Go.Proofs.YtfamkeligbiidaaGreatDoor
