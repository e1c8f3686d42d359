/- The tied card of laws.FnExactFormList. -/
import Derived.Test.YtooodilbehnnfaaDoorExactFormList
import Derived.Test.YtooodilbehnnfaaDoorTie
import Derived.Test.YtooodilbehnnfaaDoorCards
import Derived.SevenTiedAt
namespace Go.Proofs.YtooodilbehnnfaaDoor
open Go
theorem fnExactFormList_card : Rows.FnExactFormListCardSaid :=
  Claim7.holds_tied_plain_at .later [] [.data, .data, .data] true Rows.fnExactFormListCard.stood.harness Rows.fnExactFormListCard.stood.looks
    fnExactFormList.over (fun _ h => by cases h) (by kernel_rfl) (fun _ h => by cases h) fnExactFormList_row_tie rfl ⟨rfl, rfl⟩ (by kernel_rfl) rfl
    (fun f fn hf hfn => by
      obtain rfl : f = 3 := Option.some.inj ((show Tryd.prog.funcNamed Rows.fnExactFormListRow.func = some 3 by kernel_rfl).symm.trans hf) |>.symm
      obtain rfl : fn = Tryd.f3 := (Option.some.inj (Tryd.func3.symm.trans hfn)).symm
      exact ⟨by kernel_rfl, fun j t ht => by
        rw [Tryd.params3] at ht
        have hm : t ∈ [24, 3] := by simpa using Array.mem_of_getElem? ht
        have hall : ([24, 3].all fun u => !Tryd.prog.wantsStandIn u) = true := by kernel_rfl
        exact (show Tryd.prog.wantsStandIn t = false by simpa using List.all_eq_true.1 hall t hm)⟩)
    (by kernel_rfl)
#print axioms fnExactFormList_card
end Go.Proofs.YtooodilbehnnfaaDoor
