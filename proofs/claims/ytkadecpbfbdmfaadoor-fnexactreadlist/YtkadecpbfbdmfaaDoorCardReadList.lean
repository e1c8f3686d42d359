/- The tied card of laws.FnExactReadList. -/
import Derived.Test.YtkadecpbfbdmfaaDoorExactReadList
import Derived.Test.YtkadecpbfbdmfaaDoorTie
import Derived.Test.YtkadecpbfbdmfaaDoorCards
import Derived.SevenTiedAt
namespace Go.Proofs.YtkadecpbfbdmfaaDoor
open Go
theorem fnExactReadList_card : Rows.FnExactReadListCardSaid :=
  Claim7.holds_tied_plain_at .later [] [.data, .data, .data, .handle, .sentinel, .sentinel, .sentinel, .sentinel, .sentinel, .sentinel] true Rows.fnExactReadListCard.stood.harness Rows.fnExactReadListCard.stood.looks
    fnExactReadList.over (fun _ h => by cases h) (by kernel_rfl) (fun _ h => by cases h) fnExactReadList_row_tie rfl ⟨rfl, rfl⟩ (by kernel_rfl) rfl
    (fun f fn hf hfn => by
      obtain rfl : f = 6 := Option.some.inj ((show Tryd.prog.funcNamed Rows.fnExactReadListRow.func = some 6 by kernel_rfl).symm.trans hf) |>.symm
      obtain rfl : fn = Tryd.f6 := (Option.some.inj (Tryd.func6.symm.trans hfn)).symm
      exact ⟨by kernel_rfl, fun j t ht => by
        rw [Tryd.params6] at ht
        have hm : t ∈ [9, 3] := by simpa using Array.mem_of_getElem? ht
        have hall : ([9, 3].all fun u => !Tryd.prog.wantsStandIn u) = true := by kernel_rfl
        exact (show Tryd.prog.wantsStandIn t = false by simpa using List.all_eq_true.1 hall t hm)⟩)
    (by kernel_rfl)
#print axioms fnExactReadList_card
end Go.Proofs.YtkadecpbfbdmfaaDoor
