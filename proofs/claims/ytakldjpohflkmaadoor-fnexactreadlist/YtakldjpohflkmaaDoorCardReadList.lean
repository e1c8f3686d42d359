/- The tied card of laws.FnExactReadList. -/
import Derived.Test.YtakldjpohflkmaaDoorExactReadList
import Derived.Test.YtakldjpohflkmaaDoorTie
import Derived.Test.YtakldjpohflkmaaDoorCards
import Derived.SevenTiedAt
namespace Go.Proofs.YtakldjpohflkmaaDoor
open Go
theorem fnExactReadList_card : Rows.FnExactReadListCardSaid :=
  Claim7.holds_tied_plain_at .later [] [.data, .data, .data, .handle, .sentinel, .sentinel, .sentinel, .sentinel, .sentinel, .sentinel] true Rows.fnExactReadListCard.stood.harness Rows.fnExactReadListCard.stood.looks
    fnExactReadList.over (fun _ h => by cases h) (by kernel_rfl) (fun _ h => by cases h) fnExactReadList_row_tie rfl ⟨rfl, rfl⟩ (by kernel_rfl) rfl
    (fun f fn hf hfn => by
      obtain rfl : f = 4 := Option.some.inj ((show Tryd.prog.funcNamed Rows.fnExactReadListRow.func = some 4 by kernel_rfl).symm.trans hf) |>.symm
      obtain rfl : fn = Tryd.f4 := (Option.some.inj (Tryd.func4.symm.trans hfn)).symm
      exact ⟨by kernel_rfl, fun j t ht => by
        rw [Tryd.params4] at ht
        have hm : t ∈ [9, 3] := by simpa using Array.mem_of_getElem? ht
        have hall : ([9, 3].all fun u => !Tryd.prog.wantsStandIn u) = true := by kernel_rfl
        exact (show Tryd.prog.wantsStandIn t = false by simpa using List.all_eq_true.1 hall t hm)⟩)
    (by kernel_rfl)
#print axioms fnExactReadList_card
end Go.Proofs.YtakldjpohflkmaaDoor
