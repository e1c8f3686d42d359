/- The tied card of laws.FnExactPut. -/
import Derived.Test.YtffpdgpcjgfgcaaGreatDoorExactPut
import Derived.Test.YtffpdgpcjgfgcaaGreatDoorTie
import Derived.Test.YtffpdgpcjgfgcaaGreatDoorCards
import Derived.SevenTiedAt
namespace Go.Proofs.YtffpdgpcjgfgcaaGreatDoor
open Go
theorem fnExactPut_card : Rows.FnExactPutCardSaid :=
  Claim7.holds_tied_plain_at .later [] [.data, .data, .data, .handle, .sentinel, .sentinel, .sentinel, .sentinel, .sentinel, .sentinel] true Rows.fnExactPutCard.stood.harness Rows.fnExactPutCard.stood.looks
    fnExactPut.over (fun _ h => by cases h) (by kernel_rfl) (fun _ h => by cases h) fnExactPut_row_tie rfl ⟨rfl, rfl⟩ (by kernel_rfl) rfl
    (fun f fn hf hfn => by
      obtain rfl : f = 3 := Option.some.inj ((show Tryz.prog.funcNamed Rows.fnExactPutRow.func = some 3 by kernel_rfl).symm.trans hf) |>.symm
      obtain rfl : fn = Tryz.f3 := (Option.some.inj (Tryz.func3.symm.trans hfn)).symm
      exact ⟨by kernel_rfl, fun j t ht => by
        rw [Tryz.params3] at ht
        have hm : t ∈ [25, 9, 3] := by simpa using Array.mem_of_getElem? ht
        have hall : ([25, 9, 3].all fun u => !Tryz.prog.wantsStandIn u) = true := by kernel_rfl
        exact (show Tryz.prog.wantsStandIn t = false by simpa using List.all_eq_true.1 hall t hm)⟩)
    (by kernel_rfl)
#print axioms fnExactPut_card
end Go.Proofs.YtffpdgpcjgfgcaaGreatDoor
