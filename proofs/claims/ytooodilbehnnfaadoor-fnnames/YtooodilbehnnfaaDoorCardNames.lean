/- The tied card of laws.FnNames. -/
import Derived.Test.YtooodilbehnnfaaDoorFnNames
import Derived.Test.YtooodilbehnnfaaDoorTie
import Derived.Test.YtooodilbehnnfaaDoorCards
import Derived.SevenTiedAt
namespace Go.Proofs.YtooodilbehnnfaaDoor
open Go
theorem fnNames_card : Rows.FnNamesCardSaid :=
  Claim7.holds_tied_plain_at .later [] [.data, .data, .data] true Rows.fnNamesCard.stood.harness Rows.fnNamesCard.stood.looks
    fnNames.over (fun _ h => by cases h) (by kernel_rfl) (fun _ h => by cases h) fnNames_row_tie rfl ⟨rfl, rfl⟩ (by kernel_rfl) rfl
    (fun f fn hf hfn => by
      obtain rfl : f = 5 := Option.some.inj ((show Tryd.prog.funcNamed Rows.fnNamesRow.func = some 5 by kernel_rfl).symm.trans hf) |>.symm
      obtain rfl : fn = Tryd.f5 := (Option.some.inj (Tryd.func5.symm.trans hfn)).symm
      exact ⟨by kernel_rfl, fun j t ht => by
        rw [Tryd.params5] at ht
        have hm : t ∈ [33] := by simpa using Array.mem_of_getElem? ht
        have hall : ([33].all fun u => !Tryd.prog.wantsStandIn u) = true := by kernel_rfl
        exact (show Tryd.prog.wantsStandIn t = false by simpa using List.all_eq_true.1 hall t hm)⟩)
    (by kernel_rfl)
#print axioms fnNames_card
end Go.Proofs.YtooodilbehnnfaaDoor
