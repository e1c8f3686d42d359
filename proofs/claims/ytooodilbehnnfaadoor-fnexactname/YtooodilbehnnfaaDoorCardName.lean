/- The tied card of laws.FnExactName. -/
import Derived.Test.YtooodilbehnnfaaDoorExactName
import Derived.Test.YtooodilbehnnfaaDoorTie
import Derived.Test.YtooodilbehnnfaaDoorCards
import Derived.SevenTiedAt
namespace Go.Proofs.YtooodilbehnnfaaDoor
open Go
theorem fnExactName_card : Rows.FnExactNameCardSaid :=
  Claim7.holds_tied_plain_at .later [] [.data, .data, .data] true Rows.fnExactNameCard.stood.harness Rows.fnExactNameCard.stood.looks
    fnExactName.over (fun _ h => by cases h) (by kernel_rfl) (fun _ h => by cases h) fnExactName_row_tie rfl ⟨rfl, rfl⟩ (by kernel_rfl) rfl
    (fun f fn hf hfn => by
      obtain rfl : f = 4 := Option.some.inj ((show Tryd.prog.funcNamed Rows.fnExactNameRow.func = some 4 by kernel_rfl).symm.trans hf) |>.symm
      obtain rfl : fn = Tryd.f4 := (Option.some.inj (Tryd.func4.symm.trans hfn)).symm
      exact ⟨by kernel_rfl, fun j t ht => by
        rw [Tryd.params4] at ht
        have hm : t ∈ [9, 3] := by simpa using Array.mem_of_getElem? ht
        have hall : ([9, 3].all fun u => !Tryd.prog.wantsStandIn u) = true := by kernel_rfl
        exact (show Tryd.prog.wantsStandIn t = false by simpa using List.all_eq_true.1 hall t hm)⟩)
    (by kernel_rfl)
#print axioms fnExactName_card
end Go.Proofs.YtooodilbehnnfaaDoor
