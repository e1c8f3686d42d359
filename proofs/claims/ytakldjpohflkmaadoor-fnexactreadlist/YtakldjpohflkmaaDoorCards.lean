/-
  DERIVED. GIVEN WITH THE SEED: THE CARDS: each row of YtakldjpohflkmaaDoorRows.lean that lists a variable, with what it lists TIED to the program's text (the seventh form; the later family's looks); each row that meets fmt, with fmt's text TOLD by the authors' own Lean function (tested against real Go, not proved from fmt's source: count such statements apart). THE CARD IS WHAT COUNTS. Prove the row's statement (the work); the ties are given (YtakldjpohflkmaaDoorTie.lean); close each card by the builder's one call (the guide's Derived/Test/ToyasCard.lean, 'card_holds'). Laid BY PROGRAM, IN A SANDBOX (cutbox-door.mjs). By AI agents, Wed Nov 11 2026. No macro, syntax, notation, axiom, sorry.
-/
import Derived.Test.YtakldjpohflkmaaDoorRows
import GoSem.ClaimSeven
namespace Go.Proofs.YtakldjpohflkmaaDoor
namespace Rows

/-- THE TIED CARD OF 'laws.FnExactFormList'. -/
def fnExactFormListCard : Claim7 := { stood := { row := fnExactFormListRow, standIns := [], harness := (true, "3b135504f1fbb61df36d6d0c4fc99d374c55f3a01ecd7949125b2a02b5f6d4ba"), looks := true }, kinds := [], alts := [], laidByText := true, laidKinds := [.data, .data, .data], laidTests := true, laidLooks := .later }
def FnExactFormListCardSaid : Prop := Claim7.holds Tryd.pinned (.plain (OpenSpec.ofChange fnExactFormListSpec)) fnExactFormListCard

/-- THE TIED CARD OF 'laws.FnExactReadList'. -/
def fnExactReadListCard : Claim7 := { stood := { row := fnExactReadListRow, standIns := [], harness := (true, "3b135504f1fbb61df36d6d0c4fc99d374c55f3a01ecd7949125b2a02b5f6d4ba"), looks := true }, kinds := [], alts := [], laidByText := true, laidKinds := [.data, .data, .data, .handle, .sentinel, .sentinel, .sentinel, .sentinel, .sentinel, .sentinel], laidTests := true, laidLooks := .later }
def FnExactReadListCardSaid : Prop := Claim7.holds Tryd.pinned (.plain (OpenSpec.ofChange fnExactReadListSpec)) fnExactReadListCard

/-- THE SECOND FORM's CARD OF 'laws.FnExactFormList'. -/
def fnExactFormListUptoCard : Claim7 := { stood := { row := fnExactFormListUptoRow, standIns := [], harness := (true, "3b135504f1fbb61df36d6d0c4fc99d374c55f3a01ecd7949125b2a02b5f6d4ba"), looks := true }, kinds := [], alts := [], laidByText := true, laidKinds := [.data, .data, .data], laidTests := true, laidLooks := .later }
def FnExactFormListUptoCardSaid : Prop := Claim7.holds Tryd.pinned (.plain (OpenSpec.upto fnExactFormListSpec)) fnExactFormListUptoCard

/-- THE SECOND FORM's CARD OF 'laws.FnExactReadList'. -/
def fnExactReadListUptoCard : Claim7 := { stood := { row := fnExactReadListUptoRow, standIns := [], harness := (true, "3b135504f1fbb61df36d6d0c4fc99d374c55f3a01ecd7949125b2a02b5f6d4ba"), looks := true }, kinds := [], alts := [], laidByText := true, laidKinds := [.data, .data, .data, .handle, .sentinel, .sentinel, .sentinel, .sentinel, .sentinel, .sentinel], laidTests := true, laidLooks := .later }
def FnExactReadListUptoCardSaid : Prop := Claim7.holds Tryd.pinned (.plain (OpenSpec.upto fnExactReadListSpec)) fnExactReadListUptoCard
end Rows
end Go.Proofs.YtakldjpohflkmaaDoor
