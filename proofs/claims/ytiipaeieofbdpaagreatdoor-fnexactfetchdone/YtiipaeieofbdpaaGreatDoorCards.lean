/-
  DERIVED. GIVEN WITH THE SEED: THE CARDS: each row of YtiipaeieofbdpaaGreatDoorRows.lean that lists a variable, with what it lists TIED to the program's text (the seventh form; the later family's looks); each row that meets fmt, with fmt's text TOLD by the authors' own Lean function (tested against real Go, not proved from fmt's source: count such statements apart). THE CARD IS WHAT COUNTS. Prove the row's statement (the work); the ties are given (YtiipaeieofbdpaaGreatDoorTie.lean); close each card by the builder's one call (the guide's Derived/Test/ToyasCard.lean, 'card_holds'). Laid BY PROGRAM, IN A SANDBOX (cutbox-door.mjs). By AI agents, Wed Nov 11 2026. No macro, syntax, notation, axiom, sorry.
-/
import Derived.Test.YtiipaeieofbdpaaGreatDoorRows
import GoSem.ClaimSeven
namespace Go.Proofs.YtiipaeieofbdpaaGreatDoor
namespace Rows

/-- THE TIED CARD OF 'laws.FnExactFetchDone'. -/
def fnExactFetchDoneCard : Claim7 := { stood := { row := fnExactFetchDoneRow, standIns := [], harness := (true, "48c8dd204e8c430e629e0075234d879882b50a14f228bc302ede0feae369f17a"), looks := true }, kinds := [], alts := [], laidByText := true, laidKinds := [.data, .data, .data, .handle, .sentinel, .sentinel, .sentinel, .sentinel, .sentinel, .sentinel], laidTests := true, laidLooks := .later }
def FnExactFetchDoneCardSaid : Prop := Claim7.holds Tryz.pinned (.plain (OpenSpec.ofChange fnExactFetchDoneSpec)) fnExactFetchDoneCard

/-- THE TIED CARD OF 'laws.FnExactFetchTick'. -/
def fnExactFetchTickCard : Claim7 := { stood := { row := fnExactFetchTickRow, standIns := [], harness := (true, "48c8dd204e8c430e629e0075234d879882b50a14f228bc302ede0feae369f17a"), looks := true }, kinds := [], alts := [], laidByText := true, laidKinds := [.data, .data, .data, .handle, .sentinel, .sentinel, .sentinel, .sentinel, .sentinel, .sentinel], laidTests := true, laidLooks := .later }
def FnExactFetchTickCardSaid : Prop := Claim7.holds Tryz.pinned (.plain (OpenSpec.ofChange fnExactFetchTickSpec)) fnExactFetchTickCard

/-- THE TIED CARD OF 'laws.FnExactFetchTake'. -/
def fnExactFetchTakeCard : Claim7 := { stood := { row := fnExactFetchTakeRow, standIns := [], harness := (true, "48c8dd204e8c430e629e0075234d879882b50a14f228bc302ede0feae369f17a"), looks := true }, kinds := [], alts := [], laidByText := true, laidKinds := [.data, .data, .data, .handle, .sentinel, .sentinel, .sentinel, .sentinel, .sentinel, .sentinel], laidTests := true, laidLooks := .later }
def FnExactFetchTakeCardSaid : Prop := Claim7.holds Tryz.pinned (.plain (OpenSpec.ofChange fnExactFetchTakeSpec)) fnExactFetchTakeCard

/-- THE SECOND FORM's CARD OF 'laws.FnExactFetchDone'. -/
def fnExactFetchDoneUptoCard : Claim7 := { stood := { row := fnExactFetchDoneUptoRow, standIns := [], harness := (true, "48c8dd204e8c430e629e0075234d879882b50a14f228bc302ede0feae369f17a"), looks := true }, kinds := [], alts := [], laidByText := true, laidKinds := [.data, .data, .data, .handle, .sentinel, .sentinel, .sentinel, .sentinel, .sentinel, .sentinel], laidTests := true, laidLooks := .later }
def FnExactFetchDoneUptoCardSaid : Prop := Claim7.holds Tryz.pinned (.plain (OpenSpec.upto fnExactFetchDoneSpec)) fnExactFetchDoneUptoCard

/-- THE SECOND FORM's CARD OF 'laws.FnExactFetchTick'. -/
def fnExactFetchTickUptoCard : Claim7 := { stood := { row := fnExactFetchTickUptoRow, standIns := [], harness := (true, "48c8dd204e8c430e629e0075234d879882b50a14f228bc302ede0feae369f17a"), looks := true }, kinds := [], alts := [], laidByText := true, laidKinds := [.data, .data, .data, .handle, .sentinel, .sentinel, .sentinel, .sentinel, .sentinel, .sentinel], laidTests := true, laidLooks := .later }
def FnExactFetchTickUptoCardSaid : Prop := Claim7.holds Tryz.pinned (.plain (OpenSpec.upto fnExactFetchTickSpec)) fnExactFetchTickUptoCard

/-- THE SECOND FORM's CARD OF 'laws.FnExactFetchTake'. -/
def fnExactFetchTakeUptoCard : Claim7 := { stood := { row := fnExactFetchTakeUptoRow, standIns := [], harness := (true, "48c8dd204e8c430e629e0075234d879882b50a14f228bc302ede0feae369f17a"), looks := true }, kinds := [], alts := [], laidByText := true, laidKinds := [.data, .data, .data, .handle, .sentinel, .sentinel, .sentinel, .sentinel, .sentinel, .sentinel], laidTests := true, laidLooks := .later }
def FnExactFetchTakeUptoCardSaid : Prop := Claim7.holds Tryz.pinned (.plain (OpenSpec.upto fnExactFetchTakeSpec)) fnExactFetchTakeUptoCard
end Rows
end Go.Proofs.YtiipaeieofbdpaaGreatDoor
