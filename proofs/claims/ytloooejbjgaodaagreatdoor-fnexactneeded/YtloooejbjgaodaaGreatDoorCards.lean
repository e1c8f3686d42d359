/-
  DERIVED. GIVEN WITH THE SEED: THE CARDS: each row of YtloooejbjgaodaaGreatDoorRows.lean that lists a variable, with what it lists TIED to the program's text (the seventh form; the later family's looks); each row that meets fmt, with fmt's text TOLD by the authors' own Lean function (tested against real Go, not proved from fmt's source: count such statements apart). THE CARD IS WHAT COUNTS. Prove the row's statement (the work); the ties are given (YtloooejbjgaodaaGreatDoorTie.lean); close each card by the builder's one call (the guide's Derived/Test/ToyasCard.lean, 'card_holds'). Laid BY PROGRAM, IN A SANDBOX (cutbox-door.mjs). By AI agents, Wed Nov 11 2026. No macro, syntax, notation, axiom, sorry.
-/
import Derived.Test.YtloooejbjgaodaaGreatDoorRows
import GoSem.ClaimSeven
namespace Go.Proofs.YtloooejbjgaodaaGreatDoor
namespace Rows

/-- THE TIED CARD OF 'laws.FnExactFetchTick'. -/
def fnExactFetchTickCard : Claim7 := { stood := { row := fnExactFetchTickRow, standIns := [], harness := (true, "b99cbf46d38290df9835b8d221a5e020fafd57d259eb074348e36551997c35ab"), looks := true }, kinds := [], alts := [], laidByText := true, laidKinds := [.data, .data, .data, .handle, .sentinel, .sentinel, .sentinel, .sentinel, .sentinel, .sentinel], laidTests := true, laidLooks := .later }
def FnExactFetchTickCardSaid : Prop := Claim7.holds Tryz.pinned (.plain (OpenSpec.ofChange fnExactFetchTickSpec)) fnExactFetchTickCard

/-- THE TIED CARD OF 'laws.FnExactFetchTake'. -/
def fnExactFetchTakeCard : Claim7 := { stood := { row := fnExactFetchTakeRow, standIns := [], harness := (true, "b99cbf46d38290df9835b8d221a5e020fafd57d259eb074348e36551997c35ab"), looks := true }, kinds := [], alts := [], laidByText := true, laidKinds := [.data, .data, .data, .handle, .sentinel, .sentinel, .sentinel, .sentinel, .sentinel, .sentinel], laidTests := true, laidLooks := .later }
def FnExactFetchTakeCardSaid : Prop := Claim7.holds Tryz.pinned (.plain (OpenSpec.ofChange fnExactFetchTakeSpec)) fnExactFetchTakeCard

/-- THE TIED CARD OF 'laws.FnExactFetchDone'. -/
def fnExactFetchDoneCard : Claim7 := { stood := { row := fnExactFetchDoneRow, standIns := [], harness := (true, "b99cbf46d38290df9835b8d221a5e020fafd57d259eb074348e36551997c35ab"), looks := true }, kinds := [], alts := [], laidByText := true, laidKinds := [.data, .data, .data, .handle, .sentinel, .sentinel, .sentinel, .sentinel, .sentinel, .sentinel], laidTests := true, laidLooks := .later }
def FnExactFetchDoneCardSaid : Prop := Claim7.holds Tryz.pinned (.plain (OpenSpec.ofChange fnExactFetchDoneSpec)) fnExactFetchDoneCard

/-- THE TIED CARD OF 'laws.FnExactLacks'. -/
def fnExactLacksCard : Claim7 := { stood := { row := fnExactLacksRow, standIns := [], harness := (true, "b99cbf46d38290df9835b8d221a5e020fafd57d259eb074348e36551997c35ab"), looks := true }, kinds := [], alts := [], laidByText := true, laidKinds := [.data, .data, .data, .handle, .sentinel, .sentinel, .sentinel, .sentinel, .sentinel, .sentinel], laidTests := true, laidLooks := .later }
def FnExactLacksCardSaid : Prop := Claim7.holds Tryz.pinned (.plain (OpenSpec.ofChange fnExactLacksSpec)) fnExactLacksCard

/-- THE TIED CARD OF 'laws.FnExactLoad'. -/
def fnExactLoadCard : Claim7 := { stood := { row := fnExactLoadRow, standIns := [], harness := (true, "b99cbf46d38290df9835b8d221a5e020fafd57d259eb074348e36551997c35ab"), looks := true }, kinds := [], alts := [], laidByText := true, laidKinds := [.data, .data, .data, .handle, .sentinel, .sentinel, .sentinel, .sentinel, .sentinel, .sentinel], laidTests := true, laidLooks := .later }
def FnExactLoadCardSaid : Prop := Claim7.holds Tryz.pinned (.plain (OpenSpec.ofChange fnExactLoadSpec)) fnExactLoadCard

/-- THE TIED CARD OF 'laws.FnExactNeeded'. -/
def fnExactNeededCard : Claim7 := { stood := { row := fnExactNeededRow, standIns := [], harness := (true, "b99cbf46d38290df9835b8d221a5e020fafd57d259eb074348e36551997c35ab"), looks := true }, kinds := [], alts := [], laidByText := true, laidKinds := [.data, .data, .data, .handle, .sentinel, .sentinel, .sentinel, .sentinel, .sentinel, .sentinel], laidTests := true, laidLooks := .later }
def FnExactNeededCardSaid : Prop := Claim7.holds Tryz.pinned (.plain (OpenSpec.ofChange fnExactNeededSpec)) fnExactNeededCard

/-- THE SECOND FORM's CARD OF 'laws.FnExactFetchTick'. -/
def fnExactFetchTickUptoCard : Claim7 := { stood := { row := fnExactFetchTickUptoRow, standIns := [], harness := (true, "b99cbf46d38290df9835b8d221a5e020fafd57d259eb074348e36551997c35ab"), looks := true }, kinds := [], alts := [], laidByText := true, laidKinds := [.data, .data, .data, .handle, .sentinel, .sentinel, .sentinel, .sentinel, .sentinel, .sentinel], laidTests := true, laidLooks := .later }
def FnExactFetchTickUptoCardSaid : Prop := Claim7.holds Tryz.pinned (.plain (OpenSpec.upto fnExactFetchTickSpec)) fnExactFetchTickUptoCard

/-- THE SECOND FORM's CARD OF 'laws.FnExactFetchTake'. -/
def fnExactFetchTakeUptoCard : Claim7 := { stood := { row := fnExactFetchTakeUptoRow, standIns := [], harness := (true, "b99cbf46d38290df9835b8d221a5e020fafd57d259eb074348e36551997c35ab"), looks := true }, kinds := [], alts := [], laidByText := true, laidKinds := [.data, .data, .data, .handle, .sentinel, .sentinel, .sentinel, .sentinel, .sentinel, .sentinel], laidTests := true, laidLooks := .later }
def FnExactFetchTakeUptoCardSaid : Prop := Claim7.holds Tryz.pinned (.plain (OpenSpec.upto fnExactFetchTakeSpec)) fnExactFetchTakeUptoCard

/-- THE SECOND FORM's CARD OF 'laws.FnExactFetchDone'. -/
def fnExactFetchDoneUptoCard : Claim7 := { stood := { row := fnExactFetchDoneUptoRow, standIns := [], harness := (true, "b99cbf46d38290df9835b8d221a5e020fafd57d259eb074348e36551997c35ab"), looks := true }, kinds := [], alts := [], laidByText := true, laidKinds := [.data, .data, .data, .handle, .sentinel, .sentinel, .sentinel, .sentinel, .sentinel, .sentinel], laidTests := true, laidLooks := .later }
def FnExactFetchDoneUptoCardSaid : Prop := Claim7.holds Tryz.pinned (.plain (OpenSpec.upto fnExactFetchDoneSpec)) fnExactFetchDoneUptoCard

/-- THE SECOND FORM's CARD OF 'laws.FnExactLacks'. -/
def fnExactLacksUptoCard : Claim7 := { stood := { row := fnExactLacksUptoRow, standIns := [], harness := (true, "b99cbf46d38290df9835b8d221a5e020fafd57d259eb074348e36551997c35ab"), looks := true }, kinds := [], alts := [], laidByText := true, laidKinds := [.data, .data, .data, .handle, .sentinel, .sentinel, .sentinel, .sentinel, .sentinel, .sentinel], laidTests := true, laidLooks := .later }
def FnExactLacksUptoCardSaid : Prop := Claim7.holds Tryz.pinned (.plain (OpenSpec.upto fnExactLacksSpec)) fnExactLacksUptoCard

/-- THE SECOND FORM's CARD OF 'laws.FnExactLoad'. -/
def fnExactLoadUptoCard : Claim7 := { stood := { row := fnExactLoadUptoRow, standIns := [], harness := (true, "b99cbf46d38290df9835b8d221a5e020fafd57d259eb074348e36551997c35ab"), looks := true }, kinds := [], alts := [], laidByText := true, laidKinds := [.data, .data, .data, .handle, .sentinel, .sentinel, .sentinel, .sentinel, .sentinel, .sentinel], laidTests := true, laidLooks := .later }
def FnExactLoadUptoCardSaid : Prop := Claim7.holds Tryz.pinned (.plain (OpenSpec.upto fnExactLoadSpec)) fnExactLoadUptoCard

/-- THE SECOND FORM's CARD OF 'laws.FnExactNeeded'. -/
def fnExactNeededUptoCard : Claim7 := { stood := { row := fnExactNeededUptoRow, standIns := [], harness := (true, "b99cbf46d38290df9835b8d221a5e020fafd57d259eb074348e36551997c35ab"), looks := true }, kinds := [], alts := [], laidByText := true, laidKinds := [.data, .data, .data, .handle, .sentinel, .sentinel, .sentinel, .sentinel, .sentinel, .sentinel], laidTests := true, laidLooks := .later }
def FnExactNeededUptoCardSaid : Prop := Claim7.holds Tryz.pinned (.plain (OpenSpec.upto fnExactNeededSpec)) fnExactNeededUptoCard
end Rows
end Go.Proofs.YtloooejbjgaodaaGreatDoor
