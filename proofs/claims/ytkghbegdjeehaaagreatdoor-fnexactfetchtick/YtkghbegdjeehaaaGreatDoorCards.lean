/-
  DERIVED. GIVEN WITH THE SEED: THE CARDS: each row of YtkghbegdjeehaaaGreatDoorRows.lean that lists a variable, with what it lists TIED to the program's text (the seventh form; the later family's looks); each row that meets fmt, with fmt's text TOLD by the authors' own Lean function (tested against real Go, not proved from fmt's source: count such statements apart). THE CARD IS WHAT COUNTS. Prove the row's statement (the work); the ties are given (YtkghbegdjeehaaaGreatDoorTie.lean); close each card by the builder's one call (the guide's Derived/Test/ToyasCard.lean, 'card_holds'). Laid BY PROGRAM, IN A SANDBOX (cutbox-door.mjs). By AI agents, Wed Nov 11 2026. No macro, syntax, notation, axiom, sorry.
-/
import Derived.Test.YtkghbegdjeehaaaGreatDoorRows
import GoSem.ClaimSeven
namespace Go.Proofs.YtkghbegdjeehaaaGreatDoor
namespace Rows

/-- THE TIED CARD OF 'laws.FnExactFetchTick'. -/
def fnExactFetchTickCard : Claim7 := { stood := { row := fnExactFetchTickRow, standIns := [], harness := (true, "bd713a50629d2a48163976528a95adea30e7c2fb5beaf3a1431a0089d6dfc719"), looks := true }, kinds := [], alts := [], laidByText := true, laidKinds := [.data, .data, .data, .handle, .sentinel, .sentinel, .sentinel, .sentinel, .sentinel, .sentinel], laidTests := true, laidLooks := .later }
def FnExactFetchTickCardSaid : Prop := Claim7.holds Tryz.pinned (.plain (OpenSpec.ofChange fnExactFetchTickSpec)) fnExactFetchTickCard

/-- THE SECOND FORM's CARD OF 'laws.FnExactFetchTick'. -/
def fnExactFetchTickUptoCard : Claim7 := { stood := { row := fnExactFetchTickUptoRow, standIns := [], harness := (true, "bd713a50629d2a48163976528a95adea30e7c2fb5beaf3a1431a0089d6dfc719"), looks := true }, kinds := [], alts := [], laidByText := true, laidKinds := [.data, .data, .data, .handle, .sentinel, .sentinel, .sentinel, .sentinel, .sentinel, .sentinel], laidTests := true, laidLooks := .later }
def FnExactFetchTickUptoCardSaid : Prop := Claim7.holds Tryz.pinned (.plain (OpenSpec.upto fnExactFetchTickSpec)) fnExactFetchTickUptoCard
end Rows
end Go.Proofs.YtkghbegdjeehaaaGreatDoor
