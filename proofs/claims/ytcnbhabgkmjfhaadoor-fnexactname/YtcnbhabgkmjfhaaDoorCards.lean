/-
  DERIVED. GIVEN WITH THE SEED: THE CARDS: each row of YtcnbhabgkmjfhaaDoorRows.lean that lists a variable, with what it lists TIED to the program's text (the seventh form; the later family's looks); each row that meets fmt, with fmt's text TOLD by the authors' own Lean function (tested against real Go, not proved from fmt's source: count such statements apart). THE CARD IS WHAT COUNTS. Prove the row's statement (the work); the ties are given (YtcnbhabgkmjfhaaDoorTie.lean); close each card by the builder's one call (the guide's Derived/Test/ToyasCard.lean, 'card_holds'). Laid BY PROGRAM, IN A SANDBOX (cutbox-door.mjs). By AI agents, Wed Nov 11 2026. No macro, syntax, notation, axiom, sorry.
-/
import Derived.Test.YtcnbhabgkmjfhaaDoorRows
import GoSem.ClaimSeven
namespace Go.Proofs.YtcnbhabgkmjfhaaDoor
namespace Rows

/-- THE TIED CARD OF 'laws.FnExactFormList'. -/
def fnExactFormListCard : Claim7 := { stood := { row := fnExactFormListRow, standIns := [], harness := (true, "5fcda225a4815b6770ece965028f3ddbfcdcaa3db101c30328694a8b8e266ef1"), looks := false }, kinds := [], alts := [], laidByText := true, laidKinds := [.data, .data, .data], laidTests := true, laidLooks := .later }
def FnExactFormListCardSaid : Prop := Claim7.holds Tryd.pinned (.plain (OpenSpec.ofChange fnExactFormListSpec)) fnExactFormListCard

/-- THE TIED CARD OF 'laws.FnExactName'. -/
def fnExactNameCard : Claim7 := { stood := { row := fnExactNameRow, standIns := [], harness := (true, "5fcda225a4815b6770ece965028f3ddbfcdcaa3db101c30328694a8b8e266ef1"), looks := false }, kinds := [], alts := [], laidByText := true, laidKinds := [.data, .data, .data], laidTests := true, laidLooks := .later }
def FnExactNameCardSaid : Prop := Claim7.holds Tryd.pinned (.plain (OpenSpec.ofChange fnExactNameSpec)) fnExactNameCard

/-- THE SECOND FORM's CARD OF 'laws.FnExactFormList'. -/
def fnExactFormListUptoCard : Claim7 := { stood := { row := fnExactFormListUptoRow, standIns := [], harness := (true, "5fcda225a4815b6770ece965028f3ddbfcdcaa3db101c30328694a8b8e266ef1"), looks := false }, kinds := [], alts := [], laidByText := true, laidKinds := [.data, .data, .data], laidTests := true, laidLooks := .later }
def FnExactFormListUptoCardSaid : Prop := Claim7.holds Tryd.pinned (.plain (OpenSpec.upto fnExactFormListSpec)) fnExactFormListUptoCard

/-- THE SECOND FORM's CARD OF 'laws.FnExactName'. -/
def fnExactNameUptoCard : Claim7 := { stood := { row := fnExactNameUptoRow, standIns := [], harness := (true, "5fcda225a4815b6770ece965028f3ddbfcdcaa3db101c30328694a8b8e266ef1"), looks := false }, kinds := [], alts := [], laidByText := true, laidKinds := [.data, .data, .data], laidTests := true, laidLooks := .later }
def FnExactNameUptoCardSaid : Prop := Claim7.holds Tryd.pinned (.plain (OpenSpec.upto fnExactNameSpec)) fnExactNameUptoCard
end Rows
end Go.Proofs.YtcnbhabgkmjfhaaDoor
