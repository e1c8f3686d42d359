import Derived.Test.YtkghbegdjeehaaaGreatDoorPinsDelete
import Derived.Test.YtkghbegdjeehaaaGreatDoorShort
/- (*shelf).unpin, (*shelf).answer. -/
namespace Go.Proofs.YtkghbegdjeehaaaGreatDoor
open Go.RowKit
end Go.Proofs.YtkghbegdjeehaaaGreatDoor
/- impl.Unpin. -/
namespace Go.Proofs.YtkghbegdjeehaaaGreatDoor
open Go.RowKit
end Go.Proofs.YtkghbegdjeehaaaGreatDoor
/- spec.Unpin: left out. -/
namespace Go.Proofs.YtkghbegdjeehaaaGreatDoor
open Go.RowKit
end Go.Proofs.YtkghbegdjeehaaaGreatDoor
/- spec.Unpin: left out. -/
namespace Go.Proofs.YtkghbegdjeehaaaGreatDoor
open Go.RowKit
end Go.Proofs.YtkghbegdjeehaaaGreatDoor
