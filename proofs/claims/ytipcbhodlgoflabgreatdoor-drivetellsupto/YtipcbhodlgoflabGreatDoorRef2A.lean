/- What the document's own May of programs does. -/
import Derived.Test.YtipcbhodlgoflabGreatDoorLayH
namespace Go.Proofs.YtipcbhodlgoflabGreatDoor
open Go.RowKit
open Go.RowKit
end Go.Proofs.YtipcbhodlgoflabGreatDoor
