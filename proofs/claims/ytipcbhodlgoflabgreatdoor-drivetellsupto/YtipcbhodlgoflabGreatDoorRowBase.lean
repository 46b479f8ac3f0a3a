/- How an argument is read: a slice of 64-bit numbers, a fraction. -/
import Derived.Test.YtipcbhodlgoflabGreatDoorRows
import Derived.Test.YtipcbhodlgoflabGreatDoorBaseA
import Derived.ProofKit
import Derived.OpenShut
import Derived.ShutString
import Derived.ChangeOld
import Derived.SizedLaws
import Derived.Lib.SmallJoins
namespace Go.Proofs.YtipcbhodlgoflabGreatDoor
open Go.ChangeShapes Go.WideShapes Go.ChangeAt Go.RowKit Go.Joins
theorem own:ownKnob Tryz.prog.godebug=none:=by kernel_rfl
theorem laidOut:laidOutB Tryz.prog=true:=by kernel_rfl
end Go.Proofs.YtipcbhodlgoflabGreatDoor
