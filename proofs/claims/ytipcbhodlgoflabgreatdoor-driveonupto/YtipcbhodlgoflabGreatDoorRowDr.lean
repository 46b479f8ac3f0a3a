/- What the rows of the statements on scripts list. -/
import Derived.Test.YtipcbhodlgoflabGreatDoorCards
import Derived.Test.YtipcbhodlgoflabGreatDoorTie
import Derived.Test.YtipcbhodlgoflabGreatDoorRowBase
import Derived.Test.YtipcbhodlgoflabGreatDoorTxAB
import Derived.WalkKit
import Derived.ProofKit
import Derived.OpenShut
import Derived.Deep.DeepHandedRow
import Derived.Deep.DeepWitnessRowRef
import Derived.Lib.LaidTab
import Derived.Stop.LaidErr
import Derived.LaidMore
namespace Go.Proofs.YtipcbhodlgoflabGreatDoor
open Go.ChangeShapes Go.WideShapes Go.ChangeAt Go.RowKit
theorem ac1:Tryz.prog.globalNamed "internal/strconv.uint64pow10" = some 1:=by kernel_rfl
theorem OD:(Tryz.prog.globals[1]?).map (·.type)=some 228:=by kernel_rfl
theorem OE:Tryz.prog.cellsOf 228=20:=by kernel_rfl
theorem OG:Tryz.prog.cellsOf 205=1:=by kernel_rfl
theorem ac2:Tryz.prog.globalNamed "strconv.ErrSyntax" = some 2:=by kernel_rfl
theorem OH:(Tryz.prog.globals[2]?).map (·.type)=some 54:=by kernel_rfl
theorem ac3:Tryz.prog.globalNamed "strconv.ErrRange" = some 3:=by kernel_rfl
theorem OI:(Tryz.prog.globals[3]?).map (·.type)=some 54:=by kernel_rfl
theorem wD:Tryz.prog.cellsOf 253=1:=by kernel_rfl
theorem Ey:Tryz.prog.cellsOf 9=1:=by kernel_rfl
theorem star : "*" ++ "errors.errorString" = "*errors.errorString" := by decide
theorem OJ (u:TypeId) (h:Tryz.prog.typeName? 3 u=some "*errors.errorString") : u=251 :=
 typeName_ptr_named (nm := "errors.errorString") (by rw [star];kernel_rfl) (by kernel_rfl) (by decide) u (by rw [star];exact h)
theorem J2 {W:World} (h:laidMetH Tryz.prog Rows.driveTellsRow.laid W) (hsh:W.ShapedOpen Tryz.prog) : Laid W:=by rw [show Rows.driveTellsRow.laid=[("math/bits.deBruijn32tab",Rows.laid_math_bits_deBruijn32tab),("math/bits.deBruijn64tab",Rows.laid_math_bits_deBruijn64tab),("internal/strconv.uint64pow10",Rows.laid_internal_strconv_uint64pow10),("strconv.ErrRange",Rows.laid_strconv_ErrRange),("strconv.ErrSyntax",Rows.laid_strconv_ErrSyntax)] from rfl,MakeChecks.laidMetH_plain _ _ _ (by kernel_rfl)] at h;have h2:=h.tail.tail;have h3:=h2.tail;have h4:=h3.tail;obtain ⟨a0,s0,hv0,-,-,-⟩:=laid_sentinel h3 ac3 OI Tryz.underlying54 OJ Tryz.underlying251 Tryz.underlying253 rfl rfl Tryz.underlying9 wD Ey;obtain ⟨a1,s1,hv1,-,-,-⟩:=laid_sentinel h4 ac2 OH Tryz.underlying54 OJ Tryz.underlying251 Tryz.underlying253 rfl rfl Tryz.underlying9 wD Ey;exact ⟨Lib.tabIs_of_head ac1 OD Tryz.underlying228 Tryz.underlying205 OG OE h2,⟨_,_,hv1⟩,⟨_,_,hv0⟩,Tryz.laysM145.s1_3 W hsh⟩
end Go.Proofs.YtipcbhodlgoflabGreatDoor
