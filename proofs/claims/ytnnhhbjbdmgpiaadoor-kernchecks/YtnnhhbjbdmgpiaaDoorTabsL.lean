/- The two tables of package code that every check reads, as the walks ask them. -/
import Derived.Test.YtnnhhbjbdmgpiaaDoorKit
import Derived.Test.YtnnhhbjbdmgpiaaDoorCodeW
namespace Go.Proofs.YtnnhhbjbdmgpiaaDoor
set_option maxRecDepth 100000
open Go.ChangeShapes Go.WideShapes Go.ChangeAt Go.RowKit

theorem insFields : fourInts Tryd.prog 73 = true := by kernel_rfl
theorem cellsInt : Tryd.prog.cellsOf 3 = 1 := by kernel_rfl
theorem cellsL : Tryd.prog.cellsOf 89 = 4 := by kernel_rfl
theorem cellsR : Tryd.prog.cellsOf 86 = 3 := by kernel_rfl
theorem gL : Tryd.prog.globalNamed "curfew/code.largest" = some 1 := by kernel_rfl
theorem gLt : (Tryd.prog.globals[1]?).map (·.type) = some 89 := by kernel_rfl
theorem gF : Tryd.prog.globalNamed "curfew/code.formats" = some 0 := by kernel_rfl
theorem gFt : (Tryd.prog.globals[0]?).map (·.type) = some 88 := by kernel_rfl
section
variable {W : World} {laid : List (String × DataW Unit)} (h : laidMetH Tryd.prog laid W)
include h
theorem laidL (hm : ("curfew/code.largest", Rows.laid_curfew_code_largest) ∈ laid) : TabL W := tab_ints h hm gL gLt Tryd.underlying89 Tryd.underlying3 cellsInt cellsL
theorem laidF (hm : ("curfew/code.formats", Rows.laid_curfew_code_formats) ∈ laid) : TabF W :=
  tab_rows (zss := Cf.fmtTab) h hm gF gFt Tryd.underlying88 Tryd.underlying86 Tryd.underlying3 cellsInt cellsR (by decide) (by decide)
end
end Go.Proofs.YtnnhhbjbdmgpiaaDoor
