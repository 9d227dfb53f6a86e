/- Part 19 of the proofs that laws of package whole answer true at every input and leave the input as it was, where the library's variables start as the text lays them (the texts I3c). -/
import Derived.Test.YteggbenhffmijaaGreatDoorZ18
set_option linter.unusedVariables false
set_option linter.unusedSimpArgs false
/- what the rows of all laws of lists of numbers ask of the program's types -/
namespace Go.Proofs.YteggbenhffmijaaGreatDoor
open Go.ChangeShapes Go.WideShapes Go.ChangeAt Go.RowKit
theorem und_ints : Tryz.prog.underlying 22 = some (.slice 3) := by kernel_rfl
theorem und_int : Tryz.prog.underlying 3 = some (.int .i64) := by kernel_rfl
theorem und_bool : Tryz.prog.underlying 4 = some .bool := by kernel_rfl
theorem cells_int : Tryz.prog.cellsOf 3 = 1 := by kernel_rfl
theorem laid_out : laidOutB Tryz.prog = true := by kernel_rfl
end Go.Proofs.YteggbenhffmijaaGreatDoor
