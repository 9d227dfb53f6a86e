/- Part 19 of the proofs that laws of package whole answer true at every input and leave the input as it was, where the library's variables start as the text lays them (the texts I3c). -/
import Derived.Test.YteaeloeebfdodaaGreatDoorF18
set_option linter.unusedVariables false
set_option linter.unusedSimpArgs false
/- what the rows of all laws of lists of numbers ask of the program's types -/
namespace Go.Proofs.YteaeloeebfdodaaGreatDoor
open Go.ChangeShapes Go.WideShapes Go.ChangeAt Go.RowKit
theorem und_bool : Tryz.prog.underlying 4 = some .bool := by kernel_rfl
end Go.Proofs.YteaeloeebfdodaaGreatDoor
