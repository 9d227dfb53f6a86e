/- Part 33 of the proofs that laws of package whole answer true at every input and leave the input as it was, where the library's variables start as the text lays them (the texts I2). -/
import Derived.Test.YtmdfjnmakppknaaGreatDoorZ32
import Derived.Test.YtmdfjnmakppknaaGreatDoorCards
import Derived.Test.YtmdfjnmakppknaaGreatDoorTie
set_option linter.unusedVariables false
set_option linter.unusedSimpArgs false
/- WholeRing: the row's contract, the row, the card. -/
namespace Go.Proofs.YtmdfjnmakppknaaGreatDoor
open Go.ChangeShapes Go.WideShapes Go.ChangeAt Go.RowKit
set_option maxRecDepth 100000
theorem door_met (os : Os) (args : Array Value) : laidMetH Tryz.prog Rows.wholeRingRow.laid ((World.doorLaid Tryz.prog 69 os).forCall (fun _ _ => 0) ⟨#[], args, []⟩).memory :=
  laidMetH_of_parts3 (fuel := 8) (laidMet_of_run' 8 (by kernel_rfl) (by kernel_rfl)) (by kernel_rfl) (by kernel_rfl)
theorem door_shaped (os : Os) (args : Array Value) : ((World.doorLaid Tryz.prog 69 os).forCall (fun _ _ => 0) ⟨#[], args, []⟩).Shaped Tryz.prog := World.shaped_of_RefB (by kernel_rfl) (by kernel_rfl)
end Go.Proofs.YtmdfjnmakppknaaGreatDoor
