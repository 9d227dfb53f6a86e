/- Part 37 of the proofs that laws of package whole answer true at every input and leave the input as it was, where the library's variables start as the text lays them (the texts YH5). -/
import Derived.Test.YteggbenhffmijaaGreatDoorZ35
import Derived.Test.YteggbenhffmijaaGreatDoorZ36
import Derived.Test.YteggbenhffmijaaGreatDoorCards
import Derived.Test.YteggbenhffmijaaGreatDoorTie
set_option linter.unusedVariables false
set_option linter.unusedSimpArgs false
/- WholeFactors answers true, whatever the input, and the input reads as it did, where the variables of the library start as the text lays them: the tied card. -/
namespace Go.Proofs.YteggbenhffmijaaGreatDoor
open Go.ChangeShapes Go.WideShapes Go.ChangeAt Go.RowKit
set_option maxRecDepth 100000
theorem factors_card : Rows.WholeFactorsCardSaid :=
  factors_tied_plain_goes .later _ true (true, "26278af25f1ca8c351057022f3c386ae6e07c6e13d83607bd2fc4edce185c415") true true factors_row (by kernel_rfl) wholeFactors_row_tie rfl ⟨rfl, rfl⟩ (by kernel_rfl) rfl (factors_main_looks (by kernel_rfl)) factors_goes
#print axioms factors_card
end Go.Proofs.YteggbenhffmijaaGreatDoor
