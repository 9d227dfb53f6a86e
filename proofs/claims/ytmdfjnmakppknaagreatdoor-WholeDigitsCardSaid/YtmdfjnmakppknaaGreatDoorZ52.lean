/- Part 52 of the proofs that laws of package whole answer true at every input and leave the input as it was, where the library's variables start as the text lays them (the texts L10). -/
import Derived.Test.YtmdfjnmakppknaaGreatDoorZ50
import Derived.Test.YtmdfjnmakppknaaGreatDoorZ51
import Derived.Test.YtmdfjnmakppknaaGreatDoorCards
import Derived.Test.YtmdfjnmakppknaaGreatDoorTie
set_option linter.unusedVariables false
set_option linter.unusedSimpArgs false
/- WholeDigits answers true, whatever the input, and the input reads as it did, where the variables of the library start as the text lays them: the tied card. -/
namespace Go.Proofs.YtmdfjnmakppknaaGreatDoor
open Go.ChangeShapes Go.WideShapes Go.ChangeAt Go.RowKit
set_option maxRecDepth 100000
theorem digits_card : Rows.WholeDigitsCardSaid :=
  digits_tied_plain_goes .later _ true (true, "db167d672ab6f59ba3251a13cafff2962b685ac601c4baa7bf3252a67d593031") true true digits_row (by kernel_rfl) wholeDigits_row_tie rfl ⟨rfl, rfl⟩ (by kernel_rfl) rfl (digits_main_looks (by kernel_rfl)) digits_goes
#print axioms digits_card
end Go.Proofs.YtmdfjnmakppknaaGreatDoor
