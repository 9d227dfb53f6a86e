/- Part 38 of the proofs that laws of package whole answer true at every input and leave the input as it was, where the library's variables start as the text lays them (the texts I7). -/
import Derived.Test.YtmdfjnmakppknaaGreatDoorZ36
import Derived.Test.YtmdfjnmakppknaaGreatDoorZ37
import Derived.Test.YtmdfjnmakppknaaGreatDoorCards
import Derived.Test.YtmdfjnmakppknaaGreatDoorTie
set_option linter.unusedVariables false
set_option linter.unusedSimpArgs false
/- WholeRing answers true, whatever the input, and the input reads as it did, where the variables of the library start as the text lays them: the tied card. -/
namespace Go.Proofs.YtmdfjnmakppknaaGreatDoor
open Go.ChangeShapes Go.WideShapes Go.ChangeAt Go.RowKit
set_option maxRecDepth 100000
theorem ring_card : Rows.WholeRingCardSaid :=
  tied_plain_goes .later _ true (true, "db167d672ab6f59ba3251a13cafff2962b685ac601c4baa7bf3252a67d593031") true true ring_row (by kernel_rfl) wholeRing_row_tie rfl ⟨rfl, rfl⟩ (by kernel_rfl) rfl (main_looks (by kernel_rfl)) ring_goes
#print axioms ring_card
end Go.Proofs.YtmdfjnmakppknaaGreatDoor
