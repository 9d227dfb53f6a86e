/- Part 40 of the proofs that laws of package whole answer true at every input and leave the input as it was, where the library's variables start as the text lays them (the texts YF5). -/
import Derived.Test.YteaeloeebfdodaaGreatDoorF38
import Derived.Test.YteaeloeebfdodaaGreatDoorF39
import Derived.Test.YteaeloeebfdodaaGreatDoorCards
import Derived.Test.YteaeloeebfdodaaGreatDoorTie
set_option linter.unusedVariables false
set_option linter.unusedSimpArgs false
/- WholeKnown answers true, whatever the input, and the input reads as it did, where the variables of the library start as the text lays them: the tied card. -/
namespace Go.Proofs.YteaeloeebfdodaaGreatDoor
open Go.ChangeShapes Go.WideShapes Go.ChangeAt Go.RowKit
set_option maxRecDepth 100000
theorem known_card : Rows.WholeKnownCardSaid :=
  known_tied_plain_goes .later _ true (true, "d2e0e1776ba4e3d9448add20856a3950281a10c7a5e6ba4db0e927d3eb2df3b5") true true known_row (by kernel_rfl) wholeKnown_row_tie rfl ⟨rfl, rfl⟩ (by kernel_rfl) rfl (known_main_looks (by kernel_rfl)) known_goes
#print axioms known_card
end Go.Proofs.YteaeloeebfdodaaGreatDoor
