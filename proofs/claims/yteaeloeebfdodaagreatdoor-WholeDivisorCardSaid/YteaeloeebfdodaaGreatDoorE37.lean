/- Part 37 of the proofs that laws of package whole answer true at every input and leave the input as it was, where the library's variables start as the text lays them (the texts YE5). -/
import Derived.Test.YteaeloeebfdodaaGreatDoorE35
import Derived.Test.YteaeloeebfdodaaGreatDoorE36
import Derived.Test.YteaeloeebfdodaaGreatDoorCards
import Derived.Test.YteaeloeebfdodaaGreatDoorTie
set_option linter.unusedVariables false
set_option linter.unusedSimpArgs false
/- WholeDivisor answers true, whatever the input, and the input reads as it did, where the variables of the library start as the text lays them: the tied card. -/
namespace Go.Proofs.YteaeloeebfdodaaGreatDoor
open Go.ChangeShapes Go.WideShapes Go.ChangeAt Go.RowKit
set_option maxRecDepth 100000
theorem divisor_card : Rows.WholeDivisorCardSaid :=
  divisor_tied_plain_goes .later _ true (true, "d2e0e1776ba4e3d9448add20856a3950281a10c7a5e6ba4db0e927d3eb2df3b5") true true divisor_row (by kernel_rfl) wholeDivisor_row_tie rfl ⟨rfl, rfl⟩ (by kernel_rfl) rfl (divisor_main_looks (by kernel_rfl)) divisor_goes
#print axioms divisor_card
end Go.Proofs.YteaeloeebfdodaaGreatDoor
