/- Part 38 of the proofs that laws of package whole answer true at every input and leave the input as it was, where the library's variables start as the text lays them (the texts YG5). -/
import Derived.Test.YteaeloeebfdodaaGreatDoorZ36
import Derived.Test.YteaeloeebfdodaaGreatDoorZ37
import Derived.Test.YteaeloeebfdodaaGreatDoorCards
import Derived.Test.YteaeloeebfdodaaGreatDoorTie
set_option linter.unusedVariables false
set_option linter.unusedSimpArgs false
namespace Go.Proofs.YteaeloeebfdodaaGreatDoor
open Go.ChangeShapes Go.WideShapes Go.ChangeAt Go.RowKit
set_option maxRecDepth 100000
theorem bases_card : Rows.WholeBasesCardSaid :=
  bases_tied_plain_goes .later _ true (true, "d2e0e1776ba4e3d9448add20856a3950281a10c7a5e6ba4db0e927d3eb2df3b5") true true bases_row (by kernel_rfl) wholeBases_row_tie rfl ⟨rfl, rfl⟩ (by kernel_rfl) rfl (bases_main_looks (by kernel_rfl)) bases_goes
#print axioms bases_card
end Go.Proofs.YteaeloeebfdodaaGreatDoor
