/- Part 29 of the proofs that laws of package whole answer true at every input and leave the input as it was, where the library's variables start as the text lays them (the texts W9, W10). -/
import Derived.Test.YteaeloeebfdodaaGreatDoorZ28
import Derived.Test.YteaeloeebfdodaaGreatDoorZ17
import Derived.Test.YteaeloeebfdodaaGreatDoorZ20
set_option linter.unusedVariables false
set_option linter.unusedSimpArgs false
namespace Go.Proofs.YteaeloeebfdodaaGreatDoor
open Go.RowKit
end Go.Proofs.YteaeloeebfdodaaGreatDoor

namespace Go.Proofs.YteaeloeebfdodaaGreatDoor
open Go.RowKit Go.Proofs.Rf
end Go.Proofs.YteaeloeebfdodaaGreatDoor
