/- Part 44 of the proofs that laws of package whole answer true at every input and leave the input as it was, where the library's variables start as the text lays them (the texts Y1). -/
import Derived.Test.YteaeloeebfdodaaGreatDoorX39
import Derived.Test.YteaeloeebfdodaaGreatDoorX32
set_option linter.unusedVariables false
set_option linter.unusedSimpArgs false
/- WALKS, the law WholeOrder. -/
namespace Go.Proofs.YteaeloeebfdodaaGreatDoor
open Go.RowKit
theorem Bd.v400 {k : Nat} {x : Int} (h : Bd k x) (hk : 0 < k) (hk4 : k ≤ 400) : V400 x := Nat.le_trans (Wh.decN_length_le hk h) hk4
end Go.Proofs.YteaeloeebfdodaaGreatDoor
