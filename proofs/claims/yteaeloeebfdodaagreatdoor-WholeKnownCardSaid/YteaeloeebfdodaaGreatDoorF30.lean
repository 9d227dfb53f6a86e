/- Part 30 of the proofs that laws of package whole answer true at every input and leave the input as it was, where the library's variables start as the text lays them (the texts O4, U1, U2, U3). -/
import Derived.Test.YteaeloeebfdodaaGreatDoorF29
import Derived.Deep.AppendLies
import Derived.Deep.RegionHeld3
set_option linter.unusedVariables false
set_option linter.unusedSimpArgs false
/- WALKS: the reference's limbs of a text: the walk. -/
namespace Go.Proofs.YteaeloeebfdodaaGreatDoor
open Go.RowKit Go.Proofs.Rf
end Go.Proofs.YteaeloeebfdodaaGreatDoor

/- WALKS: the reference's order, sum and difference of limbs. -/
namespace Go.Proofs.YteaeloeebfdodaaGreatDoor
open Go.RowKit Go.Proofs.Rf
/-- what an append of a number wants -/
structure AppI (B : Nat) (wr A : World) (v : Value) (l : List Nat) (x : Int) : Prop where
  own : A.ownsRow B 3 1 v l.length (i64s l)
  cell : ∀ (j : Nat) (u : Value), [Value.int .i64 x][j]? = some u → A.cell? ((⟨wr.heap.size, 0, none⟩ : Addr).add j) = some u
  one : ∀ u ∈ [Value.int .i64 x], u.oneCell' = true
  big : B ≤ A.heap.size
  below : Below wr.heap.size wr A
end Go.Proofs.YteaeloeebfdodaaGreatDoor

/- WALKS: the reference's difference of limbs. -/
namespace Go.Proofs.YteaeloeebfdodaaGreatDoor
open Go.RowKit Go.Proofs.Rf
end Go.Proofs.YteaeloeebfdodaaGreatDoor

/- WALKS: the reference's sum of limbs. -/
namespace Go.Proofs.YteaeloeebfdodaaGreatDoor
open Go.RowKit Go.Proofs.Rf
end Go.Proofs.YteaeloeebfdodaaGreatDoor
