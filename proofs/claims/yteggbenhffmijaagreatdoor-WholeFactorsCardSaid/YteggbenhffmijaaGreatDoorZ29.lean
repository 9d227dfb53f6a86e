/- Part 29 of the proofs that laws of package whole answer true at every input and leave the input as it was, where the library's variables start as the text lays them (the texts U11, U12, U13, U14, N5). -/
import Derived.Test.YteggbenhffmijaaGreatDoorZ25
import Derived.Laws.AppendOwnNone
import Derived.Test.YteggbenhffmijaaGreatDoorZ06
import Derived.Test.YteggbenhffmijaaGreatDoorZ28
set_option linter.unusedVariables false
set_option linter.unusedSimpArgs false
/- WALKS: the reference's guess of a limb of a quotient. -/
namespace Go.Proofs.YteggbenhffmijaaGreatDoor
open Go.RowKit Go.Proofs.Rf
end Go.Proofs.YteggbenhffmijaaGreatDoor

/- WALKS: the reference's division of limbs. -/
namespace Go.Proofs.YteggbenhffmijaaGreatDoor
open Go.RowKit Go.Proofs.Rf
/-- the state of the division: at position i -/
structure OVS (w wr : World) (l1 l2 : List Nat) (i : Nat) (rv : Value) (quo r : List Nat) : Prop where
  ov : OVI l1 l2 i quo (val4 r)
  own : OwnJ wr w.heap.size quo
  rl : RL4 wr rv r
  sr : Sm4 r
  tr : Top r
  only : Only w.heap.size w wr
/-- within a round: the guess g is not too small -/
structure OVG (w wr : World) (l2 : List Nat) (rv : Value) (quo r : List Nat) (g : Nat) : Prop where
  ge : val4 r / val4 l2 ≤ g
  lt : g ≤ 9999
  own : OwnJ wr w.heap.size quo
  rl : RL4 wr rv r
  far : ∀ b off k c, rv = .slice (some ⟨b, off, none⟩) k c → w.heap.size < b
  only : Only w.heap.size w wr
theorem Il.setCell_far {w : World} {a : Option Addr} {n : Nat} {l : List Nat} {g : Nat} (j : Nat) (v : Value) (h : Il w a n l) (hf : ∀ b off, a = some ⟨b, off, none⟩ → g < b) : Il (w.setCell ⟨g, j, none⟩ v) a n l := fun i hi => by
  obtain ⟨b, off, e, hl, hc⟩ := h i hi
  have hg := hf b off e
  refine ⟨b, off, e, by simpa using hl, fun q hq => ?_⟩
  rw [World.cell?_setCell_other _ _ _ _ (by intro e'; have := congrArg Addr.block e'; simp at this; omega)]
  exact hc q hq
theorem OVG.stored {w wr : World} {l1 l2 quo r : List Nat} {rv : Value} {g j : Nat} (h : OVG w wr l2 rv quo r g) (hj : j < quo.length) :
    wr.cell? ⟨w.heap.size, j, none⟩ = some (.int .i64 (quo.getD j 0 : Nat)) ∧ wr.frozen? ⟨w.heap.size, j, none⟩ = false ∧
    OwnJ (wr.setCell ⟨w.heap.size, j, none⟩ (.int .i64 g)) w.heap.size (quo.set j g) ∧ Only w.heap.size w (wr.setCell ⟨w.heap.size, j, none⟩ (.int .i64 g)) ∧ RL4 (wr.setCell ⟨w.heap.size, j, none⟩ (.int .i64 g)) rv r := by
  refine ⟨h.own.cell j hj, h.own.free j hj, h.own.set hj g _ rfl, h.only.setCell j _, ?_⟩
  obtain ⟨a, c, rfl, hil, hc⟩ := h.rl
  exact ⟨a, c, rfl, hil.setCell_far j _ (fun b off e => h.far b off _ _ (by rw [e])), hc⟩
end Go.Proofs.YteggbenhffmijaaGreatDoor

/- WALKS: the reference's quotient and remainder of numbers. -/
namespace Go.Proofs.YteggbenhffmijaaGreatDoor
open Go.RowKit Go.Proofs.Rf
end Go.Proofs.YteggbenhffmijaaGreatDoor

/- WALKS: the reference's Floor. -/
namespace Go.Proofs.YteggbenhffmijaaGreatDoor
open Go.RowKit Go.Proofs.Rf
end Go.Proofs.YteggbenhffmijaaGreatDoor

/- WALKS, small ratios 5: sign, negative, inverse. -/
namespace Go.Proofs.YteggbenhffmijaaGreatDoor
open Go.RowKit
end Go.Proofs.YteggbenhffmijaaGreatDoor
