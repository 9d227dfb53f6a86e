/- Part 31 of the proofs that laws of package whole answer true at every input and leave the input as it was, where the library's variables start as the text lays them (the texts U4, U5, K4, U6, U7, U8, U9). -/
import Derived.Test.YteaeloeebfdodaaGreatDoorF30
import Derived.Deep.OwnRows
import Derived.Test.YteaeloeebfdodaaGreatDoorF29
import Derived.Test.YteaeloeebfdodaaGreatDoorF10
set_option linter.unusedVariables false
set_option linter.unusedSimpArgs false
/- WALKS: the reference's product of limbs. -/
namespace Go.Proofs.YteaeloeebfdodaaGreatDoor
open Go.RowKit Go.Proofs.Rf
/-- block b is the call's own, and has these numbers -/
structure OwnJ (w : World) (b : Nat) (l : List Nat) : Prop where
  lt : b < w.heap.size
  cell : ∀ i, i < l.length → w.cell? ⟨b, i, none⟩ = some (.int .i64 (l.getD i 0 : Nat))
  free : ∀ i, i < l.length → w.frozen? ⟨b, i, none⟩ = false
theorem OwnJ.mono {w w' : World} {b B : Nat} {l : List Nat} (h : OwnJ w b l) (hb : Below B w w') (hB : b < B) : OwnJ w' b l :=
  ⟨Nat.lt_of_lt_of_le h.lt hb.size, fun i hi => (hb.cell (p := ⟨b, i, none⟩) hB).trans (h.cell i hi), fun i hi => (hb.frozen (p := ⟨b, i, none⟩) hB).trans (h.free i hi)⟩
theorem OwnJ.set {w : World} {b : Nat} {l : List Nat} (h : OwnJ w b l) {i : Nat} (hi : i < l.length) (x : Nat) (z : Int) (hz : z = (x : Int)) : OwnJ (w.setCell ⟨b, i, none⟩ (.int .i64 z)) b (l.set i x) := by
  subst hz
  refine ⟨by simpa using h.lt, fun j hj => ?_, fun j hj => ?_⟩
  · rw [List.length_set] at hj
    by_cases e : i = j
    · subst e
      rw [World.cell?_setCell_same _ _ _ (h.cell i hi)]
      simp [List.getD, hi]
    · rw [World.cell?_setCell_other _ _ _ _ (by intro e'; exact e (congrArg Addr.off e')), h.cell j hj]
      simp [List.getD, List.getElem?_set_ne e]
  · rw [List.length_set] at hj
    rw [World.frozen?_setCell]; exact h.free j hj
theorem OwnJ.rl {w : World} {b : Nat} {l : List Nat} (h : OwnJ w b l) : RL4 w (.slice (some ⟨b, 0, none⟩) l.length l.length) l :=
  ⟨_, _, rfl, fun i hi => ⟨b, 0, rfl, h.lt, fun j hj => by rw [Nat.zero_add]; exact h.cell j hj⟩, Nat.le_refl _⟩
theorem Il.only {w w' : World} {a : Option Addr} {n : Nat} {l : List Nat} {g : Nat} (h : Il w a n l) (ho : Only g w w') (hg : w.heap.size ≤ g) : Il w' a n l := fun i hi => by
  obtain ⟨b, off, e, hl, hc⟩ := h i hi
  exact ⟨b, off, e, Nat.lt_of_lt_of_le hl ho.size, fun j hj => (ho.cell (p := ⟨b, off + j, none⟩) (by show b ≠ g; omega) hl).trans (hc j hj)⟩
end Go.Proofs.YteaeloeebfdodaaGreatDoor

/- WALKS: the reference's text of limbs. -/
namespace Go.Proofs.YteaeloeebfdodaaGreatDoor
open Go.RowKit Go.Proofs.Rf
end Go.Proofs.YteaeloeebfdodaaGreatDoor

/- WALKS: the parts of the statement on primes: the text of a number under 1,000,000 is read back; Factor of it. -/
namespace Go.Proofs.YteaeloeebfdodaaGreatDoor
open Go.RowKit Go.Proofs.Rf
end Go.Proofs.YteaeloeebfdodaaGreatDoor

/- WALKS: the reference's numbers as texts: sign, size, small ones. -/
namespace Go.Proofs.YteaeloeebfdodaaGreatDoor
open Go.RowKit Go.Proofs.Rf
end Go.Proofs.YteaeloeebfdodaaGreatDoor

/- WALKS: the reference's small numbers, signs, and sums. -/
namespace Go.Proofs.YteaeloeebfdodaaGreatDoor
open Go.RowKit Go.Proofs.Rf
end Go.Proofs.YteaeloeebfdodaaGreatDoor

/- WALKS: the reference's sum, difference, product and order of numbers. -/
namespace Go.Proofs.YteaeloeebfdodaaGreatDoor
open Go.RowKit Go.Proofs.Rf
/-- a number of at most 400 digits -/
abbrev V400 (x : Int) : Prop := (Wh.decN x.natAbs).length ≤ 400
end Go.Proofs.YteaeloeebfdodaaGreatDoor

/- WALKS: the reference's negative, difference, product and order of numbers. -/
namespace Go.Proofs.YteaeloeebfdodaaGreatDoor
open Go.RowKit Go.Proofs.Rf
end Go.Proofs.YteaeloeebfdodaaGreatDoor
