/- Part 32 of the proofs that laws of package whole answer true at every input and leave the input as it was, where the library's variables start as the text lays them (the texts U11, U12, U10, U13). -/
import Derived.Test.YteaeloeebfdodaaGreatDoorF31
import Derived.Laws.AppendOwnNone
set_option linter.unusedVariables false
set_option linter.unusedSimpArgs false
/- WALKS: the reference's guess of a limb of a quotient. -/
namespace Go.Proofs.YteaeloeebfdodaaGreatDoor
open Go.RowKit Go.Proofs.Rf
end Go.Proofs.YteaeloeebfdodaaGreatDoor

/- WALKS: the reference's division of limbs. -/
namespace Go.Proofs.YteaeloeebfdodaaGreatDoor
open Go.RowKit Go.Proofs.Rf
/-- the state of the division: at position i -/
structure OVS (w wr : World) (l1 l2 : List Nat) (i : Nat) (rv : Value) (quo r : List Nat) : Prop where
  ov : OVI l1 l2 i quo (val4 r)
  own : OwnJ wr w.heap.size quo
  rl : RL4 wr rv r
  sr : Sm4 r
  tr : Top r
  only : Only w.heap.size w wr
/-- within a round: the guess g is not too small -/
structure OVG (w wr : World) (l2 : List Nat) (rv : Value) (quo r : List Nat) (g : Nat) : Prop where
  ge : val4 r / val4 l2 ≤ g
  lt : g ≤ 9999
  own : OwnJ wr w.heap.size quo
  rl : RL4 wr rv r
  far : ∀ b off k c, rv = .slice (some ⟨b, off, none⟩) k c → w.heap.size < b
  only : Only w.heap.size w wr
theorem Il.setCell_far {w : World} {a : Option Addr} {n : Nat} {l : List Nat} {g : Nat} (j : Nat) (v : Value) (h : Il w a n l) (hf : ∀ b off, a = some ⟨b, off, none⟩ → g < b) : Il (w.setCell ⟨g, j, none⟩ v) a n l := fun i hi => by
  obtain ⟨b, off, e, hl, hc⟩ := h i hi
  have hg := hf b off e
  refine ⟨b, off, e, by simpa using hl, fun q hq => ?_⟩
  rw [World.cell?_setCell_other _ _ _ _ (by intro e'; have := congrArg Addr.block e'; simp at this; omega)]
  exact hc q hq
theorem OVG.stored {w wr : World} {l1 l2 quo r : List Nat} {rv : Value} {g j : Nat} (h : OVG w wr l2 rv quo r g) (hj : j < quo.length) :
    wr.cell? ⟨w.heap.size, j, none⟩ = some (.int .i64 (quo.getD j 0 : Nat)) ∧ wr.frozen? ⟨w.heap.size, j, none⟩ = false ∧
    OwnJ (wr.setCell ⟨w.heap.size, j, none⟩ (.int .i64 g)) w.heap.size (quo.set j g) ∧ Only w.heap.size w (wr.setCell ⟨w.heap.size, j, none⟩ (.int .i64 g)) ∧ RL4 (wr.setCell ⟨w.heap.size, j, none⟩ (.int .i64 g)) rv r := by
  refine ⟨h.own.cell j hj, h.own.free j hj, h.own.set hj g _ rfl, h.only.setCell j _, ?_⟩
  obtain ⟨a, c, rfl, hil, hc⟩ := h.rl
  exact ⟨a, c, rfl, hil.setCell_far j _ (fun b off e => h.far b off _ _ (by rw [e])), hc⟩
end Go.Proofs.YteaeloeebfdodaaGreatDoor

/- WALKS: the reference's check of a number. -/
namespace Go.Proofs.YteaeloeebfdodaaGreatDoor
open Go.RowKit Go.Proofs.Rf
structure DecG (l : List UInt8) : Prop where
  ne : l ≠ []
  dig : ∀ c ∈ l, 48 ≤ c.toNat ∧ c.toNat ≤ 57
  head : l.headD 0 ≠ 48 ∨ l.length = 1
  len : l.length ≤ 2000
theorem DecG.at {l : List UInt8} (h : DecG l) {i : Nat} (hi : i < l.length) : 48 ≤ (l.getD i 0).toNat ∧ (l.getD i 0).toNat ≤ 57 := by
  rw [List.getD_eq_getElem?_getD, List.getElem?_eq_getElem hi]; exact h.dig _ (List.getElem_mem hi)
theorem DecG.pos {l : List UInt8} (h : DecG l) : 0 < l.length := List.length_pos_iff.2 h.ne
end Go.Proofs.YteaeloeebfdodaaGreatDoor

/- WALKS: the reference's quotient and remainder of numbers. -/
namespace Go.Proofs.YteaeloeebfdodaaGreatDoor
open Go.RowKit Go.Proofs.Rf
end Go.Proofs.YteaeloeebfdodaaGreatDoor
