/- Part 30 of the proofs that laws of package whole answer true at every input and leave the input as it was, where the library's variables start as the text lays them (the texts N6, N9, N10, N11, N12, N13, N14, N7, N15). -/
import Derived.Test.YteggbenhffmijaaGreatDoorZ29
import Derived.Test.YteggbenhffmijaaGreatDoorZ28
import Derived.Test.YteggbenhffmijaaGreatDoorZ11
import Derived.BigQuiet
import Derived.Test.YteggbenhffmijaaGreatDoorZ22
import Derived.Test.YteggbenhffmijaaGreatDoorZ09
set_option linter.unusedVariables false
set_option linter.unusedSimpArgs false
/- WALKS, small ratios 6: negative. -/
namespace Go.Proofs.YteggbenhffmijaaGreatDoor
open Go.RowKit
theorem str_cons45 (l : List UInt8) : (⟨#[45]⟩ : ByteArray) ++ str l = str (45 :: l) := by
  apply ByteArray.ext
  simp [str, ByteArray.data_append]
end Go.Proofs.YteggbenhffmijaaGreatDoor

/- WALKS, small ratios 9: length, result. -/
namespace Go.Proofs.YteggbenhffmijaaGreatDoor
open Go.RowKit
end Go.Proofs.YteggbenhffmijaaGreatDoor

/- WALKS, small ratios 10: lowest terms. -/
namespace Go.Proofs.YteggbenhffmijaaGreatDoor
open Go.RowKit
/-- a short rational number in lowest terms -/
structure Lw (p q : Int) : Prop where
  sh : Sh p q
  g : Nat.gcd p.natAbs q.natAbs = 1
end Go.Proofs.YteggbenhffmijaaGreatDoor

/- WALKS, small ratios 11: ratio.Check. -/
namespace Go.Proofs.YteggbenhffmijaaGreatDoor
open Go.RowKit
end Go.Proofs.YteggbenhffmijaaGreatDoor

/- WALKS, small ratios 12: given. -/
namespace Go.Proofs.YteggbenhffmijaaGreatDoor
open Go.RowKit
end Go.Proofs.YteggbenhffmijaaGreatDoor

/- WALKS, small ratios 13: attempt of api.Rat, where the work ends well. -/
namespace Go.Proofs.YteggbenhffmijaaGreatDoor
open Go.RowKit
end Go.Proofs.YteggbenhffmijaaGreatDoor

/- WALKS, small ratios 14: what the work of an operation answers. -/
namespace Go.Proofs.YteggbenhffmijaaGreatDoor
open Go.RowKit
/-- a variable for two texts, not written yet -/
structure RBlank (w : World) (b : Nat) : Prop where
  c0 : w.cell? ⟨b, 0, none⟩ = some (.string ⟨#[]⟩)
  c1 : w.cell? ⟨b, 1, none⟩ = some (.string ⟨#[]⟩)
  f0 : w.frozen? ⟨b, 0, none⟩ = false
  f1 : w.frozen? ⟨b, 1, none⟩ = false
def RFresh (n : Nat) (w : World) (v : Value) : Prop := ∃ b, v = .pointer (some ⟨b, 0, none⟩) ∧ n ≤ b ∧ b < w.heap.size ∧ RBlank w b
theorem RBlank.mono {w w' : World} {b : Nat} (h : RBlank w b) (hl : b < w.heap.size) (hb : Below w.heap.size w w') : RBlank w' b :=
  ⟨(hb.cell (p := ⟨b, 0, none⟩) hl).trans h.c0, (hb.cell (p := ⟨b, 1, none⟩) hl).trans h.c1, (hb.frozen (p := ⟨b, 0, none⟩) hl).trans h.f0, (hb.frozen (p := ⟨b, 1, none⟩) hl).trans h.f1⟩
theorem RFresh.mono {n : Nat} {w w' : World} {v : Value} (h : RFresh n w v) (hb : Below w.heap.size w w') : RFresh n w' v := by
  obtain ⟨b, e, hn, hl, k⟩ := h
  exact ⟨b, e, hn, Nat.lt_of_lt_of_le hl hb.size, k.mono hl hb⟩
theorem RBlank.far {w : World} {b b' : Nat} (h : RBlank w b) (hne : b' ≠ b) (x y : Value) : RBlank ((w.setCell ⟨b', 0, none⟩ x).setCell ⟨b', 1, none⟩ y) b :=
  ⟨far1 h.c0 hne, far1 h.c1 hne, by simp only [World.frozen?_setCell]; exact h.f0, by simp only [World.frozen?_setCell]; exact h.f1⟩
/-- what the work of an operation has been given: two ratios -/
structure CapR (w : World) (pa pb : Nat) (s0 s1 s2 s3 : ByteArray) : Prop where
  a0 : w.cell? ⟨pa, 0, none⟩ = some (.string s0)
  a1 : w.cell? ⟨pa, 1, none⟩ = some (.string s1)
  b0 : w.cell? ⟨pb, 0, none⟩ = some (.string s2)
  b1 : w.cell? ⟨pb, 1, none⟩ = some (.string s3)
  la : pa < w.heap.size
  lb : pb < w.heap.size
end Go.Proofs.YteggbenhffmijaaGreatDoor

/- WALKS, small ratios 7: inverse. -/
namespace Go.Proofs.YteggbenhffmijaaGreatDoor
open Go.RowKit
end Go.Proofs.YteggbenhffmijaaGreatDoor

/- WALKS, small ratios 15: sums, differences, products, quotients. -/
namespace Go.Proofs.YteggbenhffmijaaGreatDoor
open Go.RowKit
end Go.Proofs.YteggbenhffmijaaGreatDoor
