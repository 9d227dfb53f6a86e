/- Part 28 of the proofs that laws of package whole answer true at every input and leave the input as it was, where the library's variables start as the text lays them (the texts N1, N2, N3, N4). -/
import Derived.Test.YteggbenhffmijaaGreatDoorZ22
import Derived.Test.YteggbenhffmijaaGreatDoorZ10
import Derived.Test.YteggbenhffmijaaGreatDoorZ24
import Derived.BigQuiet
import Derived.Test.YteggbenhffmijaaGreatDoorZ08
set_option linter.unusedVariables false
set_option linter.unusedSimpArgs false
/- WALKS, small ratios 1: numbers of at most nine digits as machine words. -/
namespace Go.Proofs.YteggbenhffmijaaGreatDoor
open Go.RowKit
end Go.Proofs.YteggbenhffmijaaGreatDoor

/- WALKS, small ratios 2: quotients in lowest terms. -/
namespace Go.Proofs.YteggbenhffmijaaGreatDoor
open Go.RowKit
end Go.Proofs.YteggbenhffmijaaGreatDoor

/- WALKS, small ratios 3: two ratios as four machine words. -/
namespace Go.Proofs.YteggbenhffmijaaGreatDoor
open Go.RowKit
/-- the memory of crossing: the result's cells, the numbers' cells -/
structure CrossSt (w wr : World) (c0 c1 c2 c3 : Int) : Prop where
  z0 : wr.cell? ⟨w.heap.size + 1 + 1, 0, none⟩ = some (.int .i64 0)
  z1 : wr.cell? ⟨w.heap.size + 1 + 1, 1, none⟩ = some (.int .i64 0)
  z2 : wr.cell? ⟨w.heap.size + 1 + 1, 2, none⟩ = some (.int .i64 0)
  z3 : wr.cell? ⟨w.heap.size + 1 + 1, 3, none⟩ = some (.int .i64 0)
  f0 : wr.frozen? ⟨w.heap.size + 1 + 1, 0, none⟩ = false
  f1 : wr.frozen? ⟨w.heap.size + 1 + 1, 1, none⟩ = false
  f2 : wr.frozen? ⟨w.heap.size + 1 + 1, 2, none⟩ = false
  f3 : wr.frozen? ⟨w.heap.size + 1 + 1, 3, none⟩ = false
  n0 : wr.cell? ⟨w.heap.size + 1 + 1 + 1, 0, none⟩ = some (.int .i64 c0)
  n1 : wr.cell? ⟨w.heap.size + 1 + 1 + 1, 1, none⟩ = some (.int .i64 c1)
  n2 : wr.cell? ⟨w.heap.size + 1 + 1 + 1, 2, none⟩ = some (.int .i64 c2)
  n3 : wr.cell? ⟨w.heap.size + 1 + 1 + 1, 3, none⟩ = some (.int .i64 c3)
  g0 : wr.frozen? ⟨w.heap.size + 1 + 1 + 1, 0, none⟩ = false
  g1 : wr.frozen? ⟨w.heap.size + 1 + 1 + 1, 1, none⟩ = false
  g2 : wr.frozen? ⟨w.heap.size + 1 + 1 + 1, 2, none⟩ = false
  g3 : wr.frozen? ⟨w.heap.size + 1 + 1 + 1, 3, none⟩ = false
  sz : w.heap.size + 4 ≤ wr.heap.size
  bl : Below w.heap.size w wr
theorem CrossSt.mono {w wr wr' : World} {c0 c1 c2 c3 : Int} (h : CrossSt w wr c0 c1 c2 c3) (hb : Below wr.heap.size wr wr') : CrossSt w wr' c0 c1 c2 c3 := by
  have l2 : w.heap.size + 1 + 1 < wr.heap.size := by have := h.sz; omega
  have l3 : w.heap.size + 1 + 1 + 1 < wr.heap.size := by have := h.sz; omega
  exact ⟨(hb.cell (p := ⟨w.heap.size + 1 + 1, 0, none⟩) l2).trans h.z0, (hb.cell (p := ⟨w.heap.size + 1 + 1, 1, none⟩) l2).trans h.z1, (hb.cell (p := ⟨w.heap.size + 1 + 1, 2, none⟩) l2).trans h.z2, (hb.cell (p := ⟨w.heap.size + 1 + 1, 3, none⟩) l2).trans h.z3,
    (hb.frozen (p := ⟨w.heap.size + 1 + 1, 0, none⟩) l2).trans h.f0, (hb.frozen (p := ⟨w.heap.size + 1 + 1, 1, none⟩) l2).trans h.f1, (hb.frozen (p := ⟨w.heap.size + 1 + 1, 2, none⟩) l2).trans h.f2, (hb.frozen (p := ⟨w.heap.size + 1 + 1, 3, none⟩) l2).trans h.f3,
    (hb.cell (p := ⟨w.heap.size + 1 + 1 + 1, 0, none⟩) l3).trans h.n0, (hb.cell (p := ⟨w.heap.size + 1 + 1 + 1, 1, none⟩) l3).trans h.n1, (hb.cell (p := ⟨w.heap.size + 1 + 1 + 1, 2, none⟩) l3).trans h.n2, (hb.cell (p := ⟨w.heap.size + 1 + 1 + 1, 3, none⟩) l3).trans h.n3,
    (hb.frozen (p := ⟨w.heap.size + 1 + 1 + 1, 0, none⟩) l3).trans h.g0, (hb.frozen (p := ⟨w.heap.size + 1 + 1 + 1, 1, none⟩) l3).trans h.g1, (hb.frozen (p := ⟨w.heap.size + 1 + 1 + 1, 2, none⟩) l3).trans h.g2, (hb.frozen (p := ⟨w.heap.size + 1 + 1 + 1, 3, none⟩) l3).trans h.g3,
    by have := h.sz; have := hb.size; omega, h.bl.trans (hb.mono h.bl.size)⟩
end Go.Proofs.YteggbenhffmijaaGreatDoor

/- WALKS, small ratios 4: sums, products, quotients by machine words. -/
namespace Go.Proofs.YteggbenhffmijaaGreatDoor
open Go.RowKit
/-- a short rational number -/
structure Sh (p q : Int) : Prop where
  p : p.natAbs < 1000000000
  q0 : 0 < q
  q : q < 1000000000
end Go.Proofs.YteggbenhffmijaaGreatDoor
