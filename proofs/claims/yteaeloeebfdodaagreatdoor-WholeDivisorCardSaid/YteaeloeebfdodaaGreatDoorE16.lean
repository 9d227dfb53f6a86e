/- Part 16 of the proofs that laws of package whole answer true at every input and leave the input as it was, where the library's variables start as the text lays them (the texts G5, V1). -/
import Derived.Test.YteaeloeebfdodaaGreatDoorE15
import Derived.Test.YteaeloeebfdodaaGreatDoorE11
import Derived.Test.YteaeloeebfdodaaGreatDoorE07
import Derived.Test.YteaeloeebfdodaaGreatDoorE06
set_option linter.unusedVariables false
set_option linter.unusedSimpArgs false
/- WALKS, the divisor 7: Combine at 12 and 18. -/
namespace Go.Proofs.YteaeloeebfdodaaGreatDoor
open Go.RowKit
theorem side_below (w : World) (wb : Nat) (h : w.cell? ⟨wb, 4, none⟩ = some (.bool true)) : Calls Tryz.prog 198 #[.pointer (some ⟨wb, 0, none⟩)] w fun e w' => e = .returned (.int .i64 (-1)) ∧ Below w.heap.size w w' := by
  go_enter Tryz.func198, Tryz.ntmps198
  go_wp2
  go_ret
  exact ⟨rfl, Below.refl _ _⟩
theorem NumBox.farB {w : World} {b b' : Nat} {z : Int} (h : NumBox w b z) (k : Blank w b') (hne : b' ≠ b) (u v : Value) : NumBox ((w.setCell ⟨b', 0, none⟩ u).setCell ⟨b', 1, none⟩ v) b z :=
  ⟨h.num.far k hne u v, by simp only [World.frozen?_setCell]; exact h.f0, by simp only [World.frozen?_setCell]; exact h.f1⟩
theorem Blank.putBox {w : World} {b : Nat} {x : Int} {a : Option Addr} {c : Nat} (h : Blank w b) (hs : Sl w (.slice a (Wh.limbs x.natAbs).length c) (Wh.limbs x.natAbs)) : NumBox ((w.setCell ⟨b, 0, none⟩ (.int .i64 x.sign)).setCell ⟨b, 1, none⟩ (.slice a (Wh.limbs x.natAbs).length c)) b x :=
  ⟨h.put hs, by simp only [World.frozen?_setCell]; exact h.f0, by simp only [World.frozen?_setCell]; exact h.f1⟩
theorem SlAt.farB {w : World} {b b' i x : Nat} (h : SlAt w b i x) (k : Blank w b') (hne : b' ≠ b) (u v : Value) : SlAt ((w.setCell ⟨b', 0, none⟩ u).setCell ⟨b', 1, none⟩ v) b i x := by
  have ne : ∀ j, (⟨b', j, none⟩ : Addr) ≠ ⟨b, i, none⟩ := fun j e => hne (congrArg Addr.block e)
  exact (h.far k.c0 (nl_int _) (ne 0) u).far (u := .slice none 0 0) (by rw [World.cell?_setCell_other _ _ _ _ (off_ne (by decide))]; exact k.c1) (nl_slice _ _ _) (ne 1) v
theorem WK.farB {w : World} {wb b' R N T A : Nat} {odd : Bool} (h : WK w wb R N T A odd) (k : Blank w b') (hne : b' ≠ wb) (u v : Value) : WK ((w.setCell ⟨b', 0, none⟩ u).setCell ⟨b', 1, none⟩ v) wb R N T A odd := by
  have ne : ∀ i j, (⟨b', j, none⟩ : Addr) ≠ ⟨wb, i, none⟩ := fun i j e => hne (congrArg Addr.block e)
  exact ⟨h.r.farB k hne u v, h.n.farB k hne u v, h.t.farB k hne u v, h.a.farB k hne u v, by rw [World.cell?_setCell_other _ _ _ _ (ne _ _), World.cell?_setCell_other _ _ _ _ (ne _ _)]; exact h.o, fun i hi => by simp only [World.frozen?_setCell]; exact h.f i hi, by simpa using h.lt⟩
def BoxO (w : World) (b : Nat) : Option Int → Prop
  | none => Blank w b
  | some z => NumBox w b z
theorem BoxO.mono {w w' : World} {b : Nat} {o : Option Int} (h : BoxO w b o) (hb : Below w.heap.size w w') (hl : b < w.heap.size) : BoxO w' b o := by
  cases o with
  | none => exact Blank.mono h hb hl
  | some z => exact NumBox.mono h hb hl
theorem BoxO.farB {w : World} {b b' : Nat} {o : Option Int} (h : BoxO w b o) (k : Blank w b') (hne : b' ≠ b) (u v : Value) : BoxO ((w.setCell ⟨b', 0, none⟩ u).setCell ⟨b', 1, none⟩ v) b o := by
  cases o with
  | none => exact Blank.far h hne u v
  | some z => exact NumBox.farB h k hne u v
/-- the memory of Combine -/
structure CS (w W : World) (x y : Int) (g v u : Option Int) : Prop where
  a : NumBox W (w.heap.size) x
  b : NumBox W (w.heap.size + 1) y
  g : BoxO W (w.heap.size + 1 + 1) g
  v : BoxO W (w.heap.size + 1 + 1 + 1) v
  u : BoxO W (w.heap.size + 1 + 1 + 1 + 1) u
  k : WK W (w.heap.size + 1 + 1 + 1 + 1 + 1 + 1) 6 0 1 3 true
  below : Below w.heap.size w W
theorem CS.size {w W : World} {x y : Int} {g v u : Option Int} (h : CS w W x y g v u) : w.heap.size + 6 < W.heap.size := h.k.lt
theorem CS.mono {w W W' : World} {x y : Int} {g v u : Option Int} (h : CS w W x y g v u) (hb : Below W.heap.size W W') : CS w W' x y g v u := by
  have hs := h.size
  exact ⟨h.a.mono hb (by omega), h.b.mono hb (by omega), h.g.mono hb (by omega), h.v.mono hb (by omega), h.u.mono hb (by omega), h.k.mono hb, h.below.trans (hb.mono h.below.size)⟩

theorem CS.putG {w W : World} {x y z : Int} {v u : Option Int} {a : Option Addr} {c : Nat} (h : CS w W x y none v u) (hs : Sl W (.slice a (Wh.limbs z.natAbs).length c) (Wh.limbs z.natAbs)) : CS w ((W.setCell ⟨w.heap.size + 1 + 1, 0, none⟩ (.int .i64 z.sign)).setCell ⟨w.heap.size + 1 + 1, 1, none⟩ (.slice a (Wh.limbs z.natAbs).length c)) x y (some z) v u :=
  ⟨h.a.farB h.g (by omega) _ _, h.b.farB h.g (by omega) _ _, Blank.putBox h.g hs, h.v.farB h.g (by omega) _ _, h.u.farB h.g (by omega) _ _, h.k.farB h.g (by omega) _ _, (h.below.setCell (show w.heap.size ≤ w.heap.size + 1 + 1 by omega) _).setCell (show w.heap.size ≤ w.heap.size + 1 + 1 by omega) _⟩
theorem CS.putV {w W : World} {x y z : Int} {g u : Option Int} {a : Option Addr} {c : Nat} (h : CS w W x y g none u) (hs : Sl W (.slice a (Wh.limbs z.natAbs).length c) (Wh.limbs z.natAbs)) : CS w ((W.setCell ⟨w.heap.size + 1 + 1 + 1, 0, none⟩ (.int .i64 z.sign)).setCell ⟨w.heap.size + 1 + 1 + 1, 1, none⟩ (.slice a (Wh.limbs z.natAbs).length c)) x y g (some z) u :=
  ⟨h.a.farB h.v (by omega) _ _, h.b.farB h.v (by omega) _ _, h.g.farB h.v (by omega) _ _, Blank.putBox h.v hs, h.u.farB h.v (by omega) _ _, h.k.farB h.v (by omega) _ _, (h.below.setCell (show w.heap.size ≤ w.heap.size + 1 + 1 + 1 by omega) _).setCell (show w.heap.size ≤ w.heap.size + 1 + 1 + 1 by omega) _⟩
theorem CS.putU {w W : World} {x y z : Int} {g v : Option Int} {a : Option Addr} {c : Nat} (h : CS w W x y g v none) (hs : Sl W (.slice a (Wh.limbs z.natAbs).length c) (Wh.limbs z.natAbs)) : CS w ((W.setCell ⟨w.heap.size + 1 + 1 + 1 + 1, 0, none⟩ (.int .i64 z.sign)).setCell ⟨w.heap.size + 1 + 1 + 1 + 1, 1, none⟩ (.slice a (Wh.limbs z.natAbs).length c)) x y g v (some z) :=
  ⟨h.a.farB h.u (by omega) _ _, h.b.farB h.u (by omega) _ _, h.g.farB h.u (by omega) _ _, h.v.farB h.u (by omega) _ _, Blank.putBox h.u hs, h.k.farB h.u (by omega) _ _, (h.below.setCell (show w.heap.size ≤ w.heap.size + 1 + 1 + 1 + 1 by omega) _).setCell (show w.heap.size ≤ w.heap.size + 1 + 1 + 1 + 1 by omega) _⟩
/-- the numbers -/
structure CE (x y g ys p r0 t q1 v m d u r1 : Int) : Prop where
  x : x = 12
  y : y = 18
  g : g = 6
  ys : ys = 18
  p : p = 3
  r0 : r0 = 0
  t : t = -1
  q1 : q1 = -1
  v : v = 2
  m : m = 24
  d : d = -18
  u : u = -1
  r1 : r1 = 0
end Go.Proofs.YteaeloeebfdodaaGreatDoor

/- WALKS, Floor 1: perform, the division that rounds down. -/
namespace Go.Proofs.YteaeloeebfdodaaGreatDoor
open Go.RowKit
theorem no_floored_sum (v : Value) (w : World) : (Instr.typeAssert (.iface 117 v) 174 92 true).run Tryz.prog w = .ok (.tuple #[.agg #[.int .i64 0, .slice none 0 0, .int .i64 0, .slice none 0 0], .bool false]) w := by kernel_rfl
theorem no_floored_difference (v : Value) (w : World) : (Instr.typeAssert (.iface 117 v) 174 112 true).run Tryz.prog w = .ok (.tuple #[.agg #[.int .i64 0, .slice none 0 0, .int .i64 0, .slice none 0 0], .bool false]) w := by kernel_rfl
theorem no_floored_multiple (v : Value) (w : World) : (Instr.typeAssert (.iface 117 v) 174 94 true).run Tryz.prog w = .ok (.tuple #[.agg #[.int .i64 0, .slice none 0 0, .int .i64 0, .slice none 0 0], .bool false]) w := by kernel_rfl
theorem method_floor (x0 x1 x2 x3 : Value) (w : World) : (method 524 117 (.agg #[x0, x1, x2, x3]) "metewand/whole.operands").run Tryz.prog w = .ok (398, .agg #[x0, x1, x2, x3]) w := by kernel_rfl
theorem assert_floor (v : Value) (w : World) : (Instr.typeAssert (.iface 117 v) 174 117 true).run Tryz.prog w = .ok (.tuple #[v, .bool true]) w := by kernel_rfl
end Go.Proofs.YteaeloeebfdodaaGreatDoor
