/- Part 16 of the proofs that laws of package whole answer true at every input and leave the input as it was, where the library's variables start as the text lays them (the texts G5, V1). -/
import Derived.Test.YteggbenhffmijaaGreatDoorZ15
import Derived.Test.YteggbenhffmijaaGreatDoorZ11
import Derived.Test.YteggbenhffmijaaGreatDoorZ07
import Derived.Test.YteggbenhffmijaaGreatDoorZ06
set_option linter.unusedVariables false
set_option linter.unusedSimpArgs false
/- WALKS, the divisor 7: Combine at 12 and 18. -/
namespace Go.Proofs.YteggbenhffmijaaGreatDoor
open Go.RowKit
theorem side_below (w : World) (wb : Nat) (h : w.cell? ⟨wb, 4, none⟩ = some (.bool true)) : Calls Tryz.prog 243 #[.pointer (some ⟨wb, 0, none⟩)] w fun e w' => e = .returned (.int .i64 (-1)) ∧ Below w.heap.size w w' := by
  go_enter Tryz.func243, Tryz.ntmps243
  go_wp2
  go_ret
  exact ⟨rfl, Below.refl _ _⟩
theorem NumBox.farB {w : World} {b b' : Nat} {z : Int} (h : NumBox w b z) (k : Blank w b') (hne : b' ≠ b) (u v : Value) : NumBox ((w.setCell ⟨b', 0, none⟩ u).setCell ⟨b', 1, none⟩ v) b z :=
  ⟨h.num.far k hne u v, by simp only [World.frozen?_setCell]; exact h.f0, by simp only [World.frozen?_setCell]; exact h.f1⟩
theorem Blank.putBox {w : World} {b : Nat} {x : Int} {a : Option Addr} {c : Nat} (h : Blank w b) (hs : Sl w (.slice a (Wh.limbs x.natAbs).length c) (Wh.limbs x.natAbs)) : NumBox ((w.setCell ⟨b, 0, none⟩ (.int .i64 x.sign)).setCell ⟨b, 1, none⟩ (.slice a (Wh.limbs x.natAbs).length c)) b x :=
  ⟨h.put hs, by simp only [World.frozen?_setCell]; exact h.f0, by simp only [World.frozen?_setCell]; exact h.f1⟩
theorem SlAt.farB {w : World} {b b' i x : Nat} (h : SlAt w b i x) (k : Blank w b') (hne : b' ≠ b) (u v : Value) : SlAt ((w.setCell ⟨b', 0, none⟩ u).setCell ⟨b', 1, none⟩ v) b i x := by
  have ne : ∀ j, (⟨b', j, none⟩ : Addr) ≠ ⟨b, i, none⟩ := fun j e => hne (congrArg Addr.block e)
  exact (h.far k.c0 (nl_int _) (ne 0) u).far (u := .slice none 0 0) (by rw [World.cell?_setCell_other _ _ _ _ (off_ne (by decide))]; exact k.c1) (nl_slice _ _ _) (ne 1) v
theorem WK.farB {w : World} {wb b' R N T A : Nat} {odd : Bool} (h : WK w wb R N T A odd) (k : Blank w b') (hne : b' ≠ wb) (u v : Value) : WK ((w.setCell ⟨b', 0, none⟩ u).setCell ⟨b', 1, none⟩ v) wb R N T A odd := by
  have ne : ∀ i j, (⟨b', j, none⟩ : Addr) ≠ ⟨wb, i, none⟩ := fun i j e => hne (congrArg Addr.block e)
  exact ⟨h.r.farB k hne u v, h.n.farB k hne u v, h.t.farB k hne u v, h.a.farB k hne u v, by rw [World.cell?_setCell_other _ _ _ _ (ne _ _), World.cell?_setCell_other _ _ _ _ (ne _ _)]; exact h.o, fun i hi => by simp only [World.frozen?_setCell]; exact h.f i hi, by simpa using h.lt⟩
def BoxO (w : World) (b : Nat) : Option Int → Prop
  | none => Blank w b
  | some z => NumBox w b z
theorem BoxO.mono {w w' : World} {b : Nat} {o : Option Int} (h : BoxO w b o) (hb : Below w.heap.size w w') (hl : b < w.heap.size) : BoxO w' b o := by
  cases o with
  | none => exact Blank.mono h hb hl
  | some z => exact NumBox.mono h hb hl
theorem BoxO.farB {w : World} {b b' : Nat} {o : Option Int} (h : BoxO w b o) (k : Blank w b') (hne : b' ≠ b) (u v : Value) : BoxO ((w.setCell ⟨b', 0, none⟩ u).setCell ⟨b', 1, none⟩ v) b o := by
  cases o with
  | none => exact Blank.far h hne u v
  | some z => exact NumBox.farB h k hne u v
/-- the memory of Combine -/
structure CS (w W : World) (x y : Int) (g v u : Option Int) : Prop where
  a : NumBox W (w.heap.size) x
  b : NumBox W (w.heap.size + 1) y
  g : BoxO W (w.heap.size + 1 + 1) g
  v : BoxO W (w.heap.size + 1 + 1 + 1) v
  u : BoxO W (w.heap.size + 1 + 1 + 1 + 1) u
  k : WK W (w.heap.size + 1 + 1 + 1 + 1 + 1 + 1) 6 0 1 3 true
  below : Below w.heap.size w W
theorem CS.size {w W : World} {x y : Int} {g v u : Option Int} (h : CS w W x y g v u) : w.heap.size + 6 < W.heap.size := h.k.lt
theorem CS.mono {w W W' : World} {x y : Int} {g v u : Option Int} (h : CS w W x y g v u) (hb : Below W.heap.size W W') : CS w W' x y g v u := by
  have hs := h.size
  exact ⟨h.a.mono hb (by omega), h.b.mono hb (by omega), h.g.mono hb (by omega), h.v.mono hb (by omega), h.u.mono hb (by omega), h.k.mono hb, h.below.trans (hb.mono h.below.size)⟩

theorem CS.putG {w W : World} {x y z : Int} {v u : Option Int} {a : Option Addr} {c : Nat} (h : CS w W x y none v u) (hs : Sl W (.slice a (Wh.limbs z.natAbs).length c) (Wh.limbs z.natAbs)) : CS w ((W.setCell ⟨w.heap.size + 1 + 1, 0, none⟩ (.int .i64 z.sign)).setCell ⟨w.heap.size + 1 + 1, 1, none⟩ (.slice a (Wh.limbs z.natAbs).length c)) x y (some z) v u :=
  ⟨h.a.farB h.g (by omega) _ _, h.b.farB h.g (by omega) _ _, Blank.putBox h.g hs, h.v.farB h.g (by omega) _ _, h.u.farB h.g (by omega) _ _, h.k.farB h.g (by omega) _ _, (h.below.setCell (show w.heap.size ≤ w.heap.size + 1 + 1 by omega) _).setCell (show w.heap.size ≤ w.heap.size + 1 + 1 by omega) _⟩
theorem CS.putV {w W : World} {x y z : Int} {g u : Option Int} {a : Option Addr} {c : Nat} (h : CS w W x y g none u) (hs : Sl W (.slice a (Wh.limbs z.natAbs).length c) (Wh.limbs z.natAbs)) : CS w ((W.setCell ⟨w.heap.size + 1 + 1 + 1, 0, none⟩ (.int .i64 z.sign)).setCell ⟨w.heap.size + 1 + 1 + 1, 1, none⟩ (.slice a (Wh.limbs z.natAbs).length c)) x y g (some z) u :=
  ⟨h.a.farB h.v (by omega) _ _, h.b.farB h.v (by omega) _ _, h.g.farB h.v (by omega) _ _, Blank.putBox h.v hs, h.u.farB h.v (by omega) _ _, h.k.farB h.v (by omega) _ _, (h.below.setCell (show w.heap.size ≤ w.heap.size + 1 + 1 + 1 by omega) _).setCell (show w.heap.size ≤ w.heap.size + 1 + 1 + 1 by omega) _⟩
theorem CS.putU {w W : World} {x y z : Int} {g v : Option Int} {a : Option Addr} {c : Nat} (h : CS w W x y g v none) (hs : Sl W (.slice a (Wh.limbs z.natAbs).length c) (Wh.limbs z.natAbs)) : CS w ((W.setCell ⟨w.heap.size + 1 + 1 + 1 + 1, 0, none⟩ (.int .i64 z.sign)).setCell ⟨w.heap.size + 1 + 1 + 1 + 1, 1, none⟩ (.slice a (Wh.limbs z.natAbs).length c)) x y g v (some z) :=
  ⟨h.a.farB h.u (by omega) _ _, h.b.farB h.u (by omega) _ _, h.g.farB h.u (by omega) _ _, h.v.farB h.u (by omega) _ _, Blank.putBox h.u hs, h.k.farB h.u (by omega) _ _, (h.below.setCell (show w.heap.size ≤ w.heap.size + 1 + 1 + 1 + 1 by omega) _).setCell (show w.heap.size ≤ w.heap.size + 1 + 1 + 1 + 1 by omega) _⟩
/-- the numbers -/
structure CE (x y g ys p r0 t q1 v m d u r1 : Int) : Prop where
  x : x = 12
  y : y = 18
  g : g = 6
  ys : ys = 18
  p : p = 3
  r0 : r0 = 0
  t : t = -1
  q1 : q1 = -1
  v : v = 2
  m : m = 24
  d : d = -18
  u : u = -1
  r1 : r1 = 0
def CA (B : Nat) (y g ys p r0 : Int) : Nat → Value → World → Prop
  | 0, v, w => Num w v y
  | 1, v, w => Num w v ys
  | 2, v, w => Num w v g
  | 3, v, w | 4, v, w => ∃ vq vr, v = .tuple #[vq, vr] ∧ Num w vq p ∧ Num w vr r0
  | 5, v, w => Num w v p
  | 6, v, w => Num w v r0
  | 7, v, w | 8, v, w => Fresh B w v
  | _, v, _ => v = .bool true
theorem CA_stays (B : Nat) (y g ys p r0 : Int) : ∀ i v w w', CA B y g ys p r0 i v w → Below w.heap.size w w' → CA B y g ys p r0 i v w' := by
  intro i v w w' h hb
  match i, h with
  | 0, h | 1, h | 2, h | 5, h | 6, h => exact Num.mono h hb
  | 3, h | 4, h => obtain ⟨p, q, e, h1, h2⟩ := h; exact ⟨p, q, e, h1.mono hb, h2.mono hb⟩
  | 7, h | 8, h => exact Fresh.mono h hb
  | _ + 9, h => exact h
theorem ca_old {B : Nat} {y g ys p r0 : Int} {w : World} : ∀ j u, CA B y g ys p r0 j u w → ∀ c, u = .pointer (some ⟨c, 0, none⟩) → c < w.heap.size := by
  intro j u h c e
  match j, h with
  | 0, h | 1, h | 2, h | 5, h | 6, h => exact absurd e (num_np h _)
  | 3, h | 4, h => obtain ⟨p, q, e1, _, _⟩ := h; subst e; cases e1
  | 7, h | 8, h => exact fresh_old h c e
  | _ + 9, h => subst e; cases h
theorem CA_new {B0 : Nat} {y g ys p r0 : Int} {w : World} (B : Nat) (hB : w.heap.size ≤ B) (j : Nat) (u : Value) (h : CA B0 y g ys p r0 j u w) : Two2 (.pointer (some ⟨B, 0, none⟩)) u ∧ Two2 u (.pointer (some ⟨B, 0, none⟩)) := new_two ca_old B hB j u h
def CB (s wb : Nat) (xs p t q1 vv : Int) : Nat → Value → World → Prop
  | 0, v, _ => v = .pointer (some ⟨s, 0, none⟩)
  | 1, v, _ => v = .int .i64 xs
  | 2, v, _ | 3, v, _ => v = .int .i64 (-1)
  | 4, v, _ => v = .pointer (some ⟨wb, 2, none⟩)
  | 5, v, w => SlV w v 1
  | 6, v, w => Num w v t
  | 7, v, w => Num w v p
  | 8, v, w | 9, v, w => ∃ vq vr, v = .tuple #[vq, vr] ∧ Num w vq q1 ∧ Num w vr vv
  | 10, v, w => Num w v q1
  | 11, v, w => Num w v vv
  | _, _, _ => True
theorem CB_stays (s wb : Nat) (xs p t q1 vv : Int) : ∀ i v w w', CB s wb xs p t q1 vv i v w → Below w.heap.size w w' → CB s wb xs p t q1 vv i v w' := by
  intro i v w w' h hb
  match i, h with
  | 0, h | 1, h | 2, h | 3, h | 4, h => exact h
  | 5, h => exact SlV.mono h hb
  | 6, h | 7, h | 10, h | 11, h => exact Num.mono h hb
  | 8, h | 9, h => obtain ⟨p, q, e, h1, h2⟩ := h; exact ⟨p, q, e, h1.mono hb, h2.mono hb⟩
  | _ + 12, h => trivial
def CC (B : Nat) (x y g vv m d u r1 : Int) : Nat → Value → World → Prop
  | 0, v, w => Num w v g
  | 1, v, w => Num w v x
  | 2, v, w => Num w v vv
  | 3, v, w => ∃ (ab : Nat) (ea : Option Addr) (ec : Nat), v = .slice (some ⟨ab, 0, none⟩) 1 1 ∧ ab < w.heap.size ∧ B ≤ ab ∧ Holds w ab 0 vv.sign ea (Wh.limbs vv.natAbs).length ec vv
  | 4, v, w => Num w v m
  | 5, v, w => Num w v d
  | 6, v, w => Num w v y
  | 7, v, w | 8, v, w => ∃ vq vr, v = .tuple #[vq, vr] ∧ Num w vq u ∧ Num w vr r1
  | 9, v, w => Num w v u
  | 10, v, w => Num w v r1
  | _, _, _ => True
theorem CC_stays (B : Nat) (x y g vv m d u r1 : Int) : ∀ i v w w', CC B x y g vv m d u r1 i v w → Below w.heap.size w w' → CC B x y g vv m d u r1 i v w' := by
  intro i v w w' h hb
  match i, h with
  | 0, h | 1, h | 2, h | 4, h | 5, h | 6, h | 9, h | 10, h => exact Num.mono h hb
  | 3, h => obtain ⟨ab, ea, ec, e, h1, h2, h3⟩ := h; exact ⟨ab, ea, ec, e, Nat.lt_of_lt_of_le h1 hb.size, h2, h3.mono h1 hb⟩
  | 7, h | 8, h => obtain ⟨p, q, e, h1, h2⟩ := h; exact ⟨p, q, e, h1.mono hb, h2.mono hb⟩
  | _ + 11, h => trivial

set_option maxRecDepth 100000 in
set_option maxHeartbeats 2000000 in
theorem combine_x (w : World) (x y : Int) (xa ya : Option Addr) (xc yc : Nat) (hx : Sl w (.slice xa (Wh.limbs x.natAbs).length xc) (Wh.limbs x.natAbs)) (hy : Sl w (.slice ya (Wh.limbs y.natAbs).length yc) (Wh.limbs y.natAbs)) (ex : x = 12) (ey : y = 18) :
    Calls Tryz.prog 159 #[.agg #[.int .i64 x.sign, .slice xa (Wh.limbs x.natAbs).length xc], .agg #[.int .i64 y.sign, .slice ya (Wh.limbs y.natAbs).length yc]] w fun e w' => (∃ v1 v2 v3, e = .returned (.tuple #[v1, v2, v3]) ∧ Num w' v1 6 ∧ Num w' v2 2 ∧ Num w' v3 (-1)) ∧ Below w.heap.size w w' := by
  have HX := Lib.hid hx; have HY := Lib.hid hy; clear hx hy
  obtain ⟨g, hg⟩ : ∃ g : Int, g = 6 := ⟨_, rfl⟩
  obtain ⟨ys, hys'⟩ : ∃ g : Int, g = 18 := ⟨_, rfl⟩
  obtain ⟨p, hp⟩ : ∃ g : Int, g = 3 := ⟨_, rfl⟩
  obtain ⟨r0, hr0⟩ : ∃ g : Int, g = 0 := ⟨_, rfl⟩
  obtain ⟨t, ht⟩ : ∃ g : Int, g = -1 := ⟨_, rfl⟩
  obtain ⟨q1, hq1⟩ : ∃ g : Int, g = -1 := ⟨_, rfl⟩
  obtain ⟨vv, hvv⟩ : ∃ g : Int, g = 2 := ⟨_, rfl⟩
  obtain ⟨m, hm⟩ : ∃ g : Int, g = 24 := ⟨_, rfl⟩
  obtain ⟨d, hd⟩ : ∃ g : Int, g = -18 := ⟨_, rfl⟩
  obtain ⟨u, hu⟩ : ∃ g : Int, g = -1 := ⟨_, rfl⟩
  obtain ⟨r1, hr1⟩ : ∃ g : Int, g = 0 := ⟨_, rfl⟩
  have HE : Hid (CE x y g ys p r0 t q1 vv m d u r1) := Lib.hid ⟨ex, ey, hg, hys', hp, hr0, ht, hq1, hvv, hm, hd, hu, hr1⟩
  have hys : (y.sign == 0) = false := by rw [ey]; rfl
  have hlx : Wh.limbs x.natAbs = Wh.limbs 12 := by rw [ex]; rfl
  have hly : Wh.limbs y.natAbs = Wh.limbs 18 := by rw [ey]; rfl
  have HLX := Lib.hid hlx; have HLY := Lib.hid hly
  clear ex ey hg hys' hp hr0 ht hq1 hvv hm hd hu hr1 hlx hly
  go_enter Tryz.func159, Tryz.ntmps159
  go_wp2_with fail
  have hal : Below w.heap.size w (((((((w.alloc (Obj.cells #[.int .i64 x.sign, .slice xa (Wh.limbs x.natAbs).length xc] 92)).alloc (Obj.cells #[.int .i64 y.sign, .slice ya (Wh.limbs y.natAbs).length yc] 92)).alloc (Obj.cells #[.int .i64 0, .slice none 0 0] 92)).alloc (Obj.cells #[.int .i64 0, .slice none 0 0] 92)).alloc (Obj.cells #[.int .i64 0, .slice none 0 0] 92)).alloc (Obj.cells #[.int .u32 1] 181)).alloc (Obj.cells #[.slice xa (Wh.limbs x.natAbs).length xc, .slice ya (Wh.limbs y.natAbs).length yc, .slice (some ⟨w.heap.size + 1 + 1 + 1 + 1 + 1, 0, none⟩) 1 1, .slice none 0 0, .bool false] 231)) := ((((((Below.refl _ _).alloc (Nat.le_refl _) _).alloc (by simp) _).alloc (by simp; omega) _).alloc (by simp; omega) _).alloc (by simp; omega) _).alloc (by simp; omega) _ |>.alloc (by simp; omega) _
  have hx0 : (((((((((w.alloc (Obj.cells #[.int .i64 x.sign, .slice xa (Wh.limbs x.natAbs).length xc] 92)).alloc (Obj.cells #[.int .i64 y.sign, .slice ya (Wh.limbs y.natAbs).length yc] 92)).alloc (Obj.cells #[.int .i64 0, .slice none 0 0] 92)).alloc (Obj.cells #[.int .i64 0, .slice none 0 0] 92)).alloc (Obj.cells #[.int .i64 0, .slice none 0 0] 92)).alloc (Obj.cells #[.int .u32 1] 181)).alloc (Obj.cells #[.slice xa (Wh.limbs x.natAbs).length xc, .slice ya (Wh.limbs y.natAbs).length yc, .slice (some ⟨w.heap.size + 1 + 1 + 1 + 1 + 1, 0, none⟩) 1 1, .slice none 0 0, .bool false] 231))).cell? ⟨w.heap.size, 0, none⟩ = some (.int .i64 x.sign) ∧ ((((((((w.alloc (Obj.cells #[.int .i64 x.sign, .slice xa (Wh.limbs x.natAbs).length xc] 92)).alloc (Obj.cells #[.int .i64 y.sign, .slice ya (Wh.limbs y.natAbs).length yc] 92)).alloc (Obj.cells #[.int .i64 0, .slice none 0 0] 92)).alloc (Obj.cells #[.int .i64 0, .slice none 0 0] 92)).alloc (Obj.cells #[.int .i64 0, .slice none 0 0] 92)).alloc (Obj.cells #[.int .u32 1] 181)).alloc (Obj.cells #[.slice xa (Wh.limbs x.natAbs).length xc, .slice ya (Wh.limbs y.natAbs).length yc, .slice (some ⟨w.heap.size + 1 + 1 + 1 + 1 + 1, 0, none⟩) 1 1, .slice none 0 0, .bool false] 231))).cell? ⟨w.heap.size, 1, none⟩ = some (.slice xa (Wh.limbs x.natAbs).length xc)) ∧ ((((((((w.alloc (Obj.cells #[.int .i64 x.sign, .slice xa (Wh.limbs x.natAbs).length xc] 92)).alloc (Obj.cells #[.int .i64 y.sign, .slice ya (Wh.limbs y.natAbs).length yc] 92)).alloc (Obj.cells #[.int .i64 0, .slice none 0 0] 92)).alloc (Obj.cells #[.int .i64 0, .slice none 0 0] 92)).alloc (Obj.cells #[.int .i64 0, .slice none 0 0] 92)).alloc (Obj.cells #[.int .u32 1] 181)).alloc (Obj.cells #[.slice xa (Wh.limbs x.natAbs).length xc, .slice ya (Wh.limbs y.natAbs).length yc, .slice (some ⟨w.heap.size + 1 + 1 + 1 + 1 + 1, 0, none⟩) 1 1, .slice none 0 0, .bool false] 231))).frozen? ⟨w.heap.size, 0, none⟩ = false ∧ ((((((((w.alloc (Obj.cells #[.int .i64 x.sign, .slice xa (Wh.limbs x.natAbs).length xc] 92)).alloc (Obj.cells #[.int .i64 y.sign, .slice ya (Wh.limbs y.natAbs).length yc] 92)).alloc (Obj.cells #[.int .i64 0, .slice none 0 0] 92)).alloc (Obj.cells #[.int .i64 0, .slice none 0 0] 92)).alloc (Obj.cells #[.int .i64 0, .slice none 0 0] 92)).alloc (Obj.cells #[.int .u32 1] 181)).alloc (Obj.cells #[.slice xa (Wh.limbs x.natAbs).length xc, .slice ya (Wh.limbs y.natAbs).length yc, .slice (some ⟨w.heap.size + 1 + 1 + 1 + 1 + 1, 0, none⟩) 1 1, .slice none 0 0, .bool false] 231))).frozen? ⟨w.heap.size, 1, none⟩ = false := ⟨⟨by go_simp, by go_simp⟩, by go_simp, by go_simp⟩
  have hy0 : (((((((((w.alloc (Obj.cells #[.int .i64 x.sign, .slice xa (Wh.limbs x.natAbs).length xc] 92)).alloc (Obj.cells #[.int .i64 y.sign, .slice ya (Wh.limbs y.natAbs).length yc] 92)).alloc (Obj.cells #[.int .i64 0, .slice none 0 0] 92)).alloc (Obj.cells #[.int .i64 0, .slice none 0 0] 92)).alloc (Obj.cells #[.int .i64 0, .slice none 0 0] 92)).alloc (Obj.cells #[.int .u32 1] 181)).alloc (Obj.cells #[.slice xa (Wh.limbs x.natAbs).length xc, .slice ya (Wh.limbs y.natAbs).length yc, .slice (some ⟨w.heap.size + 1 + 1 + 1 + 1 + 1, 0, none⟩) 1 1, .slice none 0 0, .bool false] 231))).cell? ⟨w.heap.size + 1, 0, none⟩ = some (.int .i64 y.sign) ∧ ((((((((w.alloc (Obj.cells #[.int .i64 x.sign, .slice xa (Wh.limbs x.natAbs).length xc] 92)).alloc (Obj.cells #[.int .i64 y.sign, .slice ya (Wh.limbs y.natAbs).length yc] 92)).alloc (Obj.cells #[.int .i64 0, .slice none 0 0] 92)).alloc (Obj.cells #[.int .i64 0, .slice none 0 0] 92)).alloc (Obj.cells #[.int .i64 0, .slice none 0 0] 92)).alloc (Obj.cells #[.int .u32 1] 181)).alloc (Obj.cells #[.slice xa (Wh.limbs x.natAbs).length xc, .slice ya (Wh.limbs y.natAbs).length yc, .slice (some ⟨w.heap.size + 1 + 1 + 1 + 1 + 1, 0, none⟩) 1 1, .slice none 0 0, .bool false] 231))).cell? ⟨w.heap.size + 1, 1, none⟩ = some (.slice ya (Wh.limbs y.natAbs).length yc)) ∧ ((((((((w.alloc (Obj.cells #[.int .i64 x.sign, .slice xa (Wh.limbs x.natAbs).length xc] 92)).alloc (Obj.cells #[.int .i64 y.sign, .slice ya (Wh.limbs y.natAbs).length yc] 92)).alloc (Obj.cells #[.int .i64 0, .slice none 0 0] 92)).alloc (Obj.cells #[.int .i64 0, .slice none 0 0] 92)).alloc (Obj.cells #[.int .i64 0, .slice none 0 0] 92)).alloc (Obj.cells #[.int .u32 1] 181)).alloc (Obj.cells #[.slice xa (Wh.limbs x.natAbs).length xc, .slice ya (Wh.limbs y.natAbs).length yc, .slice (some ⟨w.heap.size + 1 + 1 + 1 + 1 + 1, 0, none⟩) 1 1, .slice none 0 0, .bool false] 231))).frozen? ⟨w.heap.size + 1, 0, none⟩ = false ∧ ((((((((w.alloc (Obj.cells #[.int .i64 x.sign, .slice xa (Wh.limbs x.natAbs).length xc] 92)).alloc (Obj.cells #[.int .i64 y.sign, .slice ya (Wh.limbs y.natAbs).length yc] 92)).alloc (Obj.cells #[.int .i64 0, .slice none 0 0] 92)).alloc (Obj.cells #[.int .i64 0, .slice none 0 0] 92)).alloc (Obj.cells #[.int .i64 0, .slice none 0 0] 92)).alloc (Obj.cells #[.int .u32 1] 181)).alloc (Obj.cells #[.slice xa (Wh.limbs x.natAbs).length xc, .slice ya (Wh.limbs y.natAbs).length yc, .slice (some ⟨w.heap.size + 1 + 1 + 1 + 1 + 1, 0, none⟩) 1 1, .slice none 0 0, .bool false] 231))).frozen? ⟨w.heap.size + 1, 1, none⟩ = false := ⟨⟨by go_simp, by go_simp⟩, by go_simp, by go_simp⟩
  have hb2 : Blank ((((((((w.alloc (Obj.cells #[.int .i64 x.sign, .slice xa (Wh.limbs x.natAbs).length xc] 92)).alloc (Obj.cells #[.int .i64 y.sign, .slice ya (Wh.limbs y.natAbs).length yc] 92)).alloc (Obj.cells #[.int .i64 0, .slice none 0 0] 92)).alloc (Obj.cells #[.int .i64 0, .slice none 0 0] 92)).alloc (Obj.cells #[.int .i64 0, .slice none 0 0] 92)).alloc (Obj.cells #[.int .u32 1] 181)).alloc (Obj.cells #[.slice xa (Wh.limbs x.natAbs).length xc, .slice ya (Wh.limbs y.natAbs).length yc, .slice (some ⟨w.heap.size + 1 + 1 + 1 + 1 + 1, 0, none⟩) 1 1, .slice none 0 0, .bool false] 231))) (w.heap.size + 1 + 1) := ⟨by go_simp, by go_simp, by go_simp, by go_simp⟩
  have hb3 : Blank ((((((((w.alloc (Obj.cells #[.int .i64 x.sign, .slice xa (Wh.limbs x.natAbs).length xc] 92)).alloc (Obj.cells #[.int .i64 y.sign, .slice ya (Wh.limbs y.natAbs).length yc] 92)).alloc (Obj.cells #[.int .i64 0, .slice none 0 0] 92)).alloc (Obj.cells #[.int .i64 0, .slice none 0 0] 92)).alloc (Obj.cells #[.int .i64 0, .slice none 0 0] 92)).alloc (Obj.cells #[.int .u32 1] 181)).alloc (Obj.cells #[.slice xa (Wh.limbs x.natAbs).length xc, .slice ya (Wh.limbs y.natAbs).length yc, .slice (some ⟨w.heap.size + 1 + 1 + 1 + 1 + 1, 0, none⟩) 1 1, .slice none 0 0, .bool false] 231))) (w.heap.size + 1 + 1 + 1) := ⟨by go_simp, by go_simp, by go_simp, by go_simp⟩
  have hb4 : Blank ((((((((w.alloc (Obj.cells #[.int .i64 x.sign, .slice xa (Wh.limbs x.natAbs).length xc] 92)).alloc (Obj.cells #[.int .i64 y.sign, .slice ya (Wh.limbs y.natAbs).length yc] 92)).alloc (Obj.cells #[.int .i64 0, .slice none 0 0] 92)).alloc (Obj.cells #[.int .i64 0, .slice none 0 0] 92)).alloc (Obj.cells #[.int .i64 0, .slice none 0 0] 92)).alloc (Obj.cells #[.int .u32 1] 181)).alloc (Obj.cells #[.slice xa (Wh.limbs x.natAbs).length xc, .slice ya (Wh.limbs y.natAbs).length yc, .slice (some ⟨w.heap.size + 1 + 1 + 1 + 1 + 1, 0, none⟩) 1 1, .slice none 0 0, .bool false] 231))) (w.heap.size + 1 + 1 + 1 + 1) := ⟨by go_simp, by go_simp, by go_simp, by go_simp⟩
  have hk0 : WK ((((((((w.alloc (Obj.cells #[.int .i64 x.sign, .slice xa (Wh.limbs x.natAbs).length xc] 92)).alloc (Obj.cells #[.int .i64 y.sign, .slice ya (Wh.limbs y.natAbs).length yc] 92)).alloc (Obj.cells #[.int .i64 0, .slice none 0 0] 92)).alloc (Obj.cells #[.int .i64 0, .slice none 0 0] 92)).alloc (Obj.cells #[.int .i64 0, .slice none 0 0] 92)).alloc (Obj.cells #[.int .u32 1] 181)).alloc (Obj.cells #[.slice xa (Wh.limbs x.natAbs).length xc, .slice ya (Wh.limbs y.natAbs).length yc, .slice (some ⟨w.heap.size + 1 + 1 + 1 + 1 + 1, 0, none⟩) 1 1, .slice none 0 0, .bool false] 231))) (w.heap.size + 1 + 1 + 1 + 1 + 1 + 1) 12 18 1 0 false := ⟨⟨xa, xc, by rw [← HLX.out]; go_simp, by rw [← HLX.out]; exact HX.out.mono hal⟩, ⟨ya, yc, by rw [← HLY.out]; go_simp, by rw [← HLY.out]; exact HY.out.mono hal⟩, ⟨some ⟨w.heap.size + 1 + 1 + 1 + 1 + 1, 0, none⟩, 1, by rw [limbs_one_of (n := 1) (by decide)]; go_simp, by rw [limbs_one_of (n := 1) (by decide)]; exact .inr ⟨w.heap.size + 1 + 1 + 1 + 1 + 1, 0, 1, rfl, by decide, by simp, fun i hi => by obtain rfl : i = 0 := (by simpa using hi); go_simp⟩⟩, ⟨none, 0, by rw [Wh.limbs_zero]; go_simp, by rw [Wh.limbs_zero]; exact .inl ⟨rfl, rfl⟩⟩, by go_simp, fun i hi => by rcases (by omega : i = 0 ∨ i = 1 ∨ i = 2 ∨ i = 3 ∨ i = 4) with rfl | rfl | rfl | rfl | rfl <;> go_simp, by simp⟩
  have HFI := Lib.hid (finish_12_18 _ _ hk0)
  have HM0 := Lib.hid (And.intro (And.intro hx0 hy0) (And.intro hb2 (And.intro hb3 hb4)))
  have HAL := Lib.hid hal
  clear hal hx0 hy0 hb2 hb3 hb4 hk0
  generalize ((((((((w.alloc (Obj.cells #[.int .i64 x.sign, .slice xa (Wh.limbs x.natAbs).length xc] 92)).alloc (Obj.cells #[.int .i64 y.sign, .slice ya (Wh.limbs y.natAbs).length yc] 92)).alloc (Obj.cells #[.int .i64 0, .slice none 0 0] 92)).alloc (Obj.cells #[.int .i64 0, .slice none 0 0] 92)).alloc (Obj.cells #[.int .i64 0, .slice none 0 0] 92)).alloc (Obj.cells #[.int .u32 1] 181)).alloc (Obj.cells #[.slice xa (Wh.limbs x.natAbs).length xc, .slice ya (Wh.limbs y.natAbs).length yc, .slice (some ⟨w.heap.size + 1 + 1 + 1 + 1 + 1, 0, none⟩) 1 1, .slice none 0 0, .bool false] 231))) = U0 at *
  refine HFI.out.mono ?_
  rintro e W ⟨rfl, hk1, hbk⟩
  have hBW : Below w.heap.size w W := HAL.out.trans (hbk.mono (by omega))
  have hsz : w.heap.size + 6 < W.heap.size := hk1.lt
  obtain ⟨⟨⟨⟨cx0, cx1⟩, fx0, fx1⟩, ⟨⟨cy0, cy1⟩, fy0, fy1⟩⟩, B2, B3, B4⟩ := HM0.out
  have up : ∀ b i, b < w.heap.size + 1 + 1 + 1 + 1 + 1 + 1 → W.cell? ⟨b, i, none⟩ = U0.cell? ⟨b, i, none⟩ := fun b i h => hbk.cell (p := ⟨b, i, none⟩) h
  have uf : ∀ b i, b < w.heap.size + 1 + 1 + 1 + 1 + 1 + 1 → W.frozen? ⟨b, i, none⟩ = U0.frozen? ⟨b, i, none⟩ := fun b i h => hbk.frozen (p := ⟨b, i, none⟩) h
  have ub : ∀ b, b < w.heap.size + 1 + 1 + 1 + 1 + 1 + 1 → Blank U0 b → Blank W b := fun b h k => ⟨(up b 0 h).trans k.c0, (up b 1 h).trans k.c1, (uf b 0 h).trans k.f0, (uf b 1 h).trans k.f1⟩
  have hC : CS w W x y none none none := ⟨⟨⟨xa, xc, (up _ _ (by omega)).trans cx0, (up _ _ (by omega)).trans cx1, HX.out.mono hBW⟩, (uf _ _ (by omega)).trans fx0, (uf _ _ (by omega)).trans fx1⟩,
    ⟨⟨ya, yc, (up _ _ (by omega)).trans cy0, (up _ _ (by omega)).trans cy1, HY.out.mono hBW⟩, (uf _ _ (by omega)).trans fy0, (uf _ _ (by omega)).trans fy1⟩, ub _ (by omega) B2, ub _ (by omega) B3, ub _ (by omega) B4, hk1, hBW⟩
  have HC0 := Lib.hid hC
  clear up uf ub B2 B3 B4 cx0 cx1 fx0 fx1 cy0 cy1 fy0 fy1 hk1 hbk hBW hC hsz HM0 HAL HFI HLX HLY HX HY
  obtain ⟨ga, gc, g0, gs⟩ := HC0.out.k.r
  have hsgn : Hid (Calls Tryz.prog 187 #[.int .i64 1, .slice ga (Wh.limbs 6).length gc] W fun e w' => (∃ v', e = .returned v' ∧ Num w' v' g) ∧ Below W.heap.size W w') := Lib.hid (by
    have h := signed_len 1 _ _ W (Wh.ok_limbs 6) gs (Nat.le_trans (limbs9 6 (by decide)) (by decide)) (.inr (.inl rfl))
    rw [Wh.val_limbs, show (1 : Int) * ((6 : Nat) : Int) = g by rw [HE.out.g]; rfl] at h
    exact h)
  clear gs
  go_wp2_with fail
  refine hsgn.out.mono ?_
  rintro e W1 ⟨⟨v1, rfl, hn1⟩, hb1⟩
  obtain ⟨s1, rfl, k1⟩ := hn1
  obtain ⟨p1, c1, rfl⟩ := k1.len
  have hC1 := HC0.out.mono hb1
  obtain ⟨t0, t1, tf0, tf1⟩ := (show Blank W1 _ from hC1.g)
  have HC1 := Lib.hid (hC1.putG k1)
  clear hC1 hb1 k1 hsgn HC0 g0
  go_wp2_with fail
  clear t0 t1 tf0 tf1
  have hX : ((W1.setCell ⟨w.heap.size + 1 + 1, 0, none⟩ (.int .i64 g.sign)).setCell ⟨w.heap.size + 1 + 1, 1, none⟩ (.slice p1 (Wh.limbs g.natAbs).length c1)).heap.size = W1.heap.size := by simp
  clear hX
  generalize ((W1.setCell ⟨w.heap.size + 1 + 1, 0, none⟩ (.int .i64 g.sign)).setCell ⟨w.heap.size + 1 + 1, 1, none⟩ (.slice p1 (Wh.limbs g.natAbs).length c1)) = V at *
  have HC := HC1; clear HC1
  refine wp_mono (Q := fun e a' W' => e = .normal ∧ (∃ (vals : Nat → Value) (b8 : Nat), a' = { tmps := #[.agg #[.int .i64 x.sign, .slice xa (Wh.limbs x.natAbs).length xc], .agg #[.int .i64 y.sign, .slice ya (Wh.limbs y.natAbs).length yc], .pointer (some ⟨w.heap.size, 0, none⟩), .pointer (some ⟨w.heap.size + 1, 0, none⟩), .pointer (some ⟨w.heap.size + 1 + 1, 0, none⟩), .pointer (some ⟨w.heap.size + 1 + 1 + 1, 0, none⟩), .pointer (some ⟨w.heap.size + 1 + 1 + 1 + 1, 0, none⟩), .pointer (some ⟨w.heap.size + 1 + 1 + 1 + 1 + 1 + 1, 0, none⟩), vals 7, vals 8, .pointer (some ⟨w.heap.size + 1, 0, none⟩), .int .i64 y.sign, .bool false, undef, undef, undef, undef, undef, undef, undef, .pointer (some ⟨w.heap.size, 1, none⟩), .slice xa (Wh.limbs x.natAbs).length xc, .pointer (some ⟨w.heap.size + 1, 1, none⟩), .slice ya (Wh.limbs y.natAbs).length yc, .slice (some ⟨w.heap.size + 1 + 1 + 1 + 1 + 1, 0, none⟩) 1 1, .agg #[.slice xa (Wh.limbs x.natAbs).length xc, .slice ya (Wh.limbs y.natAbs).length yc, .slice (some ⟨w.heap.size + 1 + 1 + 1 + 1 + 1, 0, none⟩) 1 1, .slice none 0 0, .bool false], .tuple #[], .pointer (some ⟨w.heap.size + 1 + 1 + 1 + 1 + 1 + 1, 0, none⟩), .slice ga (Wh.limbs 6).length gc, .agg #[.int .i64 g.sign, .slice p1 (Wh.limbs g.natAbs).length c1], vals 4, vals 0, vals 1, vals 2, vals 3, vals 5, vals 6, undef, undef, undef, undef, undef, undef, undef, undef, undef, undef, undef, undef, undef, undef, undef, undef, undef, undef, undef, undef, undef, undef, undef, undef, undef, undef], defers := [] } ∧ vals 7 = .pointer (some ⟨b8, 0, none⟩) ∧ V.heap.size ≤ b8 ∧ NumAt W' b8 p ∧ b8 < W'.heap.size) ∧ Below V.heap.size V W') ?_ ?_
  refine Rt.wp_region_pairs (n0 := 2) [9, 10] [6] 63 (fun vals => { tmps := #[.agg #[.int .i64 x.sign, .slice xa (Wh.limbs x.natAbs).length xc], .agg #[.int .i64 y.sign, .slice ya (Wh.limbs y.natAbs).length yc], .pointer (some ⟨w.heap.size, 0, none⟩), .pointer (some ⟨w.heap.size + 1, 0, none⟩), .pointer (some ⟨w.heap.size + 1 + 1, 0, none⟩), .pointer (some ⟨w.heap.size + 1 + 1 + 1, 0, none⟩), .pointer (some ⟨w.heap.size + 1 + 1 + 1 + 1, 0, none⟩), .pointer (some ⟨w.heap.size + 1 + 1 + 1 + 1 + 1 + 1, 0, none⟩), vals 7, vals 8, .pointer (some ⟨w.heap.size + 1, 0, none⟩), .int .i64 y.sign, .bool false, undef, undef, undef, undef, undef, undef, undef, .pointer (some ⟨w.heap.size, 1, none⟩), .slice xa (Wh.limbs x.natAbs).length xc, .pointer (some ⟨w.heap.size + 1, 1, none⟩), .slice ya (Wh.limbs y.natAbs).length yc, .slice (some ⟨w.heap.size + 1 + 1 + 1 + 1 + 1, 0, none⟩) 1 1, .agg #[.slice xa (Wh.limbs x.natAbs).length xc, .slice ya (Wh.limbs y.natAbs).length yc, .slice (some ⟨w.heap.size + 1 + 1 + 1 + 1 + 1, 0, none⟩) 1 1, .slice none 0 0, .bool false], .tuple #[], .pointer (some ⟨w.heap.size + 1 + 1 + 1 + 1 + 1 + 1, 0, none⟩), .slice ga (Wh.limbs 6).length gc, .agg #[.int .i64 g.sign, .slice p1 (Wh.limbs g.natAbs).length c1], vals 4, vals 0, vals 1, vals 2, vals 3, vals 5, vals 6, undef, undef, undef, undef, undef, undef, undef, undef, undef, undef, undef, undef, undef, undef, undef, undef, undef, undef, undef, undef, undef, undef, undef, undef, undef, undef], defers := [] }) (CA V.heap.size y g ys p r0) Two2 (by kernel_rfl) (by kernel_rfl) (by kernel_rfl) (by kernel_rfl) (fun _ _ _ _ _ h => absurd h.1 (by simp)) (by kernel_rfl) rfl (fun _ => by kernel_rfl) (by kernel_rfl) (by kernel_rfl) (CA_stays _ _ _ _ _ _) ?_ ?_ ?_
  · intro i o d hi hT hW hd vals w' hb hf
    have hlt : i < 11 := (Array.getElem?_eq_some_iff.1 hi).1
    rcases i with _ | _ | _ | _ | _ | _ | _ | _ | _ | _ | _ | i
    · obtain rfl := Option.some.inj hi
      obtain rfl := Option.some.inj hd
      obtain ⟨ga, gc, z0, z1, zs⟩ := HC.out.b.see (by have := HC.out.size; omega) hb
      have ZS := Lib.hid zs; clear zs
      dsimp only
      go_simp
      exact ⟨⟨_, rfl, ZS.out⟩, Below.refl _ _, fun j u _ _ => two2_of (by intro p e; cases e)⟩
    · obtain rfl := Option.some.inj hi
      obtain rfl := Option.some.inj hd
      have h0 : Num w' (vals 0) _ := hf 0 (by kernel_rfl)
      have HP := size_any w' _ _ h0
      rw [HE.out.y, show ((18 : Int).natAbs : Int) = 18 from rfl, ← HE.out.ys] at HP
      obtain ⟨s0, e0, -⟩ := h0
      rw [e0] at HP
      have HP := Lib.hid HP
      dsimp only
      rw [e0]
      go_simp
      refine HP.out.mono ?_
      rintro e w5 ⟨⟨v5, rfl, hn5⟩, hb5⟩
      exact ⟨hn5, hb5, fun j u _ _ => two2_of (num_np hn5)⟩
    · obtain rfl := Option.some.inj hi
      obtain rfl := Option.some.inj hd
      obtain ⟨ga, gc, z0, z1, zs⟩ := (show NumBox V _ g from HC.out.g).see (by have := HC.out.size; omega) hb
      have ZS := Lib.hid zs; clear zs
      dsimp only
      go_simp
      exact ⟨⟨_, rfl, ZS.out⟩, Below.refl _ _, fun j u _ _ => two2_of (by intro p e; cases e)⟩
    · obtain rfl := Option.some.inj hi
      obtain rfl := Option.some.inj hd
      have h0 : Num w' (vals 1) _ := hf 1 (by kernel_rfl)
      have h4 : Num w' (vals 2) _ := hf 2 (by kernel_rfl)
      have HP := quo_short w' _ _ _ _ h0 h4 (Nat.le_trans (limbs_small _ (by rw [HE.out.ys]; decide)) (by decide)) (by rw [HE.out.g]; decide)
      rw [show ys.tdiv g = p by rw [HE.out.ys, HE.out.g, HE.out.p]; rfl, show ys.tmod g = r0 by rw [HE.out.ys, HE.out.g, HE.out.r0]; rfl] at HP
      obtain ⟨s0, e0, -⟩ := h0
      obtain ⟨s4, e4, -⟩ := h4
      rw [e0, e4] at HP
      have HP := Lib.hid HP
      dsimp only
      rw [e0, e4]
      go_simp
      refine HP.out.mono ?_
      rintro e w5 ⟨⟨vq, vr, rfl, h6, h7⟩, hb5⟩
      exact ⟨⟨vq, vr, rfl, h6, h7⟩, hb5, fun j u _ _ => two2_of (by intro p e; cases e)⟩
    · obtain rfl := Option.some.inj hi
      obtain rfl := Option.some.inj hd
      obtain ⟨vq, vr, e5, h1, h2⟩ := hf 3 (by kernel_rfl)
      dsimp only
      rw [e5]
      go_simp
      exact ⟨⟨vq, vr, rfl, h1, h2⟩, Below.refl _ _, fun j u _ _ => two2_of (by intro p e; cases e)⟩
    · obtain rfl := Option.some.inj hi
      obtain rfl := Option.some.inj hd
      obtain ⟨vq, vr, e5, h1, h2⟩ := hf 4 (by kernel_rfl)
      dsimp only
      rw [e5]
      go_simp
      exact ⟨h1, Below.refl _ _, fun j u _ _ => two2_of (num_np h1)⟩
    · cases hW
    · obtain rfl := Option.some.inj hi
      obtain rfl := Option.some.inj hd
      dsimp only
      go_simp
      exact ⟨⟨w'.heap.size, rfl, hb.size, by simp, by go_simp, by go_simp, by go_simp, by go_simp⟩, (Below.refl _ _).alloc (Nat.le_refl _) _, fun j u _ hu => CA_new _ (Nat.le_refl _) j u hu⟩
    · obtain rfl := Option.some.inj hi
      obtain rfl := Option.some.inj hd
      dsimp only
      go_simp
      exact ⟨⟨w'.heap.size, rfl, hb.size, by simp, by go_simp, by go_simp, by go_simp, by go_simp⟩, (Below.refl _ _).alloc (Nat.le_refl _) _, fun j u _ hu => CA_new _ (Nat.le_refl _) j u hu⟩
    · cases hT
    · cases hT
    · omega
  · intro p o d hi hW hd vals w' hb hf
    have hlt : p < 11 := (Array.getElem?_eq_some_iff.1 hi).1
    rcases p with _ | _ | _ | _ | _ | _ | _ | _ | _ | _ | _ | p
    · cases hW
    · cases hW
    · cases hW
    · cases hW
    · cases hW
    · cases hW
    · obtain rfl := Option.some.inj hi
      obtain rfl := Option.some.inj hd
      obtain ⟨vq, vr, e5, h1, h2⟩ := hf 4 (by kernel_rfl)
      exact ⟨vr, fun w'' => by dsimp only; rw [e5]; go_simp, h2, fun j u _ _ => two2_of (num_np h2)⟩
    · cases hW
    · cases hW
    · cases hW
    · cases hW
    · omega
  · intro vals w' hb hf hp
    obtain ⟨s4, e4, h4⟩ := hf 5 (by decide) rfl
    obtain ⟨s5, e5, h5⟩ := hf 6 (by decide) rfl
    obtain ⟨b8, e6, n6, l6, B6⟩ := Fresh.blank (hf 7 (by decide) rfl)
    obtain ⟨b9, e7, n7, l7, B7⟩ := Fresh.blank (hf 8 (by decide) rfl)
    have h67 := hp 7 8 (by decide) (by decide) rfl rfl (by decide) _ _ e6 e7
    obtain ⟨p4, c4, rfl⟩ := h4.len
    obtain ⟨p5, c5, rfl⟩ := h5.len
    have HB := Lib.hid hb; clear hb hf hp
    have K4 := Lib.hid h4; clear h4 h5
    have BB6 := Lib.hid B6
    have BB7 := Lib.hid B7
    clear B7
    obtain ⟨x0, x1, f0, f1⟩ := B6
    rw [e4, e5, e6, e7]
    refine Rt.wpAny_step (i := 9) (by kernel_rfl) rfl (by rfl) (fun K hK => ?_)
    have HK := Lib.hid hK; clear hK
    go_simp
    refine HK.out _ _ ?_
    clear HK x0 x1 f0 f1
    have N6 := Lib.hid (BB6.out.put K4.out)
    have B7' := BB7.out.far h67 (.int .i64 p.sign) (.slice p4 (Wh.limbs p.natAbs).length c4)
    have HB' : Hid (Below V.heap.size V ((w'.setCell ⟨b8, 0, none⟩ (.int .i64 p.sign)).setCell ⟨b8, 1, none⟩ (.slice p4 (Wh.limbs p.natAbs).length c4))) := Lib.hid ((HB.out.setCell n6 _).setCell n6 _)
    have l6' : b8 < ((w'.setCell ⟨b8, 0, none⟩ (.int .i64 p.sign)).setCell ⟨b8, 1, none⟩ (.slice p4 (Wh.limbs p.natAbs).length c4)).heap.size := by simpa using l6
    clear BB6 BB7 HB K4
    generalize ((w'.setCell ⟨b8, 0, none⟩ (.int .i64 p.sign)).setCell ⟨b8, 1, none⟩ (.slice p4 (Wh.limbs p.natAbs).length c4)) = U at *
    have BB7 := Lib.hid B7'
    obtain ⟨x0, x1, f0, f1⟩ := B7'
    refine Rt.wpAny_step (i := 10) (by kernel_rfl) rfl (by rfl) (fun K hK => ?_)
    have HK := Lib.hid hK; clear hK
    go_simp
    refine HK.out _ _ ?_
    clear HK x0 x1 f0 f1
    exact Rt.wpAny_end (by kernel_rfl) ⟨rfl, ⟨vals, b8, by rw [e4, e5, e6, e7], e6, n6, N6.out.far BB7.out (Ne.symm h67) _ _, by simpa using l6'⟩, (HB'.out.setCell n7 _).setCell n7 _⟩
  rintro e a' W2 ⟨rfl, ⟨va, b8, rfl, ea, hV8, h8, hl8⟩, hb2⟩
  have HC2 := Lib.hid (HC.out.mono hb2)
  have H8 := Lib.hid h8
  clear hb2 h8 HC
  rw [ea]
  clear ea hV8
  go_wp2_with fail
  generalize W2 = V at *
  have HC := HC2; clear HC2
  refine wp_mono (Q := fun e a' W' => e = .normal ∧ (∃ (vals : Nat → Value), a' = { tmps := #[.agg #[.int .i64 x.sign, .slice xa (Wh.limbs x.natAbs).length xc], .agg #[.int .i64 y.sign, .slice ya (Wh.limbs y.natAbs).length yc], .pointer (some ⟨w.heap.size, 0, none⟩), .pointer (some ⟨w.heap.size + 1, 0, none⟩), .pointer (some ⟨w.heap.size + 1 + 1, 0, none⟩), .pointer (some ⟨w.heap.size + 1 + 1 + 1, 0, none⟩), .pointer (some ⟨w.heap.size + 1 + 1 + 1 + 1, 0, none⟩), .pointer (some ⟨w.heap.size + 1 + 1 + 1 + 1 + 1 + 1, 0, none⟩), .pointer (some ⟨b8, 0, none⟩), va 8, .pointer (some ⟨w.heap.size + 1, 0, none⟩), .int .i64 y.sign, .bool false, undef, undef, undef, undef, undef, undef, undef, .pointer (some ⟨w.heap.size, 1, none⟩), .slice xa (Wh.limbs x.natAbs).length xc, .pointer (some ⟨w.heap.size + 1, 1, none⟩), .slice ya (Wh.limbs y.natAbs).length yc, .slice (some ⟨w.heap.size + 1 + 1 + 1 + 1 + 1, 0, none⟩) 1 1, .agg #[.slice xa (Wh.limbs x.natAbs).length xc, .slice ya (Wh.limbs y.natAbs).length yc, .slice (some ⟨w.heap.size + 1 + 1 + 1 + 1 + 1, 0, none⟩) 1 1, .slice none 0 0, .bool false], .tuple #[], .pointer (some ⟨w.heap.size + 1 + 1 + 1 + 1 + 1 + 1, 0, none⟩), .slice ga (Wh.limbs 6).length gc, .agg #[.int .i64 g.sign, .slice p1 (Wh.limbs g.natAbs).length c1], va 4, va 0, va 1, va 2, va 3, va 5, va 6, vals 9, vals 0, vals 1, vals 2, vals 3, vals 4, vals 5, vals 6, vals 7, vals 8, vals 10, vals 11, undef, undef, undef, undef, undef, undef, undef, undef, undef, undef, undef, undef, undef, undef], defers := [] }) ∧ CS w W' x y (some g) (some vv) none) ?_ ?_
  refine Rt.wp_region_grow (n0 := 1) [12] [] 63 (fun vals => { tmps := #[.agg #[.int .i64 x.sign, .slice xa (Wh.limbs x.natAbs).length xc], .agg #[.int .i64 y.sign, .slice ya (Wh.limbs y.natAbs).length yc], .pointer (some ⟨w.heap.size, 0, none⟩), .pointer (some ⟨w.heap.size + 1, 0, none⟩), .pointer (some ⟨w.heap.size + 1 + 1, 0, none⟩), .pointer (some ⟨w.heap.size + 1 + 1 + 1, 0, none⟩), .pointer (some ⟨w.heap.size + 1 + 1 + 1 + 1, 0, none⟩), .pointer (some ⟨w.heap.size + 1 + 1 + 1 + 1 + 1 + 1, 0, none⟩), .pointer (some ⟨b8, 0, none⟩), va 8, .pointer (some ⟨w.heap.size + 1, 0, none⟩), .int .i64 y.sign, .bool false, undef, undef, undef, undef, undef, undef, undef, .pointer (some ⟨w.heap.size, 1, none⟩), .slice xa (Wh.limbs x.natAbs).length xc, .pointer (some ⟨w.heap.size + 1, 1, none⟩), .slice ya (Wh.limbs y.natAbs).length yc, .slice (some ⟨w.heap.size + 1 + 1 + 1 + 1 + 1, 0, none⟩) 1 1, .agg #[.slice xa (Wh.limbs x.natAbs).length xc, .slice ya (Wh.limbs y.natAbs).length yc, .slice (some ⟨w.heap.size + 1 + 1 + 1 + 1 + 1, 0, none⟩) 1 1, .slice none 0 0, .bool false], .tuple #[], .pointer (some ⟨w.heap.size + 1 + 1 + 1 + 1 + 1 + 1, 0, none⟩), .slice ga (Wh.limbs 6).length gc, .agg #[.int .i64 g.sign, .slice p1 (Wh.limbs g.natAbs).length c1], va 4, va 0, va 1, va 2, va 3, va 5, va 6, vals 9, vals 0, vals 1, vals 2, vals 3, vals 4, vals 5, vals 6, vals 7, vals 8, vals 10, vals 11, undef, undef, undef, undef, undef, undef, undef, undef, undef, undef, undef, undef, undef, undef], defers := [] }) (CB (w.heap.size) (w.heap.size + 1 + 1 + 1 + 1 + 1 + 1) x.sign p t q1 vv) (by kernel_rfl) (by kernel_rfl) (by kernel_rfl) (by kernel_rfl) (fun _ _ _ _ _ h => absurd h.1 (by simp)) (by kernel_rfl) rfl (fun _ => by kernel_rfl) (by kernel_rfl) (by kernel_rfl) (CB_stays _ _ _ _ _ _ _) ?_ ?_ ?_
  · intro i o d hi hT hW hd vals w' hb hf
    have hlt : i < 13 := (Array.getElem?_eq_some_iff.1 hi).1
    rcases i with _ | _ | _ | _ | _ | _ | _ | _ | _ | _ | _ | _ | _ | i
    · obtain rfl := Option.some.inj hi
      obtain rfl := Option.some.inj hd
      dsimp only
      go_simp
      exact ⟨rfl, Below.refl _ _⟩
    · obtain rfl := Option.some.inj hi
      obtain rfl := Option.some.inj hd
      have e0 : vals 0 = _ := hf 0 (by kernel_rfl)
      obtain ⟨⟨ga2, gc2, z0, z1, zs⟩, _, _⟩ := (HC.out.mono hb).a
      clear z1 zs
      dsimp only
      rw [e0]
      go_simp
      exact ⟨rfl, Below.refl _ _⟩
    · obtain rfl := Option.some.inj hi
      obtain rfl := Option.some.inj hd
      have HSD := Lib.hid (side_below w' _ ((HC.out.mono hb).k.o))
      dsimp only
      go_simp
      refine HSD.out.mono ?_
      rintro e w5 ⟨rfl, hb5⟩
      exact ⟨rfl, hb5⟩
    · obtain rfl := Option.some.inj hi
      obtain rfl := Option.some.inj hd
      have e1 : vals 1 = _ := hf 1 (by kernel_rfl)
      have e2 : vals 2 = _ := hf 2 (by kernel_rfl)
      have HWI := Lib.hid (with_any x.sign (-1) (by rw [HE.out.x]; decide) (by decide) w')
      have HXS : Hid (x.sign * -1 = -1) := Lib.hid (by rw [HE.out.x]; rfl)
      dsimp only
      rw [e1, e2]
      go_simp
      refine HWI.out.mono ?_
      rintro e w5 ⟨rfl, rfl⟩
      exact ⟨congrArg (Value.int .i64) HXS.out, Below.refl _ _⟩
    · obtain rfl := Option.some.inj hi
      obtain rfl := Option.some.inj hd
      dsimp only
      go_simp
      exact ⟨rfl, Below.refl _ _⟩
    · obtain rfl := Option.some.inj hi
      obtain rfl := Option.some.inj hd
      have e4 : vals 4 = _ := hf 4 (by kernel_rfl)
      obtain ⟨v0, z0, zs⟩ := HC.out.k.t.see HC.out.k.lt hb
      have ZS := Lib.hid zs; clear zs
      dsimp only
      rw [e4]
      go_simp
      exact ⟨ZS.out, Below.refl _ _⟩
    · obtain rfl := Option.some.inj hi
      obtain rfl := Option.some.inj hd
      have e3 : vals 3 = _ := hf 3 (by kernel_rfl)
      obtain ⟨a5, c5, e5, k5⟩ := hf 5 (by kernel_rfl)
      have HP := signed_len (-1) _ _ w' (Wh.ok_limbs 1) k5 (Nat.le_trans (limbs9 1 (by decide)) (by decide)) (.inl rfl)
      rw [Wh.val_limbs, show (-1 : Int) * ((1 : Nat) : Int) = t by rw [HE.out.t]; rfl] at HP
      have HP := Lib.hid HP
      clear k5
      dsimp only
      rw [e3, e5]
      go_simp
      refine HP.out.mono ?_
      rintro e w5 ⟨⟨v5, rfl, hn5⟩, hb5⟩
      exact ⟨hn5, hb5⟩
    · obtain rfl := Option.some.inj hi
      obtain rfl := Option.some.inj hd
      obtain ⟨ga, gc, z0, z1, zs⟩ := H8.out.mono hb hl8
      have ZS := Lib.hid zs; clear zs
      dsimp only
      go_simp
      exact ⟨⟨_, rfl, ZS.out⟩, Below.refl _ _⟩
    · obtain rfl := Option.some.inj hi
      obtain rfl := Option.some.inj hd
      have h0 : Num w' (vals 6) _ := hf 6 (by kernel_rfl)
      have h4 : Num w' (vals 7) _ := hf 7 (by kernel_rfl)
      have HP := floor_short w' _ _ _ _ h0 h4 (fit9 _ (by rw [HE.out.t]; decide)) (by rw [HE.out.p]; decide)
      rw [show t.fdiv p = q1 by rw [HE.out.t, HE.out.p, HE.out.q1]; rfl, show t.fmod p = vv by rw [HE.out.t, HE.out.p, HE.out.v]; rfl] at HP
      obtain ⟨s0, e0, -⟩ := h0
      obtain ⟨s4, e4, -⟩ := h4
      rw [e0, e4] at HP
      have HP := Lib.hid HP
      dsimp only
      rw [e0, e4]
      go_simp
      refine HP.out.mono ?_
      rintro e w5 ⟨⟨vq, vr, rfl, h6, h7⟩, hb5⟩
      exact ⟨⟨vq, vr, rfl, h6, h7⟩, hb5⟩
    · obtain rfl := Option.some.inj hi
      obtain rfl := Option.some.inj hd
      obtain ⟨vq, vr, e5, h1, h2⟩ := hf 8 (by kernel_rfl)
      dsimp only
      rw [e5]
      go_simp
      exact ⟨⟨vq, vr, rfl, h1, h2⟩, Below.refl _ _⟩
    · obtain rfl := Option.some.inj hi
      obtain rfl := Option.some.inj hd
      obtain ⟨vq, vr, e5, h1, h2⟩ := hf 9 (by kernel_rfl)
      dsimp only
      rw [e5]
      go_simp
      exact ⟨h1, Below.refl _ _⟩
    · obtain rfl := Option.some.inj hi
      obtain rfl := Option.some.inj hd
      obtain ⟨vq, vr, e5, h1, h2⟩ := hf 9 (by kernel_rfl)
      dsimp only
      rw [e5]
      go_simp
      exact ⟨h2, Below.refl _ _⟩
    · cases hT
    · omega
  · intro p o d hi hW hd vals w' hb hf
    cases hW
  · intro vals w' hb hf
    obtain ⟨s4, e4, h4⟩ := hf 11 (by decide) rfl
    obtain ⟨p4, c4, rfl⟩ := h4.len
    have hC' := HC.out.mono hb
    obtain ⟨x0, x1, f0, f1⟩ := (show Blank w' _ from hC'.v)
    have HP := Lib.hid (hC'.putV h4)
    clear hb hf h4 hC'
    rw [e4]
    refine Rt.wpAny_step (i := 12) (by kernel_rfl) rfl (by rfl) (fun K hK => ?_)
    have HK := Lib.hid hK; clear hK
    go_simp
    refine HK.out _ _ ?_
    exact Rt.wpAny_end (by kernel_rfl) ⟨rfl, ⟨vals, by rw [e4]⟩, HP.out⟩
  rintro e a' W3 ⟨rfl, ⟨vb, rfl⟩, hC3⟩
  have HC3 := Lib.hid hC3; clear hC3 HC H8 hl8
  go_wp2_with fail
  generalize W3 = V at *
  have HC := HC3; clear HC3
  refine wp_mono (Q := fun e a' W' => e = .normal ∧ (∃ (vals : Nat → Value), a' = { tmps := #[.agg #[.int .i64 x.sign, .slice xa (Wh.limbs x.natAbs).length xc], .agg #[.int .i64 y.sign, .slice ya (Wh.limbs y.natAbs).length yc], .pointer (some ⟨w.heap.size, 0, none⟩), .pointer (some ⟨w.heap.size + 1, 0, none⟩), .pointer (some ⟨w.heap.size + 1 + 1, 0, none⟩), .pointer (some ⟨w.heap.size + 1 + 1 + 1, 0, none⟩), .pointer (some ⟨w.heap.size + 1 + 1 + 1 + 1, 0, none⟩), .pointer (some ⟨w.heap.size + 1 + 1 + 1 + 1 + 1 + 1, 0, none⟩), .pointer (some ⟨b8, 0, none⟩), va 8, .pointer (some ⟨w.heap.size + 1, 0, none⟩), .int .i64 y.sign, .bool false, undef, undef, undef, undef, undef, undef, undef, .pointer (some ⟨w.heap.size, 1, none⟩), .slice xa (Wh.limbs x.natAbs).length xc, .pointer (some ⟨w.heap.size + 1, 1, none⟩), .slice ya (Wh.limbs y.natAbs).length yc, .slice (some ⟨w.heap.size + 1 + 1 + 1 + 1 + 1, 0, none⟩) 1 1, .agg #[.slice xa (Wh.limbs x.natAbs).length xc, .slice ya (Wh.limbs y.natAbs).length yc, .slice (some ⟨w.heap.size + 1 + 1 + 1 + 1 + 1, 0, none⟩) 1 1, .slice none 0 0, .bool false], .tuple #[], .pointer (some ⟨w.heap.size + 1 + 1 + 1 + 1 + 1 + 1, 0, none⟩), .slice ga (Wh.limbs 6).length gc, .agg #[.int .i64 g.sign, .slice p1 (Wh.limbs g.natAbs).length c1], va 4, va 0, va 1, va 2, va 3, va 5, va 6, vb 9, vb 0, vb 1, vb 2, vb 3, vb 4, vb 5, vb 6, vb 7, vb 8, vb 10, vb 11, vals 8, vals 0, vals 1, vals 2, vals 3, vals 4, vals 5, vals 6, vals 7, vals 9, vals 10, undef, undef, undef], defers := [] }) ∧ CS w W' x y (some g) (some vv) (some u)) ?_ ?_
  refine Rt.wp_region_grow (n0 := 1) [11] [10] 63 (fun vals => { tmps := #[.agg #[.int .i64 x.sign, .slice xa (Wh.limbs x.natAbs).length xc], .agg #[.int .i64 y.sign, .slice ya (Wh.limbs y.natAbs).length yc], .pointer (some ⟨w.heap.size, 0, none⟩), .pointer (some ⟨w.heap.size + 1, 0, none⟩), .pointer (some ⟨w.heap.size + 1 + 1, 0, none⟩), .pointer (some ⟨w.heap.size + 1 + 1 + 1, 0, none⟩), .pointer (some ⟨w.heap.size + 1 + 1 + 1 + 1, 0, none⟩), .pointer (some ⟨w.heap.size + 1 + 1 + 1 + 1 + 1 + 1, 0, none⟩), .pointer (some ⟨b8, 0, none⟩), va 8, .pointer (some ⟨w.heap.size + 1, 0, none⟩), .int .i64 y.sign, .bool false, undef, undef, undef, undef, undef, undef, undef, .pointer (some ⟨w.heap.size, 1, none⟩), .slice xa (Wh.limbs x.natAbs).length xc, .pointer (some ⟨w.heap.size + 1, 1, none⟩), .slice ya (Wh.limbs y.natAbs).length yc, .slice (some ⟨w.heap.size + 1 + 1 + 1 + 1 + 1, 0, none⟩) 1 1, .agg #[.slice xa (Wh.limbs x.natAbs).length xc, .slice ya (Wh.limbs y.natAbs).length yc, .slice (some ⟨w.heap.size + 1 + 1 + 1 + 1 + 1, 0, none⟩) 1 1, .slice none 0 0, .bool false], .tuple #[], .pointer (some ⟨w.heap.size + 1 + 1 + 1 + 1 + 1 + 1, 0, none⟩), .slice ga (Wh.limbs 6).length gc, .agg #[.int .i64 g.sign, .slice p1 (Wh.limbs g.natAbs).length c1], va 4, va 0, va 1, va 2, va 3, va 5, va 6, vb 9, vb 0, vb 1, vb 2, vb 3, vb 4, vb 5, vb 6, vb 7, vb 8, vb 10, vb 11, vals 8, vals 0, vals 1, vals 2, vals 3, vals 4, vals 5, vals 6, vals 7, vals 9, vals 10, undef, undef, undef], defers := [] }) (CC V.heap.size x y g vv m d u r1) (by kernel_rfl) (by kernel_rfl) (by kernel_rfl) (by kernel_rfl) (fun _ _ _ _ _ h => absurd h.1 (by simp)) (by kernel_rfl) rfl (fun _ => by kernel_rfl) (by kernel_rfl) (by kernel_rfl) (CC_stays _ _ _ _ _ _ _ _ _) ?_ ?_ ?_
  · intro i o d hi hT hW hd vals w' hb hf
    have hlt : i < 12 := (Array.getElem?_eq_some_iff.1 hi).1
    rcases i with _ | _ | _ | _ | _ | _ | _ | _ | _ | _ | _ | _ | i
    · obtain rfl := Option.some.inj hi
      obtain rfl := Option.some.inj hd
      obtain ⟨ga, gc, z0, z1, zs⟩ := (show NumBox V _ g from HC.out.g).see (by have := HC.out.size; omega) hb
      have ZS := Lib.hid zs; clear zs
      dsimp only
      go_simp
      exact ⟨⟨_, rfl, ZS.out⟩, Below.refl _ _⟩
    · obtain rfl := Option.some.inj hi
      obtain rfl := Option.some.inj hd
      obtain ⟨ga, gc, z0, z1, zs⟩ := HC.out.a.see (by have := HC.out.size; omega) hb
      have ZS := Lib.hid zs; clear zs
      dsimp only
      go_simp
      exact ⟨⟨_, rfl, ZS.out⟩, Below.refl _ _⟩
    · obtain rfl := Option.some.inj hi
      obtain rfl := Option.some.inj hd
      obtain ⟨ga, gc, z0, z1, zs⟩ := (show NumBox V _ vv from HC.out.v).see (by have := HC.out.size; omega) hb
      have ZS := Lib.hid zs; clear zs
      dsimp only
      go_simp
      exact ⟨⟨_, rfl, ZS.out⟩, Below.refl _ _⟩
    · obtain rfl := Option.some.inj hi
      obtain rfl := Option.some.inj hd
      obtain ⟨s1, e1, k1⟩ := hf 2 (by kernel_rfl)
      obtain ⟨p9, c9, rfl⟩ := k1.len
      have al : Below w'.heap.size w' (w'.alloc (Obj.cells #[.int .i64 vv.sign, .slice p9 (Wh.limbs vv.natAbs).length c9] 92)) := (Below.refl _ _).alloc (Nat.le_refl _) _
      have K1 := Lib.hid (k1.mono al); clear k1 al
      dsimp only
      rw [e1]
      go_simp
      exact ⟨⟨w'.heap.size, p9, c9, rfl, by simp, hb.size, by go_simp, by go_simp, rfl, K1.out⟩, (Below.refl _ _).alloc (Nat.le_refl _) _⟩
    · obtain rfl := Option.some.inj hi
      obtain rfl := Option.some.inj hd
      have h0 : Num w' (vals 1) _ := hf 1 (by kernel_rfl)
      obtain ⟨ab, ea, ec, e2, hab1, hab2, hab3⟩ := hf 3 (by kernel_rfl)
      have HP := product_any w' ab _ vv hab1 _ h0 vv.sign ea (Wh.limbs vv.natAbs).length ec hab3 (Nat.le_trans (limbs_small _ (by rw [HE.out.x]; decide)) (by decide)) (Nat.le_trans (limbs_small _ (by rw [HE.out.v]; decide)) (by decide)) (.inl (Nat.lt_of_le_of_lt (limbs_small _ (by rw [HE.out.x]; decide)) (by decide)))
      rw [show x * vv = m by rw [HE.out.x, HE.out.v, HE.out.m]; rfl] at HP
      obtain ⟨s0, e0, -⟩ := h0
      rw [e0] at HP
      have HP := Lib.hid HP
      clear hab3
      dsimp only
      rw [e0, e2]
      go_simp
      refine HP.out.mono ?_
      rintro e w5 ⟨⟨v5, rfl, hn5⟩, hb5⟩
      exact ⟨hn5, hb5⟩
    · obtain rfl := Option.some.inj hi
      obtain rfl := Option.some.inj hd
      have h0 : Num w' (vals 0) _ := hf 0 (by kernel_rfl)
      have h4 : Num w' (vals 4) _ := hf 4 (by kernel_rfl)
      have HP := sub_any w' _ _ _ _ h0 h4 (fit9 _ (by rw [HE.out.g]; decide)) (fit9 _ (by rw [HE.out.m]; decide))
      rw [show g - m = d by rw [HE.out.g, HE.out.m, HE.out.d]; rfl] at HP
      obtain ⟨s0, e0, -⟩ := h0
      obtain ⟨s4, e4, -⟩ := h4
      rw [e0, e4] at HP
      have HP := Lib.hid HP
      dsimp only
      rw [e0, e4]
      go_simp
      refine HP.out.mono ?_
      rintro e w5 ⟨⟨v5, rfl, hn5⟩, hb5⟩
      exact ⟨hn5, hb5⟩
    · obtain rfl := Option.some.inj hi
      obtain rfl := Option.some.inj hd
      obtain ⟨ga, gc, z0, z1, zs⟩ := HC.out.b.see (by have := HC.out.size; omega) hb
      have ZS := Lib.hid zs; clear zs
      dsimp only
      go_simp
      exact ⟨⟨_, rfl, ZS.out⟩, Below.refl _ _⟩
    · obtain rfl := Option.some.inj hi
      obtain rfl := Option.some.inj hd
      have h0 : Num w' (vals 5) _ := hf 5 (by kernel_rfl)
      have h4 : Num w' (vals 6) _ := hf 6 (by kernel_rfl)
      have HP := quo_short w' _ _ _ _ h0 h4 (Nat.le_trans (limbs_small _ (by rw [HE.out.d]; decide)) (by decide)) (by rw [HE.out.y]; decide)
      rw [show d.tdiv y = u by rw [HE.out.d, HE.out.y, HE.out.u]; rfl, show d.tmod y = r1 by rw [HE.out.d, HE.out.y, HE.out.r1]; rfl] at HP
      obtain ⟨s0, e0, -⟩ := h0
      obtain ⟨s4, e4, -⟩ := h4
      rw [e0, e4] at HP
      have HP := Lib.hid HP
      dsimp only
      rw [e0, e4]
      go_simp
      refine HP.out.mono ?_
      rintro e w5 ⟨⟨vq, vr, rfl, h6, h7⟩, hb5⟩
      exact ⟨⟨vq, vr, rfl, h6, h7⟩, hb5⟩
    · obtain rfl := Option.some.inj hi
      obtain rfl := Option.some.inj hd
      obtain ⟨vq, vr, e5, h1, h2⟩ := hf 7 (by kernel_rfl)
      dsimp only
      rw [e5]
      go_simp
      exact ⟨⟨vq, vr, rfl, h1, h2⟩, Below.refl _ _⟩
    · obtain rfl := Option.some.inj hi
      obtain rfl := Option.some.inj hd
      obtain ⟨vq, vr, e5, h1, h2⟩ := hf 8 (by kernel_rfl)
      dsimp only
      rw [e5]
      go_simp
      exact ⟨h1, Below.refl _ _⟩
    · cases hW
    · cases hT
    · omega
  · intro p o d hi hW hd vals w' hb hf
    have hlt : p < 12 := (Array.getElem?_eq_some_iff.1 hi).1
    rcases p with _ | _ | _ | _ | _ | _ | _ | _ | _ | _ | _ | _ | p
    · cases hW
    · cases hW
    · cases hW
    · cases hW
    · cases hW
    · cases hW
    · cases hW
    · cases hW
    · cases hW
    · cases hW
    · obtain rfl := Option.some.inj hi
      obtain rfl := Option.some.inj hd
      obtain ⟨vq, vr, e5, h1, h2⟩ := hf 8 (by kernel_rfl)
      exact ⟨vr, fun w'' => by dsimp only; rw [e5]; go_simp, h2⟩
    · cases hW
    · omega
  · intro vals w' hb hf
    obtain ⟨s4, e4, h4⟩ := hf 9 (by decide) rfl
    obtain ⟨s5, e5, h5⟩ := hf 10 (by decide) rfl
    obtain ⟨p4, c4, rfl⟩ := h4.len
    have hC' := HC.out.mono hb
    obtain ⟨x0, x1, f0, f1⟩ := (show Blank w' _ from hC'.u)
    have HP := Lib.hid (hC'.putU h4)
    clear hb hf h4 h5 hC'
    rw [e4]
    refine Rt.wpAny_step (i := 11) (by kernel_rfl) rfl (by rfl) (fun K hK => ?_)
    have HK := Lib.hid hK; clear hK
    go_simp
    refine HK.out _ _ ?_
    exact Rt.wpAny_end (by kernel_rfl) ⟨rfl, ⟨vals, by rw [e4, e5]⟩, HP.out⟩
  rintro e a' W4 ⟨rfl, ⟨vc, rfl⟩, hC4⟩
  have HC4 := Lib.hid hC4; clear hC4 HC
  obtain ⟨⟨ga', gc', g0, g1, gs⟩, gf0, gf1⟩ := (show NumBox W4 _ g from HC4.out.g)
  obtain ⟨⟨va', vc', v0, v1, vs⟩, vf0, vf1⟩ := (show NumBox W4 _ vv from HC4.out.v)
  obtain ⟨⟨ua', uc', u0, u1, us⟩, uf0, uf1⟩ := (show NumBox W4 _ u from HC4.out.u)
  have HSL := Lib.hid (And.intro gs (And.intro vs us)); clear gs vs us
  have mixed : Tryz.prog.follows Departure.mixedOrders = true := by kernel_rfl
  go_wp2_with fail
  go_region_o
  have bg := (show NumBox W4 (w.heap.size + 1 + 1) g from HC4.out.g)
  have bv := (show NumBox W4 (w.heap.size + 1 + 1 + 1) vv from HC4.out.v)
  have bu := (show NumBox W4 (w.heap.size + 1 + 1 + 1 + 1) u from HC4.out.u)
  have a1 := bg.put HSL.out.1
  have d1 := bv.far bg (by omega) (.int .i64 g.sign) (.slice ga' (Wh.limbs g.natAbs).length gc')
  have e1 := bu.far bg (by omega) (.int .i64 g.sign) (.slice ga' (Wh.limbs g.natAbs).length gc')
  have s1 := HSL.out.2.1.two (w.heap.size + 1 + 1) g0 g1 (nl_int _) (nl_slice _ _ _) (.int .i64 g.sign) (.slice ga' (Wh.limbs g.natAbs).length gc')
  have t1 := HSL.out.2.2.two (w.heap.size + 1 + 1) g0 g1 (nl_int _) (nl_slice _ _ _) (.int .i64 g.sign) (.slice ga' (Wh.limbs g.natAbs).length gc')
  have b1 := (HC4.out.below.setCell (p := ⟨w.heap.size + 1 + 1, 0, none⟩) (show w.heap.size ≤ w.heap.size + 1 + 1 by omega) (.int .i64 g.sign)).setCell (p := ⟨w.heap.size + 1 + 1, 1, none⟩) (show w.heap.size ≤ w.heap.size + 1 + 1 by omega) (.slice ga' (Wh.limbs g.natAbs).length gc')
  have z1 : w.heap.size + 6 < ((W4.setCell ⟨w.heap.size + 1 + 1, 0, none⟩ (.int .i64 g.sign)).setCell ⟨w.heap.size + 1 + 1, 1, none⟩ (.slice ga' (Wh.limbs g.natAbs).length gc')).heap.size := by have := HC4.out.size; simpa using this
  generalize ((W4.setCell ⟨w.heap.size + 1 + 1, 0, none⟩ (.int .i64 g.sign)).setCell ⟨w.heap.size + 1 + 1, 1, none⟩ (.slice ga' (Wh.limbs g.natAbs).length gc')) = X1 at *
  have a2 := a1.far d1 (by omega) (.int .i64 vv.sign) (.slice va' (Wh.limbs vv.natAbs).length vc')
  have d2 := d1.put s1
  have e2 := e1.far d1 (by omega) (.int .i64 vv.sign) (.slice va' (Wh.limbs vv.natAbs).length vc')
  obtain ⟨⟨_, _, q0, q1', _⟩, _, _⟩ := d1
  have t2 := t1.two (w.heap.size + 1 + 1 + 1) q0 q1' (nl_int _) (nl_slice _ _ _) (.int .i64 vv.sign) (.slice va' (Wh.limbs vv.natAbs).length vc')
  have b2 := (b1.setCell (p := ⟨w.heap.size + 1 + 1 + 1, 0, none⟩) (show w.heap.size ≤ w.heap.size + 1 + 1 + 1 by omega) (.int .i64 vv.sign)).setCell (p := ⟨w.heap.size + 1 + 1 + 1, 1, none⟩) (show w.heap.size ≤ w.heap.size + 1 + 1 + 1 by omega) (.slice va' (Wh.limbs vv.natAbs).length vc')
  have z2 : w.heap.size + 6 < ((X1.setCell ⟨w.heap.size + 1 + 1 + 1, 0, none⟩ (.int .i64 vv.sign)).setCell ⟨w.heap.size + 1 + 1 + 1, 1, none⟩ (.slice va' (Wh.limbs vv.natAbs).length vc')).heap.size := by simpa using z1
  generalize ((X1.setCell ⟨w.heap.size + 1 + 1 + 1, 0, none⟩ (.int .i64 vv.sign)).setCell ⟨w.heap.size + 1 + 1 + 1, 1, none⟩ (.slice va' (Wh.limbs vv.natAbs).length vc')) = X2 at *
  have a3 := a2.far e2 (by omega) (.int .i64 u.sign) (.slice ua' (Wh.limbs u.natAbs).length uc')
  have d3 := d2.far e2 (by omega) (.int .i64 u.sign) (.slice ua' (Wh.limbs u.natAbs).length uc')
  have e3 := e2.put t2
  have b3 := (b2.setCell (p := ⟨w.heap.size + 1 + 1 + 1 + 1, 0, none⟩) (show w.heap.size ≤ w.heap.size + 1 + 1 + 1 + 1 by omega) (.int .i64 u.sign)).setCell (p := ⟨w.heap.size + 1 + 1 + 1 + 1, 1, none⟩) (show w.heap.size ≤ w.heap.size + 1 + 1 + 1 + 1 by omega) (.slice ua' (Wh.limbs u.natAbs).length uc')
  have z3 : w.heap.size + 6 < ((X2.setCell ⟨w.heap.size + 1 + 1 + 1 + 1, 0, none⟩ (.int .i64 u.sign)).setCell ⟨w.heap.size + 1 + 1 + 1 + 1, 1, none⟩ (.slice ua' (Wh.limbs u.natAbs).length uc')).heap.size := by simpa using z2
  generalize ((X2.setCell ⟨w.heap.size + 1 + 1 + 1 + 1, 0, none⟩ (.int .i64 u.sign)).setCell ⟨w.heap.size + 1 + 1 + 1 + 1, 1, none⟩ (.slice ua' (Wh.limbs u.natAbs).length uc')) = X3 at *
  have bd : Below X3.heap.size X3 X3.drew := (Below.refl _ _).drew
  obtain ⟨⟨p1', c1', m0, m1, ms⟩, _, _⟩ := a3.mono bd (by omega)
  obtain ⟨⟨p2', c2', n0, n1, ns⟩, _, _⟩ := d3.mono bd (by omega)
  obtain ⟨⟨p3', c3', o0, o1, os⟩, _, _⟩ := e3.mono bd (by omega)
  have HF := Lib.hid (And.intro (And.intro ms (And.intro ns os)) (b3.trans (bd.mono b3.size)))
  clear bg bv bu a1 e1 s1 t1 b1 z1 a2 d2 e2 t2 b2 z2 a3 d3 e3 b3 z3 bd ms ns os q0 q1' g0 g1 v0 v1 u0 u1 gf0 gf1 vf0 vf1 uf0 uf1 HC4 HSL
  generalize X3.drew = X4 at *
  go_wp2_with fail
  exact bodyPost_ret (v := .tuple #[.agg #[.int .i64 g.sign, .slice p1' (Wh.limbs g.natAbs).length c1'], .agg #[.int .i64 vv.sign, .slice p2' (Wh.limbs vv.natAbs).length c2'], .agg #[.int .i64 u.sign, .slice p3' (Wh.limbs u.natAbs).length c3']]) (by simp [results, Tryz.results159, go_sem, m0, m1, n0, n1, o0, o1]) rfl ⟨⟨_, _, _, rfl, by rw [← HE.out.g]; exact ⟨_, rfl, HF.out.1.1⟩, by rw [← HE.out.v]; exact ⟨_, rfl, HF.out.1.2.1⟩, by rw [← HE.out.u]; exact ⟨_, rfl, HF.out.1.2.2⟩⟩, HF.out.2⟩
end Go.Proofs.YteggbenhffmijaaGreatDoor

/- WALKS, Floor 1: perform, the division that rounds down. -/
namespace Go.Proofs.YteggbenhffmijaaGreatDoor
open Go.RowKit
theorem no_floored_sum (v : Value) (w : World) : (Instr.typeAssert (.iface 152 v) 227 273 true).run Tryz.prog w = .ok (.tuple #[.agg #[.int .i64 0, .slice none 0 0, .int .i64 0, .slice none 0 0], .bool false]) w := by kernel_rfl
theorem no_floored_difference (v : Value) (w : World) : (Instr.typeAssert (.iface 152 v) 227 274 true).run Tryz.prog w = .ok (.tuple #[.agg #[.int .i64 0, .slice none 0 0, .int .i64 0, .slice none 0 0], .bool false]) w := by kernel_rfl
theorem no_floored_multiple (v : Value) (w : World) : (Instr.typeAssert (.iface 152 v) 227 221 true).run Tryz.prog w = .ok (.tuple #[.agg #[.int .i64 0, .slice none 0 0, .int .i64 0, .slice none 0 0], .bool false]) w := by kernel_rfl
theorem method_floor (x0 x1 x2 x3 : Value) (w : World) : (method 526 152 (.agg #[x0, x1, x2, x3]) "metewand/whole.operands").run Tryz.prog w = .ok (399, .agg #[x0, x1, x2, x3]) w := by kernel_rfl
theorem assert_floor (v : Value) (w : World) : (Instr.typeAssert (.iface 152 v) 227 152 true).run Tryz.prog w = .ok (.tuple #[v, .bool true]) w := by kernel_rfl
set_option maxRecDepth 100000 in
set_option maxHeartbeats 800000 in
theorem perform_floor (w : World) (x y : Int) (a1 a2 : Option Addr) (n1 c1 n2 c2 : Nat) (h1 : Sl w (.slice a1 n1 c1) (Wh.limbs x.natAbs)) (h2 : Sl w (.slice a2 n2 c2) (Wh.limbs y.natAbs)) (hx : Fit x) (hy : 0 < y.natAbs ∧ y.natAbs < 1000000000) :
    Calls Tryz.prog 236 #[.iface 152 (.agg #[.int .i64 (Int.sign x), .slice a1 n1 c1, .int .i64 (Int.sign y), .slice a2 n2 c2])] w fun e w' =>
      (∃ v' v'', e = .returned (.tuple #[v', v'']) ∧ Num w' v' (x.fdiv y) ∧ Num w' v'' (x.fmod y)) ∧ Below w.heap.size w w' := by
  have H1 := Lib.hid h1; clear h1
  have H2 := Lib.hid h2; clear h2
  have hme := method_floor (.int .i64 (Int.sign x)) (.slice a1 n1 c1) (.int .i64 (Int.sign y)) (.slice a2 n2 c2)
  go_enter Tryz.func236, Tryz.ntmps236
  go_wp2_with fail
  refine (operands_any _ _ _ _ _ _ _ _ _).mono ?_
  rintro e w2 ⟨rfl, hb2⟩
  clear hme
  have hno0 := no_floored_sum (.agg #[.int .i64 (Int.sign x), .slice a1 n1 c1, .int .i64 (Int.sign y), .slice a2 n2 c2])
  have hno1 := no_floored_difference (.agg #[.int .i64 (Int.sign x), .slice a1 n1 c1, .int .i64 (Int.sign y), .slice a2 n2 c2])
  have hno2 := no_floored_multiple (.agg #[.int .i64 (Int.sign x), .slice a1 n1 c1, .int .i64 (Int.sign y), .slice a2 n2 c2])
  have has := assert_floor (.agg #[.int .i64 (Int.sign x), .slice a1 n1 c1, .int .i64 (Int.sign y), .slice a2 n2 c2])
  have hbb : Below w.heap.size w w2 := (((Below.refl _ _).alloc (Nat.le_refl _) _).alloc (by simp) _).trans (hb2.mono (by simp; omega))
  go_wp2_with fail
  have hal : Below w2.heap.size w2 ((w2.alloc (Obj.cells #[Value.int IntKind.i64 (Int.sign x), Value.slice a1 n1 c1] 92)).alloc (Obj.cells #[Value.int IntKind.i64 (Int.sign y), Value.slice a2 n2 c2] 92)) := ((Below.refl _ _).alloc (Nat.le_refl _) _).alloc (by simp) _
  have hall := hbb.trans (hal.mono hbb.size)
  refine (floor_short _ _ _ x y (Num.mk' (H1.out.mono hall) rfl) (Num.mk' (H2.out.mono hall) rfl) hx hy).mono ?_
  rintro e w3 ⟨⟨v3, u3, rfl, hn3, hm3⟩, hb3⟩
  generalize hQ : x.fdiv y = q at *
  generalize hR : x.fmod y = r at *
  have HQ := Lib.hid hQ; have HR := Lib.hid hR; clear hQ hR
  obtain ⟨s3, rfl, hs3⟩ := hn3
  obtain ⟨a3, c3, rfl⟩ := hs3.len
  obtain ⟨t3, rfl, hr3⟩ := hm3
  obtain ⟨d3, e3, rfl⟩ := hr3.len
  have hw2 : Below (w.heap.size + 2) ((w.alloc (.cells #[.int .i64 0, .slice none 0 0] 92)).alloc (.cells #[.int .i64 0, .slice none 0 0] 92)) w2 := hb2.mono (by simp)
  have hsz : w.heap.size + 2 ≤ w2.heap.size := by have := hw2.size; simpa using this
  have hT := two_new (hw2.trans ((hal.trans (hb3.mono hal.size)).mono hsz))
  have hB3 := Two.below (hbb.trans ((hal.trans (hb3.mono hal.size)).mono hbb.size)) (Nat.le_refl w.heap.size) (.int .i64 (Int.sign q)) (.slice a3 (Wh.limbs q.natAbs).length c3) (.int .i64 (Int.sign r)) (.slice d3 (Wh.limbs r.natAbs).length e3)
  have hS3 := hT.sl hs3 (.int .i64 (Int.sign q)) (.slice a3 (Wh.limbs q.natAbs).length c3) (.int .i64 (Int.sign r)) (.slice d3 (Wh.limbs r.natAbs).length e3)
  have hR3 := hT.sl hr3 (.int .i64 (Int.sign q)) (.slice a3 (Wh.limbs q.natAbs).length c3) (.int .i64 (Int.sign r)) (.slice d3 (Wh.limbs r.natAbs).length e3)
  obtain ⟨r0, r1, r2, r3⟩ := hT.read (.int .i64 (Int.sign q)) (.slice a3 (Wh.limbs q.natAbs).length c3) (.int .i64 (Int.sign r)) (.slice d3 (Wh.limbs r.natAbs).length e3)
  have k0 := hT.k0
  have k1 := hT.k1
  have m0 := hT.m0
  have m1 := hT.m1
  have f0 := hT.f0
  have f1 := hT.f1
  have g0 := hT.g0
  have g1 := hT.g1
  clear hal hall hb3 hw2 hbb hb2 has hT hs3 hr3 hno0 hno1 hno2
  go_wp2
  exact bodyPost_ret (v := .tuple #[.agg #[.int .i64 (Int.sign q), .slice a3 (Wh.limbs q.natAbs).length c3], .agg #[.int .i64 (Int.sign r), .slice d3 (Wh.limbs r.natAbs).length e3]]) (by unfold put22 at *; simp [results, Tryz.results236, go_sem, r0, r1, r2, r3]) rfl ⟨⟨_, _, rfl, by rw [HQ.out]; exact ⟨_, rfl, hS3⟩, by rw [HR.out]; exact ⟨_, rfl, hR3⟩⟩, hB3⟩
end Go.Proofs.YteggbenhffmijaaGreatDoor
