/- Part 14 of the proofs that laws of package whole answer true at every input and leave the input as it was, where the library's variables start as the text lays them (the texts G1, G2). -/
import Derived.Test.YteaeloeebfdodaaGreatDoorF12
import Derived.Test.YteaeloeebfdodaaGreatDoorF13
set_option linter.unusedVariables false
set_option linter.unusedSimpArgs false
/- WALKS, the divisor 3: the walk's memory, and look at numbers of one limb. -/
namespace Go.Proofs.YteaeloeebfdodaaGreatDoor
open Go.RowKit
/-- cell i of block b holds a number's limbs -/
def SlAt (w : World) (b i x : Nat) : Prop := ∃ a c, w.cell? ⟨b, i, none⟩ = some (.slice a (Wh.limbs x).length c) ∧ Sl w (.slice a (Wh.limbs x).length c) (Wh.limbs x)
theorem SlAt.mono {w w' : World} {b i x : Nat} (h : SlAt w b i x) (hb : Below w.heap.size w w') (hl : b < w.heap.size) : SlAt w' b i x := by
  obtain ⟨a, c, h0, h1⟩ := h
  exact ⟨a, c, (hb.cell (p := ⟨b, i, none⟩) hl).trans h0, h1.mono hb⟩
theorem SlAt.far {w : World} {b i x : Nat} (h : SlAt w b i x) {p : Addr} {u : Value} (hu : w.cell? p = some u) (hn : NoLimb u) (hne : p ≠ ⟨b, i, none⟩) (z : Value) : SlAt (w.setCell p z) b i x := by
  obtain ⟨a, c, h0, h1⟩ := h
  exact ⟨a, c, by rw [World.cell?_setCell_other _ _ _ _ hne]; exact h0, h1.store _ hu hn z⟩
theorem SlAt.put {w : World} {b i x : Nat} {u : Value} {a : Option Addr} {c : Nat} (hu : w.cell? ⟨b, i, none⟩ = some u) (hn : NoLimb u) (hs : Sl w (.slice a (Wh.limbs x).length c) (Wh.limbs x)) : SlAt (w.setCell ⟨b, i, none⟩ (.slice a (Wh.limbs x).length c)) b i x :=
  ⟨a, c, World.cell?_setCell_same _ _ _ hu, hs.store _ hu hn _⟩
/-- the walk's variable -/
structure WK (wr : World) (wb R N T A : Nat) (odd : Bool) : Prop where
  r : SlAt wr wb 0 R
  n : SlAt wr wb 1 N
  t : SlAt wr wb 2 T
  a : SlAt wr wb 3 A
  o : wr.cell? ⟨wb, 4, none⟩ = some (.bool odd)
  f : ∀ i, i < 5 → wr.frozen? ⟨wb, i, none⟩ = false
  lt : wb < wr.heap.size
theorem WK.mono {w w' : World} {wb R N T A : Nat} {odd : Bool} (h : WK w wb R N T A odd) (hb : Below w.heap.size w w') : WK w' wb R N T A odd :=
  ⟨h.r.mono hb h.lt, h.n.mono hb h.lt, h.t.mono hb h.lt, h.a.mono hb h.lt, (hb.cell (p := ⟨wb, 4, none⟩) h.lt).trans h.o, fun i hi => (hb.frozen (p := ⟨wb, i, none⟩) h.lt).trans (h.f i hi), Nat.lt_of_lt_of_le h.lt hb.size⟩
/-- the stride's variable -/
structure SM (wr : World) (b : Nat) (x y c d : Nat) (o : Bool) : Prop where
  c0 : wr.cell? ⟨b, 0, none⟩ = some (.int .i64 x)
  c1 : wr.cell? ⟨b, 1, none⟩ = some (.int .i64 y)
  c2 : wr.cell? ⟨b, 2, none⟩ = some (.int .i64 c)
  c3 : wr.cell? ⟨b, 3, none⟩ = some (.int .i64 d)
  c4 : wr.cell? ⟨b, 4, none⟩ = some (.bool o)
  f : ∀ i, i < 5 → wr.frozen? ⟨b, i, none⟩ = false
theorem SM.mono {w w' : World} {b x y c d : Nat} {o : Bool} (h : SM w b x y c d o) (hb : Below w.heap.size w w') (hl : b < w.heap.size) : SM w' b x y c d o :=
  ⟨(hb.cell (p := ⟨b, 0, none⟩) hl).trans h.c0, (hb.cell (p := ⟨b, 1, none⟩) hl).trans h.c1, (hb.cell (p := ⟨b, 2, none⟩) hl).trans h.c2, (hb.cell (p := ⟨b, 3, none⟩) hl).trans h.c3, (hb.cell (p := ⟨b, 4, none⟩) hl).trans h.c4, fun i hi => (hb.frozen (p := ⟨b, i, none⟩) hl).trans (h.f i hi)⟩
theorem SM.put {w : World} {b x y c d : Nat} {o : Bool} (h : SM w b x y c d o) (x' y' c' d' : Nat) (o' : Bool) : SM (((((w.setCell ⟨b, 0, none⟩ (.int .i64 (x' : Nat))).setCell ⟨b, 1, none⟩ (.int .i64 (y' : Nat))).setCell ⟨b, 2, none⟩ (.int .i64 (c' : Nat))).setCell ⟨b, 3, none⟩ (.int .i64 (d' : Nat))).setCell ⟨b, 4, none⟩ (.bool o')) b x' y' c' d' o' := by
  have e0 := h.c0; have e1 := h.c1; have e2 := h.c2; have e3 := h.c3; have e4 := h.c4
  refine ⟨?_, ?_, ?_, ?_, ?_, fun i hi => by simp only [World.frozen?_setCell]; exact h.f i hi⟩
  · rw [World.cell?_setCell_other _ _ _ _ (off_ne (by decide)), World.cell?_setCell_other _ _ _ _ (off_ne (by decide)), World.cell?_setCell_other _ _ _ _ (off_ne (by decide)), World.cell?_setCell_other _ _ _ _ (off_ne (by decide))]; exact World.cell?_setCell_same _ _ _ (u := .int .i64 x) (by exact e0)
  · rw [World.cell?_setCell_other _ _ _ _ (off_ne (by decide)), World.cell?_setCell_other _ _ _ _ (off_ne (by decide)), World.cell?_setCell_other _ _ _ _ (off_ne (by decide))]; exact World.cell?_setCell_same _ _ _ (u := .int .i64 y) (by rw [World.cell?_setCell_other _ _ _ _ (off_ne (by decide))]; exact e1)
  · rw [World.cell?_setCell_other _ _ _ _ (off_ne (by decide)), World.cell?_setCell_other _ _ _ _ (off_ne (by decide))]; exact World.cell?_setCell_same _ _ _ (u := .int .i64 c) (by rw [World.cell?_setCell_other _ _ _ _ (off_ne (by decide)), World.cell?_setCell_other _ _ _ _ (off_ne (by decide))]; exact e2)
  · rw [World.cell?_setCell_other _ _ _ _ (off_ne (by decide))]; exact World.cell?_setCell_same _ _ _ (u := .int .i64 d) (by rw [World.cell?_setCell_other _ _ _ _ (off_ne (by decide)), World.cell?_setCell_other _ _ _ _ (off_ne (by decide)), World.cell?_setCell_other _ _ _ _ (off_ne (by decide))]; exact e3)
  · exact World.cell?_setCell_same _ _ _ (u := .bool o) (by rw [World.cell?_setCell_other _ _ _ _ (off_ne (by decide)), World.cell?_setCell_other _ _ _ _ (off_ne (by decide)), World.cell?_setCell_other _ _ _ _ (off_ne (by decide)), World.cell?_setCell_other _ _ _ _ (off_ne (by decide))]; exact e4)
theorem SM.far {w : World} {b b' x y c d : Nat} {o : Bool} (h : SM w b x y c d o) (hne : b' ≠ b) (x' y' c' d' : Nat) (o' : Bool) : SM (((((w.setCell ⟨b', 0, none⟩ (.int .i64 (x' : Nat))).setCell ⟨b', 1, none⟩ (.int .i64 (y' : Nat))).setCell ⟨b', 2, none⟩ (.int .i64 (c' : Nat))).setCell ⟨b', 3, none⟩ (.int .i64 (d' : Nat))).setCell ⟨b', 4, none⟩ (.bool o')) b x y c d o := by
  have ne : ∀ i j, (⟨b', i, none⟩ : Addr) ≠ ⟨b, j, none⟩ := fun i j e => hne (congrArg Addr.block e)
  refine ⟨?_, ?_, ?_, ?_, ?_, fun i hi => by simp only [World.frozen?_setCell]; exact h.f i hi⟩
  · rw [World.cell?_setCell_other _ _ _ _ (ne _ _), World.cell?_setCell_other _ _ _ _ (ne _ _), World.cell?_setCell_other _ _ _ _ (ne _ _), World.cell?_setCell_other _ _ _ _ (ne _ _), World.cell?_setCell_other _ _ _ _ (ne _ _)]; exact h.c0
  · rw [World.cell?_setCell_other _ _ _ _ (ne _ _), World.cell?_setCell_other _ _ _ _ (ne _ _), World.cell?_setCell_other _ _ _ _ (ne _ _), World.cell?_setCell_other _ _ _ _ (ne _ _), World.cell?_setCell_other _ _ _ _ (ne _ _)]; exact h.c1
  · rw [World.cell?_setCell_other _ _ _ _ (ne _ _), World.cell?_setCell_other _ _ _ _ (ne _ _), World.cell?_setCell_other _ _ _ _ (ne _ _), World.cell?_setCell_other _ _ _ _ (ne _ _), World.cell?_setCell_other _ _ _ _ (ne _ _)]; exact h.c2
  · rw [World.cell?_setCell_other _ _ _ _ (ne _ _), World.cell?_setCell_other _ _ _ _ (ne _ _), World.cell?_setCell_other _ _ _ _ (ne _ _), World.cell?_setCell_other _ _ _ _ (ne _ _), World.cell?_setCell_other _ _ _ _ (ne _ _)]; exact h.c3
  · rw [World.cell?_setCell_other _ _ _ _ (ne _ _), World.cell?_setCell_other _ _ _ _ (ne _ _), World.cell?_setCell_other _ _ _ _ (ne _ _), World.cell?_setCell_other _ _ _ _ (ne _ _), World.cell?_setCell_other _ _ _ _ (ne _ _)]; exact h.c4
theorem below_put5 {w w' : World} {B b : Nat} (h : Below B w w') (hb : B ≤ b) (y0 y1 y2 y3 y4 : Value) : Below B w (((((w'.setCell ⟨b, 0, none⟩ (y0)).setCell ⟨b, 1, none⟩ (y1)).setCell ⟨b, 2, none⟩ (y2)).setCell ⟨b, 3, none⟩ (y3)).setCell ⟨b, 4, none⟩ (y4)) := ((((h.setCell hb _).setCell hb _).setCell hb _).setCell hb _).setCell hb _
end Go.Proofs.YteaeloeebfdodaaGreatDoor

/- WALKS, the divisor 4: a step of Euclid's algorithm, by one limb. -/
namespace Go.Proofs.YteaeloeebfdodaaGreatDoor
open Go.RowKit
/-- a slice that is a number's limbs -/
def SlV (w : World) (v : Value) (x : Nat) : Prop := ∃ a c, v = .slice a (Wh.limbs x).length c ∧ Sl w (.slice a (Wh.limbs x).length c) (Wh.limbs x)
theorem SlV.mono {w w' : World} {v : Value} {x : Nat} (h : SlV w v x) (hb : Below w.heap.size w w') : SlV w' v x := by
  obtain ⟨a, c, e, h⟩ := h; exact ⟨a, c, e, h.mono hb⟩
theorem SlV.of {w : World} {v : Value} {x : Nat} (h : Sl w v (Wh.limbs x)) : SlV w v x := by
  obtain ⟨a, c, rfl⟩ := h.len; exact ⟨a, c, rfl, h⟩
theorem multiply_sl (w : World) (v1 v2 : Value) (a b : Nat) (h1 : SlV w v1 a) (h2 : SlV w v2 b) (hm : (Wh.limbs a).length + (Wh.limbs b).length ≤ 100000) (hmin : (Wh.limbs a).length < 32 ∨ (Wh.limbs b).length < 32) :
    Calls Tryz.prog 189 #[.slice none 0 0, v1, v2] w fun e w' => (∃ v', e = .returned v' ∧ SlV w' v' (a * b)) ∧ Below w.heap.size w w' := by
  obtain ⟨a1, c1, rfl, h1⟩ := h1
  obtain ⟨a2, c2, rfl, h2⟩ := h2
  refine (multiply_new w _ _ a b h1 h2 hm hmin).mono ?_
  rintro e w' ⟨⟨v', rfl, h, _⟩, hb⟩
  exact ⟨⟨v', rfl, SlV.of h⟩, hb⟩
theorem add_sl (w : World) (v1 v2 : Value) (a b : Nat) (h1 : SlV w v1 a) (h2 : SlV w v2 b) (hm : (Wh.limbs a).length ≤ 5000) (hm2 : (Wh.limbs b).length ≤ 5000) :
    Calls Tryz.prog 269 #[v1, v2] w fun e w' => (∃ v', e = .returned v' ∧ SlV w' v' (a + b)) ∧ Below w.heap.size w w' := by
  obtain ⟨a1, c1, rfl, h1⟩ := h1
  obtain ⟨a2, c2, rfl, h2⟩ := h2
  refine (addLimbs_any w _ _ a b h1 h2 hm hm2).mono ?_
  rintro e w' ⟨⟨v', rfl, _, h⟩, hb⟩
  exact ⟨⟨v', rfl, SlV.of h⟩, hb⟩
theorem blend_sl (w : World) (v1 v2 : Value) (a b : Nat) (x y : Int) (z : Nat) (h1 : SlV w v1 a) (h2 : SlV w v2 b) (hl1 : (Wh.limbs a).length ≤ 5000) (hl2 : (Wh.limbs b).length ≤ 5000)
    (hx : -1000000000 < x ∧ x < 1000000000) (hy : -1000000000 < y ∧ y < 1000000000) (hz : x * a + y * b = (z : Int)) :
    Calls Tryz.prog 306 #[v1, v2, .int .i64 x, .int .i64 y] w fun e w' => (∃ v', e = .returned v' ∧ SlV w' v' z) ∧ Below w.heap.size w w' := by
  obtain ⟨a1, c1, rfl, h1⟩ := h1
  obtain ⟨a2, c2, rfl, h2⟩ := h2
  have hv : x * (Wh.val (Wh.limbs a) : Nat) + y * (Wh.val (Wh.limbs b) : Nat) = (z : Int) := by rw [Wh.val_limbs, Wh.val_limbs]; exact hz
  refine (blend_any w _ _ _ _ x y h1 h2 (Wh.ok_limbs a) (Wh.ok_limbs b) hl1 hl2 hx hy (by rw [hv]; omega)).mono ?_
  rintro e w' ⟨⟨p, m, c, rfl, _, h⟩, hb⟩
  rw [hv, Int.natAbs_natCast] at h
  exact ⟨⟨_, rfl, SlV.of h⟩, hb⟩
theorem SlAt.see {w w' : World} {b i x : Nat} (h : SlAt w b i x) (hl : b < w.heap.size) (hb : Below w.heap.size w w') : ∃ v, w'.cell? ⟨b, i, none⟩ = some v ∧ SlV w' v x := by
  obtain ⟨a, c, h0, h1⟩ := h.mono hb hl; exact ⟨_, h0, a, c, rfl, h1⟩
def ST (wb R N : Nat) : Nat → Value → World → Prop
  | 0, v, _ | 1, v, _ | 2, v, _ | 4, v, _ | 5, v, _ => v = .pointer (some ⟨wb, 0, none⟩)
  | 3, v, w => SlV w v R
  | 6, v, _ => v = .pointer (some ⟨wb, 1, none⟩)
  | 7, v, w => SlV w v N
  | 8, v, w | 9, v, w => ∃ vq vr, v = .tuple #[vq, vr] ∧ SlV w vq (R / N) ∧ SlV w vr (R % N)
  | 10, v, w | 12, v, w => SlV w v (R / N)
  | 11, v, w | 13, v, w => SlV w v (R % N)
  | _, _, _ => True
theorem ST_stays (wb R N : Nat) : ∀ i v w w', ST wb R N i v w → Below w.heap.size w w' → ST wb R N i v w' := by
  intro i v w w' h hb
  match i, h with
  | 0, h | 1, h | 2, h | 4, h | 5, h | 6, h => exact h
  | 3, h | 7, h | 10, h | 11, h | 12, h | 13, h => exact SlV.mono h hb
  | 8, h | 9, h => obtain ⟨p, q, e, h1, h2⟩ := h; exact ⟨p, q, e, h1.mono hb, h2.mono hb⟩
  | _ + 14, h => trivial
def SU (wb Q T A : Nat) : Nat → Value → World → Prop
  | 0, v, _ | 1, v, _ | 2, v, _ | 3, v, _ | 6, v, _ | 7, v, _ | 11, v, _ | 12, v, _ | 17, v, _ | 20, v, _ => v = .pointer (some ⟨wb, 0, none⟩)
  | 4, v, _ | 13, v, _ | 21, v, _ => v = .pointer (some ⟨wb, 3, none⟩)
  | 8, v, _ | 18, v, _ => v = .pointer (some ⟨wb, 2, none⟩)
  | 5, v, w | 14, v, w => SlV w v A
  | 9, v, w => SlV w v T
  | 10, v, w => SlV w v Q
  | 15, v, w => SlV w v (Q * A)
  | 16, v, w => SlV w v (T + Q * A)
  | _, _, _ => True
theorem SU_stays (wb Q T A : Nat) : ∀ i v w w', SU wb Q T A i v w → Below w.heap.size w w' → SU wb Q T A i v w' := by
  intro i v w w' h hb
  match i, h with
  | 0, h | 1, h | 2, h | 3, h | 6, h | 7, h | 11, h | 12, h | 17, h | 20, h | 4, h | 13, h | 21, h | 8, h | 18, h => exact h
  | 5, h | 14, h | 9, h | 10, h | 15, h | 16, h => exact SlV.mono h hb
  | 19, h | 22, h | _ + 23, h => trivial

theorem WK.set0 {w : World} {wb R N T A x : Nat} {odd : Bool} {a : Option Addr} {c : Nat} (h : WK w wb R N T A odd) (hs : Sl w (.slice a (Wh.limbs x).length c) (Wh.limbs x)) : WK (w.setCell ⟨wb, 0, none⟩ (.slice a (Wh.limbs x).length c)) wb x N T A odd := by
  obtain ⟨ea, ec, e, _⟩ := h.r
  exact ⟨SlAt.put e (nl_slice _ _ _) hs, h.n.far e (nl_slice _ _ _) (off_ne (by decide)) _, h.t.far e (nl_slice _ _ _) (off_ne (by decide)) _, h.a.far e (nl_slice _ _ _) (off_ne (by decide)) _, by rw [World.cell?_setCell_other _ _ _ _ (off_ne (by decide))]; exact h.o, fun i hi => by rw [World.frozen?_setCell]; exact h.f i hi, by simpa using h.lt⟩
theorem WK.set1 {w : World} {wb R N T A x : Nat} {odd : Bool} {a : Option Addr} {c : Nat} (h : WK w wb R N T A odd) (hs : Sl w (.slice a (Wh.limbs x).length c) (Wh.limbs x)) : WK (w.setCell ⟨wb, 1, none⟩ (.slice a (Wh.limbs x).length c)) wb R x T A odd := by
  obtain ⟨ea, ec, e, _⟩ := h.n
  exact ⟨h.r.far e (nl_slice _ _ _) (off_ne (by decide)) _, SlAt.put e (nl_slice _ _ _) hs, h.t.far e (nl_slice _ _ _) (off_ne (by decide)) _, h.a.far e (nl_slice _ _ _) (off_ne (by decide)) _, by rw [World.cell?_setCell_other _ _ _ _ (off_ne (by decide))]; exact h.o, fun i hi => by rw [World.frozen?_setCell]; exact h.f i hi, by simpa using h.lt⟩
theorem WK.set2 {w : World} {wb R N T A x : Nat} {odd : Bool} {a : Option Addr} {c : Nat} (h : WK w wb R N T A odd) (hs : Sl w (.slice a (Wh.limbs x).length c) (Wh.limbs x)) : WK (w.setCell ⟨wb, 2, none⟩ (.slice a (Wh.limbs x).length c)) wb R N x A odd := by
  obtain ⟨ea, ec, e, _⟩ := h.t
  exact ⟨h.r.far e (nl_slice _ _ _) (off_ne (by decide)) _, h.n.far e (nl_slice _ _ _) (off_ne (by decide)) _, SlAt.put e (nl_slice _ _ _) hs, h.a.far e (nl_slice _ _ _) (off_ne (by decide)) _, by rw [World.cell?_setCell_other _ _ _ _ (off_ne (by decide))]; exact h.o, fun i hi => by rw [World.frozen?_setCell]; exact h.f i hi, by simpa using h.lt⟩
theorem WK.set3 {w : World} {wb R N T A x : Nat} {odd : Bool} {a : Option Addr} {c : Nat} (h : WK w wb R N T A odd) (hs : Sl w (.slice a (Wh.limbs x).length c) (Wh.limbs x)) : WK (w.setCell ⟨wb, 3, none⟩ (.slice a (Wh.limbs x).length c)) wb R N T x odd := by
  obtain ⟨ea, ec, e, _⟩ := h.a
  exact ⟨h.r.far e (nl_slice _ _ _) (off_ne (by decide)) _, h.n.far e (nl_slice _ _ _) (off_ne (by decide)) _, h.t.far e (nl_slice _ _ _) (off_ne (by decide)) _, SlAt.put e (nl_slice _ _ _) hs, by rw [World.cell?_setCell_other _ _ _ _ (off_ne (by decide))]; exact h.o, fun i hi => by rw [World.frozen?_setCell]; exact h.f i hi, by simpa using h.lt⟩
theorem nl_bool (b : Bool) : NoLimb (.bool b) := by intro n e; cases e
theorem WK.set4 {w : World} {wb R N T A : Nat} {odd : Bool} (h : WK w wb R N T A odd) (o : Bool) : WK (w.setCell ⟨wb, 4, none⟩ (.bool o)) wb R N T A o :=
  ⟨h.r.far h.o (nl_bool _) (off_ne (by decide)) _, h.n.far h.o (nl_bool _) (off_ne (by decide)) _, h.t.far h.o (nl_bool _) (off_ne (by decide)) _, h.a.far h.o (nl_bool _) (off_ne (by decide)) _, World.cell?_setCell_same _ _ _ h.o, fun i hi => by rw [World.frozen?_setCell]; exact h.f i hi, by simpa using h.lt⟩
end Go.Proofs.YteaeloeebfdodaaGreatDoor
