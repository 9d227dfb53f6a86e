/- Part 14 of the proofs that laws of package whole answer true at every input and leave the input as it was, where the library's variables start as the text lays them (the texts G1, G2). -/
import Derived.Test.YteggbenhffmijaaGreatDoorZ12
import Derived.Test.YteggbenhffmijaaGreatDoorZ13
set_option linter.unusedVariables false
set_option linter.unusedSimpArgs false
/- WALKS, the divisor 3: the walk's memory, and look at numbers of one limb. -/
namespace Go.Proofs.YteggbenhffmijaaGreatDoor
open Go.RowKit
/-- cell i of block b holds a number's limbs -/
def SlAt (w : World) (b i x : Nat) : Prop := ∃ a c, w.cell? ⟨b, i, none⟩ = some (.slice a (Wh.limbs x).length c) ∧ Sl w (.slice a (Wh.limbs x).length c) (Wh.limbs x)
theorem SlAt.mono {w w' : World} {b i x : Nat} (h : SlAt w b i x) (hb : Below w.heap.size w w') (hl : b < w.heap.size) : SlAt w' b i x := by
  obtain ⟨a, c, h0, h1⟩ := h
  exact ⟨a, c, (hb.cell (p := ⟨b, i, none⟩) hl).trans h0, h1.mono hb⟩
theorem SlAt.far {w : World} {b i x : Nat} (h : SlAt w b i x) {p : Addr} {u : Value} (hu : w.cell? p = some u) (hn : NoLimb u) (hne : p ≠ ⟨b, i, none⟩) (z : Value) : SlAt (w.setCell p z) b i x := by
  obtain ⟨a, c, h0, h1⟩ := h
  exact ⟨a, c, by rw [World.cell?_setCell_other _ _ _ _ hne]; exact h0, h1.store _ hu hn z⟩
theorem SlAt.put {w : World} {b i x : Nat} {u : Value} {a : Option Addr} {c : Nat} (hu : w.cell? ⟨b, i, none⟩ = some u) (hn : NoLimb u) (hs : Sl w (.slice a (Wh.limbs x).length c) (Wh.limbs x)) : SlAt (w.setCell ⟨b, i, none⟩ (.slice a (Wh.limbs x).length c)) b i x :=
  ⟨a, c, World.cell?_setCell_same _ _ _ hu, hs.store _ hu hn _⟩
/-- the walk's variable -/
structure WK (wr : World) (wb R N T A : Nat) (odd : Bool) : Prop where
  r : SlAt wr wb 0 R
  n : SlAt wr wb 1 N
  t : SlAt wr wb 2 T
  a : SlAt wr wb 3 A
  o : wr.cell? ⟨wb, 4, none⟩ = some (.bool odd)
  f : ∀ i, i < 5 → wr.frozen? ⟨wb, i, none⟩ = false
  lt : wb < wr.heap.size
theorem WK.mono {w w' : World} {wb R N T A : Nat} {odd : Bool} (h : WK w wb R N T A odd) (hb : Below w.heap.size w w') : WK w' wb R N T A odd :=
  ⟨h.r.mono hb h.lt, h.n.mono hb h.lt, h.t.mono hb h.lt, h.a.mono hb h.lt, (hb.cell (p := ⟨wb, 4, none⟩) h.lt).trans h.o, fun i hi => (hb.frozen (p := ⟨wb, i, none⟩) h.lt).trans (h.f i hi), Nat.lt_of_lt_of_le h.lt hb.size⟩
/-- the stride's variable -/
structure SM (wr : World) (b : Nat) (x y c d : Nat) (o : Bool) : Prop where
  c0 : wr.cell? ⟨b, 0, none⟩ = some (.int .i64 x)
  c1 : wr.cell? ⟨b, 1, none⟩ = some (.int .i64 y)
  c2 : wr.cell? ⟨b, 2, none⟩ = some (.int .i64 c)
  c3 : wr.cell? ⟨b, 3, none⟩ = some (.int .i64 d)
  c4 : wr.cell? ⟨b, 4, none⟩ = some (.bool o)
  f : ∀ i, i < 5 → wr.frozen? ⟨b, i, none⟩ = false
theorem SM.mono {w w' : World} {b x y c d : Nat} {o : Bool} (h : SM w b x y c d o) (hb : Below w.heap.size w w') (hl : b < w.heap.size) : SM w' b x y c d o :=
  ⟨(hb.cell (p := ⟨b, 0, none⟩) hl).trans h.c0, (hb.cell (p := ⟨b, 1, none⟩) hl).trans h.c1, (hb.cell (p := ⟨b, 2, none⟩) hl).trans h.c2, (hb.cell (p := ⟨b, 3, none⟩) hl).trans h.c3, (hb.cell (p := ⟨b, 4, none⟩) hl).trans h.c4, fun i hi => (hb.frozen (p := ⟨b, i, none⟩) hl).trans (h.f i hi)⟩
theorem wrap_lin {a q c : Nat} (h : a + q * c < 1000000000) : wrap64 ((a : Int) + wrap64 ((q : Int) * (c : Int))) = ((a + q * c : Nat) : Int) := by
  have h2 : (q : Int) * (c : Int) = ((q * c : Nat) : Int) := by simp
  rw [h2]
  generalize q * c = m at *
  rw [w64 (m : Int) (by omega) (by omega), w64 _ (by omega) (by omega)]
  simp
theorem not_big {x : Nat} (h : x < 1000000000) : decide (1000000000 ≤ (x : Int)) = false := by rw [decide_eq_false_iff_not]; omega
theorem SM.put {w : World} {b x y c d : Nat} {o : Bool} (h : SM w b x y c d o) (x' y' c' d' : Nat) (o' : Bool) : SM (((((w.setCell ⟨b, 0, none⟩ (.int .i64 (x' : Nat))).setCell ⟨b, 1, none⟩ (.int .i64 (y' : Nat))).setCell ⟨b, 2, none⟩ (.int .i64 (c' : Nat))).setCell ⟨b, 3, none⟩ (.int .i64 (d' : Nat))).setCell ⟨b, 4, none⟩ (.bool o')) b x' y' c' d' o' := by
  have e0 := h.c0; have e1 := h.c1; have e2 := h.c2; have e3 := h.c3; have e4 := h.c4
  refine ⟨?_, ?_, ?_, ?_, ?_, fun i hi => by simp only [World.frozen?_setCell]; exact h.f i hi⟩
  · rw [World.cell?_setCell_other _ _ _ _ (off_ne (by decide)), World.cell?_setCell_other _ _ _ _ (off_ne (by decide)), World.cell?_setCell_other _ _ _ _ (off_ne (by decide)), World.cell?_setCell_other _ _ _ _ (off_ne (by decide))]; exact World.cell?_setCell_same _ _ _ (u := .int .i64 x) (by exact e0)
  · rw [World.cell?_setCell_other _ _ _ _ (off_ne (by decide)), World.cell?_setCell_other _ _ _ _ (off_ne (by decide)), World.cell?_setCell_other _ _ _ _ (off_ne (by decide))]; exact World.cell?_setCell_same _ _ _ (u := .int .i64 y) (by rw [World.cell?_setCell_other _ _ _ _ (off_ne (by decide))]; exact e1)
  · rw [World.cell?_setCell_other _ _ _ _ (off_ne (by decide)), World.cell?_setCell_other _ _ _ _ (off_ne (by decide))]; exact World.cell?_setCell_same _ _ _ (u := .int .i64 c) (by rw [World.cell?_setCell_other _ _ _ _ (off_ne (by decide)), World.cell?_setCell_other _ _ _ _ (off_ne (by decide))]; exact e2)
  · rw [World.cell?_setCell_other _ _ _ _ (off_ne (by decide))]; exact World.cell?_setCell_same _ _ _ (u := .int .i64 d) (by rw [World.cell?_setCell_other _ _ _ _ (off_ne (by decide)), World.cell?_setCell_other _ _ _ _ (off_ne (by decide)), World.cell?_setCell_other _ _ _ _ (off_ne (by decide))]; exact e3)
  · exact World.cell?_setCell_same _ _ _ (u := .bool o) (by rw [World.cell?_setCell_other _ _ _ _ (off_ne (by decide)), World.cell?_setCell_other _ _ _ _ (off_ne (by decide)), World.cell?_setCell_other _ _ _ _ (off_ne (by decide)), World.cell?_setCell_other _ _ _ _ (off_ne (by decide))]; exact e4)
theorem SM.far {w : World} {b b' x y c d : Nat} {o : Bool} (h : SM w b x y c d o) (hne : b' ≠ b) (x' y' c' d' : Nat) (o' : Bool) : SM (((((w.setCell ⟨b', 0, none⟩ (.int .i64 (x' : Nat))).setCell ⟨b', 1, none⟩ (.int .i64 (y' : Nat))).setCell ⟨b', 2, none⟩ (.int .i64 (c' : Nat))).setCell ⟨b', 3, none⟩ (.int .i64 (d' : Nat))).setCell ⟨b', 4, none⟩ (.bool o')) b x y c d o := by
  have ne : ∀ i j, (⟨b', i, none⟩ : Addr) ≠ ⟨b, j, none⟩ := fun i j e => hne (congrArg Addr.block e)
  refine ⟨?_, ?_, ?_, ?_, ?_, fun i hi => by simp only [World.frozen?_setCell]; exact h.f i hi⟩
  · rw [World.cell?_setCell_other _ _ _ _ (ne _ _), World.cell?_setCell_other _ _ _ _ (ne _ _), World.cell?_setCell_other _ _ _ _ (ne _ _), World.cell?_setCell_other _ _ _ _ (ne _ _), World.cell?_setCell_other _ _ _ _ (ne _ _)]; exact h.c0
  · rw [World.cell?_setCell_other _ _ _ _ (ne _ _), World.cell?_setCell_other _ _ _ _ (ne _ _), World.cell?_setCell_other _ _ _ _ (ne _ _), World.cell?_setCell_other _ _ _ _ (ne _ _), World.cell?_setCell_other _ _ _ _ (ne _ _)]; exact h.c1
  · rw [World.cell?_setCell_other _ _ _ _ (ne _ _), World.cell?_setCell_other _ _ _ _ (ne _ _), World.cell?_setCell_other _ _ _ _ (ne _ _), World.cell?_setCell_other _ _ _ _ (ne _ _), World.cell?_setCell_other _ _ _ _ (ne _ _)]; exact h.c2
  · rw [World.cell?_setCell_other _ _ _ _ (ne _ _), World.cell?_setCell_other _ _ _ _ (ne _ _), World.cell?_setCell_other _ _ _ _ (ne _ _), World.cell?_setCell_other _ _ _ _ (ne _ _), World.cell?_setCell_other _ _ _ _ (ne _ _)]; exact h.c3
  · rw [World.cell?_setCell_other _ _ _ _ (ne _ _), World.cell?_setCell_other _ _ _ _ (ne _ _), World.cell?_setCell_other _ _ _ _ (ne _ _), World.cell?_setCell_other _ _ _ _ (ne _ _), World.cell?_setCell_other _ _ _ _ (ne _ _)]; exact h.c4
theorem below_put5 {w w' : World} {B b : Nat} (h : Below B w w') (hb : B ≤ b) (y0 y1 y2 y3 y4 : Value) : Below B w (((((w'.setCell ⟨b, 0, none⟩ (y0)).setCell ⟨b, 1, none⟩ (y1)).setCell ⟨b, 2, none⟩ (y2)).setCell ⟨b, 3, none⟩ (y3)).setCell ⟨b, 4, none⟩ (y4)) := ((((h.setCell hb _).setCell hb _).setCell hb _).setCell hb _).setCell hb _
set_option maxRecDepth 100000 in
set_option maxHeartbeats 1000000 in
theorem look_short (w : World) (wb R N : Nat) (hr : SlAt w wb 0 R) (hn : SlAt w wb 1 N) (hlt : wb < w.heap.size) (hR : R < 1000000000) (hN : N < 1000000000)
    (S : Nat → Nat → Nat → Nat → Nat → Nat → Bool → Prop) (h0 : S R N 1 0 0 1 false) (hb : ∀ h l a b c d o, S h l a b c d o → (h < 1000000000 ∧ l < 1000000000) ∧ (a < 1000000000 ∧ b < 1000000000) ∧ c < 1000000000 ∧ d < 1000000000)
    (hs : ∀ h l a b c d o, S h l a b c d o → 0 < l → l ≤ h → (a + h / l * c < 1000000000 ∧ b + h / l * d < 1000000000) ∧ S l (h % l) c d (a + h / l * c) (b + h / l * d) (!o)) :
    Calls Tryz.prog 279 #[.pointer (some ⟨wb, 0, none⟩)] w fun e w' => (∃ h l a b c d o, S h l a b c d o ∧ ¬ (0 < l ∧ l ≤ h) ∧ e = .returned (.agg #[.int .i64 (a : Nat), .int .i64 (b : Nat), .int .i64 (c : Nat), .int .i64 (d : Nat), .bool o])) ∧ Below w.heap.size w w' := by
  obtain ⟨ra, rc, r0, rs⟩ := hr
  obtain ⟨na, nc, n0, ns⟩ := hn
  have hlr : (Wh.limbs R).length ≤ 1 := Wh.limbs_length_le (k := 1) (by rw [Wh.R_one]; exact hR)
  have hln : (Wh.limbs N).length ≤ 1 := Wh.limbs_length_le (k := 1) (by rw [Wh.R_one]; exact hN)
  have HR1 := Lib.hid (fun (w' : World) (hb : Below w.heap.size w w') => highest_any w' _ _ (rs.mono hb) (Wh.ok_limbs R) (by omega))
  have HN1 := Lib.hid (fun (w' : World) (hb : Below w.heap.size w w') => highest_any w' _ _ (ns.mono hb) (Wh.ok_limbs N) (by omega))
  rw [Wh.val_limbs] at HR1 HN1
  clear rs ns
  have H0 := Lib.hid h0; have HB := Lib.hid hb; have HS := Lib.hid hs; clear h0 hb hs
  generalize (Wh.limbs R).length = lr at *
  generalize (Wh.limbs N).length = ln at *
  go_enter Tryz.func279, Tryz.ntmps279
  go_wp2_with fail
  have hal : Below w.heap.size w (w.alloc (Obj.cells #[.int .i64 0, .int .i64 0, .int .i64 0, .int .i64 0, .bool false] 277)) := (Below.refl _ _).alloc (Nat.le_refl _) _
  have k0 := (hal.cell (p := ⟨wb, 0, none⟩) hlt).trans r0
  have k1 := (hal.cell (p := ⟨wb, 1, none⟩) hlt).trans n0
  have HT : Hid (SM (w.alloc (Obj.cells #[.int .i64 0, .int .i64 0, .int .i64 0, .int .i64 0, .bool false] 277)) w.heap.size 0 0 0 0 false) := Lib.hid ⟨by go_simp, by go_simp, by go_simp, by go_simp, by go_simp, fun i hi => by rcases (by omega : i = 0 ∨ i = 1 ∨ i = 2 ∨ i = 3 ∨ i = 4) with rfl | rfl | rfl | rfl | rfl <;> go_simp⟩
  have hsz : (w.alloc (Obj.cells #[.int .i64 0, .int .i64 0, .int .i64 0, .int .i64 0, .bool false] 277)).heap.size = w.heap.size + 1 := by simp
  have HAL := Lib.hid hal
  clear hal r0 n0
  generalize (w.alloc (Obj.cells #[.int .i64 0, .int .i64 0, .int .i64 0, .int .i64 0, .bool false] 277)) = V at *
  go_quiet (fail)
  go_wp2_with fail
  have hdw := below_drewN V.heap.size V nq
  have hwV : wb < V.heap.size := by omega
  have k0 := (hdw.cell (p := ⟨wb, 0, none⟩) hwV).trans k0
  have k1 := (hdw.cell (p := ⟨wb, 1, none⟩) hwV).trans k1
  have HT2 := Lib.hid (HT.out.mono hdw (by omega))
  have HAL2 := Lib.hid (HAL.out.trans (hdw.mono HAL.out.size))
  have hsz2 : (V.drewN nq).heap.size = w.heap.size + 1 := by rw [World.heap_drewN]; exact hsz
  clear hdw HT HAL hwV hsz
  generalize V.drewN nq = V2 at *
  have HR2 := Lib.hid (fun n : Nat => (HR1.out (V2.drewN n) (HAL2.out.trans (below_drewN _ _ _))).mono (fun e w' (h : e = _ ∧ _ = w') => (⟨h.1, 0, by rw [World.drewN_zero]; exact h.2.symm⟩ : e = _ ∧ ∃ m, w' = (V2.drewN n).drewN m)))
  have HN2 := Lib.hid (fun n : Nat => (HN1.out (V2.drewN n) (HAL2.out.trans (below_drewN _ _ _))).mono (fun e w' (h : e = _ ∧ _ = w') => (⟨h.1, 0, by rw [World.drewN_zero]; exact h.2.symm⟩ : e = _ ∧ ∃ m, w' = (V2.drewN n).drewN m)))
  go_quiet ((go_at_call 319; with_reducible first | exact Calls.quiet_of (HR2.out _) | exact Calls.quiet_of (HN2.out _)))
  go_wp2_with fail
  have hz3 : (V2.drewN nq).heap.size = w.heap.size + 1 := by rw [World.heap_drewN, hsz2]
  have hal3 : Below (V2.drewN nq).heap.size (V2.drewN nq) ((V2.drewN nq).alloc (Obj.cells #[.int .i64 1, .int .i64 0, .int .i64 0, .int .i64 1, .bool false] 277)) := (Below.refl _ _).alloc (Nat.le_refl _) _
  have hdw3 := below_drewN V2.heap.size V2 nq
  have hT3 := (HT2.out.mono hdw3 (by omega)).mono hal3 (by omega)
  have hB3 := (HAL2.out.trans (hdw3.mono HAL2.out.size)).trans (hal3.mono (by omega))
  have hS3 : SM ((V2.drewN nq).alloc (Obj.cells #[.int .i64 1, .int .i64 0, .int .i64 0, .int .i64 1, .bool false] 277)) (w.heap.size + 1) 1 0 0 1 false := by
    rw [← hz3]
    exact ⟨by go_simp, by go_simp, by go_simp, by go_simp, by go_simp, fun i hi => by rcases (by omega : i = 0 ∨ i = 1 ∨ i = 2 ∨ i = 3 ∨ i = 4) with rfl | rfl | rfl | rfl | rfl <;> go_simp⟩
  have hz4 : ((V2.drewN nq).alloc (Obj.cells #[.int .i64 1, .int .i64 0, .int .i64 0, .int .i64 1, .bool false] 277)).heap.size = w.heap.size + 2 := by simp [hsz2]
  have HM := Lib.hid (And.intro hS3 (And.intro hT3 (And.intro hB3 (by omega : w.heap.size + 1 < ((V2.drewN nq).alloc (Obj.cells #[.int .i64 1, .int .i64 0, .int .i64 0, .int .i64 1, .bool false] 277)).heap.size))))
  clear hz3 hal3 hdw3 hT3 hB3 hS3 hz4 hsz2 HT2 HAL2 HR2 HN2 HR1 HN1 k0 k1
  generalize ((V2.drewN nq).alloc (Obj.cells #[.int .i64 1, .int .i64 0, .int .i64 0, .int .i64 1, .bool false] 277)) = V4 at *
  go_loopw [5, 6] (fun v5 v6 wr => ∃ (h l a b c d : Nat) (o : Bool), v5 = .int .i64 h ∧ v6 = .int .i64 l ∧ Hid (S h l a b c d o) ∧ Hid (SM wr (w.heap.size + 1) a b c d o ∧ SM wr w.heap.size 0 0 0 0 false ∧ Below w.heap.size w wr ∧ w.heap.size + 1 < wr.heap.size)) (fun _ v6 _ => (intOf v6).toNat)
  case atStart => exact ⟨R, N, 1, 0, 0, 1, false, rfl, rfl, H0, HM⟩
  case round =>
    clear HM H0
    obtain ⟨h, l, a, b, c, d, o, rfl, rfl, HSS, HM⟩ := hrel
    by_cases hc : 0 < l ∧ l ≤ h
    · obtain ⟨hc1, hc2⟩ := hc
      have g1 : decide (0 < (l : Int)) = true := by simp; omega
      have g2 : decide ((l : Int) ≤ (h : Int)) = true := by simp; omega
      have gz : ((l : Int) == 0) = false := by rw [beq_eq_false_iff_ne]; omega
      obtain ⟨⟨s1, s2⟩, hnext⟩ := HS.out h l a b c d o HSS.out hc1 hc2
      obtain ⟨⟨bh, bl⟩, ⟨ba, bb⟩, bc, bd⟩ := HB.out _ _ _ _ _ _ _ HSS.out
      have HN := Lib.hid hnext; clear hnext
      obtain ⟨q, hq⟩ : ∃ q, q = h / l := ⟨_, rfl⟩
      obtain ⟨r, hr⟩ : ∃ r, r = h % l := ⟨_, rfl⟩
      have hrl : r < l := by rw [hr]; exact Nat.mod_lt _ hc1
      rw [← hq] at s1 s2
      rw [← hq, ← hr] at HN
      have hqi : (h : Int) / (l : Int) = (q : Int) := by rw [hq]; exact (Int.natCast_ediv _ _).symm
      have hri : (h : Int) % (l : Int) = (r : Int) := by rw [hr]; exact (Int.natCast_emod _ _).symm
      have c0 := HM.out.1.c0; have c1 := HM.out.1.c1; have c2 := HM.out.1.c2; have c3 := HM.out.1.c3; have c4 := HM.out.1.c4
      have hqb : q < 1000000000 := Nat.lt_of_le_of_lt (by rw [hq]; exact Nat.div_le_self _ _) bh
      clear hq hr
      clear c0 c1 c2 c3 c4
      go_wp2_with fail
      go_quiet (fail)
      go_wp2_with fail
      rw [hri]
      have hdx := below_drewN wr.heap.size wr nq
      have HMX : Hid (SM (wr.drewN nq) (w.heap.size + 1) a b c d o ∧ SM (wr.drewN nq) w.heap.size 0 0 0 0 false ∧ Below w.heap.size w (wr.drewN nq) ∧ w.heap.size + 1 < (wr.drewN nq).heap.size) := Lib.hid ⟨HM.out.1.mono hdx HM.out.2.2.2, HM.out.2.1.mono hdx (by have := HM.out.2.2.2; omega), HM.out.2.2.1.trans (hdx.mono HM.out.2.2.1.size), Nat.lt_of_lt_of_le HM.out.2.2.2 hdx.size⟩
      clear hdx HM
      generalize wr.drewN nq = X at *
      have c0 := HMX.out.1.c0; have c1 := HMX.out.1.c1; have c2 := HMX.out.1.c2; have c3 := HMX.out.1.c3; have c4 := HMX.out.1.c4
      have HBD := Lib.hid (And.intro (And.intro (And.intro s1 s2) (And.intro hqb hrl)) (And.intro (And.intro bh bl) (And.intro (And.intro ba bb) (And.intro bc bd))))
      clear hqi hri g1 g2 gz s1 s2 bh bl ba bb bc bd hqb hrl hc1 hc2
      go_quiet (fail)
      obtain ⟨x', hx'⟩ : ∃ x', x' = a + q * c := ⟨_, rfl⟩
      obtain ⟨y', hy'⟩ : ∃ y', y' = b + q * d := ⟨_, rfl⟩
      have hw1 : wrap64 ((a : Int) + wrap64 ((q : Int) * (c : Int))) = (x' : Int) := by rw [hx']; exact wrap_lin HBD.out.1.1.1
      have hw2 : wrap64 ((b : Int) + wrap64 ((q : Int) * (d : Int))) = (y' : Int) := by rw [hy']; exact wrap_lin HBD.out.1.1.2
      rw [hw1, hw2]
      have g3 : decide (1000000000 ≤ (x' : Int)) = false := not_big (by rw [hx']; exact HBD.out.1.1.1)
      have g4 : decide (1000000000 ≤ (y' : Int)) = false := not_big (by rw [hy']; exact HBD.out.1.1.2)
      rw [← hx', ← hy'] at HN
      clear hx' hy' hw1 hw2 c0 c1 c2 c3 c4
      have hdy := below_drewN X.heap.size X nq
      have HMY : Hid (SM (X.drewN nq) (w.heap.size + 1) a b c d o ∧ SM (X.drewN nq) w.heap.size 0 0 0 0 false ∧ Below w.heap.size w (X.drewN nq) ∧ w.heap.size + 1 < (X.drewN nq).heap.size) := Lib.hid ⟨HMX.out.1.mono hdy HMX.out.2.2.2, HMX.out.2.1.mono hdy (by have := HMX.out.2.2.2; omega), HMX.out.2.2.1.trans (hdy.mono HMX.out.2.2.1.size), Nat.lt_of_lt_of_le HMX.out.2.2.2 hdy.size⟩
      clear hdy HMX
      generalize X.drewN nq = Y at *
      have c0 := HMY.out.1.c0; have c1 := HMY.out.1.c1; have c2 := HMY.out.1.c2; have c3 := HMY.out.1.c3; have c4 := HMY.out.1.c4
      have f0 := HMY.out.1.f 0 (by decide); have f1 := HMY.out.1.f 1 (by decide); have f2 := HMY.out.1.f 2 (by decide); have f3 := HMY.out.1.f 3 (by decide); have f4 := HMY.out.1.f 4 (by decide)
      go_wp2_with fail
      refine ⟨⟨l, r, c, d, x', y', !o, rfl, rfl, HN, Lib.hid ⟨HMY.out.1.put c d x' y' (!o), HMY.out.2.1.far (by omega) c d x' y' (!o), below_put5 HMY.out.2.2.1 (by omega) _ _ _ _ _, by simpa using HMY.out.2.2.2⟩⟩, ?_⟩
      have := HBD.out.1.2.2
      show ((r : Nat) : Int).toNat < ((l : Nat) : Int).toNat
      omega
    · have HC := Lib.hid hc
      have HP := Lib.hid (HM.out.2.1.put a b c d o)
      have c0 := HM.out.1.c0; have c1 := HM.out.1.c1; have c2 := HM.out.1.c2; have c3 := HM.out.1.c3; have c4 := HM.out.1.c4
      have e0 := HM.out.2.1.c0; have e1 := HM.out.2.1.c1; have e2 := HM.out.2.1.c2; have e3 := HM.out.2.1.c3; have e4 := HM.out.2.1.c4
      have f0 := HM.out.2.1.f 0 (by decide); have f1 := HM.out.2.1.f 1 (by decide); have f2 := HM.out.2.1.f 2 (by decide); have f3 := HM.out.2.1.f 3 (by decide); have f4 := HM.out.2.1.f 4 (by decide)
      have HB5 : Hid (Below w.heap.size w _) := Lib.hid (below_put5 HM.out.2.2.1 (Nat.le_refl w.heap.size) (.int .i64 (a : Nat)) (.int .i64 (b : Nat)) (.int .i64 (c : Nat)) (.int .i64 (d : Nat)) (.bool o))
      clear HM
      by_cases hl0 : l = 0
      · clear hc
        subst hl0
        go_wp2_with fail
        have p0 := HP.out.c0; have p1 := HP.out.c1; have p2 := HP.out.c2; have p3 := HP.out.c3; have p4 := HP.out.c4
        exact bodyPost_ret (v := .agg #[.int .i64 (a : Nat), .int .i64 (b : Nat), .int .i64 (c : Nat), .int .i64 (d : Nat), .bool o]) (by simp [results, Tryz.results279, go_sem, p0, p1, p2, p3, p4]) rfl ⟨⟨h, 0, a, b, c, d, o, HSS.out, HC.out, rfl⟩, HB5.out⟩
      · have g1 : decide (0 < (l : Int)) = true := by rw [decide_eq_true_iff]; omega
        have g2 : decide ((l : Int) ≤ (h : Int)) = false := by rw [decide_eq_false_iff_not]; omega
        have n1 : 0 < l := by omega
        have n2 : ¬ l ≤ h := by omega
        have n3 : h < l := by omega
        clear hl0 hc
        go_wp2_with fail
        have p0 := HP.out.c0; have p1 := HP.out.c1; have p2 := HP.out.c2; have p3 := HP.out.c3; have p4 := HP.out.c4
        exact bodyPost_ret (v := .agg #[.int .i64 (a : Nat), .int .i64 (b : Nat), .int .i64 (c : Nat), .int .i64 (d : Nat), .bool o]) (by simp [results, Tryz.results279, go_sem, p0, p1, p2, p3, p4]) rfl ⟨⟨h, l, a, b, c, d, o, HSS.out, HC.out, rfl⟩, HB5.out⟩
end Go.Proofs.YteggbenhffmijaaGreatDoor

/- WALKS, the divisor 4: a step of Euclid's algorithm, by one limb. -/
namespace Go.Proofs.YteggbenhffmijaaGreatDoor
open Go.RowKit
/-- a slice that is a number's limbs -/
def SlV (w : World) (v : Value) (x : Nat) : Prop := ∃ a c, v = .slice a (Wh.limbs x).length c ∧ Sl w (.slice a (Wh.limbs x).length c) (Wh.limbs x)
theorem SlV.mono {w w' : World} {v : Value} {x : Nat} (h : SlV w v x) (hb : Below w.heap.size w w') : SlV w' v x := by
  obtain ⟨a, c, e, h⟩ := h; exact ⟨a, c, e, h.mono hb⟩
theorem SlV.of {w : World} {v : Value} {x : Nat} (h : Sl w v (Wh.limbs x)) : SlV w v x := by
  obtain ⟨a, c, rfl⟩ := h.len; exact ⟨a, c, rfl, h⟩
theorem divide_sl (w : World) (va vb : Value) (R N : Nat) (ha : SlV w va R) (hb : SlV w vb N) (hR : (Wh.limbs R).length ≤ 1000) (hN : 0 < N ∧ N < 1000000000) :
    Calls Tryz.prog 270 #[va, vb] w fun e w' => (∃ vq vr, e = .returned (.tuple #[vq, vr]) ∧ SlV w' vq (R / N) ∧ SlV w' vr (R % N)) ∧ Below w.heap.size w w' := by
  obtain ⟨a1, c1, rfl, h1⟩ := ha
  obtain ⟨a2, c2, rfl, h2⟩ := hb
  have e1 : Wh.trimL (Wh.quo (Wh.limbs R) N) = Wh.limbs (R / N) := by rw [Wh.trimL, Wh.val_quo _ _ hN.1, Wh.val_limbs]
  have e2 : Wh.trimL [Wh.val (Wh.limbs R) % N] = Wh.limbs (R % N) := by rw [Wh.val_limbs, Wh.trimL]; simp [Wh.val]
  rw [limbs_one_of hN] at h2 ⊢
  refine (divideLimbs_fresh w _ _ _ N h1 (Wh.ok_limbs R) hR h2 ⟨hN.1, by omega⟩).mono ?_
  rintro e w' ⟨⟨aq, cq, ar, cr, rfl, _, hq, hr⟩, hb⟩
  rw [e1] at hq
  rw [e2] at hr
  exact ⟨⟨_, _, rfl, by rw [e1]; exact ⟨_, _, rfl, hq⟩, by rw [e2]; exact ⟨_, _, rfl, hr⟩⟩, hb⟩
theorem multiply_sl (w : World) (v1 v2 : Value) (a b : Nat) (h1 : SlV w v1 a) (h2 : SlV w v2 b) (hm : (Wh.limbs a).length + (Wh.limbs b).length ≤ 100000) (hmin : (Wh.limbs a).length < 32 ∨ (Wh.limbs b).length < 32) :
    Calls Tryz.prog 245 #[.slice none 0 0, v1, v2] w fun e w' => (∃ v', e = .returned v' ∧ SlV w' v' (a * b)) ∧ Below w.heap.size w w' := by
  obtain ⟨a1, c1, rfl, h1⟩ := h1
  obtain ⟨a2, c2, rfl, h2⟩ := h2
  refine (multiply_new w _ _ a b h1 h2 hm hmin).mono ?_
  rintro e w' ⟨⟨v', rfl, h, _⟩, hb⟩
  exact ⟨⟨v', rfl, SlV.of h⟩, hb⟩
theorem add_sl (w : World) (v1 v2 : Value) (a b : Nat) (h1 : SlV w v1 a) (h2 : SlV w v2 b) (hm : (Wh.limbs a).length ≤ 5000) (hm2 : (Wh.limbs b).length ≤ 5000) :
    Calls Tryz.prog 247 #[v1, v2] w fun e w' => (∃ v', e = .returned v' ∧ SlV w' v' (a + b)) ∧ Below w.heap.size w w' := by
  obtain ⟨a1, c1, rfl, h1⟩ := h1
  obtain ⟨a2, c2, rfl, h2⟩ := h2
  refine (addLimbs_any w _ _ a b h1 h2 hm hm2).mono ?_
  rintro e w' ⟨⟨v', rfl, _, h⟩, hb⟩
  exact ⟨⟨v', rfl, SlV.of h⟩, hb⟩
theorem blend_sl (w : World) (v1 v2 : Value) (a b : Nat) (x y : Int) (z : Nat) (h1 : SlV w v1 a) (h2 : SlV w v2 b) (hl1 : (Wh.limbs a).length ≤ 5000) (hl2 : (Wh.limbs b).length ≤ 5000)
    (hx : -1000000000 < x ∧ x < 1000000000) (hy : -1000000000 < y ∧ y < 1000000000) (hz : x * a + y * b = (z : Int)) :
    Calls Tryz.prog 320 #[v1, v2, .int .i64 x, .int .i64 y] w fun e w' => (∃ v', e = .returned v' ∧ SlV w' v' z) ∧ Below w.heap.size w w' := by
  obtain ⟨a1, c1, rfl, h1⟩ := h1
  obtain ⟨a2, c2, rfl, h2⟩ := h2
  have hv : x * (Wh.val (Wh.limbs a) : Nat) + y * (Wh.val (Wh.limbs b) : Nat) = (z : Int) := by rw [Wh.val_limbs, Wh.val_limbs]; exact hz
  refine (blend_any w _ _ _ _ x y h1 h2 (Wh.ok_limbs a) (Wh.ok_limbs b) hl1 hl2 hx hy (by rw [hv]; omega)).mono ?_
  rintro e w' ⟨⟨p, m, c, rfl, _, h⟩, hb⟩
  rw [hv, Int.natAbs_natCast] at h
  exact ⟨⟨_, rfl, SlV.of h⟩, hb⟩
theorem SlAt.see {w w' : World} {b i x : Nat} (h : SlAt w b i x) (hl : b < w.heap.size) (hb : Below w.heap.size w w') : ∃ v, w'.cell? ⟨b, i, none⟩ = some v ∧ SlV w' v x := by
  obtain ⟨a, c, h0, h1⟩ := h.mono hb hl; exact ⟨_, h0, a, c, rfl, h1⟩
def ST (wb R N : Nat) : Nat → Value → World → Prop
  | 0, v, _ | 1, v, _ | 2, v, _ | 4, v, _ | 5, v, _ => v = .pointer (some ⟨wb, 0, none⟩)
  | 3, v, w => SlV w v R
  | 6, v, _ => v = .pointer (some ⟨wb, 1, none⟩)
  | 7, v, w => SlV w v N
  | 8, v, w | 9, v, w => ∃ vq vr, v = .tuple #[vq, vr] ∧ SlV w vq (R / N) ∧ SlV w vr (R % N)
  | 10, v, w | 12, v, w => SlV w v (R / N)
  | 11, v, w | 13, v, w => SlV w v (R % N)
  | _, _, _ => True
theorem ST_stays (wb R N : Nat) : ∀ i v w w', ST wb R N i v w → Below w.heap.size w w' → ST wb R N i v w' := by
  intro i v w w' h hb
  match i, h with
  | 0, h | 1, h | 2, h | 4, h | 5, h | 6, h => exact h
  | 3, h | 7, h | 10, h | 11, h | 12, h | 13, h => exact SlV.mono h hb
  | 8, h | 9, h => obtain ⟨p, q, e, h1, h2⟩ := h; exact ⟨p, q, e, h1.mono hb, h2.mono hb⟩
  | _ + 14, h => trivial
def SU (wb Q T A : Nat) : Nat → Value → World → Prop
  | 0, v, _ | 1, v, _ | 2, v, _ | 3, v, _ | 6, v, _ | 7, v, _ | 11, v, _ | 12, v, _ | 17, v, _ | 20, v, _ => v = .pointer (some ⟨wb, 0, none⟩)
  | 4, v, _ | 13, v, _ | 21, v, _ => v = .pointer (some ⟨wb, 3, none⟩)
  | 8, v, _ | 18, v, _ => v = .pointer (some ⟨wb, 2, none⟩)
  | 5, v, w | 14, v, w => SlV w v A
  | 9, v, w => SlV w v T
  | 10, v, w => SlV w v Q
  | 15, v, w => SlV w v (Q * A)
  | 16, v, w => SlV w v (T + Q * A)
  | _, _, _ => True
theorem SU_stays (wb Q T A : Nat) : ∀ i v w w', SU wb Q T A i v w → Below w.heap.size w w' → SU wb Q T A i v w' := by
  intro i v w w' h hb
  match i, h with
  | 0, h | 1, h | 2, h | 3, h | 6, h | 7, h | 11, h | 12, h | 17, h | 20, h | 4, h | 13, h | 21, h | 8, h | 18, h => exact h
  | 5, h | 14, h | 9, h | 10, h | 15, h | 16, h => exact SlV.mono h hb
  | 19, h | 22, h | _ + 23, h => trivial

theorem WK.set0 {w : World} {wb R N T A x : Nat} {odd : Bool} {a : Option Addr} {c : Nat} (h : WK w wb R N T A odd) (hs : Sl w (.slice a (Wh.limbs x).length c) (Wh.limbs x)) : WK (w.setCell ⟨wb, 0, none⟩ (.slice a (Wh.limbs x).length c)) wb x N T A odd := by
  obtain ⟨ea, ec, e, _⟩ := h.r
  exact ⟨SlAt.put e (nl_slice _ _ _) hs, h.n.far e (nl_slice _ _ _) (off_ne (by decide)) _, h.t.far e (nl_slice _ _ _) (off_ne (by decide)) _, h.a.far e (nl_slice _ _ _) (off_ne (by decide)) _, by rw [World.cell?_setCell_other _ _ _ _ (off_ne (by decide))]; exact h.o, fun i hi => by rw [World.frozen?_setCell]; exact h.f i hi, by simpa using h.lt⟩
theorem WK.set1 {w : World} {wb R N T A x : Nat} {odd : Bool} {a : Option Addr} {c : Nat} (h : WK w wb R N T A odd) (hs : Sl w (.slice a (Wh.limbs x).length c) (Wh.limbs x)) : WK (w.setCell ⟨wb, 1, none⟩ (.slice a (Wh.limbs x).length c)) wb R x T A odd := by
  obtain ⟨ea, ec, e, _⟩ := h.n
  exact ⟨h.r.far e (nl_slice _ _ _) (off_ne (by decide)) _, SlAt.put e (nl_slice _ _ _) hs, h.t.far e (nl_slice _ _ _) (off_ne (by decide)) _, h.a.far e (nl_slice _ _ _) (off_ne (by decide)) _, by rw [World.cell?_setCell_other _ _ _ _ (off_ne (by decide))]; exact h.o, fun i hi => by rw [World.frozen?_setCell]; exact h.f i hi, by simpa using h.lt⟩
theorem WK.set2 {w : World} {wb R N T A x : Nat} {odd : Bool} {a : Option Addr} {c : Nat} (h : WK w wb R N T A odd) (hs : Sl w (.slice a (Wh.limbs x).length c) (Wh.limbs x)) : WK (w.setCell ⟨wb, 2, none⟩ (.slice a (Wh.limbs x).length c)) wb R N x A odd := by
  obtain ⟨ea, ec, e, _⟩ := h.t
  exact ⟨h.r.far e (nl_slice _ _ _) (off_ne (by decide)) _, h.n.far e (nl_slice _ _ _) (off_ne (by decide)) _, SlAt.put e (nl_slice _ _ _) hs, h.a.far e (nl_slice _ _ _) (off_ne (by decide)) _, by rw [World.cell?_setCell_other _ _ _ _ (off_ne (by decide))]; exact h.o, fun i hi => by rw [World.frozen?_setCell]; exact h.f i hi, by simpa using h.lt⟩
theorem WK.set3 {w : World} {wb R N T A x : Nat} {odd : Bool} {a : Option Addr} {c : Nat} (h : WK w wb R N T A odd) (hs : Sl w (.slice a (Wh.limbs x).length c) (Wh.limbs x)) : WK (w.setCell ⟨wb, 3, none⟩ (.slice a (Wh.limbs x).length c)) wb R N T x odd := by
  obtain ⟨ea, ec, e, _⟩ := h.a
  exact ⟨h.r.far e (nl_slice _ _ _) (off_ne (by decide)) _, h.n.far e (nl_slice _ _ _) (off_ne (by decide)) _, h.t.far e (nl_slice _ _ _) (off_ne (by decide)) _, SlAt.put e (nl_slice _ _ _) hs, by rw [World.cell?_setCell_other _ _ _ _ (off_ne (by decide))]; exact h.o, fun i hi => by rw [World.frozen?_setCell]; exact h.f i hi, by simpa using h.lt⟩
theorem nl_bool (b : Bool) : NoLimb (.bool b) := by intro n e; cases e
theorem WK.set4 {w : World} {wb R N T A : Nat} {odd : Bool} (h : WK w wb R N T A odd) (o : Bool) : WK (w.setCell ⟨wb, 4, none⟩ (.bool o)) wb R N T A o :=
  ⟨h.r.far h.o (nl_bool _) (off_ne (by decide)) _, h.n.far h.o (nl_bool _) (off_ne (by decide)) _, h.t.far h.o (nl_bool _) (off_ne (by decide)) _, h.a.far h.o (nl_bool _) (off_ne (by decide)) _, World.cell?_setCell_same _ _ _ h.o, fun i hi => by rw [World.frozen?_setCell]; exact h.f i hi, by simpa using h.lt⟩
set_option maxRecDepth 100000 in
set_option maxHeartbeats 1000000 in
theorem step_any (w : World) (wb R N T A : Nat) (odd : Bool) (h : WK w wb R N T A odd) (hN : 0 < N ∧ N < 1000000000) (hR : (Wh.limbs R).length ≤ 1000) (hTT : (Wh.limbs T).length ≤ 5000) (hA : (Wh.limbs A).length < 32) (hQ : (Wh.limbs (R / N)).length ≤ 5000) (hQA : (Wh.limbs (R / N * A)).length ≤ 5000) :
    Calls Tryz.prog 281 #[.pointer (some ⟨wb, 0, none⟩)] w fun e w' => e = .returned (.tuple #[]) ∧ WK w' wb N (R % N) A (T + R / N * A) (!odd) ∧ Below wb w w' := by
  have H := Lib.hid h; clear h
  have HLT := Lib.hid H.out.lt
  go_enter Tryz.func281, Tryz.ntmps281
  go_wp2_with fail
  refine wp_mono (Q := fun e a W' => e = .normal ∧ (∃ vals : Nat → Value, a = { tmps := #[.pointer (some ⟨wb, 0, none⟩), undef, vals 12, vals 13, vals 9, vals 0, vals 1, vals 2, vals 3, vals 4, vals 5, vals 6, vals 7, vals 8, vals 10, vals 11, undef, undef, undef, undef, undef, undef, undef, undef, undef, undef, undef, undef, undef, undef, undef, undef, undef, undef, undef, undef, undef, undef, undef, undef, undef, undef, undef, undef, undef, undef, undef, undef, undef, undef, undef, undef, undef, undef, undef, undef], defers := [] } ∧ SlV W' (vals 12) (R / N) ∧ SlV W' (vals 13) (R % N)) ∧ Below w.heap.size w W') ?_ ?_
  refine Rt.wp_region_grow (n0 := 0) [] [] 56 (fun vals => { tmps := #[.pointer (some ⟨wb, 0, none⟩), undef, vals 12, vals 13, vals 9, vals 0, vals 1, vals 2, vals 3, vals 4, vals 5, vals 6, vals 7, vals 8, vals 10, vals 11, undef, undef, undef, undef, undef, undef, undef, undef, undef, undef, undef, undef, undef, undef, undef, undef, undef, undef, undef, undef, undef, undef, undef, undef, undef, undef, undef, undef, undef, undef, undef, undef, undef, undef, undef, undef, undef, undef, undef, undef], defers := [] }) (ST wb R N) (by kernel_rfl) (by kernel_rfl) (by kernel_rfl) (by kernel_rfl) (fun _ _ _ _ _ h => absurd h.1 (by simp)) (by kernel_rfl) rfl (fun _ => by kernel_rfl) (by kernel_rfl) (by kernel_rfl) (ST_stays _ _ _) ?_ ?_ ?_
  · intro i o d hi hT hW hd vals w' hb hf
    have hlt : i < 14 := (Array.getElem?_eq_some_iff.1 hi).1
    rcases i with _ | _ | _ | _ | _ | _ | _ | _ | _ | _ | _ | _ | _ | _ | i
    · obtain rfl := Option.some.inj hi
      obtain rfl := Option.some.inj hd
      dsimp only
      go_simp
      exact ⟨rfl, Below.refl _ _⟩
    · obtain rfl := Option.some.inj hi
      obtain rfl := Option.some.inj hd
      have e0 : vals 0 = _ := hf 0 (by kernel_rfl)
      dsimp only
      rw [e0]
      go_simp
      exact ⟨rfl, Below.refl _ _⟩
    · obtain rfl := Option.some.inj hi
      obtain rfl := Option.some.inj hd
      have e1 : vals 1 = _ := hf 1 (by kernel_rfl)
      dsimp only
      rw [e1]
      go_simp
      exact ⟨rfl, Below.refl _ _⟩
    · obtain rfl := Option.some.inj hi
      obtain rfl := Option.some.inj hd
      have e2 : vals 2 = _ := hf 2 (by kernel_rfl)
      obtain ⟨v0, z0, zs⟩ := H.out.r.see H.out.lt hb
      have ZS := Lib.hid zs; clear zs
      dsimp only
      rw [e2]
      go_simp
      exact ⟨ZS.out, Below.refl _ _⟩
    · obtain rfl := Option.some.inj hi
      obtain rfl := Option.some.inj hd
      dsimp only
      go_simp
      exact ⟨rfl, Below.refl _ _⟩
    · obtain rfl := Option.some.inj hi
      obtain rfl := Option.some.inj hd
      have e4 : vals 4 = _ := hf 4 (by kernel_rfl)
      dsimp only
      rw [e4]
      go_simp
      exact ⟨rfl, Below.refl _ _⟩
    · obtain rfl := Option.some.inj hi
      obtain rfl := Option.some.inj hd
      have e5 : vals 5 = _ := hf 5 (by kernel_rfl)
      dsimp only
      rw [e5]
      go_simp
      exact ⟨rfl, Below.refl _ _⟩
    · obtain rfl := Option.some.inj hi
      obtain rfl := Option.some.inj hd
      have e6 : vals 6 = _ := hf 6 (by kernel_rfl)
      obtain ⟨v0, z0, zs⟩ := H.out.n.see H.out.lt hb
      have ZS := Lib.hid zs; clear zs
      dsimp only
      rw [e6]
      go_simp
      exact ⟨ZS.out, Below.refl _ _⟩
    · obtain rfl := Option.some.inj hi
      obtain rfl := Option.some.inj hd
      have h0 : SlV w' (vals 3) _ := hf 3 (by kernel_rfl)
      have h4 : SlV w' (vals 7) _ := hf 7 (by kernel_rfl)
      have HP := Lib.hid (divide_sl w' _ _ R N h0 h4 hR hN)
      obtain ⟨a3, c3, e3, -⟩ := h0
      obtain ⟨a7, c7, e7, -⟩ := h4
      rw [e3, e7] at HP
      dsimp only
      rw [e3, e7]
      go_simp
      refine HP.out.mono ?_
      rintro e w5 ⟨⟨vq, vr, rfl, h6, h7⟩, hb5⟩
      exact ⟨⟨vq, vr, rfl, h6, h7⟩, hb5⟩
    · obtain rfl := Option.some.inj hi
      obtain rfl := Option.some.inj hd
      obtain ⟨vq, vr, e8, h1, h2⟩ := hf 8 (by kernel_rfl)
      have H1 := Lib.hid h1; have H2 := Lib.hid h2; clear h1 h2
      dsimp only
      rw [e8]
      go_simp
      exact ⟨⟨vq, vr, rfl, H1.out, H2.out⟩, Below.refl _ _⟩
    · obtain rfl := Option.some.inj hi
      obtain rfl := Option.some.inj hd
      obtain ⟨vq, vr, e9, h1, h2⟩ := hf 9 (by kernel_rfl)
      have H1 := Lib.hid h1; have H2 := Lib.hid h2; clear h1 h2
      dsimp only
      rw [e9]
      go_simp
      exact ⟨H1.out, Below.refl _ _⟩
    · obtain rfl := Option.some.inj hi
      obtain rfl := Option.some.inj hd
      obtain ⟨vq, vr, e9, h1, h2⟩ := hf 9 (by kernel_rfl)
      have H1 := Lib.hid h1; have H2 := Lib.hid h2; clear h1 h2
      dsimp only
      rw [e9]
      go_simp
      exact ⟨H2.out, Below.refl _ _⟩
    · obtain rfl := Option.some.inj hi
      obtain rfl := Option.some.inj hd
      have h1 : SlV w' (vals 10) _ := hf 10 (by kernel_rfl)
      have H1 := Lib.hid h1; clear h1
      dsimp only
      generalize vals 10 = vv at *
      go_simp
      exact ⟨H1.out, Below.refl _ _⟩
    · obtain rfl := Option.some.inj hi
      obtain rfl := Option.some.inj hd
      have h1 : SlV w' (vals 11) _ := hf 11 (by kernel_rfl)
      have H1 := Lib.hid h1; clear h1
      dsimp only
      generalize vals 11 = vv at *
      go_simp
      exact ⟨H1.out, Below.refl _ _⟩
    · omega
  · intro p o d hi hW hd vals w' hb hf
    cases hW
  · intro vals w' hb hf
    exact Rt.wpAny_end (by kernel_rfl) ⟨rfl, ⟨vals, rfl, hf 12 (by decide) rfl, hf 13 (by decide) rfl⟩, hb⟩
  rintro e a W ⟨rfl, ⟨va, rfl, hq, hr⟩, hb⟩
  obtain ⟨qa, qc, eq, kq⟩ := hq
  obtain ⟨ra, rc, er, kr⟩ := hr
  have HW := Lib.hid (H.out.mono hb)
  have HB0 := Lib.hid hb; clear hb H
  have KQ := Lib.hid kq; have KR := Lib.hid kr; clear kq kr
  rw [eq, er]
  generalize va 0 = v0; generalize va 1 = v1; generalize va 2 = v2; generalize va 3 = v3; generalize va 4 = v4; generalize va 5 = v5; generalize va 6 = v6; generalize va 7 = v7; generalize va 8 = v8; generalize va 9 = v9
  generalize hv10 : va 10 = v10; generalize hv11 : va 11 = v11
  clear eq er hv10 hv11
  obtain ⟨na, nc, n0, ns⟩ := HW.out.n
  obtain ⟨oa, oc, o0, os⟩ := HW.out.r
  have f0 := HW.out.f 0 (by decide); have f1 := HW.out.f 1 (by decide)
  have H2 := Lib.hid ((HW.out.set0 ns).set1 (KR.out.store _ o0 (nl_slice _ _ _) (.slice na (Wh.limbs N).length nc)))
  have KQ2 := Lib.hid ((KQ.out.store _ o0 (nl_slice _ _ _) (.slice na (Wh.limbs N).length nc)).store ⟨wb, 1, none⟩ (u := .slice na (Wh.limbs N).length nc) (by rw [World.cell?_setCell_other _ _ _ _ (off_ne (by decide))]; exact n0) (nl_slice _ _ _) (.slice ra (Wh.limbs (R % N)).length rc))
  have HB1 : Hid (Below wb w _) := Lib.hid (((HB0.out.mono (by have := HLT.out; omega : wb ≤ _)).setCell (p := ⟨wb, 0, none⟩) (Nat.le_refl wb) (.slice na (Wh.limbs N).length nc)).setCell (p := ⟨wb, 1, none⟩) (Nat.le_refl wb) (.slice ra (Wh.limbs (R % N)).length rc))
  clear ns os KQ HW HB0
  generalize hQg : R / N = Q at *
  generalize hRg : R % N = RM at *
  go_wp2_with fail
  clear n0 o0 f0 f1
  generalize (W.setCell ⟨wb, 0, none⟩ (.slice na (Wh.limbs N).length nc)).setCell ⟨wb, 1, none⟩ (.slice ra (Wh.limbs RM).length rc) = Y at *
  have KQ := KQ2; clear KQ2
  refine wp_mono (Q := fun e a W' => e = .normal ∧ (∃ vals : Nat → Value, a = { tmps := #[.pointer (some ⟨wb, 0, none⟩), undef, .slice qa (Wh.limbs Q).length qc, .slice ra (Wh.limbs RM).length rc, v9, v0, v1, v2, v3, v4, v5, v6, v7, v8, v10, v11, .pointer (some ⟨wb, 0, none⟩), .pointer (some ⟨wb, 0, none⟩), .pointer (some ⟨wb, 0, none⟩), .pointer (some ⟨wb, 0, none⟩), .pointer (some ⟨wb, 1, none⟩), .slice na (Wh.limbs N).length nc, .slice ra (Wh.limbs RM).length rc, .pointer (some ⟨wb, 0, none⟩), .pointer (some ⟨wb, 0, none⟩), .pointer (some ⟨wb, 0, none⟩), .pointer (some ⟨wb, 1, none⟩), vals 0, .pointer (some ⟨wb, 0, none⟩), vals 2, vals 3, vals 4, vals 5, vals 6, vals 7, vals 8, vals 9, vals 10, vals 11, vals 12, vals 13, vals 14, vals 15, vals 16, vals 17, .pointer (some ⟨wb, 2, none⟩), .pointer (some ⟨wb, 0, none⟩), .pointer (some ⟨wb, 3, none⟩), undef, undef, undef, undef, undef, undef, undef, undef], defers := [] }) ∧ WK W' wb N RM A (T + Q * A) odd ∧ Below wb Y W') ?_ ?_
  refine Rt.wp_region_grow (n0 := 4) [19, 20, 21, 22] [1] 56 (fun vals => { tmps := #[.pointer (some ⟨wb, 0, none⟩), undef, .slice qa (Wh.limbs Q).length qc, .slice ra (Wh.limbs RM).length rc, v9, v0, v1, v2, v3, v4, v5, v6, v7, v8, v10, v11, .pointer (some ⟨wb, 0, none⟩), .pointer (some ⟨wb, 0, none⟩), .pointer (some ⟨wb, 0, none⟩), .pointer (some ⟨wb, 0, none⟩), .pointer (some ⟨wb, 1, none⟩), .slice na (Wh.limbs N).length nc, .slice ra (Wh.limbs RM).length rc, .pointer (some ⟨wb, 0, none⟩), .pointer (some ⟨wb, 0, none⟩), .pointer (some ⟨wb, 0, none⟩), .pointer (some ⟨wb, 1, none⟩), vals 0, vals 1, vals 2, vals 3, vals 4, vals 5, vals 6, vals 7, vals 8, vals 9, vals 10, vals 11, vals 12, vals 13, vals 14, vals 15, vals 16, vals 17, vals 18, undef, undef, undef, undef, undef, undef, undef, undef, undef, undef], defers := [] }) (SU wb Q T A) (by kernel_rfl) (by kernel_rfl) (by kernel_rfl) (by kernel_rfl) (fun _ _ _ _ _ h => absurd h.1 (by simp)) (by kernel_rfl) rfl (fun _ => by kernel_rfl) (by kernel_rfl) (by kernel_rfl) (SU_stays _ _ _ _) ?_ ?_ ?_
  · intro i o d hi hT hW hd vals w' hb hf
    have hlt : i < 23 := (Array.getElem?_eq_some_iff.1 hi).1
    rcases i with _ | _ | _ | _ | _ | _ | _ | _ | _ | _ | _ | _ | _ | _ | _ | _ | _ | _ | _ | _ | _ | _ | _ | i
    · obtain rfl := Option.some.inj hi
      obtain rfl := Option.some.inj hd
      dsimp only
      go_simp
      exact ⟨rfl, Below.refl _ _⟩
    · cases hW
    · obtain rfl := Option.some.inj hi
      obtain rfl := Option.some.inj hd
      dsimp only
      go_simp
      exact ⟨rfl, Below.refl _ _⟩
    · obtain rfl := Option.some.inj hi
      obtain rfl := Option.some.inj hd
      have e2 : vals 2 = _ := hf 2 (by kernel_rfl)
      dsimp only
      rw [e2]
      go_simp
      exact ⟨rfl, Below.refl _ _⟩
    · obtain rfl := Option.some.inj hi
      obtain rfl := Option.some.inj hd
      have e3 : vals 3 = _ := hf 3 (by kernel_rfl)
      dsimp only
      rw [e3]
      go_simp
      exact ⟨rfl, Below.refl _ _⟩
    · obtain rfl := Option.some.inj hi
      obtain rfl := Option.some.inj hd
      have e4 : vals 4 = _ := hf 4 (by kernel_rfl)
      obtain ⟨v0, z0, zs⟩ := H2.out.a.see H2.out.lt hb
      have ZS := Lib.hid zs; clear zs
      dsimp only
      rw [e4]
      go_simp
      exact ⟨ZS.out, Below.refl _ _⟩
    · obtain rfl := Option.some.inj hi
      obtain rfl := Option.some.inj hd
      dsimp only
      go_simp
      exact ⟨rfl, Below.refl _ _⟩
    · obtain rfl := Option.some.inj hi
      obtain rfl := Option.some.inj hd
      have e6 : vals 6 = _ := hf 6 (by kernel_rfl)
      dsimp only
      rw [e6]
      go_simp
      exact ⟨rfl, Below.refl _ _⟩
    · obtain rfl := Option.some.inj hi
      obtain rfl := Option.some.inj hd
      have e7 : vals 7 = _ := hf 7 (by kernel_rfl)
      dsimp only
      rw [e7]
      go_simp
      exact ⟨rfl, Below.refl _ _⟩
    · obtain rfl := Option.some.inj hi
      obtain rfl := Option.some.inj hd
      have e8 : vals 8 = _ := hf 8 (by kernel_rfl)
      obtain ⟨v0, z0, zs⟩ := H2.out.t.see H2.out.lt hb
      have ZS := Lib.hid zs; clear zs
      dsimp only
      rw [e8]
      go_simp
      exact ⟨ZS.out, Below.refl _ _⟩
    · obtain rfl := Option.some.inj hi
      obtain rfl := Option.some.inj hd
      dsimp only
      go_simp
      exact ⟨⟨_, _, rfl, KQ.out.mono hb⟩, Below.refl _ _⟩
    · obtain rfl := Option.some.inj hi
      obtain rfl := Option.some.inj hd
      dsimp only
      go_simp
      exact ⟨rfl, Below.refl _ _⟩
    · obtain rfl := Option.some.inj hi
      obtain rfl := Option.some.inj hd
      have e11 : vals 11 = _ := hf 11 (by kernel_rfl)
      dsimp only
      rw [e11]
      go_simp
      exact ⟨rfl, Below.refl _ _⟩
    · obtain rfl := Option.some.inj hi
      obtain rfl := Option.some.inj hd
      have e12 : vals 12 = _ := hf 12 (by kernel_rfl)
      dsimp only
      rw [e12]
      go_simp
      exact ⟨rfl, Below.refl _ _⟩
    · obtain rfl := Option.some.inj hi
      obtain rfl := Option.some.inj hd
      have e13 : vals 13 = _ := hf 13 (by kernel_rfl)
      obtain ⟨v0, z0, zs⟩ := H2.out.a.see H2.out.lt hb
      have ZS := Lib.hid zs; clear zs
      dsimp only
      rw [e13]
      go_simp
      exact ⟨ZS.out, Below.refl _ _⟩
    · obtain rfl := Option.some.inj hi
      obtain rfl := Option.some.inj hd
      have h0 : SlV w' (vals 10) _ := hf 10 (by kernel_rfl)
      have h4 : SlV w' (vals 14) _ := hf 14 (by kernel_rfl)
      have HP := Lib.hid (multiply_sl w' _ _ Q A h0 h4 (by omega) (.inr hA))
      obtain ⟨a10, c10, e10, -⟩ := h0
      obtain ⟨a14, c14, e14, -⟩ := h4
      rw [e10, e14] at HP
      dsimp only
      rw [e10, e14]
      go_simp
      refine HP.out.mono ?_
      rintro e w5 ⟨⟨v5, rfl, hn5⟩, hb5⟩
      exact ⟨hn5, hb5⟩
    · obtain rfl := Option.some.inj hi
      obtain rfl := Option.some.inj hd
      have h0 : SlV w' (vals 9) _ := hf 9 (by kernel_rfl)
      have h4 : SlV w' (vals 15) _ := hf 15 (by kernel_rfl)
      have HP := Lib.hid (add_sl w' _ _ T (Q * A) h0 h4 hTT hQA)
      obtain ⟨a9, c9, e9, -⟩ := h0
      obtain ⟨a15, c15, e15, -⟩ := h4
      rw [e9, e15] at HP
      dsimp only
      rw [e9, e15]
      go_simp
      refine HP.out.mono ?_
      rintro e w5 ⟨⟨v5, rfl, hn5⟩, hb5⟩
      exact ⟨hn5, hb5⟩
    · obtain rfl := Option.some.inj hi
      obtain rfl := Option.some.inj hd
      have e0 : vals 0 = _ := hf 0 (by kernel_rfl)
      dsimp only
      rw [e0]
      go_simp
      exact ⟨rfl, Below.refl _ _⟩
    · obtain rfl := Option.some.inj hi
      obtain rfl := Option.some.inj hd
      have e17 : vals 17 = _ := hf 17 (by kernel_rfl)
      dsimp only
      rw [e17]
      go_simp
      exact ⟨rfl, Below.refl _ _⟩
    · cases hT
    · cases hT
    · cases hT
    · cases hT
    · omega
  · intro p o d hi hW hd vals w' hb hf
    have hlt : p < 23 := (Array.getElem?_eq_some_iff.1 hi).1
    rcases p with _ | _ | _ | _ | _ | _ | _ | _ | _ | _ | _ | _ | _ | _ | _ | _ | _ | _ | _ | _ | _ | _ | _ | p
    · cases hW
    · obtain rfl := Option.some.inj hi
      obtain rfl := Option.some.inj hd
      exact ⟨_, fun w'' => by dsimp only; go_simp, rfl⟩
    · cases hW
    · cases hW
    · cases hW
    · cases hW
    · cases hW
    · cases hW
    · cases hW
    · cases hW
    · cases hW
    · cases hW
    · cases hW
    · cases hW
    · cases hW
    · cases hW
    · cases hW
    · cases hW
    · cases hW
    · cases hW
    · cases hW
    · cases hW
    · cases hW
    · omega
  · intro vals w' hb hf
    have e1 : vals 1 = _ := hf 1 (by decide) rfl
    obtain ⟨a5, c5, e5, k5⟩ := hf 5 (by decide) rfl
    obtain ⟨a16, c16, e16, k16⟩ := hf 16 (by decide) rfl
    have e18 : vals 18 = _ := hf 18 (by decide) rfl
    have HV := Lib.hid (H2.out.mono hb)
    have HBY := Lib.hid (hb.mono (Nat.le_of_lt H2.out.lt))
    have K5 := Lib.hid k5; have K16 := Lib.hid k16; clear k5 k16 hb hf
    obtain ⟨ta, tc, t0, _⟩ := HV.out.t
    have ft := HV.out.f 2 (by decide)
    rw [e1, e5, e16, e18]
    refine Rt.wpAny_step (i := 19) (by kernel_rfl) rfl (by rfl) (fun K hK => ?_)
    have HK := Lib.hid hK; clear hK
    go_simp
    refine HK.out _ _ ?_
    clear HK
    have HV2 := Lib.hid (HV.out.set2 K5.out)
    have K162 := Lib.hid (K16.out.store _ t0 (nl_slice _ _ _) (.slice a5 (Wh.limbs A).length c5))
    have HB2 : Hid (Below wb Y (w'.setCell ⟨wb, 2, none⟩ (.slice a5 (Wh.limbs A).length c5))) := Lib.hid (HBY.out.setCell (p := ⟨wb, 2, none⟩) (Nat.le_refl wb) _)
    clear t0 ft HV K16 K5 HBY
    generalize w'.setCell ⟨wb, 2, none⟩ (.slice a5 (Wh.limbs A).length c5) = U at *
    refine Rt.wpAny_step (i := 20) (by kernel_rfl) rfl (by rfl) (fun K hK => ?_)
    have HK := Lib.hid hK; clear hK
    go_simp
    refine HK.out _ _ ?_
    clear HK
    refine Rt.wpAny_step (i := 21) (by kernel_rfl) rfl (by rfl) (fun K hK => ?_)
    have HK := Lib.hid hK; clear hK
    go_simp
    refine HK.out _ _ ?_
    clear HK
    obtain ⟨ua, uc, u0, _⟩ := HV2.out.a
    have fu := HV2.out.f 3 (by decide)
    refine Rt.wpAny_step (i := 22) (by kernel_rfl) rfl (by rfl) (fun K hK => ?_)
    have HK := Lib.hid hK; clear hK
    go_simp
    refine HK.out _ _ ?_
    clear HK
    exact Rt.wpAny_end (by kernel_rfl) ⟨rfl, ⟨vals, by rw [e5, e16]⟩, HV2.out.set3 K162.out, HB2.out.setCell (p := ⟨wb, 3, none⟩) (Nat.le_refl wb) _⟩
  rintro e a W3 ⟨rfl, ⟨vb, rfl⟩, hW3, hb3⟩
  have HW3 := Lib.hid hW3; have HB3 := Lib.hid (HB1.out.trans hb3); clear hW3 hb3
  have o4 := HW3.out.o
  have f4 := HW3.out.f 4 (by decide)
  generalize vb 0 = vb0
  generalize vb 1 = vb1
  generalize vb 2 = vb2
  generalize vb 3 = vb3
  generalize vb 4 = vb4
  generalize vb 5 = vb5
  generalize vb 6 = vb6
  generalize vb 7 = vb7
  generalize vb 8 = vb8
  generalize vb 9 = vb9
  generalize vb 10 = vb10
  generalize vb 11 = vb11
  generalize vb 12 = vb12
  generalize vb 13 = vb13
  generalize vb 14 = vb14
  generalize vb 15 = vb15
  generalize vb 16 = vb16
  generalize vb 17 = vb17
  generalize vb 18 = vb18
  go_wp2
  go_end0
  exact ⟨rfl, by rw [hQg, hRg]; exact HW3.out.set4 (!odd), HB3.out.setCell (p := ⟨wb, 4, none⟩) (Nat.le_refl wb) _⟩
end Go.Proofs.YteggbenhffmijaaGreatDoor
