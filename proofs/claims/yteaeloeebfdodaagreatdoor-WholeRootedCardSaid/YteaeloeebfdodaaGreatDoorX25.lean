/- Part 25 of the proofs that laws of package whole answer true at every input and leave the input as it was, where the library's variables start as the text lays them (the texts G1). -/
import Derived.Test.YteaeloeebfdodaaGreatDoorX22
import Derived.Test.YteaeloeebfdodaaGreatDoorX23
import Derived.Test.YteaeloeebfdodaaGreatDoorX24
set_option linter.unusedVariables false
set_option linter.unusedSimpArgs false
/- WALKS, the divisor 3: the walk's memory, and look at numbers of one limb. -/
namespace Go.Proofs.YteaeloeebfdodaaGreatDoor
open Go.RowKit
/-- cell i of block b holds a number's limbs -/
def SlAt (w : World) (b i x : Nat) : Prop := ∃ a c, w.cell? ⟨b, i, none⟩ = some (.slice a (Wh.limbs x).length c) ∧ Sl w (.slice a (Wh.limbs x).length c) (Wh.limbs x)
theorem SlAt.mono {w w' : World} {b i x : Nat} (h : SlAt w b i x) (hb : Below w.heap.size w w') (hl : b < w.heap.size) : SlAt w' b i x := by
  obtain ⟨a, c, h0, h1⟩ := h
  exact ⟨a, c, (hb.cell (p := ⟨b, i, none⟩) hl).trans h0, h1.mono hb⟩
theorem SlAt.far {w : World} {b i x : Nat} (h : SlAt w b i x) {p : Addr} {u : Value} (hu : w.cell? p = some u) (hn : NoLimb u) (hne : p ≠ ⟨b, i, none⟩) (z : Value) : SlAt (w.setCell p z) b i x := by
  obtain ⟨a, c, h0, h1⟩ := h
  exact ⟨a, c, by rw [World.cell?_setCell_other _ _ _ _ hne]; exact h0, h1.store _ hu hn z⟩
theorem SlAt.put {w : World} {b i x : Nat} {u : Value} {a : Option Addr} {c : Nat} (hu : w.cell? ⟨b, i, none⟩ = some u) (hn : NoLimb u) (hs : Sl w (.slice a (Wh.limbs x).length c) (Wh.limbs x)) : SlAt (w.setCell ⟨b, i, none⟩ (.slice a (Wh.limbs x).length c)) b i x :=
  ⟨a, c, World.cell?_setCell_same _ _ _ hu, hs.store _ hu hn _⟩
/-- the walk's variable -/
structure WK (wr : World) (wb R N T A : Nat) (odd : Bool) : Prop where
  r : SlAt wr wb 0 R
  n : SlAt wr wb 1 N
  t : SlAt wr wb 2 T
  a : SlAt wr wb 3 A
  o : wr.cell? ⟨wb, 4, none⟩ = some (.bool odd)
  f : ∀ i, i < 5 → wr.frozen? ⟨wb, i, none⟩ = false
  lt : wb < wr.heap.size
theorem WK.mono {w w' : World} {wb R N T A : Nat} {odd : Bool} (h : WK w wb R N T A odd) (hb : Below w.heap.size w w') : WK w' wb R N T A odd :=
  ⟨h.r.mono hb h.lt, h.n.mono hb h.lt, h.t.mono hb h.lt, h.a.mono hb h.lt, (hb.cell (p := ⟨wb, 4, none⟩) h.lt).trans h.o, fun i hi => (hb.frozen (p := ⟨wb, i, none⟩) h.lt).trans (h.f i hi), Nat.lt_of_lt_of_le h.lt hb.size⟩
/-- the stride's variable -/
structure SM (wr : World) (b : Nat) (x y c d : Nat) (o : Bool) : Prop where
  c0 : wr.cell? ⟨b, 0, none⟩ = some (.int .i64 x)
  c1 : wr.cell? ⟨b, 1, none⟩ = some (.int .i64 y)
  c2 : wr.cell? ⟨b, 2, none⟩ = some (.int .i64 c)
  c3 : wr.cell? ⟨b, 3, none⟩ = some (.int .i64 d)
  c4 : wr.cell? ⟨b, 4, none⟩ = some (.bool o)
  f : ∀ i, i < 5 → wr.frozen? ⟨b, i, none⟩ = false
theorem SM.mono {w w' : World} {b x y c d : Nat} {o : Bool} (h : SM w b x y c d o) (hb : Below w.heap.size w w') (hl : b < w.heap.size) : SM w' b x y c d o :=
  ⟨(hb.cell (p := ⟨b, 0, none⟩) hl).trans h.c0, (hb.cell (p := ⟨b, 1, none⟩) hl).trans h.c1, (hb.cell (p := ⟨b, 2, none⟩) hl).trans h.c2, (hb.cell (p := ⟨b, 3, none⟩) hl).trans h.c3, (hb.cell (p := ⟨b, 4, none⟩) hl).trans h.c4, fun i hi => (hb.frozen (p := ⟨b, i, none⟩) hl).trans (h.f i hi)⟩
theorem wrap_lin {a q c : Nat} (h : a + q * c < 1000000000) : wrap64 ((a : Int) + wrap64 ((q : Int) * (c : Int))) = ((a + q * c : Nat) : Int) := by
  have h2 : (q : Int) * (c : Int) = ((q * c : Nat) : Int) := by simp
  rw [h2]
  generalize q * c = m at *
  rw [w64 (m : Int) (by omega) (by omega), w64 _ (by omega) (by omega)]
  simp
theorem not_big {x : Nat} (h : x < 1000000000) : decide (1000000000 ≤ (x : Int)) = false := by rw [decide_eq_false_iff_not]; omega
theorem SM.put {w : World} {b x y c d : Nat} {o : Bool} (h : SM w b x y c d o) (x' y' c' d' : Nat) (o' : Bool) : SM (((((w.setCell ⟨b, 0, none⟩ (.int .i64 (x' : Nat))).setCell ⟨b, 1, none⟩ (.int .i64 (y' : Nat))).setCell ⟨b, 2, none⟩ (.int .i64 (c' : Nat))).setCell ⟨b, 3, none⟩ (.int .i64 (d' : Nat))).setCell ⟨b, 4, none⟩ (.bool o')) b x' y' c' d' o' := by
  have e0 := h.c0; have e1 := h.c1; have e2 := h.c2; have e3 := h.c3; have e4 := h.c4
  refine ⟨?_, ?_, ?_, ?_, ?_, fun i hi => by simp only [World.frozen?_setCell]; exact h.f i hi⟩
  · rw [World.cell?_setCell_other _ _ _ _ (off_ne (by decide)), World.cell?_setCell_other _ _ _ _ (off_ne (by decide)), World.cell?_setCell_other _ _ _ _ (off_ne (by decide)), World.cell?_setCell_other _ _ _ _ (off_ne (by decide))]; exact World.cell?_setCell_same _ _ _ (u := .int .i64 x) (by exact e0)
  · rw [World.cell?_setCell_other _ _ _ _ (off_ne (by decide)), World.cell?_setCell_other _ _ _ _ (off_ne (by decide)), World.cell?_setCell_other _ _ _ _ (off_ne (by decide))]; exact World.cell?_setCell_same _ _ _ (u := .int .i64 y) (by rw [World.cell?_setCell_other _ _ _ _ (off_ne (by decide))]; exact e1)
  · rw [World.cell?_setCell_other _ _ _ _ (off_ne (by decide)), World.cell?_setCell_other _ _ _ _ (off_ne (by decide))]; exact World.cell?_setCell_same _ _ _ (u := .int .i64 c) (by rw [World.cell?_setCell_other _ _ _ _ (off_ne (by decide)), World.cell?_setCell_other _ _ _ _ (off_ne (by decide))]; exact e2)
  · rw [World.cell?_setCell_other _ _ _ _ (off_ne (by decide))]; exact World.cell?_setCell_same _ _ _ (u := .int .i64 d) (by rw [World.cell?_setCell_other _ _ _ _ (off_ne (by decide)), World.cell?_setCell_other _ _ _ _ (off_ne (by decide)), World.cell?_setCell_other _ _ _ _ (off_ne (by decide))]; exact e3)
  · exact World.cell?_setCell_same _ _ _ (u := .bool o) (by rw [World.cell?_setCell_other _ _ _ _ (off_ne (by decide)), World.cell?_setCell_other _ _ _ _ (off_ne (by decide)), World.cell?_setCell_other _ _ _ _ (off_ne (by decide)), World.cell?_setCell_other _ _ _ _ (off_ne (by decide))]; exact e4)
theorem SM.far {w : World} {b b' x y c d : Nat} {o : Bool} (h : SM w b x y c d o) (hne : b' ≠ b) (x' y' c' d' : Nat) (o' : Bool) : SM (((((w.setCell ⟨b', 0, none⟩ (.int .i64 (x' : Nat))).setCell ⟨b', 1, none⟩ (.int .i64 (y' : Nat))).setCell ⟨b', 2, none⟩ (.int .i64 (c' : Nat))).setCell ⟨b', 3, none⟩ (.int .i64 (d' : Nat))).setCell ⟨b', 4, none⟩ (.bool o')) b x y c d o := by
  have ne : ∀ i j, (⟨b', i, none⟩ : Addr) ≠ ⟨b, j, none⟩ := fun i j e => hne (congrArg Addr.block e)
  refine ⟨?_, ?_, ?_, ?_, ?_, fun i hi => by simp only [World.frozen?_setCell]; exact h.f i hi⟩
  · rw [World.cell?_setCell_other _ _ _ _ (ne _ _), World.cell?_setCell_other _ _ _ _ (ne _ _), World.cell?_setCell_other _ _ _ _ (ne _ _), World.cell?_setCell_other _ _ _ _ (ne _ _), World.cell?_setCell_other _ _ _ _ (ne _ _)]; exact h.c0
  · rw [World.cell?_setCell_other _ _ _ _ (ne _ _), World.cell?_setCell_other _ _ _ _ (ne _ _), World.cell?_setCell_other _ _ _ _ (ne _ _), World.cell?_setCell_other _ _ _ _ (ne _ _), World.cell?_setCell_other _ _ _ _ (ne _ _)]; exact h.c1
  · rw [World.cell?_setCell_other _ _ _ _ (ne _ _), World.cell?_setCell_other _ _ _ _ (ne _ _), World.cell?_setCell_other _ _ _ _ (ne _ _), World.cell?_setCell_other _ _ _ _ (ne _ _), World.cell?_setCell_other _ _ _ _ (ne _ _)]; exact h.c2
  · rw [World.cell?_setCell_other _ _ _ _ (ne _ _), World.cell?_setCell_other _ _ _ _ (ne _ _), World.cell?_setCell_other _ _ _ _ (ne _ _), World.cell?_setCell_other _ _ _ _ (ne _ _), World.cell?_setCell_other _ _ _ _ (ne _ _)]; exact h.c3
  · rw [World.cell?_setCell_other _ _ _ _ (ne _ _), World.cell?_setCell_other _ _ _ _ (ne _ _), World.cell?_setCell_other _ _ _ _ (ne _ _), World.cell?_setCell_other _ _ _ _ (ne _ _), World.cell?_setCell_other _ _ _ _ (ne _ _)]; exact h.c4
theorem below_put5 {w w' : World} {B b : Nat} (h : Below B w w') (hb : B ≤ b) (y0 y1 y2 y3 y4 : Value) : Below B w (((((w'.setCell ⟨b, 0, none⟩ (y0)).setCell ⟨b, 1, none⟩ (y1)).setCell ⟨b, 2, none⟩ (y2)).setCell ⟨b, 3, none⟩ (y3)).setCell ⟨b, 4, none⟩ (y4)) := ((((h.setCell hb _).setCell hb _).setCell hb _).setCell hb _).setCell hb _
set_option maxRecDepth 100000 in
set_option maxHeartbeats 1000000 in
theorem look_short (w : World) (wb R N : Nat) (hr : SlAt w wb 0 R) (hn : SlAt w wb 1 N) (hlt : wb < w.heap.size) (hR : R < 1000000000) (hN : N < 1000000000)
    (S : Nat → Nat → Nat → Nat → Nat → Nat → Bool → Prop) (h0 : S R N 1 0 0 1 false) (hb : ∀ h l a b c d o, S h l a b c d o → (h < 1000000000 ∧ l < 1000000000) ∧ (a < 1000000000 ∧ b < 1000000000) ∧ c < 1000000000 ∧ d < 1000000000)
    (hs : ∀ h l a b c d o, S h l a b c d o → 0 < l → l ≤ h → (a + h / l * c < 1000000000 ∧ b + h / l * d < 1000000000) ∧ S l (h % l) c d (a + h / l * c) (b + h / l * d) (!o)) :
    Calls Tryz.prog 263 #[.pointer (some ⟨wb, 0, none⟩)] w fun e w' => (∃ h l a b c d o, S h l a b c d o ∧ ¬ (0 < l ∧ l ≤ h) ∧ e = .returned (.agg #[.int .i64 (a : Nat), .int .i64 (b : Nat), .int .i64 (c : Nat), .int .i64 (d : Nat), .bool o])) ∧ Below w.heap.size w w' := by
  obtain ⟨ra, rc, r0, rs⟩ := hr
  obtain ⟨na, nc, n0, ns⟩ := hn
  have hlr : (Wh.limbs R).length ≤ 1 := Wh.limbs_length_le (k := 1) (by rw [Wh.R_one]; exact hR)
  have hln : (Wh.limbs N).length ≤ 1 := Wh.limbs_length_le (k := 1) (by rw [Wh.R_one]; exact hN)
  have HR1 := Lib.hid (fun (w' : World) (hb : Below w.heap.size w w') => highest_any w' _ _ (rs.mono hb) (Wh.ok_limbs R) (by omega))
  have HN1 := Lib.hid (fun (w' : World) (hb : Below w.heap.size w w') => highest_any w' _ _ (ns.mono hb) (Wh.ok_limbs N) (by omega))
  rw [Wh.val_limbs] at HR1 HN1
  clear rs ns
  have H0 := Lib.hid h0; have HB := Lib.hid hb; have HS := Lib.hid hs; clear h0 hb hs
  generalize (Wh.limbs R).length = lr at *
  generalize (Wh.limbs N).length = ln at *
  go_enter Tryz.func263, Tryz.ntmps263
  go_wp2_with fail
  have hal : Below w.heap.size w (w.alloc (Obj.cells #[.int .i64 0, .int .i64 0, .int .i64 0, .int .i64 0, .bool false] 260)) := (Below.refl _ _).alloc (Nat.le_refl _) _
  have k0 := (hal.cell (p := ⟨wb, 0, none⟩) hlt).trans r0
  have k1 := (hal.cell (p := ⟨wb, 1, none⟩) hlt).trans n0
  have HT : Hid (SM (w.alloc (Obj.cells #[.int .i64 0, .int .i64 0, .int .i64 0, .int .i64 0, .bool false] 260)) w.heap.size 0 0 0 0 false) := Lib.hid ⟨by go_simp, by go_simp, by go_simp, by go_simp, by go_simp, fun i hi => by rcases (by omega : i = 0 ∨ i = 1 ∨ i = 2 ∨ i = 3 ∨ i = 4) with rfl | rfl | rfl | rfl | rfl <;> go_simp⟩
  have hsz : (w.alloc (Obj.cells #[.int .i64 0, .int .i64 0, .int .i64 0, .int .i64 0, .bool false] 260)).heap.size = w.heap.size + 1 := by simp
  have HAL := Lib.hid hal
  clear hal r0 n0
  generalize (w.alloc (Obj.cells #[.int .i64 0, .int .i64 0, .int .i64 0, .int .i64 0, .bool false] 260)) = V at *
  go_quiet (fail)
  go_wp2_with fail
  have hdw := below_drewN V.heap.size V nq
  have hwV : wb < V.heap.size := by omega
  have k0 := (hdw.cell (p := ⟨wb, 0, none⟩) hwV).trans k0
  have k1 := (hdw.cell (p := ⟨wb, 1, none⟩) hwV).trans k1
  have HT2 := Lib.hid (HT.out.mono hdw (by omega))
  have HAL2 := Lib.hid (HAL.out.trans (hdw.mono HAL.out.size))
  have hsz2 : (V.drewN nq).heap.size = w.heap.size + 1 := by rw [World.heap_drewN]; exact hsz
  clear hdw HT HAL hwV hsz
  generalize V.drewN nq = V2 at *
  have HR2 := Lib.hid (fun n : Nat => (HR1.out (V2.drewN n) (HAL2.out.trans (below_drewN _ _ _))).mono (fun e w' (h : e = _ ∧ _ = w') => (⟨h.1, 0, by rw [World.drewN_zero]; exact h.2.symm⟩ : e = _ ∧ ∃ m, w' = (V2.drewN n).drewN m)))
  have HN2 := Lib.hid (fun n : Nat => (HN1.out (V2.drewN n) (HAL2.out.trans (below_drewN _ _ _))).mono (fun e w' (h : e = _ ∧ _ = w') => (⟨h.1, 0, by rw [World.drewN_zero]; exact h.2.symm⟩ : e = _ ∧ ∃ m, w' = (V2.drewN n).drewN m)))
  go_quiet ((go_at_call 305; with_reducible first | exact Calls.quiet_of (HR2.out _) | exact Calls.quiet_of (HN2.out _)))
  go_wp2_with fail
  have hz3 : (V2.drewN nq).heap.size = w.heap.size + 1 := by rw [World.heap_drewN, hsz2]
  have hal3 : Below (V2.drewN nq).heap.size (V2.drewN nq) ((V2.drewN nq).alloc (Obj.cells #[.int .i64 1, .int .i64 0, .int .i64 0, .int .i64 1, .bool false] 260)) := (Below.refl _ _).alloc (Nat.le_refl _) _
  have hdw3 := below_drewN V2.heap.size V2 nq
  have hT3 := (HT2.out.mono hdw3 (by omega)).mono hal3 (by omega)
  have hB3 := (HAL2.out.trans (hdw3.mono HAL2.out.size)).trans (hal3.mono (by omega))
  have hS3 : SM ((V2.drewN nq).alloc (Obj.cells #[.int .i64 1, .int .i64 0, .int .i64 0, .int .i64 1, .bool false] 260)) (w.heap.size + 1) 1 0 0 1 false := by
    rw [← hz3]
    exact ⟨by go_simp, by go_simp, by go_simp, by go_simp, by go_simp, fun i hi => by rcases (by omega : i = 0 ∨ i = 1 ∨ i = 2 ∨ i = 3 ∨ i = 4) with rfl | rfl | rfl | rfl | rfl <;> go_simp⟩
  have hz4 : ((V2.drewN nq).alloc (Obj.cells #[.int .i64 1, .int .i64 0, .int .i64 0, .int .i64 1, .bool false] 260)).heap.size = w.heap.size + 2 := by simp [hsz2]
  have HM := Lib.hid (And.intro hS3 (And.intro hT3 (And.intro hB3 (by omega : w.heap.size + 1 < ((V2.drewN nq).alloc (Obj.cells #[.int .i64 1, .int .i64 0, .int .i64 0, .int .i64 1, .bool false] 260)).heap.size))))
  clear hz3 hal3 hdw3 hT3 hB3 hS3 hz4 hsz2 HT2 HAL2 HR2 HN2 HR1 HN1 k0 k1
  generalize ((V2.drewN nq).alloc (Obj.cells #[.int .i64 1, .int .i64 0, .int .i64 0, .int .i64 1, .bool false] 260)) = V4 at *
  go_loopw [5, 6] (fun v5 v6 wr => ∃ (h l a b c d : Nat) (o : Bool), v5 = .int .i64 h ∧ v6 = .int .i64 l ∧ Hid (S h l a b c d o) ∧ Hid (SM wr (w.heap.size + 1) a b c d o ∧ SM wr w.heap.size 0 0 0 0 false ∧ Below w.heap.size w wr ∧ w.heap.size + 1 < wr.heap.size)) (fun _ v6 _ => (intOf v6).toNat)
  case atStart => exact ⟨R, N, 1, 0, 0, 1, false, rfl, rfl, H0, HM⟩
  case round =>
    clear HM H0
    obtain ⟨h, l, a, b, c, d, o, rfl, rfl, HSS, HM⟩ := hrel
    by_cases hc : 0 < l ∧ l ≤ h
    · obtain ⟨hc1, hc2⟩ := hc
      have g1 : decide (0 < (l : Int)) = true := by simp; omega
      have g2 : decide ((l : Int) ≤ (h : Int)) = true := by simp; omega
      have gz : ((l : Int) == 0) = false := by rw [beq_eq_false_iff_ne]; omega
      obtain ⟨⟨s1, s2⟩, hnext⟩ := HS.out h l a b c d o HSS.out hc1 hc2
      obtain ⟨⟨bh, bl⟩, ⟨ba, bb⟩, bc, bd⟩ := HB.out _ _ _ _ _ _ _ HSS.out
      have HN := Lib.hid hnext; clear hnext
      obtain ⟨q, hq⟩ : ∃ q, q = h / l := ⟨_, rfl⟩
      obtain ⟨r, hr⟩ : ∃ r, r = h % l := ⟨_, rfl⟩
      have hrl : r < l := by rw [hr]; exact Nat.mod_lt _ hc1
      rw [← hq] at s1 s2
      rw [← hq, ← hr] at HN
      have hqi : (h : Int) / (l : Int) = (q : Int) := by rw [hq]; exact (Int.natCast_ediv _ _).symm
      have hri : (h : Int) % (l : Int) = (r : Int) := by rw [hr]; exact (Int.natCast_emod _ _).symm
      have c0 := HM.out.1.c0; have c1 := HM.out.1.c1; have c2 := HM.out.1.c2; have c3 := HM.out.1.c3; have c4 := HM.out.1.c4
      have hqb : q < 1000000000 := Nat.lt_of_le_of_lt (by rw [hq]; exact Nat.div_le_self _ _) bh
      clear hq hr
      clear c0 c1 c2 c3 c4
      go_wp2_with fail
      go_quiet (fail)
      go_wp2_with fail
      rw [hri]
      have hdx := below_drewN wr.heap.size wr nq
      have HMX : Hid (SM (wr.drewN nq) (w.heap.size + 1) a b c d o ∧ SM (wr.drewN nq) w.heap.size 0 0 0 0 false ∧ Below w.heap.size w (wr.drewN nq) ∧ w.heap.size + 1 < (wr.drewN nq).heap.size) := Lib.hid ⟨HM.out.1.mono hdx HM.out.2.2.2, HM.out.2.1.mono hdx (by have := HM.out.2.2.2; omega), HM.out.2.2.1.trans (hdx.mono HM.out.2.2.1.size), Nat.lt_of_lt_of_le HM.out.2.2.2 hdx.size⟩
      clear hdx HM
      generalize wr.drewN nq = X at *
      have c0 := HMX.out.1.c0; have c1 := HMX.out.1.c1; have c2 := HMX.out.1.c2; have c3 := HMX.out.1.c3; have c4 := HMX.out.1.c4
      have HBD := Lib.hid (And.intro (And.intro (And.intro s1 s2) (And.intro hqb hrl)) (And.intro (And.intro bh bl) (And.intro (And.intro ba bb) (And.intro bc bd))))
      clear hqi hri g1 g2 gz s1 s2 bh bl ba bb bc bd hqb hrl hc1 hc2
      go_quiet (fail)
      obtain ⟨x', hx'⟩ : ∃ x', x' = a + q * c := ⟨_, rfl⟩
      obtain ⟨y', hy'⟩ : ∃ y', y' = b + q * d := ⟨_, rfl⟩
      have hw1 : wrap64 ((a : Int) + wrap64 ((q : Int) * (c : Int))) = (x' : Int) := by rw [hx']; exact wrap_lin HBD.out.1.1.1
      have hw2 : wrap64 ((b : Int) + wrap64 ((q : Int) * (d : Int))) = (y' : Int) := by rw [hy']; exact wrap_lin HBD.out.1.1.2
      rw [hw1, hw2]
      have g3 : decide (1000000000 ≤ (x' : Int)) = false := not_big (by rw [hx']; exact HBD.out.1.1.1)
      have g4 : decide (1000000000 ≤ (y' : Int)) = false := not_big (by rw [hy']; exact HBD.out.1.1.2)
      rw [← hx', ← hy'] at HN
      clear hx' hy' hw1 hw2 c0 c1 c2 c3 c4
      have hdy := below_drewN X.heap.size X nq
      have HMY : Hid (SM (X.drewN nq) (w.heap.size + 1) a b c d o ∧ SM (X.drewN nq) w.heap.size 0 0 0 0 false ∧ Below w.heap.size w (X.drewN nq) ∧ w.heap.size + 1 < (X.drewN nq).heap.size) := Lib.hid ⟨HMX.out.1.mono hdy HMX.out.2.2.2, HMX.out.2.1.mono hdy (by have := HMX.out.2.2.2; omega), HMX.out.2.2.1.trans (hdy.mono HMX.out.2.2.1.size), Nat.lt_of_lt_of_le HMX.out.2.2.2 hdy.size⟩
      clear hdy HMX
      generalize X.drewN nq = Y at *
      have c0 := HMY.out.1.c0; have c1 := HMY.out.1.c1; have c2 := HMY.out.1.c2; have c3 := HMY.out.1.c3; have c4 := HMY.out.1.c4
      have f0 := HMY.out.1.f 0 (by decide); have f1 := HMY.out.1.f 1 (by decide); have f2 := HMY.out.1.f 2 (by decide); have f3 := HMY.out.1.f 3 (by decide); have f4 := HMY.out.1.f 4 (by decide)
      go_wp2_with fail
      refine ⟨⟨l, r, c, d, x', y', !o, rfl, rfl, HN, Lib.hid ⟨HMY.out.1.put c d x' y' (!o), HMY.out.2.1.far (by omega) c d x' y' (!o), below_put5 HMY.out.2.2.1 (by omega) _ _ _ _ _, by simpa using HMY.out.2.2.2⟩⟩, ?_⟩
      have := HBD.out.1.2.2
      show ((r : Nat) : Int).toNat < ((l : Nat) : Int).toNat
      omega
    · have HC := Lib.hid hc
      have HP := Lib.hid (HM.out.2.1.put a b c d o)
      have c0 := HM.out.1.c0; have c1 := HM.out.1.c1; have c2 := HM.out.1.c2; have c3 := HM.out.1.c3; have c4 := HM.out.1.c4
      have e0 := HM.out.2.1.c0; have e1 := HM.out.2.1.c1; have e2 := HM.out.2.1.c2; have e3 := HM.out.2.1.c3; have e4 := HM.out.2.1.c4
      have f0 := HM.out.2.1.f 0 (by decide); have f1 := HM.out.2.1.f 1 (by decide); have f2 := HM.out.2.1.f 2 (by decide); have f3 := HM.out.2.1.f 3 (by decide); have f4 := HM.out.2.1.f 4 (by decide)
      have HB5 : Hid (Below w.heap.size w _) := Lib.hid (below_put5 HM.out.2.2.1 (Nat.le_refl w.heap.size) (.int .i64 (a : Nat)) (.int .i64 (b : Nat)) (.int .i64 (c : Nat)) (.int .i64 (d : Nat)) (.bool o))
      clear HM
      by_cases hl0 : l = 0
      · clear hc
        subst hl0
        go_wp2_with fail
        have p0 := HP.out.c0; have p1 := HP.out.c1; have p2 := HP.out.c2; have p3 := HP.out.c3; have p4 := HP.out.c4
        exact bodyPost_ret (v := .agg #[.int .i64 (a : Nat), .int .i64 (b : Nat), .int .i64 (c : Nat), .int .i64 (d : Nat), .bool o]) (by simp [results, Tryz.results263, go_sem, p0, p1, p2, p3, p4]) rfl ⟨⟨h, 0, a, b, c, d, o, HSS.out, HC.out, rfl⟩, HB5.out⟩
      · have g1 : decide (0 < (l : Int)) = true := by rw [decide_eq_true_iff]; omega
        have g2 : decide ((l : Int) ≤ (h : Int)) = false := by rw [decide_eq_false_iff_not]; omega
        have n1 : 0 < l := by omega
        have n2 : ¬ l ≤ h := by omega
        have n3 : h < l := by omega
        clear hl0 hc
        go_wp2_with fail
        have p0 := HP.out.c0; have p1 := HP.out.c1; have p2 := HP.out.c2; have p3 := HP.out.c3; have p4 := HP.out.c4
        exact bodyPost_ret (v := .agg #[.int .i64 (a : Nat), .int .i64 (b : Nat), .int .i64 (c : Nat), .int .i64 (d : Nat), .bool o]) (by simp [results, Tryz.results263, go_sem, p0, p1, p2, p3, p4]) rfl ⟨⟨h, l, a, b, c, d, o, HSS.out, HC.out, rfl⟩, HB5.out⟩
end Go.Proofs.YteaeloeebfdodaaGreatDoor
