/- Part 17 of the proofs that laws of package whole answer true at every input and leave the input as it was, where the library's variables start as the text lays them (the texts Q7, V4, V10). -/
import Derived.Test.YteaeloeebfdodaaGreatDoorX16
import Derived.Test.YteaeloeebfdodaaGreatDoorX10
set_option linter.unusedVariables false
set_option linter.unusedSimpArgs false
/- WALKS, PowMod: the reader's own function. -/
namespace Go.Proofs.YteaeloeebfdodaaGreatDoor
open Go.RowKit
/-- two variables are not one -/
def Two2 (v u : Value) : Prop := ∀ b c, v = .pointer (some ⟨b, 0, none⟩) → u = .pointer (some ⟨c, 0, none⟩) → b ≠ c
theorem two2_of {v u : Value} (h : ∀ p, v ≠ .pointer p) : Two2 v u ∧ Two2 u v := ⟨fun _ _ e _ => absurd e (h _), fun _ _ _ e => absurd e (h _)⟩
/-- a variable for a number, not written yet -/
structure Blank (w : World) (b : Nat) : Prop where
  c0 : w.cell? ⟨b, 0, none⟩ = some (.int .i64 0)
  c1 : w.cell? ⟨b, 1, none⟩ = some (.slice none 0 0)
  f0 : w.frozen? ⟨b, 0, none⟩ = false
  f1 : w.frozen? ⟨b, 1, none⟩ = false
theorem Blank.far {w : World} {b b' : Nat} (h : Blank w b) (hne : b' ≠ b) (x y : Value) : Blank ((w.setCell ⟨b', 0, none⟩ x).setCell ⟨b', 1, none⟩ y) b :=
  ⟨far1 h.c0 hne, far1 h.c1 hne, by simp only [World.frozen?_setCell]; exact h.f0, by simp only [World.frozen?_setCell]; exact h.f1⟩
/-- a variable that holds a number -/
def NumAt (w : World) (b : Nat) (x : Int) : Prop := ∃ a c, w.cell? ⟨b, 0, none⟩ = some (.int .i64 x.sign) ∧ w.cell? ⟨b, 1, none⟩ = some (.slice a (Wh.limbs x.natAbs).length c) ∧ Sl w (.slice a (Wh.limbs x.natAbs).length c) (Wh.limbs x.natAbs)
theorem NumAt.mono {w w' : World} {b : Nat} {x : Int} (h : NumAt w b x) (hb : Below w.heap.size w w') (hl : b < w.heap.size) : NumAt w' b x := by
  obtain ⟨a, c, h0, h1, h2⟩ := h
  exact ⟨a, c, (hb.cell (p := ⟨b, 0, none⟩) hl).trans h0, (hb.cell (p := ⟨b, 1, none⟩) hl).trans h1, h2.mono hb⟩
theorem Blank.put {w : World} {b : Nat} {x : Int} {a : Option Addr} {c : Nat} (h : Blank w b) (hs : Sl w (.slice a (Wh.limbs x.natAbs).length c) (Wh.limbs x.natAbs)) : NumAt ((w.setCell ⟨b, 0, none⟩ (.int .i64 x.sign)).setCell ⟨b, 1, none⟩ (.slice a (Wh.limbs x.natAbs).length c)) b x := by
  obtain ⟨t0, t1⟩ := two_cells w b (.int .i64 x.sign) (.slice a (Wh.limbs x.natAbs).length c) h.c0 h.c1
  exact ⟨a, c, t0, t1, hs.store2 b h.c0 h.c1 _ _⟩
theorem NumAt.far {w : World} {b b' : Nat} {z : Int} (h : NumAt w b z) (k : Blank w b') (hne : b' ≠ b) (x y : Value) : NumAt ((w.setCell ⟨b', 0, none⟩ x).setCell ⟨b', 1, none⟩ y) b z := by
  obtain ⟨a, c, h0, h1, h2⟩ := h
  exact ⟨a, c, far1 h0 hne, far1 h1 hne, h2.store2 b' k.c0 k.c1 _ _⟩
theorem Fresh.blank {n : Nat} {w : World} {v : Value} (h : Fresh n w v) : ∃ b, v = .pointer (some ⟨b, 0, none⟩) ∧ n ≤ b ∧ b < w.heap.size ∧ Blank w b := by
  obtain ⟨b, e, hn, hl, h0, h1, f0, f1⟩ := h; exact ⟨b, e, hn, hl, h0, h1, f0, f1⟩
/-- what each operation of PowMod$1's first region yields -/
def PW (n : Nat) (x y m : Int) : Nat → Value → World → Prop
  | 0, v, _ => v = txt x
  | 1, v, w => Num w v x
  | 2, v, _ => v = txt y
  | 3, v, w => Num w v y
  | 4, v, _ => v = txt m
  | 5, v, w => Num w v m
  | 6, v, w | 7, v, w | 8, v, w => Fresh n w v
  | _, v, _ => v = .bool true
theorem pw_stays (n : Nat) (x y m : Int) : ∀ i v w w', PW n x y m i v w → Below w.heap.size w w' → PW n x y m i v w' := by
  intro i v w w' h hb
  match i, h with
  | 0, h => exact h
  | 1, h => exact Num.mono h hb
  | 2, h => exact h
  | 3, h => exact Num.mono h hb
  | 4, h => exact h
  | 5, h => exact Num.mono h hb
  | 6, h => exact Fresh.mono h hb
  | 7, h => exact Fresh.mono h hb
  | 8, h => exact Fresh.mono h hb
  | _ + 9, h => exact h
theorem num_np {w : World} {v : Value} {x : Int} (h : Num w v x) : ∀ p, v ≠ .pointer p := by
  obtain ⟨s, rfl, _⟩ := h; intro p e; cases e
theorem txt_np {v : Value} {x : Int} (h : v = txt x) : ∀ p, v ≠ .pointer p := by
  rintro p rfl; unfold txt at h; cases h
theorem pw_old {n : Nat} {x y m : Int} {j : Nat} {u : Value} {w : World} (h : PW n x y m j u w) : ∀ c, u = .pointer (some ⟨c, 0, none⟩) → c < w.heap.size := by
  intro c e
  subst e
  match j, h with
  | 0, h => exact absurd rfl (txt_np h _)
  | 1, h => exact absurd rfl (num_np h _)
  | 2, h => exact absurd rfl (txt_np h _)
  | 3, h => exact absurd rfl (num_np h _)
  | 4, h => exact absurd rfl (txt_np h _)
  | 5, h => exact absurd rfl (num_np h _)
  | 6, h | 7, h | 8, h =>
    obtain ⟨b, e, _, hl, _⟩ := h
    cases e; exact hl
  | _ + 9, h => cases h
theorem pw_new {n : Nat} {x y m : Int} {w : World} (B : Nat) (hB : w.heap.size ≤ B) : ∀ j u, PW n x y m j u w → Two2 (.pointer (some ⟨B, 0, none⟩)) u ∧ Two2 u (.pointer (some ⟨B, 0, none⟩)) := by
  intro j u h
  refine ⟨fun b c e1 e2 => ?_, fun b c e1 e2 => ?_⟩
  · cases e1; have := pw_old h c e2; omega
  · cases e2; have := pw_old h b e1; omega
theorem sign_any (w : World) (x : Int) (a : Option Addr) (n c : Nat) :
    Calls Tryz.prog 103 #[.agg #[.int .i64 x, .slice a n c]] w fun e w' => e = .returned (.int .i64 x) ∧ Below w.heap.size w w' := by
  go_enter Tryz.func103, Tryz.ntmps103
  go_wp2
  go_ret
  exact ⟨rfl, (Below.refl _ _).alloc (Nat.le_refl _) _⟩
end Go.Proofs.YteaeloeebfdodaaGreatDoor

/- WALKS, powers 1: Power, of numbers that are not long. -/
namespace Go.Proofs.YteaeloeebfdodaaGreatDoor
open Go.RowKit
/-- a variable that holds a number and may be written -/
structure NumBox (w : World) (b : Nat) (x : Int) : Prop where
  num : NumAt w b x
  f0 : w.frozen? ⟨b, 0, none⟩ = false
  f1 : w.frozen? ⟨b, 1, none⟩ = false
theorem NumBox.mono {w w' : World} {b : Nat} {x : Int} (h : NumBox w b x) (hb : Below w.heap.size w w') (hl : b < w.heap.size) : NumBox w' b x :=
  ⟨h.num.mono hb hl, (hb.frozen (p := ⟨b, 0, none⟩) hl).trans h.f0, (hb.frozen (p := ⟨b, 1, none⟩) hl).trans h.f1⟩
theorem Blank.mono {w w' : World} {b : Nat} (h : Blank w b) (hb : Below w.heap.size w w') (hl : b < w.heap.size) : Blank w' b :=
  ⟨(hb.cell (p := ⟨b, 0, none⟩) hl).trans h.c0, (hb.cell (p := ⟨b, 1, none⟩) hl).trans h.c1, (hb.frozen (p := ⟨b, 0, none⟩) hl).trans h.f0, (hb.frozen (p := ⟨b, 1, none⟩) hl).trans h.f1⟩
theorem NumBox.put {w : World} {b : Nat} {x z : Int} {a : Option Addr} {c : Nat} (h : NumBox w b x) (hs : Sl w (.slice a (Wh.limbs z.natAbs).length c) (Wh.limbs z.natAbs)) : NumBox ((w.setCell ⟨b, 0, none⟩ (.int .i64 z.sign)).setCell ⟨b, 1, none⟩ (.slice a (Wh.limbs z.natAbs).length c)) b z := by
  obtain ⟨⟨a', c', h0, h1, h2⟩, f0, f1⟩ := h
  obtain ⟨t0, t1⟩ := two_cells w b (.int .i64 z.sign) (.slice a (Wh.limbs z.natAbs).length c) h0 h1
  exact ⟨⟨a, c, t0, t1, hs.two b h0 h1 (nl_int _) (nl_slice _ _ _) _ _⟩, by simp only [World.frozen?_setCell]; exact f0, by simp only [World.frozen?_setCell]; exact f1⟩
theorem NumBox.far {w : World} {b b' : Nat} {z y : Int} (h : NumBox w b z) (k : NumBox w b' y) (hne : b' ≠ b) (u v : Value) : NumBox ((w.setCell ⟨b', 0, none⟩ u).setCell ⟨b', 1, none⟩ v) b z := by
  obtain ⟨⟨a, c, h0, h1, h2⟩, f0, f1⟩ := h
  obtain ⟨⟨a', c', k0, k1, k2⟩, _, _⟩ := k
  exact ⟨⟨a, c, far1 h0 hne, far1 h1 hne, h2.two b' k0 k1 (nl_int _) (nl_slice _ _ _) _ _⟩, by simp only [World.frozen?_setCell]; exact f0, by simp only [World.frozen?_setCell]; exact f1⟩
/-- the memory of Power -/
structure PowM (w wr : World) (bR B : Nat) (y z : Int) : Prop where
  a : NumBox wr w.heap.size y
  r : NumBox wr bR z
  t : Blank wr (w.heap.size + 1)
  below : Below w.heap.size w wr
  lt : w.heap.size + 1 < bR
  size : bR < wr.heap.size
theorem PowM.mono {w wr w' : World} {bR B : Nat} {y z : Int} (h : PowM w wr bR B y z) (hb : Below wr.heap.size wr w') : PowM w w' bR B y z :=
  ⟨h.a.mono hb (by have := h.lt; have := h.size; omega), h.r.mono hb h.size, h.t.mono hb (by have := h.lt; have := h.size; omega), h.below.trans (hb.mono h.below.size), h.lt, Nat.lt_of_lt_of_le h.size hb.size⟩
theorem PowM.putR {w wr : World} {bR B : Nat} {y z u : Int} {a : Option Addr} {c : Nat} (h : PowM w wr bR B y z) (hs : Sl wr (.slice a (Wh.limbs u.natAbs).length c) (Wh.limbs u.natAbs)) : PowM w ((wr.setCell ⟨bR, 0, none⟩ (.int .i64 u.sign)).setCell ⟨bR, 1, none⟩ (.slice a (Wh.limbs u.natAbs).length c)) bR B y u :=
  ⟨h.a.far h.r (by have := h.lt; omega) _ _, h.r.put hs, h.t.far (by have := h.lt; omega) _ _, (h.below.setCell (by show w.heap.size ≤ bR; have := h.lt; omega) _).setCell (by show w.heap.size ≤ bR; have := h.lt; omega) _, h.lt, by simpa using h.size⟩
theorem PowM.putA {w wr : World} {bR B : Nat} {y z u : Int} {a : Option Addr} {c : Nat} (h : PowM w wr bR B y z) (hs : Sl wr (.slice a (Wh.limbs u.natAbs).length c) (Wh.limbs u.natAbs)) : PowM w ((wr.setCell ⟨w.heap.size, 0, none⟩ (.int .i64 u.sign)).setCell ⟨w.heap.size, 1, none⟩ (.slice a (Wh.limbs u.natAbs).length c)) bR B u z :=
  ⟨h.a.put hs, h.r.far h.a (by have := h.lt; omega) _ _, h.t.far (by omega) _ _, (h.below.setCell (Nat.le_refl _) _).setCell (Nat.le_refl _) _, h.lt, by simpa using h.size⟩
theorem half_odd {s v m n : Nat} (ho : v % 2 = 1) (h : s * v + m = n) : 2 * s * (v / 2) + (m + s) = n := by
  obtain ⟨k, rfl⟩ : ∃ k, v = 2 * k + 1 := ⟨v / 2, by omega⟩
  rw [show (2 * k + 1) / 2 = k by omega, Nat.mul_comm 2 s, Nat.mul_assoc]; rw [Nat.mul_add, Nat.mul_one] at h; omega
theorem half_odd1 {s v m n : Nat} (ho : v % 2 = 1) (h1 : ¬ 1 < v) (h : s * v + m = n) : s * (v / 2) + (m + s) = n := by
  obtain rfl : v = 1 := by omega
  simp at h ⊢; omega
theorem half_even {s v m n : Nat} (ho : ¬ v % 2 = 1) (h : s * v + m = n) : 2 * s * (v / 2) + m = n := by
  obtain ⟨k, rfl⟩ : ∃ k, v = 2 * k := ⟨v / 2, by omega⟩
  rw [show 2 * k / 2 = k by omega, Nat.mul_comm 2 s, Nat.mul_assoc]; exact h
theorem twice_le {s v m n : Nat} (h1 : 1 < v) (h : s * v + m = n) : 2 * s ≤ n := by
  have := Nat.mul_le_mul_left s (show 2 ≤ v by omega); omega
theorem pow_twice (x : Int) (s : Nat) : x ^ (2 * s) = x ^ s * x ^ s := by rw [Nat.two_mul, Int.pow_add]
set_option maxRecDepth 100000 in
set_option maxHeartbeats 1000000 in
theorem power_any (w : World) (x : Int) (n : Nat) (a : Option Addr) (c : Nat) (h : Sl w (.slice a (Wh.limbs x.natAbs).length c) (Wh.limbs x.natAbs)) (hn : n ≤ 100000) (hs : ∀ k, k ≤ n → (Wh.limbs (x ^ k).natAbs).length < 32) :
    Calls Tryz.prog 99 #[.agg #[.int .i64 x.sign, .slice a (Wh.limbs x.natAbs).length c], .int .i64 n] w fun e w' => (∃ v', e = .returned v' ∧ Num w' v' (x ^ n)) ∧ Below w.heap.size w w' := by
  have H := Lib.hid h; clear h
  have HS := Lib.hid hs; clear hs
  go_enter Tryz.func99, Tryz.ntmps99
  go_wp2_with fail
  refine (small_any _ 1 (by decide)).mono ?_
  rintro e w1 ⟨⟨v1, rfl, hn1⟩, hb1⟩
  obtain ⟨s1, rfl, k1⟩ := hn1
  obtain ⟨p1, c1, rfl⟩ := k1.len
  go_wp2_with fail
  have hV : Below w1.heap.size w1 (w1.alloc (Obj.cells #[Value.int IntKind.i64 1, Value.slice p1 (Wh.limbs 1).length c1] 83)) := (Below.refl _ _).alloc (Nat.le_refl _) _
  have hn1 : w.heap.size + 2 ≤ w1.heap.size := by have := hb1.size; simpa using this
  have hM0 : PowM w (w1.alloc (Obj.cells #[Value.int IntKind.i64 1, Value.slice p1 (Wh.limbs 1).length c1] 83)) w1.heap.size 0 (x ^ 1) (x ^ 0) := by
    have hal : Below w.heap.size w ((w.alloc (Obj.cells #[.int .i64 x.sign, .slice a (Wh.limbs x.natAbs).length c] 83)).alloc (Obj.cells #[.int .i64 0, .slice none 0 0] 83)) := ((Below.refl _ _).alloc (Nat.le_refl _) _).alloc (by simp) _
    have hb2 := hb1.trans (hV.mono hb1.size)
    have e1 : x ^ 1 = x := by simp [Int.pow_succ]
    have e0 : x ^ 0 = 1 := by simp
    have cc : ∀ b i, b < w.heap.size + 2 → (w1.alloc (Obj.cells #[Value.int IntKind.i64 1, Value.slice p1 (Wh.limbs 1).length c1] 83)).cell? ⟨b, i, none⟩ = _ := fun b i h => hb2.cell (p := ⟨b, i, none⟩) (by simp; omega)
    have ff : ∀ b i, b < w.heap.size + 2 → (w1.alloc (Obj.cells #[Value.int IntKind.i64 1, Value.slice p1 (Wh.limbs 1).length c1] 83)).frozen? ⟨b, i, none⟩ = _ := fun b i h => hb2.frozen (p := ⟨b, i, none⟩) (by simp; omega)
    rw [e1, e0]
    refine ⟨⟨⟨a, c, (cc _ _ (by omega)).trans (by go_simp), (cc _ _ (by omega)).trans (by go_simp), (H.out.mono hal).mono hb2⟩, (ff _ _ (by omega)).trans (by go_simp), (ff _ _ (by omega)).trans (by go_simp)⟩,
      ⟨⟨p1, c1, by go_simp, by go_simp, k1.mono hV⟩, by go_simp, by go_simp⟩,
      ⟨(cc _ _ (by omega)).trans (by go_simp), (cc _ _ (by omega)).trans (by go_simp), (ff _ _ (by omega)).trans (by go_simp), (ff _ _ (by omega)).trans (by go_simp)⟩,
      hal.trans (hb2.mono hal.size), by omega, by simp⟩
  have HM0 := Lib.hid hM0
  clear hM0 hV hb1 k1
  generalize (w1.alloc (Obj.cells #[Value.int IntKind.i64 1, Value.slice p1 (Wh.limbs 1).length c1] 83)) = V at *
  obtain ⟨bR, hbR⟩ : ∃ bR, bR = w1.heap.size := ⟨_, rfl⟩
  rw [← hbR] at HM0 ⊢
  clear hbR hn1
  go_loopw [1] (fun i wr => ∃ v s m : Nat, i = .int .i64 v ∧ v ≤ n ∧ Hid (s * v + m = n ∧ (s ≤ n ∨ v = 0)) ∧ Hid (PowM w wr bR 0 (x ^ s) (x ^ m))) (fun i _ => (intOf i).toNat)
  case atStart => exact ⟨n, 1, 0, rfl, Nat.le_refl _, Lib.hid ⟨by omega, by omega⟩, HM0⟩
  case round =>
    clear HM0
    obtain ⟨v, s, m, rfl, hv, HV, HM⟩ := hrel
    by_cases h0 : v = 0
    · subst h0
      have hm : m = n := by have := HV.out.1; omega
      subst hm
      have L := HM.out
      obtain ⟨⟨ra, rc, r0, r1, rs⟩, _, _⟩ := L.r
      obtain ⟨t0, t1, g0, g1⟩ := L.t
      have hst := rs.store2 (w.heap.size + 1) t0 t1 (.int .i64 (x ^ m).sign) (.slice ra (Wh.limbs (x ^ m).natAbs).length rc)
      have hbb := (L.below.setCell (p := ⟨w.heap.size + 1, 0, none⟩) (Nat.le_succ _) (.int .i64 (x ^ m).sign)).setCell (p := ⟨w.heap.size + 1, 1, none⟩) (Nat.le_succ _) (.slice ra (Wh.limbs (x ^ m).natAbs).length rc)
      have hcc := two_cells wr (w.heap.size + 1) (.int .i64 (x ^ m).sign) (.slice ra (Wh.limbs (x ^ m).natAbs).length rc) t0 t1
      have HST := Lib.hid (And.intro hst hbb); clear hst hbb rs L
      generalize hz : x ^ m = z at *
      have HZ := Lib.hid hz; clear hz
      go_wp2
      exact bodyPost_ret (v := .agg #[.int .i64 z.sign, .slice ra (Wh.limbs z.natAbs).length rc]) (by simp [results, Tryz.results99, go_sem, hcc]) rfl ⟨⟨_, rfl, by rw [HZ.out]; exact ⟨_, rfl, HST.out.1⟩⟩, HST.out.2⟩
    · have hsn : s ≤ n := by have := HV.out.2; omega
      have hmn : m ≤ n := by have := HV.out.1; omega
      have ly := HS.out s hsn
      have lz := HS.out m hmn
      have hdv : decide (0 < v) = true := by simp; omega
      have L := HM.out
      obtain ⟨⟨ya, yc, y0, y1, ys⟩, fa0, fa1⟩ := L.a
      obtain ⟨⟨za, zc, z0, z1, zs⟩, fr0, fr1⟩ := L.r
      clear L
      have HYS := Lib.hid ys; have HZS := Lib.hid zs; clear ys zs
      have hv2 : s * v + m = n := HV.out.1
      generalize hyx : x ^ s = y at *
      generalize hzx : x ^ m = z at *
      have HYX := Lib.hid hyx; have HZX := Lib.hid hzx; clear hyx hzx
      by_cases ho : v % 2 = 1
      · have hod : ((v : Int) % 2 == 1) = true := by rw [beq_iff_eq]; omega
        have hal : Below wr.heap.size wr (wr.alloc (Obj.cells #[Value.int IntKind.i64 y.sign, Value.slice ya (Wh.limbs y.natAbs).length yc] 83)) := (Below.refl _ _).alloc (Nat.le_refl _) _
        have hq0 : (wr.alloc (Obj.cells #[Value.int IntKind.i64 y.sign, Value.slice ya (Wh.limbs y.natAbs).length yc] 83)).cell? ⟨wr.heap.size, 0, none⟩ = some (.int .i64 y.sign) := by go_simp
        have hq1 : (wr.alloc (Obj.cells #[Value.int IntKind.i64 y.sign, Value.slice ya (Wh.limbs y.natAbs).length yc] 83)).cell? ⟨wr.heap.size, 1, none⟩ = some (.slice ya (Wh.limbs y.natAbs).length yc) := by go_simp
        have HPR := Lib.hid (product_any _ wr.heap.size z y (by simp) _ ⟨_, rfl, HZS.out.mono hal⟩ y.sign ya (Wh.limbs y.natAbs).length yc ⟨hq0, hq1, rfl, HYS.out.mono hal⟩ (by omega) (by omega) (.inl (by omega)))
        have HAL := Lib.hid hal; clear hal hq0 hq1
        by_cases h1 : 1 < v
        · have hg1 : decide (1 < v) = true := by simpa using h1
          go_wp2_with fail
          refine HPR.out.mono ?_
          rintro e Wa ⟨⟨va, rfl, hna⟩, hba⟩
          have hMa := HM.out.mono (HAL.out.trans (hba.mono HAL.out.size))
          clear hba HAL HPR
          generalize hzy : z * y = zy at *
          have HZY := Lib.hid hzy; clear hzy
          obtain ⟨sa, rfl, ka⟩ := hna
          obtain ⟨pa, ca, rfl⟩ := ka.len
          have hMb := hMa.putR ka
          clear y0 y1 fa0 fa1 z0 z1 fr0 fr1
          obtain ⟨⟨_, _, z0, z1, _⟩, fr0, fr1⟩ := hMa.r
          obtain ⟨⟨ya', yc', y0, y1, ys⟩, fa0, fa1⟩ := hMb.a
          have HMB := Lib.hid hMb; have HYSB := Lib.hid ys
          clear hMa hMb ka ys
          go_wp2_with fail
          clear z0 z1 fr0 fr1 y0 y1 fa0 fa1
          have hX : ((Wa.setCell ⟨bR, 0, none⟩ (.int .i64 zy.sign)).setCell ⟨bR, 1, none⟩ (.slice pa (Wh.limbs zy.natAbs).length ca)).heap.size = Wa.heap.size := by simp
          generalize (Wa.setCell ⟨bR, 0, none⟩ (.int .i64 zy.sign)).setCell ⟨bR, 1, none⟩ (.slice pa (Wh.limbs zy.natAbs).length ca) = X at *
          rw [← hX]
          have halB : Below X.heap.size X (X.alloc (Obj.cells #[Value.int IntKind.i64 y.sign, Value.slice ya' (Wh.limbs y.natAbs).length yc'] 83)) := (Below.refl _ _).alloc (Nat.le_refl _) _
          have hq0B : (X.alloc (Obj.cells #[Value.int IntKind.i64 y.sign, Value.slice ya' (Wh.limbs y.natAbs).length yc'] 83)).cell? ⟨X.heap.size, 0, none⟩ = some (.int .i64 y.sign) := by go_simp
          have hq1B : (X.alloc (Obj.cells #[Value.int IntKind.i64 y.sign, Value.slice ya' (Wh.limbs y.natAbs).length yc'] 83)).cell? ⟨X.heap.size, 1, none⟩ = some (.slice ya' (Wh.limbs y.natAbs).length yc') := by go_simp
          refine (product_any _ X.heap.size y y (by simp) _ ⟨_, rfl, HYSB.out.mono halB⟩ y.sign ya' (Wh.limbs y.natAbs).length yc' ⟨hq0B, hq1B, rfl, HYSB.out.mono halB⟩ (by omega) (by omega) (.inl (by omega))).mono ?_
          rintro e WB ⟨⟨vB, rfl, hnB⟩, hbB⟩
          have hMB := HMB.out.mono (halB.trans (hbB.mono halB.size))
          clear hq0B hq1B halB hbB
          generalize hyy : y * y = yy at *
          have HYY := Lib.hid hyy; clear hyy
          obtain ⟨sB, rfl, kB⟩ := hnB
          obtain ⟨pB, cB, rfl⟩ := kB.len
          have hNB := Lib.hid (hMB.putA kB)
          obtain ⟨⟨_, _, y0, y1, _⟩, fa0, fa1⟩ := hMB.a
          clear hMB kB
          go_wp2_with fail
          clear y0 y1 fa0 fa1
          refine ⟨⟨v / 2, 2 * s, (m + s), by simp, by omega, Lib.hid ⟨half_odd ho hv2, .inl (twice_le h1 hv2)⟩, by rw [pow_twice, HYX.out, HYY.out, Int.pow_add, HYX.out, HZX.out, HZY.out]; exact hNB.out⟩, by simp [intOf]; omega⟩
        · have hg1 : decide (1 < v) = false := by simpa using h1
          go_wp2_with fail
          refine HPR.out.mono ?_
          rintro e Wa ⟨⟨va, rfl, hna⟩, hba⟩
          have hMa := HM.out.mono (HAL.out.trans (hba.mono HAL.out.size))
          clear hba HAL HPR
          generalize hzy : z * y = zy at *
          have HZY := Lib.hid hzy; clear hzy
          obtain ⟨sa, rfl, ka⟩ := hna
          obtain ⟨pa, ca, rfl⟩ := ka.len
          have hMb := Lib.hid (hMa.putR ka)
          clear y0 y1 fa0 fa1 z0 z1 fr0 fr1
          obtain ⟨⟨_, _, z0, z1, _⟩, fr0, fr1⟩ := hMa.r
          clear hMa ka
          go_wp2_with fail
          refine ⟨⟨v / 2, s, (m + s), by simp, by omega, Lib.hid ⟨half_odd1 ho h1 hv2, .inr (by omega)⟩, by rw [HYX.out, Int.pow_add, HYX.out, HZX.out, HZY.out]; exact hMb.out⟩, by simp [intOf]; omega⟩
      · have hod : ((v : Int) % 2 == 1) = false := by rw [beq_eq_false_iff_ne]; omega
        have hg1 : decide (1 < v) = true := by simp; omega
        · go_wp2_with fail
          have HMA := HM; have HYSA := HYS
          clear y0 y1 fa0 fa1 z0 z1 fr0 fr1
          have halA : Below wr.heap.size wr (wr.alloc (Obj.cells #[Value.int IntKind.i64 y.sign, Value.slice ya (Wh.limbs y.natAbs).length yc] 83)) := (Below.refl _ _).alloc (Nat.le_refl _) _
          have hq0A : (wr.alloc (Obj.cells #[Value.int IntKind.i64 y.sign, Value.slice ya (Wh.limbs y.natAbs).length yc] 83)).cell? ⟨wr.heap.size, 0, none⟩ = some (.int .i64 y.sign) := by go_simp
          have hq1A : (wr.alloc (Obj.cells #[Value.int IntKind.i64 y.sign, Value.slice ya (Wh.limbs y.natAbs).length yc] 83)).cell? ⟨wr.heap.size, 1, none⟩ = some (.slice ya (Wh.limbs y.natAbs).length yc) := by go_simp
          refine (product_any _ wr.heap.size y y (by simp) _ ⟨_, rfl, HYSA.out.mono halA⟩ y.sign ya (Wh.limbs y.natAbs).length yc ⟨hq0A, hq1A, rfl, HYSA.out.mono halA⟩ (by omega) (by omega) (.inl (by omega))).mono ?_
          rintro e WA ⟨⟨vA, rfl, hnA⟩, hbA⟩
          have hMA := HMA.out.mono (halA.trans (hbA.mono halA.size))
          clear hq0A hq1A halA hbA
          generalize hyy : y * y = yy at *
          have HYY := Lib.hid hyy; clear hyy
          obtain ⟨sA, rfl, kA⟩ := hnA
          obtain ⟨pA, cA, rfl⟩ := kA.len
          have hNA := Lib.hid (hMA.putA kA)
          obtain ⟨⟨_, _, y0, y1, _⟩, fa0, fa1⟩ := hMA.a
          clear hMA kA
          go_wp2_with fail
          clear y0 y1 fa0 fa1
          refine ⟨⟨v / 2, 2 * s, m, by simp, by omega, Lib.hid ⟨half_even ho hv2, .inl (twice_le (by omega) hv2)⟩, by rw [pow_twice, HYX.out, HYY.out, HZX.out]; exact hNA.out⟩, by simp [intOf]; omega⟩
end Go.Proofs.YteaeloeebfdodaaGreatDoor

/- WALKS, powers 3: whole.Pow. -/
namespace Go.Proofs.YteaeloeebfdodaaGreatDoor
open Go.RowKit
theorem wrap_i64 (z : Int) (h : -9223372036854775808 ≤ z) (h' : z ≤ 9223372036854775807) : IntKind.i64.wrap z = z := by rw [IntKind.wrap_i64]; omega
end Go.Proofs.YteaeloeebfdodaaGreatDoor
