/- Part 12 of the proofs that laws of package whole answer true at every input and leave the input as it was, where the library's variables start as the text lays them (the texts D3, D4, D5, P1, D6). -/
import Derived.Test.YteaeloeebfdodaaGreatDoorX11
import Derived.OrdersHeld
import Derived.Deep.RegionHeld3
set_option linter.unusedVariables false
set_option linter.unusedSimpArgs false
/- WALKS, division 3: divide, by one limb. -/
namespace Go.Proofs.YteaeloeebfdodaaGreatDoor
open Go.RowKit
theorem tdiv_signs (x y : Int) : x.sign * y.sign * ((x.natAbs / y.natAbs : Nat) : Int) = x.tdiv y := by
  rcases Int.lt_trichotomy x 0 with hx | hx | hx
  · rcases Int.lt_trichotomy y 0 with hy | hy | hy
    · rw [Int.sign_eq_neg_one_of_neg hx, Int.sign_eq_neg_one_of_neg hy]
      obtain ⟨a, rfl⟩ : ∃ a : Nat, x = -(a : Int) := ⟨x.natAbs, by omega⟩
      obtain ⟨b, rfl⟩ : ∃ b : Nat, y = -(b : Int) := ⟨y.natAbs, by omega⟩
      rw [Int.neg_tdiv, Int.tdiv_neg, Int.natAbs_neg, Int.natAbs_neg, Int.natAbs_natCast, Int.natAbs_natCast, Int.neg_neg, ← Int.ofNat_tdiv]; omega
    · subst hy; simp
    · rw [Int.sign_eq_neg_one_of_neg hx, Int.sign_eq_one_of_pos hy]
      obtain ⟨a, rfl⟩ : ∃ a : Nat, x = -(a : Int) := ⟨x.natAbs, by omega⟩
      obtain ⟨b, rfl⟩ : ∃ b : Nat, y = (b : Int) := ⟨y.natAbs, by omega⟩
      rw [Int.neg_tdiv, Int.natAbs_neg, Int.natAbs_natCast, Int.natAbs_natCast, ← Int.ofNat_tdiv]; omega
  · subst hx; simp
  · rcases Int.lt_trichotomy y 0 with hy | hy | hy
    · rw [Int.sign_eq_one_of_pos hx, Int.sign_eq_neg_one_of_neg hy]
      obtain ⟨a, rfl⟩ : ∃ a : Nat, x = (a : Int) := ⟨x.natAbs, by omega⟩
      obtain ⟨b, rfl⟩ : ∃ b : Nat, y = -(b : Int) := ⟨y.natAbs, by omega⟩
      rw [Int.tdiv_neg, Int.natAbs_neg, Int.natAbs_natCast, Int.natAbs_natCast, ← Int.ofNat_tdiv]; omega
    · subst hy; simp
    · rw [Int.sign_eq_one_of_pos hx, Int.sign_eq_one_of_pos hy]
      obtain ⟨a, rfl⟩ : ∃ a : Nat, x = (a : Int) := ⟨x.natAbs, by omega⟩
      obtain ⟨b, rfl⟩ : ∃ b : Nat, y = (b : Int) := ⟨y.natAbs, by omega⟩
      rw [Int.natAbs_natCast, Int.natAbs_natCast, ← Int.ofNat_tdiv]; omega
theorem tmod_signs (x y : Int) : x.sign * ((x.natAbs % y.natAbs : Nat) : Int) = x.tmod y := by
  rcases Int.lt_trichotomy x 0 with hx | hx | hx
  · rw [Int.sign_eq_neg_one_of_neg hx]
    obtain ⟨a, rfl⟩ : ∃ a : Nat, x = -(a : Int) := ⟨x.natAbs, by omega⟩
    rw [Int.neg_tmod, Int.natAbs_neg, Int.natAbs_natCast]
    rcases Int.lt_trichotomy y 0 with hy | hy | hy
    · obtain ⟨b, rfl⟩ : ∃ b : Nat, y = -(b : Int) := ⟨y.natAbs, by omega⟩
      rw [Int.tmod_neg, Int.natAbs_neg, Int.natAbs_natCast, ← Int.ofNat_tmod]; omega
    · subst hy; simp
    · obtain ⟨b, rfl⟩ : ∃ b : Nat, y = (b : Int) := ⟨y.natAbs, by omega⟩
      rw [Int.natAbs_natCast, ← Int.ofNat_tmod]; omega
  · subst hx; simp
  · rw [Int.sign_eq_one_of_pos hx]
    obtain ⟨a, rfl⟩ : ∃ a : Nat, x = (a : Int) := ⟨x.natAbs, by omega⟩
    rw [Int.natAbs_natCast]
    rcases Int.lt_trichotomy y 0 with hy | hy | hy
    · obtain ⟨b, rfl⟩ : ∃ b : Nat, y = -(b : Int) := ⟨y.natAbs, by omega⟩
      rw [Int.tmod_neg, Int.natAbs_neg, Int.natAbs_natCast, ← Int.ofNat_tmod]; omega
    · subst hy; simp
    · obtain ⟨b, rfl⟩ : ∃ b : Nat, y = (b : Int) := ⟨y.natAbs, by omega⟩
      rw [Int.natAbs_natCast, ← Int.ofNat_tmod]; omega
structure Laid4 (w W : World) (a0 a1 b0 b1 q0 q1 r0 r1 : Value) : Prop where
  a0 : W.cell? ⟨w.heap.size, 0, none⟩ = some a0
  a1 : W.cell? ⟨w.heap.size, 1, none⟩ = some a1
  b0 : W.cell? ⟨w.heap.size + 1, 0, none⟩ = some b0
  b1 : W.cell? ⟨w.heap.size + 1, 1, none⟩ = some b1
  q0 : W.cell? ⟨w.heap.size + 1 + 1, 0, none⟩ = some q0
  q1 : W.cell? ⟨w.heap.size + 1 + 1, 1, none⟩ = some q1
  r0 : W.cell? ⟨w.heap.size + 1 + 1 + 1, 0, none⟩ = some r0
  r1 : W.cell? ⟨w.heap.size + 1 + 1 + 1, 1, none⟩ = some r1
  f0 : W.frozen? ⟨w.heap.size + 1 + 1, 0, none⟩ = false
  f1 : W.frozen? ⟨w.heap.size + 1 + 1, 1, none⟩ = false
  g0 : W.frozen? ⟨w.heap.size + 1 + 1 + 1, 0, none⟩ = false
  g1 : W.frozen? ⟨w.heap.size + 1 + 1 + 1, 1, none⟩ = false
  size : w.heap.size + 4 ≤ W.heap.size
  below : Below w.heap.size w W
theorem laid4_new (w : World) (a0 a1 b0 b1 q0 q1 r0 r1 : Value) (t : TypeId) : Laid4 w ((((w.alloc (Obj.cells #[a0, a1] t)).alloc (Obj.cells #[b0, b1] t)).alloc (Obj.cells #[q0, q1] t)).alloc (Obj.cells #[r0, r1] t)) a0 a1 b0 b1 q0 q1 r0 r1 := by
  refine ⟨by go_simp, by go_simp, by go_simp, by go_simp, by go_simp, by go_simp, by go_simp, by go_simp, by go_simp, by go_simp, by go_simp, by go_simp, by simp, ?_⟩
  exact ((((Below.refl _ _).alloc (Nat.le_refl _) _).alloc (by simp) _).alloc (by simp; omega) _).alloc (by simp; omega) _
theorem Laid4.mono {w W W' : World} {a0 a1 b0 b1 q0 q1 r0 r1 : Value} (h : Laid4 w W a0 a1 b0 b1 q0 q1 r0 r1) (hb : Below W.heap.size W W') : Laid4 w W' a0 a1 b0 b1 q0 q1 r0 r1 := by
  have hs := h.size
  have c : ∀ b i, b < w.heap.size + 4 → W'.cell? ⟨b, i, none⟩ = W.cell? ⟨b, i, none⟩ := fun b i hi => hb.cell (p := ⟨b, i, none⟩) (by show b < _; omega)
  have f : ∀ b i, b < w.heap.size + 4 → W'.frozen? ⟨b, i, none⟩ = W.frozen? ⟨b, i, none⟩ := fun b i hi => hb.frozen (p := ⟨b, i, none⟩) (by show b < _; omega)
  exact ⟨(c _ _ (by omega)).trans h.a0, (c _ _ (by omega)).trans h.a1, (c _ _ (by omega)).trans h.b0, (c _ _ (by omega)).trans h.b1, (c _ _ (by omega)).trans h.q0, (c _ _ (by omega)).trans h.q1, (c _ _ (by omega)).trans h.r0, (c _ _ (by omega)).trans h.r1,
    (f _ _ (by omega)).trans h.f0, (f _ _ (by omega)).trans h.f1, (f _ _ (by omega)).trans h.g0, (f _ _ (by omega)).trans h.g1, Nat.le_trans h.size hb.size, h.below.trans (hb.mono (by have := h.below.size; omega))⟩
theorem sign_cases_q (x y : Int) (hy : 0 < y.natAbs) : x.sign * y.sign = -1 ∨ x.sign * y.sign = 1 ∨ x.natAbs / y.natAbs = 0 := by
  have hy' : y.sign = -1 ∨ y.sign = 1 := by
    rcases Int.lt_trichotomy y 0 with h | h | h
    · exact .inl (Int.sign_eq_neg_one_of_neg h)
    · omega
    · exact .inr (Int.sign_eq_one_of_pos h)
  rcases Int.lt_trichotomy x 0 with h | h | h
  · rw [Int.sign_eq_neg_one_of_neg h]; rcases hy' with e | e <;> rw [e] <;> simp
  · subst h; simp
  · rw [Int.sign_eq_one_of_pos h]; rcases hy' with e | e <;> rw [e] <;> simp
theorem limbs_one_of {n : Nat} (h : 0 < n ∧ n < 1000000000) : Wh.limbs n = [n] := by
  rw [Wh.limbs]
  simp [show n ≠ 0 by omega, Wh.R_eq, Nat.mod_eq_of_lt h.2, Nat.div_eq_of_lt h.2, Wh.limbs_zero]
set_option maxRecDepth 100000 in
set_option maxHeartbeats 2000000 in
theorem quo_short (w : World) (va vb : Value) (x y : Int) (ha : Num w va x) (hb : Num w vb y) (hla : (Wh.limbs x.natAbs).length ≤ 1000) (hy : 0 < y.natAbs ∧ y.natAbs < 1000000000) :
    Calls Tryz.prog 196 #[va, vb] w fun e w' => (∃ vq vr, e = .returned (.tuple #[vq, vr]) ∧ Num w' vq (x.tdiv y) ∧ Num w' vr (x.tmod y)) ∧ Below w.heap.size w w' := by
  obtain ⟨sa, rfl, hsa⟩ := ha
  obtain ⟨sb, rfl, hsb⟩ := hb
  rw [limbs_one_of hy] at hsb
  obtain ⟨aa, ca, rfl⟩ := hsa.len
  obtain ⟨ab, cb, rfl⟩ := hsb.len
  have HL := laid4_new w (.int .i64 x.sign) (.slice aa (Wh.limbs x.natAbs).length ca) (.int .i64 y.sign) (.slice ab 1 cb) (.int .i64 0) (.slice none 0 0) (.int .i64 0) (.slice none 0 0) 83
  generalize hsx : x.sign = sx at *
  generalize hsy : y.sign = sy at *
  have HSX := Lib.hid hsx; clear hsx
  have HSY := Lib.hid hsy; clear hsy
  have HA := Lib.hid hsa; clear hsa
  have HB := Lib.hid hsb; clear hsb
  go_enter Tryz.func196, Tryz.ntmps196
  go_wp2_with fail
  generalize (((w.alloc (Obj.cells #[Value.int IntKind.i64 sx, Value.slice aa (Wh.limbs x.natAbs).length ca] 83)).alloc (Obj.cells #[Value.int IntKind.i64 sy, Value.slice ab 1 cb] 83)).alloc (Obj.cells #[Value.int IntKind.i64 0, Value.slice none 0 0] 83)).alloc (Obj.cells #[Value.int IntKind.i64 0, Value.slice none 0 0] 83) = W at *
  refine (divideLimbs_short W _ _ (Wh.limbs x.natAbs) y.natAbs (HA.out.mono HL.below) (Wh.ok_limbs _) hla (HB.out.mono HL.below) ⟨hy.1, by omega⟩).mono ?_
  rintro e w1 ⟨⟨aq, cq, ar, cr, rfl, hcq, hcr, hq, hr⟩, hb1⟩
  have L1 := HL.mono hb1
  clear HL hb1
  have hvq : Wh.val (Wh.trimL (Wh.quo (Wh.limbs x.natAbs) y.natAbs)) = x.natAbs / y.natAbs := by rw [Wh.trimL, Wh.val_limbs, Wh.val_quo _ _ hy.1, Wh.val_limbs]
  have hoq : Wh.Ok (Wh.trimL (Wh.quo (Wh.limbs x.natAbs) y.natAbs)) := by rw [Wh.trimL]; exact Wh.ok_limbs _
  have hvr : Wh.val (Wh.trimL [Wh.val (Wh.limbs x.natAbs) % y.natAbs]) = x.natAbs % y.natAbs := by rw [Wh.trimL, Wh.val_limbs, Wh.val_limbs]; simp [Wh.val]
  have hor : Wh.Ok (Wh.trimL [Wh.val (Wh.limbs x.natAbs) % y.natAbs]) := by rw [Wh.trimL]; exact Wh.ok_limbs _
  generalize Wh.trimL (Wh.quo (Wh.limbs x.natAbs) y.natAbs) = lq at *
  generalize Wh.trimL [Wh.val (Wh.limbs x.natAbs) % y.natAbs] = lr at *
  have HQ := Lib.hid hq; clear hq
  have HR := Lib.hid hr; clear hr
  have HVQ := Lib.hid hvq; clear hvq
  have HVR := Lib.hid hvr; clear hvr
  have HOQ := Lib.hid hoq; clear hoq
  have HOR := Lib.hid hor; clear hor
  have k0 := L1.a0
  have k1 := L1.b0
  have HL1 := Lib.hid L1; clear L1
  have hxs : -1 ≤ sx ∧ sx ≤ 1 := by rw [← HSX.out]; rcases Int.lt_trichotomy x 0 with h | h | h <;> simp [Int.sign_eq_neg_one_of_neg, Int.sign_eq_one_of_pos, h]
  have hys : -1 ≤ sy ∧ sy ≤ 1 := by rw [← HSY.out]; rcases Int.lt_trichotomy y 0 with h | h | h <;> simp [Int.sign_eq_neg_one_of_neg, Int.sign_eq_one_of_pos, h]
  obtain ⟨td, htd⟩ : ∃ t, x.tdiv y = t := ⟨_, rfl⟩
  obtain ⟨tm, htm⟩ : ∃ t, x.tmod y = t := ⟨_, rfl⟩
  have hvq : sx * sy * (Wh.val lq : Int) = td := by rw [HVQ.out, ← HSX.out, ← HSY.out, tdiv_signs, htd]
  have hvr : sx * (Wh.val lr : Int) = tm := by rw [HVR.out, ← HSX.out, tmod_signs, htm]
  have hcq1 : sx * sy = -1 ∨ sx * sy = 1 ∨ Wh.val lq = 0 := by
    rw [HVQ.out, ← HSX.out, ← HSY.out]
    exact sign_cases_q x y hy.1
  have hcr1 : sx = -1 ∨ sx = 1 ∨ Wh.val lr = 0 := by
    rw [HVR.out, ← HSX.out]
    rcases Int.lt_trichotomy x 0 with h | h | h
    · exact .inl (Int.sign_eq_neg_one_of_neg h)
    · subst h; simp
    · exact .inr (.inl (Int.sign_eq_one_of_pos h))
  have HTQ := Lib.hid hvq; clear hvq
  have HTR := Lib.hid hvr; clear hvr
  have HCQ := Lib.hid hcq1; clear hcq1
  have HCR := Lib.hid hcr1; clear hcr1
  have HTD := Lib.hid htd
  have HTM := Lib.hid htm
  clear htd htm
  go_wp2_with fail
  have hsmq : Small (.slice aq lq.length cq) := by intro p n c h; cases h; exact hcq
  have hsmr : Small (.slice ar lr.length cr) := by intro p n c h; cases h; exact hcr
  go_region_held3 (fun w' => w'.cell? ⟨w.heap.size, 0, none⟩ = some (.int .i64 sx) ∧ w'.cell? ⟨w.heap.size + 1, 0, none⟩ = some (.int .i64 sy)) (first | exact q3 | exact q2 | exact ⟨far1 q3.1 (by omega), far1 q3.2 (by omega)⟩ | exact ⟨far1 (far1 q3.1 (by omega)) (by omega), far1 (far1 q3.2 (by omega)) (by omega)⟩ | go_keep) (first
    | ((with_reducible go_at_call 197); (with_reducible refine (with_any _ _ hxs hys _).mono ?_); rintro e w' ⟨rfl, rfl⟩)
    | ((go_at_call 191); (have hdl : Below w1.heap.size w1 _ := drew_left hb2); (with_reducible refine (signed_any sx (.slice ar lr.length cr) lr _ HOR.out (HR.out.mono hdl) hsmr HCR.out).mono ?_); rintro e w3 ⟨⟨v3, rfl, hn⟩, hb3⟩; rw [HTR.out] at hn; obtain ⟨sl3, rfl, hsl3⟩ := hn; obtain ⟨xa3, xc3, rfl⟩ := hsl3.len; have L3 := HL2.out.mono hb3; have q3 := And.intro L3.a0 L3.b0; obtain ⟨-, -, -, -, m0, m1, n0, n1, i0, i1, j0, j1, -, -⟩ := L3)
    | ((go_at_call 191); (with_reducible refine (signed_any (sx * sy) (.slice aq lq.length cq) lq _ HOQ.out (HQ.out.mono (Below.refl _ _).drew) hsmq HCQ.out).mono ?_); rintro e w2 ⟨⟨v2, rfl, hn⟩, hb2⟩; rw [HTQ.out] at hn; obtain ⟨sl2, rfl, hsl2⟩ := hn; obtain ⟨xa2, xc2, rfl⟩ := hsl2.len; have L2 := HL1.out.mono (drew_left hb2); have q2 := And.intro L2.a0 L2.b0; have HL2 := Lib.hid L2; clear L2))
  go_wp2
  have hT : Two w3 (w.heap.size + 1 + 1) := ⟨m0, m1, n0, n1, i0, i1, j0, j1⟩
  have hB3 : Below w.heap.size w w3 := (HL2.out.mono hb3).below
  obtain ⟨r0, r1, r2, r3⟩ := hT.read (.int .i64 td.sign) (.slice xa2 (Wh.limbs td.natAbs).length xc2) (.int .i64 tm.sign) (.slice xa3 (Wh.limbs tm.natAbs).length xc3)
  have S2 := hT.sl (hsl2.mono hb3) (.int .i64 td.sign) (.slice xa2 (Wh.limbs td.natAbs).length xc2) (.int .i64 tm.sign) (.slice xa3 (Wh.limbs tm.natAbs).length xc3)
  have S3 := hT.sl hsl3 (.int .i64 td.sign) (.slice xa2 (Wh.limbs td.natAbs).length xc2) (.int .i64 tm.sign) (.slice xa3 (Wh.limbs tm.natAbs).length xc3)
  have hB := Two.below hB3 (show w.heap.size ≤ w.heap.size + 1 + 1 by omega) (.int .i64 td.sign) (.slice xa2 (Wh.limbs td.natAbs).length xc2) (.int .i64 tm.sign) (.slice xa3 (Wh.limbs tm.natAbs).length xc3)
  exact bodyPost_ret (v := .tuple #[.agg #[.int .i64 td.sign, .slice xa2 (Wh.limbs td.natAbs).length xc2], .agg #[.int .i64 tm.sign, .slice xa3 (Wh.limbs tm.natAbs).length xc3]]) (by unfold put22 at *; simp [results, Tryz.results196, go_sem, r0, r1, r2, r3]) rfl ⟨⟨_, _, rfl, by rw [HTD.out]; exact ⟨_, rfl, S2⟩, by rw [HTM.out]; exact ⟨_, rfl, S3⟩⟩, hB⟩
end Go.Proofs.YteaeloeebfdodaaGreatDoor

/- WALKS, division 4: Floor, over what Quo does. -/
namespace Go.Proofs.YteaeloeebfdodaaGreatDoor
open Go.RowKit
theorem limbs_mono {a b : Nat} (h : a ≤ b) : (Wh.limbs a).length ≤ (Wh.limbs b).length := by
  rcases Nat.lt_or_ge (Wh.limbs b).length (Wh.limbs a).length with h1 | h1
  · have := Wh.limbs_lt_of_length h1; omega
  · exact h1
theorem fit_tdiv {x y : Int} (h : Fit x) : Fit (x.tdiv y) := by
  unfold Fit at *
  have e : (x.tdiv y).natAbs = x.natAbs / y.natAbs := Int.natAbs_tdiv x y
  rw [e]
  have := limbs_mono (Nat.div_le_self x.natAbs y.natAbs)
  omega
theorem fit_tmod {x y : Int} (h : Fit x) : Fit (x.tmod y) := by
  unfold Fit at *
  have e : (x.tmod y).natAbs = x.natAbs % y.natAbs := Int.natAbs_tmod x y
  rw [e]
  have := limbs_mono (Nat.mod_le x.natAbs y.natAbs)
  omega
theorem fit_one : Fit 1 := by unfold Fit; rw [show ((1 : Int).natAbs) = 1 from rfl, limbs_one]; decide
/-- what holds in Floor behind the first stores: the divisor, and the two results -/
structure Fl (w W : World) (b0 b1 q0 q1 r0 r1 : Value) : Prop where
  b0 : W.cell? ⟨w.heap.size + 1, 0, none⟩ = some b0
  b1 : W.cell? ⟨w.heap.size + 1, 1, none⟩ = some b1
  q0 : W.cell? ⟨w.heap.size + 1 + 1, 0, none⟩ = some q0
  q1 : W.cell? ⟨w.heap.size + 1 + 1, 1, none⟩ = some q1
  r0 : W.cell? ⟨w.heap.size + 1 + 1 + 1, 0, none⟩ = some r0
  r1 : W.cell? ⟨w.heap.size + 1 + 1 + 1, 1, none⟩ = some r1
  f0 : W.frozen? ⟨w.heap.size + 1 + 1, 0, none⟩ = false
  f1 : W.frozen? ⟨w.heap.size + 1 + 1, 1, none⟩ = false
  g0 : W.frozen? ⟨w.heap.size + 1 + 1 + 1, 0, none⟩ = false
  g1 : W.frozen? ⟨w.heap.size + 1 + 1 + 1, 1, none⟩ = false
  size : w.heap.size + 4 ≤ W.heap.size
  below : Below w.heap.size w W
theorem Laid4.fl {w W : World} {a0 a1 b0 b1 q0 q1 r0 r1 : Value} (h : Laid4 w W a0 a1 b0 b1 q0 q1 r0 r1) : Fl w W b0 b1 q0 q1 r0 r1 := ⟨h.b0, h.b1, h.q0, h.q1, h.r0, h.r1, h.f0, h.f1, h.g0, h.g1, h.size, h.below⟩
theorem Fl.mono {w W W' : World} {b0 b1 q0 q1 r0 r1 : Value} (h : Fl w W b0 b1 q0 q1 r0 r1) (hb : Below W.heap.size W W') : Fl w W' b0 b1 q0 q1 r0 r1 := by
  have hs := h.size
  have c : ∀ b i, b < w.heap.size + 4 → W'.cell? ⟨b, i, none⟩ = W.cell? ⟨b, i, none⟩ := fun b i hi => hb.cell (p := ⟨b, i, none⟩) (by show b < _; omega)
  have f : ∀ b i, b < w.heap.size + 4 → W'.frozen? ⟨b, i, none⟩ = W.frozen? ⟨b, i, none⟩ := fun b i hi => hb.frozen (p := ⟨b, i, none⟩) (by show b < _; omega)
  exact ⟨(c _ _ (by omega)).trans h.b0, (c _ _ (by omega)).trans h.b1, (c _ _ (by omega)).trans h.q0, (c _ _ (by omega)).trans h.q1, (c _ _ (by omega)).trans h.r0, (c _ _ (by omega)).trans h.r1,
    (f _ _ (by omega)).trans h.f0, (f _ _ (by omega)).trans h.f1, (f _ _ (by omega)).trans h.g0, (f _ _ (by omega)).trans h.g1, Nat.le_trans h.size hb.size, h.below.trans (hb.mono (by have := h.below.size; omega))⟩
theorem Fl.putq {w W : World} {b0 b1 q0 q1 r0 r1 : Value} (h : Fl w W b0 b1 q0 q1 r0 r1) (x0 x1 : Value) : Fl w ((W.setCell ⟨w.heap.size + 1 + 1, 0, none⟩ x0).setCell ⟨w.heap.size + 1 + 1, 1, none⟩ x1) b0 b1 x0 x1 r0 r1 := by
  obtain ⟨e0, e1⟩ := two_cells W (w.heap.size + 1 + 1) x0 x1 h.q0 h.q1
  exact ⟨far1 h.b0 (by omega), far1 h.b1 (by omega), e0, e1, far1 h.r0 (by omega), far1 h.r1 (by omega), by simp only [World.frozen?_setCell]; exact h.f0, by simp only [World.frozen?_setCell]; exact h.f1, by simp only [World.frozen?_setCell]; exact h.g0, by simp only [World.frozen?_setCell]; exact h.g1,
    by simpa using h.size, (h.below.setCell (by show w.heap.size ≤ w.heap.size + 1 + 1; omega) _).setCell (by show w.heap.size ≤ w.heap.size + 1 + 1; omega) _⟩
theorem Fl.putr {w W : World} {b0 b1 q0 q1 r0 r1 : Value} (h : Fl w W b0 b1 q0 q1 r0 r1) (x0 x1 : Value) : Fl w ((W.setCell ⟨w.heap.size + 1 + 1 + 1, 0, none⟩ x0).setCell ⟨w.heap.size + 1 + 1 + 1, 1, none⟩ x1) b0 b1 q0 q1 x0 x1 := by
  obtain ⟨e0, e1⟩ := two_cells W (w.heap.size + 1 + 1 + 1) x0 x1 h.r0 h.r1
  exact ⟨far1 h.b0 (by omega), far1 h.b1 (by omega), far1 h.q0 (by omega), far1 h.q1 (by omega), e0, e1, by simp only [World.frozen?_setCell]; exact h.f0, by simp only [World.frozen?_setCell]; exact h.f1, by simp only [World.frozen?_setCell]; exact h.g0, by simp only [World.frozen?_setCell]; exact h.g1,
    by simpa using h.size, (h.below.setCell (by show w.heap.size ≤ w.heap.size + 1 + 1 + 1; omega) _).setCell (by show w.heap.size ≤ w.heap.size + 1 + 1 + 1; omega) _⟩
theorem Sl.two {w : World} {v : Value} {l : List Nat} (h : Sl w v l) (b : Nat) {x0 x1 : Value} (k0 : w.cell? ⟨b, 0, none⟩ = some x0) (k1 : w.cell? ⟨b, 1, none⟩ = some x1) (n0 : NoLimb x0) (n1 : NoLimb x1) (x y : Value) :
    Sl ((w.setCell ⟨b, 0, none⟩ x).setCell ⟨b, 1, none⟩ y) v l :=
  (h.store _ k0 n0 x).store _ (u := x1) (by rw [World.cell?_setCell_other _ _ _ _ (off_ne (by decide))]; exact k1) n1 y
/-- what the results hold -/
structure FlNum (w W : World) (b1 : Value) (y q r : Int) : Prop where
  held : ∃ qa qc ra rc, Fl w W (.int .i64 y.sign) b1 (.int .i64 q.sign) (.slice qa (Wh.limbs q.natAbs).length qc) (.int .i64 r.sign) (.slice ra (Wh.limbs r.natAbs).length rc) ∧ Sl W (.slice qa (Wh.limbs q.natAbs).length qc) (Wh.limbs q.natAbs) ∧ Sl W (.slice ra (Wh.limbs r.natAbs).length rc) (Wh.limbs r.natAbs)
theorem Fl.num {w W : World} {b1 q1 r1 : Value} {y : Int} {z0 z2 : Int} (h : Fl w W (.int .i64 y.sign) b1 (.int .i64 z0) q1 (.int .i64 z2) r1) (n1 : NoLimb q1) (n3 : NoLimb r1) {q r : Int} {qa ra : Option Addr} {qc rc : Nat}
    (hq : Sl W (.slice qa (Wh.limbs q.natAbs).length qc) (Wh.limbs q.natAbs)) (hr : Sl W (.slice ra (Wh.limbs r.natAbs).length rc) (Wh.limbs r.natAbs)) :
    FlNum w ((((W.setCell ⟨w.heap.size + 1 + 1, 0, none⟩ (.int .i64 q.sign)).setCell ⟨w.heap.size + 1 + 1, 1, none⟩ (.slice qa (Wh.limbs q.natAbs).length qc)).setCell ⟨w.heap.size + 1 + 1 + 1, 0, none⟩ (.int .i64 r.sign)).setCell ⟨w.heap.size + 1 + 1 + 1, 1, none⟩ (.slice ra (Wh.limbs r.natAbs).length rc)) b1 y q r := by
  have h2 := h.putq (.int .i64 q.sign) (.slice qa (Wh.limbs q.natAbs).length qc)
  exact ⟨⟨qa, qc, ra, rc, h2.putr _ _, (hq.two _ h.q0 h.q1 (nl_int _) n1 _ _).two _ h2.r0 h2.r1 (nl_int _) n3 _ _, (hr.two _ h.q0 h.q1 (nl_int _) n1 _ _).two _ h2.r0 h2.r1 (nl_int _) n3 _ _⟩⟩
theorem Fl.sl {w W : World} {b0 b1 q1 r1 : Value} {z0 z2 : Int} (h : Fl w W b0 b1 (.int .i64 z0) q1 (.int .i64 z2) r1) (n1 : NoLimb q1) (n3 : NoLimb r1) {v : Value} {l : List Nat} (hs : Sl W v l) (x0 x1 y0 y1 : Value) :
    Sl ((((W.setCell ⟨w.heap.size + 1 + 1, 0, none⟩ x0).setCell ⟨w.heap.size + 1 + 1, 1, none⟩ x1).setCell ⟨w.heap.size + 1 + 1 + 1, 0, none⟩ y0).setCell ⟨w.heap.size + 1 + 1 + 1, 1, none⟩ y1) v l := by
  have h2 := h.putq x0 x1
  exact (hs.two _ h.q0 h.q1 (nl_int _) n1 _ _).two _ h2.r0 h2.r1 (nl_int _) n3 _ _
end Go.Proofs.YteaeloeebfdodaaGreatDoor

/- WALKS, division 5: Floor, the walk. -/
namespace Go.Proofs.YteaeloeebfdodaaGreatDoor
open Go.RowKit
set_option maxRecDepth 100000 in
set_option maxHeartbeats 4000000 in
theorem floor_plain (w : World) (x y : Int) (a1 a2 : Option Addr) (n1 n2 c1 c2 : Nat)
    (hquo : ∀ W : World, Below w.heap.size w W → Calls Tryz.prog 196 #[.agg #[.int .i64 x.sign, .slice a1 n1 c1], .agg #[.int .i64 y.sign, .slice a2 n2 c2]] W fun e w' => (∃ vq vr, e = .returned (.tuple #[vq, vr]) ∧ Num w' vq (x.tdiv y) ∧ Num w' vr (x.tmod y)) ∧ Below W.heap.size W w')
    (hneg : ¬ (x.tmod y).sign * y.sign = -1) :
    Calls Tryz.prog 187 #[.agg #[.int .i64 x.sign, .slice a1 n1 c1], .agg #[.int .i64 y.sign, .slice a2 n2 c2]] w fun e w' => (∃ vq vr, e = .returned (.tuple #[vq, vr]) ∧ Num w' vq (x.tdiv y) ∧ Num w' vr (x.tmod y)) ∧ Below w.heap.size w w' := by
  have HQ := Lib.hid hquo; clear hquo
  have HL := laid4_new w (.int .i64 x.sign) (.slice a1 n1 c1) (.int .i64 y.sign) (.slice a2 n2 c2) (.int .i64 0) (.slice none 0 0) (.int .i64 0) (.slice none 0 0) 83
  generalize x.tdiv y = q at *
  generalize x.tmod y = r at *
  have hz : (r.sign * y.sign == -1) = false := beq_eq_false_iff_ne.2 hneg
  clear hneg
  go_enter Tryz.func187, Tryz.ntmps187
  go_wp2_with fail
  generalize (((w.alloc (Obj.cells #[Value.int IntKind.i64 x.sign, Value.slice a1 n1 c1] 83)).alloc (Obj.cells #[Value.int IntKind.i64 y.sign, Value.slice a2 n2 c2] 83)).alloc (Obj.cells #[Value.int IntKind.i64 0, Value.slice none 0 0] 83)).alloc (Obj.cells #[Value.int IntKind.i64 0, Value.slice none 0 0] 83) = W at *
  refine (HQ.out W HL.below).mono ?_
  rintro e w1 ⟨⟨vq, vr, rfl, hnq, hnr⟩, hb1⟩
  obtain ⟨slq, rfl, hsq⟩ := hnq
  obtain ⟨qa, qc, rfl⟩ := hsq.len
  obtain ⟨slr, rfl, hsr⟩ := hnr
  obtain ⟨ra, rc, rfl⟩ := hsr.len
  have F1 := (HL.mono hb1).fl
  clear HL
  have N1 := Lib.hid (F1.num (nl_slice _ _ _) (nl_slice _ _ _) hsq hsr)
  have HF1 := Lib.hid F1
  obtain ⟨d0, -, k0, k1, m0, m1, f0, f1, g0, g1, -, -⟩ := F1
  have hys := sign_range y
  have hrs := sign_range r
  go_wp2_with fail
  generalize (((w1.setCell ⟨w.heap.size + 1 + 1, 0, none⟩ (.int .i64 q.sign)).setCell ⟨w.heap.size + 1 + 1, 1, none⟩ (.slice qa (Wh.limbs q.natAbs).length qc)).setCell ⟨w.heap.size + 1 + 1 + 1, 0, none⟩ (.int .i64 r.sign)).setCell ⟨w.heap.size + 1 + 1 + 1, 1, none⟩ (.slice ra (Wh.limbs r.natAbs).length rc) = V at N1 ⊢
  refine (with_any _ _ hrs hys _).mono ?_
  rintro e w2 ⟨rfl, rfl⟩
  clear d0 k0 k1 m0 m1 f0 f1 g0 g1 hsq hsr
  obtain ⟨qa', qc', ra', rc', FV, SQ, SR⟩ := N1.out
  have FZ := Lib.hid ((FV.putq (.int .i64 q.sign) (.slice qa' (Wh.limbs q.natAbs).length qc')).putr (.int .i64 r.sign) (.slice ra' (Wh.limbs r.natAbs).length rc'))
  have SZ := Lib.hid (And.intro (FV.sl (nl_slice _ _ _) (nl_slice _ _ _) SQ (.int .i64 q.sign) (.slice qa' (Wh.limbs q.natAbs).length qc') (.int .i64 r.sign) (.slice ra' (Wh.limbs r.natAbs).length rc')) (FV.sl (nl_slice _ _ _) (nl_slice _ _ _) SR (.int .i64 q.sign) (.slice qa' (Wh.limbs q.natAbs).length qc') (.int .i64 r.sign) (.slice ra' (Wh.limbs r.natAbs).length rc')))
  obtain ⟨d0, -, k0, k1, m0, m1, f0, f1, g0, g1, -, -⟩ := FV
  clear SQ SR N1
  go_wp2_with fail
  go_region
  all_goals
    go_wp2
    clear d0 k0 k1 m0 m1 f0 f1 g0 g1
    generalize (((V.setCell ⟨w.heap.size + 1 + 1, 0, none⟩ (.int .i64 q.sign)).setCell ⟨w.heap.size + 1 + 1, 1, none⟩ (.slice qa' (Wh.limbs q.natAbs).length qc')).setCell ⟨w.heap.size + 1 + 1 + 1, 0, none⟩ (.int .i64 r.sign)).setCell ⟨w.heap.size + 1 + 1 + 1, 1, none⟩ (.slice ra' (Wh.limbs r.natAbs).length rc') = Z at FZ SZ ⊢
    have z0 : Z.drew.cell? ⟨w.heap.size + 1 + 1, 0, none⟩ = _ := FZ.out.q0
    have z1 : Z.drew.cell? ⟨w.heap.size + 1 + 1, 1, none⟩ = _ := FZ.out.q1
    have z2 : Z.drew.cell? ⟨w.heap.size + 1 + 1 + 1, 0, none⟩ = _ := FZ.out.r0
    have z3 : Z.drew.cell? ⟨w.heap.size + 1 + 1 + 1, 1, none⟩ = _ := FZ.out.r1
    exact bodyPost_ret (v := .tuple #[.agg #[.int .i64 q.sign, .slice qa' (Wh.limbs q.natAbs).length qc'], .agg #[.int .i64 r.sign, .slice ra' (Wh.limbs r.natAbs).length rc']]) (by simp [results, Tryz.results187, go_sem, FZ.out.q0, FZ.out.q1, FZ.out.r0, FZ.out.r1]) rfl ⟨⟨_, _, rfl, ⟨_, rfl, SZ.out.1.mono (Below.refl _ _).drew⟩, ⟨_, rfl, SZ.out.2.mono (Below.refl _ _).drew⟩⟩, FZ.out.below.drew⟩
end Go.Proofs.YteaeloeebfdodaaGreatDoor

/- A region that draws its order: loads taken first under a condition on the world that the region's last stores may end. My own law, beside the library's. -/
namespace Go.Proofs.Rt
open Go
variable {P : Program} {ops : Array Oper} {Q : Exit → Act → World → Prop} {md : Region.Mode} {S : World → Prop} {T : List Nat}
/-- whatever order is picked, and S holds behind each operation that is not of the tail T -/
def wpAnyT (P : Program) (md : Region.Mode) (ops : Array Oper) (Q : Exit → Act → World → Prop) (S : World → Prop) (T : List Nat) : Nat → Array Bool → Act → World → Prop
  | 0, listed, a, w => Region.ready md ops listed = [] ∧ Q .normal a w
  | fuel + 1, listed, a, w =>
    (Region.ready md ops listed = [] → Q .normal a w) ∧
    ∀ i ∈ Region.ready md ops listed, wpOp P ops Q i (fun a' w' => (T.contains i = false → S w') ∧ wpAnyT P md ops Q S T fuel (listed.setIfInBounds i true) a' w') a w
theorem wpAny_of_T : ∀ (fuel : Nat) (listed : Array Bool) (a : Act) (w : World), wpAnyT P md ops Q S T fuel listed a w → wpAny P md ops Q fuel listed a w
  | 0, _, _, _, h => h
  | fuel + 1, _, _, _, h => ⟨h.1, fun i hi => wpOp_mono (fun a' w' h' => wpAny_of_T fuel _ a' w' h'.2) (h.2 i hi)⟩
/-- number j waits for number i, in at most so many steps -/
def waits (md : Region.Mode) (ops : Array Oper) (i : Nat) : Nat → Nat → Bool
  | 0, _ => false
  | n + 1, j => match ops[j]? with
    | some o => o.after.any fun e => Region.binds md e && (e.on == i || waits md ops i n e.on)
    | none => false
/-- what a listed operation waits for is listed -/
def Closed (md : Region.Mode) (ops : Array Oper) (listed : Array Bool) : Prop := ∀ k o, ops[k]? = some o → listed.getD k false = true → ∀ e ∈ o.after, Region.binds md e = true → listed.getD e.on false = true
theorem waits_no {i : Nat} {listed : Array Bool} (hc : Closed md ops listed) (hi : listed.getD i false = false) : ∀ (n j : Nat) (o : Oper), waits md ops i n j = true → ops[j]? = some o → (∀ e ∈ o.after, Region.binds md e = true → listed.getD e.on false = true) → False
  | 0, _, _, h, _, _ => by cases h
  | n + 1, j, o, h, ho, hall => by
    unfold waits at h
    rw [ho] at h
    obtain ⟨e, he, h⟩ := Array.any_eq_true'.1 h
    rw [Bool.and_eq_true, Bool.or_eq_true] at h
    obtain ⟨hb, h⟩ := h
    have hl := hall e he hb
    rcases h with h | h
    · have heq : e.on = i := by simpa using h
      rw [heq, hi] at hl
      cases hl
    · cases hk : ops[e.on]? with
      | none => cases n with
        | zero => cases h
        | succ n => unfold waits at h; rw [hk] at h; cases h
      | some ok => exact waits_no hc hi n e.on ok h hk (hc e.on ok hk hl)
theorem closed_set {j : Nat} {listed : Array Bool} (hc : Closed md ops listed) (hj : j ∈ Region.ready md ops listed) : Closed md ops (listed.setIfInBounds j true) := by
  intro k o hk hl e he hb
  obtain ⟨_, oj, hoj, hall⟩ := mem_ready.1 hj
  by_cases hjk : j = k
  · subst hjk
    rw [hoj] at hk
    obtain rfl := Option.some.inj hk
    exact getD_set_true (hall e he hb)
  · rw [getD_set_ne false hjk] at hl
    exact getD_set_true (hc k o hk hl e he hb)
/-- the same as a Bool, for the kernel -/
def closedB (md : Region.Mode) (ops : Array Oper) (listed : Array Bool) : Bool := (List.range ops.size).all fun k => !(listed.getD k false) || match ops[k]? with
  | some o => o.after.all fun e => !(Region.binds md e) || listed.getD e.on false
  | none => true
theorem closed_of_B {listed : Array Bool} (h : closedB md ops listed = true) : Closed md ops listed := by
  intro k o hk hl e he hb
  have hlt : k < ops.size := (Array.getElem?_eq_some_iff.1 hk).1
  have := List.all_eq_true.1 h k (List.mem_range.2 hlt)
  rw [hl, hk] at this
  rw [Bool.not_true, Bool.false_or] at this
  have h2 := Array.all_eq_true_iff_forall_mem.1 this e he
  rw [hb, Bool.not_true, Bool.false_or] at h2
  exact h2
theorem wpAnyT_first {i : Nat} {oi : Oper} {v : Value} (hi : ops[i]? = some oi) (hsel : ∀ (j : Nat) (o : Oper) cs b, ops[j]? = some o → o.op ≠ .select cs b)
    (hQ : ∀ c a w, Q (.panic c) (a.put oi.dst v) w → Q (.panic c) a w) (hT : ∀ j, T.contains j = true → waits md ops i ops.size j = true) :
    ∀ (fuel : Nat) (listed : Array Bool) (a : Act) (w : World), Closed md ops listed →
      (∀ j oj, ops[j]? = some oj → j ≠ i → listed.getD j true = false → (∀ e ∈ oj.after, Region.binds md e = true → e.on ≠ i) → oi.apart ops oj = true) →
      i ∈ Region.ready md ops listed → YieldsIf P ops S oi v a → S w →
      wpAnyT P md ops Q S T fuel (listed.setIfInBounds i true) (a.put oi.dst v) w → wpAnyT P md ops Q S T (fuel + 1) listed a w := by
  intro fuel
  induction fuel with
  | zero =>
    intro listed a w _ _ hr hy hS H
    refine ⟨fun h => (by rw [h] at hr; cases hr), fun j hj => ?_⟩
    by_cases hji : j = i
    · subst hji; exact hy.wpOp hi hS ⟨fun _ => hS, H⟩
    · have := ready_mono hj hji
      rw [H.1] at this
      cases this
  | succ fuel ih =>
    intro listed a w hcl hfree hr hy hS H
    refine ⟨fun h => (by rw [h] at hr; cases hr), fun j hj => ?_⟩
    by_cases hji : j = i
    · subst hji; exact hy.wpOp hi hS ⟨fun _ => hS, H⟩
    · have h1 := H.2 j (ready_mono hj hji)
      obtain ⟨hjun, oj, hoj, hall⟩ := mem_ready.1 hj
      have hnot : ∀ e ∈ oj.after, Region.binds md e = true → e.on ≠ i := fun e he hb heq => by
        have h1 := hall e he hb
        have h0 := (mem_ready.1 hr).1
        rw [heq] at h1
        rcases Nat.lt_or_ge i listed.size with h' | h'
        · simp [h'] at h0 h1; rw [h0] at h1; cases h1
        · simp [Array.getElem?_eq_none h'] at h1
      have hjt : T.contains j = false := by
        cases hc : T.contains j with
        | false => rfl
        | true =>
          have h0 := (mem_ready.1 hr).1
          have hi0 : listed.getD i false = false := by
            rcases Nat.lt_or_ge i listed.size with h' | h'
            · simp [h'] at h0 ⊢; exact h0
            · simp [Array.getElem?_eq_none h'] at h0
          exact (waits_no hcl hi0 _ j oj (hT j hc) hoj hall).elim
      have h2 := wpOp_putIf hoj (hfree j oj hoj hji hjun hnot) (fun cs b => hsel i oi cs b hi) (fun cs b => hsel j oj cs b hoj) hQ hy h1
      have hfree' : ∀ k ok, ops[k]? = some ok → k ≠ i → (listed.setIfInBounds j true).getD k true = false →
          (∀ e ∈ ok.after, Region.binds md e = true → e.on ≠ i) → oi.apart ops ok = true := fun k ok hk hki hun hno => by
        refine hfree k ok hk hki ?_ hno
        by_cases hjk : j = k
        · subst hjk; exact hjun
        · rw [getD_set_ne true hjk] at hun; exact hun
      refine wpOp_mono (fun a' w' h3 => ⟨fun _ => h3.2.1 hjt, ih (listed.setIfInBounds j true) a' w' (closed_set hcl hj) hfree' (ready_mono hr (Ne.symm hji)) h3.1 (h3.2.1 hjt) ?_⟩) h2
      rw [Array.setIfInBounds_comm _ _ hji]
      exact h3.2.2
/-- take number i first -/
theorem wpAnyT_take {i : Nat} {oi : Oper} {v : Value} {fuel : Nat} {listed : Array Bool} {a : Act} {w : World} (hi : ops[i]? = some oi)
    (hs : Region.noSelect ops = true) (hf : Region.free md ops listed i = true) (hr : (Region.ready md ops listed).contains i = true) (hT : (T.all fun j => waits md ops i ops.size j) = true) (hcl : Closed md ops listed)
    (hQ : ∀ c a w, Q (.panic c) (a.put oi.dst v) w → Q (.panic c) a w) (hw : Region.wanted oi (yielded ops a.tmps) = true) (hS : S w) (hy : ∀ w, S w → (execOp a.eval oi).run P w = .ok (.value v) w)
    (h : wpAnyT P md ops Q S T fuel (listed.setIfInBounds i true) (a.put oi.dst v) w) : wpAnyT P md ops Q S T (fuel + 1) listed a w :=
  wpAnyT_first hi (Region.noSelect_spec hs) hQ (fun j hj => by rw [List.all_eq_true] at hT; exact hT j (by simpa using hj)) fuel listed a w hcl (Region.free_spec hi hf) (by simpa using hr) (.inl ⟨hw, hy⟩) hS h
/-- one alone may come up, and it is not of the tail -/
theorem wpAnyT_one {i : Nat} {o : Oper} {fuel : Nat} {listed : Array Bool} {a : Act} {w : World} (hr : Region.ready md ops listed = [i]) (ho : ops[i]? = some o) (hw : Region.wanted o (yielded ops a.tmps) = true)
    (h : o.wp P a w (fun a' w' => (T.contains i = false → S w') ∧ wpAnyT P md ops Q S T fuel (listed.setIfInBounds i true) a' w') Q) : wpAnyT P md ops Q S T (fuel + 1) listed a w := by
  refine ⟨fun h0 => (by rw [hr] at h0; cases h0), fun j hj => ?_⟩
  rw [hr] at hj
  obtain rfl := List.mem_singleton.1 hj
  unfold wpOp
  simp only [ho, hw, if_true]
  exact .inl h
/-- the same, the way on under a name -/
theorem wpAnyT_step {i : Nat} {o : Oper} {fuel : Nat} {listed : Array Bool} {a : Act} {w : World} (hr : Region.ready md ops listed = [i]) (ho : ops[i]? = some o) (hw : Region.wanted o (yielded ops a.tmps) = true)
    (h : ∀ K : Act → World → Prop, (∀ a' w', (T.contains i = false → S w') → wpAnyT P md ops Q S T fuel (listed.setIfInBounds i true) a' w' → K a' w') → o.wp P a w K Q) : wpAnyT P md ops Q S T (fuel + 1) listed a w :=
  wpAnyT_one hr ho hw (h _ fun _ _ h1 h2 => ⟨h1, h2⟩)
theorem wpAnyT_done {listed : Array Bool} {a : Act} {w : World} (hr : Region.ready md ops listed = []) (h : Q .normal a w) : ∀ fuel, wpAnyT P md ops Q S T fuel listed a w
  | 0 => ⟨hr, h⟩
  | _ + 1 => ⟨fun _ => h, by rw [hr]; simp⟩
theorem wp_region_T {id : Nat} {a : Act} {w : World} (S : World → Prop) (T : List Nat) (hm : P.follows .mixedOrders = true)
    (h : wpAnyT P .any ops Q S T ops.size (Array.replicate ops.size false) a w.drew) : (Code.region id ops true).wp P Q a w :=
  wp_region_any hm (wpAny_of_T _ _ _ _ h)
theorem wp_region_Tn {id : Nat} {a : Act} {w : World} (n : Nat) (S : World → Prop) (T : List Nat) (hn : ops.size = n) (hm : P.follows .mixedOrders = true)
    (h : wpAnyT P .any ops Q S T n (Array.replicate n false) a w.drew) : (Code.region id ops true).wp P Q a w := by
  subst hn
  exact wp_region_T S T hm h
end Go.Proofs.Rt

/- WALKS, division 6: Floor, where the quotient goes down by one. -/
namespace Go.Proofs.YteaeloeebfdodaaGreatDoor
open Go.RowKit
theorem limbs_of_one : Wh.limbs ((1 : Int).natAbs) = [1] := by
  show Wh.limbs 1 = [1]
  rw [Wh.limbs_pos (by decide)]; simp [Wh.R, Wh.limbs_zero]
theorem num_one {w : World} {a : Option Addr} {c : Nat} (h : Sl w (.slice a 1 c) [1]) : Num w (.agg #[.int .i64 1, .slice a 1 c]) 1 := ⟨_, rfl, by rw [limbs_of_one]; exact h⟩
theorem one_any (w : World) :
    Calls Tryz.prog 184 #[.int .u32 1] w fun e w' => (∃ a c, e = .returned (.agg #[.int .i64 1, .slice a 1 c]) ∧ Sl w' (.slice a 1 c) [1]) ∧ Below w.heap.size w w' := by
  refine (small_any w 1 (by decide)).mono ?_
  rintro e w' ⟨⟨v', rfl, sl, rfl, hsl⟩, hb⟩
  have hl : Wh.limbs (((1 : Nat) : Int).natAbs) = [1] := limbs_of_one
  rw [hl] at hsl
  obtain ⟨a, c, rfl⟩ := hsl.len
  exact ⟨⟨a, c, rfl, hsl⟩, hb⟩
set_option maxRecDepth 100000 in
set_option maxHeartbeats 4000000 in
theorem floor_down (w : World) (x y : Int) (a1 a2 : Option Addr) (n1 n2 c1 c2 : Nat)
    (hquo : ∀ W : World, Below w.heap.size w W → Calls Tryz.prog 196 #[.agg #[.int .i64 x.sign, .slice a1 n1 c1], .agg #[.int .i64 y.sign, .slice a2 n2 c2]] W fun e w' => (∃ vq vr, e = .returned (.tuple #[vq, vr]) ∧ Num w' vq (x.tdiv y) ∧ Num w' vr (x.tmod y)) ∧ Below W.heap.size W w')
    (hneg : (x.tmod y).sign * y.sign = -1) (hs2 : Sl w (.slice a2 n2 c2) (Wh.limbs y.natAbs)) (hfx : Fit x) (hfy : Fit y) :
    Calls Tryz.prog 187 #[.agg #[.int .i64 x.sign, .slice a1 n1 c1], .agg #[.int .i64 y.sign, .slice a2 n2 c2]] w fun e w' => (∃ vq vr, e = .returned (.tuple #[vq, vr]) ∧ Num w' vq (x.tdiv y - 1) ∧ Num w' vr (x.tmod y + y)) ∧ Below w.heap.size w w' := by
  have hfq : Fit (x.tdiv y) := fit_tdiv hfx
  have hfr : Fit (x.tmod y) := fit_tmod hfx
  have HS2 := Lib.hid hs2; clear hs2
  have HQ := Lib.hid hquo; clear hquo
  have HL := laid4_new w (.int .i64 x.sign) (.slice a1 n1 c1) (.int .i64 y.sign) (.slice a2 n2 c2) (.int .i64 0) (.slice none 0 0) (.int .i64 0) (.slice none 0 0) 83
  generalize x.tdiv y = q at *
  generalize x.tmod y = r at *
  have hlt1 : 1 < 1000000000 := by decide
  have HFQ := Lib.hid hfq; have HFR := Lib.hid hfr; have HFY := Lib.hid hfy; clear hfq hfr hfy hfx
  obtain ⟨q', hq'⟩ : ∃ t, q - 1 = t := ⟨_, rfl⟩
  obtain ⟨r', hr'⟩ : ∃ t, r + y = t := ⟨_, rfl⟩
  rw [hq', hr']
  have HQ' := Lib.hid hq'; have HR' := Lib.hid hr'; clear hq' hr'
  have HNEG := Lib.hid hneg; clear hneg
  go_enter Tryz.func187, Tryz.ntmps187
  go_wp2_with fail
  generalize (((w.alloc (Obj.cells #[Value.int IntKind.i64 x.sign, Value.slice a1 n1 c1] 83)).alloc (Obj.cells #[Value.int IntKind.i64 y.sign, Value.slice a2 n2 c2] 83)).alloc (Obj.cells #[Value.int IntKind.i64 0, Value.slice none 0 0] 83)).alloc (Obj.cells #[Value.int IntKind.i64 0, Value.slice none 0 0] 83) = W at *
  refine (HQ.out W HL.below).mono ?_
  rintro e w1 ⟨⟨vq, vr, rfl, hnq, hnr⟩, hb1⟩
  obtain ⟨slq, rfl, hsq⟩ := hnq
  obtain ⟨qa, qc, rfl⟩ := hsq.len
  obtain ⟨slr, rfl, hsr⟩ := hnr
  obtain ⟨ra, rc, rfl⟩ := hsr.len
  have F1 := (HL.mono hb1).fl
  clear HL
  have N1 := Lib.hid (F1.num (nl_slice _ _ _) (nl_slice _ _ _) hsq hsr)
  have HF1 := Lib.hid F1
  obtain ⟨d0, -, k0, k1, m0, m1, f0, f1, g0, g1, -, -⟩ := F1
  have hys := sign_range y
  have hrs := sign_range r
  go_wp2_with fail
  generalize (((w1.setCell ⟨w.heap.size + 1 + 1, 0, none⟩ (.int .i64 q.sign)).setCell ⟨w.heap.size + 1 + 1, 1, none⟩ (.slice qa (Wh.limbs q.natAbs).length qc)).setCell ⟨w.heap.size + 1 + 1 + 1, 0, none⟩ (.int .i64 r.sign)).setCell ⟨w.heap.size + 1 + 1 + 1, 1, none⟩ (.slice ra (Wh.limbs r.natAbs).length rc) = V at N1 ⊢
  refine (with_any _ _ hrs hys _).mono ?_
  rintro e w2 ⟨rfl, rfl⟩
  rw [HNEG.out]
  clear d0 k0 k1 m0 m1 f0 f1 g0 g1 hsq hsr
  obtain ⟨qa', qc', ra', rc', FV, SQ, SR⟩ := N1.out
  have HFV := Lib.hid FV
  have SY : Sl V (.slice a2 n2 c2) (Wh.limbs y.natAbs) := HS2.out.mono FV.below
  have HSQ := Lib.hid SQ; have HSR := Lib.hid SR; have HSY := Lib.hid SY
  obtain ⟨d0, d1, k0, k1, m0, m1, f0, f1, g0, g1, -, -⟩ := FV
  clear SQ SR SY N1
  go_wp2_with fail
  clear d0 d1 k0 k1 m0 m1 f0 f1 g0 g1
  refine wp_region_noPanic ?_
  refine Rt.wp_region_Tn 8 (fun w' => Fl w w' (.int .i64 y.sign) (.slice a2 n2 c2) (.int .i64 q.sign) (.slice qa' (Wh.limbs q.natAbs).length qc') (.int .i64 r.sign) (.slice ra' (Wh.limbs r.natAbs).length rc')) [6, 7] rfl (by kernel_rfl) ?_
  have HS0 := HFV.out.mono (Below.refl V.heap.size V).drew
  refine Rt.wpAnyT_take (i := 0) (v := .agg #[.int .i64 q.sign, .slice qa' (Wh.limbs q.natAbs).length qc']) rfl (by kernel_rfl) (by kernel_rfl) (by kernel_rfl) (by kernel_rfl) (Rt.closed_of_B (by kernel_rfl)) (fun _ _ _ h => h) (by rfl) HS0 ?_ ?_
  · intro w' hS
    have e0 := hS.q0
    have e1 := hS.q1
    clear hS
    go_simp
  simp only [Act.put, List.getElem_toArray, List.getElem_cons_zero, List.getElem_cons_succ, List.setIfInBounds_toArray, List.set_cons_zero, List.set_cons_succ]
  refine Rt.wpAnyT_take (i := 3) (v := .agg #[.int .i64 r.sign, .slice ra' (Wh.limbs r.natAbs).length rc']) rfl (by kernel_rfl) (by kernel_rfl) (by kernel_rfl) (by kernel_rfl) (Rt.closed_of_B (by kernel_rfl)) (fun _ _ _ h => h) (by rfl) HS0 ?_ ?_
  · intro w' hS
    have e0 := hS.r0
    have e1 := hS.r1
    clear hS
    go_simp
  simp only [Act.put, List.getElem_toArray, List.getElem_cons_zero, List.getElem_cons_succ, List.setIfInBounds_toArray, List.set_cons_zero, List.set_cons_succ]
  refine Rt.wpAnyT_take (i := 4) (v := .agg #[.int .i64 y.sign, .slice a2 n2 c2]) rfl (by kernel_rfl) (by kernel_rfl) (by kernel_rfl) (by kernel_rfl) (Rt.closed_of_B (by kernel_rfl)) (fun _ _ _ h => h) (by rfl) HS0 ?_ ?_
  · intro w' hS
    have e0 := hS.b0
    have e1 := hS.b1
    clear hS
    go_simp
  simp only [Act.put, List.getElem_toArray, List.getElem_cons_zero, List.getElem_cons_succ, List.setIfInBounds_toArray, List.set_cons_zero, List.set_cons_succ]
  refine Rt.wpAnyT_step (i := 1) (by kernel_rfl) rfl (by rfl) (fun K hK => ?_)
  have HK := Lib.hid hK; clear hK
  go_simp
  refine (one_any _).mono ?_
  rintro e w5 ⟨⟨xa5, xc5, rfl, hs5⟩, hb5⟩
  have hb5 : Below V.heap.size V w5 := drew_left hb5
  have HS5 := Lib.hid hs5; clear hs5
  refine HK.out _ _ (fun _ => HFV.out.mono hb5) ?_
  clear HK
  refine Rt.wpAnyT_step (i := 2) (by kernel_rfl) rfl (by rfl) (fun K hK => ?_)
  have HK := Lib.hid hK; clear hK
  have hnq : Num w5 (.agg #[.int .i64 q.sign, .slice qa' (Wh.limbs q.natAbs).length qc']) q := ⟨_, rfl, HSQ.out.mono hb5⟩
  go_simp
  refine (sub_any w5 q 1 (.agg #[.int .i64 q.sign, .slice qa' (Wh.limbs q.natAbs).length qc']) (.agg #[.int .i64 1, .slice xa5 1 xc5]) hnq (num_one HS5.out) HFQ.out fit_one).mono ?_
  rintro e w6 ⟨⟨v6, rfl, hn6⟩, hb6⟩
  rw [HQ'.out] at hn6
  obtain ⟨sl6, rfl, hs6⟩ := hn6
  obtain ⟨xa6, xc6, rfl⟩ := hs6.len
  have hb6 : Below V.heap.size V w6 := hb5.trans (hb6.mono hb5.size)
  have HS6 := Lib.hid hs6; clear hs6 hnq hb5 HS5
  refine HK.out _ _ (fun _ => HFV.out.mono hb6) ?_
  clear HK
  refine Rt.wpAnyT_step (i := 5) (by kernel_rfl) rfl (by rfl) (fun K hK => ?_)
  have HK := Lib.hid hK; clear hK
  have hnr : Num w6 (.agg #[.int .i64 r.sign, .slice ra' (Wh.limbs r.natAbs).length rc']) r := ⟨_, rfl, HSR.out.mono hb6⟩
  have hny : Num w6 (.agg #[.int .i64 y.sign, .slice a2 n2 c2]) y := ⟨_, rfl, HSY.out.mono hb6⟩
  go_simp
  refine (add_any w6 r y (.agg #[.int .i64 r.sign, .slice ra' (Wh.limbs r.natAbs).length rc']) (.agg #[.int .i64 y.sign, .slice a2 n2 c2]) hnr hny HFR.out HFY.out).mono ?_
  rintro e w7 ⟨⟨v7, rfl, hn7⟩, hb7⟩
  rw [HR'.out] at hn7
  obtain ⟨sl7, rfl, hs7⟩ := hn7
  obtain ⟨xa7, xc7, rfl⟩ := hs7.len
  have HS67 := Lib.hid (HS6.out.mono hb7)
  have hb7 : Below V.heap.size V w7 := hb6.trans (hb7.mono hb6.size)
  have HS7 := Lib.hid hs7; clear hs7 hnr hny HS6 hb6
  have HF7 := Lib.hid (HFV.out.mono hb7)
  refine HK.out _ _ (fun _ => HF7.out) ?_
  clear HK
  obtain ⟨-, -, k0, k1, m0, m1, f0, f1, g0, g1, -, -⟩ := HF7.out
  refine Rt.wpAnyT_step (i := 6) (by kernel_rfl) rfl (by rfl) (fun K hK => ?_)
  have HK := Lib.hid hK; clear hK
  go_simp
  refine HK.out _ _ (fun h => by cases h) ?_
  clear HK
  refine Rt.wpAnyT_step (i := 7) (by kernel_rfl) rfl (by rfl) (fun K hK => ?_)
  have HK := Lib.hid hK; clear hK
  go_simp
  refine HK.out _ _ (fun h => by cases h) ?_
  clear HK
  refine Rt.wpAnyT_done (by kernel_rfl) ?_ _
  refine NoPanic.normal ?_
  clear k0 k1 m0 m1 f0 f1 g0 g1
  have FU := (HF7.out.putq (.int .i64 q'.sign) (.slice xa6 (Wh.limbs q'.natAbs).length xc6)).putr (.int .i64 r'.sign) (.slice xa7 (Wh.limbs r'.natAbs).length xc7)
  have SUQ := HF7.out.sl (nl_slice _ _ _) (nl_slice _ _ _) HS67.out (.int .i64 q'.sign) (.slice xa6 (Wh.limbs q'.natAbs).length xc6) (.int .i64 r'.sign) (.slice xa7 (Wh.limbs r'.natAbs).length xc7)
  have SUR := HF7.out.sl (nl_slice _ _ _) (nl_slice _ _ _) HS7.out (.int .i64 q'.sign) (.slice xa6 (Wh.limbs q'.natAbs).length xc6) (.int .i64 r'.sign) (.slice xa7 (Wh.limbs r'.natAbs).length xc7)
  generalize (((w7.setCell ⟨w.heap.size + 1 + 1, 0, none⟩ (.int .i64 q'.sign)).setCell ⟨w.heap.size + 1 + 1, 1, none⟩ (.slice xa6 (Wh.limbs q'.natAbs).length xc6)).setCell ⟨w.heap.size + 1 + 1 + 1, 0, none⟩ (.int .i64 r'.sign)).setCell ⟨w.heap.size + 1 + 1 + 1, 1, none⟩ (.slice xa7 (Wh.limbs r'.natAbs).length xc7) = U at FU SUQ SUR ⊢
  have FZ := Lib.hid ((FU.putq (.int .i64 q'.sign) (.slice xa6 (Wh.limbs q'.natAbs).length xc6)).putr (.int .i64 r'.sign) (.slice xa7 (Wh.limbs r'.natAbs).length xc7))
  have SZ := Lib.hid (And.intro (FU.sl (nl_slice _ _ _) (nl_slice _ _ _) SUQ (.int .i64 q'.sign) (.slice xa6 (Wh.limbs q'.natAbs).length xc6) (.int .i64 r'.sign) (.slice xa7 (Wh.limbs r'.natAbs).length xc7)) (FU.sl (nl_slice _ _ _) (nl_slice _ _ _) SUR (.int .i64 q'.sign) (.slice xa6 (Wh.limbs q'.natAbs).length xc6) (.int .i64 r'.sign) (.slice xa7 (Wh.limbs r'.natAbs).length xc7)))
  obtain ⟨d0, -, k0, k1, m0, m1, f0, f1, g0, g1, -, -⟩ := FU
  clear SUQ SUR HFV HF7 HS67 HS7 HSQ HSR HSY HS0
  go_wp2_with fail
  go_region
  all_goals
    go_wp2
    clear d0 k0 k1 m0 m1 f0 f1 g0 g1
    generalize (((U.setCell ⟨w.heap.size + 1 + 1, 0, none⟩ (.int .i64 q'.sign)).setCell ⟨w.heap.size + 1 + 1, 1, none⟩ (.slice xa6 (Wh.limbs q'.natAbs).length xc6)).setCell ⟨w.heap.size + 1 + 1 + 1, 0, none⟩ (.int .i64 r'.sign)).setCell ⟨w.heap.size + 1 + 1 + 1, 1, none⟩ (.slice xa7 (Wh.limbs r'.natAbs).length xc7) = Z at FZ SZ ⊢
    exact bodyPost_ret (v := .tuple #[.agg #[.int .i64 q'.sign, .slice xa6 (Wh.limbs q'.natAbs).length xc6], .agg #[.int .i64 r'.sign, .slice xa7 (Wh.limbs r'.natAbs).length xc7]]) (by simp [results, Tryz.results187, go_sem, FZ.out.q0, FZ.out.q1, FZ.out.r0, FZ.out.r1]) rfl ⟨⟨_, _, rfl, ⟨_, rfl, SZ.out.1.mono (Below.refl _ _).drew⟩, ⟨_, rfl, SZ.out.2.mono (Below.refl _ _).drew⟩⟩, FZ.out.below.drew⟩
/-- Floor, over what Quo does: the quotient rounded down -/
theorem floor_from (w : World) (va vb : Value) (x y : Int) (ha : Num w va x) (hb : Num w vb y) (hfx : Fit x) (hfy : Fit y) (hy : y ≠ 0)
    (hquo : ∀ (W : World) (va vb : Value), Num W va x → Num W vb y → Calls Tryz.prog 196 #[va, vb] W fun e w' => (∃ vq vr, e = .returned (.tuple #[vq, vr]) ∧ Num w' vq (x.tdiv y) ∧ Num w' vr (x.tmod y)) ∧ Below W.heap.size W w') :
    Calls Tryz.prog 187 #[va, vb] w fun e w' => (∃ vq vr, e = .returned (.tuple #[vq, vr]) ∧ Num w' vq (x.fdiv y) ∧ Num w' vr (x.fmod y)) ∧ Below w.heap.size w w' := by
  obtain ⟨sa, rfl, hsa⟩ := ha
  obtain ⟨sb, rfl, hsb⟩ := hb
  obtain ⟨a1, c1, rfl⟩ := hsa.len
  obtain ⟨a2, c2, rfl⟩ := hsb.len
  have hq := fun (W : World) (h : Below w.heap.size w W) => hquo W _ _ ⟨_, rfl, hsa.mono h⟩ ⟨_, rfl, hsb.mono h⟩
  obtain ⟨e1, e2⟩ := Wh.floor_both x y hy
  by_cases hneg : (x.tmod y).sign * y.sign = -1
  · rw [if_pos hneg] at e1 e2
    rw [← e1, ← e2]
    exact floor_down w x y a1 a2 _ _ c1 c2 hq hneg hsb hfx hfy
  · rw [if_neg hneg] at e1 e2
    rw [← e1, ← e2]
    exact floor_plain w x y a1 a2 _ _ c1 c2 hq hneg
theorem fit_small {y : Int} (h : y.natAbs < 1000000000) : Fit y := by
  unfold Fit
  rcases Nat.eq_zero_or_pos y.natAbs with e | e
  · rw [e, Wh.limbs_zero]; decide
  · rw [limbs_one_of ⟨e, h⟩]; simp
/-- Floor by one limb -/
theorem floor_short (w : World) (va vb : Value) (x y : Int) (ha : Num w va x) (hb : Num w vb y) (hfx : Fit x) (hy : 0 < y.natAbs ∧ y.natAbs < 1000000000) :
    Calls Tryz.prog 187 #[va, vb] w fun e w' => (∃ vq vr, e = .returned (.tuple #[vq, vr]) ∧ Num w' vq (x.fdiv y) ∧ Num w' vr (x.fmod y)) ∧ Below w.heap.size w w' :=
  floor_from w va vb x y ha hb hfx (fit_small hy.2) (by intro e; rw [e] at hy; exact absurd hy.1 (by decide)) (fun W va vb h1 h2 => quo_short W va vb x y h1 h2 (by unfold Fit at hfx; omega) hy)
end Go.Proofs.YteaeloeebfdodaaGreatDoor
