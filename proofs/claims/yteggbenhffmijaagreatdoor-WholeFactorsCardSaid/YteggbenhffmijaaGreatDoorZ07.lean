/- Part 7 of the proofs that laws of package whole answer true at every input and leave the input as it was, where the library's variables start as the text lays them (the texts D3, D4, D5, P1, D6, D7, D8, C1, M10, D9, Q1). -/
import Derived.Test.YteggbenhffmijaaGreatDoorZ06
import Derived.OrdersHeld
import Derived.Deep.RegionHeld3
import Derived.Laws.IdiomCopy
import Derived.RangeFuncFrom
import Derived.RangeFuncWrites
import Derived.RangeFuncLeaves
import Derived.RangeFuncCalls
set_option linter.unusedVariables false
set_option linter.unusedSimpArgs false
/- WALKS, division 3: divide, by one limb. -/
namespace Go.Proofs.YteggbenhffmijaaGreatDoor
open Go.RowKit
theorem tdiv_signs (x y : Int) : x.sign * y.sign * ((x.natAbs / y.natAbs : Nat) : Int) = x.tdiv y := by
  rcases Int.lt_trichotomy x 0 with hx | hx | hx
  · rcases Int.lt_trichotomy y 0 with hy | hy | hy
    · rw [Int.sign_eq_neg_one_of_neg hx, Int.sign_eq_neg_one_of_neg hy]
      obtain ⟨a, rfl⟩ : ∃ a : Nat, x = -(a : Int) := ⟨x.natAbs, by omega⟩
      obtain ⟨b, rfl⟩ : ∃ b : Nat, y = -(b : Int) := ⟨y.natAbs, by omega⟩
      rw [Int.neg_tdiv, Int.tdiv_neg, Int.natAbs_neg, Int.natAbs_neg, Int.natAbs_natCast, Int.natAbs_natCast, Int.neg_neg, ← Int.ofNat_tdiv]; omega
    · subst hy; simp
    · rw [Int.sign_eq_neg_one_of_neg hx, Int.sign_eq_one_of_pos hy]
      obtain ⟨a, rfl⟩ : ∃ a : Nat, x = -(a : Int) := ⟨x.natAbs, by omega⟩
      obtain ⟨b, rfl⟩ : ∃ b : Nat, y = (b : Int) := ⟨y.natAbs, by omega⟩
      rw [Int.neg_tdiv, Int.natAbs_neg, Int.natAbs_natCast, Int.natAbs_natCast, ← Int.ofNat_tdiv]; omega
  · subst hx; simp
  · rcases Int.lt_trichotomy y 0 with hy | hy | hy
    · rw [Int.sign_eq_one_of_pos hx, Int.sign_eq_neg_one_of_neg hy]
      obtain ⟨a, rfl⟩ : ∃ a : Nat, x = (a : Int) := ⟨x.natAbs, by omega⟩
      obtain ⟨b, rfl⟩ : ∃ b : Nat, y = -(b : Int) := ⟨y.natAbs, by omega⟩
      rw [Int.tdiv_neg, Int.natAbs_neg, Int.natAbs_natCast, Int.natAbs_natCast, ← Int.ofNat_tdiv]; omega
    · subst hy; simp
    · rw [Int.sign_eq_one_of_pos hx, Int.sign_eq_one_of_pos hy]
      obtain ⟨a, rfl⟩ : ∃ a : Nat, x = (a : Int) := ⟨x.natAbs, by omega⟩
      obtain ⟨b, rfl⟩ : ∃ b : Nat, y = (b : Int) := ⟨y.natAbs, by omega⟩
      rw [Int.natAbs_natCast, Int.natAbs_natCast, ← Int.ofNat_tdiv]; omega
theorem tmod_signs (x y : Int) : x.sign * ((x.natAbs % y.natAbs : Nat) : Int) = x.tmod y := by
  rcases Int.lt_trichotomy x 0 with hx | hx | hx
  · rw [Int.sign_eq_neg_one_of_neg hx]
    obtain ⟨a, rfl⟩ : ∃ a : Nat, x = -(a : Int) := ⟨x.natAbs, by omega⟩
    rw [Int.neg_tmod, Int.natAbs_neg, Int.natAbs_natCast]
    rcases Int.lt_trichotomy y 0 with hy | hy | hy
    · obtain ⟨b, rfl⟩ : ∃ b : Nat, y = -(b : Int) := ⟨y.natAbs, by omega⟩
      rw [Int.tmod_neg, Int.natAbs_neg, Int.natAbs_natCast, ← Int.ofNat_tmod]; omega
    · subst hy; simp
    · obtain ⟨b, rfl⟩ : ∃ b : Nat, y = (b : Int) := ⟨y.natAbs, by omega⟩
      rw [Int.natAbs_natCast, ← Int.ofNat_tmod]; omega
  · subst hx; simp
  · rw [Int.sign_eq_one_of_pos hx]
    obtain ⟨a, rfl⟩ : ∃ a : Nat, x = (a : Int) := ⟨x.natAbs, by omega⟩
    rw [Int.natAbs_natCast]
    rcases Int.lt_trichotomy y 0 with hy | hy | hy
    · obtain ⟨b, rfl⟩ : ∃ b : Nat, y = -(b : Int) := ⟨y.natAbs, by omega⟩
      rw [Int.tmod_neg, Int.natAbs_neg, Int.natAbs_natCast, ← Int.ofNat_tmod]; omega
    · subst hy; simp
    · obtain ⟨b, rfl⟩ : ∃ b : Nat, y = (b : Int) := ⟨y.natAbs, by omega⟩
      rw [Int.natAbs_natCast, ← Int.ofNat_tmod]; omega
structure Laid4 (w W : World) (a0 a1 b0 b1 q0 q1 r0 r1 : Value) : Prop where
  a0 : W.cell? ⟨w.heap.size, 0, none⟩ = some a0
  a1 : W.cell? ⟨w.heap.size, 1, none⟩ = some a1
  b0 : W.cell? ⟨w.heap.size + 1, 0, none⟩ = some b0
  b1 : W.cell? ⟨w.heap.size + 1, 1, none⟩ = some b1
  q0 : W.cell? ⟨w.heap.size + 1 + 1, 0, none⟩ = some q0
  q1 : W.cell? ⟨w.heap.size + 1 + 1, 1, none⟩ = some q1
  r0 : W.cell? ⟨w.heap.size + 1 + 1 + 1, 0, none⟩ = some r0
  r1 : W.cell? ⟨w.heap.size + 1 + 1 + 1, 1, none⟩ = some r1
  f0 : W.frozen? ⟨w.heap.size + 1 + 1, 0, none⟩ = false
  f1 : W.frozen? ⟨w.heap.size + 1 + 1, 1, none⟩ = false
  g0 : W.frozen? ⟨w.heap.size + 1 + 1 + 1, 0, none⟩ = false
  g1 : W.frozen? ⟨w.heap.size + 1 + 1 + 1, 1, none⟩ = false
  size : w.heap.size + 4 ≤ W.heap.size
  below : Below w.heap.size w W
theorem laid4_new (w : World) (a0 a1 b0 b1 q0 q1 r0 r1 : Value) (t : TypeId) : Laid4 w ((((w.alloc (Obj.cells #[a0, a1] t)).alloc (Obj.cells #[b0, b1] t)).alloc (Obj.cells #[q0, q1] t)).alloc (Obj.cells #[r0, r1] t)) a0 a1 b0 b1 q0 q1 r0 r1 := by
  refine ⟨by go_simp, by go_simp, by go_simp, by go_simp, by go_simp, by go_simp, by go_simp, by go_simp, by go_simp, by go_simp, by go_simp, by go_simp, by simp, ?_⟩
  exact ((((Below.refl _ _).alloc (Nat.le_refl _) _).alloc (by simp) _).alloc (by simp; omega) _).alloc (by simp; omega) _
theorem Laid4.mono {w W W' : World} {a0 a1 b0 b1 q0 q1 r0 r1 : Value} (h : Laid4 w W a0 a1 b0 b1 q0 q1 r0 r1) (hb : Below W.heap.size W W') : Laid4 w W' a0 a1 b0 b1 q0 q1 r0 r1 := by
  have hs := h.size
  have c : ∀ b i, b < w.heap.size + 4 → W'.cell? ⟨b, i, none⟩ = W.cell? ⟨b, i, none⟩ := fun b i hi => hb.cell (p := ⟨b, i, none⟩) (by show b < _; omega)
  have f : ∀ b i, b < w.heap.size + 4 → W'.frozen? ⟨b, i, none⟩ = W.frozen? ⟨b, i, none⟩ := fun b i hi => hb.frozen (p := ⟨b, i, none⟩) (by show b < _; omega)
  exact ⟨(c _ _ (by omega)).trans h.a0, (c _ _ (by omega)).trans h.a1, (c _ _ (by omega)).trans h.b0, (c _ _ (by omega)).trans h.b1, (c _ _ (by omega)).trans h.q0, (c _ _ (by omega)).trans h.q1, (c _ _ (by omega)).trans h.r0, (c _ _ (by omega)).trans h.r1,
    (f _ _ (by omega)).trans h.f0, (f _ _ (by omega)).trans h.f1, (f _ _ (by omega)).trans h.g0, (f _ _ (by omega)).trans h.g1, Nat.le_trans h.size hb.size, h.below.trans (hb.mono (by have := h.below.size; omega))⟩
theorem sign_cases_q (x y : Int) (hy : 0 < y.natAbs) : x.sign * y.sign = -1 ∨ x.sign * y.sign = 1 ∨ x.natAbs / y.natAbs = 0 := by
  have hy' : y.sign = -1 ∨ y.sign = 1 := by
    rcases Int.lt_trichotomy y 0 with h | h | h
    · exact .inl (Int.sign_eq_neg_one_of_neg h)
    · omega
    · exact .inr (Int.sign_eq_one_of_pos h)
  rcases Int.lt_trichotomy x 0 with h | h | h
  · rw [Int.sign_eq_neg_one_of_neg h]; rcases hy' with e | e <;> rw [e] <;> simp
  · subst h; simp
  · rw [Int.sign_eq_one_of_pos h]; rcases hy' with e | e <;> rw [e] <;> simp
theorem limbs_one_of {n : Nat} (h : 0 < n ∧ n < 1000000000) : Wh.limbs n = [n] := by
  rw [Wh.limbs]
  simp [show n ≠ 0 by omega, Wh.R_eq, Nat.mod_eq_of_lt h.2, Nat.div_eq_of_lt h.2, Wh.limbs_zero]
set_option maxRecDepth 100000 in
set_option maxHeartbeats 2000000 in
theorem quo_short (w : World) (va vb : Value) (x y : Int) (ha : Num w va x) (hb : Num w vb y) (hla : (Wh.limbs x.natAbs).length ≤ 1000) (hy : 0 < y.natAbs ∧ y.natAbs < 1000000000) :
    Calls Tryz.prog 241 #[va, vb] w fun e w' => (∃ vq vr, e = .returned (.tuple #[vq, vr]) ∧ Num w' vq (x.tdiv y) ∧ Num w' vr (x.tmod y)) ∧ Below w.heap.size w w' := by
  obtain ⟨sa, rfl, hsa⟩ := ha
  obtain ⟨sb, rfl, hsb⟩ := hb
  rw [limbs_one_of hy] at hsb
  obtain ⟨aa, ca, rfl⟩ := hsa.len
  obtain ⟨ab, cb, rfl⟩ := hsb.len
  have HL := laid4_new w (.int .i64 x.sign) (.slice aa (Wh.limbs x.natAbs).length ca) (.int .i64 y.sign) (.slice ab 1 cb) (.int .i64 0) (.slice none 0 0) (.int .i64 0) (.slice none 0 0) 92
  generalize hsx : x.sign = sx at *
  generalize hsy : y.sign = sy at *
  have HSX := Lib.hid hsx; clear hsx
  have HSY := Lib.hid hsy; clear hsy
  have HA := Lib.hid hsa; clear hsa
  have HB := Lib.hid hsb; clear hsb
  go_enter Tryz.func241, Tryz.ntmps241
  go_wp2_with fail
  generalize (((w.alloc (Obj.cells #[Value.int IntKind.i64 sx, Value.slice aa (Wh.limbs x.natAbs).length ca] 92)).alloc (Obj.cells #[Value.int IntKind.i64 sy, Value.slice ab 1 cb] 92)).alloc (Obj.cells #[Value.int IntKind.i64 0, Value.slice none 0 0] 92)).alloc (Obj.cells #[Value.int IntKind.i64 0, Value.slice none 0 0] 92) = W at *
  refine (divideLimbs_short W _ _ (Wh.limbs x.natAbs) y.natAbs (HA.out.mono HL.below) (Wh.ok_limbs _) hla (HB.out.mono HL.below) ⟨hy.1, by omega⟩).mono ?_
  rintro e w1 ⟨⟨aq, cq, ar, cr, rfl, hcq, hcr, hq, hr⟩, hb1⟩
  have L1 := HL.mono hb1
  clear HL hb1
  have hvq : Wh.val (Wh.trimL (Wh.quo (Wh.limbs x.natAbs) y.natAbs)) = x.natAbs / y.natAbs := by rw [Wh.trimL, Wh.val_limbs, Wh.val_quo _ _ hy.1, Wh.val_limbs]
  have hoq : Wh.Ok (Wh.trimL (Wh.quo (Wh.limbs x.natAbs) y.natAbs)) := by rw [Wh.trimL]; exact Wh.ok_limbs _
  have hvr : Wh.val (Wh.trimL [Wh.val (Wh.limbs x.natAbs) % y.natAbs]) = x.natAbs % y.natAbs := by rw [Wh.trimL, Wh.val_limbs, Wh.val_limbs]; simp [Wh.val]
  have hor : Wh.Ok (Wh.trimL [Wh.val (Wh.limbs x.natAbs) % y.natAbs]) := by rw [Wh.trimL]; exact Wh.ok_limbs _
  generalize Wh.trimL (Wh.quo (Wh.limbs x.natAbs) y.natAbs) = lq at *
  generalize Wh.trimL [Wh.val (Wh.limbs x.natAbs) % y.natAbs] = lr at *
  have HQ := Lib.hid hq; clear hq
  have HR := Lib.hid hr; clear hr
  have HVQ := Lib.hid hvq; clear hvq
  have HVR := Lib.hid hvr; clear hvr
  have HOQ := Lib.hid hoq; clear hoq
  have HOR := Lib.hid hor; clear hor
  have k0 := L1.a0
  have k1 := L1.b0
  have HL1 := Lib.hid L1; clear L1
  have hxs : -1 ≤ sx ∧ sx ≤ 1 := by rw [← HSX.out]; rcases Int.lt_trichotomy x 0 with h | h | h <;> simp [Int.sign_eq_neg_one_of_neg, Int.sign_eq_one_of_pos, h]
  have hys : -1 ≤ sy ∧ sy ≤ 1 := by rw [← HSY.out]; rcases Int.lt_trichotomy y 0 with h | h | h <;> simp [Int.sign_eq_neg_one_of_neg, Int.sign_eq_one_of_pos, h]
  obtain ⟨td, htd⟩ : ∃ t, x.tdiv y = t := ⟨_, rfl⟩
  obtain ⟨tm, htm⟩ : ∃ t, x.tmod y = t := ⟨_, rfl⟩
  have hvq : sx * sy * (Wh.val lq : Int) = td := by rw [HVQ.out, ← HSX.out, ← HSY.out, tdiv_signs, htd]
  have hvr : sx * (Wh.val lr : Int) = tm := by rw [HVR.out, ← HSX.out, tmod_signs, htm]
  have hcq1 : sx * sy = -1 ∨ sx * sy = 1 ∨ Wh.val lq = 0 := by
    rw [HVQ.out, ← HSX.out, ← HSY.out]
    exact sign_cases_q x y hy.1
  have hcr1 : sx = -1 ∨ sx = 1 ∨ Wh.val lr = 0 := by
    rw [HVR.out, ← HSX.out]
    rcases Int.lt_trichotomy x 0 with h | h | h
    · exact .inl (Int.sign_eq_neg_one_of_neg h)
    · subst h; simp
    · exact .inr (.inl (Int.sign_eq_one_of_pos h))
  have HTQ := Lib.hid hvq; clear hvq
  have HTR := Lib.hid hvr; clear hvr
  have HCQ := Lib.hid hcq1; clear hcq1
  have HCR := Lib.hid hcr1; clear hcr1
  have HTD := Lib.hid htd
  have HTM := Lib.hid htm
  clear htd htm
  go_wp2_with fail
  have hsmq : Small (.slice aq lq.length cq) := by intro p n c h; cases h; exact hcq
  have hsmr : Small (.slice ar lr.length cr) := by intro p n c h; cases h; exact hcr
  go_region_held3 (fun w' => w'.cell? ⟨w.heap.size, 0, none⟩ = some (.int .i64 sx) ∧ w'.cell? ⟨w.heap.size + 1, 0, none⟩ = some (.int .i64 sy)) (first | exact q3 | exact q2 | exact ⟨far1 q3.1 (by omega), far1 q3.2 (by omega)⟩ | exact ⟨far1 (far1 q3.1 (by omega)) (by omega), far1 (far1 q3.2 (by omega)) (by omega)⟩ | go_keep) (first
    | ((with_reducible go_at_call 242); (with_reducible refine (with_any _ _ hxs hys _).mono ?_); rintro e w' ⟨rfl, rfl⟩)
    | ((go_at_call 187); (have hdl : Below w1.heap.size w1 _ := drew_left hb2); (with_reducible refine (signed_any sx (.slice ar lr.length cr) lr _ HOR.out (HR.out.mono hdl) hsmr HCR.out).mono ?_); rintro e w3 ⟨⟨v3, rfl, hn⟩, hb3⟩; rw [HTR.out] at hn; obtain ⟨sl3, rfl, hsl3⟩ := hn; obtain ⟨xa3, xc3, rfl⟩ := hsl3.len; have L3 := HL2.out.mono hb3; have q3 := And.intro L3.a0 L3.b0; obtain ⟨-, -, -, -, m0, m1, n0, n1, i0, i1, j0, j1, -, -⟩ := L3)
    | ((go_at_call 187); (with_reducible refine (signed_any (sx * sy) (.slice aq lq.length cq) lq _ HOQ.out (HQ.out.mono (Below.refl _ _).drew) hsmq HCQ.out).mono ?_); rintro e w2 ⟨⟨v2, rfl, hn⟩, hb2⟩; rw [HTQ.out] at hn; obtain ⟨sl2, rfl, hsl2⟩ := hn; obtain ⟨xa2, xc2, rfl⟩ := hsl2.len; have L2 := HL1.out.mono (drew_left hb2); have q2 := And.intro L2.a0 L2.b0; have HL2 := Lib.hid L2; clear L2))
  go_wp2
  have hT : Two w3 (w.heap.size + 1 + 1) := ⟨m0, m1, n0, n1, i0, i1, j0, j1⟩
  have hB3 : Below w.heap.size w w3 := (HL2.out.mono hb3).below
  obtain ⟨r0, r1, r2, r3⟩ := hT.read (.int .i64 td.sign) (.slice xa2 (Wh.limbs td.natAbs).length xc2) (.int .i64 tm.sign) (.slice xa3 (Wh.limbs tm.natAbs).length xc3)
  have S2 := hT.sl (hsl2.mono hb3) (.int .i64 td.sign) (.slice xa2 (Wh.limbs td.natAbs).length xc2) (.int .i64 tm.sign) (.slice xa3 (Wh.limbs tm.natAbs).length xc3)
  have S3 := hT.sl hsl3 (.int .i64 td.sign) (.slice xa2 (Wh.limbs td.natAbs).length xc2) (.int .i64 tm.sign) (.slice xa3 (Wh.limbs tm.natAbs).length xc3)
  have hB := Two.below hB3 (show w.heap.size ≤ w.heap.size + 1 + 1 by omega) (.int .i64 td.sign) (.slice xa2 (Wh.limbs td.natAbs).length xc2) (.int .i64 tm.sign) (.slice xa3 (Wh.limbs tm.natAbs).length xc3)
  exact bodyPost_ret (v := .tuple #[.agg #[.int .i64 td.sign, .slice xa2 (Wh.limbs td.natAbs).length xc2], .agg #[.int .i64 tm.sign, .slice xa3 (Wh.limbs tm.natAbs).length xc3]]) (by unfold put22 at *; simp [results, Tryz.results241, go_sem, r0, r1, r2, r3]) rfl ⟨⟨_, _, rfl, by rw [HTD.out]; exact ⟨_, rfl, S2⟩, by rw [HTM.out]; exact ⟨_, rfl, S3⟩⟩, hB⟩
end Go.Proofs.YteggbenhffmijaaGreatDoor

/- WALKS, division 4: Floor, over what Quo does. -/
namespace Go.Proofs.YteggbenhffmijaaGreatDoor
open Go.RowKit
theorem limbs_mono {a b : Nat} (h : a ≤ b) : (Wh.limbs a).length ≤ (Wh.limbs b).length := by
  rcases Nat.lt_or_ge (Wh.limbs b).length (Wh.limbs a).length with h1 | h1
  · have := Wh.limbs_lt_of_length h1; omega
  · exact h1
theorem fit_tdiv {x y : Int} (h : Fit x) : Fit (x.tdiv y) := by
  unfold Fit at *
  have e : (x.tdiv y).natAbs = x.natAbs / y.natAbs := Int.natAbs_tdiv x y
  rw [e]
  have := limbs_mono (Nat.div_le_self x.natAbs y.natAbs)
  omega
theorem fit_tmod {x y : Int} (h : Fit x) : Fit (x.tmod y) := by
  unfold Fit at *
  have e : (x.tmod y).natAbs = x.natAbs % y.natAbs := Int.natAbs_tmod x y
  rw [e]
  have := limbs_mono (Nat.mod_le x.natAbs y.natAbs)
  omega
theorem fit_one : Fit 1 := by unfold Fit; rw [show ((1 : Int).natAbs) = 1 from rfl, limbs_one]; decide
/-- what holds in Floor behind the first stores: the divisor, and the two results -/
structure Fl (w W : World) (b0 b1 q0 q1 r0 r1 : Value) : Prop where
  b0 : W.cell? ⟨w.heap.size + 1, 0, none⟩ = some b0
  b1 : W.cell? ⟨w.heap.size + 1, 1, none⟩ = some b1
  q0 : W.cell? ⟨w.heap.size + 1 + 1, 0, none⟩ = some q0
  q1 : W.cell? ⟨w.heap.size + 1 + 1, 1, none⟩ = some q1
  r0 : W.cell? ⟨w.heap.size + 1 + 1 + 1, 0, none⟩ = some r0
  r1 : W.cell? ⟨w.heap.size + 1 + 1 + 1, 1, none⟩ = some r1
  f0 : W.frozen? ⟨w.heap.size + 1 + 1, 0, none⟩ = false
  f1 : W.frozen? ⟨w.heap.size + 1 + 1, 1, none⟩ = false
  g0 : W.frozen? ⟨w.heap.size + 1 + 1 + 1, 0, none⟩ = false
  g1 : W.frozen? ⟨w.heap.size + 1 + 1 + 1, 1, none⟩ = false
  size : w.heap.size + 4 ≤ W.heap.size
  below : Below w.heap.size w W
theorem Laid4.fl {w W : World} {a0 a1 b0 b1 q0 q1 r0 r1 : Value} (h : Laid4 w W a0 a1 b0 b1 q0 q1 r0 r1) : Fl w W b0 b1 q0 q1 r0 r1 := ⟨h.b0, h.b1, h.q0, h.q1, h.r0, h.r1, h.f0, h.f1, h.g0, h.g1, h.size, h.below⟩
theorem Fl.mono {w W W' : World} {b0 b1 q0 q1 r0 r1 : Value} (h : Fl w W b0 b1 q0 q1 r0 r1) (hb : Below W.heap.size W W') : Fl w W' b0 b1 q0 q1 r0 r1 := by
  have hs := h.size
  have c : ∀ b i, b < w.heap.size + 4 → W'.cell? ⟨b, i, none⟩ = W.cell? ⟨b, i, none⟩ := fun b i hi => hb.cell (p := ⟨b, i, none⟩) (by show b < _; omega)
  have f : ∀ b i, b < w.heap.size + 4 → W'.frozen? ⟨b, i, none⟩ = W.frozen? ⟨b, i, none⟩ := fun b i hi => hb.frozen (p := ⟨b, i, none⟩) (by show b < _; omega)
  exact ⟨(c _ _ (by omega)).trans h.b0, (c _ _ (by omega)).trans h.b1, (c _ _ (by omega)).trans h.q0, (c _ _ (by omega)).trans h.q1, (c _ _ (by omega)).trans h.r0, (c _ _ (by omega)).trans h.r1,
    (f _ _ (by omega)).trans h.f0, (f _ _ (by omega)).trans h.f1, (f _ _ (by omega)).trans h.g0, (f _ _ (by omega)).trans h.g1, Nat.le_trans h.size hb.size, h.below.trans (hb.mono (by have := h.below.size; omega))⟩
theorem Fl.putq {w W : World} {b0 b1 q0 q1 r0 r1 : Value} (h : Fl w W b0 b1 q0 q1 r0 r1) (x0 x1 : Value) : Fl w ((W.setCell ⟨w.heap.size + 1 + 1, 0, none⟩ x0).setCell ⟨w.heap.size + 1 + 1, 1, none⟩ x1) b0 b1 x0 x1 r0 r1 := by
  obtain ⟨e0, e1⟩ := two_cells W (w.heap.size + 1 + 1) x0 x1 h.q0 h.q1
  exact ⟨far1 h.b0 (by omega), far1 h.b1 (by omega), e0, e1, far1 h.r0 (by omega), far1 h.r1 (by omega), by simp only [World.frozen?_setCell]; exact h.f0, by simp only [World.frozen?_setCell]; exact h.f1, by simp only [World.frozen?_setCell]; exact h.g0, by simp only [World.frozen?_setCell]; exact h.g1,
    by simpa using h.size, (h.below.setCell (by show w.heap.size ≤ w.heap.size + 1 + 1; omega) _).setCell (by show w.heap.size ≤ w.heap.size + 1 + 1; omega) _⟩
theorem Fl.putr {w W : World} {b0 b1 q0 q1 r0 r1 : Value} (h : Fl w W b0 b1 q0 q1 r0 r1) (x0 x1 : Value) : Fl w ((W.setCell ⟨w.heap.size + 1 + 1 + 1, 0, none⟩ x0).setCell ⟨w.heap.size + 1 + 1 + 1, 1, none⟩ x1) b0 b1 q0 q1 x0 x1 := by
  obtain ⟨e0, e1⟩ := two_cells W (w.heap.size + 1 + 1 + 1) x0 x1 h.r0 h.r1
  exact ⟨far1 h.b0 (by omega), far1 h.b1 (by omega), far1 h.q0 (by omega), far1 h.q1 (by omega), e0, e1, by simp only [World.frozen?_setCell]; exact h.f0, by simp only [World.frozen?_setCell]; exact h.f1, by simp only [World.frozen?_setCell]; exact h.g0, by simp only [World.frozen?_setCell]; exact h.g1,
    by simpa using h.size, (h.below.setCell (by show w.heap.size ≤ w.heap.size + 1 + 1 + 1; omega) _).setCell (by show w.heap.size ≤ w.heap.size + 1 + 1 + 1; omega) _⟩
theorem Sl.two {w : World} {v : Value} {l : List Nat} (h : Sl w v l) (b : Nat) {x0 x1 : Value} (k0 : w.cell? ⟨b, 0, none⟩ = some x0) (k1 : w.cell? ⟨b, 1, none⟩ = some x1) (n0 : NoLimb x0) (n1 : NoLimb x1) (x y : Value) :
    Sl ((w.setCell ⟨b, 0, none⟩ x).setCell ⟨b, 1, none⟩ y) v l :=
  (h.store _ k0 n0 x).store _ (u := x1) (by rw [World.cell?_setCell_other _ _ _ _ (off_ne (by decide))]; exact k1) n1 y
/-- what the results hold -/
structure FlNum (w W : World) (b1 : Value) (y q r : Int) : Prop where
  held : ∃ qa qc ra rc, Fl w W (.int .i64 y.sign) b1 (.int .i64 q.sign) (.slice qa (Wh.limbs q.natAbs).length qc) (.int .i64 r.sign) (.slice ra (Wh.limbs r.natAbs).length rc) ∧ Sl W (.slice qa (Wh.limbs q.natAbs).length qc) (Wh.limbs q.natAbs) ∧ Sl W (.slice ra (Wh.limbs r.natAbs).length rc) (Wh.limbs r.natAbs)
theorem Fl.num {w W : World} {b1 q1 r1 : Value} {y : Int} {z0 z2 : Int} (h : Fl w W (.int .i64 y.sign) b1 (.int .i64 z0) q1 (.int .i64 z2) r1) (n1 : NoLimb q1) (n3 : NoLimb r1) {q r : Int} {qa ra : Option Addr} {qc rc : Nat}
    (hq : Sl W (.slice qa (Wh.limbs q.natAbs).length qc) (Wh.limbs q.natAbs)) (hr : Sl W (.slice ra (Wh.limbs r.natAbs).length rc) (Wh.limbs r.natAbs)) :
    FlNum w ((((W.setCell ⟨w.heap.size + 1 + 1, 0, none⟩ (.int .i64 q.sign)).setCell ⟨w.heap.size + 1 + 1, 1, none⟩ (.slice qa (Wh.limbs q.natAbs).length qc)).setCell ⟨w.heap.size + 1 + 1 + 1, 0, none⟩ (.int .i64 r.sign)).setCell ⟨w.heap.size + 1 + 1 + 1, 1, none⟩ (.slice ra (Wh.limbs r.natAbs).length rc)) b1 y q r := by
  have h2 := h.putq (.int .i64 q.sign) (.slice qa (Wh.limbs q.natAbs).length qc)
  exact ⟨⟨qa, qc, ra, rc, h2.putr _ _, (hq.two _ h.q0 h.q1 (nl_int _) n1 _ _).two _ h2.r0 h2.r1 (nl_int _) n3 _ _, (hr.two _ h.q0 h.q1 (nl_int _) n1 _ _).two _ h2.r0 h2.r1 (nl_int _) n3 _ _⟩⟩
theorem Fl.sl {w W : World} {b0 b1 q1 r1 : Value} {z0 z2 : Int} (h : Fl w W b0 b1 (.int .i64 z0) q1 (.int .i64 z2) r1) (n1 : NoLimb q1) (n3 : NoLimb r1) {v : Value} {l : List Nat} (hs : Sl W v l) (x0 x1 y0 y1 : Value) :
    Sl ((((W.setCell ⟨w.heap.size + 1 + 1, 0, none⟩ x0).setCell ⟨w.heap.size + 1 + 1, 1, none⟩ x1).setCell ⟨w.heap.size + 1 + 1 + 1, 0, none⟩ y0).setCell ⟨w.heap.size + 1 + 1 + 1, 1, none⟩ y1) v l := by
  have h2 := h.putq x0 x1
  exact (hs.two _ h.q0 h.q1 (nl_int _) n1 _ _).two _ h2.r0 h2.r1 (nl_int _) n3 _ _
end Go.Proofs.YteggbenhffmijaaGreatDoor

/- WALKS, division 5: Floor, the walk. -/
namespace Go.Proofs.YteggbenhffmijaaGreatDoor
open Go.RowKit
set_option maxRecDepth 100000 in
set_option maxHeartbeats 4000000 in
theorem floor_plain (w : World) (x y : Int) (a1 a2 : Option Addr) (n1 n2 c1 c2 : Nat)
    (hquo : ∀ W : World, Below w.heap.size w W → Calls Tryz.prog 241 #[.agg #[.int .i64 x.sign, .slice a1 n1 c1], .agg #[.int .i64 y.sign, .slice a2 n2 c2]] W fun e w' => (∃ vq vr, e = .returned (.tuple #[vq, vr]) ∧ Num w' vq (x.tdiv y) ∧ Num w' vr (x.tmod y)) ∧ Below W.heap.size W w')
    (hneg : ¬ (x.tmod y).sign * y.sign = -1) :
    Calls Tryz.prog 209 #[.agg #[.int .i64 x.sign, .slice a1 n1 c1], .agg #[.int .i64 y.sign, .slice a2 n2 c2]] w fun e w' => (∃ vq vr, e = .returned (.tuple #[vq, vr]) ∧ Num w' vq (x.tdiv y) ∧ Num w' vr (x.tmod y)) ∧ Below w.heap.size w w' := by
  have HQ := Lib.hid hquo; clear hquo
  have HL := laid4_new w (.int .i64 x.sign) (.slice a1 n1 c1) (.int .i64 y.sign) (.slice a2 n2 c2) (.int .i64 0) (.slice none 0 0) (.int .i64 0) (.slice none 0 0) 92
  generalize x.tdiv y = q at *
  generalize x.tmod y = r at *
  have hz : (r.sign * y.sign == -1) = false := beq_eq_false_iff_ne.2 hneg
  clear hneg
  go_enter Tryz.func209, Tryz.ntmps209
  go_wp2_with fail
  generalize (((w.alloc (Obj.cells #[Value.int IntKind.i64 x.sign, Value.slice a1 n1 c1] 92)).alloc (Obj.cells #[Value.int IntKind.i64 y.sign, Value.slice a2 n2 c2] 92)).alloc (Obj.cells #[Value.int IntKind.i64 0, Value.slice none 0 0] 92)).alloc (Obj.cells #[Value.int IntKind.i64 0, Value.slice none 0 0] 92) = W at *
  refine (HQ.out W HL.below).mono ?_
  rintro e w1 ⟨⟨vq, vr, rfl, hnq, hnr⟩, hb1⟩
  obtain ⟨slq, rfl, hsq⟩ := hnq
  obtain ⟨qa, qc, rfl⟩ := hsq.len
  obtain ⟨slr, rfl, hsr⟩ := hnr
  obtain ⟨ra, rc, rfl⟩ := hsr.len
  have F1 := (HL.mono hb1).fl
  clear HL
  have N1 := Lib.hid (F1.num (nl_slice _ _ _) (nl_slice _ _ _) hsq hsr)
  have HF1 := Lib.hid F1
  obtain ⟨d0, -, k0, k1, m0, m1, f0, f1, g0, g1, -, -⟩ := F1
  have hys := sign_range y
  have hrs := sign_range r
  go_wp2_with fail
  generalize (((w1.setCell ⟨w.heap.size + 1 + 1, 0, none⟩ (.int .i64 q.sign)).setCell ⟨w.heap.size + 1 + 1, 1, none⟩ (.slice qa (Wh.limbs q.natAbs).length qc)).setCell ⟨w.heap.size + 1 + 1 + 1, 0, none⟩ (.int .i64 r.sign)).setCell ⟨w.heap.size + 1 + 1 + 1, 1, none⟩ (.slice ra (Wh.limbs r.natAbs).length rc) = V at N1 ⊢
  refine (with_any _ _ hrs hys _).mono ?_
  rintro e w2 ⟨rfl, rfl⟩
  clear d0 k0 k1 m0 m1 f0 f1 g0 g1 hsq hsr
  obtain ⟨qa', qc', ra', rc', FV, SQ, SR⟩ := N1.out
  have FZ := Lib.hid ((FV.putq (.int .i64 q.sign) (.slice qa' (Wh.limbs q.natAbs).length qc')).putr (.int .i64 r.sign) (.slice ra' (Wh.limbs r.natAbs).length rc'))
  have SZ := Lib.hid (And.intro (FV.sl (nl_slice _ _ _) (nl_slice _ _ _) SQ (.int .i64 q.sign) (.slice qa' (Wh.limbs q.natAbs).length qc') (.int .i64 r.sign) (.slice ra' (Wh.limbs r.natAbs).length rc')) (FV.sl (nl_slice _ _ _) (nl_slice _ _ _) SR (.int .i64 q.sign) (.slice qa' (Wh.limbs q.natAbs).length qc') (.int .i64 r.sign) (.slice ra' (Wh.limbs r.natAbs).length rc')))
  obtain ⟨d0, -, k0, k1, m0, m1, f0, f1, g0, g1, -, -⟩ := FV
  clear SQ SR N1
  go_wp2_with fail
  go_region
  all_goals
    go_wp2
    clear d0 k0 k1 m0 m1 f0 f1 g0 g1
    generalize (((V.setCell ⟨w.heap.size + 1 + 1, 0, none⟩ (.int .i64 q.sign)).setCell ⟨w.heap.size + 1 + 1, 1, none⟩ (.slice qa' (Wh.limbs q.natAbs).length qc')).setCell ⟨w.heap.size + 1 + 1 + 1, 0, none⟩ (.int .i64 r.sign)).setCell ⟨w.heap.size + 1 + 1 + 1, 1, none⟩ (.slice ra' (Wh.limbs r.natAbs).length rc') = Z at FZ SZ ⊢
    have z0 : Z.drew.cell? ⟨w.heap.size + 1 + 1, 0, none⟩ = _ := FZ.out.q0
    have z1 : Z.drew.cell? ⟨w.heap.size + 1 + 1, 1, none⟩ = _ := FZ.out.q1
    have z2 : Z.drew.cell? ⟨w.heap.size + 1 + 1 + 1, 0, none⟩ = _ := FZ.out.r0
    have z3 : Z.drew.cell? ⟨w.heap.size + 1 + 1 + 1, 1, none⟩ = _ := FZ.out.r1
    exact bodyPost_ret (v := .tuple #[.agg #[.int .i64 q.sign, .slice qa' (Wh.limbs q.natAbs).length qc'], .agg #[.int .i64 r.sign, .slice ra' (Wh.limbs r.natAbs).length rc']]) (by simp [results, Tryz.results209, go_sem, FZ.out.q0, FZ.out.q1, FZ.out.r0, FZ.out.r1]) rfl ⟨⟨_, _, rfl, ⟨_, rfl, SZ.out.1.mono (Below.refl _ _).drew⟩, ⟨_, rfl, SZ.out.2.mono (Below.refl _ _).drew⟩⟩, FZ.out.below.drew⟩
end Go.Proofs.YteggbenhffmijaaGreatDoor

/- A region that draws its order: loads taken first under a condition on the world that the region's last stores may end. My own law, beside the library's. -/
namespace Go.Proofs.Rt
open Go
variable {P : Program} {ops : Array Oper} {Q : Exit → Act → World → Prop} {md : Region.Mode} {S : World → Prop} {T : List Nat}
/-- whatever order is picked, and S holds behind each operation that is not of the tail T -/
def wpAnyT (P : Program) (md : Region.Mode) (ops : Array Oper) (Q : Exit → Act → World → Prop) (S : World → Prop) (T : List Nat) : Nat → Array Bool → Act → World → Prop
  | 0, listed, a, w => Region.ready md ops listed = [] ∧ Q .normal a w
  | fuel + 1, listed, a, w =>
    (Region.ready md ops listed = [] → Q .normal a w) ∧
    ∀ i ∈ Region.ready md ops listed, wpOp P ops Q i (fun a' w' => (T.contains i = false → S w') ∧ wpAnyT P md ops Q S T fuel (listed.setIfInBounds i true) a' w') a w
theorem wpAny_of_T : ∀ (fuel : Nat) (listed : Array Bool) (a : Act) (w : World), wpAnyT P md ops Q S T fuel listed a w → wpAny P md ops Q fuel listed a w
  | 0, _, _, _, h => h
  | fuel + 1, _, _, _, h => ⟨h.1, fun i hi => wpOp_mono (fun a' w' h' => wpAny_of_T fuel _ a' w' h'.2) (h.2 i hi)⟩
/-- number j waits for number i, in at most so many steps -/
def waits (md : Region.Mode) (ops : Array Oper) (i : Nat) : Nat → Nat → Bool
  | 0, _ => false
  | n + 1, j => match ops[j]? with
    | some o => o.after.any fun e => Region.binds md e && (e.on == i || waits md ops i n e.on)
    | none => false
/-- what a listed operation waits for is listed -/
def Closed (md : Region.Mode) (ops : Array Oper) (listed : Array Bool) : Prop := ∀ k o, ops[k]? = some o → listed.getD k false = true → ∀ e ∈ o.after, Region.binds md e = true → listed.getD e.on false = true
theorem waits_no {i : Nat} {listed : Array Bool} (hc : Closed md ops listed) (hi : listed.getD i false = false) : ∀ (n j : Nat) (o : Oper), waits md ops i n j = true → ops[j]? = some o → (∀ e ∈ o.after, Region.binds md e = true → listed.getD e.on false = true) → False
  | 0, _, _, h, _, _ => by cases h
  | n + 1, j, o, h, ho, hall => by
    unfold waits at h
    rw [ho] at h
    obtain ⟨e, he, h⟩ := Array.any_eq_true'.1 h
    rw [Bool.and_eq_true, Bool.or_eq_true] at h
    obtain ⟨hb, h⟩ := h
    have hl := hall e he hb
    rcases h with h | h
    · have heq : e.on = i := by simpa using h
      rw [heq, hi] at hl
      cases hl
    · cases hk : ops[e.on]? with
      | none => cases n with
        | zero => cases h
        | succ n => unfold waits at h; rw [hk] at h; cases h
      | some ok => exact waits_no hc hi n e.on ok h hk (hc e.on ok hk hl)
theorem closed_set {j : Nat} {listed : Array Bool} (hc : Closed md ops listed) (hj : j ∈ Region.ready md ops listed) : Closed md ops (listed.setIfInBounds j true) := by
  intro k o hk hl e he hb
  obtain ⟨_, oj, hoj, hall⟩ := mem_ready.1 hj
  by_cases hjk : j = k
  · subst hjk
    rw [hoj] at hk
    obtain rfl := Option.some.inj hk
    exact getD_set_true (hall e he hb)
  · rw [getD_set_ne false hjk] at hl
    exact getD_set_true (hc k o hk hl e he hb)
/-- the same as a Bool, for the kernel -/
def closedB (md : Region.Mode) (ops : Array Oper) (listed : Array Bool) : Bool := (List.range ops.size).all fun k => !(listed.getD k false) || match ops[k]? with
  | some o => o.after.all fun e => !(Region.binds md e) || listed.getD e.on false
  | none => true
theorem closed_of_B {listed : Array Bool} (h : closedB md ops listed = true) : Closed md ops listed := by
  intro k o hk hl e he hb
  have hlt : k < ops.size := (Array.getElem?_eq_some_iff.1 hk).1
  have := List.all_eq_true.1 h k (List.mem_range.2 hlt)
  rw [hl, hk] at this
  rw [Bool.not_true, Bool.false_or] at this
  have h2 := Array.all_eq_true_iff_forall_mem.1 this e he
  rw [hb, Bool.not_true, Bool.false_or] at h2
  exact h2
theorem wpAnyT_first {i : Nat} {oi : Oper} {v : Value} (hi : ops[i]? = some oi) (hsel : ∀ (j : Nat) (o : Oper) cs b, ops[j]? = some o → o.op ≠ .select cs b)
    (hQ : ∀ c a w, Q (.panic c) (a.put oi.dst v) w → Q (.panic c) a w) (hT : ∀ j, T.contains j = true → waits md ops i ops.size j = true) :
    ∀ (fuel : Nat) (listed : Array Bool) (a : Act) (w : World), Closed md ops listed →
      (∀ j oj, ops[j]? = some oj → j ≠ i → listed.getD j true = false → (∀ e ∈ oj.after, Region.binds md e = true → e.on ≠ i) → oi.apart ops oj = true) →
      i ∈ Region.ready md ops listed → YieldsIf P ops S oi v a → S w →
      wpAnyT P md ops Q S T fuel (listed.setIfInBounds i true) (a.put oi.dst v) w → wpAnyT P md ops Q S T (fuel + 1) listed a w := by
  intro fuel
  induction fuel with
  | zero =>
    intro listed a w _ _ hr hy hS H
    refine ⟨fun h => (by rw [h] at hr; cases hr), fun j hj => ?_⟩
    by_cases hji : j = i
    · subst hji; exact hy.wpOp hi hS ⟨fun _ => hS, H⟩
    · have := ready_mono hj hji
      rw [H.1] at this
      cases this
  | succ fuel ih =>
    intro listed a w hcl hfree hr hy hS H
    refine ⟨fun h => (by rw [h] at hr; cases hr), fun j hj => ?_⟩
    by_cases hji : j = i
    · subst hji; exact hy.wpOp hi hS ⟨fun _ => hS, H⟩
    · have h1 := H.2 j (ready_mono hj hji)
      obtain ⟨hjun, oj, hoj, hall⟩ := mem_ready.1 hj
      have hnot : ∀ e ∈ oj.after, Region.binds md e = true → e.on ≠ i := fun e he hb heq => by
        have h1 := hall e he hb
        have h0 := (mem_ready.1 hr).1
        rw [heq] at h1
        rcases Nat.lt_or_ge i listed.size with h' | h'
        · simp [h'] at h0 h1; rw [h0] at h1; cases h1
        · simp [Array.getElem?_eq_none h'] at h1
      have hjt : T.contains j = false := by
        cases hc : T.contains j with
        | false => rfl
        | true =>
          have h0 := (mem_ready.1 hr).1
          have hi0 : listed.getD i false = false := by
            rcases Nat.lt_or_ge i listed.size with h' | h'
            · simp [h'] at h0 ⊢; exact h0
            · simp [Array.getElem?_eq_none h'] at h0
          exact (waits_no hcl hi0 _ j oj (hT j hc) hoj hall).elim
      have h2 := wpOp_putIf hoj (hfree j oj hoj hji hjun hnot) (fun cs b => hsel i oi cs b hi) (fun cs b => hsel j oj cs b hoj) hQ hy h1
      have hfree' : ∀ k ok, ops[k]? = some ok → k ≠ i → (listed.setIfInBounds j true).getD k true = false →
          (∀ e ∈ ok.after, Region.binds md e = true → e.on ≠ i) → oi.apart ops ok = true := fun k ok hk hki hun hno => by
        refine hfree k ok hk hki ?_ hno
        by_cases hjk : j = k
        · subst hjk; exact hjun
        · rw [getD_set_ne true hjk] at hun; exact hun
      refine wpOp_mono (fun a' w' h3 => ⟨fun _ => h3.2.1 hjt, ih (listed.setIfInBounds j true) a' w' (closed_set hcl hj) hfree' (ready_mono hr (Ne.symm hji)) h3.1 (h3.2.1 hjt) ?_⟩) h2
      rw [Array.setIfInBounds_comm _ _ hji]
      exact h3.2.2
/-- take number i first -/
theorem wpAnyT_take {i : Nat} {oi : Oper} {v : Value} {fuel : Nat} {listed : Array Bool} {a : Act} {w : World} (hi : ops[i]? = some oi)
    (hs : Region.noSelect ops = true) (hf : Region.free md ops listed i = true) (hr : (Region.ready md ops listed).contains i = true) (hT : (T.all fun j => waits md ops i ops.size j) = true) (hcl : Closed md ops listed)
    (hQ : ∀ c a w, Q (.panic c) (a.put oi.dst v) w → Q (.panic c) a w) (hw : Region.wanted oi (yielded ops a.tmps) = true) (hS : S w) (hy : ∀ w, S w → (execOp a.eval oi).run P w = .ok (.value v) w)
    (h : wpAnyT P md ops Q S T fuel (listed.setIfInBounds i true) (a.put oi.dst v) w) : wpAnyT P md ops Q S T (fuel + 1) listed a w :=
  wpAnyT_first hi (Region.noSelect_spec hs) hQ (fun j hj => by rw [List.all_eq_true] at hT; exact hT j (by simpa using hj)) fuel listed a w hcl (Region.free_spec hi hf) (by simpa using hr) (.inl ⟨hw, hy⟩) hS h
/-- one alone may come up, and it is not of the tail -/
theorem wpAnyT_one {i : Nat} {o : Oper} {fuel : Nat} {listed : Array Bool} {a : Act} {w : World} (hr : Region.ready md ops listed = [i]) (ho : ops[i]? = some o) (hw : Region.wanted o (yielded ops a.tmps) = true)
    (h : o.wp P a w (fun a' w' => (T.contains i = false → S w') ∧ wpAnyT P md ops Q S T fuel (listed.setIfInBounds i true) a' w') Q) : wpAnyT P md ops Q S T (fuel + 1) listed a w := by
  refine ⟨fun h0 => (by rw [hr] at h0; cases h0), fun j hj => ?_⟩
  rw [hr] at hj
  obtain rfl := List.mem_singleton.1 hj
  unfold wpOp
  simp only [ho, hw, if_true]
  exact .inl h
/-- the same, the way on under a name -/
theorem wpAnyT_step {i : Nat} {o : Oper} {fuel : Nat} {listed : Array Bool} {a : Act} {w : World} (hr : Region.ready md ops listed = [i]) (ho : ops[i]? = some o) (hw : Region.wanted o (yielded ops a.tmps) = true)
    (h : ∀ K : Act → World → Prop, (∀ a' w', (T.contains i = false → S w') → wpAnyT P md ops Q S T fuel (listed.setIfInBounds i true) a' w' → K a' w') → o.wp P a w K Q) : wpAnyT P md ops Q S T (fuel + 1) listed a w :=
  wpAnyT_one hr ho hw (h _ fun _ _ h1 h2 => ⟨h1, h2⟩)
theorem wpAnyT_done {listed : Array Bool} {a : Act} {w : World} (hr : Region.ready md ops listed = []) (h : Q .normal a w) : ∀ fuel, wpAnyT P md ops Q S T fuel listed a w
  | 0 => ⟨hr, h⟩
  | _ + 1 => ⟨fun _ => h, by rw [hr]; simp⟩
theorem wp_region_T {id : Nat} {a : Act} {w : World} (S : World → Prop) (T : List Nat) (hm : P.follows .mixedOrders = true)
    (h : wpAnyT P .any ops Q S T ops.size (Array.replicate ops.size false) a w.drew) : (Code.region id ops true).wp P Q a w :=
  wp_region_any hm (wpAny_of_T _ _ _ _ h)
theorem wp_region_Tn {id : Nat} {a : Act} {w : World} (n : Nat) (S : World → Prop) (T : List Nat) (hn : ops.size = n) (hm : P.follows .mixedOrders = true)
    (h : wpAnyT P .any ops Q S T n (Array.replicate n false) a w.drew) : (Code.region id ops true).wp P Q a w := by
  subst hn
  exact wp_region_T S T hm h
end Go.Proofs.Rt

/- WALKS, division 6: Floor, where the quotient goes down by one. -/
namespace Go.Proofs.YteggbenhffmijaaGreatDoor
open Go.RowKit
theorem limbs_of_one : Wh.limbs ((1 : Int).natAbs) = [1] := by
  show Wh.limbs 1 = [1]
  rw [Wh.limbs_pos (by decide)]; simp [Wh.R, Wh.limbs_zero]
theorem num_one {w : World} {a : Option Addr} {c : Nat} (h : Sl w (.slice a 1 c) [1]) : Num w (.agg #[.int .i64 1, .slice a 1 c]) 1 := ⟨_, rfl, by rw [limbs_of_one]; exact h⟩
theorem one_any (w : World) :
    Calls Tryz.prog 182 #[.int .u32 1] w fun e w' => (∃ a c, e = .returned (.agg #[.int .i64 1, .slice a 1 c]) ∧ Sl w' (.slice a 1 c) [1]) ∧ Below w.heap.size w w' := by
  refine (small_any w 1 (by decide)).mono ?_
  rintro e w' ⟨⟨v', rfl, sl, rfl, hsl⟩, hb⟩
  have hl : Wh.limbs (((1 : Nat) : Int).natAbs) = [1] := limbs_of_one
  rw [hl] at hsl
  obtain ⟨a, c, rfl⟩ := hsl.len
  exact ⟨⟨a, c, rfl, hsl⟩, hb⟩
set_option maxRecDepth 100000 in
set_option maxHeartbeats 4000000 in
theorem floor_down (w : World) (x y : Int) (a1 a2 : Option Addr) (n1 n2 c1 c2 : Nat)
    (hquo : ∀ W : World, Below w.heap.size w W → Calls Tryz.prog 241 #[.agg #[.int .i64 x.sign, .slice a1 n1 c1], .agg #[.int .i64 y.sign, .slice a2 n2 c2]] W fun e w' => (∃ vq vr, e = .returned (.tuple #[vq, vr]) ∧ Num w' vq (x.tdiv y) ∧ Num w' vr (x.tmod y)) ∧ Below W.heap.size W w')
    (hneg : (x.tmod y).sign * y.sign = -1) (hs2 : Sl w (.slice a2 n2 c2) (Wh.limbs y.natAbs)) (hfx : Fit x) (hfy : Fit y) :
    Calls Tryz.prog 209 #[.agg #[.int .i64 x.sign, .slice a1 n1 c1], .agg #[.int .i64 y.sign, .slice a2 n2 c2]] w fun e w' => (∃ vq vr, e = .returned (.tuple #[vq, vr]) ∧ Num w' vq (x.tdiv y - 1) ∧ Num w' vr (x.tmod y + y)) ∧ Below w.heap.size w w' := by
  have hfq : Fit (x.tdiv y) := fit_tdiv hfx
  have hfr : Fit (x.tmod y) := fit_tmod hfx
  have HS2 := Lib.hid hs2; clear hs2
  have HQ := Lib.hid hquo; clear hquo
  have HL := laid4_new w (.int .i64 x.sign) (.slice a1 n1 c1) (.int .i64 y.sign) (.slice a2 n2 c2) (.int .i64 0) (.slice none 0 0) (.int .i64 0) (.slice none 0 0) 92
  generalize x.tdiv y = q at *
  generalize x.tmod y = r at *
  have hlt1 : 1 < 1000000000 := by decide
  have HFQ := Lib.hid hfq; have HFR := Lib.hid hfr; have HFY := Lib.hid hfy; clear hfq hfr hfy hfx
  obtain ⟨q', hq'⟩ : ∃ t, q - 1 = t := ⟨_, rfl⟩
  obtain ⟨r', hr'⟩ : ∃ t, r + y = t := ⟨_, rfl⟩
  rw [hq', hr']
  have HQ' := Lib.hid hq'; have HR' := Lib.hid hr'; clear hq' hr'
  have HNEG := Lib.hid hneg; clear hneg
  go_enter Tryz.func209, Tryz.ntmps209
  go_wp2_with fail
  generalize (((w.alloc (Obj.cells #[Value.int IntKind.i64 x.sign, Value.slice a1 n1 c1] 92)).alloc (Obj.cells #[Value.int IntKind.i64 y.sign, Value.slice a2 n2 c2] 92)).alloc (Obj.cells #[Value.int IntKind.i64 0, Value.slice none 0 0] 92)).alloc (Obj.cells #[Value.int IntKind.i64 0, Value.slice none 0 0] 92) = W at *
  refine (HQ.out W HL.below).mono ?_
  rintro e w1 ⟨⟨vq, vr, rfl, hnq, hnr⟩, hb1⟩
  obtain ⟨slq, rfl, hsq⟩ := hnq
  obtain ⟨qa, qc, rfl⟩ := hsq.len
  obtain ⟨slr, rfl, hsr⟩ := hnr
  obtain ⟨ra, rc, rfl⟩ := hsr.len
  have F1 := (HL.mono hb1).fl
  clear HL
  have N1 := Lib.hid (F1.num (nl_slice _ _ _) (nl_slice _ _ _) hsq hsr)
  have HF1 := Lib.hid F1
  obtain ⟨d0, -, k0, k1, m0, m1, f0, f1, g0, g1, -, -⟩ := F1
  have hys := sign_range y
  have hrs := sign_range r
  go_wp2_with fail
  generalize (((w1.setCell ⟨w.heap.size + 1 + 1, 0, none⟩ (.int .i64 q.sign)).setCell ⟨w.heap.size + 1 + 1, 1, none⟩ (.slice qa (Wh.limbs q.natAbs).length qc)).setCell ⟨w.heap.size + 1 + 1 + 1, 0, none⟩ (.int .i64 r.sign)).setCell ⟨w.heap.size + 1 + 1 + 1, 1, none⟩ (.slice ra (Wh.limbs r.natAbs).length rc) = V at N1 ⊢
  refine (with_any _ _ hrs hys _).mono ?_
  rintro e w2 ⟨rfl, rfl⟩
  rw [HNEG.out]
  clear d0 k0 k1 m0 m1 f0 f1 g0 g1 hsq hsr
  obtain ⟨qa', qc', ra', rc', FV, SQ, SR⟩ := N1.out
  have HFV := Lib.hid FV
  have SY : Sl V (.slice a2 n2 c2) (Wh.limbs y.natAbs) := HS2.out.mono FV.below
  have HSQ := Lib.hid SQ; have HSR := Lib.hid SR; have HSY := Lib.hid SY
  obtain ⟨d0, d1, k0, k1, m0, m1, f0, f1, g0, g1, -, -⟩ := FV
  clear SQ SR SY N1
  go_wp2_with fail
  clear d0 d1 k0 k1 m0 m1 f0 f1 g0 g1
  refine wp_region_noPanic ?_
  refine Rt.wp_region_Tn 8 (fun w' => Fl w w' (.int .i64 y.sign) (.slice a2 n2 c2) (.int .i64 q.sign) (.slice qa' (Wh.limbs q.natAbs).length qc') (.int .i64 r.sign) (.slice ra' (Wh.limbs r.natAbs).length rc')) [6, 7] rfl (by kernel_rfl) ?_
  have HS0 := HFV.out.mono (Below.refl V.heap.size V).drew
  refine Rt.wpAnyT_take (i := 0) (v := .agg #[.int .i64 q.sign, .slice qa' (Wh.limbs q.natAbs).length qc']) rfl (by kernel_rfl) (by kernel_rfl) (by kernel_rfl) (by kernel_rfl) (Rt.closed_of_B (by kernel_rfl)) (fun _ _ _ h => h) (by rfl) HS0 ?_ ?_
  · intro w' hS
    have e0 := hS.q0
    have e1 := hS.q1
    clear hS
    go_simp
  simp only [Act.put, List.getElem_toArray, List.getElem_cons_zero, List.getElem_cons_succ, List.setIfInBounds_toArray, List.set_cons_zero, List.set_cons_succ]
  refine Rt.wpAnyT_take (i := 3) (v := .agg #[.int .i64 r.sign, .slice ra' (Wh.limbs r.natAbs).length rc']) rfl (by kernel_rfl) (by kernel_rfl) (by kernel_rfl) (by kernel_rfl) (Rt.closed_of_B (by kernel_rfl)) (fun _ _ _ h => h) (by rfl) HS0 ?_ ?_
  · intro w' hS
    have e0 := hS.r0
    have e1 := hS.r1
    clear hS
    go_simp
  simp only [Act.put, List.getElem_toArray, List.getElem_cons_zero, List.getElem_cons_succ, List.setIfInBounds_toArray, List.set_cons_zero, List.set_cons_succ]
  refine Rt.wpAnyT_take (i := 4) (v := .agg #[.int .i64 y.sign, .slice a2 n2 c2]) rfl (by kernel_rfl) (by kernel_rfl) (by kernel_rfl) (by kernel_rfl) (Rt.closed_of_B (by kernel_rfl)) (fun _ _ _ h => h) (by rfl) HS0 ?_ ?_
  · intro w' hS
    have e0 := hS.b0
    have e1 := hS.b1
    clear hS
    go_simp
  simp only [Act.put, List.getElem_toArray, List.getElem_cons_zero, List.getElem_cons_succ, List.setIfInBounds_toArray, List.set_cons_zero, List.set_cons_succ]
  refine Rt.wpAnyT_step (i := 1) (by kernel_rfl) rfl (by rfl) (fun K hK => ?_)
  have HK := Lib.hid hK; clear hK
  go_simp
  refine (one_any _).mono ?_
  rintro e w5 ⟨⟨xa5, xc5, rfl, hs5⟩, hb5⟩
  have hb5 : Below V.heap.size V w5 := drew_left hb5
  have HS5 := Lib.hid hs5; clear hs5
  refine HK.out _ _ (fun _ => HFV.out.mono hb5) ?_
  clear HK
  refine Rt.wpAnyT_step (i := 2) (by kernel_rfl) rfl (by rfl) (fun K hK => ?_)
  have HK := Lib.hid hK; clear hK
  have hnq : Num w5 (.agg #[.int .i64 q.sign, .slice qa' (Wh.limbs q.natAbs).length qc']) q := ⟨_, rfl, HSQ.out.mono hb5⟩
  go_simp
  refine (sub_any w5 q 1 (.agg #[.int .i64 q.sign, .slice qa' (Wh.limbs q.natAbs).length qc']) (.agg #[.int .i64 1, .slice xa5 1 xc5]) hnq (num_one HS5.out) HFQ.out fit_one).mono ?_
  rintro e w6 ⟨⟨v6, rfl, hn6⟩, hb6⟩
  rw [HQ'.out] at hn6
  obtain ⟨sl6, rfl, hs6⟩ := hn6
  obtain ⟨xa6, xc6, rfl⟩ := hs6.len
  have hb6 : Below V.heap.size V w6 := hb5.trans (hb6.mono hb5.size)
  have HS6 := Lib.hid hs6; clear hs6 hnq hb5 HS5
  refine HK.out _ _ (fun _ => HFV.out.mono hb6) ?_
  clear HK
  refine Rt.wpAnyT_step (i := 5) (by kernel_rfl) rfl (by rfl) (fun K hK => ?_)
  have HK := Lib.hid hK; clear hK
  have hnr : Num w6 (.agg #[.int .i64 r.sign, .slice ra' (Wh.limbs r.natAbs).length rc']) r := ⟨_, rfl, HSR.out.mono hb6⟩
  have hny : Num w6 (.agg #[.int .i64 y.sign, .slice a2 n2 c2]) y := ⟨_, rfl, HSY.out.mono hb6⟩
  go_simp
  refine (add_any w6 r y (.agg #[.int .i64 r.sign, .slice ra' (Wh.limbs r.natAbs).length rc']) (.agg #[.int .i64 y.sign, .slice a2 n2 c2]) hnr hny HFR.out HFY.out).mono ?_
  rintro e w7 ⟨⟨v7, rfl, hn7⟩, hb7⟩
  rw [HR'.out] at hn7
  obtain ⟨sl7, rfl, hs7⟩ := hn7
  obtain ⟨xa7, xc7, rfl⟩ := hs7.len
  have HS67 := Lib.hid (HS6.out.mono hb7)
  have hb7 : Below V.heap.size V w7 := hb6.trans (hb7.mono hb6.size)
  have HS7 := Lib.hid hs7; clear hs7 hnr hny HS6 hb6
  have HF7 := Lib.hid (HFV.out.mono hb7)
  refine HK.out _ _ (fun _ => HF7.out) ?_
  clear HK
  obtain ⟨-, -, k0, k1, m0, m1, f0, f1, g0, g1, -, -⟩ := HF7.out
  refine Rt.wpAnyT_step (i := 6) (by kernel_rfl) rfl (by rfl) (fun K hK => ?_)
  have HK := Lib.hid hK; clear hK
  go_simp
  refine HK.out _ _ (fun h => by cases h) ?_
  clear HK
  refine Rt.wpAnyT_step (i := 7) (by kernel_rfl) rfl (by rfl) (fun K hK => ?_)
  have HK := Lib.hid hK; clear hK
  go_simp
  refine HK.out _ _ (fun h => by cases h) ?_
  clear HK
  refine Rt.wpAnyT_done (by kernel_rfl) ?_ _
  refine NoPanic.normal ?_
  clear k0 k1 m0 m1 f0 f1 g0 g1
  have FU := (HF7.out.putq (.int .i64 q'.sign) (.slice xa6 (Wh.limbs q'.natAbs).length xc6)).putr (.int .i64 r'.sign) (.slice xa7 (Wh.limbs r'.natAbs).length xc7)
  have SUQ := HF7.out.sl (nl_slice _ _ _) (nl_slice _ _ _) HS67.out (.int .i64 q'.sign) (.slice xa6 (Wh.limbs q'.natAbs).length xc6) (.int .i64 r'.sign) (.slice xa7 (Wh.limbs r'.natAbs).length xc7)
  have SUR := HF7.out.sl (nl_slice _ _ _) (nl_slice _ _ _) HS7.out (.int .i64 q'.sign) (.slice xa6 (Wh.limbs q'.natAbs).length xc6) (.int .i64 r'.sign) (.slice xa7 (Wh.limbs r'.natAbs).length xc7)
  generalize (((w7.setCell ⟨w.heap.size + 1 + 1, 0, none⟩ (.int .i64 q'.sign)).setCell ⟨w.heap.size + 1 + 1, 1, none⟩ (.slice xa6 (Wh.limbs q'.natAbs).length xc6)).setCell ⟨w.heap.size + 1 + 1 + 1, 0, none⟩ (.int .i64 r'.sign)).setCell ⟨w.heap.size + 1 + 1 + 1, 1, none⟩ (.slice xa7 (Wh.limbs r'.natAbs).length xc7) = U at FU SUQ SUR ⊢
  have FZ := Lib.hid ((FU.putq (.int .i64 q'.sign) (.slice xa6 (Wh.limbs q'.natAbs).length xc6)).putr (.int .i64 r'.sign) (.slice xa7 (Wh.limbs r'.natAbs).length xc7))
  have SZ := Lib.hid (And.intro (FU.sl (nl_slice _ _ _) (nl_slice _ _ _) SUQ (.int .i64 q'.sign) (.slice xa6 (Wh.limbs q'.natAbs).length xc6) (.int .i64 r'.sign) (.slice xa7 (Wh.limbs r'.natAbs).length xc7)) (FU.sl (nl_slice _ _ _) (nl_slice _ _ _) SUR (.int .i64 q'.sign) (.slice xa6 (Wh.limbs q'.natAbs).length xc6) (.int .i64 r'.sign) (.slice xa7 (Wh.limbs r'.natAbs).length xc7)))
  obtain ⟨d0, -, k0, k1, m0, m1, f0, f1, g0, g1, -, -⟩ := FU
  clear SUQ SUR HFV HF7 HS67 HS7 HSQ HSR HSY HS0
  go_wp2_with fail
  go_region
  all_goals
    go_wp2
    clear d0 k0 k1 m0 m1 f0 f1 g0 g1
    generalize (((U.setCell ⟨w.heap.size + 1 + 1, 0, none⟩ (.int .i64 q'.sign)).setCell ⟨w.heap.size + 1 + 1, 1, none⟩ (.slice xa6 (Wh.limbs q'.natAbs).length xc6)).setCell ⟨w.heap.size + 1 + 1 + 1, 0, none⟩ (.int .i64 r'.sign)).setCell ⟨w.heap.size + 1 + 1 + 1, 1, none⟩ (.slice xa7 (Wh.limbs r'.natAbs).length xc7) = Z at FZ SZ ⊢
    exact bodyPost_ret (v := .tuple #[.agg #[.int .i64 q'.sign, .slice xa6 (Wh.limbs q'.natAbs).length xc6], .agg #[.int .i64 r'.sign, .slice xa7 (Wh.limbs r'.natAbs).length xc7]]) (by simp [results, Tryz.results209, go_sem, FZ.out.q0, FZ.out.q1, FZ.out.r0, FZ.out.r1]) rfl ⟨⟨_, _, rfl, ⟨_, rfl, SZ.out.1.mono (Below.refl _ _).drew⟩, ⟨_, rfl, SZ.out.2.mono (Below.refl _ _).drew⟩⟩, FZ.out.below.drew⟩
/-- Floor, over what Quo does: the quotient rounded down -/
theorem floor_from (w : World) (va vb : Value) (x y : Int) (ha : Num w va x) (hb : Num w vb y) (hfx : Fit x) (hfy : Fit y) (hy : y ≠ 0)
    (hquo : ∀ (W : World) (va vb : Value), Num W va x → Num W vb y → Calls Tryz.prog 241 #[va, vb] W fun e w' => (∃ vq vr, e = .returned (.tuple #[vq, vr]) ∧ Num w' vq (x.tdiv y) ∧ Num w' vr (x.tmod y)) ∧ Below W.heap.size W w') :
    Calls Tryz.prog 209 #[va, vb] w fun e w' => (∃ vq vr, e = .returned (.tuple #[vq, vr]) ∧ Num w' vq (x.fdiv y) ∧ Num w' vr (x.fmod y)) ∧ Below w.heap.size w w' := by
  obtain ⟨sa, rfl, hsa⟩ := ha
  obtain ⟨sb, rfl, hsb⟩ := hb
  obtain ⟨a1, c1, rfl⟩ := hsa.len
  obtain ⟨a2, c2, rfl⟩ := hsb.len
  have hq := fun (W : World) (h : Below w.heap.size w W) => hquo W _ _ ⟨_, rfl, hsa.mono h⟩ ⟨_, rfl, hsb.mono h⟩
  obtain ⟨e1, e2⟩ := Wh.floor_both x y hy
  by_cases hneg : (x.tmod y).sign * y.sign = -1
  · rw [if_pos hneg] at e1 e2
    rw [← e1, ← e2]
    exact floor_down w x y a1 a2 _ _ c1 c2 hq hneg hsb hfx hfy
  · rw [if_neg hneg] at e1 e2
    rw [← e1, ← e2]
    exact floor_plain w x y a1 a2 _ _ c1 c2 hq hneg
theorem fit_small {y : Int} (h : y.natAbs < 1000000000) : Fit y := by
  unfold Fit
  rcases Nat.eq_zero_or_pos y.natAbs with e | e
  · rw [e, Wh.limbs_zero]; decide
  · rw [limbs_one_of ⟨e, h⟩]; simp
/-- Floor by one limb -/
theorem floor_short (w : World) (va vb : Value) (x y : Int) (ha : Num w va x) (hb : Num w vb y) (hfx : Fit x) (hy : 0 < y.natAbs ∧ y.natAbs < 1000000000) :
    Calls Tryz.prog 209 #[va, vb] w fun e w' => (∃ vq vr, e = .returned (.tuple #[vq, vr]) ∧ Num w' vq (x.fdiv y) ∧ Num w' vr (x.fmod y)) ∧ Below w.heap.size w w' :=
  floor_from w va vb x y ha hb hfx (fit_small hy.2) (by intro e; rw [e] at hy; exact absurd hy.1 (by decide)) (fun W va vb h1 h2 => quo_short W va vb x y h1 h2 (by unfold Fit at hfx; omega) hy)
end Go.Proofs.YteggbenhffmijaaGreatDoor

/- WALKS, division 7: divideShort in place. -/
namespace Go.Proofs.YteggbenhffmijaaGreatDoor
open Go.RowKit
set_option maxRecDepth 100000 in
set_option maxHeartbeats 1000000 in
theorem divideShort_in (w : World) (rb cap : Nat) (l : List Nat) (b : Nat) (ho : Wh.Ok l) (hown : Own w rb l) (hcap : l.length ≤ cap) (hm : cap ≤ 100000) (hb : 0 < b ∧ b ≤ 1000000000) :
    Calls Tryz.prog 313 #[.slice (some ⟨rb, 0, none⟩) l.length cap, .slice (some ⟨rb, 0, none⟩) l.length cap, .int .u32 b] w fun e w' => e = .returned (.int .u32 (Wh.val l % b : Nat)) ∧ Only rb w w' ∧ Own w' rb (Wh.quo l b) := by
  have HO := Lib.hid ho; clear ho
  have HS : Hid (Short w w rb l l b l.length) := Lib.hid ⟨Only.refl _ _, by rw [List.take_length, List.drop_of_length_le (by rw [Wh.quo_length]; exact Nat.le_refl _), List.append_nil]; exact hown⟩
  clear hown
  have HE := Lib.hid (Wh.rst_end l b)
  generalize hn : l.length = n at *
  have HN := Lib.hid hn; clear hn
  go_enter Tryz.func313, Tryz.ntmps313
  go_wp2_with fail
  go_loopw [6, 7] (fun r i wr => ∃ j : Nat, j ≤ n ∧ i = .int .i64 ((j : Int) - 1) ∧ r = .int .u32 (Wh.rst l b j : Nat) ∧ Hid (Short w wr rb l l b j)) (fun _ i _ => (intOf i + 1).toNat)
  case atStart => exact ⟨n, Nat.le_refl _, rfl, by rw [HE.out]; rfl, HS⟩
  case round =>
    obtain ⟨j, hj, rfl, rfl, HI⟩ := hrel
    by_cases h0 : j = 0
    · subst h0
      go_wp2_with fail
      go_ret
      refine ⟨?_, HI.out.only, ?_⟩
      · rfl
      · have := HI.out.own
        simpa using this
    · obtain ⟨k, rfl⟩ : ∃ k, j = k + 1 := ⟨j - 1, by omega⟩
      have hcx : wr.cell? ⟨rb, k, none⟩ = some (.int .u32 (l.getD k 0)) := by
        rw [HI.out.own.cell k (by simp [Wh.quo_length, HN.out]; omega)]
        rw [List.getD_eq_getElem?_getD, List.getElem?_append_left (by simp [HN.out]; omega), List.getElem?_take_of_lt (by omega), List.getD_eq_getElem?_getD]
      have hrf := (HI.out.room (k := k) (by rw [HN.out]; omega) rfl).2
      have hst := Wh.rst_step l b k (by rw [HN.out]; omega)
      have hq : Wh.qdg l b k = (Wh.rst l b (k + 1) * Wh.R + l.getD k 0) / b := rfl
      have hql := Wh.qdg_lt l b k hb.1 (Wh.getD_lt HO.out k)
      have hr1 := Wh.rst_lt l b (k + 1) hb.1
      have hr2 := Wh.rst_lt l b k hb.1
      have hx := Wh.getD_lt HO.out k
      have HI2 := Lib.hid (HI.out.step (k := k) (by rw [HN.out]; omega) rfl)
      rw [Wh.R_eq] at hst hq hql hx
      generalize l.getD k 0 = x at *
      generalize Wh.rst l b (k + 1) = r1 at *
      generalize hr2e : Wh.rst l b k = r2 at *
      have HR2E := Lib.hid hr2e; clear hr2e
      generalize Wh.qdg l b k = q at *
      have e1 : ((r1 : Int) * 1000000000 + (x : Int)) / (b : Int) = (q : Int) := by rw [hq]; rfl
      have e2 : ((r1 : Int) * 1000000000 + (x : Int)) % (b : Int) = (r2 : Int) := by rw [hst]; rfl
      have hbb : 0 < (b : Int) := by omega
      have HQ := Lib.hid hq; clear hq
      have HST := Lib.hid hst; clear hst
      have hk1 : (0 : Int) ≤ (k : Int) := by omega
      have hkn : k < n := by omega
      rw [show (((k + 1 : Nat) : Int) - 1) = (k : Int) from by omega]
      go_wp2_with fail
      exact ⟨⟨k, by omega, rfl, by rw [HR2E.out], HI2⟩, by simp [intOf]⟩
end Go.Proofs.YteggbenhffmijaaGreatDoor

/- WALKS, division 8: copied. -/
namespace Go.Proofs.YteggbenhffmijaaGreatDoor
open Go.RowKit
theorem size_limb : (Tryz.prog.info? 181).map (·.size) = some 1 := by kernel_rfl
theorem run_copy_limbs {w : World} {b : Nat} {l0 l : List Nat} (h : Own w b l0) (hl : l0.length = l.length) {v : Value} (hs : Sl w v l) (ty : TypeId) :
    (Builtin.copy_ #[90, 90] ty #[.slice (some ⟨b, 0, none⟩) l.length l.length, v]).run Tryz.prog w = .ok (goInt l.length) (w.setCells b 0 (l.map fun x => Value.int .u32 (x : Nat))) := by
  rcases hs with ⟨rfl, rfl⟩ | ⟨b2, off, cap, rfl, hcap, hb2, hc⟩
  · exact _root_.Go.run_copy_none (P := Tryz.prog) w 90 90 ty 181 _ _ _ _ _ _ Tryz.underlying90 size_limb rfl
  · have := _root_.Go.run_copy_cells (P := Tryz.prog) w 90 90 ty 181 b 0 l.length l.length ⟨b2, off, none⟩ l.length cap (l.map fun x => Value.int .u32 (x : Nat)) Tryz.underlying90 size_limb
      (by show _ = min _ _; simp) (fun j v hv => by
        have hj : j < l.length := by
          rcases Nat.lt_or_ge j l.length with h | h
          · exact h
          · rw [List.getElem?_eq_none (by simpa using h)] at hv; cases hv
        have e : (⟨b2, off, none⟩ : Addr).add j = ⟨b2, off + j, none⟩ := by
          simp only [Addr.add]
          split
          · rename_i h0; rw [h0]; rfl
          · rfl
        rw [e, hc j hj]
        rw [List.getElem?_map, List.getElem?_eq_getElem hj] at hv
        simp [List.getD, hj]
        simpa using hv) (fun j hj => by
        rw [List.length_map] at hj
        rw [Nat.zero_add, h.cell j (by omega)]; rfl) (fun j hj => by
        rw [List.length_map] at hj
        rw [Nat.zero_add]; exact h.free j (by omega)) (fun v hv => by
        obtain ⟨x, _, rfl⟩ := List.mem_map.1 hv
        rfl)
    rw [List.length_map] at this
    exact this
theorem own_front {w : World} {b : Nat} {l0 : List Nat} (h : Own w b l0) (l : List Nat) (hl : l0.length = l.length) : Own (w.setCells b 0 (l.map fun x => Value.int .u32 (x : Nat))) b l := by
  have hin := World.cell?_setCells_in b (l.map fun x => Value.int .u32 (x : Nat)) 0 w (fun j hj => by
    rw [List.length_map] at hj
    rw [Nat.zero_add, h.cell j (by omega)]; rfl)
  refine ⟨Nat.lt_of_lt_of_le h.lt (only_setCells b _ _ _).size, fun i hi => ?_, fun i hi => ?_⟩
  · have := hin i (by simpa using hi)
    rw [Nat.zero_add] at this
    rw [this]; simp [List.getD, hi]
  · rw [World.frozen?_setCells]; exact h.free i (by omega)
set_option maxHeartbeats 400000 in
theorem copied_any (w : World) (v : Value) (l : List Nat) (h : Sl w v l) (hm : l.length ≤ 5000) :
    Calls Tryz.prog 312 #[v] w fun e w' => e = .returned (.slice (some ⟨w.heap.size, 0, none⟩) l.length l.length) ∧ Own w' w.heap.size l ∧ Below w.heap.size w w' := by
  have hB0 : Below w.heap.size w (w.alloc (.cells (zeros l.length) 181)) := (Below.refl _ _).alloc (Nat.le_refl _) _
  have hcp := fun ty => run_copy_limbs (own_make w l.length) (by simp) (h.mono hB0) ty
  have HO := Lib.hid (own_front (own_make w l.length) l (by simp))
  have HB := Lib.hid (((only_setCells w.heap.size (l.map fun x => Value.int .u32 (x : Nat)) 0 (w.alloc (.cells (zeros l.length) 181)))))
  have hmk := run_make_limbs l.length (by omega) w (l.length : Int) rfl
  obtain ⟨a, c, rfl⟩ := h.len
  clear h
  go_enter Tryz.func312, Tryz.ntmps312
  go_wp2_with fail
  go_ret
  exact ⟨rfl, HO.out, hB0.trans (HB.out.below (Nat.le_refl _) hB0.size)⟩
end Go.Proofs.YteggbenhffmijaaGreatDoor

/- WALKS, digits in a base 1: character, together. -/
namespace Go.Proofs.YteggbenhffmijaaGreatDoor
open Go.RowKit
def charN (d : Nat) : Nat := if d < 10 then 48 + d else 87 + d
set_option maxHeartbeats 400000 in
theorem character_any (w : World) (d : Nat) (hd : d < 36) :
    Calls Tryz.prog 271 #[.int .u32 d] w fun e w' => e = .returned (.int .u8 (charN d : Nat)) ∧ w = w' := by
  unfold charN
  by_cases h : d < 10
  · have hk : decide (d < 10) = true := by simpa using h
    rw [if_pos h]
    go_enter Tryz.func271, Tryz.ntmps271
    go_wp2
    go_ret
    exact ⟨by simp, rfl⟩
  · have hk : decide (d < 10) = false := by simpa using h
    rw [if_neg h]
    go_enter Tryz.func271, Tryz.ntmps271
    go_wp2
    go_ret
    refine ⟨?_, rfl⟩
    rw [show (((87 + d : Nat)) : Int) = 97 + (d : Int) - 10 by omega]
    rfl
def togN (b : Nat) : Nat := if b ≤ 10 then 9 else if b ≤ 13 then 8 else if b ≤ 19 then 7 else if b ≤ 31 then 6 else 5
set_option maxHeartbeats 400000 in
theorem together_any (w : World) (b : Nat) (hb : b ≤ 36) :
    Calls Tryz.prog 310 #[.int .i64 b] w fun e w' => e = .returned (.int .i64 (togN b : Nat)) ∧ w = w' := by
  unfold togN
  by_cases h1 : b ≤ 10
  · have k1 : decide (b ≤ 10) = true := by simpa using h1
    rw [if_pos h1]
    go_enter Tryz.func310, Tryz.ntmps310
    go_wp2
    go_ret
    exact ⟨rfl, rfl⟩
  · have k1 : decide (b ≤ 10) = false := by simpa using h1
    rw [if_neg h1]
    by_cases h2 : b ≤ 13
    · have k2 : decide (b ≤ 13) = true := by simpa using h2
      rw [if_pos h2]
      go_enter Tryz.func310, Tryz.ntmps310
      go_wp2
      go_ret
      exact ⟨rfl, rfl⟩
    · have k2 : decide (b ≤ 13) = false := by simpa using h2
      rw [if_neg h2]
      by_cases h3 : b ≤ 19
      · have k3 : decide (b ≤ 19) = true := by simpa using h3
        rw [if_pos h3]
        go_enter Tryz.func310, Tryz.ntmps310
        go_wp2
        go_ret
        exact ⟨rfl, rfl⟩
      · have k3 : decide (b ≤ 19) = false := by simpa using h3
        rw [if_neg h3]
        by_cases h4 : b ≤ 31
        · have k4 : decide (b ≤ 31) = true := by simpa using h4
          rw [if_pos h4]
          go_enter Tryz.func310, Tryz.ntmps310
          go_wp2
          go_ret
          exact ⟨rfl, rfl⟩
        · have k4 : decide (b ≤ 31) = false := by simpa using h4
          rw [if_neg h4]
          go_enter Tryz.func310, Tryz.ntmps310
          go_wp2
          go_ret
          exact ⟨rfl, rfl⟩
end Go.Proofs.YteggbenhffmijaaGreatDoor

namespace Wh
/-- the digits of a number in a base, the lowest one first; of 0 none -/
def dg (b n : Nat) : List Nat := if h : n = 0 ∨ b < 2 then [] else n % b :: dg b (n / b)
termination_by n
decreasing_by exact Nat.div_lt_self (by omega) (by omega)
theorem dg_zero (b : Nat) : dg b 0 = [] := by rw [dg]; simp
theorem dg_pos {b n : Nat} (hb : 2 ≤ b) (hn : 0 < n) : dg b n = n % b :: dg b (n / b) := by rw [dg, dif_neg (by omega)]
theorem dg_lt {b : Nat} (hb : 2 ≤ b) (n : Nat) : ∀ x ∈ dg b n, x < b := by
  induction n using Nat.strongRecOn with
  | ind n ih =>
    rcases Nat.eq_zero_or_pos n with h | h
    · subst h; rw [dg_zero]; simp
    · rw [dg_pos hb h]
      intro x hx
      rcases List.mem_cons.1 hx with rfl | hx
      · exact Nat.mod_lt _ (by omega)
      · exact ih (n / b) (Nat.div_lt_self h (by omega)) x hx
/-- what is still to come: the rest q, and of the part p the digits from the i-th on, k of them -/
theorem dg_inner {b q p k : Nat} (hb : 2 ≤ b) (hv : 0 < q ∨ 0 < p) : dg b (q * b ^ (k + 1) + p) = p % b :: dg b (q * b ^ k + p / b) := by
  have e : q * b ^ (k + 1) + p = p + b * (q * b ^ k) := by rw [Nat.pow_succ]; rw [← Nat.mul_assoc, Nat.mul_comm]; omega
  have hp : 0 < q * b ^ (k + 1) + p := by
    rcases hv with h | h
    · have := Nat.mul_pos h (Nat.pow_pos (n := k + 1) (show 0 < b by omega)); omega
    · omega
  rw [dg_pos hb hp, e, Nat.add_mul_mod_self_left, Nat.add_mul_div_left _ _ (by omega), Nat.add_comm]
theorem part_lt {b p k : Nat} (h : p < b ^ (k + 1)) : p / b < b ^ k := by
  rw [Nat.pow_succ] at h
  exact Nat.div_lt_of_lt_mul (by rwa [Nat.mul_comm] at h)
/-- one step of the powers -/
theorem pow_step {r s v m t : Nat} (hv : 0 < v) (h : r * s ^ v % m = t) : (if v % 2 = 1 then r * s % m else r) * (s * s % m) ^ (v / 2) % m = t := by
  have h2 : (s * s % m) ^ (v / 2) % m = (s * s) ^ (v / 2) % m := (Nat.pow_mod (s * s) (v / 2) m).symm
  have h3 : (s * s) ^ (v / 2) = s ^ (2 * (v / 2)) := by rw [Nat.pow_mul, Nat.pow_two]
  by_cases hb : v % 2 = 1
  · rw [if_pos hb, Nat.mul_mod, Nat.mod_mod, h2, ← Nat.mul_mod, h3, Nat.mul_assoc, ← Nat.pow_succ', ← h]
    rw [show (2 * (v / 2)).succ = v by omega]
  · rw [if_neg hb, Nat.mul_mod, h2, ← Nat.mul_mod, h3, ← h]
    rw [show 2 * (v / 2) = v by omega]
theorem pow_last {r s m : Nat} (hr : r < m) : r * s ^ 0 % m = r := by rw [Nat.pow_zero, Nat.mul_one, Nat.mod_eq_of_lt hr]
end Wh

/- WALKS, digits in a base 2: digits, the function that makes the iterator. -/
namespace Go.Proofs.YteggbenhffmijaaGreatDoor
open Go.RowKit
theorem pow_tog (b : Nat) (hb : b ≤ 36) : b ^ togN b ≤ 1000000000 := by
  have h : ∀ b : Fin 37, b.val ^ togN b.val ≤ 1000000000 := by decide
  exact h ⟨b, by omega⟩
theorem tog_le (b : Nat) : togN b ≤ 9 := by unfold togN; split <;> (try split) <;> (try split) <;> (try split) <;> omega
/-- the variables that the iterator captures, from block n on: the limbs, the count, the step, the unit -/
structure Dig (W : World) (n : Nat) (v : Value) (b u : Nat) : Prop where
  c0 : W.cell? ⟨n, 0, none⟩ = some v
  c1 : W.cell? ⟨n + 1, 0, none⟩ = some (.int .i64 (togN b : Nat))
  c2 : W.cell? ⟨n + 1 + 1, 0, none⟩ = some (.int .u32 b)
  c3 : W.cell? ⟨n + 1 + 1 + 1, 0, none⟩ = some (.int .u32 u)
  f3 : W.frozen? ⟨n + 1 + 1 + 1, 0, none⟩ = false
  size : n + 4 ≤ W.heap.size
theorem Dig.mono {W W' : World} {n : Nat} {v : Value} {b u : Nat} (h : Dig W n v b u) {B : Nat} (hb : Below B W W') (hB : n + 4 ≤ B) : Dig W' n v b u :=
  ⟨(hb.cell (p := ⟨n, 0, none⟩) (by show n < _; omega)).trans h.c0, (hb.cell (p := ⟨n + 1, 0, none⟩) (by show n + 1 < _; omega)).trans h.c1, (hb.cell (p := ⟨n + 1 + 1, 0, none⟩) (by show n + 1 + 1 < _; omega)).trans h.c2, (hb.cell (p := ⟨n + 1 + 1 + 1, 0, none⟩) (by show n + 1 + 1 + 1 < _; omega)).trans h.c3,
    (hb.frozen (p := ⟨n + 1 + 1 + 1, 0, none⟩) (by show n + 1 + 1 + 1 < _; omega)).trans h.f3, Nat.le_trans h.size hb.size⟩
theorem Dig.put {W : World} {n : Nat} {v : Value} {b u : Nat} (h : Dig W n v b u) (u' : Nat) : Dig (W.setCell ⟨n + 1 + 1 + 1, 0, none⟩ (.int .u32 u')) n v b u' := by
  refine ⟨?_, ?_, ?_, World.cell?_setCell_same _ _ _ h.c3, by rw [World.frozen?_setCell]; exact h.f3, by simpa using h.size⟩
  · rw [World.cell?_setCell_far _ _ _ _ (by show n + 1 + 1 + 1 ≠ n; omega)]; exact h.c0
  · rw [World.cell?_setCell_far _ _ _ _ (by show n + 1 + 1 + 1 ≠ n + 1; omega)]; exact h.c1
  · rw [World.cell?_setCell_far _ _ _ _ (by show n + 1 + 1 + 1 ≠ n + 1 + 1; omega)]; exact h.c2
theorem dig_new (w : World) (v : Value) (b : Nat) (t0 t1 t2 t3 : TypeId) :
    Dig ((((w.alloc (.cells #[v] t0)).alloc (.cells #[.int .i64 (togN b : Nat)] t1)).alloc (.cells #[.int .u32 b] t2)).alloc (.cells #[.int .u32 1] t3)) w.heap.size v b 1 :=
  ⟨by go_simp, by go_simp, by go_simp, by go_simp, by go_simp, by simp⟩
def iterF (n : Nat) : Value := .func (.func 311) #[] #[.pointer (some ⟨n, 0, none⟩), .pointer (some ⟨n + 1 + 1 + 1, 0, none⟩), .pointer (some ⟨n + 1, 0, none⟩), .pointer (some ⟨n + 1 + 1, 0, none⟩)]
set_option maxRecDepth 100000 in
set_option maxHeartbeats 1000000 in
theorem digits_any (w : World) (a : Option Addr) (n c : Nat) (b : Nat) (hb : 2 ≤ b ∧ b ≤ 36) :
    Calls Tryz.prog 269 #[.slice a n c, .int .i64 b] w fun e w' => e = .returned (iterF w.heap.size) ∧ Dig w' w.heap.size (.slice a n c) b (b ^ togN b) ∧ Below w.heap.size w w' := by
  have hpt := pow_tog b hb.2
  have htl := tog_le b
  have H0 := Lib.hid (dig_new w (.slice a n c) b 90 3 181 181)
  have HT := Lib.hid (together_any · b hb.2)
  have hB0 : Below w.heap.size w ((((w.alloc (.cells #[.slice a n c] 90)).alloc (.cells #[.int .i64 (togN b : Nat)] 3)).alloc (.cells #[.int .u32 b] 181)).alloc (.cells #[.int .u32 1] 181)) := ((((Below.refl _ _).alloc (Nat.le_refl _) _).alloc (by simp) _).alloc (by simp; omega) _).alloc (by simp; omega) _
  have HPT := Lib.hid hpt; clear hpt
  obtain ⟨hb1, hb2⟩ := hb
  have HT2 := HT
  clear HT
  unfold iterF
  generalize hT : togN b = T at *
  have HTT := Lib.hid hT; clear hT
  go_enter Tryz.func269, Tryz.ntmps269
  go_wp2_with fail
  refine (HT2.out _).mono ?_
  rintro e w' ⟨rfl, rfl⟩
  go_wp2_with fail
  go_loopw [13] (fun i wr => ∃ k : Nat, k ≤ T ∧ i = .int .i64 k ∧ Hid (Dig wr w.heap.size (.slice a n c) b (b ^ k)) ∧ Below w.heap.size w wr) (fun i _ => T - (intOf i).toNat)
  case atStart => exact ⟨0, Nat.zero_le _, rfl, H0, hB0⟩
  case round =>
    clear H0 hB0
    obtain ⟨k, hk, rfl, HI, hB⟩ := hrel
    by_cases hlt : k < T
    · have hle : b ^ (k + 1) ≤ 1000000000 := Nat.le_trans (Nat.pow_le_pow_right (by omega) (by omega)) HPT.out
      have HN := Lib.hid (HI.out.put (b ^ (k + 1)))
      rw [Nat.pow_succ] at hle HN
      have d2 := HI.out.c2
      have d3 := HI.out.c3
      have f3 := HI.out.f3
      have HE := Lib.hid (Nat.pow_succ b k)
      have hd : decide (k < T) = true := by simpa using hlt
      clear HI HPT
      generalize b ^ k = u at *
      have hu : (u : Int) * (b : Int) ≤ 1000000000 := by rw [← Int.natCast_mul]; omega
      have hu0 : 0 ≤ (u : Int) * (b : Int) := by rw [← Int.natCast_mul]; omega
      have hB' : Below w.heap.size w (wr.setCell ⟨w.heap.size + 1 + 1 + 1, 0, none⟩ (.int .u32 ((u * b : Nat) : Int))) := hB.setCell (by show w.heap.size ≤ w.heap.size + 1 + 1 + 1; omega) _
      rw [Int.natCast_mul] at HN hB'
      go_wp2_with fail
      go_roundw
      case rel => exact ⟨k + 1, by omega, by go_num, by rw [HE.out]; exact HN, hB'⟩
      case measure => simp [intOf]; omega
    · obtain rfl : k = T := by omega
      have hd : decide (k < k) = false := by simp
      have hmf : ∀ (fn : Fn) (first cap : Array Value) (w : World), (Instr.makeFunc fn first cap).run Tryz.prog w = .ok (.func fn first cap) w := fun _ _ _ _ => rfl
      go_wp2_with fail
      go_ret
      exact ⟨rfl, HI.out, hB⟩
end Go.Proofs.YteggbenhffmijaaGreatDoor

/- A range over a function whose iterator writes into a block of its own between two rounds: my own law for the statement. -/
namespace Go.Proofs.Rf
open Go Go.RowKit
/-- but for the blocks of S, and new ones, w' is as w was -/
structure OnlyS (S : Nat → Prop) (w w' : World) : Prop where
  os : w'.os = w.os
  tape : w'.tape = w.tape
  output : w'.output = w.output
  size : w.heap.size ≤ w'.heap.size
  block : ∀ k, ¬ S k → k < w.heap.size → w'.heap[k]? = w.heap[k]?
theorem OnlyS.refl (S : Nat → Prop) (w : World) : OnlyS S w w := ⟨rfl, rfl, rfl, Nat.le_refl _, fun _ _ _ => rfl⟩
theorem OnlyS.trans {S : Nat → Prop} {w w' w'' : World} (h : OnlyS S w w') (k : OnlyS S w' w'') : OnlyS S w w'' :=
  ⟨k.os.trans h.os, k.tape.trans h.tape, k.output.trans h.output, Nat.le_trans h.size k.size, fun i h1 h2 => (k.block i h1 (Nat.lt_of_lt_of_le h2 h.size)).trans (h.block i h1 h2)⟩
theorem OnlyS.mono {S T : Nat → Prop} {w w' : World} (h : OnlyS S w w') (hs : ∀ k, k < w.heap.size → S k → T k) : OnlyS T w w' :=
  ⟨h.os, h.tape, h.output, h.size, fun k h1 h2 => h.block k (fun e => h1 (hs k h2 e)) h2⟩
theorem OnlyS.setCell {S : Nat → Prop} {w w' : World} (h : OnlyS S w w') {p : Addr} (hp : S p.block) (v : Value) : OnlyS S w (w'.setCell p v) :=
  ⟨h.os, h.tape, h.output, by simpa using h.size, fun k h1 h2 => (Below.heap_setCell w' p v k (fun e => h1 (by rw [e]; exact hp))).trans (h.block k h1 h2)⟩
theorem OnlyS.of_below {S : Nat → Prop} {w w' : World} (h : Below w.heap.size w w') : OnlyS S w w' := ⟨h.os, h.tape, h.output, h.size, fun k _ h2 => h.block k h2⟩
theorem OnlyS.below {S : Nat → Prop} {B : Nat} {w w' : World} (h : OnlyS S w w') (hB : ∀ k, S k → B ≤ k) (hw : B ≤ w.heap.size) : Below B w w' := ⟨h.os, h.tape, h.output, h.size, fun k hk => h.block k (fun e => by have := hB k e; omega) (by omega)⟩
theorem OnlyS.cell {S : Nat → Prop} {w w' : World} (h : OnlyS S w w') {p : Addr} (h1 : ¬ S p.block) (h2 : p.block < w.heap.size) : w'.cell? p = w.cell? p := World.cell?_of_block (w := w) (h.block p.block h1 h2)
theorem OnlyS.frozen {S : Nat → Prop} {w w' : World} (h : OnlyS S w w') {p : Addr} (h1 : ¬ S p.block) (h2 : p.block < w.heap.size) : w'.frozen? p = w.frozen? p := World.frozen?_of_block (w := w) (h.block p.block h1 h2)
theorem OnlyS.putObj {S : Nat → Prop} {w w' : World} (h : OnlyS S w w') {b : Nat} (hb : S b) (o : Obj) (hlt : b < w'.heap.size) : OnlyS S w (w'.putObj b o) :=
  ⟨h.os, h.tape, h.output, by simpa [World.putObj] using h.size, fun k h1 h2 => (World.putObj_heap_other (fun e => h1 (by rw [e]; exact hb))).trans (h.block k h1 h2)⟩
/-- the loop's own three blocks: the deferred calls, the record, and the block that the iterator makes -/
def Mine (n : Nat) : Nat → Prop := fun k => n ≤ k ∧ k ≤ n + 2
variable {F : Fence} {n : Nat} {P : Program}
/-- what a round owes -/
def roundOwes {α : Type} (B : Nat) (K : Nat → Prop) (I : List α → World → Prop) (xs : List α) (W : World) : Exit → Act → World → Prop
  | .normal, _, W' => (∀ k, K k ∨ (B ≤ k ∧ k ≤ B + 1) → k < W.heap.size → W'.heap[k]? = W.heap[k]?) ∧ W.heap.size ≤ W'.heap.size ∧ I xs W'
  | _, _, _ => False
theorem rangeFunc_mine {α : Type} {g : Operand} {ps : Array Tmp} {assign body : Code} {Q : Exit → Act → World → Prop} {a : Act} {w : World}
    (hro : F.round = none) (h1 : 1 ≤ n) {gf : Nat} {lb : Array Value} (hg : a.eval g = .func (.func gf) #[] lb) (hFg : F.fn gf) (eg : ∀ args w, (callFunc gf args).run P w = .ok (.enter gf args) w)
    {encs : α → Array Value} (xs : List α) (K : Nat → Prop) (hK : ∀ k, K k → k < w.heap.size ∨ k = w.heap.size + 2)
    (hseq : ∀ (l : Nat) (J : List α → World → Prop) (W : World), Below w.heap.size w W → W.heap.size = w.heap.size + 2 → (∀ s A B, J s A → OnlyS (fun k => k = w.heap.size + 2) A B → J s B) →
      (∀ pre x W1, J pre W1 → w.heap.size + 2 < W1.heap.size → pre ++ [x] <+: xs → YieldAt F (n - 1 - 1) P l (encs x) W1 fun e W' => e = .returned (.bool true) ∧ J (pre ++ [x]) W' ∧ (∀ k, K k → k < W1.heap.size → W'.heap[k]? = W1.heap[k]?) ∧ W1.heap.size ≤ W'.heap.size) →
      J [] W → CallsIn F (n - 1) P gf (#[.func (.yield l) #[] #[]] ++ lb) W fun e W' => (∃ v, e = .returned v) ∧ J xs W')
    (hps : ∀ x, (encs x).size = ps.size)
    (I : List α → World → Prop) (hI : ∀ s A B, I s A → OnlyS (Mine w.heap.size) A B → I s B) (h0 : I [] w) (a₁ : α → Act)
    (hassign : ∀ (l : Nat) (x : α) (W : World) (C : Act → World → Prop), C (a₁ x) W →
      assign.wpIn (F.inRound l) (n - 1 - 1) P (Exit.then C (fun _ _ _ => False)) { tmps := (ps.zip (encs x)).foldl (fun t (p, v) => t.setIfInBounds p v) a.tmps, defers := [] } W)
    (hbody : ∀ (l : Nat) (pre : List α) (x : α) (W : World), I pre W → w.heap.size + 2 < W.heap.size → pre ++ [x] <+: xs → body.wpIn (F.inRound l) (n - 1 - 1) P (roundOwes w.heap.size K I (pre ++ [x]) W) (a₁ x) W)
    (hdone : ∀ (D : Nat) (W : World), D = w.heap.size → I xs W → W.heap[D]? = some (.deferred (some [])) → Q .normal { a with defers := { target := .collected D, args := #[] } :: a.defers } W) :
    (Code.rangeFunc g ps assign body).wpIn F n P Q a w := by
  refine wpIn_rangeFunc ?_
  intro fn hfn
  rw [hro]
  obtain ⟨rec, hrec⟩ : ∃ rec : LoopState → Option Code → Loop, rec = fun st pe => { state := st, pending := pe, fn, tmps := a.tmps, params := ps, assign, body, defers := w.heap.size } := ⟨_, rfl⟩
  obtain ⟨W1, hW1⟩ : ∃ W1, (w.alloc (.deferred (some []))).alloc (.loop (rec .ready none)) = W1 := ⟨_, rfl⟩
  have hB1 : Below w.heap.size w W1 := by rw [← hW1]; exact ((Below.refl _ w).alloc (Nat.le_refl _) _).alloc (by simp) _
  have hs1 : W1.heap.size = w.heap.size + 2 := by rw [← hW1]; simp
  have hL1 : W1.heap[w.heap.size + 1]? = some (.loop (rec .ready none)) := by
    rw [← hW1]; have := World.alloc_heap_new (w.alloc (.deferred (some []))) (.loop (rec .ready none)); rwa [World.size_alloc] at this
  have hD1 : W1.heap[w.heap.size]? = some (.deferred (some [])) := by
    rw [← hW1]; exact (Below.heap_alloc _ _ _ (by simp)).trans (World.alloc_heap_new w _)
  have hI1 : I [] W1 := hI _ _ _ h0 (OnlyS.of_below hB1)
  have keep : ∀ (s : List α) (A : World) (o : Obj), I s A → w.heap.size + 1 < A.heap.size → I s (A.putObj (w.heap.size + 1) o) := fun s A o h hl => hI s A _ h ((OnlyS.refl _ A).putObj ⟨by omega, by omega⟩ o hl)
  refine ⟨w.heap.size + 1, [{ target := .collected w.heap.size, args := #[] }], W1, { target := .fn (.func gf) lb, args := #[.func (.yield (w.heap.size + 1)) #[] #[]] }, W1, gf,
    #[.func (.yield (w.heap.size + 1)) #[] #[]] ++ lb, W1, ?_, ?_, ?_, ?_, fun _ => h1, ?_⟩
  · rw [← hW1, hrec]; exact run_enterLoop_outer _ _ _ _ _
  · simp only [resolve, hg]
    simp [go_sem]
  · intro f' hf'; simp [Target.leads] at hf'; subst hf'; exact hFg
  · simp [invoke, go_sem, eg]
  · refine (hseq (w.heap.size + 1)
      (fun pre W => I pre W ∧ W.heap[w.heap.size + 1]? = some (.loop (rec .ready none)) ∧ W.heap[w.heap.size]? = some (.deferred (some []))) W1 hB1 hs1 ?_ ?_ ⟨hI1, hL1, hD1⟩).mono ?_
    · rintro s A B ⟨hi, hl, hd⟩ ho
      have l1 := (Array.getElem?_eq_some_iff.1 hl).1
      refine ⟨hI s A B hi (ho.mono fun k _ e => ⟨by omega, by omega⟩), (ho.block _ (by omega) l1).trans hl, (ho.block _ (by omega) (by omega)).trans hd⟩
    · rintro pre x W ⟨hi, hl, hd⟩ hbig hlen
      have hlt : w.heap.size + 1 < W.heap.size := (Array.getElem?_eq_some_iff.1 hl).1
      have hy := run_yield (P := P) (args := encs x) hl (by rw [hrec]; exact hps x)
      rw [hrec] at hy
      refine ⟨fn, _, assign, body, hy, roundIn_of_wpIn hfn (hassign _ x W _ ⟨_, run_beginRound hl (by rw [hrec]), ?_⟩)⟩
      have hl2 : (W.putObj (w.heap.size + 1) (.loop { rec .ready none with state := .busy })).heap[w.heap.size + 1]? = some (.loop { rec .ready none with state := .busy }) := World.putObj_heap_same hlt
      have hd2 : (W.putObj (w.heap.size + 1) (.loop { rec .ready none with state := .busy })).heap[w.heap.size]? = some (.deferred (some [])) := (World.putObj_heap_other (by omega)).trans hd
      have hsz : (W.putObj (w.heap.size + 1) (.loop { rec .ready none with state := .busy })).heap.size = W.heap.size := by simp [World.putObj]
      refine wpIn_mono (hbody _ pre x _ (keep pre W _ hi hlt) (by rw [hsz]; exact hbig) hlen) ?_
      rintro e a3 W3 hp
      cases e with
      | normal =>
        obtain ⟨hk3, hz3, hi3⟩ := hp
        have hl3 := (hk3 (w.heap.size + 1) (.inr ⟨by omega, by omega⟩) (by rw [hsz]; exact hlt)).trans hl2
        have hd3 := (hk3 w.heap.size (.inr ⟨by omega, by omega⟩) (by rw [hsz]; omega)).trans hd2
        have hl3' := (Array.getElem?_eq_some_iff.1 hl3).1
        have hr := run_endRound (P := P) none hl3
        refine ⟨_, _, hr, rfl, ⟨keep _ _ _ hi3 hl3', ?_, (World.putObj_heap_other (by omega)).trans hd3⟩, ?_, ?_⟩
        · rw [World.putObj_heap_same hl3']; simp [hrec]
        · intro k hk hkl
          have hne : k ≠ w.heap.size + 1 := by rcases hK k hk with h | h <;> omega
          rw [World.putObj_heap_other hne, hk3 k (.inl hk) (by rw [hsz]; exact hkl), World.putObj_heap_other hne]
        · simp only [World.putObj, Array.size_setIfInBounds] at hz3 ⊢; exact hz3
      | ret => exact hp.elim
      | exit id => exact hp.elim
      | goto t => exact hp.elim
      | panic ch => exact hp.elim
      | outgrown => exact hp.elim
    · rintro e W2 ⟨⟨v, rfl⟩, hi, hl, hd⟩
      have hlt := (Array.getElem?_eq_some_iff.1 hl).1
      exact ⟨none, _, by have := run_endLoop (P := P) hl (by rw [hrec]; simp); rw [hrec] at this; exact this, hdone _ _ rfl (keep _ _ _ hi hlt) ((World.putObj_heap_other (by omega)).trans hd)⟩
#print axioms rangeFunc_mine
end Go.Proofs.Rf
