/- Part 54 of the proofs that laws of package whole answer true at every input and leave the input as it was, where the library's variables start as the text lays them (the texts W8, W9, W12). -/
import Derived.Test.YteaeloeebfdodaaGreatDoorX53
import Derived.Test.YteaeloeebfdodaaGreatDoorX12
import Derived.Test.YteaeloeebfdodaaGreatDoorX31
import Derived.Test.YteaeloeebfdodaaGreatDoorX51
import Derived.Test.YteaeloeebfdodaaGreatDoorX21
set_option linter.unusedVariables false
set_option linter.unusedSimpArgs false
/- WALKS, division by any number: divideLimbs, Quo, whole. -/
namespace Go.Proofs.YteaeloeebfdodaaGreatDoor
open Go.RowKit Go.Proofs.Rf
theorem divideLimbs_gen (w : World) (va vb : Value) (X Y : Nat) (ha : Sl w va (Wh.limbs X)) (hb : Sl w vb (Wh.limbs Y)) (hY : 0 < Y) (hX : (Wh.limbs X).length < 8) :
    Calls Tryz.prog 190 #[va, vb] w fun e w' => (∃ aq cq ar cr, e = .returned (.tuple #[.slice aq (Wh.limbs (X / Y)).length cq, .slice ar (Wh.limbs (X % Y)).length cr]) ∧ cq ≤ 100000 ∧ cr ≤ 100000 ∧ Sl w' (.slice aq (Wh.limbs (X / Y)).length cq) (Wh.limbs (X / Y)) ∧ Sl w' (.slice ar (Wh.limbs (X % Y)).length cr) (Wh.limbs (X % Y))) ∧ Below w.heap.size w w' := by
  by_cases h9 : Y < 1000000000
  · have e1 : Wh.trimL (Wh.quo (Wh.limbs X) Y) = Wh.limbs (X / Y) := by rw [Wh.trimL, Wh.val_quo _ _ hY, Wh.val_limbs]
    have e2 : Wh.trimL [Wh.val (Wh.limbs X) % Y] = Wh.limbs (X % Y) := by rw [Wh.val_limbs, Wh.trimL]; simp [Wh.val]
    rw [limbs_one_of ⟨hY, h9⟩] at hb
    have := divideLimbs_short w va vb (Wh.limbs X) Y ha (Wh.ok_limbs X) (by omega) hb ⟨hY, by omega⟩
    rw [e1, e2] at this
    exact this
  · have hlen : 2 ≤ (Wh.limbs Y).length := by
      rcases Nat.lt_or_ge (Wh.limbs Y).length 2 with h | h
      · have h1 := Wh.lt_pow_limbs Y
        have h2 : Wh.R ^ (Wh.limbs Y).length ≤ Wh.R ^ 1 := Nat.pow_le_pow_right Wh.R_pos (by omega)
        rw [Nat.pow_one] at h2
        have h3 : Wh.R = 1000000000 := rfl
        generalize Wh.R ^ (Wh.limbs Y).length = z at *
        omega
      · exact h
    refine (divideLimbs_long w va vb X Y ha hb ((Wh.limbs Y).length - 1) (by omega) (by omega) (.inl hX) (by omega)).mono ?_
    rintro e w' ⟨⟨aq, cq, ar, cr, h1, h2, h3, -, h4, h5⟩, hb⟩
    exact ⟨⟨aq, cq, ar, cr, h1, h2, h3, h4, h5⟩, hb⟩
set_option maxRecDepth 100000 in
set_option maxHeartbeats 2000000 in
theorem quo_gen (w : World) (va vb : Value) (x y : Int) (ha : Num w va x) (hb : Num w vb y) (hla : (Wh.limbs x.natAbs).length < 8) (hy : 0 < y.natAbs) :
    Calls Tryz.prog 196 #[va, vb] w fun e w' => (∃ vq vr, e = .returned (.tuple #[vq, vr]) ∧ Num w' vq (x.tdiv y) ∧ Num w' vr (x.tmod y)) ∧ Below w.heap.size w w' := by
  obtain ⟨sa, rfl, hsa⟩ := ha
  obtain ⟨sb, rfl, hsb⟩ := hb
  obtain ⟨aa, ca, rfl⟩ := hsa.len
  obtain ⟨ab, cb, rfl⟩ := hsb.len
  have HL := laid4_new w (.int .i64 x.sign) (.slice aa (Wh.limbs x.natAbs).length ca) (.int .i64 y.sign) (.slice ab (Wh.limbs y.natAbs).length cb) (.int .i64 0) (.slice none 0 0) (.int .i64 0) (.slice none 0 0) 83
  generalize hsx : x.sign = sx at *
  generalize hsy : y.sign = sy at *
  have HSX := Lib.hid hsx; clear hsx
  have HSY := Lib.hid hsy; clear hsy
  have HA := Lib.hid hsa; clear hsa
  have HB := Lib.hid hsb; clear hsb
  go_enter Tryz.func196, Tryz.ntmps196
  go_wp2_with fail
  generalize (((w.alloc (Obj.cells #[Value.int IntKind.i64 sx, Value.slice aa (Wh.limbs x.natAbs).length ca] 83)).alloc (Obj.cells #[Value.int IntKind.i64 sy, Value.slice ab (Wh.limbs y.natAbs).length cb] 83)).alloc (Obj.cells #[Value.int IntKind.i64 0, Value.slice none 0 0] 83)).alloc (Obj.cells #[Value.int IntKind.i64 0, Value.slice none 0 0] 83) = W at *
  refine (divideLimbs_gen W _ _ x.natAbs y.natAbs (HA.out.mono HL.below) (HB.out.mono HL.below) hy hla).mono ?_
  rintro e w1 ⟨⟨aq, cq, ar, cr, rfl, hcq, hcr, hq, hr⟩, hb1⟩
  have L1 := HL.mono hb1
  clear HL hb1
  have hvq : Wh.val (Wh.limbs (x.natAbs / y.natAbs)) = x.natAbs / y.natAbs := Wh.val_limbs _
  have hoq : Wh.Ok (Wh.limbs (x.natAbs / y.natAbs)) := Wh.ok_limbs _
  have hvr : Wh.val (Wh.limbs (x.natAbs % y.natAbs)) = x.natAbs % y.natAbs := Wh.val_limbs _
  have hor : Wh.Ok (Wh.limbs (x.natAbs % y.natAbs)) := Wh.ok_limbs _
  generalize Wh.limbs (x.natAbs / y.natAbs) = lq at *
  generalize Wh.limbs (x.natAbs % y.natAbs) = lr at *
  have HQ := Lib.hid hq; clear hq
  have HR := Lib.hid hr; clear hr
  have HVQ := Lib.hid hvq; clear hvq
  have HVR := Lib.hid hvr; clear hvr
  have HOQ := Lib.hid hoq; clear hoq
  have HOR := Lib.hid hor; clear hor
  have k0 := L1.a0
  have k1 := L1.b0
  have HL1 := Lib.hid L1; clear L1
  have hxs : -1 ≤ sx ∧ sx ≤ 1 := by rw [← HSX.out]; rcases Int.lt_trichotomy x 0 with h | h | h <;> simp [Int.sign_eq_neg_one_of_neg, Int.sign_eq_one_of_pos, h]
  have hys : -1 ≤ sy ∧ sy ≤ 1 := by rw [← HSY.out]; rcases Int.lt_trichotomy y 0 with h | h | h <;> simp [Int.sign_eq_neg_one_of_neg, Int.sign_eq_one_of_pos, h]
  obtain ⟨td, htd⟩ : ∃ t, x.tdiv y = t := ⟨_, rfl⟩
  obtain ⟨tm, htm⟩ : ∃ t, x.tmod y = t := ⟨_, rfl⟩
  have hvq : sx * sy * (Wh.val lq : Int) = td := by rw [HVQ.out, ← HSX.out, ← HSY.out, tdiv_signs, htd]
  have hvr : sx * (Wh.val lr : Int) = tm := by rw [HVR.out, ← HSX.out, tmod_signs, htm]
  have hcq1 : sx * sy = -1 ∨ sx * sy = 1 ∨ Wh.val lq = 0 := by
    rw [HVQ.out, ← HSX.out, ← HSY.out]
    exact sign_cases_q x y hy
  have hcr1 : sx = -1 ∨ sx = 1 ∨ Wh.val lr = 0 := by
    rw [HVR.out, ← HSX.out]
    rcases Int.lt_trichotomy x 0 with h | h | h
    · exact .inl (Int.sign_eq_neg_one_of_neg h)
    · subst h; simp
    · exact .inr (.inl (Int.sign_eq_one_of_pos h))
  have HTQ := Lib.hid hvq; clear hvq
  have HTR := Lib.hid hvr; clear hvr
  have HCQ := Lib.hid hcq1; clear hcq1
  have HCR := Lib.hid hcr1; clear hcr1
  have HTD := Lib.hid htd
  have HTM := Lib.hid htm
  clear htd htm
  go_wp2_with fail
  have hsmq : Small (.slice aq lq.length cq) := by intro p n c h; cases h; exact hcq
  have hsmr : Small (.slice ar lr.length cr) := by intro p n c h; cases h; exact hcr
  go_region_held3 (fun w' => w'.cell? ⟨w.heap.size, 0, none⟩ = some (.int .i64 sx) ∧ w'.cell? ⟨w.heap.size + 1, 0, none⟩ = some (.int .i64 sy)) (first | exact q3 | exact q2 | exact ⟨far1 q3.1 (by omega), far1 q3.2 (by omega)⟩ | exact ⟨far1 (far1 q3.1 (by omega)) (by omega), far1 (far1 q3.2 (by omega)) (by omega)⟩ | go_keep) (first
    | ((with_reducible go_at_call 197); (with_reducible refine (with_any _ _ hxs hys _).mono ?_); rintro e w' ⟨rfl, rfl⟩)
    | ((go_at_call 191); (have hdl : Below w1.heap.size w1 _ := drew_left hb2); (with_reducible refine (signed_any sx (.slice ar lr.length cr) lr _ HOR.out (HR.out.mono hdl) hsmr HCR.out).mono ?_); rintro e w3 ⟨⟨v3, rfl, hn⟩, hb3⟩; rw [HTR.out] at hn; obtain ⟨sl3, rfl, hsl3⟩ := hn; obtain ⟨xa3, xc3, rfl⟩ := hsl3.len; have L3 := HL2.out.mono hb3; have q3 := And.intro L3.a0 L3.b0; obtain ⟨-, -, -, -, m0, m1, n0, n1, i0, i1, j0, j1, -, -⟩ := L3)
    | ((go_at_call 191); (with_reducible refine (signed_any (sx * sy) (.slice aq lq.length cq) lq _ HOQ.out (HQ.out.mono (Below.refl _ _).drew) hsmq HCQ.out).mono ?_); rintro e w2 ⟨⟨v2, rfl, hn⟩, hb2⟩; rw [HTQ.out] at hn; obtain ⟨sl2, rfl, hsl2⟩ := hn; obtain ⟨xa2, xc2, rfl⟩ := hsl2.len; have L2 := HL1.out.mono (drew_left hb2); have q2 := And.intro L2.a0 L2.b0; have HL2 := Lib.hid L2; clear L2))
  go_wp2
  have hT : Two w3 (w.heap.size + 1 + 1) := ⟨m0, m1, n0, n1, i0, i1, j0, j1⟩
  have hB3 : Below w.heap.size w w3 := (HL2.out.mono hb3).below
  obtain ⟨r0, r1, r2, r3⟩ := hT.read (.int .i64 td.sign) (.slice xa2 (Wh.limbs td.natAbs).length xc2) (.int .i64 tm.sign) (.slice xa3 (Wh.limbs tm.natAbs).length xc3)
  have S2 := hT.sl (hsl2.mono hb3) (.int .i64 td.sign) (.slice xa2 (Wh.limbs td.natAbs).length xc2) (.int .i64 tm.sign) (.slice xa3 (Wh.limbs tm.natAbs).length xc3)
  have S3 := hT.sl hsl3 (.int .i64 td.sign) (.slice xa2 (Wh.limbs td.natAbs).length xc2) (.int .i64 tm.sign) (.slice xa3 (Wh.limbs tm.natAbs).length xc3)
  have hB := Two.below hB3 (show w.heap.size ≤ w.heap.size + 1 + 1 by omega) (.int .i64 td.sign) (.slice xa2 (Wh.limbs td.natAbs).length xc2) (.int .i64 tm.sign) (.slice xa3 (Wh.limbs tm.natAbs).length xc3)
  exact bodyPost_ret (v := .tuple #[.agg #[.int .i64 td.sign, .slice xa2 (Wh.limbs td.natAbs).length xc2], .agg #[.int .i64 tm.sign, .slice xa3 (Wh.limbs tm.natAbs).length xc3]]) (by unfold put22 at *; simp [results, Tryz.results196, go_sem, r0, r1, r2, r3]) rfl ⟨⟨_, _, rfl, by rw [HTD.out]; exact ⟨_, rfl, S2⟩, by rw [HTM.out]; exact ⟨_, rfl, S3⟩⟩, hB⟩
end Go.Proofs.YteaeloeebfdodaaGreatDoor

/- WALKS: whole.Floor and whole.Quo, by any number. -/
namespace Go.Proofs.YteaeloeebfdodaaGreatDoor
open Go.RowKit
end Go.Proofs.YteaeloeebfdodaaGreatDoor

/- WALKS, Root: any number under 10^30, any exponent to 20. -/
namespace Go.Proofs.YteaeloeebfdodaaGreatDoor
open Go.RowKit
theorem bd_le {k : Nat} {x : Int} (h0 : 0 ≤ x) (h : x ≤ 10 ^ k) : Bd (k + 1) x := by
  unfold Bd
  rw [Nat.pow_succ]
  have h1 : ((10 ^ k : Nat) : Int) = (10 : Int) ^ k := by simp
  have h2 : 0 < 10 ^ k := Nat.pow_pos (by decide)
  generalize 10 ^ k = T at h1 h2 ⊢
  rw [← h1] at h
  omega
theorem Bd.limbs' {k : Nat} {x : Int} (h : Bd k x) (hk : 0 < k) {j : Nat} (hj : k ≤ 9 * j) : (Wh.limbs x.natAbs).length ≤ j :=
  Wh.limbs_length_of_dec (Nat.le_trans (Wh.decN_length_le hk h) hj)
theorem int_pow_mono {a b : Int} (h0 : 0 ≤ a) (h : a ≤ b) (n : Nat) : a ^ n ≤ b ^ n := by
  induction n with
  | zero => simp
  | succ n ih =>
    rw [Int.pow_succ, Int.pow_succ]
    exact Int.mul_le_mul ih h h0 (Int.pow_nonneg (by omega))
theorem pow_le10 {r : Int} {k j : Nat} (h0 : 0 ≤ r) (h : r ≤ 10 ^ k) : r ^ j ≤ 10 ^ (k * j) := by
  rw [Int.pow_mul]
  exact int_pow_mono h0 h j
/-- what holds of every number that Root goes through -/
structure RtI (x : Int) (n k : Nat) (r : Int) : Prop where
  pos : 1 ≤ r
  le : r ≤ 10 ^ k
  up : x < (r + 1) ^ n
theorem rfit {x r : Int} {m n k : Nat} (hx0 : 0 ≤ x) (hx : Bd 30 x) (hnm : n = m + 1) (hm : m ≤ 19) (hk : k ≤ 30) (hkm : k * m ≤ 49) (h : RtI x n k r) : RootFit x m n r := by
  have hp : 0 < r ^ m := Int.pow_pos (by have := h.pos; omega)
  have hr0 : 0 ≤ r := by have := h.pos; omega
  have bq : Bd 30 (x.tdiv (r ^ m)) := Nat.lt_of_le_of_lt (by rw [show (x.tdiv (r ^ m)).natAbs = x.natAbs / (r ^ m).natAbs from Int.natAbs_tdiv ..]; exact Nat.div_le_self _ _) hx
  have hq0 : 0 ≤ x.tdiv (r ^ m) := Int.tdiv_nonneg hx0 (Int.le_of_lt hp)
  have bn : Bd 2 ((n : Int) - 1) := show _ < 100 by omega
  have br : Bd 31 r := (bd_le hr0 h.le).mono (by omega)
  have bp : Bd 33 (((n : Int) - 1) * r) := bn.mul br
  have bs : Bd 34 (((n : Int) - 1) * r + x.tdiv (r ^ m)) := bp.add (bq.mono (by decide))
  have hp0 : 0 ≤ ((n : Int) - 1) * r := Int.mul_nonneg (by omega) hr0
  have bst : Bd 34 (stepR x m n r) := Nat.lt_of_le_of_lt (by unfold stepR; rw [show ((((n : Int) - 1) * r + x.tdiv (r ^ m)).tdiv (n : Int)).natAbs = (((n : Int) - 1) * r + x.tdiv (r ^ m)).natAbs / ((n : Int)).natAbs from Int.natAbs_tdiv ..]; exact Nat.div_le_self _ _) bs
  refine ⟨hr0, Nat.le_trans (br.limbs' (by decide) (j := 4) (by decide)) (by decide), fun j hj => ?_, (bn.mono (by decide)).fit, (bp.mono (by decide)).fit, (bq.mono (by decide)).fit, Nat.le_trans (bs.limbs' (by decide) (j := 4) (by decide)) (by decide), (bst.mono (by decide)).fit, ?_⟩
  · have hj1 : r ^ j ≤ 10 ^ (k * j) := pow_le10 hr0 h.le
    have hj2 : k * j ≤ 49 := Nat.le_trans (Nat.mul_le_mul_left k hj) hkm
    exact Nat.lt_of_le_of_lt (((bd_le (Int.pow_nonneg hr0) hj1).mono (k := 50) (by omega)).limbs' (by decide) (j := 6) (by decide)) (by decide)
  · exact Int.tdiv_nonneg (by omega) (by omega)
theorem le_self_pow {a : Int} (h : 1 ≤ a) {n : Nat} (hn : 1 ≤ n) : a ≤ a ^ n := by
  obtain ⟨m, rfl⟩ : ∃ m, n = m + 1 := ⟨n - 1, by omega⟩
  rw [Int.pow_succ]
  have h1 : 1 ^ m ≤ a ^ m := int_pow_mono (by decide) h m
  rw [Int.one_pow] at h1
  have := Int.mul_le_mul_of_nonneg_right h1 (show (0 : Int) ≤ a by omega)
  omega
/-- the root -/
theorem root_is (x : Int) (n : Nat) (hx0 : 0 < x) (hn : 1 ≤ n) : ∃ r : Int, 1 ≤ r ∧ r ≤ x ∧ r ^ n ≤ x ∧ x < (r + 1) ^ n := by
  obtain ⟨k, hk, hmin⟩ := least_is (fun j : Nat => x < ((j : Int) + 1) ^ n) x.natAbs (by
    have := le_self_pow (a := (x.natAbs : Int) + 1) (by omega) hn
    show x < _
    omega)
  have hk : x < ((k : Int) + 1) ^ n := hk
  have hk1 : 1 ≤ k := by
    rcases Nat.eq_zero_or_pos k with h | h
    · subst h
      rw [show ((0 : Nat) : Int) + 1 = 1 from rfl, Int.one_pow] at hk
      omega
    · exact h
  have hle : (k : Int) ^ n ≤ x := by
    rcases Int.lt_or_le x ((k : Int) ^ n) with h | h
    · have := hmin (k - 1) (show x < (((k - 1 : Nat) : Int) + 1) ^ n by rw [show ((k - 1 : Nat) : Int) + 1 = (k : Int) by omega]; exact h)
      omega
    · exact h
  exact ⟨k, by omega, Int.le_trans (le_self_pow (by omega) hn) hle, hle, hk⟩
theorem root_only {x r s : Int} {n : Nat} (hr0 : 0 ≤ r) (hs0 : 0 ≤ s) (h1 : r ^ n ≤ x) (h2 : x < (r + 1) ^ n) (h3 : s ^ n ≤ x) (h4 : x < (s + 1) ^ n) : s = r := by
  rcases Int.lt_trichotomy s r with h | h | h
  · have := int_pow_mono (show 0 ≤ s + 1 by omega) (show s + 1 ≤ r by omega) n
    omega
  · exact h
  · have := int_pow_mono (show 0 ≤ r + 1 by omega) (show r + 1 ≤ s by omega) n
    omega
theorem ceil_facts (len n : Nat) (hl : 1 ≤ len ∧ len ≤ 30) (hn : 1 ≤ n ∧ n ≤ 20) : (len + n - 1) / n ≤ 30 ∧ (len + n - 1) / n * (n - 1) ≤ 49 ∧ len ≤ (len + n - 1) / n * n := by
  have h1 := Nat.div_add_mod (len + n - 1) n
  have h2 := Nat.mod_lt (len + n - 1) hn.1
  rw [Nat.mul_comm] at h1
  have h4 : (len + n - 1) / n * (n - 1) ≤ (len + n - 1) / n * n := Nat.mul_le_mul_left _ (by omega)
  generalize (len + n - 1) / n = q at *
  generalize (len + n - 1) % n = t at *
  refine ⟨?_, by omega, by omega⟩
  rcases Nat.lt_or_ge 30 q with h | h
  · have : 31 * n ≤ q * n := Nat.mul_le_mul_right n h
    omega
  · exact h
set_option maxRecDepth 100000 in
theorem Root_pos (w : World) (x : Int) (n : Nat) (hx : Bd 30 x) (hx0 : 0 < x) (hn : 1 ≤ n ∧ n ≤ 20) (r : Int) (hr0 : 1 ≤ r) (hr1 : r ^ n ≤ x) (hr2 : x < (r + 1) ^ n) (htab : Tab w) :
    Calls Tryz.prog 36 #[txt x, .int .i64 n] w fun e w' => e = .returned (.tuple #[txt r, .int .i64 0]) ∧ Below w.heap.size w w' := by
  have hrx : r ≤ x := Int.le_trans (le_self_pow hr0 hn.1) hr1
  have br : Bd 30 r := Nat.lt_of_le_of_lt (show r.natAbs ≤ x.natAbs by omega) hx
  refine Root_any w x n r (hx.valid (by decide) (by decide)) (by omega) hn (fun w xa xc hs ht => ?_) (br.valid (by decide) (by decide)) htab
  obtain ⟨m, hm⟩ : ∃ m, n = m + 1 := ⟨n - 1, by omega⟩
  have hl1 : 1 ≤ (Wh.decN x.natAbs).length := Wh.decN_length_pos _
  have hl2 : (Wh.decN x.natAbs).length ≤ 30 := Wh.decN_length_le (by decide) hx
  obtain ⟨c1, c2, c3⟩ := ceil_facts _ n ⟨hl1, hl2⟩ hn
  have hxl : x < 10 ^ (Wh.decN x.natAbs).length := by
    have h := Wh.lt_pow_decN x.natAbs
    have h1 : ((10 ^ (Wh.decN x.natAbs).length : Nat) : Int) = (10 : Int) ^ (Wh.decN x.natAbs).length := by simp
    rw [← h1]
    omega
  generalize hlen : (Wh.decN x.natAbs).length = len at *
  generalize hkk : (len + n - 1) / n = k at *
  have hk : ((len : Int) + (n : Int) - 1) / (n : Int) = (k : Int) := by
    rw [← hkk, show (len : Int) + (n : Int) - 1 = ((len + n - 1 : Nat) : Int) by omega]; simp
  have hkm : k * m ≤ 49 := by rw [show n - 1 = m by omega] at c2; exact c2
  have h0 : RtI x n k (10 ^ k) := by
    have hp : 1 ≤ (10 : Int) ^ k := by have := int_pow_mono (a := 1) (b := 10) (by decide) (by decide) k; rwa [Int.one_pow] at this
    refine ⟨hp, Int.le_refl _, ?_⟩
    have h1 : (10 : Int) ^ len ≤ 10 ^ (k * n) := by
      obtain ⟨d, hd⟩ : ∃ d, k * n = len + d := ⟨k * n - len, by omega⟩
      rw [hd, Int.pow_add]
      have h2 : (1 : Int) ≤ 10 ^ d := by have := int_pow_mono (a := 1) (b := 10) (by decide) (by decide) d; rwa [Int.one_pow] at this
      have h3 : (0 : Int) ≤ 10 ^ len := Int.pow_nonneg (by decide)
      have := Int.mul_le_mul_of_nonneg_left h2 h3
      omega
    rw [Int.pow_mul] at h1
    have h4 := int_pow_mono (show 0 ≤ (10 : Int) ^ k by omega) (show (10 : Int) ^ k ≤ 10 ^ k + 1 by omega) n
    omega
  have hlx : (Wh.limbs x.natAbs).length ≤ 4 := hx.limbs' (by decide) (by decide)
  refine (root_from w x m n k hm (RtI x n k) xa xc hs hx0 (by omega) (by omega) ht (Bd.valid (k := 2) (show _ < 100 by omega) (by decide) (by decide)) (Bd.fit (Bd.mono (j := 2) (show _ < 100 by omega) (by decide))) (by rw [hlen]; exact hk) (by omega) (by omega) ?_ h0 (fun r h => rfit (by omega) hx hm (by omega) c1 hkm h) ?_ ?_).mono ?_
  · intro j hj
    exact Nat.lt_of_le_of_lt (((bd_le (x := (10 : Int) ^ j) (k := j) (Int.pow_nonneg (by decide)) (Int.le_refl _)).mono (k := 50) (by omega)).limbs' (by decide) (j := 6) (by decide)) (by decide)
  · intro r h hlt
    have hst : 0 ≤ stepR x m n r := (rfit (by omega) hx hm (by omega) c1 hkm h).nn
    have hup : x < (stepR x m n r + 1) ^ n := by
      rw [hm]
      exact Wh.newton_up (r := r) (m := m) (by omega) (by have := h.pos; omega) (by rw [← hm]; exact hst) (by unfold stepR; rw [show (((m + 1 : Nat) : Int) - 1) = (m : Int) by omega, Int.natCast_succ])
    refine ⟨?_, Int.le_trans (Int.le_of_lt hlt) h.le, hup⟩
    rcases Int.lt_or_le (stepR x m n r) 1 with h1 | h1
    · rw [show stepR x m n r = 0 by omega, show (0 : Int) + 1 = 1 from rfl, Int.one_pow] at hup
      omega
    · exact h1
  · intro r h w va vb ha hb
    exact quo_gen w va vb x _ ha hb (by omega) (Int.natAbs_pos.2 (by have := h.pos; have : 0 < r ^ m := Int.pow_pos (by omega); omega))
  · rintro e w' ⟨⟨s, v', h, hle, rfl, hn'⟩, hb⟩
    have hs1 : s ^ n ≤ x := by
      rw [hm]
      refine Wh.newton_stop (by omega) (by have := h.pos; omega) ?_
      unfold stepR at hle
      rwa [hm, show (((m + 1 : Nat) : Int) - 1) = (m : Int) by omega, Int.natCast_succ] at hle
    have := root_only (r := r) (s := s) (by omega) (by have := h.pos; omega) hr1 hr2 hs1 h.up
    subst this
    exact ⟨⟨v', rfl, hn'⟩, hb⟩
end Go.Proofs.YteaeloeebfdodaaGreatDoor
