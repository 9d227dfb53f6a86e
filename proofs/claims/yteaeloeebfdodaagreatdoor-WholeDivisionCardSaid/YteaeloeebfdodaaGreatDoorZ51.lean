/- Part 51 of the proofs that laws of package whole answer true at every input and leave the input as it was, where the library's variables start as the text lays them (the texts W8, W9). -/
import Derived.Test.YteaeloeebfdodaaGreatDoorZ50
import Derived.Test.YteaeloeebfdodaaGreatDoorZ12
import Derived.Test.YteaeloeebfdodaaGreatDoorZ31
set_option linter.unusedVariables false
set_option linter.unusedSimpArgs false
/- WALKS, division by any number: divideLimbs, Quo, whole. -/
namespace Go.Proofs.YteaeloeebfdodaaGreatDoor
open Go.RowKit Go.Proofs.Rf
theorem divideLimbs_gen (w : World) (va vb : Value) (X Y : Nat) (ha : Sl w va (Wh.limbs X)) (hb : Sl w vb (Wh.limbs Y)) (hY : 0 < Y) (hX : (Wh.limbs X).length < 8) :
    Calls Tryz.prog 190 #[va, vb] w fun e w' => (∃ aq cq ar cr, e = .returned (.tuple #[.slice aq (Wh.limbs (X / Y)).length cq, .slice ar (Wh.limbs (X % Y)).length cr]) ∧ cq ≤ 100000 ∧ cr ≤ 100000 ∧ Sl w' (.slice aq (Wh.limbs (X / Y)).length cq) (Wh.limbs (X / Y)) ∧ Sl w' (.slice ar (Wh.limbs (X % Y)).length cr) (Wh.limbs (X % Y))) ∧ Below w.heap.size w w' := by
  by_cases h9 : Y < 1000000000
  · have e1 : Wh.trimL (Wh.quo (Wh.limbs X) Y) = Wh.limbs (X / Y) := by rw [Wh.trimL, Wh.val_quo _ _ hY, Wh.val_limbs]
    have e2 : Wh.trimL [Wh.val (Wh.limbs X) % Y] = Wh.limbs (X % Y) := by rw [Wh.val_limbs, Wh.trimL]; simp [Wh.val]
    rw [limbs_one_of ⟨hY, h9⟩] at hb
    have := divideLimbs_short w va vb (Wh.limbs X) Y ha (Wh.ok_limbs X) (by omega) hb ⟨hY, by omega⟩
    rw [e1, e2] at this
    exact this
  · have hlen : 2 ≤ (Wh.limbs Y).length := by
      rcases Nat.lt_or_ge (Wh.limbs Y).length 2 with h | h
      · have h1 := Wh.lt_pow_limbs Y
        have h2 : Wh.R ^ (Wh.limbs Y).length ≤ Wh.R ^ 1 := Nat.pow_le_pow_right Wh.R_pos (by omega)
        rw [Nat.pow_one] at h2
        have h3 : Wh.R = 1000000000 := rfl
        generalize Wh.R ^ (Wh.limbs Y).length = z at *
        omega
      · exact h
    refine (divideLimbs_long w va vb X Y ha hb ((Wh.limbs Y).length - 1) (by omega) (by omega) (.inl hX) (by omega)).mono ?_
    rintro e w' ⟨⟨aq, cq, ar, cr, h1, h2, h3, -, h4, h5⟩, hb⟩
    exact ⟨⟨aq, cq, ar, cr, h1, h2, h3, h4, h5⟩, hb⟩
set_option maxRecDepth 100000 in
set_option maxHeartbeats 2000000 in
theorem quo_gen (w : World) (va vb : Value) (x y : Int) (ha : Num w va x) (hb : Num w vb y) (hla : (Wh.limbs x.natAbs).length < 8) (hy : 0 < y.natAbs) :
    Calls Tryz.prog 196 #[va, vb] w fun e w' => (∃ vq vr, e = .returned (.tuple #[vq, vr]) ∧ Num w' vq (x.tdiv y) ∧ Num w' vr (x.tmod y)) ∧ Below w.heap.size w w' := by
  obtain ⟨sa, rfl, hsa⟩ := ha
  obtain ⟨sb, rfl, hsb⟩ := hb
  obtain ⟨aa, ca, rfl⟩ := hsa.len
  obtain ⟨ab, cb, rfl⟩ := hsb.len
  have HL := laid4_new w (.int .i64 x.sign) (.slice aa (Wh.limbs x.natAbs).length ca) (.int .i64 y.sign) (.slice ab (Wh.limbs y.natAbs).length cb) (.int .i64 0) (.slice none 0 0) (.int .i64 0) (.slice none 0 0) 83
  generalize hsx : x.sign = sx at *
  generalize hsy : y.sign = sy at *
  have HSX := Lib.hid hsx; clear hsx
  have HSY := Lib.hid hsy; clear hsy
  have HA := Lib.hid hsa; clear hsa
  have HB := Lib.hid hsb; clear hsb
  go_enter Tryz.func196, Tryz.ntmps196
  go_wp2_with fail
  generalize (((w.alloc (Obj.cells #[Value.int IntKind.i64 sx, Value.slice aa (Wh.limbs x.natAbs).length ca] 83)).alloc (Obj.cells #[Value.int IntKind.i64 sy, Value.slice ab (Wh.limbs y.natAbs).length cb] 83)).alloc (Obj.cells #[Value.int IntKind.i64 0, Value.slice none 0 0] 83)).alloc (Obj.cells #[Value.int IntKind.i64 0, Value.slice none 0 0] 83) = W at *
  refine (divideLimbs_gen W _ _ x.natAbs y.natAbs (HA.out.mono HL.below) (HB.out.mono HL.below) hy hla).mono ?_
  rintro e w1 ⟨⟨aq, cq, ar, cr, rfl, hcq, hcr, hq, hr⟩, hb1⟩
  have L1 := HL.mono hb1
  clear HL hb1
  have hvq : Wh.val (Wh.limbs (x.natAbs / y.natAbs)) = x.natAbs / y.natAbs := Wh.val_limbs _
  have hoq : Wh.Ok (Wh.limbs (x.natAbs / y.natAbs)) := Wh.ok_limbs _
  have hvr : Wh.val (Wh.limbs (x.natAbs % y.natAbs)) = x.natAbs % y.natAbs := Wh.val_limbs _
  have hor : Wh.Ok (Wh.limbs (x.natAbs % y.natAbs)) := Wh.ok_limbs _
  generalize Wh.limbs (x.natAbs / y.natAbs) = lq at *
  generalize Wh.limbs (x.natAbs % y.natAbs) = lr at *
  have HQ := Lib.hid hq; clear hq
  have HR := Lib.hid hr; clear hr
  have HVQ := Lib.hid hvq; clear hvq
  have HVR := Lib.hid hvr; clear hvr
  have HOQ := Lib.hid hoq; clear hoq
  have HOR := Lib.hid hor; clear hor
  have k0 := L1.a0
  have k1 := L1.b0
  have HL1 := Lib.hid L1; clear L1
  have hxs : -1 ≤ sx ∧ sx ≤ 1 := by rw [← HSX.out]; rcases Int.lt_trichotomy x 0 with h | h | h <;> simp [Int.sign_eq_neg_one_of_neg, Int.sign_eq_one_of_pos, h]
  have hys : -1 ≤ sy ∧ sy ≤ 1 := by rw [← HSY.out]; rcases Int.lt_trichotomy y 0 with h | h | h <;> simp [Int.sign_eq_neg_one_of_neg, Int.sign_eq_one_of_pos, h]
  obtain ⟨td, htd⟩ : ∃ t, x.tdiv y = t := ⟨_, rfl⟩
  obtain ⟨tm, htm⟩ : ∃ t, x.tmod y = t := ⟨_, rfl⟩
  have hvq : sx * sy * (Wh.val lq : Int) = td := by rw [HVQ.out, ← HSX.out, ← HSY.out, tdiv_signs, htd]
  have hvr : sx * (Wh.val lr : Int) = tm := by rw [HVR.out, ← HSX.out, tmod_signs, htm]
  have hcq1 : sx * sy = -1 ∨ sx * sy = 1 ∨ Wh.val lq = 0 := by
    rw [HVQ.out, ← HSX.out, ← HSY.out]
    exact sign_cases_q x y hy
  have hcr1 : sx = -1 ∨ sx = 1 ∨ Wh.val lr = 0 := by
    rw [HVR.out, ← HSX.out]
    rcases Int.lt_trichotomy x 0 with h | h | h
    · exact .inl (Int.sign_eq_neg_one_of_neg h)
    · subst h; simp
    · exact .inr (.inl (Int.sign_eq_one_of_pos h))
  have HTQ := Lib.hid hvq; clear hvq
  have HTR := Lib.hid hvr; clear hvr
  have HCQ := Lib.hid hcq1; clear hcq1
  have HCR := Lib.hid hcr1; clear hcr1
  have HTD := Lib.hid htd
  have HTM := Lib.hid htm
  clear htd htm
  go_wp2_with fail
  have hsmq : Small (.slice aq lq.length cq) := by intro p n c h; cases h; exact hcq
  have hsmr : Small (.slice ar lr.length cr) := by intro p n c h; cases h; exact hcr
  go_region_held3 (fun w' => w'.cell? ⟨w.heap.size, 0, none⟩ = some (.int .i64 sx) ∧ w'.cell? ⟨w.heap.size + 1, 0, none⟩ = some (.int .i64 sy)) (first | exact q3 | exact q2 | exact ⟨far1 q3.1 (by omega), far1 q3.2 (by omega)⟩ | exact ⟨far1 (far1 q3.1 (by omega)) (by omega), far1 (far1 q3.2 (by omega)) (by omega)⟩ | go_keep) (first
    | ((with_reducible go_at_call 197); (with_reducible refine (with_any _ _ hxs hys _).mono ?_); rintro e w' ⟨rfl, rfl⟩)
    | ((go_at_call 191); (have hdl : Below w1.heap.size w1 _ := drew_left hb2); (with_reducible refine (signed_any sx (.slice ar lr.length cr) lr _ HOR.out (HR.out.mono hdl) hsmr HCR.out).mono ?_); rintro e w3 ⟨⟨v3, rfl, hn⟩, hb3⟩; rw [HTR.out] at hn; obtain ⟨sl3, rfl, hsl3⟩ := hn; obtain ⟨xa3, xc3, rfl⟩ := hsl3.len; have L3 := HL2.out.mono hb3; have q3 := And.intro L3.a0 L3.b0; obtain ⟨-, -, -, -, m0, m1, n0, n1, i0, i1, j0, j1, -, -⟩ := L3)
    | ((go_at_call 191); (with_reducible refine (signed_any (sx * sy) (.slice aq lq.length cq) lq _ HOQ.out (HQ.out.mono (Below.refl _ _).drew) hsmq HCQ.out).mono ?_); rintro e w2 ⟨⟨v2, rfl, hn⟩, hb2⟩; rw [HTQ.out] at hn; obtain ⟨sl2, rfl, hsl2⟩ := hn; obtain ⟨xa2, xc2, rfl⟩ := hsl2.len; have L2 := HL1.out.mono (drew_left hb2); have q2 := And.intro L2.a0 L2.b0; have HL2 := Lib.hid L2; clear L2))
  go_wp2
  have hT : Two w3 (w.heap.size + 1 + 1) := ⟨m0, m1, n0, n1, i0, i1, j0, j1⟩
  have hB3 : Below w.heap.size w w3 := (HL2.out.mono hb3).below
  obtain ⟨r0, r1, r2, r3⟩ := hT.read (.int .i64 td.sign) (.slice xa2 (Wh.limbs td.natAbs).length xc2) (.int .i64 tm.sign) (.slice xa3 (Wh.limbs tm.natAbs).length xc3)
  have S2 := hT.sl (hsl2.mono hb3) (.int .i64 td.sign) (.slice xa2 (Wh.limbs td.natAbs).length xc2) (.int .i64 tm.sign) (.slice xa3 (Wh.limbs tm.natAbs).length xc3)
  have S3 := hT.sl hsl3 (.int .i64 td.sign) (.slice xa2 (Wh.limbs td.natAbs).length xc2) (.int .i64 tm.sign) (.slice xa3 (Wh.limbs tm.natAbs).length xc3)
  have hB := Two.below hB3 (show w.heap.size ≤ w.heap.size + 1 + 1 by omega) (.int .i64 td.sign) (.slice xa2 (Wh.limbs td.natAbs).length xc2) (.int .i64 tm.sign) (.slice xa3 (Wh.limbs tm.natAbs).length xc3)
  exact bodyPost_ret (v := .tuple #[.agg #[.int .i64 td.sign, .slice xa2 (Wh.limbs td.natAbs).length xc2], .agg #[.int .i64 tm.sign, .slice xa3 (Wh.limbs tm.natAbs).length xc3]]) (by unfold put22 at *; simp [results, Tryz.results196, go_sem, r0, r1, r2, r3]) rfl ⟨⟨_, _, rfl, by rw [HTD.out]; exact ⟨_, rfl, S2⟩, by rw [HTM.out]; exact ⟨_, rfl, S3⟩⟩, hB⟩
theorem floor_gen (w : World) (va vb : Value) (x y : Int) (ha : Num w va x) (hb : Num w vb y) (hfx : Fit x) (hfy : Fit y) (hy : y ≠ 0) :
    Calls Tryz.prog 187 #[va, vb] w fun e w' => (∃ vq vr, e = .returned (.tuple #[vq, vr]) ∧ Num w' vq (x.fdiv y) ∧ Num w' vr (x.fmod y)) ∧ Below w.heap.size w w' :=
  floor_from w va vb x y ha hb hfx hfy hy (fun W va vb ha hb => quo_gen W va vb x y ha hb hfx (Int.natAbs_pos.2 hy))
end Go.Proofs.YteaeloeebfdodaaGreatDoor

/- WALKS: whole.Floor and whole.Quo, by any number. -/
namespace Go.Proofs.YteaeloeebfdodaaGreatDoor
open Go.RowKit
set_option maxRecDepth 100000 in
set_option maxHeartbeats 800000 in
theorem perform_floorg (w : World) (x y : Int) (a1 a2 : Option Addr) (n1 c1 n2 c2 : Nat) (h1 : Sl w (.slice a1 n1 c1) (Wh.limbs x.natAbs)) (h2 : Sl w (.slice a2 n2 c2) (Wh.limbs y.natAbs)) (hx : Fit x) (hfy : Fit y) (hy : y ≠ 0) :
    Calls Tryz.prog 179 #[.iface 117 (.agg #[.int .i64 (Int.sign x), .slice a1 n1 c1, .int .i64 (Int.sign y), .slice a2 n2 c2])] w fun e w' =>
      (∃ v' v'', e = .returned (.tuple #[v', v'']) ∧ Num w' v' (x.fdiv y) ∧ Num w' v'' (x.fmod y)) ∧ Below w.heap.size w w' := by
  have H1 := Lib.hid h1; clear h1
  have H2 := Lib.hid h2; clear h2
  have hme := method_floor (.int .i64 (Int.sign x)) (.slice a1 n1 c1) (.int .i64 (Int.sign y)) (.slice a2 n2 c2)
  go_enter Tryz.func179, Tryz.ntmps179
  go_wp2_with fail
  refine (operands_any _ _ _ _ _ _ _ _ _).mono ?_
  rintro e w2 ⟨rfl, hb2⟩
  clear hme
  have hno0 := no_floored_sum (.agg #[.int .i64 (Int.sign x), .slice a1 n1 c1, .int .i64 (Int.sign y), .slice a2 n2 c2])
  have hno1 := no_floored_difference (.agg #[.int .i64 (Int.sign x), .slice a1 n1 c1, .int .i64 (Int.sign y), .slice a2 n2 c2])
  have hno2 := no_floored_multiple (.agg #[.int .i64 (Int.sign x), .slice a1 n1 c1, .int .i64 (Int.sign y), .slice a2 n2 c2])
  have has := assert_floor (.agg #[.int .i64 (Int.sign x), .slice a1 n1 c1, .int .i64 (Int.sign y), .slice a2 n2 c2])
  have hbb : Below w.heap.size w w2 := (((Below.refl _ _).alloc (Nat.le_refl _) _).alloc (by simp) _).trans (hb2.mono (by simp; omega))
  go_wp2_with fail
  have hal : Below w2.heap.size w2 ((w2.alloc (Obj.cells #[Value.int IntKind.i64 (Int.sign x), Value.slice a1 n1 c1] 83)).alloc (Obj.cells #[Value.int IntKind.i64 (Int.sign y), Value.slice a2 n2 c2] 83)) := ((Below.refl _ _).alloc (Nat.le_refl _) _).alloc (by simp) _
  have hall := hbb.trans (hal.mono hbb.size)
  refine (floor_gen _ _ _ x y (Num.mk' (H1.out.mono hall) rfl) (Num.mk' (H2.out.mono hall) rfl) hx hfy hy).mono ?_
  rintro e w3 ⟨⟨v3, u3, rfl, hn3, hm3⟩, hb3⟩
  generalize hQ : x.fdiv y = q at *
  generalize hR : x.fmod y = r at *
  have HQ := Lib.hid hQ; have HR := Lib.hid hR; clear hQ hR
  obtain ⟨s3, rfl, hs3⟩ := hn3
  obtain ⟨a3, c3, rfl⟩ := hs3.len
  obtain ⟨t3, rfl, hr3⟩ := hm3
  obtain ⟨d3, e3, rfl⟩ := hr3.len
  have hw2 : Below (w.heap.size + 2) ((w.alloc (.cells #[.int .i64 0, .slice none 0 0] 83)).alloc (.cells #[.int .i64 0, .slice none 0 0] 83)) w2 := hb2.mono (by simp)
  have hsz : w.heap.size + 2 ≤ w2.heap.size := by have := hw2.size; simpa using this
  have hT := two_new (hw2.trans ((hal.trans (hb3.mono hal.size)).mono hsz))
  have hB3 := Two.below (hbb.trans ((hal.trans (hb3.mono hal.size)).mono hbb.size)) (Nat.le_refl w.heap.size) (.int .i64 (Int.sign q)) (.slice a3 (Wh.limbs q.natAbs).length c3) (.int .i64 (Int.sign r)) (.slice d3 (Wh.limbs r.natAbs).length e3)
  have hS3 := hT.sl hs3 (.int .i64 (Int.sign q)) (.slice a3 (Wh.limbs q.natAbs).length c3) (.int .i64 (Int.sign r)) (.slice d3 (Wh.limbs r.natAbs).length e3)
  have hR3 := hT.sl hr3 (.int .i64 (Int.sign q)) (.slice a3 (Wh.limbs q.natAbs).length c3) (.int .i64 (Int.sign r)) (.slice d3 (Wh.limbs r.natAbs).length e3)
  obtain ⟨r0, r1, r2, r3⟩ := hT.read (.int .i64 (Int.sign q)) (.slice a3 (Wh.limbs q.natAbs).length c3) (.int .i64 (Int.sign r)) (.slice d3 (Wh.limbs r.natAbs).length e3)
  have k0 := hT.k0
  have k1 := hT.k1
  have m0 := hT.m0
  have m1 := hT.m1
  have f0 := hT.f0
  have f1 := hT.f1
  have g0 := hT.g0
  have g1 := hT.g1
  clear hal hall hb3 hw2 hbb hb2 has hT hs3 hr3 hno0 hno1 hno2
  go_wp2
  exact bodyPost_ret (v := .tuple #[.agg #[.int .i64 (Int.sign q), .slice a3 (Wh.limbs q.natAbs).length c3], .agg #[.int .i64 (Int.sign r), .slice d3 (Wh.limbs r.natAbs).length e3]]) (by unfold put22 at *; simp [results, Tryz.results179, go_sem, r0, r1, r2, r3]) rfl ⟨⟨_, _, rfl, by rw [HQ.out]; exact ⟨_, rfl, hS3⟩, by rw [HR.out]; exact ⟨_, rfl, hR3⟩⟩, hB3⟩
set_option maxRecDepth 100000 in
set_option maxHeartbeats 400000 in
theorem floorg_work (w : World) (pa pb : Addr) (x y : Int) (hc : Captured w pa pb x y) (hla : pa.block < w.heap.size) (hlb : pb.block < w.heap.size) (hx : Valid x) (hy : Valid y) (hfx : Fit x) (hfy : Fit y) (hy0 : y ≠ 0) (hq : Valid (x.fdiv y)) (hr : Valid (x.fmod y)) (htab : Tab w) :
    Calls Tryz.prog 110 #[.pointer (some pa), .pointer (some pb)] w fun e w' => e = .returned (.agg #[txt (x.fdiv y), txt (x.fmod y)]) ∧ Below w.heap.size w w' := by
  have hb0 : Below w.heap.size w (w.alloc (.cells #[.string ⟨#[]⟩, .string ⟨#[]⟩] 113)) := (Below.refl _ _).alloc (Nat.le_refl _) _
  have ha := (hb0.cell hla).trans hc.a
  have hb := (hb0.cell hlb).trans hc.b
  have H1 := Lib.hid (fun w => readPair_any x y hx hy w)
  have HQ := Lib.hid hq; have HR := Lib.hid hr; clear hq hr
  have HB0 := Lib.hid hb0; clear hb0
  clear hc hla hlb
  unfold txt at *
  go_enter Tryz.func110, Tryz.ntmps110
  go_wp2_with fail
  refine (H1.out _).mono ?_
  rintro e w1 ⟨⟨a1, n1, c1, a2, n2, c2, rfl, hs1, hs2⟩, hb1⟩
  go_wp2_with fail
  refine (double_any _ _ (x.fdiv y) (x.fmod y) (htab.mono (HB0.out.trans (hb1.mono HB0.out.size))) HQ.out HR.out (fun w' hw' => perform_floorg _ x y _ _ _ _ _ _ (hs1.mono hw') (hs2.mono hw') hfx hfy hy0)).mono ?_
  rintro e w2 ⟨rfl, hb2⟩
  have hb12 := hb1.trans (hb2.mono hb1.size)
  have lw : w.heap.size < (w.alloc (.cells #[.string ⟨#[]⟩, .string ⟨#[]⟩] 113)).heap.size := by simp
  have r0 := (hb12.cell (p := ⟨w.heap.size, 0, none⟩) lw).trans (show (w.alloc (Obj.cells #[Value.string ⟨#[]⟩, Value.string ⟨#[]⟩] 113)).cell? ⟨w.heap.size, 0, none⟩ = some (.string ⟨#[]⟩) by go_simp)
  have r1 := (hb12.cell (p := ⟨w.heap.size, 1, none⟩) lw).trans (show (w.alloc (Obj.cells #[Value.string ⟨#[]⟩, Value.string ⟨#[]⟩] 113)).cell? ⟨w.heap.size, 1, none⟩ = some (.string ⟨#[]⟩) by go_simp)
  have g0 := (hb12.frozen (p := ⟨w.heap.size, 0, none⟩) lw).trans (show (w.alloc (Obj.cells #[Value.string ⟨#[]⟩, Value.string ⟨#[]⟩] 113)).frozen? ⟨w.heap.size, 0, none⟩ = false by go_simp)
  have g1 := (hb12.frozen (p := ⟨w.heap.size, 1, none⟩) lw).trans (show (w.alloc (Obj.cells #[Value.string ⟨#[]⟩, Value.string ⟨#[]⟩] 113)).frozen? ⟨w.heap.size, 1, none⟩ = false by go_simp)
  have hB := HB0.out.trans (hb12.mono HB0.out.size)
  have HB := Lib.hid hB; clear hB hb12 hb1 hb2 hs1 hs2
  unfold txt at *
  obtain ⟨t0, t1⟩ := two_cells w2 w.heap.size (.string (str (Wh.decI (x.fdiv y)))) (.string (str (Wh.decI (x.fmod y)))) r0 r1
  go_wp2
  exact bodyPost_ret (v := .agg #[.string (str (Wh.decI (x.fdiv y))), .string (str (Wh.decI (x.fmod y)))]) (by simp [results, Tryz.results110, go_sem, t0, t1]) rfl ⟨rfl, (HB.out.setCell (Nat.le_refl _) _).setCell (Nat.le_refl _) _⟩
set_option maxRecDepth 100000 in
set_option maxHeartbeats 400000 in
theorem FloorG_any (w : World) (x y : Int) (hx : Valid x) (hy : Valid y) (hfx : Fit x) (hfy : Fit y) (hy0 : y ≠ 0) (hq : Valid (x.fdiv y)) (hr : Valid (x.fmod y)) (htab : Tab w) :
    Calls Tryz.prog 33 #[txt x, txt y] w fun e w' => e = .returned (.tuple #[txt (x.fdiv y), txt (x.fmod y), .int .i64 0]) ∧ Below w.heap.size w w' := by
  have hmf : ∀ (fn : Fn) (first cap : Array Value) (w : World), (Instr.makeFunc fn first cap).run Tryz.prog w = .ok (.func fn first cap) w := fun _ _ _ _ => rfl
  have hat := fun (w : World) (pa pb : Addr) (h : Captured w pa pb x y) (htab : Tab w) (ha : pa.block < w.heap.size) (hb : pb.block < w.heap.size) => attempt_good2 110 #[.pointer (some pa), .pointer (some pb)] (str (Wh.decI (x.fdiv y))) (str (Wh.decI (x.fmod y))) w (fun w => by kernel_rfl) (fun w' hb' => floorg_work w' pa pb x y ⟨(hb'.cell ha).trans h.a, (hb'.cell hb).trans h.b⟩ (Nat.lt_of_lt_of_le ha hb'.size) (Nat.lt_of_lt_of_le hb hb'.size) hx hy hfx hfy hy0 hq hr (htab.mono hb'))
  have HAT := Lib.hid hat; clear hat
  unfold txt at *
  go_enter Tryz.func33, Tryz.ntmps33
  go_wp2_with fail
  have hal : Below w.heap.size w ((w.alloc (.cells #[.string (str (Wh.decI x))] 9)).alloc (.cells #[.string (str (Wh.decI y))] 9)) := ((Below.refl _ _).alloc (Nat.le_refl _) _).alloc (by simp) _
  obtain ⟨b0, b1⟩ := boxed w (.string (str (Wh.decI x))) (.string (str (Wh.decI y))) 9
  refine (HAT.out _ _ _ ⟨b0, b1⟩ (htab.mono hal) (by simp; omega) (by simp)).mono ?_
  rintro e w2 ⟨rfl, hb2⟩
  have hbb := hal.trans (hb2.mono hal.size)
  clear hal b0 b1 hb2
  go_wp2_with fail
  have q0 : (w2.alloc (Obj.cells #[Value.string (str (Wh.decI (x.fdiv y))), Value.string (str (Wh.decI (x.fmod y)))] 113)).cell? ⟨w2.heap.size, 0, none⟩ = some (.string (str (Wh.decI (x.fdiv y)))) := by go_simp
  have q1 : (w2.alloc (Obj.cells #[Value.string (str (Wh.decI (x.fdiv y))), Value.string (str (Wh.decI (x.fmod y)))] 113)).cell? ⟨w2.heap.size, 1, none⟩ = some (.string (str (Wh.decI (x.fmod y)))) := by go_simp
  have hB : Below w.heap.size w (w2.alloc (Obj.cells #[Value.string (str (Wh.decI (x.fdiv y))), Value.string (str (Wh.decI (x.fmod y)))] 113)) := hbb.alloc hbb.size _
  have HB := Lib.hid hB; clear hB hbb
  generalize w2.alloc (Obj.cells #[Value.string (str (Wh.decI (x.fdiv y))), Value.string (str (Wh.decI (x.fmod y)))] 113) = V at *
  go_quiet (fail)
  go_wp2
  exact bodyPost_ret (v := .tuple #[.string (str (Wh.decI (x.fdiv y))), .string (str (Wh.decI (x.fmod y))), .int .i64 0]) (by simp [results, Tryz.results33, go_sem]) rfl ⟨rfl, HB.out.trans (below_drewN _ _ _)⟩
theorem no_truncated_sum (v : Value) (w : World) : (Instr.typeAssert (.iface 119 v) 174 92 true).run Tryz.prog w = .ok (.tuple #[.agg #[.int .i64 0, .slice none 0 0, .int .i64 0, .slice none 0 0], .bool false]) w := by kernel_rfl
theorem no_truncated_difference (v : Value) (w : World) : (Instr.typeAssert (.iface 119 v) 174 112 true).run Tryz.prog w = .ok (.tuple #[.agg #[.int .i64 0, .slice none 0 0, .int .i64 0, .slice none 0 0], .bool false]) w := by kernel_rfl
theorem no_truncated_multiple (v : Value) (w : World) : (Instr.typeAssert (.iface 119 v) 174 94 true).run Tryz.prog w = .ok (.tuple #[.agg #[.int .i64 0, .slice none 0 0, .int .i64 0, .slice none 0 0], .bool false]) w := by kernel_rfl
theorem no_truncated_floored (v : Value) (w : World) : (Instr.typeAssert (.iface 119 v) 174 117 true).run Tryz.prog w = .ok (.tuple #[.agg #[.int .i64 0, .slice none 0 0, .int .i64 0, .slice none 0 0], .bool false]) w := by kernel_rfl
theorem method_quo (x0 x1 x2 x3 : Value) (w : World) : (method 524 119 (.agg #[x0, x1, x2, x3]) "metewand/whole.operands").run Tryz.prog w = .ok (398, .agg #[x0, x1, x2, x3]) w := by kernel_rfl
theorem assert_quo (v : Value) (w : World) : (Instr.typeAssert (.iface 119 v) 174 119 true).run Tryz.prog w = .ok (.tuple #[v, .bool true]) w := by kernel_rfl
set_option maxRecDepth 100000 in
set_option maxHeartbeats 800000 in
theorem perform_quog (w : World) (x y : Int) (a1 a2 : Option Addr) (n1 c1 n2 c2 : Nat) (h1 : Sl w (.slice a1 n1 c1) (Wh.limbs x.natAbs)) (h2 : Sl w (.slice a2 n2 c2) (Wh.limbs y.natAbs)) (hx : Fit x) (hfy : Fit y) (hy : y ≠ 0) :
    Calls Tryz.prog 179 #[.iface 119 (.agg #[.int .i64 (Int.sign x), .slice a1 n1 c1, .int .i64 (Int.sign y), .slice a2 n2 c2])] w fun e w' =>
      (∃ v' v'', e = .returned (.tuple #[v', v'']) ∧ Num w' v' (x.tdiv y) ∧ Num w' v'' (x.tmod y)) ∧ Below w.heap.size w w' := by
  have H1 := Lib.hid h1; clear h1
  have H2 := Lib.hid h2; clear h2
  have hme := method_quo (.int .i64 (Int.sign x)) (.slice a1 n1 c1) (.int .i64 (Int.sign y)) (.slice a2 n2 c2)
  go_enter Tryz.func179, Tryz.ntmps179
  go_wp2_with fail
  refine (operands_any _ _ _ _ _ _ _ _ _).mono ?_
  rintro e w2 ⟨rfl, hb2⟩
  clear hme
  have hno0 := no_truncated_sum (.agg #[.int .i64 (Int.sign x), .slice a1 n1 c1, .int .i64 (Int.sign y), .slice a2 n2 c2])
  have hno1 := no_truncated_difference (.agg #[.int .i64 (Int.sign x), .slice a1 n1 c1, .int .i64 (Int.sign y), .slice a2 n2 c2])
  have hno2 := no_truncated_multiple (.agg #[.int .i64 (Int.sign x), .slice a1 n1 c1, .int .i64 (Int.sign y), .slice a2 n2 c2])
  have hno3 := no_truncated_floored (.agg #[.int .i64 (Int.sign x), .slice a1 n1 c1, .int .i64 (Int.sign y), .slice a2 n2 c2])
  have has := assert_quo (.agg #[.int .i64 (Int.sign x), .slice a1 n1 c1, .int .i64 (Int.sign y), .slice a2 n2 c2])
  have hbb : Below w.heap.size w w2 := (((Below.refl _ _).alloc (Nat.le_refl _) _).alloc (by simp) _).trans (hb2.mono (by simp; omega))
  go_wp2_with fail
  have hal : Below w2.heap.size w2 ((w2.alloc (Obj.cells #[Value.int IntKind.i64 (Int.sign x), Value.slice a1 n1 c1] 83)).alloc (Obj.cells #[Value.int IntKind.i64 (Int.sign y), Value.slice a2 n2 c2] 83)) := ((Below.refl _ _).alloc (Nat.le_refl _) _).alloc (by simp) _
  have hall := hbb.trans (hal.mono hbb.size)
  refine (quo_gen _ _ _ x y (Num.mk' (H1.out.mono hall) rfl) (Num.mk' (H2.out.mono hall) rfl) hx (Int.natAbs_pos.2 hy)).mono ?_
  rintro e w3 ⟨⟨v3, u3, rfl, hn3, hm3⟩, hb3⟩
  generalize hQ : x.tdiv y = q at *
  generalize hR : x.tmod y = r at *
  have HQ := Lib.hid hQ; have HR := Lib.hid hR; clear hQ hR
  obtain ⟨s3, rfl, hs3⟩ := hn3
  obtain ⟨a3, c3, rfl⟩ := hs3.len
  obtain ⟨t3, rfl, hr3⟩ := hm3
  obtain ⟨d3, e3, rfl⟩ := hr3.len
  have hw2 : Below (w.heap.size + 2) ((w.alloc (.cells #[.int .i64 0, .slice none 0 0] 83)).alloc (.cells #[.int .i64 0, .slice none 0 0] 83)) w2 := hb2.mono (by simp)
  have hsz : w.heap.size + 2 ≤ w2.heap.size := by have := hw2.size; simpa using this
  have hT := two_new (hw2.trans ((hal.trans (hb3.mono hal.size)).mono hsz))
  have hB3 := Two.below (hbb.trans ((hal.trans (hb3.mono hal.size)).mono hbb.size)) (Nat.le_refl w.heap.size) (.int .i64 (Int.sign q)) (.slice a3 (Wh.limbs q.natAbs).length c3) (.int .i64 (Int.sign r)) (.slice d3 (Wh.limbs r.natAbs).length e3)
  have hS3 := hT.sl hs3 (.int .i64 (Int.sign q)) (.slice a3 (Wh.limbs q.natAbs).length c3) (.int .i64 (Int.sign r)) (.slice d3 (Wh.limbs r.natAbs).length e3)
  have hR3 := hT.sl hr3 (.int .i64 (Int.sign q)) (.slice a3 (Wh.limbs q.natAbs).length c3) (.int .i64 (Int.sign r)) (.slice d3 (Wh.limbs r.natAbs).length e3)
  obtain ⟨r0, r1, r2, r3⟩ := hT.read (.int .i64 (Int.sign q)) (.slice a3 (Wh.limbs q.natAbs).length c3) (.int .i64 (Int.sign r)) (.slice d3 (Wh.limbs r.natAbs).length e3)
  have k0 := hT.k0
  have k1 := hT.k1
  have m0 := hT.m0
  have m1 := hT.m1
  have f0 := hT.f0
  have f1 := hT.f1
  have g0 := hT.g0
  have g1 := hT.g1
  clear hal hall hb3 hw2 hbb hb2 has hT hs3 hr3 hno0 hno1 hno2 hno3
  go_wp2
  exact bodyPost_ret (v := .tuple #[.agg #[.int .i64 (Int.sign q), .slice a3 (Wh.limbs q.natAbs).length c3], .agg #[.int .i64 (Int.sign r), .slice d3 (Wh.limbs r.natAbs).length e3]]) (by unfold put22 at *; simp [results, Tryz.results179, go_sem, r0, r1, r2, r3]) rfl ⟨⟨_, _, rfl, by rw [HQ.out]; exact ⟨_, rfl, hS3⟩, by rw [HR.out]; exact ⟨_, rfl, hR3⟩⟩, hB3⟩
set_option maxRecDepth 100000 in
set_option maxHeartbeats 400000 in
theorem quog_work (w : World) (pa pb : Addr) (x y : Int) (hc : Captured w pa pb x y) (hla : pa.block < w.heap.size) (hlb : pb.block < w.heap.size) (hx : Valid x) (hy : Valid y) (hfx : Fit x) (hfy : Fit y) (hy0 : y ≠ 0) (hq : Valid (x.tdiv y)) (hr : Valid (x.tmod y)) (htab : Tab w) :
    Calls Tryz.prog 112 #[.pointer (some pa), .pointer (some pb)] w fun e w' => e = .returned (.agg #[txt (x.tdiv y), txt (x.tmod y)]) ∧ Below w.heap.size w w' := by
  have hb0 : Below w.heap.size w (w.alloc (.cells #[.string ⟨#[]⟩, .string ⟨#[]⟩] 113)) := (Below.refl _ _).alloc (Nat.le_refl _) _
  have ha := (hb0.cell hla).trans hc.a
  have hb := (hb0.cell hlb).trans hc.b
  have H1 := Lib.hid (fun w => readPair_any x y hx hy w)
  have HQ := Lib.hid hq; have HR := Lib.hid hr; clear hq hr
  have HB0 := Lib.hid hb0; clear hb0
  clear hc hla hlb
  unfold txt at *
  go_enter Tryz.func112, Tryz.ntmps112
  go_wp2_with fail
  refine (H1.out _).mono ?_
  rintro e w1 ⟨⟨a1, n1, c1, a2, n2, c2, rfl, hs1, hs2⟩, hb1⟩
  go_wp2_with fail
  refine (double_any _ _ (x.tdiv y) (x.tmod y) (htab.mono (HB0.out.trans (hb1.mono HB0.out.size))) HQ.out HR.out (fun w' hw' => perform_quog _ x y _ _ _ _ _ _ (hs1.mono hw') (hs2.mono hw') hfx hfy hy0)).mono ?_
  rintro e w2 ⟨rfl, hb2⟩
  have hb12 := hb1.trans (hb2.mono hb1.size)
  have lw : w.heap.size < (w.alloc (.cells #[.string ⟨#[]⟩, .string ⟨#[]⟩] 113)).heap.size := by simp
  have r0 := (hb12.cell (p := ⟨w.heap.size, 0, none⟩) lw).trans (show (w.alloc (Obj.cells #[Value.string ⟨#[]⟩, Value.string ⟨#[]⟩] 113)).cell? ⟨w.heap.size, 0, none⟩ = some (.string ⟨#[]⟩) by go_simp)
  have r1 := (hb12.cell (p := ⟨w.heap.size, 1, none⟩) lw).trans (show (w.alloc (Obj.cells #[Value.string ⟨#[]⟩, Value.string ⟨#[]⟩] 113)).cell? ⟨w.heap.size, 1, none⟩ = some (.string ⟨#[]⟩) by go_simp)
  have g0 := (hb12.frozen (p := ⟨w.heap.size, 0, none⟩) lw).trans (show (w.alloc (Obj.cells #[Value.string ⟨#[]⟩, Value.string ⟨#[]⟩] 113)).frozen? ⟨w.heap.size, 0, none⟩ = false by go_simp)
  have g1 := (hb12.frozen (p := ⟨w.heap.size, 1, none⟩) lw).trans (show (w.alloc (Obj.cells #[Value.string ⟨#[]⟩, Value.string ⟨#[]⟩] 113)).frozen? ⟨w.heap.size, 1, none⟩ = false by go_simp)
  have hB := HB0.out.trans (hb12.mono HB0.out.size)
  have HB := Lib.hid hB; clear hB hb12 hb1 hb2 hs1 hs2
  unfold txt at *
  obtain ⟨t0, t1⟩ := two_cells w2 w.heap.size (.string (str (Wh.decI (x.tdiv y)))) (.string (str (Wh.decI (x.tmod y)))) r0 r1
  go_wp2
  exact bodyPost_ret (v := .agg #[.string (str (Wh.decI (x.tdiv y))), .string (str (Wh.decI (x.tmod y)))]) (by simp [results, Tryz.results112, go_sem, t0, t1]) rfl ⟨rfl, (HB.out.setCell (Nat.le_refl _) _).setCell (Nat.le_refl _) _⟩
set_option maxRecDepth 100000 in
set_option maxHeartbeats 400000 in
theorem QuoG_any (w : World) (x y : Int) (hx : Valid x) (hy : Valid y) (hfx : Fit x) (hfy : Fit y) (hy0 : y ≠ 0) (hq : Valid (x.tdiv y)) (hr : Valid (x.tmod y)) (htab : Tab w) :
    Calls Tryz.prog 34 #[txt x, txt y] w fun e w' => e = .returned (.tuple #[txt (x.tdiv y), txt (x.tmod y), .int .i64 0]) ∧ Below w.heap.size w w' := by
  have hmf : ∀ (fn : Fn) (first cap : Array Value) (w : World), (Instr.makeFunc fn first cap).run Tryz.prog w = .ok (.func fn first cap) w := fun _ _ _ _ => rfl
  have hat := fun (w : World) (pa pb : Addr) (h : Captured w pa pb x y) (htab : Tab w) (ha : pa.block < w.heap.size) (hb : pb.block < w.heap.size) => attempt_good2 112 #[.pointer (some pa), .pointer (some pb)] (str (Wh.decI (x.tdiv y))) (str (Wh.decI (x.tmod y))) w (fun w => by kernel_rfl) (fun w' hb' => quog_work w' pa pb x y ⟨(hb'.cell ha).trans h.a, (hb'.cell hb).trans h.b⟩ (Nat.lt_of_lt_of_le ha hb'.size) (Nat.lt_of_lt_of_le hb hb'.size) hx hy hfx hfy hy0 hq hr (htab.mono hb'))
  have HAT := Lib.hid hat; clear hat
  unfold txt at *
  go_enter Tryz.func34, Tryz.ntmps34
  go_wp2_with fail
  have hal : Below w.heap.size w ((w.alloc (.cells #[.string (str (Wh.decI x))] 9)).alloc (.cells #[.string (str (Wh.decI y))] 9)) := ((Below.refl _ _).alloc (Nat.le_refl _) _).alloc (by simp) _
  obtain ⟨b0, b1⟩ := boxed w (.string (str (Wh.decI x))) (.string (str (Wh.decI y))) 9
  refine (HAT.out _ _ _ ⟨b0, b1⟩ (htab.mono hal) (by simp; omega) (by simp)).mono ?_
  rintro e w2 ⟨rfl, hb2⟩
  have hbb := hal.trans (hb2.mono hal.size)
  clear hal b0 b1 hb2
  go_wp2_with fail
  have q0 : (w2.alloc (Obj.cells #[Value.string (str (Wh.decI (x.tdiv y))), Value.string (str (Wh.decI (x.tmod y)))] 113)).cell? ⟨w2.heap.size, 0, none⟩ = some (.string (str (Wh.decI (x.tdiv y)))) := by go_simp
  have q1 : (w2.alloc (Obj.cells #[Value.string (str (Wh.decI (x.tdiv y))), Value.string (str (Wh.decI (x.tmod y)))] 113)).cell? ⟨w2.heap.size, 1, none⟩ = some (.string (str (Wh.decI (x.tmod y)))) := by go_simp
  have hB : Below w.heap.size w (w2.alloc (Obj.cells #[Value.string (str (Wh.decI (x.tdiv y))), Value.string (str (Wh.decI (x.tmod y)))] 113)) := hbb.alloc hbb.size _
  have HB := Lib.hid hB; clear hB hbb
  generalize w2.alloc (Obj.cells #[Value.string (str (Wh.decI (x.tdiv y))), Value.string (str (Wh.decI (x.tmod y)))] 113) = V at *
  go_quiet (fail)
  go_wp2
  exact bodyPost_ret (v := .tuple #[.string (str (Wh.decI (x.tdiv y))), .string (str (Wh.decI (x.tmod y))), .int .i64 0]) (by simp [results, Tryz.results34, go_sem]) rfl ⟨rfl, HB.out.trans (below_drewN _ _ _)⟩
end Go.Proofs.YteaeloeebfdodaaGreatDoor
