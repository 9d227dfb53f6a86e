/- Part 52 of the proofs that laws of package whole answer true at every input and leave the input as it was, where the library's variables start as the text lays them (the texts W5). -/
import Derived.Test.YteaeloeebfdodaaGreatDoorX51
set_option linter.unusedVariables false
set_option linter.unusedSimpArgs false
/- WALKS, long division: the guess. -/
namespace Go.Proofs.YteaeloeebfdodaaGreatDoor
open Go.RowKit Go.Proofs.Rf
/-- what the first limbs tell of the window and the divisor -/
theorem guess_facts {lr d : List Nat} {p m : Nat} (hd : Wh.Ok d) (hok : Wh.Ok lr) (hm : d.length = m + 2) (hP : Wh.win lr p (m + 3) < Wh.R * Wh.val d) (hf : 0 < d.getD (m + 1) 0) :
    lr.getD (p + (m + 2)) 0 ≤ d.getD (m + 1) 0 ∧ Wh.win lr p (m + 3) < ((lr.getD (p + (m + 2)) 0 * Wh.R + lr.getD (p + (m + 1)) 0) * Wh.R + lr.getD (p + m) 0 + 1) * Wh.R ^ m ∧ (d.getD (m + 1) 0 * Wh.R + d.getD m 0) * Wh.R ^ m ≤ Wh.val d ∧ Wh.win lr p (m + 3) / Wh.val d < Wh.R ∧
    Wh.win lr p (m + 3) / Wh.val d ≤ (lr.getD (p + (m + 2)) 0 * Wh.R + lr.getD (p + (m + 1)) 0) / d.getD (m + 1) 0 := by
  have e1 : Wh.win lr p (m + 3) = Wh.win lr p m + Wh.R ^ m * (lr.getD (p + m) 0 + Wh.R * (lr.getD (p + (m + 1)) 0 + Wh.R * lr.getD (p + (m + 2)) 0)) := by
    rw [Wh.win_succ, Wh.win_succ, Wh.win_succ]
    simp only [Nat.pow_succ, Nat.mul_add, Nat.mul_assoc, Nat.add_assoc, Nat.mul_left_comm, Nat.mul_comm]
  have e2 : Wh.val d = Wh.sum (d.getD · 0) m + Wh.R ^ m * (d.getD m 0 + Wh.R * d.getD (m + 1) 0) := by
    rw [Wh.val_sum, hm, Wh.sum, Wh.sum, Nat.pow_succ, Nat.mul_add]
    simp only [Nat.mul_assoc, Nat.add_assoc, Nat.mul_left_comm, Nat.mul_comm]
  have h1 : Wh.win lr p m < Wh.R ^ m := Wh.win_lt hok p m
  have h2 : Wh.sum (d.getD · 0) m < Wh.R ^ m := Wh.sum_lt fun i _ => Wh.okD hd i
  have hpos : 0 < Wh.R ^ m := Nat.pow_pos Wh.R_pos
  have k1 := Wh.okD hok (p + (m + 1))
  have k2 := Wh.okD hok (p + m)
  have k3 := Wh.okD hd m
  generalize Wh.win lr p m = A at *
  generalize Wh.sum (d.getD · 0) m = B at *
  generalize lr.getD (p + (m + 2)) 0 = t at *
  generalize lr.getD (p + (m + 1)) 0 = t1 at *
  generalize lr.getD (p + m) 0 = t2 at *
  generalize d.getD (m + 1) 0 = f at *
  generalize d.getD m 0 = s at *
  generalize Wh.win lr p (m + 3) = P at *
  generalize Wh.val d = D at *
  generalize Wh.R ^ m = X at *
  have hD : D < X * (Wh.R * (f + 1)) := by
    have : X * (s + Wh.R * f) + X ≤ X * (Wh.R * (f + 1)) := by
      rw [← Nat.mul_succ]
      refine Nat.mul_le_mul_left _ ?_
      rw [Nat.mul_add]
      omega
    omega
  have hX : X * (f * Wh.R + s) ≤ D := by rw [e2, Nat.mul_comm f, Nat.add_comm (Wh.R * f)]; omega
  have ht : t ≤ f := by
    rcases Nat.lt_or_ge f t with h | h
    · exfalso
      have h3 : X * (Wh.R * (Wh.R * (f + 1))) ≤ X * (Wh.R * (Wh.R * t)) := Nat.mul_le_mul_left _ (Nat.mul_le_mul_left _ (Nat.mul_le_mul_left _ h))
      have h4 : X * (Wh.R * (Wh.R * t)) ≤ X * (t2 + Wh.R * (t1 + Wh.R * t)) := Nat.mul_le_mul_left _ (by rw [Nat.mul_add]; omega)
      have h5 : Wh.R * D < Wh.R * (X * (Wh.R * (f + 1))) := Nat.mul_lt_mul_of_pos_left hD Wh.R_pos
      have h6 : Wh.R * (X * (Wh.R * (f + 1))) = X * (Wh.R * (Wh.R * (f + 1))) := Nat.mul_left_comm ..
      omega
    · exact h
  have hR : P / D < Wh.R := Nat.div_lt_of_lt_mul (by rw [Nat.mul_comm]; exact hP)
  have e3 : (t * Wh.R + t1) * Wh.R + t2 = t2 + Wh.R * (t1 + Wh.R * t) := by rw [Nat.mul_comm _ Wh.R, Nat.mul_comm t, Nat.add_comm, Nat.add_comm (Wh.R * t)]
  refine ⟨ht, ?_, by rw [Nat.mul_comm]; exact hX, hR, ?_⟩
  · rw [e3, Nat.mul_comm, Nat.mul_add, Nat.mul_one, e1]
    omega
  · rw [Nat.le_div_iff_mul_le hf]
    have h7 : P / D * D ≤ P := Nat.div_mul_le_self P D
    generalize P / D = q at *
    -- q f R X <= q D <= P < (t R + t1 + 1) R X
    have h8 : q * f * (Wh.R * X) ≤ q * D := by
      rw [Nat.mul_assoc]
      refine Nat.mul_le_mul_left _ (Nat.le_trans ?_ hX)
      rw [Nat.mul_comm X, Nat.add_mul, ← Nat.mul_assoc]
      omega
    have h9 : P < (t * Wh.R + t1 + 1) * (Wh.R * X) := by
      have : X * (t2 + Wh.R * (t1 + Wh.R * t)) + X ≤ X * (Wh.R * (t1 + Wh.R * t + 1)) := by
        rw [← Nat.mul_succ]
        refine Nat.mul_le_mul_left _ ?_
        rw [Nat.mul_add Wh.R (t1 + Wh.R * t) 1]
        omega
      have e4 : (t * Wh.R + t1 + 1) * (Wh.R * X) = X * (Wh.R * (t1 + Wh.R * t + 1)) := by
        rw [Nat.mul_comm t, Nat.add_comm (Wh.R * t), Nat.mul_comm _ (Wh.R * X), Nat.mul_comm Wh.R X, Nat.mul_assoc]
      omega
    have h10 : q * f * (Wh.R * X) < (t * Wh.R + t1 + 1) * (Wh.R * X) := by omega
    have := Nat.lt_of_mul_lt_mul_right h10
    omega
theorem R_pow {P t0 t1 t2 X hi : Nat} (h : P < ((t0 * 1000000000 + t1) * 1000000000 + t2 + 1) * X) (hh : hi = t0 * 1000000000 + t1) : P < (hi * 1000000000 + t2 + 1) * X := by rw [hh]; exact h
set_option maxRecDepth 100000 in
set_option maxHeartbeats 2000000 in
theorem guess_any (w : World) (rb p pc : Nat) (lr : List Nat) (hr : Own w rb lr) (hok : Wh.Ok lr) (vd : Value) (d : List Nat) (hd : Sl w vd d) (hod : Wh.Ok d) (m : Nat) (hdl : d.length = m + 2) (hp : p + (m + 2) < lr.length) (hpc : m + 3 ≤ pc) (hm : lr.length ≤ 100000)
    (hP : Wh.win lr p (m + 3) < Wh.R * Wh.val d) (hf : 0 < d.getD (m + 1) 0) :
    Calls Tryz.prog 302 #[.slice (some ⟨rb, p, none⟩) (m + 3 : Nat) pc, vd] w fun e w' => (∃ g : Nat, e = .returned (.int .u32 g) ∧ Wh.win lr p (m + 3) / Wh.val d ≤ g ∧ g < 1000000000) ∧ ∃ n, w' = w.drewN n := by
  obtain ⟨a, c, rfl, hc⟩ := hd.addr
  have HG := Lib.hid (guess_facts hod hok hdl hP hf)
  obtain ⟨b1, off1, rfl, hbl1, hcell1⟩ := hc 0 (by omega)
  rw [hdl] at hcell1 ⊢
  have hd1 := hcell1 (m + 1) (by omega)
  have hd2 := hcell1 m (by omega)
  have hr0 := hr.cell (p + (m + 2)) (by omega)
  have hr1 := hr.cell (p + (m + 1)) (by omega)
  have hr2 := hr.cell (p + m) (by omega)
  have l1 : d.getD (m + 1) 0 < 1000000000 := Wh.okD hod _
  have l2 : d.getD m 0 < 1000000000 := Wh.okD hod _
  have l3 : lr.getD (p + (m + 2)) 0 < 1000000000 := Wh.okD hok _
  have l4 : lr.getD (p + (m + 1)) 0 < 1000000000 := Wh.okD hok _
  have l5 : lr.getD (p + m) 0 < 1000000000 := Wh.okD hok _
  have htop : lr.getD (p + (m + 2)) 0 ≤ d.getD (m + 1) 0 := HG.out.1
  have hR : Wh.R = 1000000000 := rfl
  clear hc hcell1 hr hP
  have HRX : Hid (Wh.R = 1000000000) := Lib.hid rfl
  generalize Wh.win lr p (m + 3) = P at *
  generalize Wh.val d = D at *
  generalize d.getD (m + 1) 0 = first at *
  generalize d.getD m 0 = second at *
  generalize lr.getD (p + (m + 2)) 0 = t0 at *
  generalize lr.getD (p + (m + 1)) 0 = t1 at *
  generalize lr.getD (p + m) 0 = t2 at *
  rw [hR] at HG
  obtain ⟨hi, hhi⟩ : ∃ hi : Nat, hi = t0 * 1000000000 + t1 := ⟨_, rfl⟩
  have hhl : hi < 1000000000000000000 := by omega
  have hq0 : hi / first ≤ 2000000000 := by
    refine Nat.le_of_lt_succ (Nat.div_lt_of_lt_mul ?_)
    have h1 : t0 * 1000000000 ≤ first * 1000000000 := Nat.mul_le_mul_right _ htop
    omega
  have hr0' : hi % first < first := Nat.mod_lt _ hf
  have HU : Hid (Wh.GU P D hi first (hi / first) (hi % first)) := Lib.hid ⟨by rw [Nat.mul_comm]; exact Nat.div_add_mod hi first, by rw [hhi]; exact HG.out.2.2.2.2⟩
  have hci : ((t0 : Int) * 1000000000 + (t1 : Int)) = (hi : Int) := by omega
  have hdi : (hi : Int).tdiv (first : Int) = ((hi / first : Nat) : Int) := by rw [Int.tdiv_eq_ediv_of_nonneg (by omega)]; simp
  have hmi : (hi : Int).tmod (first : Int) = ((hi % first : Nat) : Int) := by rw [Int.tmod_eq_emod_of_nonneg (by omega)]; simp
  have hne : ((first : Int) == 0) = false := by rw [beq_eq_false_iff_ne]; omega
  have HHI := Lib.hid hhi; clear hhi
  generalize hi / first = q0 at *
  generalize hi % first = r0 at *
  go_enter Tryz.func302, Tryz.ntmps302
  go_wp2_with fail
  go_quiet (fail)
  go_wp2_with fail
  go_quiet (fail)
  go_wp2_with fail
  go_quiet (fail)
  go_wp2_with fail
  go_loopw [9, 10] (fun dv rv wr => ∃ dg rs n : Nat, dv = .int .u64 dg ∧ rv = .int .u64 rs ∧ wr = w.drewN n ∧ dg ≤ 2000000000 ∧ rs ≤ 2000000000 ∧ Hid (Wh.GU P D hi first dg rs)) (fun _ rv _ => 3000000000 - (intOf rv).toNat)
  case atStart =>
    obtain ⟨k, hk⟩ := drew3 w _ _ _
    exact ⟨q0, r0, k, rfl, rfl, hk, hq0, by omega, HU⟩
  case round =>
    obtain ⟨dg, rs, n, rfl, rfl, rfl, hdg, hrs, HI⟩ := hrel
    have hx2 : (w.drewN n).cell? ⟨rb, p + m, none⟩ = some (.int .u32 t2) := by rw [World.cell?_drewN]; exact hr2
    have hfin : ∀ (_ : dg < 1000000000), (∃ g : Nat, Ending.returned (Value.int .u32 (dg : Int)) = .returned (.int .u32 (g : Int)) ∧ P / D ≤ g ∧ g < 1000000000) ∧ ∃ k, w.drewN n = w.drewN k := fun hlt => ⟨⟨dg, rfl, HI.out.ge, hlt⟩, n, rfl⟩
    have HF := Lib.hid hfin; clear hfin
    by_cases hA : rs < 1000000000
    · have h1 : decide ((rs : Int) < 1000000000) = true := by rw [decide_eq_true_iff]; omega
      have HDN : Hid (∀ (_ : 1000000000 ≤ dg ∨ rs * 1000000000 + t2 < dg * second), Wh.GU P D hi first (dg - 1) (rs + first) ∧ 0 < dg) := Lib.hid fun hc => HI.out.down (R_pow HG.out.2.1 HHI.out) HG.out.2.2.1 HG.out.2.2.2.1 hc
      by_cases hB : 1000000000 ≤ dg
      · have h2 : decide ((1000000000 : Int) ≤ (dg : Int)) = true := by rw [decide_eq_true_iff]; omega
        have hN := Lib.hid (HDN.out (.inl hB))
        go_wp2_with fail
        have hpos := hN.out.2
        exact ⟨⟨dg - 1, rs + first, n, by rw [show ((dg - 1 : Nat) : Int) = (dg : Int) - 1 from by omega], by rw [show ((rs + first : Nat) : Int) = (rs : Int) + (first : Int) from by omega], rfl, by omega, by omega, Lib.hid hN.out.1⟩, by simp [intOf]; omega⟩
      · have h2 : decide ((1000000000 : Int) ≤ (dg : Int)) = false := by rw [decide_eq_false_iff_not]; omega
        have hb1 : (0 : Int) ≤ (dg : Int) * (second : Int) ∧ (dg : Int) * (second : Int) ≤ 999999998000000001 := prod_bound (by omega) l2
        have hcast : ((dg * second : Nat) : Int) = (dg : Int) * (second : Int) := by simp
        by_cases hC : rs * 1000000000 + t2 < dg * second
        · have h3 : decide ((rs : Int) * 1000000000 + (t2 : Int) < (dg : Int) * (second : Int)) = true := by rw [decide_eq_true_iff]; omega
          have hN := Lib.hid (HDN.out (.inr hC))
          have hpos := hN.out.2
          go_wp2_with fail
          exact ⟨⟨dg - 1, rs + first, n, by rw [show ((dg - 1 : Nat) : Int) = (dg : Int) - 1 from by omega], by rw [show ((rs + first : Nat) : Int) = (rs : Int) + (first : Int) from by omega], rfl, by omega, by omega, Lib.hid hN.out.1⟩, by simp [intOf]; omega⟩
        · have h3 : decide ((rs : Int) * 1000000000 + (t2 : Int) < (dg : Int) * (second : Int)) = false := by rw [decide_eq_false_iff_not]; omega
          go_wp2_with fail
          go_ret
          exact HF.out (by omega)
    · have h1 : decide ((rs : Int) < 1000000000) = false := by rw [decide_eq_false_iff_not]; omega
      have hlt : dg < 1000000000 := HI.out.end' HHI.out htop l4 (by show Wh.R ≤ rs; omega)
      go_wp2_with fail
      go_ret
      exact HF.out hlt
end Go.Proofs.YteaeloeebfdodaaGreatDoor
