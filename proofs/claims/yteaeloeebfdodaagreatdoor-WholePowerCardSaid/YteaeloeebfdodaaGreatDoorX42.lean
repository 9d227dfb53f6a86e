/- Part 42 of the proofs that laws of package whole answer true at every input and leave the input as it was, where the library's variables start as the text lays them (the texts U13, U14). -/
import Derived.Test.YteaeloeebfdodaaGreatDoorX41
import Derived.Test.YteaeloeebfdodaaGreatDoorX11
set_option linter.unusedVariables false
set_option linter.unusedSimpArgs false
/- WALKS: the reference's quotient and remainder of numbers. -/
namespace Go.Proofs.YteaeloeebfdodaaGreatDoor
open Go.RowKit Go.Proofs.Rf
theorem sign_quo_neg {x y z : Int} {bx b2 : Bool} (h1 : decide (x < 0) = bx) (h2 : decide (y < 0) = b2) (hz : x.tdiv y = z) (e : (bx != b2) = true) : 0 < x.natAbs / y.natAbs ↔ z < 0 := by
  have hn : z.natAbs = x.natAbs / y.natAbs := by rw [← hz]; exact Int.natAbs_tdiv ..
  have hle : z ≤ 0 := by
    rw [← hz]
    cases bx <;> cases b2 <;> simp at e h1 h2
    · have := Int.tdiv_nonneg h1 (show (0 : Int) ≤ -y by omega)
      rw [Int.tdiv_neg] at this; omega
    · have := Int.tdiv_nonneg (show (0 : Int) ≤ -x by omega) h2
      rw [Int.neg_tdiv] at this; omega
  rw [← hn]
  omega
theorem sign_quo_pos {x y z : Int} {bx b2 : Bool} (h1 : decide (x < 0) = bx) (h2 : decide (y < 0) = b2) (hz : x.tdiv y = z) (e : (bx != b2) = false) : ¬ z < 0 := by
  have hle : 0 ≤ z := by
    rw [← hz]
    cases bx <;> cases b2 <;> simp at e h1 h2
    · exact Int.tdiv_nonneg h1 h2
    · have := Int.tdiv_nonneg (show (0 : Int) ≤ -x by omega) (show (0 : Int) ≤ -y by omega)
      rw [Int.neg_tdiv, Int.tdiv_neg] at this; omega
  omega
theorem sign_rem_neg {x y z : Int} {bx : Bool} (h1 : decide (x < 0) = bx) (hz : x.tmod y = z) (e : bx = true) : 0 < x.natAbs % y.natAbs ↔ z < 0 := by
  have hn : z.natAbs = x.natAbs % y.natAbs := by rw [← hz]; exact Int.natAbs_tmod ..
  have hle : z ≤ 0 := by
    rw [← hz]
    subst e
    simp at h1
    have := Int.tmod_nonneg y (show (0 : Int) ≤ -x by omega)
    rw [Int.neg_tmod] at this; omega
  rw [← hn]
  omega
theorem sign_rem_pos {x y z : Int} {bx : Bool} (h1 : decide (x < 0) = bx) (hz : x.tmod y = z) (e : bx = false) : ¬ z < 0 := by
  have hle : 0 ≤ z := by
    rw [← hz]
    subst e
    simp at h1
    exact Int.tmod_nonneg y h1
  omega
/-- what each operation of the quotient's region yields -/
def QSV (x y : Int) (TZ TM : ByteArray) : Nat → Value → World → Prop
  | 0, v, _ => v = .int .i64 x
  | 1, v, _ => v = .int .i64 y
  | 2, v, _ => v = .int .i64 (x.tdiv y)
  | 3, v, _ => v = .string TZ
  | 4, v, _ => v = .int .i64 x
  | 5, v, _ => v = .int .i64 y
  | 6, v, _ => v = .int .i64 (x.tmod y)
  | _, v, _ => v = .string TM
set_option maxRecDepth 100000 in
set_option maxHeartbeats 1000000 in
theorem rQuo_small (x y : Int) (h : x.natAbs < 1000000000 ∧ y.natAbs < 1000000000) (hy0 : y ≠ 0) (w : World) :
    Calls Tryz.prog 44 #[txt x, txt y] w fun e w' => e = .returned (.tuple #[txt (x.tdiv y), txt (x.tmod y)]) ∧ Below w.heap.size w w' := by
  have HSM := Lib.hid (fun w => small_yes x y h.1 h.2 w)
  have hp1 : (x.tdiv y).natAbs ≤ x.natAbs := by rw [show (x.tdiv y).natAbs = x.natAbs / y.natAbs from Int.natAbs_tdiv ..]; exact Nat.div_le_self _ _
  have hp2 : (x.tmod y).natAbs ≤ x.natAbs := by rw [show (x.tmod y).natAbs = x.natAbs % y.natAbs from Int.natAbs_tmod ..]; exact Nat.mod_le _ _
  have HO1 := Lib.hid (fun w => OfInt_int (x.tdiv y) (by omega) w)
  have HO2 := Lib.hid (fun w => OfInt_int (x.tmod y) (by omega) w)
  have hne : (y == 0) = false := by rw [beq_eq_false_iff_ne]; exact hy0
  have hne2 : ¬ y = 0 := hy0
  unfold txt at *
  generalize str (Wh.decI x) = TX at *
  generalize str (Wh.decI y) = TY at *
  generalize str (Wh.decI (x.tdiv y)) = TZ at *
  generalize str (Wh.decI (x.tmod y)) = TM at *
  go_enter Tryz.func44, Tryz.ntmps44
  go_wp2_with fail
  refine (HSM.out _).mono ?_
  rintro e w' ⟨rfl, rfl⟩
  go_wp2_with fail
  have hw1 : IntKind.i64.wrap (x.tdiv y) = x.tdiv y := wrap_i64 _ (by omega) (by omega)
  have hw2 : IntKind.i64.wrap (x.tmod y) = x.tmod y := wrap_i64 _ (by omega) (by omega)
  refine wp_mono (Q := fun e a W' => e = .normal ∧ (∃ vals : Nat → Value, a = { tmps := #[.string TX, .string TY, undef, undef, .string TZ, .string TM, .int .i64 x, .int .i64 y, .bool true, undef, undef, .tuple #[.int .i64 x, .int .i64 y, .bool true], .string TX, .string TY, .tuple #[.int .i64 x, .int .i64 y, .bool true], .int .i64 x, .int .i64 y, .bool true, .bool true, vals 0, vals 1, vals 2, vals 3, vals 4, vals 5, vals 6, vals 7, undef, undef, undef, undef, undef, undef, undef, undef, undef, undef, undef, undef, undef, undef, undef, undef, undef, undef, undef, undef, undef], defers := [] }) ∧ Below w.heap.size w W') ?_ ?_
  refine Rt.wp_region_grow (n0 := 2) [8, 9] [] 48 (fun vals => { tmps := #[.string TX, .string TY, undef, undef, .string { data := #[] }, .string { data := #[] }, .int .i64 x, .int .i64 y, .bool true, undef, undef, .tuple #[.int .i64 x, .int .i64 y, .bool true], .string TX, .string TY, .tuple #[.int .i64 x, .int .i64 y, .bool true], .int .i64 x, .int .i64 y, .bool true, .bool true, vals 0, vals 1, vals 2, vals 3, vals 4, vals 5, vals 6, vals 7, undef, undef, undef, undef, undef, undef, undef, undef, undef, undef, undef, undef, undef, undef, undef, undef, undef, undef, undef, undef, undef], defers := [] }) (QSV x y TZ TM) (by kernel_rfl) (by kernel_rfl) (by kernel_rfl) (by kernel_rfl) (fun _ _ _ _ _ h => absurd h.1 (by simp)) (by kernel_rfl) rfl (fun _ => by kernel_rfl) (by kernel_rfl) (by kernel_rfl) (fun i v w w' h _ => by
    match i, h with
    | 0, h | 1, h | 2, h | 3, h | 4, h | 5, h | 6, h | _ + 7, h => exact h) ?_ ?_ ?_
  · intro i o d hi hT hW hd' vals w' hb hf
    have hlt : i < 10 := (Array.getElem?_eq_some_iff.1 hi).1
    rcases i with _ | _ | _ | _ | _ | _ | _ | _ | _ | _ | i
    · obtain rfl := Option.some.inj hi
      obtain rfl := Option.some.inj hd'
      dsimp only
      go_simp
      exact ⟨rfl, Below.refl _ _⟩
    · obtain rfl := Option.some.inj hi
      obtain rfl := Option.some.inj hd'
      dsimp only
      go_simp
      exact ⟨rfl, Below.refl _ _⟩
    · obtain rfl := Option.some.inj hi
      obtain rfl := Option.some.inj hd'
      have e0 : vals 0 = _ := hf 0 (by kernel_rfl)
      have e1 : vals 1 = _ := hf 1 (by kernel_rfl)
      dsimp only
      rw [e0, e1]
      go_simp
      exact ⟨rfl, Below.refl _ _⟩
    · obtain rfl := Option.some.inj hi
      obtain rfl := Option.some.inj hd'
      have e2 : vals 2 = _ := hf 2 (by kernel_rfl)
      dsimp only
      rw [e2]
      go_simp
      refine (HO1.out _).mono ?_
      rintro e W ⟨rfl, hb2⟩
      exact ⟨rfl, hb2⟩
    · obtain rfl := Option.some.inj hi
      obtain rfl := Option.some.inj hd'
      dsimp only
      go_simp
      exact ⟨rfl, Below.refl _ _⟩
    · obtain rfl := Option.some.inj hi
      obtain rfl := Option.some.inj hd'
      dsimp only
      go_simp
      exact ⟨rfl, Below.refl _ _⟩
    · obtain rfl := Option.some.inj hi
      obtain rfl := Option.some.inj hd'
      have e4 : vals 4 = _ := hf 4 (by kernel_rfl)
      have e5 : vals 5 = _ := hf 5 (by kernel_rfl)
      dsimp only
      rw [e4, e5]
      go_simp
      exact ⟨rfl, Below.refl _ _⟩
    · obtain rfl := Option.some.inj hi
      obtain rfl := Option.some.inj hd'
      have e6 : vals 6 = _ := hf 6 (by kernel_rfl)
      dsimp only
      rw [e6]
      go_simp
      refine (HO2.out _).mono ?_
      rintro e W ⟨rfl, hb2⟩
      exact ⟨rfl, hb2⟩
    · cases hT
    · cases hT
    · omega
  · intro p o d hi hW hd vals w' hb hf
    cases hW
  · intro vals w' hb hf
    have e3 : vals 3 = .string TZ := hf 3 (by decide) rfl
    have e7 : vals 7 = .string TM := hf 7 (by decide) rfl
    rw [e3, e7]
    refine Rt.wpAny_step (i := 8) (by kernel_rfl) rfl (by rfl) (fun K hK => ?_)
    have HK := Lib.hid hK; clear hK
    go_simp
    refine HK.out _ _ ?_
    clear HK
    refine Rt.wpAny_step (i := 9) (by kernel_rfl) rfl (by rfl) (fun K hK => ?_)
    have HK := Lib.hid hK; clear hK
    go_simp
    refine HK.out _ _ ?_
    exact Rt.wpAny_end (by kernel_rfl) ⟨rfl, ⟨vals, by rw [e3, e7]⟩, hb⟩
  · rintro e a W ⟨rfl, ⟨vals, rfl⟩, hB⟩
    go_wp2
    go_ret2
    exact ⟨rfl, hB⟩
set_option maxRecDepth 100000 in
set_option maxHeartbeats 1000000 in
theorem rQuo_big (x y : Int) (hx : V400 x) (hy : V400 y) (hy0 : y ≠ 0) (h : ¬ (x.natAbs < 1000000000 ∧ y.natAbs < 1000000000)) (w : World) :
    Calls Tryz.prog 44 #[txt x, txt y] w fun e w' => e = .returned (.tuple #[txt (x.tdiv y), txt (x.tmod y)]) ∧ Below w.heap.size w w' := by
  have HSM := Lib.hid (fun w => small_no x y h w)
  have HAX := Lib.hid (fun w => Abs_txt x w)
  have HAY := Lib.hid (fun w => Abs_txt y w)
  have HNX := Lib.hid (fun w => Neg_txt x w)
  have HNY := Lib.hid (fun w => Neg_txt y w)
  have HLX := Lib.hid (fun w => rlimbs_dec x.natAbs hx w)
  have HLY := Lib.hid (fun w => rlimbs_dec y.natAbs hy w)
  obtain ⟨bx, hbx⟩ : ∃ b, decide (x < 0) = b := ⟨_, rfl⟩
  obtain ⟨b2, hby⟩ : ∃ b, decide (y < 0) = b := ⟨_, rfl⟩
  rw [hbx] at HNX
  rw [hby] at HNY
  obtain ⟨z, hz⟩ : ∃ z, x.tdiv y = z := ⟨_, rfl⟩
  obtain ⟨m, hm⟩ : ∃ m, x.tmod y = m := ⟨_, rfl⟩
  rw [hz, hm]
  have HSG := Lib.hid (And.intro (fun e => sign_quo_neg hbx hby hz e) (And.intro (fun e => sign_quo_pos hbx hby hz e) (show z.natAbs = x.natAbs / y.natAbs by rw [← hz]; exact Int.natAbs_tdiv ..)))
  have HSR := Lib.hid (And.intro (fun e => sign_rem_neg hbx hm e) (And.intro (fun e => sign_rem_pos hbx hm e) (show m.natAbs = x.natAbs % y.natAbs by rw [← hm]; exact Int.natAbs_tmod ..)))
  have HY0 := Lib.hid (show y.natAbs ≠ 0 by omega)
  clear hbx hby hz hm h hx hy hy0
  unfold txt at HSM HAX HAY HNX HNY
  generalize hTX : str (Wh.decI x) = TX at *
  generalize hTY : str (Wh.decI y) = TY at *
  have HTX := Lib.hid (And.intro hTX hTY); clear hTX hTY
  show Calls Tryz.prog 44 #[txt x, txt y] w _
  unfold txt
  rw [HTX.out.1, HTX.out.2]
  generalize hTZ : str (Wh.decI z) = TZ at *
  generalize hTM : str (Wh.decI m) = TM at *
  have HTZ := Lib.hid (And.intro hTZ hTM); clear hTZ hTM
  go_enter Tryz.func44, Tryz.ntmps44
  go_wp2_with fail
  refine (HSM.out _).mono ?_
  rintro e w' ⟨rfl, rfl⟩
  go_wp2_with fail
  refine (HAX.out _).mono ?_
  rintro e w' ⟨rfl, rfl⟩
  go_wp2_with fail
  refine (HLX.out _).mono ?_
  rintro e w1 ⟨⟨v1, l1, rfl, hr1, hs1, ht1, hv1, hn1⟩, hb1⟩
  go_wp2_with fail
  refine (HAY.out _).mono ?_
  rintro e w' ⟨rfl, rfl⟩
  go_wp2_with fail
  refine (HLY.out _).mono ?_
  rintro e w2 ⟨⟨v2, l2, rfl, hr2, hs2, ht2, hv2, hn2⟩, hb2⟩
  have hr1' := hr1.mono hb2
  have HB := Lib.hid (hb1.trans (hb2.mono hb1.size))
  have h2l : 0 < l2.length := (top_pos ht2 hv2).2 (by have := HY0.out; omega)
  have HTM := Lib.hid (rover_any w2 v1 v2 l1 l2 hr1' hr2 hs1 hs2 ht2 h2l (by omega) (by omega))
  rw [hv1, hv2] at HTM
  have HL := Lib.hid (show l1.length ≤ 400 ∧ l2.length ≤ 400 by omega)
  clear hr1 hr2 hr1' hs1 hs2 ht1 ht2 hv1 hv2 hn1 hn2 hb1 hb2 h2l
  go_wp2_with fail
  refine HTM.out.mono ?_
  rintro e w3 ⟨⟨qv, rv, q, r, rfl, hqr, hrr, hqs, hrs, hqt, hrt, hqv, hrv, hql, hrl⟩, hb3⟩
  have HQN := Lib.hid (fun W (hW : Below w3.heap.size w3 W) => rsigned_any W (bx != b2) qv q (hqr.mono hW) hqs (by have := HL.out; omega) z (by rw [hqv, HSG.out.2.2]) (fun e => (top_pos hqt hqv).trans (HSG.out.1 e)) (fun e => by have := HSG.out.2.1 e; omega))
  have HRN := Lib.hid (fun W (hW : Below w3.heap.size w3 W) => rsigned_any W bx rv r (hrr.mono hW) hrs (by have := HL.out; omega) m (by rw [hrv, HSR.out.2.2]) (fun e => (top_pos hrt hrv).trans (HSR.out.1 e)) (fun e => by have := HSR.out.2.1 e; omega))
  unfold txt at HQN HRN
  rw [HTZ.out.1] at HQN
  rw [HTZ.out.2] at HRN
  have HB3 := Lib.hid (HB.out.trans (hb3.mono HB.out.size))
  clear hqr hrr hqs hrs hqt hrt hqv hrv hql hrl hb3
  go_wp2_with fail
  refine (HNX.out _).mono ?_
  rintro e w' ⟨rfl, rfl⟩
  go_wp2_with fail
  refine (HNY.out _).mono ?_
  rintro e w' ⟨rfl, rfl⟩
  go_wp2_with fail
  refine (HQN.out _ (Below.refl _ _)).mono ?_
  rintro e w4 ⟨rfl, hb4⟩
  have HB4 := Lib.hid hb4; clear hb4
  go_wp2_with fail
  refine (HNX.out _).mono ?_
  rintro e w' ⟨rfl, rfl⟩
  go_wp2_with fail
  refine (HRN.out _ HB4.out).mono ?_
  rintro e w5 ⟨rfl, hb5⟩
  go_wp2_with fail
  go_ret2
  exact ⟨rfl, HB3.out.trans ((HB4.out.trans (hb5.mono HB4.out.size)).mono HB3.out.size)⟩
theorem rQuo_any (x y : Int) (hx : V400 x) (hy : V400 y) (hy0 : y ≠ 0) (w : World) :
    Calls Tryz.prog 44 #[txt x, txt y] w fun e w' => e = .returned (.tuple #[txt (x.tdiv y), txt (x.tmod y)]) ∧ Below w.heap.size w w' := by
  by_cases h : x.natAbs < 1000000000 ∧ y.natAbs < 1000000000
  · exact rQuo_small x y h hy0 w
  · exact rQuo_big x y hx hy hy0 h w
end Go.Proofs.YteaeloeebfdodaaGreatDoor

/- WALKS: the reference's Floor. -/
namespace Go.Proofs.YteaeloeebfdodaaGreatDoor
open Go.RowKit Go.Proofs.Rf
theorem decI_inj0 {x y : Int} (h : Wh.decI x = Wh.decI y) : x = y := by
  have hn : ∀ {a b : Nat}, Wh.decN a = Wh.decN b → a = b := fun {a b} e => by rw [← Wh.numOf_decN a, e, Wh.numOf_decN]
  by_cases hx : x < 0
  · by_cases hy : y < 0
    · rw [decI_neg hx, decI_neg hy] at h
      injection h with _ h
      have := hn h; omega
    · rw [decI_neg hx, decI_pos hy] at h
      have := Wh.decN_digits y.natAbs 45 (by rw [← h]; simp)
      exact absurd this.1 (by decide)
  · by_cases hy : y < 0
    · rw [decI_pos hx, decI_neg hy] at h
      have := Wh.decN_digits x.natAbs 45 (by rw [h]; simp)
      exact absurd this.1 (by decide)
    · rw [decI_pos hx, decI_pos hy] at h
      have := hn h; omega
theorem txt_is0 (x : Int) : ((str (Wh.decI x)).toList == [48]) = decide (x = 0) := by
  have h0 : Wh.decI 0 = [48] := by unfold Wh.decI; simp [Wh.decN_zero]
  rw [Lib.toList_data, str_data, ← h0]
  by_cases h : x = 0
  · rw [h]; simp
  · rw [decide_eq_false h, beq_eq_false_iff_ne]
    exact fun e => h (decI_inj0 e)
theorem decN_len_mono {a b : Nat} (h : a ≤ b) : (Wh.decN a).length ≤ (Wh.decN b).length :=
  Wh.decN_length_le (Wh.decN_length_pos b) (Nat.lt_of_le_of_lt h (Wh.lt_pow_decN b))
theorem sign_bool {r y : Int} (hr : r ≠ 0) (hy : y ≠ 0) : r.sign * y.sign = -1 ↔ (decide (r < 0) != decide (y < 0)) = true := by
  have hsm : (r < 0 ∧ r.sign = -1) ∨ (0 < r ∧ r.sign = 1) := by
    rcases Int.lt_trichotomy r 0 with h | h | h
    · exact .inl ⟨h, Int.sign_eq_neg_one_of_neg h⟩
    · exact absurd h hr
    · exact .inr ⟨h, Int.sign_eq_one_of_pos h⟩
  have hsy : (y < 0 ∧ y.sign = -1) ∨ (0 < y ∧ y.sign = 1) := by
    rcases Int.lt_trichotomy y 0 with h | h | h
    · exact .inl ⟨h, Int.sign_eq_neg_one_of_neg h⟩
    · exact absurd h hy
    · exact .inr ⟨h, Int.sign_eq_one_of_pos h⟩
  rcases hsm with ⟨h1, h2⟩ | ⟨h1, h2⟩ <;> rcases hsy with ⟨h3, h4⟩ | ⟨h3, h4⟩ <;> rw [h2, h4]
  · rw [decide_eq_true h1, decide_eq_true h3]; decide
  · rw [decide_eq_true h1, decide_eq_false (show ¬ y < 0 by omega)]; decide
  · rw [decide_eq_false (show ¬ r < 0 by omega), decide_eq_true h3]; decide
  · rw [decide_eq_false (show ¬ r < 0 by omega), decide_eq_false (show ¬ y < 0 by omega)]; decide
set_option maxRecDepth 100000 in
set_option maxHeartbeats 1000000 in
theorem rFloor_any (x y : Int) (hx : V400 x) (hy : V400 y) (hy0 : y ≠ 0) (w : World) :
    Calls Tryz.prog 30 #[txt x, txt y] w fun e w' => e = .returned (.tuple #[txt (x.fdiv y), txt (x.fmod y)]) ∧ Below w.heap.size w w' := by
  obtain ⟨f1, f2⟩ := Wh.floor_both x y hy0
  have HQ := Lib.hid (fun w => rQuo_any x y hx hy hy0 w)
  have hq4 : V400 (x.tdiv y) := Nat.le_trans (decN_len_mono (by rw [show (x.tdiv y).natAbs = x.natAbs / y.natAbs from Int.natAbs_tdiv ..]; exact Nat.div_le_self _ _)) hx
  have hr4 : V400 (x.tmod y) := Nat.le_trans (decN_len_mono (by rw [show (x.tmod y).natAbs = x.natAbs % y.natAbs from Int.natAbs_tmod ..]; exact Nat.mod_le _ _)) hx
  have HNR := Lib.hid (fun w => Neg_txt (x.tmod y) w)
  have HNY := Lib.hid (fun w => Neg_txt y w)
  have HMI := Lib.hid (fun w => rMinus_any (x.tdiv y) 1 hq4 (by unfold V400; rw [show Int.natAbs 1 = 1 from rfl, Wh.decN_small (by decide)]; decide) w)
  have HPL := Lib.hid (fun w => rPlus_any (x.tmod y) y hr4 hy w)
  have hz := txt_is0 (x.tmod y)
  generalize x.tdiv y = q at *
  generalize x.tmod y = r at *
  have h1t : txt (1 : Int) = .string ⟨#[49]⟩ := by
    have : Wh.decI 1 = [49] := by unfold Wh.decI; simp [Wh.decN_small]
    unfold txt; rw [this]; rfl
  rw [h1t] at HMI
  by_cases hr0 : r = 0
  · have hsg : ¬ r.sign * y.sign = -1 := by rw [hr0]; simp
    rw [if_neg hsg] at f1 f2
    rw [← f1, ← f2]
    rw [decide_eq_true hr0] at hz
    clear f1 f2 hq4 hr4 hx hy hsg
    unfold txt at *
    generalize str (Wh.decI x) = TX at *
    generalize str (Wh.decI y) = TY at *
    generalize str (Wh.decI q) = TQ at *
    generalize str (Wh.decI r) = TR at *
    go_enter Tryz.func30, Tryz.ntmps30
    go_wp2_with fail
    refine (HQ.out _).mono ?_
    rintro e w1 ⟨rfl, hb1⟩
    go_wp2_with fail
    go_ret2
    exact ⟨rfl, hb1⟩
  · rw [decide_eq_false hr0] at hz
    have hsb := sign_bool hr0 hy0
    by_cases hbb : (decide (r < 0) != decide (y < 0)) = true
    · rw [if_pos (hsb.2 hbb)] at f1 f2
      rw [← f1, ← f2]
      clear f1 f2 hq4 hr4 hx hy hsb
      generalize decide (r < 0) = br at *
      generalize decide (y < 0) = b2 at *
      unfold txt at *
      generalize str (Wh.decI x) = TX at *
      generalize str (Wh.decI y) = TY at *
      generalize str (Wh.decI q) = TQ at *
      generalize str (Wh.decI r) = TR at *
      generalize str (Wh.decI (q - 1)) = TQ1 at *
      generalize str (Wh.decI (r + y)) = TRY at *
      cases br <;> cases b2 <;> first | (exfalso; revert hbb; decide) | skip
      all_goals
        go_enter Tryz.func30, Tryz.ntmps30
        go_wp2_with fail
        refine (HQ.out _).mono ?_
        rintro e w1 ⟨rfl, hb1⟩
        go_wp2_with fail
        refine (HNR.out _).mono ?_
        rintro e w' ⟨rfl, rfl⟩
        go_wp2_with fail
        refine (HNY.out _).mono ?_
        rintro e w' ⟨rfl, rfl⟩
        go_wp2_with fail
        refine (HMI.out _).mono ?_
        rintro e w2 ⟨rfl, hb2⟩
        go_wp2_with fail
        refine (HPL.out _).mono ?_
        rintro e w3 ⟨rfl, hb3⟩
        have hb := hb1.trans ((hb2.trans (hb3.mono hb2.size)).mono hb1.size)
        go_wp2_with fail
        go_ret2
        exact ⟨rfl, hb⟩
    · rw [if_neg (fun e => hbb (hsb.1 e))] at f1 f2
      rw [← f1, ← f2]
      have hbb' : (decide (r < 0) != decide (y < 0)) = false := Bool.eq_false_iff.2 hbb
      clear f1 f2 hq4 hr4 hx hy hbb hsb
      generalize decide (r < 0) = br at *
      generalize decide (y < 0) = b2 at *
      unfold txt at *
      generalize str (Wh.decI x) = TX at *
      generalize str (Wh.decI y) = TY at *
      generalize str (Wh.decI q) = TQ at *
      generalize str (Wh.decI r) = TR at *
      cases br <;> cases b2 <;> first | (exfalso; revert hbb'; decide) | skip
      all_goals
        go_enter Tryz.func30, Tryz.ntmps30
        go_wp2_with fail
        refine (HQ.out _).mono ?_
        rintro e w1 ⟨rfl, hb1⟩
        go_wp2_with fail
        refine (HNR.out _).mono ?_
        rintro e w' ⟨rfl, rfl⟩
        go_wp2_with fail
        refine (HNY.out _).mono ?_
        rintro e w' ⟨rfl, rfl⟩
        go_wp2_with fail
        go_ret2
        exact ⟨rfl, hb1⟩
end Go.Proofs.YteaeloeebfdodaaGreatDoor
