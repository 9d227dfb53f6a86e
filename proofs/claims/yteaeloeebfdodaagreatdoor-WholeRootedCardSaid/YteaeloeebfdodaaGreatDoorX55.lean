/- Part 55 of the proofs that laws of package whole answer true at every input and leave the input as it was, where the library's variables start as the text lays them (the texts Y4). -/
import Derived.Test.YteaeloeebfdodaaGreatDoorX54
import Derived.Test.YteaeloeebfdodaaGreatDoorX41
import Derived.Test.YteaeloeebfdodaaGreatDoorX32
import Derived.Test.YteaeloeebfdodaaGreatDoorX11
import Derived.Test.YteaeloeebfdodaaGreatDoorX44
set_option linter.unusedVariables false
set_option linter.unusedSimpArgs false
/- WALKS, the law WholeRooted. -/
namespace Go.Proofs.YteaeloeebfdodaaGreatDoor
open Go.RowKit
theorem Root_zero (w : World) (n : Nat) (hn : 1 ≤ n ∧ n ≤ 20) (htab : Tab w) :
    Calls Tryz.prog 36 #[txt 0, .int .i64 n] w fun e w' => e = .returned (.tuple #[txt 0, .int .i64 0]) ∧ Below w.heap.size w w' := by
  refine Root_any w 0 n 0 (valid9 _ (by decide)) (by decide) hn (fun w xa xc hs ht => ?_) (valid9 _ (by decide)) htab
  have h0 : ((0 : Int).sign == 0) = true := by decide
  have HS := Lib.hid hs; clear hs
  go_enter Tryz.func117, Tryz.ntmps117
  go_wp2_with fail
  refine wp_scope_straight ?_
  go_wp2_with fail
  dsimp only [Exit.noGoto]
  have hal : Below w.heap.size w ((w.alloc (Obj.cells #[Value.int IntKind.i64 0, Value.slice xa (Wh.limbs 0).length xc] 83)).alloc (Obj.cells #[Value.int IntKind.i64 0, Value.slice xa (Wh.limbs 0).length xc] 83)) := ((Below.refl _ _).alloc (Nat.le_refl _) _).alloc (by simp) _
  exact bodyPost_ret (v := .agg #[.int .i64 0, .slice xa (Wh.limbs 0).length xc]) (by simp [results, Tryz.results117, go_sem]) rfl ⟨⟨_, rfl, ⟨_, rfl, HS.out.mono hal⟩⟩, hal⟩
theorem pow_up {a : Int} (h : 1 ≤ a) {i n : Nat} (hi : i ≤ n) : a ^ i ≤ a ^ n := by
  obtain ⟨d, rfl⟩ : ∃ d, n = i + d := ⟨n - i, by omega⟩
  rw [Int.pow_add]
  have h1 : 1 ^ d ≤ a ^ d := int_pow_mono (by decide) h d
  rw [Int.one_pow] at h1
  have h2 : 0 ≤ a ^ i := Int.pow_nonneg (by omega)
  have := Int.mul_le_mul_of_nonneg_left h1 h2
  omega
theorem root_bd {r x : Int} {n i : Nat} (hr : 0 ≤ r) (hx0 : 0 ≤ x) (hx : Bd 30 x) (hle : r ^ n ≤ x) (hn : 1 ≤ n ∧ n ≤ 20) (hi : i ≤ n) : Bd 31 (r ^ i) ∧ Bd 40 ((r + 1) ^ i) ∧ Bd 31 r := by
  unfold Bd at *
  rcases Int.lt_or_le r 1 with h | h
  · obtain rfl : r = 0 := by omega
    refine ⟨?_, ?_, by decide⟩
    · rcases Nat.eq_zero_or_pos i with h0 | h0
      · subst h0; decide
      · rw [Int.zero_pow (by omega)]; decide
    · rw [show (0 : Int) + 1 = 1 from rfl, Int.one_pow]; decide
  · have h1 : r ^ i ≤ r ^ n := pow_up h hi
    have h2 : (r + 1) ^ i ≤ (r + 1) ^ n := pow_up (by omega) hi
    have h3 : (r + 1) ^ n ≤ (2 * r) ^ n := int_pow_mono (by omega) (by omega) n
    have h4 : (2 * r) ^ n = 2 ^ n * r ^ n := Int.mul_pow ..
    have h5 : (2 : Int) ^ n ≤ 2 ^ 20 := pow_up (by decide) hn.2
    have h6 : (2 : Int) ^ n * r ^ n ≤ 2 ^ 20 * x := Int.mul_le_mul h5 hle (Int.pow_nonneg (by omega)) (by decide)
    have h7 := le_self_pow h hn.1
    have h8 : 0 ≤ r ^ i := Int.pow_nonneg (by omega)
    have h9 : 0 ≤ (r + 1) ^ i := Int.pow_nonneg (by omega)
    have e1 : (10 : Nat) ^ 31 = 10 * 10 ^ 30 := by decide
    have e2 : (10 : Nat) ^ 40 = 10000000000 * 10 ^ 30 := by decide
    rw [e1, e2]
    rw [show (2 : Int) ^ 20 = 1048576 by decide] at h6
    generalize (10 : Nat) ^ 30 = T at *
    generalize r ^ n = A at *
    generalize r ^ i = B at *
    generalize (r + 1) ^ i = C at *
    generalize (r + 1) ^ n = D at *
    generalize (2 * r) ^ n = E at *
    generalize (2 : Int) ^ n * A = F at *
    refine ⟨by omega, by omega, by omega⟩
theorem cells4 (w : World) (z : Int) (t : TypeId) (hz : 1 ≤ z ∧ z ≤ 20) : ∀ i, i < 4 → ∃ u, (w.alloc (Obj.cells #[Value.int IntKind.i64 1, Value.int IntKind.i64 2, Value.int IntKind.i64 3, Value.int IntKind.i64 z] t)).cell? ⟨w.heap.size, i, none⟩ = some (.int .i64 u) ∧ 1 ≤ u ∧ u ≤ 20 := by
  intro i hi
  obtain rfl | rfl | rfl | rfl : i = 0 ∨ i = 1 ∨ i = 2 ∨ i = 3 := by omega
  · exact ⟨1, by go_simp, by omega⟩
  · exact ⟨2, by go_simp, by omega⟩
  · exact ⟨3, by go_simp, by omega⟩
  · exact ⟨z, by go_simp, hz⟩
set_option maxRecDepth 100000 in
set_option maxHeartbeats 4000000 in
theorem rooted_true (w : World) (a : Option Addr) (n c : Nat) (h : Nums w a n) (ht : Tab w) :
    Calls Tryz.prog 7 #[.slice a n c] w fun e w' => e = .returned (.bool true) ∧ Below w.heap.size w w' := by
  have HN := Lib.hid h; clear h
  have HT := Lib.hid ht; clear ht
  go_enter Tryz.func7, Tryz.ntmps7
  go_wp2_with fail
  refine (NewRod_any _ _ _ _ HN.out).mono ?_
  rintro e w1 ⟨rfl, hR, hB1⟩
  have HR := Lib.hid hR; clear hR
  have HB1 := Lib.hid hB1; clear hB1
  go_wp2_with fail
  refine (Whole_any _ _ a n c _ 30 HR.out (by omega) (Nat.le_refl _)).mono ?_
  rintro e w2 ⟨⟨z, rfl, hz⟩, hO, k1, hk1, hR⟩
  have HB2 := Lib.hid (HB1.out.trans (hO.below (Nat.le_refl _) HB1.out.size))
  clear HR HB1 hO HN
  have HR := Lib.hid hR; clear hR
  go_wp2_with fail
  refine (Abs_txt z w2).mono ?_
  rintro e w' ⟨rfl, rfl⟩
  obtain ⟨x, hx⟩ : ∃ x : Int, ((z.natAbs : Nat) : Int) = x := ⟨_, rfl⟩
  have hx0 : 0 ≤ x := by omega
  have hxb : Bd 30 x := Nat.lt_of_le_of_lt (show x.natAbs ≤ z.natAbs by omega) hz
  rw [← txt_pos, hx]
  clear hx hz
  have HX := Lib.hid (And.intro hx0 hxb); clear hx0 hxb
  go_wp2_with fail
  refine (From_any _ _ _ _ _ _ _ _ HR.out (by omega) (by omega)).mono ?_
  rintro e w3 ⟨⟨u, rfl, hu⟩, hR, hO⟩
  have HB3 := Lib.hid (HB2.out.trans (hO.below (Nat.le_refl _) HB2.out.size))
  clear hO HB2 HR
  have HR := Lib.hid hR; clear hR
  have hb1 : Below w3.heap.size w3 (w3.alloc (Obj.cells #[Value.int IntKind.i64 1, Value.int IntKind.i64 2, Value.int IntKind.i64 3, Value.int IntKind.i64 u] 3)) := (Below.refl _ _).alloc (Nat.le_refl _) _
  have HP := Lib.hid (Pick_any _ _ a n c _ w3.heap.size 4 (HR.out.mono hb1) (by omega) (by omega) (fun z => 1 ≤ z ∧ z ≤ 20) ⟨by have := HR.out.lt; omega, by simp⟩ (cells4 w3 u 3 hu))
  have HB4 := Lib.hid (HB3.out.trans (hb1.mono HB3.out.size))
  clear hb1 hu HB3 HR
  go_wp2_with fail
  refine HP.out.mono ?_
  rintro e w4 ⟨⟨m, rfl, hm⟩, hR, hO⟩
  obtain ⟨p, hp, rfl⟩ : ∃ p : Nat, (1 ≤ p ∧ p ≤ 20) ∧ m = (p : Int) := ⟨m.toNat, by omega, by omega⟩
  have HB5 := Lib.hid (HB4.out.trans (hO.below (Nat.le_refl _) HB4.out.size))
  clear hO hm HB4 hR HP
  have hroot : ∃ r : Int, 0 ≤ r ∧ r ^ p ≤ x ∧ x < (r + 1) ^ p ∧ ∀ w, Tab w → Calls Tryz.prog 36 #[txt x, .int .i64 p] w fun e w' => e = .returned (.tuple #[txt r, .int .i64 0]) ∧ Below w.heap.size w w' := by
    by_cases h0 : x = 0
    · subst h0
      exact ⟨0, by decide, by rw [Int.zero_pow (by omega)]; decide, by rw [show (0 : Int) + 1 = 1 from rfl, Int.one_pow]; decide, fun w ht => Root_zero w p hp ht⟩
    · obtain ⟨r, h1, h2, h3, h4⟩ := root_is x p (by have := HX.out.1; omega) hp.1
      exact ⟨r, by omega, h3, h4, fun w ht => Root_pos w x p HX.out.2 (by have := HX.out.1; omega) hp r h1 h3 h4 ht⟩
  obtain ⟨r, hr0, hr1, hr2, hC⟩ := hroot
  have HC := Lib.hid hC; clear hC
  have hbd := fun i hi => root_bd (i := i) hr0 HX.out.1 HX.out.2 hr1 hp hi
  have b0 : Bd 31 r := (hbd 0 (by omega)).2.2
  have I1 := Lib.hid (fun w => isForm_txt r (b0.v400 (by decide) (by decide)) w)
  have N1 := Lib.hid (fun w => Neg_txt r w)
  rw [decide_eq_false (show ¬ r < 0 by omega)] at N1
  have hlen : ((str (Wh.decI r)).size) ≤ 31 := by
    rw [decI_size, if_neg (by omega)]
    exact Nat.le_trans (Nat.le_of_eq (by simp)) (Wh.decN_length_le (k := 31) (by decide) b0)
  have TL := Lib.hid (fun i (hi : i < p) w => rTimes_any (r ^ i) r ((hbd i (by omega)).1.v400 (by decide) (by decide)) (b0.v400 (by decide) (by decide)) w)
  have h1t : txt (1 : Int) = .string ⟨#[49]⟩ := by
    have : Wh.decI 1 = [49] := by unfold Wh.decI; simp [Wh.decN_small]
    unfold txt; rw [this]; rfl
  have PL := Lib.hid (fun w => rPlus_any r 1 (b0.v400 (by decide) (by decide)) (Bd.v400 (k := 9) (show (1 : Int).natAbs < 1000000000 by decide) (by decide) (by decide)) w)
  have br1 : Bd 32 (r + 1) := b0.add (Bd.mono (j := 1) (show (1 : Int).natAbs < 10 by decide) (by decide))
  have TH := Lib.hid (fun i (hi : i < p) w => rTimes_any ((r + 1) ^ i) (r + 1) ((hbd i (by omega)).2.1.v400 (by decide) (by decide)) (br1.v400 (by decide) (by decide)) w)
  have CL := Lib.hid (fun w => rCmp_any (r ^ p) x ((hbd p (Nat.le_refl _)).1.v400 (by decide) (by decide)) (HX.out.2.v400 (by decide) (by decide)) w)
  have CH := Lib.hid (fun w => rCmp_any x ((r + 1) ^ p) (HX.out.2.v400 (by decide) (by decide)) ((hbd p (Nat.le_refl _)).2.1.v400 (by decide) (by decide)) w)
  rw [cmpI_lt hr2] at CH
  have hcl : decide (cmpI (r ^ p) x ≤ 0) = true := by
    rw [decide_eq_true_iff]
    unfold cmpI
    split
    · decide
    · split <;> omega
  generalize cmpI (r ^ p) x = cl at *
  rw [h1t] at PL
  have H1T := Lib.hid h1t
  clear hbd b0 br1 hr0 hr1 hr2 h1t HX
  unfold txt at HC I1 N1 PL
  generalize hTX : str (Wh.decI x) = TX at *
  generalize hTR : str (Wh.decI r) = TR at *
  generalize hTR1 : str (Wh.decI (r + 1)) = TR1 at *
  have hx1 : txt x = .string TX := by unfold txt; rw [hTX]
  have hx2 : txt r = .string TR := by unfold txt; rw [hTR]
  have hx3 : txt (r + 1) = .string TR1 := by unfold txt; rw [hTR1]
  rw [hx1] at CL CH ⊢
  rw [hx2] at TL
  rw [hx3] at TH
  clear hTX hTR hTR1 hx1 hx2 hx3
  go_wp2_with fail
  refine (HC.out _ (HT.out.mono HB5.out)).mono ?_
  rintro e w5 ⟨rfl, hb⟩
  have HB6 := Lib.hid (HB5.out.trans (hb.mono HB5.out.size)); clear hb HB5
  go_wp2_with fail
  refine (I1.out _).mono ?_
  rintro e w' ⟨rfl, rfl⟩
  go_wp2_with fail
  refine (N1.out _).mono ?_
  rintro e w' ⟨rfl, rfl⟩
  have hd40 : decide ((40 : Int) < ((TR.size : Nat) : Int)) = false := by rw [decide_eq_false_iff_not]; omega
  have hp' : p ≤ 20 := hp.2
  go_wp2_with fail
  go_loopw [8, 9, 10] (fun lv hv iv wr => ∃ i : Nat, i ≤ p ∧ lv = txt (r ^ i) ∧ hv = txt ((r + 1) ^ i) ∧ iv = .int .i64 (i : Int) ∧ Hid (Below w.heap.size w wr)) (fun _ _ iv _ => p - (intOf iv).toNat)
  case atStart => exact ⟨0, Nat.zero_le _, by rw [Int.pow_zero, H1T.out], by rw [Int.pow_zero, H1T.out], rfl, HB6⟩
  case round =>
    obtain ⟨i, hi, rfl, rfl, rfl, HI⟩ := hrel
    by_cases hip : i < p
    · have hd : decide ((i : Int) < (p : Int)) = true := by rw [decide_eq_true_iff]; omega
      have C1 := Lib.hid (TL.out i hip)
      have C2 := Lib.hid (TH.out i hip)
      rw [← Int.pow_succ] at C1 C2
      unfold txt at C1 C2 ⊢
      generalize hA : str (Wh.decI (r ^ i)) = TA at *
      generalize hB : str (Wh.decI ((r + 1) ^ i)) = TB at *
      generalize hA1 : str (Wh.decI (r ^ (i + 1))) = TA1 at *
      generalize hB1 : str (Wh.decI ((r + 1) ^ (i + 1))) = TB1 at *
      have HE := Lib.hid (And.intro hA1 hB1); clear hA hB hA1 hB1
      go_wp2_with fail
      refine (C1.out _).mono ?_
      rintro e w6 ⟨rfl, hb⟩
      have HI1 := Lib.hid (HI.out.trans (hb.mono HI.out.size)); clear hb
      go_wp2_with fail
      refine (PL.out _).mono ?_
      rintro e w7 ⟨rfl, hb⟩
      have HI2 := Lib.hid (HI1.out.trans (hb.mono HI1.out.size)); clear hb
      go_wp2_with fail
      refine (C2.out _).mono ?_
      rintro e w8 ⟨rfl, hb⟩
      have HI3 := Lib.hid (HI2.out.trans (hb.mono HI2.out.size)); clear hb
      go_wp2_with fail
      exact ⟨⟨i + 1, by omega, congrArg Value.string HE.out.1.symm, congrArg Value.string HE.out.2.symm, by simp, HI3⟩, by simp [intOf]; omega⟩
    · obtain rfl : i = p := by omega
      have hd : decide ((i : Int) < (i : Int)) = false := by rw [decide_eq_false_iff_not]; omega
      unfold txt at CL CH ⊢
      generalize str (Wh.decI (r ^ i)) = TA at *
      generalize str (Wh.decI ((r + 1) ^ i)) = TB at *
      go_wp2_with fail
      refine (CL.out _).mono ?_
      rintro e w6 ⟨rfl, hb⟩
      have HI1 := Lib.hid (HI.out.trans (hb.mono HI.out.size)); clear hb
      go_wp2_with fail
      refine (CH.out _).mono ?_
      rintro e w7 ⟨rfl, hb⟩
      have HI2 := Lib.hid (HI1.out.trans (hb.mono HI1.out.size)); clear hb
      go_wp2_with fail
      refine (counted_holds _ (HT.out.mono HI2.out)).mono ?_
      rintro e wz ⟨rfl, hb⟩
      go_wp2_with fail
      go_ret
      exact ⟨rfl, HI2.out.trans (hb.mono HI2.out.size)⟩
end Go.Proofs.YteaeloeebfdodaaGreatDoor
