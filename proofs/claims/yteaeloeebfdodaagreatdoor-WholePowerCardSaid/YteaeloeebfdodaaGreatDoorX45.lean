/- Part 45 of the proofs that laws of package whole answer true at every input and leave the input as it was, where the library's variables start as the text lays them (the texts Y3). -/
import Derived.Test.YteaeloeebfdodaaGreatDoorX34
import Derived.Test.YteaeloeebfdodaaGreatDoorX42
import Derived.Test.YteaeloeebfdodaaGreatDoorX43
import Derived.Test.YteaeloeebfdodaaGreatDoorX31
import Derived.Test.YteaeloeebfdodaaGreatDoorX44
set_option linter.unusedVariables false
set_option linter.unusedSimpArgs false
/- WALKS, the law WholePower. -/
namespace Go.Proofs.YteaeloeebfdodaaGreatDoor
open Go.RowKit
theorem Bd.pow {k : Nat} {x : Int} (h : Bd k x) (n : Nat) : Bd (k * n + 1) (x ^ n) := by
  unfold Bd at *
  rw [Int.natAbs_pow, Nat.pow_succ, Nat.pow_mul]
  have h1 : x.natAbs ^ n ≤ (10 ^ k) ^ n := Nat.pow_le_pow_left (Nat.le_of_lt h) n
  have h2 : 0 < (10 ^ k) ^ n := Nat.pow_pos (Nat.pow_pos (by decide))
  omega
theorem Bd.limbs {k : Nat} {x : Int} (h : Bd k x) (hk : 0 < k) {j : Nat} (hj : k ≤ 9 * j) : (Wh.limbs x.natAbs).length ≤ j :=
  Wh.limbs_length_of_dec (Nat.le_trans (Wh.decN_length_le hk h) hj)
theorem powFit_of {x : Int} (h : Bd 6 x) {n : Nat} (hn : n ≤ 50) : PowFit x n :=
  ⟨fun k hk => Nat.le_trans ((h.pow k).limbs (by omega) (j := 50) (by omega)) (by decide), fun k hk => Nat.lt_of_le_of_lt ((h.pow k).limbs (by omega) (j := 18) (by omega)) (by decide)⟩
set_option maxRecDepth 100000 in
set_option maxHeartbeats 4000000 in
theorem power_true (w : World) (a : Option Addr) (n c : Nat) (h : Nums w a n) (ht : Tab w) :
    Calls Tryz.prog 4 #[.slice a n c] w fun e w' => e = .returned (.bool true) ∧ Below w.heap.size w w' := by
  have HN := Lib.hid h; clear h
  have HT := Lib.hid ht; clear ht
  go_enter Tryz.func4, Tryz.ntmps4
  go_wp2_with fail
  refine (NewRod_any _ _ _ _ HN.out).mono ?_
  rintro e w1 ⟨rfl, hR, hB1⟩
  have HR := Lib.hid hR; clear hR
  have HB1 := Lib.hid hB1; clear hB1
  go_wp2_with fail
  refine (Whole_bd _ _ a n c _ 6 HR.out (by omega) (by omega)).mono ?_
  rintro e w2 ⟨⟨x, rfl, hx⟩, hO, k1, hk1, hR⟩
  have HB2 := Lib.hid (HB1.out.trans (hO.below (Nat.le_refl _) HB1.out.size))
  clear HR HB1 hO HN
  have HR := Lib.hid hR; clear hR
  have HX := Lib.hid hx; clear hx
  go_wp2_with fail
  refine (Up_any _ _ _ _ _ _ _ HR.out (by omega) (by omega)).mono ?_
  rintro e w3 ⟨⟨m, rfl, hm⟩, hR, hO2⟩
  obtain ⟨p, hp, rfl⟩ : ∃ p : Nat, p ≤ 25 ∧ m = (p : Int) := ⟨m.toNat, by unfold UpTo at hm; omega, by unfold UpTo at hm; omega⟩
  have HB3 := Lib.hid (HB2.out.trans (hO2.below (Nat.le_refl _) HB2.out.size))
  clear hm hO2 HB2 HR
  have HR := Lib.hid hR; clear hR
  go_wp2_with fail
  refine (Up_any _ _ _ _ _ _ _ HR.out (by omega) (by omega)).mono ?_
  rintro e w4 ⟨⟨m, rfl, hm⟩, hR, hO2⟩
  obtain ⟨q, hq, rfl⟩ : ∃ q : Nat, q ≤ 25 ∧ m = (q : Int) := ⟨m.toNat, by unfold UpTo at hm; omega, by unfold UpTo at hm; omega⟩
  have HB4 := Lib.hid (HB3.out.trans (hO2.below (Nat.le_refl _) HB3.out.size))
  clear hm hO2 HB3 HR
  have HR := Lib.hid hR; clear hR
  have bx : Bd 6 x := HX.out
  have hd6 : (Wh.decN x.natAbs).length ≤ 6 := Wh.decN_length_le (by decide) HX.out
  have hd1 : 1 ≤ (Wh.decN x.natAbs).length := Wh.decN_length_pos _
  have hmul : ∀ j : Nat, j ≤ 50 → (((Wh.decN x.natAbs).length : Int) - 1) * (j : Int) < 400 ∧ 0 ≤ (((Wh.decN x.natAbs).length : Int) - 1) * (j : Int) := fun j hj => by
    have e : (((Wh.decN x.natAbs).length : Int) - 1) = (((Wh.decN x.natAbs).length - 1 : Nat) : Int) := by omega
    rw [e]
    have : ((Wh.decN x.natAbs).length - 1) * j ≤ 5 * 50 := Nat.mul_le_mul (by omega) hj
    rw [← Int.natCast_mul]
    omega
  have hpw : ∀ j : Nat, j ≤ 50 → ∀ w, Tab w → Calls Tryz.prog 25 #[txt x, .int .i64 (j : Int)] w fun e w' => e = .returned (.tuple #[txt (x ^ j), .int .i64 0]) ∧ Below w.heap.size w w' := fun j hj w ht =>
    PowW_any w x j (bx.valid (by decide) (by decide)) (by omega) (hmul j hj).1 (hmul j hj).2 (powFit_of bx hj) ((bx.pow j).valid (by omega) (by omega)) ht
  have C1 := Lib.hid (hpw p (by omega))
  have C2 := Lib.hid (hpw q (by omega))
  have C3 := Lib.hid (hpw (p + q) (by omega))
  rw [Int.natCast_add] at C3
  have I1 := Lib.hid (fun w => isForm_txt (x ^ p) ((bx.pow p).v400 (by omega) (by omega)) w)
  have I2 := Lib.hid (fun w => isForm_txt (x ^ q) ((bx.pow q).v400 (by omega) (by omega)) w)
  have T1 := Lib.hid (fun w => rTimes_any (x ^ p) (x ^ q) ((bx.pow p).v400 (by omega) (by omega)) ((bx.pow q).v400 (by omega) (by omega)) w)
  rw [← Int.pow_add] at T1
  have PM := Lib.hid (fun w (m : Int) (hm : 0 < m ∧ m < 1000000000) (ht : Tab w) => PowMod_any w x (p : Int) m (bx.valid (by decide) (by decide)) (Bd.valid (k := 2) (show ((p : Int)).natAbs < 100 by omega) (by decide) (by decide)) (Bd.valid (k := 9) (show m.natAbs < 1000000000 by omega) (by decide) (by decide)) (bx.mono (by decide)).fit (by omega) hm (Bd.valid (k := 9) (show _ < 1000000000 by have := Wh.fmod_natAbs_lt (x ^ (p : Int).natAbs) m hm.1; omega) (by decide) (by decide)) ht)
  rw [Int.natAbs_natCast, txt_pos] at PM
  have FL := Lib.hid (fun w (m : Int) (hm : 0 < m ∧ m < 1000000000) => rFloor_any (x ^ p) m ((bx.pow p).v400 (by omega) (by omega)) (Bd.v400 (k := 9) (show m.natAbs < 1000000000 by omega) (by decide) (by decide)) (by omega) w)
  have D1 := Lib.hid (Decimal_any p (by omega))
  clear hpw hmul hd6 hd1 bx
  unfold txt at C1 C2 C3 I1 I2 T1 PM FL ⊢
  generalize str (Wh.decI x) = TX at *
  generalize hXP : str (Wh.decI (x ^ p)) = TXP at *
  generalize str (Wh.decI (x ^ q)) = TXQ at *
  generalize str (Wh.decI (x ^ (p + q))) = TXS at *
  generalize str (Wh.decN p) = TP at *
  clear hXP
  go_wp2_with fail
  refine (C1.out _ (HT.out.mono HB4.out)).mono ?_
  rintro e w5 ⟨rfl, hb⟩
  have HB5 := Lib.hid (HB4.out.trans (hb.mono HB4.out.size))
  have HR5 := Lib.hid (HR.out.mono hb); clear hb HR
  go_wp2_with fail
  refine (C2.out _ (HT.out.mono HB5.out)).mono ?_
  rintro e w6 ⟨rfl, hb⟩
  have HB6 := Lib.hid (HB5.out.trans (hb.mono HB5.out.size))
  have HR6 := Lib.hid (HR5.out.mono hb); clear hb HR5
  go_wp2_with fail
  refine (C3.out _ (HT.out.mono HB6.out)).mono ?_
  rintro e w7 ⟨rfl, hb⟩
  have HB7 := Lib.hid (HB6.out.trans (hb.mono HB6.out.size))
  have HR7 := Lib.hid (HR6.out.mono hb); clear hb HR6
  go_wp2_with fail
  refine (I1.out _).mono ?_
  rintro e w' ⟨rfl, rfl⟩
  go_wp2_with fail
  refine (I2.out _).mono ?_
  rintro e w' ⟨rfl, rfl⟩
  go_wp2_with fail
  refine (T1.out _).mono ?_
  rintro e w8 ⟨rfl, hb⟩
  have HB8 := Lib.hid (HB7.out.trans (hb.mono HB7.out.size))
  have HR8 := Lib.hid (HR7.out.mono hb); clear hb HR7
  go_wp2_with fail
  refine (Whole_bd _ _ a n c _ 8 HR8.out (by omega) (by omega)).mono ?_
  rintro e w9 ⟨⟨z, rfl, hz⟩, hO, -⟩
  have HB9 := Lib.hid (HB8.out.trans (hO.below (Nat.le_refl _) HB8.out.size))
  clear hO HR8
  obtain ⟨m, hm⟩ : ∃ m : Int, ((z.natAbs : Nat) : Int) + 1 = m := ⟨_, rfl⟩
  have hm0 : 0 < m ∧ m < 1000000000 := by omega
  have A1 := Lib.hid (fun w => Abs_txt z w)
  have P1 := Lib.hid (fun w => rPlus_any ((z.natAbs : Nat) : Int) 1 (Bd.v400 (k := 9) (show _ < 1000000000 by omega) (by decide) (by decide)) (Bd.v400 (k := 9) (show (1 : Int).natAbs < 1000000000 by decide) (by decide) (by decide)) w)
  rw [hm, txt_pos] at P1
  have h1t : txt (1 : Int) = .string ⟨#[49]⟩ := by
    have : Wh.decI 1 = [49] := by unfold Wh.decI; simp [Wh.decN_small]
    unfold txt; rw [this]; rfl
  rw [h1t] at P1
  have C4 := Lib.hid (fun w ht => PM.out w m hm0 ht)
  have F4 := Lib.hid (fun w => FL.out w m hm0)
  clear PM FL hm hm0 h1t hz
  unfold txt at A1 P1 C4 F4 ⊢
  generalize str (Wh.decI z) = TZ at *
  generalize str (Wh.decI m) = TM at *
  generalize str (Wh.decN z.natAbs) = TAZ at *
  generalize str (Wh.decI ((x ^ p).fmod m)) = TRM at *
  generalize str (Wh.decI ((x ^ p).fdiv m)) = TDV at *
  go_wp2_with fail
  refine (A1.out _).mono ?_
  rintro e w' ⟨rfl, rfl⟩
  go_wp2_with fail
  refine (P1.out _).mono ?_
  rintro e w10 ⟨rfl, hb⟩
  have HB10 := Lib.hid (HB9.out.trans (hb.mono HB9.out.size)); clear hb
  go_wp2_with fail
  refine (D1.out _).mono ?_
  rintro e w11 ⟨rfl, hb⟩
  have HB11 := Lib.hid (HB10.out.trans (hb.mono HB10.out.size)); clear hb
  go_wp2_with fail
  refine (C4.out _ (HT.out.mono HB11.out)).mono ?_
  rintro e w12 ⟨rfl, hb⟩
  have HB12 := Lib.hid (HB11.out.trans (hb.mono HB11.out.size)); clear hb
  go_wp2_with fail
  refine (F4.out _).mono ?_
  rintro e w13 ⟨rfl, hb⟩
  have HB13 := Lib.hid (HB12.out.trans (hb.mono HB12.out.size)); clear hb
  go_wp2_with fail
  refine (counted_holds _ (HT.out.mono HB13.out)).mono ?_
  rintro e wz ⟨rfl, hb⟩
  go_wp2_with fail
  go_ret
  exact ⟨rfl, HB13.out.trans (hb.mono HB13.out.size)⟩
end Go.Proofs.YteaeloeebfdodaaGreatDoor
