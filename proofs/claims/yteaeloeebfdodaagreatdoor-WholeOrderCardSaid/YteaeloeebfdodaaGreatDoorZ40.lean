/- Part 40 of the proofs that laws of package whole answer true at every input and leave the input as it was, where the library's variables start as the text lays them (the texts Y1). -/
import Derived.Test.YteaeloeebfdodaaGreatDoorZ39
import Derived.Test.YteaeloeebfdodaaGreatDoorZ32
set_option linter.unusedVariables false
set_option linter.unusedSimpArgs false
/- WALKS, the law WholeOrder. -/
namespace Go.Proofs.YteaeloeebfdodaaGreatDoor
open Go.RowKit
theorem Bd.v400 {k : Nat} {x : Int} (h : Bd k x) (hk : 0 < k) (hk4 : k ≤ 400) : V400 x := Nat.le_trans (Wh.decN_length_le hk h) hk4
theorem cmp_as (x y s : Int) (hs : cmpI x y = s) (hx : Bd 63 x) (hy : Bd 63 y) (w : World) : Calls Tryz.prog 16 #[txt x, txt y] w fun e w' => e = .returned (.tuple #[.int .i64 s, .int .i64 0]) ∧ Below w.heap.size w w' := by
  subst hs
  exact Compare_any w x y (hx.valid (by decide) (by decide)) (hy.valid (by decide) (by decide)) hx.fit
theorem v400_one : V400 1 := by
  show (Wh.decN 1).length ≤ 400
  rw [Wh.decN_small (by decide)]
  decide
theorem cmpI_add (x y z : Int) : cmpI (x + z) (y + z) = cmpI x y := by
  unfold cmpI
  split <;> split <;> (try split) <;> (try split) <;> omega
theorem cmpI_mul (x y u : Int) (hu : 0 < u) : cmpI (x * u) (y * u) = cmpI x y := by
  unfold cmpI
  rcases Int.lt_trichotomy x y with h | h | h
  · have := Int.mul_lt_mul_of_pos_right h hu
    rw [if_pos this, if_pos h]
  · subst h; simp
  · have := Int.mul_lt_mul_of_pos_right h hu
    rw [if_neg (by omega), if_pos this, if_neg (by omega), if_pos h]
theorem cmpI_le (x y : Int) : cmpI x y ≤ 0 ↔ x ≤ y := by
  unfold cmpI
  split
  · constructor <;> intro _ <;> omega
  · split <;> constructor <;> intro _ <;> omega
theorem cmpI_ge (x y : Int) : 0 ≤ cmpI x y ↔ y ≤ x := by
  unfold cmpI
  split
  · constructor <;> intro _ <;> omega
  · split <;> constructor <;> intro _ <;> omega
theorem cmpI_zero (x y : Int) : cmpI x y = 0 ↔ x = y := by
  unfold cmpI
  split <;> (try split) <;> omega
theorem decI_inj {x y : Int} (h : Wh.decI x = Wh.decI y) : x = y := by
  have hn : ∀ {a b : Nat}, Wh.decN a = Wh.decN b → a = b := fun {a b} e => by rw [← Wh.numOf_decN a, e, Wh.numOf_decN]
  by_cases hx : x < 0
  · by_cases hy : y < 0
    · rw [decI_neg hx, decI_neg hy] at h
      injection h with _ h
      have := hn h; omega
    · rw [decI_neg hx, decI_pos hy] at h
      have := Wh.decN_digits y.natAbs 45 (by rw [← h]; simp)
      exact absurd this.1 (by decide)
  · by_cases hy : y < 0
    · rw [decI_pos hx, decI_neg hy] at h
      have := Wh.decN_digits x.natAbs 45 (by rw [h]; simp)
      exact absurd this.1 (by decide)
    · rw [decI_pos hx, decI_pos hy] at h
      have := hn h; omega
theorem txt_one : (txt 1 : Value) = .string ⟨#[49]⟩ := by
  unfold txt
  have : Wh.decI 1 = [49] := by unfold Wh.decI; simp [Wh.decN_small (show 1 < 10 by decide)]
  rw [this]; rfl
set_option maxRecDepth 100000 in
set_option maxHeartbeats 8000000 in
theorem order_true (w : World) (a : Option Addr) (n c : Nat) (h : Nums w a n) (ht : Tab w) :
    Calls Tryz.prog 3 #[.slice a n c] w fun e w' => e = .returned (.bool true) ∧ Below w.heap.size w w' := by
  have HN := Lib.hid h; clear h
  have HT := Lib.hid ht; clear ht
  go_enter Tryz.func3, Tryz.ntmps3
  go_wp2_with fail
  refine (three_any _ _ _ _ HN.out).mono ?_
  rintro e w1 ⟨⟨x, y, z, rfl, hx, hy, hz⟩, hB⟩
  have hx : Bd 30 x := hx
  have hy : Bd 30 y := hy
  have hz : Bd 30 z := hz
  obtain ⟨p, hp⟩ : ∃ s, cmpI x y = s := ⟨_, rfl⟩
  obtain ⟨p', hp'⟩ : ∃ s, cmpI y x = s := ⟨_, rfl⟩
  obtain ⟨q, hq⟩ : ∃ s, cmpI y z = s := ⟨_, rfl⟩
  obtain ⟨r, hr⟩ : ∃ s, cmpI x z = s := ⟨_, rfl⟩
  have C1 := Lib.hid (fun w => cmp_as x y p hp (hx.mono (by decide)) (hy.mono (by decide)) w)
  have C2 := Lib.hid (fun w => cmp_as y x p' hp' (hy.mono (by decide)) (hx.mono (by decide)) w)
  have C3 := Lib.hid (fun w => cmp_as y z q hq (hy.mono (by decide)) (hz.mono (by decide)) w)
  have C4 := Lib.hid (fun w => cmp_as x z r hr (hx.mono (by decide)) (hz.mono (by decide)) w)
  have HPP := Lib.hid (And.intro hp (And.intro hp' (And.intro hq hr)))
  have HXY := Lib.hid (And.intro hx (And.intro hy hz))
  have hpb : -1 ≤ p ∧ p ≤ 1 := by rw [← hp]; unfold cmpI; split <;> (try split) <;> omega
  have hqb : -1 ≤ q ∧ q ≤ 1 := by rw [← hq]; unfold cmpI; split <;> (try split) <;> omega
  have hrb : -1 ≤ r ∧ r ≤ 1 := by rw [← hr]; unfold cmpI; split <;> (try split) <;> omega
  have hpp : p' = -p := by rw [← hp, ← hp']; unfold cmpI; split <;> split <;> (try split) <;> (try split) <;> omega
  subst hpp
  have hC1 : ¬ (p ≤ 0 ∧ q ≤ 0 ∧ 0 < r) := by
    have a1 := cmpI_le x y; have a2 := cmpI_le y z; have a3 := cmpI_le x z
    have b1 := cmpI_ge x y; have b2 := cmpI_ge y z; have b3 := cmpI_ge x z
    rw [hp] at a1 b1; rw [hq] at a2 b2; rw [hr] at a3 b3
    omega
  have hC2 : ¬ (0 ≤ p ∧ 0 ≤ q ∧ r < 0) := by
    have a1 := cmpI_le x y; have a2 := cmpI_le y z; have a3 := cmpI_le x z
    have b1 := cmpI_ge x y; have b2 := cmpI_ge y z; have b3 := cmpI_ge x z
    rw [hp] at a1 b1; rw [hq] at a2 b2; rw [hr] at a3 b3
    omega
  have hEq : ((str (Wh.decI x)).toList == (str (Wh.decI y)).toList) = (p == 0) := by
    rw [Bool.eq_iff_iff, beq_iff_eq, beq_iff_eq, ← hp, cmpI_zero, Lib.toList_data, Lib.toList_data, str_data, str_data]
    exact ⟨fun h => decI_inj h, fun h => by rw [h]⟩
  obtain ⟨u, hu⟩ : ∃ u : Int, ((z.natAbs : Nat) : Int) + 1 = u := ⟨_, rfl⟩
  have hzz : Bd 30 z := hz
  have hub : Bd 31 u := by rw [← hu]; exact Bd.add (x := ((z.natAbs : Nat) : Int)) (y := 1) (k := 30) (by unfold Bd at *; simpa using hzz) (by unfold Bd; decide)
  have C5 := Lib.hid (fun w => add_as x z (x + z) rfl (hx.mono (by decide)) (hz.mono (by decide)) w)
  have C6 := Lib.hid (fun w => add_as y z (y + z) rfl (hy.mono (by decide)) (hz.mono (by decide)) w)
  have C7 := Lib.hid (fun w => cmp_as (x + z) (y + z) p (by rw [cmpI_add, hp]) ((hx.add hz).mono (by decide)) ((hy.add hz).mono (by decide)) w)
  have A1 := Lib.hid (fun w => Abs_txt z w)
  have A2 := Lib.hid (fun w => rPlus_any ((z.natAbs : Nat) : Int) 1 (by unfold V400; rw [Int.natAbs_natCast]; exact hz.v400 (by decide) (by decide)) v400_one w)
  rw [hu, txt_one] at A2
  have C8 := Lib.hid (fun w => mul_as x u (x * u) rfl (hx.mono (by decide)) (hub.mono (by decide)) w)
  have C9 := Lib.hid (fun w => mul_as y u (y * u) rfl (hy.mono (by decide)) (hub.mono (by decide)) w)
  have C10 := Lib.hid (fun w => cmp_as (x * u) (y * u) p (by rw [cmpI_mul _ _ _ (by omega), hp]) ((hx.mul hub).mono (by decide)) ((hy.mul hub).mono (by decide)) w)
  clear hp hp' hq hr hx hy hz
  have HB1 := Lib.hid hB; clear hB
  have htn : (txt ((z.natAbs : Nat) : Int) : Value) = .string (str (Wh.decN z.natAbs)) := by unfold txt; rw [decI_pos (by omega), Int.natAbs_natCast]
  rw [htn] at A2
  clear htn hu hub hzz
  unfold txt at C1 C2 C3 C4 C5 C6 C7 A1 A2 C8 C9 C10 ⊢
  generalize str (Wh.decI (x + z)) = S1 at *
  generalize str (Wh.decI (y + z)) = S2 at *
  generalize str (Wh.decI (x * u)) = S3 at *
  generalize str (Wh.decI (y * u)) = S4 at *
  generalize str (Wh.decN z.natAbs) = SZ at *
  generalize str (Wh.decI u) = SU at *
  generalize hTX : str (Wh.decI x) = TX at *
  generalize hTY : str (Wh.decI y) = TY at *
  generalize hTZ : str (Wh.decI z) = TZ at *
  have HTX := Lib.hid (And.intro hTX (And.intro hTY hTZ)); clear hTX hTY hTZ
  go_wp2_with fail
  refine (C1.out _).mono ?_
  rintro e w2 ⟨rfl, hb⟩
  have HB2 := Lib.hid (HB1.out.trans (hb.mono HB1.out.size)); clear hb C1
  go_wp2_with fail
  refine (C2.out _).mono ?_
  rintro e w3 ⟨rfl, hb⟩
  have HB3 := Lib.hid (HB2.out.trans (hb.mono HB2.out.size)); clear hb C2
  go_wp2_with fail
  refine (C3.out _).mono ?_
  rintro e w4 ⟨rfl, hb⟩
  have HB4 := Lib.hid (HB3.out.trans (hb.mono HB3.out.size)); clear hb C3
  go_wp2_with fail
  refine (C4.out _).mono ?_
  rintro e w5 ⟨rfl, hb⟩
  have HB5 := Lib.hid (HB4.out.trans (hb.mono HB4.out.size)); clear hb C4

  have HT5 := Lib.hid (HT.out.mono HB5.out); clear HT
  clear HPP HXY
  go_wp2_with fail
  all_goals
    refine (C5.out _ HT5.out).mono ?_
    rintro e w6 ⟨rfl, hb⟩
    have HB6 := Lib.hid (HB5.out.trans (hb.mono HB5.out.size))
    have HT6 := Lib.hid (HT5.out.mono hb)
    clear hb
    go_wp2_with fail
    refine (C6.out _ HT6.out).mono ?_
    rintro e w7 ⟨rfl, hb⟩
    have HB7 := Lib.hid (HB6.out.trans (hb.mono HB6.out.size))
    have HT7 := Lib.hid (HT6.out.mono hb)
    clear hb
    go_wp2_with fail
    refine (C7.out _).mono ?_
    rintro e w8 ⟨rfl, hb⟩
    have HB8 := Lib.hid (HB7.out.trans (hb.mono HB7.out.size))
    have HT8 := Lib.hid (HT7.out.mono hb)
    clear hb
    go_wp2_with fail
    refine (A1.out _).mono ?_
    rintro e w' ⟨rfl, rfl⟩
    go_wp2_with fail
    refine (A2.out _).mono ?_
    rintro e w9 ⟨rfl, hb⟩
    have HB9 := Lib.hid (HB8.out.trans (hb.mono HB8.out.size))
    have HT9 := Lib.hid (HT8.out.mono hb)
    clear hb
    go_wp2_with fail
    refine (C8.out _ HT9.out).mono ?_
    rintro e w10 ⟨rfl, hb⟩
    have HB10 := Lib.hid (HB9.out.trans (hb.mono HB9.out.size))
    have HT10 := Lib.hid (HT9.out.mono hb)
    clear hb
    go_wp2_with fail
    refine (A1.out _).mono ?_
    rintro e w' ⟨rfl, rfl⟩
    go_wp2_with fail
    refine (A2.out _).mono ?_
    rintro e w11 ⟨rfl, hb⟩
    have HB11 := Lib.hid (HB10.out.trans (hb.mono HB10.out.size))
    have HT11 := Lib.hid (HT10.out.mono hb)
    clear hb
    go_wp2_with fail
    refine (C9.out _ HT11.out).mono ?_
    rintro e w12 ⟨rfl, hb⟩
    have HB12 := Lib.hid (HB11.out.trans (hb.mono HB11.out.size))
    have HT12 := Lib.hid (HT11.out.mono hb)
    clear hb
    go_wp2_with fail
    refine (C10.out _).mono ?_
    rintro e w13 ⟨rfl, hb⟩
    have HB13 := Lib.hid (HB12.out.trans (hb.mono HB12.out.size))
    have HT13 := Lib.hid (HT12.out.mono hb)
    clear hb
    go_wp2_with fail
    refine (counted_holds _ HT13.out).mono ?_
    rintro e wz ⟨rfl, hb⟩
    go_wp2_with fail
    go_ret
    exact ⟨rfl, HB13.out.trans (hb.mono HB13.out.size)⟩
end Go.Proofs.YteaeloeebfdodaaGreatDoor
