/- Part 53 of the proofs that laws of package whole answer true at every input and leave the input as it was, where the library's variables start as the text lays them (the texts Y2). -/
import Derived.Test.YteaeloeebfdodaaGreatDoorZ48
import Derived.Test.YteaeloeebfdodaaGreatDoorZ52
import Derived.Test.YteaeloeebfdodaaGreatDoorZ40
set_option linter.unusedVariables false
set_option linter.unusedSimpArgs false
/- WALKS, the law WholeDivision. -/
namespace Go.Proofs.YteaeloeebfdodaaGreatDoor
open Go.RowKit
theorem Bd.of_le {k : Nat} {x y : Int} (h : Bd k x) (hy : y.natAbs ≤ x.natAbs) : Bd k y := Nat.lt_of_le_of_lt hy h
theorem abs_tdiv (x y : Int) : (x.tdiv y).natAbs ≤ x.natAbs := by rw [Int.natAbs_tdiv]; exact Nat.div_le_self _ _
theorem abs_tmod_lt (x y : Int) (hy : y ≠ 0) : (x.tmod y).natAbs < y.natAbs := by rw [Int.natAbs_tmod]; exact Nat.mod_lt _ (Int.natAbs_pos.2 hy)
theorem tmod_sign (x y : Int) : x.tmod y = 0 ∨ (x.tmod y < 0 ↔ x < 0) := by
  by_cases h : x.tmod y = 0
  · exact .inl h
  · right
    rcases Int.lt_trichotomy x 0 with h1 | h1 | h1
    · have : x.tmod y ≤ 0 := by
        have := Int.tmod_nonneg (b := y) (a := -x) (by omega)
        rw [Int.neg_tmod] at this; omega
      omega
    · subst h1; simp at h
    · have := Int.tmod_nonneg (b := y) (a := x) (by omega)
      omega
theorem txt_eqz (x : Int) : ((str (Wh.decI x)).toList == [48]) = decide (x = 0) := by
  have h0 : Wh.decI 0 = [48] := by unfold Wh.decI; simp [Wh.decN_zero]
  rw [Lib.toList_data, str_data, ← h0]
  by_cases h : x = 0
  · rw [h]; simp
  · rw [decide_eq_false h, beq_eq_false_iff_ne]
    exact fun e => h (decI_inj e)
theorem fmod_facts (x y : Int) (hy : y ≠ 0) : (x.fmod y).natAbs < y.natAbs ∧ (x.fmod y = 0 ∨ (x.fmod y < 0 ↔ y < 0)) ∧ (x.fdiv y).natAbs ≤ x.natAbs + 1 ∧ ((x < 0 ↔ y < 0) → x.fdiv y = x.tdiv y) ∧ (x.fmod y = 0 ↔ x.tmod y = 0) := by
  obtain ⟨h1, h2⟩ := Wh.floor_both x y hy
  have ha := abs_tmod_lt x y hy
  have hs := tmod_sign x y
  have hd := abs_tdiv x y
  have hm0 : y.natAbs = 1 → x.tmod y = 0 := fun h => by omega
  rw [← h1, ← h2]
  generalize x.tmod y = m at *
  generalize x.tdiv y = t at *
  have hsm : (m < 0 ∧ m.sign = -1) ∨ (m = 0 ∧ m.sign = 0) ∨ (0 < m ∧ m.sign = 1) := sign_lt m
  have hsy : (y < 0 ∧ y.sign = -1) ∨ (y = 0 ∧ y.sign = 0) ∨ (0 < y ∧ y.sign = 1) := sign_lt y
  clear h1 h2 hm0
  rcases hsm with ⟨e1, e2⟩ | ⟨e1, e2⟩ | ⟨e1, e2⟩ <;> rcases hsy with ⟨f1, f2⟩ | ⟨f1, f2⟩ | ⟨f1, f2⟩ <;> rw [e2, f2] <;> simp <;> omega
set_option maxRecDepth 100000 in
set_option maxHeartbeats 8000000 in
theorem division_true (w : World) (a : Option Addr) (n c : Nat) (h : Nums w a n) (ht : Tab w) (hE : ErrT w) :
    Calls Tryz.prog 6 #[.slice a n c] w fun e w' => e = .returned (.bool true) ∧ Below w.heap.size w w' := by
  have HN := Lib.hid h; clear h
  have HT := Lib.hid ht; clear ht
  have HE := Lib.hid hE; clear hE
  go_enter Tryz.func6, Tryz.ntmps6
  go_wp2_with fail
  refine (three_any _ _ _ _ HN.out).mono ?_
  rintro e w1 ⟨⟨x, y, z, rfl, hx, hy, hz⟩, hB⟩
  have hx : Bd 30 x := hx
  have hy : Bd 30 y := hy
  have HB1 := Lib.hid hB; clear hB hz
  by_cases hy0 : y = 0
  · subst hy0
    have C1 := Lib.hid (fun w => Floor_by_zero w x (hx.valid (by decide) (by decide)))
    have C2 := Lib.hid (fun w => Quo_by_zero w x (hx.valid (by decide) (by decide)))
    have e0 : (txt 0 : Value) = .string ⟨#[48]⟩ := by
      unfold txt
      have : Wh.decI 0 = [48] := by unfold Wh.decI; simp [Wh.decN_zero]
      rw [this]; rfl
    rw [e0] at C1 C2 ⊢
    clear hx hy e0
    have hemp : ((⟨#[]⟩ : ByteArray) ++ ⟨#[]⟩ ++ ⟨#[]⟩ ++ ⟨#[]⟩).toList = [] := by rw [Lib.toList_data]; rfl
    unfold txt at *
    generalize str (Wh.decI x) = TX at *
    generalize str (Wh.decI z) = TZ at *
    go_wp2_with fail
    refine (C1.out _ (HE.out.mono HB1.out)).mono ?_
    rintro e w2 ⟨rfl, hb⟩
    have HB2 := Lib.hid (HB1.out.trans (hb.mono HB1.out.size)); clear hb
    go_wp2_with fail
    refine (C2.out _ (HE.out.mono HB2.out)).mono ?_
    rintro e w3 ⟨rfl, hb⟩
    have HB3 := Lib.hid (HB2.out.trans (hb.mono HB2.out.size)); clear hb
    go_wp2_with fail
    refine (counted_holds _ (HT.out.mono HB3.out)).mono ?_
    rintro e wz ⟨rfl, hb⟩
    go_wp2_with fail
    go_ret
    exact ⟨rfl, HB3.out.trans (hb.mono HB3.out.size)⟩
  · obtain ⟨q, hq⟩ : ∃ s, x.fdiv y = s := ⟨_, rfl⟩
    obtain ⟨r, hr⟩ : ∃ s, x.fmod y = s := ⟨_, rfl⟩
    obtain ⟨p, hp⟩ : ∃ s, x.tdiv y = s := ⟨_, rfl⟩
    obtain ⟨s, hs⟩ : ∃ s, x.tmod y = s := ⟨_, rfl⟩
    obtain ⟨f1, f2, f3, f4, f5⟩ := fmod_facts x y hy0
    have g1 := abs_tdiv x y
    have g2 := abs_tmod_lt x y hy0
    have g3 := tmod_sign x y
    have e1 : q * y + r = x := by rw [← hq, ← hr, Int.mul_comm]; exact Int.mul_fdiv_add_fmod x y
    have e2 : p * y + s = x := by rw [← hp, ← hs, Int.mul_comm]; exact Int.mul_tdiv_add_tmod x y
    have bq : Bd 31 q := by
      rw [hq] at f3
      unfold Bd at *
      rw [Nat.pow_succ]
      generalize 10 ^ 30 = T at *
      omega
    have br : Bd 30 r := hy.of_le (by rw [← hr]; omega)
    have bp : Bd 30 p := hx.of_le (by rw [← hp]; omega)
    have bs : Bd 30 s := hy.of_le (by rw [← hs]; omega)
    have C1 := Lib.hid (fun w ht => FloorG_any w x y (hx.valid (by decide) (by decide)) (hy.valid (by decide) (by decide)) (hx.mono (by decide)).fit (hy.mono (by decide)).fit hy0 (by rw [hq]; exact bq.valid (by decide) (by decide)) (by rw [hr]; exact br.valid (by decide) (by decide)) ht)
    have C2 := Lib.hid (fun w ht => QuoG_any w x y (hx.valid (by decide) (by decide)) (hy.valid (by decide) (by decide)) (hx.mono (by decide)).fit (hy.mono (by decide)).fit hy0 (by rw [hp]; exact bp.valid (by decide) (by decide)) (by rw [hs]; exact bs.valid (by decide) (by decide)) ht)
    rw [hq, hr] at C1
    rw [hp, hs] at C2
    rw [hq, hr] at *
    rw [hp, hs] at *
    have I1 := Lib.hid (fun w => isForm_txt q (bq.v400 (by decide) (by decide)) w)
    have I2 := Lib.hid (fun w => isForm_txt r (br.v400 (by decide) (by decide)) w)
    have I3 := Lib.hid (fun w => isForm_txt p (bp.v400 (by decide) (by decide)) w)
    have I4 := Lib.hid (fun w => isForm_txt s (bs.v400 (by decide) (by decide)) w)
    have T1 := Lib.hid (fun w => rTimes_any q y (bq.v400 (by decide) (by decide)) (hy.v400 (by decide) (by decide)) w)
    have P1 := Lib.hid (fun w => rPlus_any (q * y) r ((bq.mul hy).v400 (by decide) (by decide)) (br.v400 (by decide) (by decide)) w)
    have T2 := Lib.hid (fun w => rTimes_any p y (bp.v400 (by decide) (by decide)) (hy.v400 (by decide) (by decide)) w)
    have P2 := Lib.hid (fun w => rPlus_any (p * y) s ((bp.mul hy).v400 (by decide) (by decide)) (bs.v400 (by decide) (by decide)) w)
    rw [e1] at P1
    rw [e2] at P2
    have A1 := Lib.hid (fun w => Abs_txt r w)
    have A2 := Lib.hid (fun w => Abs_txt y w)
    have A3 := Lib.hid (fun w => Abs_txt s w)
    have M1 := Lib.hid (fun w => rCmp_any ((r.natAbs : Nat) : Int) ((y.natAbs : Nat) : Int) (by unfold V400; rw [Int.natAbs_natCast]; exact br.v400 (by decide) (by decide)) (by unfold V400; rw [Int.natAbs_natCast]; exact hy.v400 (by decide) (by decide)) w)
    have M2 := Lib.hid (fun w => rCmp_any ((s.natAbs : Nat) : Int) ((y.natAbs : Nat) : Int) (by unfold V400; rw [Int.natAbs_natCast]; exact bs.v400 (by decide) (by decide)) (by unfold V400; rw [Int.natAbs_natCast]; exact hy.v400 (by decide) (by decide)) w)
    rw [cmpI_lt (by omega)] at M1 M2
    have htn : ∀ v : Int, (txt ((v.natAbs : Nat) : Int) : Value) = .string (str (Wh.decN v.natAbs)) := fun v => by unfold txt; rw [decI_pos (by omega), Int.natAbs_natCast]
    rw [htn, htn] at M1 M2
    have N1 := Lib.hid (fun w => Neg_txt r w)
    have N2 := Lib.hid (fun w => Neg_txt y w)
    have N3 := Lib.hid (fun w => Neg_txt s w)
    have N4 := Lib.hid (fun w => Neg_txt x w)
    have z0 := txt_eqz y
    have z1 := txt_eqz r
    have z2 := txt_eqz s
    have hyz : ((str (Wh.decI y)).toList == [48]) = false := by rw [z0]; exact decide_eq_false hy0
    have HFA := Lib.hid (And.intro f2 (And.intro f4 (And.intro f5 (And.intro g3 (And.intro z1 z2)))))
    have HPQ : Hid (q = p → str (Wh.decI q) = str (Wh.decI p)) := Lib.hid fun h => by rw [h]
    clear f1 f2 f3 f4 f5 g1 g2 g3 e1 e2 bq br bp bs hx hy z0 z1 z2 htn hq hr hp hs
    unfold txt at *
    generalize str (Wh.decI x) = TX at *
    generalize str (Wh.decI y) = TY at *
    generalize str (Wh.decI z) = TZ at *
    generalize str (Wh.decI q) = TQ at *
    generalize str (Wh.decI r) = TR at *
    generalize str (Wh.decI p) = TP at *
    generalize str (Wh.decI s) = TS at *
    generalize str (Wh.decI (q * y)) = TQY at *
    generalize str (Wh.decI (p * y)) = TPY at *
    generalize str (Wh.decN r.natAbs) = TAR at *
    generalize str (Wh.decN y.natAbs) = TAY at *
    generalize str (Wh.decN s.natAbs) = TAS at *
    go_wp2_with fail
    refine (C1.out _ (HT.out.mono HB1.out)).mono ?_
    rintro e w2 ⟨rfl, hb⟩
    have HB2 := Lib.hid (HB1.out.trans (hb.mono HB1.out.size)); clear hb
    go_wp2_with fail
    refine (C2.out _ (HT.out.mono HB2.out)).mono ?_
    rintro e w3 ⟨rfl, hb⟩
    have HB3 := Lib.hid (HB2.out.trans (hb.mono HB2.out.size)); clear hb
    go_wp2_with fail
    refine (I1.out _).mono ?_
    rintro e w' ⟨rfl, rfl⟩
    go_wp2_with fail
    refine (I2.out _).mono ?_
    rintro e w' ⟨rfl, rfl⟩
    go_wp2_with fail
    refine (I3.out _).mono ?_
    rintro e w' ⟨rfl, rfl⟩
    go_wp2_with fail
    refine (I4.out _).mono ?_
    rintro e w' ⟨rfl, rfl⟩
    go_wp2_with fail
    refine (T1.out _).mono ?_
    rintro e w4 ⟨rfl, hb⟩
    have HB4 := Lib.hid (HB3.out.trans (hb.mono HB3.out.size)); clear hb
    go_wp2_with fail
    refine (P1.out _).mono ?_
    rintro e w5 ⟨rfl, hb⟩
    have HB5 := Lib.hid (HB4.out.trans (hb.mono HB4.out.size)); clear hb
    go_wp2_with fail
    refine (T2.out _).mono ?_
    rintro e w6 ⟨rfl, hb⟩
    have HB6 := Lib.hid (HB5.out.trans (hb.mono HB5.out.size)); clear hb
    go_wp2_with fail
    refine (P2.out _).mono ?_
    rintro e w7 ⟨rfl, hb⟩
    have HB7 := Lib.hid (HB6.out.trans (hb.mono HB6.out.size)); clear hb
    go_wp2_with fail
    refine (A1.out _).mono ?_
    rintro e w' ⟨rfl, rfl⟩
    go_wp2_with fail
    refine (A2.out _).mono ?_
    rintro e w' ⟨rfl, rfl⟩
    go_wp2_with fail
    refine (M1.out _).mono ?_
    rintro e w8 ⟨rfl, hb⟩
    have HB8 := Lib.hid (HB7.out.trans (hb.mono HB7.out.size)); clear hb
    go_wp2_with fail
    refine (A3.out _).mono ?_
    rintro e w' ⟨rfl, rfl⟩
    go_wp2_with fail
    refine (A2.out _).mono ?_
    rintro e w' ⟨rfl, rfl⟩
    go_wp2_with fail
    refine (M2.out _).mono ?_
    rintro e w9 ⟨rfl, hb⟩
    have HB9 := Lib.hid (HB8.out.trans (hb.mono HB8.out.size)); clear hb
    obtain ⟨bx, hbx⟩ : ∃ b, decide (x < 0) = b := ⟨_, rfl⟩
    obtain ⟨b2, hb2⟩ : ∃ b, decide (y < 0) = b := ⟨_, rfl⟩
    rw [hbx] at N4
    rw [hb2] at N2
    have hqp : bx = b2 → TQ = TP := fun h => by
      refine HPQ.out (HFA.out.2.1 ?_)
      rw [← hbx, ← hb2] at h
      exact decide_eq_decide.1 h
    by_cases hz : r = 0
    · have z1 := HFA.out.2.2.2.2.1
      have z2 := HFA.out.2.2.2.2.2
      rw [decide_eq_true hz] at z1
      rw [decide_eq_true (HFA.out.2.2.1.1 hz)] at z2
      clear N1 N3 HFA HPQ hbx hb2
      cases bx <;> cases b2
      · obtain rfl := hqp rfl
        clear hqp
        go_wp2_with fail
        refine (N4.out _).mono ?_
        rintro e w' ⟨rfl, rfl⟩
        go_wp2_with fail
        refine (N2.out _).mono ?_
        rintro e w' ⟨rfl, rfl⟩
        go_wp2_with fail
        refine (counted_holds _ (HT.out.mono HB9.out)).mono ?_
        rintro e wz ⟨rfl, hb⟩
        go_wp2_with fail
        go_ret
        exact ⟨rfl, HB9.out.trans (hb.mono HB9.out.size)⟩
      · clear hqp
        go_wp2_with fail
        refine (N4.out _).mono ?_
        rintro e w' ⟨rfl, rfl⟩
        go_wp2_with fail
        refine (N2.out _).mono ?_
        rintro e w' ⟨rfl, rfl⟩
        go_wp2_with fail
        refine (counted_holds _ (HT.out.mono HB9.out)).mono ?_
        rintro e wz ⟨rfl, hb⟩
        go_wp2_with fail
        go_ret
        exact ⟨rfl, HB9.out.trans (hb.mono HB9.out.size)⟩
      · clear hqp
        go_wp2_with fail
        refine (N4.out _).mono ?_
        rintro e w' ⟨rfl, rfl⟩
        go_wp2_with fail
        refine (N2.out _).mono ?_
        rintro e w' ⟨rfl, rfl⟩
        go_wp2_with fail
        refine (counted_holds _ (HT.out.mono HB9.out)).mono ?_
        rintro e wz ⟨rfl, hb⟩
        go_wp2_with fail
        go_ret
        exact ⟨rfl, HB9.out.trans (hb.mono HB9.out.size)⟩
      · obtain rfl := hqp rfl
        clear hqp
        go_wp2_with fail
        refine (N4.out _).mono ?_
        rintro e w' ⟨rfl, rfl⟩
        go_wp2_with fail
        refine (N2.out _).mono ?_
        rintro e w' ⟨rfl, rfl⟩
        go_wp2_with fail
        refine (counted_holds _ (HT.out.mono HB9.out)).mono ?_
        rintro e wz ⟨rfl, hb⟩
        go_wp2_with fail
        go_ret
        exact ⟨rfl, HB9.out.trans (hb.mono HB9.out.size)⟩
    · have z1 := HFA.out.2.2.2.2.1
      have z2 := HFA.out.2.2.2.2.2
      have hz2 : ¬ s = 0 := fun h => hz (HFA.out.2.2.1.2 h)
      rw [decide_eq_false hz] at z1
      rw [decide_eq_false hz2] at z2
      have k1 : decide (r < 0) = b2 := by rw [← hb2]; exact decide_eq_decide.2 (HFA.out.1.resolve_left hz)
      have k2 : decide (s < 0) = bx := by rw [← hbx]; exact decide_eq_decide.2 (HFA.out.2.2.2.1.resolve_left hz2)
      rw [k1] at N1
      rw [k2] at N3
      clear HFA HPQ hbx hb2 k1 k2
      cases bx <;> cases b2
      · obtain rfl := hqp rfl
        clear hqp
        go_wp2_with fail
        refine (N1.out _).mono ?_
        rintro e w' ⟨rfl, rfl⟩
        go_wp2_with fail
        refine (N2.out _).mono ?_
        rintro e w' ⟨rfl, rfl⟩
        go_wp2_with fail
        refine (N3.out _).mono ?_
        rintro e w' ⟨rfl, rfl⟩
        go_wp2_with fail
        refine (N4.out _).mono ?_
        rintro e w' ⟨rfl, rfl⟩
        go_wp2_with fail
        refine (N4.out _).mono ?_
        rintro e w' ⟨rfl, rfl⟩
        go_wp2_with fail
        refine (N2.out _).mono ?_
        rintro e w' ⟨rfl, rfl⟩
        go_wp2_with fail
        refine (counted_holds _ (HT.out.mono HB9.out)).mono ?_
        rintro e wz ⟨rfl, hb⟩
        go_wp2_with fail
        go_ret
        exact ⟨rfl, HB9.out.trans (hb.mono HB9.out.size)⟩
      · clear hqp
        go_wp2_with fail
        refine (N1.out _).mono ?_
        rintro e w' ⟨rfl, rfl⟩
        go_wp2_with fail
        refine (N2.out _).mono ?_
        rintro e w' ⟨rfl, rfl⟩
        go_wp2_with fail
        refine (N3.out _).mono ?_
        rintro e w' ⟨rfl, rfl⟩
        go_wp2_with fail
        refine (N4.out _).mono ?_
        rintro e w' ⟨rfl, rfl⟩
        go_wp2_with fail
        refine (N4.out _).mono ?_
        rintro e w' ⟨rfl, rfl⟩
        go_wp2_with fail
        refine (N2.out _).mono ?_
        rintro e w' ⟨rfl, rfl⟩
        go_wp2_with fail
        refine (counted_holds _ (HT.out.mono HB9.out)).mono ?_
        rintro e wz ⟨rfl, hb⟩
        go_wp2_with fail
        go_ret
        exact ⟨rfl, HB9.out.trans (hb.mono HB9.out.size)⟩
      · clear hqp
        go_wp2_with fail
        refine (N1.out _).mono ?_
        rintro e w' ⟨rfl, rfl⟩
        go_wp2_with fail
        refine (N2.out _).mono ?_
        rintro e w' ⟨rfl, rfl⟩
        go_wp2_with fail
        refine (N3.out _).mono ?_
        rintro e w' ⟨rfl, rfl⟩
        go_wp2_with fail
        refine (N4.out _).mono ?_
        rintro e w' ⟨rfl, rfl⟩
        go_wp2_with fail
        refine (N4.out _).mono ?_
        rintro e w' ⟨rfl, rfl⟩
        go_wp2_with fail
        refine (N2.out _).mono ?_
        rintro e w' ⟨rfl, rfl⟩
        go_wp2_with fail
        refine (counted_holds _ (HT.out.mono HB9.out)).mono ?_
        rintro e wz ⟨rfl, hb⟩
        go_wp2_with fail
        go_ret
        exact ⟨rfl, HB9.out.trans (hb.mono HB9.out.size)⟩
      · obtain rfl := hqp rfl
        clear hqp
        go_wp2_with fail
        refine (N1.out _).mono ?_
        rintro e w' ⟨rfl, rfl⟩
        go_wp2_with fail
        refine (N2.out _).mono ?_
        rintro e w' ⟨rfl, rfl⟩
        go_wp2_with fail
        refine (N3.out _).mono ?_
        rintro e w' ⟨rfl, rfl⟩
        go_wp2_with fail
        refine (N4.out _).mono ?_
        rintro e w' ⟨rfl, rfl⟩
        go_wp2_with fail
        refine (N4.out _).mono ?_
        rintro e w' ⟨rfl, rfl⟩
        go_wp2_with fail
        refine (N2.out _).mono ?_
        rintro e w' ⟨rfl, rfl⟩
        go_wp2_with fail
        refine (counted_holds _ (HT.out.mono HB9.out)).mono ?_
        rintro e wz ⟨rfl, hb⟩
        go_wp2_with fail
        go_ret
        exact ⟨rfl, HB9.out.trans (hb.mono HB9.out.size)⟩
end Go.Proofs.YteaeloeebfdodaaGreatDoor
