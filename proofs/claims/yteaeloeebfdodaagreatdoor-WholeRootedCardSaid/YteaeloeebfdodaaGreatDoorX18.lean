/- Part 18 of the proofs that laws of package whole answer true at every input and leave the input as it was, where the library's variables start as the text lays them (the texts V6, V9, V5). -/
import Derived.Test.YteaeloeebfdodaaGreatDoorX05
import Derived.Test.YteaeloeebfdodaaGreatDoorX17
import Derived.Deep.QuietTactic
import Derived.BigQuiet
import Derived.Test.YteaeloeebfdodaaGreatDoorX10
import Derived.Defers
import Derived.Recover
set_option linter.unusedVariables false
set_option linter.unusedSimpArgs false
/- WALKS, order: Compare, Size. -/
namespace Go.Proofs.YteaeloeebfdodaaGreatDoor
open Go.RowKit
def cmpI (x y : Int) : Int := if x < y then -1 else if y < x then 1 else 0
theorem cmp_signs {x y : Int} (h : x.sign ≠ y.sign) : cmpI x y = if x.sign < y.sign then -1 else 1 := by
  unfold cmpI
  rcases Int.lt_trichotomy x 0 with hx | hx | hx <;> rcases Int.lt_trichotomy y 0 with hy | hy | hy <;>
    simp [hx, hy, Int.sign_eq_neg_one_of_neg, Int.sign_eq_one_of_pos] at h ⊢ <;> omega
theorem sign_same {x y : Int} (h : x.sign = y.sign) : cmpI x y = Wh.cmpN x.natAbs y.natAbs * x.sign := by
  unfold cmpI Wh.cmpN
  rcases Int.lt_trichotomy x 0 with hx | hx | hx <;> rcases Int.lt_trichotomy y 0 with hy | hy | hy <;>
    simp [hx, hy, Int.sign_eq_neg_one_of_neg, Int.sign_eq_one_of_pos] at h ⊢
  all_goals (repeat' split) <;> omega
theorem cmpN_range (a b : Nat) : -1 ≤ Wh.cmpN a b ∧ Wh.cmpN a b ≤ 1 := by
  unfold Wh.cmpN
  split
  · omega
  · split <;> omega
set_option maxRecDepth 100000 in
set_option maxHeartbeats 400000 in
theorem compare_any (w : World) (v1 v2 : Value) (x y : Int) (h1 : Num w v1 x) (h2 : Num w v2 y) (hx : Fit x) :
    Calls Tryz.prog 79 #[v1, v2] w fun e w' => e = .returned (.int .i64 (cmpI x y)) ∧ Below w.heap.size w w' := by
  obtain ⟨s1, rfl, k1⟩ := h1
  obtain ⟨a1, c1, rfl⟩ := k1.len
  obtain ⟨s2, rfl, k2⟩ := h2
  obtain ⟨a2, c2, rfl⟩ := k2.len
  have hal : Below w.heap.size w ((w.alloc (.cells #[.int .i64 x.sign, .slice a1 (Wh.limbs x.natAbs).length c1] 83)).alloc (.cells #[.int .i64 y.sign, .slice a2 (Wh.limbs y.natAbs).length c2] 83)) := ((Below.refl _ _).alloc (Nat.le_refl _) _).alloc (by simp) _
  have HC := Lib.hid (fun n => compareLimbs_any (((w.alloc (.cells #[.int .i64 x.sign, .slice a1 (Wh.limbs x.natAbs).length c1] 83)).alloc (.cells #[.int .i64 y.sign, .slice a2 (Wh.limbs y.natAbs).length c2] 83)).drewN n) _ _ x.natAbs y.natAbs ((k1.mono hal).mono (below_drewN _ _ _)) ((k2.mono hal).mono (below_drewN _ _ _)) (.inl hx))
  have HAL := Lib.hid hal; clear hal k1 k2
  generalize (Wh.limbs x.natAbs).length = n1 at *
  generalize (Wh.limbs y.natAbs).length = n2 at *
  by_cases hs : x.sign = y.sign
  · have HE := Lib.hid (sign_same hs)
    have hr := cmpN_range x.natAbs y.natAbs
    have hsr := sign_range x
    rw [← hs] at HC HAL ⊢
    have hsb : (x.sign == x.sign) = true := by simp
    clear hs
    generalize Wh.cmpN x.natAbs y.natAbs = t at *
    generalize x.sign = s at *
    go_enter Tryz.func79, Tryz.ntmps79
    go_wp2_with fail
    have q0 : ((w.alloc (.cells #[.int .i64 s, .slice a1 n1 c1] 83)).alloc (.cells #[.int .i64 s, .slice a2 n2 c2] 83)).cell? ⟨w.heap.size, 0, none⟩ = some (.int .i64 s) := by go_simp
    have q1 : ((w.alloc (.cells #[.int .i64 s, .slice a1 n1 c1] 83)).alloc (.cells #[.int .i64 s, .slice a2 n2 c2] 83)).cell? ⟨w.heap.size, 1, none⟩ = some (.slice a1 n1 c1) := by go_simp
    have q2 : ((w.alloc (.cells #[.int .i64 s, .slice a1 n1 c1] 83)).alloc (.cells #[.int .i64 s, .slice a2 n2 c2] 83)).cell? ⟨w.heap.size + 1, 1, none⟩ = some (.slice a2 n2 c2) := by go_simp
    generalize ((w.alloc (.cells #[.int .i64 s, .slice a1 n1 c1] 83)).alloc (.cells #[.int .i64 s, .slice a2 n2 c2] 83)) = V at *
    have hw : -9223372036854775808 ≤ t * s ∧ t * s ≤ 9223372036854775807 := by
      rcases (by omega : s = -1 ∨ s = 0 ∨ s = 1) with rfl | rfl | rfl <;> omega
    go_quiet ((go_at_call 177; exact Calls.quiet_of (HC.out _)))
    go_wp2
    go_ret
    exact ⟨by rw [HE.out]; rfl, HAL.out.trans (below_drewN _ _ _)⟩
  · have HE := Lib.hid (cmp_signs hs)
    have hsb : (x.sign == y.sign) = false := by simpa using hs
    go_enter Tryz.func79, Tryz.ntmps79
    go_wp2_with fail
    refine (direction_any _ _).mono ?_
    rintro e w2 ⟨rfl, rfl⟩
    go_wp2
    · rename_i h
      go_ret
      exact ⟨by rw [HE.out, if_pos h]; rfl, HAL.out⟩
    · rename_i h
      go_ret
      exact ⟨by rw [HE.out, if_neg (by omega)]; rfl, HAL.out⟩
set_option maxRecDepth 100000 in
set_option maxHeartbeats 400000 in
theorem size_any (w : World) (v : Value) (x : Int) (h : Num w v x) :
    Calls Tryz.prog 194 #[v] w fun e w' => (∃ v', e = .returned v' ∧ Num w' v' (x.natAbs : Int)) ∧ Below w.heap.size w w' := by
  obtain ⟨s1, rfl, k1⟩ := h
  obtain ⟨a1, c1, rfl⟩ := k1.len
  have hss : x.sign * x.sign = (x.natAbs : Int).sign := by
    rcases Int.lt_trichotomy x 0 with hx | hx | hx
    · rw [Int.sign_eq_neg_one_of_neg hx, Int.sign_eq_one_of_pos (by omega)]; rfl
    · subst hx; rfl
    · rw [Int.sign_eq_one_of_pos hx, Int.sign_eq_one_of_pos (by omega)]; rfl
  have hn : ((x.natAbs : Int)).natAbs = x.natAbs := Int.natAbs_natCast _
  have HSS := Lib.hid hss; clear hss
  have HK := Lib.hid k1; clear k1
  have hr := sign_range x
  generalize hs : x.sign = s at *
  clear hs
  go_enter Tryz.func194, Tryz.ntmps194
  go_wp2_with fail
  have hal : Below w.heap.size w ((w.alloc (.cells #[.int .i64 s, .slice a1 (Wh.limbs x.natAbs).length c1] 83)).alloc (.cells #[.int .i64 0, .slice none 0 0] 83)) := ((Below.refl _ _).alloc (Nat.le_refl _) _).alloc (by simp) _
  have q0 : ((w.alloc (.cells #[.int .i64 s, .slice a1 (Wh.limbs x.natAbs).length c1] 83)).alloc (.cells #[.int .i64 0, .slice none 0 0] 83)).cell? ⟨w.heap.size, 0, none⟩ = some (.int .i64 s) := by go_simp
  have q1 : ((w.alloc (.cells #[.int .i64 s, .slice a1 (Wh.limbs x.natAbs).length c1] 83)).alloc (.cells #[.int .i64 0, .slice none 0 0] 83)).cell? ⟨w.heap.size, 1, none⟩ = some (.slice a1 (Wh.limbs x.natAbs).length c1) := by go_simp
  have hres := result_keep (w := w) (a := .int .i64 s) (b := .slice a1 (Wh.limbs x.natAbs).length c1) rfl (Below.refl _ _).drew
  have HS := Lib.hid ((HK.out.mono hal).mono (Below.refl _ _).drew)
  have HAL := Lib.hid hal.drew; clear hal
  generalize ((w.alloc (.cells #[.int .i64 s, .slice a1 (Wh.limbs x.natAbs).length c1] 83)).alloc (.cells #[.int .i64 0, .slice none 0 0] 83)) = V at *
  obtain ⟨b0, b1, f0, f1⟩ := hres
  refine wp_region_still_tail 8 (by kernel_rfl) (by kernel_rfl) ?_
  simp only [List.take_succ_cons, List.take_zero, List.drop_succ_cons, List.drop_zero]
  repeat still_step
  still_call (with_still s s hr hr _)
  repeat still_step
  refine wpStill_nil ?_
  change wpList _ _ _ _ _ V.drew
  clear q0 q1
  generalize V.drew = U at *
  have hfin := two_cells U (w.heap.size + 1) (.int .i64 (s * s)) (.slice a1 (Wh.limbs x.natAbs).length c1) b0 b1
  have hst := Lib.hid (HS.out.store2 (w.heap.size + 1) b0 b1 (.int .i64 (s * s)) (.slice a1 (Wh.limbs x.natAbs).length c1))
  go_wp2
  exact bodyPost_ret (v := .agg #[.int .i64 (s * s), .slice a1 (Wh.limbs x.natAbs).length c1]) (by simp [results, Tryz.results194, go_sem, hfin.1, hfin.2]) rfl ⟨⟨_, rfl, ⟨.slice a1 (Wh.limbs x.natAbs).length c1, by rw [HSS.out], by rw [hn]; exact hst.out⟩⟩, (HAL.out.setCell (Nat.le_succ _) _).setCell (Nat.le_succ _) _⟩
end Go.Proofs.YteaeloeebfdodaaGreatDoor

/- WALKS, order 2: whole.Compare (attempt of a number made of T6, the rest of T7). -/
namespace Go.Proofs.YteaeloeebfdodaaGreatDoor
open Go.RowKit
end Go.Proofs.YteaeloeebfdodaaGreatDoor

/- WALKS, powers 2: Of, Ten. -/
namespace Go.Proofs.YteaeloeebfdodaaGreatDoor
open Go.RowKit
theorem itoa_txt (n : Nat) (hn : n < 1000000000000000000) (w : World) (htab : Tab w) :
    Calls Tryz.prog 183 #[.int .i64 n] w fun e w' => e = .returned (txt n) ∧ Below w.heap.size w w' := by
  refine (Tryz.strconv_Itoa n (by omega) (by omega) w htab).mono ?_
  rintro e w' ⟨rfl, k, os, rfl⟩
  refine ⟨?_, grow_below _ _ _⟩
  unfold txt Wh.decI
  rw [if_neg (by omega), Lib.itoa, if_neg (by omega), Int.toNat_natCast, decDigits_eq, Int.natAbs_natCast]
  rfl
/-- the result variable of a function that makes one number, filled -/
theorem made_one {w w' : World} {z : Int} {a : Option Addr} {c : Nat} (hb : Below (w.heap.size + 1) (w.alloc (.cells #[.int .i64 0, .slice none 0 0] 83)) w') (hs : Sl w' (.slice a (Wh.limbs z.natAbs).length c) (Wh.limbs z.natAbs)) :
    NumAt ((w'.setCell ⟨w.heap.size, 0, none⟩ (.int .i64 z.sign)).setCell ⟨w.heap.size, 1, none⟩ (.slice a (Wh.limbs z.natAbs).length c)) w.heap.size z ∧ Blank w' w.heap.size ∧
    Below w.heap.size w ((w'.setCell ⟨w.heap.size, 0, none⟩ (.int .i64 z.sign)).setCell ⟨w.heap.size, 1, none⟩ (.slice a (Wh.limbs z.natAbs).length c)) := by
  have hB : Blank w' w.heap.size := ⟨(hb.cell (p := ⟨w.heap.size, 0, none⟩) (Nat.lt_succ_self _)).trans (by go_simp), (hb.cell (p := ⟨w.heap.size, 1, none⟩) (Nat.lt_succ_self _)).trans (by go_simp), (hb.frozen (p := ⟨w.heap.size, 0, none⟩) (Nat.lt_succ_self _)).trans (by go_simp), (hb.frozen (p := ⟨w.heap.size, 1, none⟩) (Nat.lt_succ_self _)).trans (by go_simp)⟩
  have h0 : Below w.heap.size w (w.alloc (.cells #[.int .i64 0, .slice none 0 0] 83)) := (Below.refl _ _).alloc (Nat.le_refl _) _
  exact ⟨hB.put hs, hB, ((h0.trans (hb.mono (Nat.le_succ _))).setCell (Nat.le_refl _) _).setCell (Nat.le_refl _) _⟩
set_option maxRecDepth 100000 in
set_option maxHeartbeats 400000 in
theorem of_any (n : Nat) (hn : n < 1000000000000000000) (hv : Valid n) (w : World) (htab : Tab w) :
    Calls Tryz.prog 125 #[.int .i64 n] w fun e w' => (∃ v', e = .returned v' ∧ Num w' v' n) ∧ Below w.heap.size w w' := by
  have h0 : Below w.heap.size w (w.alloc (.cells #[.int .i64 0, .slice none 0 0] 83)) := (Below.refl _ _).alloc (Nat.le_refl _) _
  have H1 := Lib.hid (itoa_txt n hn _ (htab.mono h0))
  have H2 := Lib.hid (fun w => exread_any (n : Int) hv w)
  clear htab h0
  go_enter Tryz.func125, Tryz.ntmps125
  go_wp2_with fail
  refine H1.out.mono ?_
  rintro e w1 ⟨rfl, hb1⟩
  have H2 := Lib.hid (H2.out w1)
  unfold txt at *
  go_wp2_with fail
  refine H2.out.mono ?_
  rintro e w2 ⟨⟨v, rfl, hn2⟩, hb2⟩
  generalize hz : (n : Int) = z at *
  have HZ := Lib.hid hz; clear hz
  obtain ⟨s, rfl, k⟩ := hn2
  obtain ⟨p, c, rfl⟩ := k.len
  have hb12 := (hb1.trans (hb2.mono hb1.size)).mono (by simp : w.heap.size + 1 ≤ _)
  obtain ⟨⟨a', c', t0, t1, ts⟩, ⟨b0, b1, f0, f1⟩, hB⟩ := made_one hb12 k
  have HT := Lib.hid (And.intro ts hB)
  clear hb12 hb1 hb2 k ts hB
  go_wp2
  exact bodyPost_ret (v := .agg #[.int .i64 z.sign, .slice a' (Wh.limbs z.natAbs).length c']) (by simp [results, Tryz.results125, go_sem, t0, t1]) rfl ⟨⟨_, rfl, by rw [HZ.out]; exact ⟨_, rfl, HT.out.1⟩⟩, HT.out.2⟩
set_option maxRecDepth 100000 in
set_option maxHeartbeats 400000 in
theorem ten_any (n : Nat) (hn : n ≤ 100000) (hs : ∀ k, k ≤ n → (Wh.limbs ((10 : Int) ^ k).natAbs).length < 32) (w : World) :
    Calls Tryz.prog 158 #[.int .i64 n] w fun e w' => (∃ v', e = .returned v' ∧ Num w' v' (10 ^ n)) ∧ Below w.heap.size w w' := by
  have HS := Lib.hid hs; clear hs
  go_enter Tryz.func158, Tryz.ntmps158
  go_wp2_with fail
  refine (small_any _ 10 (by decide)).mono ?_
  rintro e w1 ⟨⟨v1, rfl, hn1⟩, hb1⟩
  have e10 : ((10 : Nat) : Int) = 10 := rfl
  rw [e10] at hn1
  obtain ⟨s1, rfl, k1⟩ := hn1
  obtain ⟨p1, c1, rfl⟩ := k1.len
  have HP := Lib.hid (power_any w1 10 n p1 c1 k1 hn HS.out)
  go_wp2_with fail
  refine HP.out.mono ?_
  rintro e w2 ⟨⟨v, rfl, hn2⟩, hb2⟩
  generalize hz : (10 : Int) ^ n = z at *
  have HZ := Lib.hid hz; clear hz
  obtain ⟨s, rfl, k⟩ := hn2
  obtain ⟨p, c, rfl⟩ := k.len
  have hb12 := (hb1.trans (hb2.mono hb1.size)).mono (by simp : w.heap.size + 1 ≤ _)
  obtain ⟨⟨a', c', t0, t1, ts⟩, ⟨b0, b1, f0, f1⟩, hB⟩ := made_one hb12 k
  have HT := Lib.hid (And.intro ts hB)
  clear hb12 hb1 hb2 k ts hB HP
  go_wp2
  exact bodyPost_ret (v := .agg #[.int .i64 z.sign, .slice a' (Wh.limbs z.natAbs).length c']) (by simp [results, Tryz.results158, go_sem, t0, t1]) rfl ⟨⟨_, rfl, by rw [HZ.out]; exact ⟨_, rfl, HT.out.1⟩⟩, HT.out.2⟩
end Go.Proofs.YteaeloeebfdodaaGreatDoor
