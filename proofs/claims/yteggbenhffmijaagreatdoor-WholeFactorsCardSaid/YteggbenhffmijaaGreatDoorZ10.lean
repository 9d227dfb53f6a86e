/- Part 10 of the proofs that laws of package whole answer true at every input and leave the input as it was, where the library's variables start as the text lays them (the texts V6, V9, V5, V11, P4). -/
import Derived.Test.YteggbenhffmijaaGreatDoorZ02
import Derived.Test.YteggbenhffmijaaGreatDoorZ09
import Derived.Deep.QuietTactic
import Derived.BigQuiet
import Derived.Test.YteggbenhffmijaaGreatDoorZ06
import Derived.Defers
import Derived.Recover
import Derived.ScopeJumps
import Derived.Test.YteggbenhffmijaaGreatDoorZ08
import Derived.OrdersIn
import Derived.RangeFuncCalls
set_option linter.unusedVariables false
set_option linter.unusedSimpArgs false
/- WALKS, order: Compare, Size. -/
namespace Go.Proofs.YteggbenhffmijaaGreatDoor
open Go.RowKit
def cmpI (x y : Int) : Int := if x < y then -1 else if y < x then 1 else 0
theorem cmp_signs {x y : Int} (h : x.sign ≠ y.sign) : cmpI x y = if x.sign < y.sign then -1 else 1 := by
  unfold cmpI
  rcases Int.lt_trichotomy x 0 with hx | hx | hx <;> rcases Int.lt_trichotomy y 0 with hy | hy | hy <;>
    simp [hx, hy, Int.sign_eq_neg_one_of_neg, Int.sign_eq_one_of_pos] at h ⊢ <;> omega
theorem sign_same {x y : Int} (h : x.sign = y.sign) : cmpI x y = Wh.cmpN x.natAbs y.natAbs * x.sign := by
  unfold cmpI Wh.cmpN
  rcases Int.lt_trichotomy x 0 with hx | hx | hx <;> rcases Int.lt_trichotomy y 0 with hy | hy | hy <;>
    simp [hx, hy, Int.sign_eq_neg_one_of_neg, Int.sign_eq_one_of_pos] at h ⊢
  all_goals (repeat' split) <;> omega
theorem cmpN_range (a b : Nat) : -1 ≤ Wh.cmpN a b ∧ Wh.cmpN a b ≤ 1 := by
  unfold Wh.cmpN
  split
  · omega
  · split <;> omega
set_option maxRecDepth 100000 in
set_option maxHeartbeats 400000 in
theorem compare_any (w : World) (v1 v2 : Value) (x y : Int) (h1 : Num w v1 x) (h2 : Num w v2 y) (hx : Fit x) :
    Calls Tryz.prog 148 #[v1, v2] w fun e w' => e = .returned (.int .i64 (cmpI x y)) ∧ Below w.heap.size w w' := by
  obtain ⟨s1, rfl, k1⟩ := h1
  obtain ⟨a1, c1, rfl⟩ := k1.len
  obtain ⟨s2, rfl, k2⟩ := h2
  obtain ⟨a2, c2, rfl⟩ := k2.len
  have hal : Below w.heap.size w ((w.alloc (.cells #[.int .i64 x.sign, .slice a1 (Wh.limbs x.natAbs).length c1] 92)).alloc (.cells #[.int .i64 y.sign, .slice a2 (Wh.limbs y.natAbs).length c2] 92)) := ((Below.refl _ _).alloc (Nat.le_refl _) _).alloc (by simp) _
  have HC := Lib.hid (fun n => compareLimbs_any (((w.alloc (.cells #[.int .i64 x.sign, .slice a1 (Wh.limbs x.natAbs).length c1] 92)).alloc (.cells #[.int .i64 y.sign, .slice a2 (Wh.limbs y.natAbs).length c2] 92)).drewN n) _ _ x.natAbs y.natAbs ((k1.mono hal).mono (below_drewN _ _ _)) ((k2.mono hal).mono (below_drewN _ _ _)) (.inl hx))
  have HAL := Lib.hid hal; clear hal k1 k2
  generalize (Wh.limbs x.natAbs).length = n1 at *
  generalize (Wh.limbs y.natAbs).length = n2 at *
  by_cases hs : x.sign = y.sign
  · have HE := Lib.hid (sign_same hs)
    have hr := cmpN_range x.natAbs y.natAbs
    have hsr := sign_range x
    rw [← hs] at HC HAL ⊢
    have hsb : (x.sign == x.sign) = true := by simp
    clear hs
    generalize Wh.cmpN x.natAbs y.natAbs = t at *
    generalize x.sign = s at *
    go_enter Tryz.func148, Tryz.ntmps148
    go_wp2_with fail
    have q0 : ((w.alloc (.cells #[.int .i64 s, .slice a1 n1 c1] 92)).alloc (.cells #[.int .i64 s, .slice a2 n2 c2] 92)).cell? ⟨w.heap.size, 0, none⟩ = some (.int .i64 s) := by go_simp
    have q1 : ((w.alloc (.cells #[.int .i64 s, .slice a1 n1 c1] 92)).alloc (.cells #[.int .i64 s, .slice a2 n2 c2] 92)).cell? ⟨w.heap.size, 1, none⟩ = some (.slice a1 n1 c1) := by go_simp
    have q2 : ((w.alloc (.cells #[.int .i64 s, .slice a1 n1 c1] 92)).alloc (.cells #[.int .i64 s, .slice a2 n2 c2] 92)).cell? ⟨w.heap.size + 1, 1, none⟩ = some (.slice a2 n2 c2) := by go_simp
    generalize ((w.alloc (.cells #[.int .i64 s, .slice a1 n1 c1] 92)).alloc (.cells #[.int .i64 s, .slice a2 n2 c2] 92)) = V at *
    have hw : -9223372036854775808 ≤ t * s ∧ t * s ≤ 9223372036854775807 := by
      rcases (by omega : s = -1 ∨ s = 0 ∨ s = 1) with rfl | rfl | rfl <;> omega
    go_quiet ((go_at_call 231; exact Calls.quiet_of (HC.out _)))
    go_wp2
    go_ret
    exact ⟨by rw [HE.out]; rfl, HAL.out.trans (below_drewN _ _ _)⟩
  · have HE := Lib.hid (cmp_signs hs)
    have hsb : (x.sign == y.sign) = false := by simpa using hs
    go_enter Tryz.func148, Tryz.ntmps148
    go_wp2_with fail
    refine (direction_any _ _).mono ?_
    rintro e w2 ⟨rfl, rfl⟩
    go_wp2
    · rename_i h
      go_ret
      exact ⟨by rw [HE.out, if_pos h]; rfl, HAL.out⟩
    · rename_i h
      go_ret
      exact ⟨by rw [HE.out, if_neg (by omega)]; rfl, HAL.out⟩
set_option maxRecDepth 100000 in
set_option maxHeartbeats 400000 in
theorem size_any (w : World) (v : Value) (x : Int) (h : Num w v x) :
    Calls Tryz.prog 239 #[v] w fun e w' => (∃ v', e = .returned v' ∧ Num w' v' (x.natAbs : Int)) ∧ Below w.heap.size w w' := by
  obtain ⟨s1, rfl, k1⟩ := h
  obtain ⟨a1, c1, rfl⟩ := k1.len
  have hss : x.sign * x.sign = (x.natAbs : Int).sign := by
    rcases Int.lt_trichotomy x 0 with hx | hx | hx
    · rw [Int.sign_eq_neg_one_of_neg hx, Int.sign_eq_one_of_pos (by omega)]; rfl
    · subst hx; rfl
    · rw [Int.sign_eq_one_of_pos hx, Int.sign_eq_one_of_pos (by omega)]; rfl
  have hn : ((x.natAbs : Int)).natAbs = x.natAbs := Int.natAbs_natCast _
  have HSS := Lib.hid hss; clear hss
  have HK := Lib.hid k1; clear k1
  have hr := sign_range x
  generalize hs : x.sign = s at *
  clear hs
  go_enter Tryz.func239, Tryz.ntmps239
  go_wp2_with fail
  have hal : Below w.heap.size w ((w.alloc (.cells #[.int .i64 s, .slice a1 (Wh.limbs x.natAbs).length c1] 92)).alloc (.cells #[.int .i64 0, .slice none 0 0] 92)) := ((Below.refl _ _).alloc (Nat.le_refl _) _).alloc (by simp) _
  have q0 : ((w.alloc (.cells #[.int .i64 s, .slice a1 (Wh.limbs x.natAbs).length c1] 92)).alloc (.cells #[.int .i64 0, .slice none 0 0] 92)).cell? ⟨w.heap.size, 0, none⟩ = some (.int .i64 s) := by go_simp
  have q1 : ((w.alloc (.cells #[.int .i64 s, .slice a1 (Wh.limbs x.natAbs).length c1] 92)).alloc (.cells #[.int .i64 0, .slice none 0 0] 92)).cell? ⟨w.heap.size, 1, none⟩ = some (.slice a1 (Wh.limbs x.natAbs).length c1) := by go_simp
  have hres := result_keep (w := w) (a := .int .i64 s) (b := .slice a1 (Wh.limbs x.natAbs).length c1) rfl (Below.refl _ _).drew
  have HS := Lib.hid ((HK.out.mono hal).mono (Below.refl _ _).drew)
  have HAL := Lib.hid hal.drew; clear hal
  generalize ((w.alloc (.cells #[.int .i64 s, .slice a1 (Wh.limbs x.natAbs).length c1] 92)).alloc (.cells #[.int .i64 0, .slice none 0 0] 92)) = V at *
  obtain ⟨b0, b1, f0, f1⟩ := hres
  refine wp_region_still_tail 8 (by kernel_rfl) (by kernel_rfl) ?_
  simp only [List.take_succ_cons, List.take_zero, List.drop_succ_cons, List.drop_zero]
  repeat still_step
  still_call (with_still s s hr hr _)
  repeat still_step
  refine wpStill_nil ?_
  change wpList _ _ _ _ _ V.drew
  clear q0 q1
  generalize V.drew = U at *
  have hfin := two_cells U (w.heap.size + 1) (.int .i64 (s * s)) (.slice a1 (Wh.limbs x.natAbs).length c1) b0 b1
  have hst := Lib.hid (HS.out.store2 (w.heap.size + 1) b0 b1 (.int .i64 (s * s)) (.slice a1 (Wh.limbs x.natAbs).length c1))
  go_wp2
  exact bodyPost_ret (v := .agg #[.int .i64 (s * s), .slice a1 (Wh.limbs x.natAbs).length c1]) (by simp [results, Tryz.results239, go_sem, hfin.1, hfin.2]) rfl ⟨⟨_, rfl, ⟨.slice a1 (Wh.limbs x.natAbs).length c1, by rw [HSS.out], by rw [hn]; exact hst.out⟩⟩, (HAL.out.setCell (Nat.le_succ _) _).setCell (Nat.le_succ _) _⟩
end Go.Proofs.YteggbenhffmijaaGreatDoor

/- WALKS, order 2: whole.Compare (attempt of a number made of T6, the rest of T7). -/
namespace Go.Proofs.YteggbenhffmijaaGreatDoor
open Go.RowKit
end Go.Proofs.YteggbenhffmijaaGreatDoor

/- WALKS, powers 2: Of, Ten. -/
namespace Go.Proofs.YteggbenhffmijaaGreatDoor
open Go.RowKit
theorem itoa_txt (n : Nat) (hn : n < 1000000000000000000) (w : World) (htab : Tab w) :
    Calls Tryz.prog 216 #[.int .i64 n] w fun e w' => e = .returned (txt n) ∧ Below w.heap.size w w' := by
  refine (Tryz.strconv_Itoa n (by omega) (by omega) w htab).mono ?_
  rintro e w' ⟨rfl, k, os, rfl⟩
  refine ⟨?_, grow_below _ _ _⟩
  unfold txt Wh.decI
  rw [if_neg (by omega), Lib.itoa, if_neg (by omega), Int.toNat_natCast, decDigits_eq, Int.natAbs_natCast]
  rfl
/-- the result variable of a function that makes one number, filled -/
theorem made_one {w w' : World} {z : Int} {a : Option Addr} {c : Nat} (hb : Below (w.heap.size + 1) (w.alloc (.cells #[.int .i64 0, .slice none 0 0] 92)) w') (hs : Sl w' (.slice a (Wh.limbs z.natAbs).length c) (Wh.limbs z.natAbs)) :
    NumAt ((w'.setCell ⟨w.heap.size, 0, none⟩ (.int .i64 z.sign)).setCell ⟨w.heap.size, 1, none⟩ (.slice a (Wh.limbs z.natAbs).length c)) w.heap.size z ∧ Blank w' w.heap.size ∧
    Below w.heap.size w ((w'.setCell ⟨w.heap.size, 0, none⟩ (.int .i64 z.sign)).setCell ⟨w.heap.size, 1, none⟩ (.slice a (Wh.limbs z.natAbs).length c)) := by
  have hB : Blank w' w.heap.size := ⟨(hb.cell (p := ⟨w.heap.size, 0, none⟩) (Nat.lt_succ_self _)).trans (by go_simp), (hb.cell (p := ⟨w.heap.size, 1, none⟩) (Nat.lt_succ_self _)).trans (by go_simp), (hb.frozen (p := ⟨w.heap.size, 0, none⟩) (Nat.lt_succ_self _)).trans (by go_simp), (hb.frozen (p := ⟨w.heap.size, 1, none⟩) (Nat.lt_succ_self _)).trans (by go_simp)⟩
  have h0 : Below w.heap.size w (w.alloc (.cells #[.int .i64 0, .slice none 0 0] 92)) := (Below.refl _ _).alloc (Nat.le_refl _) _
  exact ⟨hB.put hs, hB, ((h0.trans (hb.mono (Nat.le_succ _))).setCell (Nat.le_refl _) _).setCell (Nat.le_refl _) _⟩
set_option maxRecDepth 100000 in
set_option maxHeartbeats 400000 in
theorem of_any (n : Nat) (hn : n < 1000000000000000000) (hv : Valid n) (w : World) (htab : Tab w) :
    Calls Tryz.prog 125 #[.int .i64 n] w fun e w' => (∃ v', e = .returned v' ∧ Num w' v' n) ∧ Below w.heap.size w w' := by
  have h0 : Below w.heap.size w (w.alloc (.cells #[.int .i64 0, .slice none 0 0] 92)) := (Below.refl _ _).alloc (Nat.le_refl _) _
  have H1 := Lib.hid (itoa_txt n hn _ (htab.mono h0))
  have H2 := Lib.hid (fun w => exread_any (n : Int) hv w)
  clear htab h0
  go_enter Tryz.func125, Tryz.ntmps125
  go_wp2_with fail
  refine H1.out.mono ?_
  rintro e w1 ⟨rfl, hb1⟩
  have H2 := Lib.hid (H2.out w1)
  unfold txt at *
  go_wp2_with fail
  refine H2.out.mono ?_
  rintro e w2 ⟨⟨v, rfl, hn2⟩, hb2⟩
  generalize hz : (n : Int) = z at *
  have HZ := Lib.hid hz; clear hz
  obtain ⟨s, rfl, k⟩ := hn2
  obtain ⟨p, c, rfl⟩ := k.len
  have hb12 := (hb1.trans (hb2.mono hb1.size)).mono (by simp : w.heap.size + 1 ≤ _)
  obtain ⟨⟨a', c', t0, t1, ts⟩, ⟨b0, b1, f0, f1⟩, hB⟩ := made_one hb12 k
  have HT := Lib.hid (And.intro ts hB)
  clear hb12 hb1 hb2 k ts hB
  go_wp2
  exact bodyPost_ret (v := .agg #[.int .i64 z.sign, .slice a' (Wh.limbs z.natAbs).length c']) (by simp [results, Tryz.results125, go_sem, t0, t1]) rfl ⟨⟨_, rfl, by rw [HZ.out]; exact ⟨_, rfl, HT.out.1⟩⟩, HT.out.2⟩
set_option maxRecDepth 100000 in
set_option maxHeartbeats 400000 in
theorem ten_any (n : Nat) (hn : n ≤ 100000) (hs : ∀ k, k ≤ n → (Wh.limbs ((10 : Int) ^ k).natAbs).length < 32) (w : World) :
    Calls Tryz.prog 107 #[.int .i64 n] w fun e w' => (∃ v', e = .returned v' ∧ Num w' v' (10 ^ n)) ∧ Below w.heap.size w w' := by
  have HS := Lib.hid hs; clear hs
  go_enter Tryz.func107, Tryz.ntmps107
  go_wp2_with fail
  refine (small_any _ 10 (by decide)).mono ?_
  rintro e w1 ⟨⟨v1, rfl, hn1⟩, hb1⟩
  have e10 : ((10 : Nat) : Int) = 10 := rfl
  rw [e10] at hn1
  obtain ⟨s1, rfl, k1⟩ := hn1
  obtain ⟨p1, c1, rfl⟩ := k1.len
  have HP := Lib.hid (power_any w1 10 n p1 c1 k1 hn HS.out)
  go_wp2_with fail
  refine HP.out.mono ?_
  rintro e w2 ⟨⟨v, rfl, hn2⟩, hb2⟩
  generalize hz : (10 : Int) ^ n = z at *
  have HZ := Lib.hid hz; clear hz
  obtain ⟨s, rfl, k⟩ := hn2
  obtain ⟨p, c, rfl⟩ := k.len
  have hb12 := (hb1.trans (hb2.mono hb1.size)).mono (by simp : w.heap.size + 1 ≤ _)
  obtain ⟨⟨a', c', t0, t1, ts⟩, ⟨b0, b1, f0, f1⟩, hB⟩ := made_one hb12 k
  have HT := Lib.hid (And.intro ts hB)
  clear hb12 hb1 hb2 k ts hB HP
  go_wp2
  exact bodyPost_ret (v := .agg #[.int .i64 z.sign, .slice a' (Wh.limbs z.natAbs).length c']) (by simp [results, Tryz.results107, go_sem, t0, t1]) rfl ⟨⟨_, rfl, by rw [HZ.out]; exact ⟨_, rfl, HT.out.1⟩⟩, HT.out.2⟩
end Go.Proofs.YteggbenhffmijaaGreatDoor

/- WALKS, roots 1: Newton's steps, over any contract of the division by the power. -/
namespace Go.Proofs.YteggbenhffmijaaGreatDoor
open Go.RowKit
attribute [local go_sem] Oper.semAt_some
theorem least_is (p : Nat → Prop) : ∀ n, p n → ∃ k, p k ∧ ∀ j, p j → k ≤ j := by
  intro n
  induction n using Nat.strongRecOn with
  | _ n ih =>
    intro h
    by_cases hx : ∃ j, j < n ∧ p j
    · obtain ⟨j, hj, hp⟩ := hx; exact ih j hj hp
    · exact ⟨n, h, fun j hj => Nat.le_of_not_lt fun hl => hx ⟨j, hl, hj⟩⟩
/-- a scope with one label, told by a relation that counts down -/
theorem wp_scope_counts {P : Program} {Q : Exit → Act → World → Prop} {a : Act} {w : World} {c rest : Code} (l : Nat) (J : Nat → Act → World → Prop) (hf : findLabel c l = some (.seq .skip rest))
    (pass : ∀ n a w, J n a w → rest.wp P (Exit.jump l (fun a' w' => ∃ n', n' < n ∧ J n' a' w') Q) a w)
    (first : (∀ n a w, J n a w → rest.wp P (Exit.jump l (fun a' w' => ∃ n, J n a' w') Q) a w) → c.wp P (Exit.jump l (fun a' w' => ∃ n, J n a' w') Q) a w) : (Code.scope c).wp P Q a w := by
  classical
  have hm : ∀ a w, ∃ k, (∃ n, J n a w) → J k a w ∧ ∀ j, J j a w → k ≤ j := fun a w => by
    by_cases h : ∃ n, J n a w
    · obtain ⟨n, hn⟩ := h
      obtain ⟨k, h1, h2⟩ := least_is (fun n => J n a w) n hn
      exact ⟨k, fun _ => ⟨h1, h2⟩⟩
    · exact ⟨0, fun h' => absurd h' h⟩
  have sk : ∀ (R : Exit → Act → World → Prop) (a' : Act) (w' : World), rest.wp P R a' w' → (Code.seq .skip rest).wp P R a' w' := fun R a' w' h => wp_seq (wp_skip h)
  have up : ∀ n (a' : Act) (w' : World), J n a' w' → rest.wp P (Exit.jump l (fun a' w' => ∃ n, J n a' w') Q) a' w' := fun n a' w' h => by
    refine wp_mono (pass n a' w' h) ?_
    intro e a'' w'' he
    cases e with
    | goto l' => exact ⟨he.1, he.2.imp fun _ h => h.2⟩
    | _ => exact he
  refine wp_scope_jumps l (fun a w => ∃ n, J n a w) (fun a w => (hm a w).choose) hf (first up) ?_
  intro a' w' hJ
  have h1 := (hm a' w').choose_spec hJ
  refine sk _ _ _ ?_
  refine wp_mono (pass _ a' w' h1.1) ?_
  intro e a'' w'' he
  cases e with
  | goto l' =>
    obtain ⟨e1, n', hlt, hn'⟩ := he
    exact ⟨e1, ⟨n', hn'⟩, Nat.lt_of_le_of_lt (((hm a'' w'').choose_spec ⟨n', hn'⟩).2 n' hn') hlt⟩
  | _ => exact he
/-- the memory of Root -/
structure RootM (w wr : World) (b5 b6 b7 : Nat) (x n r : Int) : Prop where
  x : NumBox wr w.heap.size x
  t : Blank wr (w.heap.size + 1)
  d : NumBox wr b5 n
  l : NumBox wr b6 (n - 1)
  r : NumBox wr b7 r
  below : Below w.heap.size w wr
  lt1 : w.heap.size + 1 < b5
  lt2 : b5 < b6
  lt3 : b6 < b7
  size : b7 < wr.heap.size
theorem RootM.mono {w wr w' : World} {b5 b6 b7 : Nat} {x n r : Int} (h : RootM w wr b5 b6 b7 x n r) (hb : Below wr.heap.size wr w') : RootM w w' b5 b6 b7 x n r := by
  have h1 := h.lt1; have h2 := h.lt2; have h3 := h.lt3; have h4 := h.size
  exact ⟨h.x.mono hb (by omega), h.t.mono hb (by omega), h.d.mono hb (by omega), h.l.mono hb (by omega), h.r.mono hb (by omega), h.below.trans (hb.mono h.below.size), h1, h2, h3, Nat.lt_of_lt_of_le h4 hb.size⟩
theorem RootM.put {w wr : World} {b5 b6 b7 : Nat} {x n r u : Int} {a : Option Addr} {c : Nat} (h : RootM w wr b5 b6 b7 x n r) (hs : Sl wr (.slice a (Wh.limbs u.natAbs).length c) (Wh.limbs u.natAbs)) :
    RootM w ((wr.setCell ⟨b7, 0, none⟩ (.int .i64 u.sign)).setCell ⟨b7, 1, none⟩ (.slice a (Wh.limbs u.natAbs).length c)) b5 b6 b7 x n u := by
  have h1 := h.lt1; have h2 := h.lt2; have h3 := h.lt3; have h4 := h.size
  exact ⟨h.x.far h.r (by omega) _ _, h.t.far (by omega) _ _, h.d.far h.r (by omega) _ _, h.l.far h.r (by omega) _ _, h.r.put hs, (h.below.setCell (by show w.heap.size ≤ b7; omega) _).setCell (by show w.heap.size ≤ b7; omega) _, h1, h2, h3, by simpa using h4⟩
/-- what is looked at is not written -/
theorem NumBox.see {w w' : World} {b : Nat} {x : Int} (h : NumBox w b x) (hl : b < w.heap.size) (hb : Below w.heap.size w w') : ∃ a c, w'.cell? ⟨b, 0, none⟩ = some (.int .i64 x.sign) ∧ w'.cell? ⟨b, 1, none⟩ = some (.slice a (Wh.limbs x.natAbs).length c) ∧ Sl w' (.slice a (Wh.limbs x.natAbs).length c) (Wh.limbs x.natAbs) := h.num.mono hb hl
theorem new_two {w : World} {Φ : Nat → Value → World → Prop} (hold : ∀ j u, Φ j u w → ∀ c, u = .pointer (some ⟨c, 0, none⟩) → c < w.heap.size) (B : Nat) (hB : w.heap.size ≤ B) (j : Nat) (u : Value) (h : Φ j u w) : Two2 (.pointer (some ⟨B, 0, none⟩)) u ∧ Two2 u (.pointer (some ⟨B, 0, none⟩)) := by
  refine ⟨fun b c e1 e2 => ?_, fun b c e1 e2 => ?_⟩
  · cases e1; have := hold j u h c e2; omega
  · cases e2; have := hold j u h b e1; omega
theorem fresh_old {n : Nat} {w : World} {u : Value} (h : Fresh n w u) : ∀ c, u = .pointer (some ⟨c, 0, none⟩) → c < w.heap.size := by
  rintro c rfl; obtain ⟨b, e, _, hl, _⟩ := h; cases e; exact hl

def RA (B : Nat) (x r : Int) (m n : Nat) : Nat → Value → World → Prop
  | 0, v, w => Num w v x
  | 1, v, w => Num w v r
  | 2, v, _ => v = .int .i64 (n : Int)
  | 3, v, _ => v = .int .i64 (m : Int)
  | 4, v, w => Num w v (r ^ m)
  | 5, v, w | 6, v, w => ∃ vq vr, v = .tuple #[vq, vr] ∧ Num w vq (x.tdiv (r ^ m)) ∧ Num w vr (x.tmod (r ^ m))
  | 7, v, w => Num w v (x.tdiv (r ^ m))
  | 8, v, w => Num w v (x.tmod (r ^ m))
  | 9, v, w | 10, v, w => Fresh B w v
  | _, v, _ => v = .bool true
theorem RA_stays (B : Nat) (x r : Int) (m n : Nat) : ∀ i v w w', RA B x r m n i v w → Below w.heap.size w w' → RA B x r m n i v w' := by
  intro i v w w' h hb
  match i, h with
  | 0, h | 1, h | 4, h | 7, h | 8, h => exact Num.mono h hb
  | 2, h | 3, h => exact h
  | 5, h | 6, h => obtain ⟨p, q, e, h1, h2⟩ := h; exact ⟨p, q, e, h1.mono hb, h2.mono hb⟩
  | 9, h | 10, h => exact Fresh.mono h hb
  | _ + 11, h => exact h
theorem ra_old {B0 : Nat} {x r : Int} {m n : Nat} {w : World} : ∀ j u, RA B0 x r m n j u w → ∀ c, u = .pointer (some ⟨c, 0, none⟩) → c < w.heap.size := by
  intro j u h c e
  match j, h with
  | 0, h | 1, h | 4, h | 7, h | 8, h => exact absurd e (num_np h _)
  | 2, h | 3, h => subst e; cases h
  | 5, h | 6, h => obtain ⟨p, q, e1, _, _⟩ := h; subst e; cases e1
  | 9, h | 10, h => exact fresh_old h c e
  | _ + 11, h => subst e; cases h
def RB (B : Nat) (d l r q pr sm st rm : Int) : Nat → Value → World → Prop
  | 0, v, w => Num w v l
  | 1, v, w => Num w v r
  | 2, v, w => ∃ (ab : Nat) (ea : Option Addr) (ec : Nat), v = .slice (some ⟨ab, 0, none⟩) 1 1 ∧ ab < w.heap.size ∧ B ≤ ab ∧ Holds w ab 0 r.sign ea (Wh.limbs r.natAbs).length ec r
  | 3, v, w => Num w v pr
  | 4, v, w => Num w v q
  | 5, v, w => Num w v sm
  | 6, v, w => Num w v d
  | 7, v, w | 8, v, w => ∃ vq vr, v = .tuple #[vq, vr] ∧ Num w vq st ∧ Num w vr rm
  | 9, v, w => Num w v st
  | 10, v, w => Num w v rm
  | 11, v, w | 12, v, w => Fresh B w v
  | _, v, _ => v = .bool true

theorem RB_stays (B : Nat) (d l r q pr sm st rm : Int) : ∀ i v w w', RB B d l r q pr sm st rm i v w → Below w.heap.size w w' → RB B d l r q pr sm st rm i v w' := by
  intro i v w w' h hb
  match i, h with
  | 0, h | 1, h | 3, h | 4, h | 5, h | 6, h | 9, h | 10, h => exact Num.mono h hb
  | 2, h => obtain ⟨ab, ea, ec, e, h1, h2, h3⟩ := h; exact ⟨ab, ea, ec, e, Nat.lt_of_lt_of_le h1 hb.size, h2, h3.mono h1 hb⟩
  | 7, h | 8, h => obtain ⟨p, q, e, h1, h2⟩ := h; exact ⟨p, q, e, h1.mono hb, h2.mono hb⟩
  | 11, h | 12, h => exact Fresh.mono h hb
  | _ + 13, h => exact h
theorem rb_old {B0 : Nat} {d l r q pr sm st rm : Int} {w : World} : ∀ j u, RB B0 d l r q pr sm st rm j u w → ∀ c, u = .pointer (some ⟨c, 0, none⟩) → c < w.heap.size := by
  intro j u h c e
  match j, h with
  | 0, h | 1, h | 3, h | 4, h | 5, h | 6, h | 9, h | 10, h => exact absurd e (num_np h _)
  | 2, h => obtain ⟨ab, ea, ec, e1, _⟩ := h; subst e; cases e1
  | 7, h | 8, h => obtain ⟨p, q, e1, _, _⟩ := h; subst e; cases e1
  | 11, h | 12, h => exact fresh_old h c e
  | _ + 13, h => subst e; cases h
def stepR (x : Int) (m n : Nat) (r : Int) : Int := (((n : Int) - 1) * r + x.tdiv (r ^ m)).tdiv (n : Int)
structure RootFit (x : Int) (m n : Nat) (r : Int) : Prop where
  pos : 0 ≤ r
  r8 : (Wh.limbs r.natAbs).length ≤ 1000
  pw : ∀ j, j ≤ m → (Wh.limbs (r ^ j).natAbs).length < 32
  lfit : Fit ((n : Int) - 1)
  pr : Fit (((n : Int) - 1) * r)
  sh : Fit (x.tdiv (r ^ m))
  sm : (Wh.limbs (((n : Int) - 1) * r + x.tdiv (r ^ m)).natAbs).length ≤ 1000
  st : Fit (stepR x m n r)
  nn : 0 ≤ stepR x m n r
theorem cmpN_lt_iff (a b : Int) (ha : 0 ≤ a) (hb : 0 ≤ b) : decide (Wh.cmpN a.natAbs b.natAbs < 0) = decide (a < b) := by
  unfold Wh.cmpN
  by_cases h : a < b
  · rw [if_pos (by omega), decide_eq_true h]; rfl
  · rw [if_neg (by omega), decide_eq_false h]; split <;> rfl

theorem RA_new {B0 : Nat} {x r : Int} {m n : Nat} {w : World} (B : Nat) (hB : w.heap.size ≤ B) (j : Nat) (u : Value) (h : RA B0 x r m n j u w) : Two2 (.pointer (some ⟨B, 0, none⟩)) u ∧ Two2 u (.pointer (some ⟨B, 0, none⟩)) := new_two ra_old B hB j u h
theorem RB_new {B0 : Nat} {d l r q pr sm st rm : Int} {w : World} (B : Nat) (hB : w.heap.size ≤ B) (j : Nat) (u : Value) (h : RB B0 d l r q pr sm st rm j u w) : Two2 (.pointer (some ⟨B, 0, none⟩)) u ∧ Two2 u (.pointer (some ⟨B, 0, none⟩)) := new_two rb_old B hB j u h
def RL (n : Nat) (d : Int) : Nat → Value → World → Prop
  | 0, v, w => Num w v d
  | 1, v, w => Num w v 1
  | 2, v, w => Num w v (d - 1)
  | 3, v, w => Fresh n w v
  | _, _, _ => True
theorem RL_stays (n : Nat) (d : Int) : ∀ i v w w', RL n d i v w → Below w.heap.size w w' → RL n d i v w' := by
  intro i v w w' h hb
  match i, h with
  | 0, h | 1, h | 2, h => exact Num.mono h hb
  | 3, h => exact Fresh.mono h hb
  | _ + 4, h => trivial

structure First5 (w wr : World) (b5 : Nat) (x n : Int) : Prop where
  x : NumBox wr w.heap.size x
  t : Blank wr (w.heap.size + 1)
  d : NumBox wr b5 n
  below : Below w.heap.size w wr
  lt1 : w.heap.size + 1 < b5
  size : b5 < wr.heap.size
theorem First5.mono {w wr w' : World} {b5 : Nat} {x n : Int} (h : First5 w wr b5 x n) (hb : Below wr.heap.size wr w') : First5 w w' b5 x n := by
  have h1 := h.lt1; have h4 := h.size
  exact ⟨h.x.mono hb (by omega), h.t.mono hb (by omega), h.d.mono hb (by omega), h.below.trans (hb.mono h.below.size), h1, Nat.lt_of_lt_of_le h4 hb.size⟩
structure RootE (l r q pr sm st rm : Int) (n : Nat) : Prop where
  epr : l * r = pr
  esm : pr + q = sm
  est : sm.tdiv n = st
  erm : sm.tmod n = rm
  lfit : Fit l
  r8 : (Wh.limbs r.natAbs).length ≤ 1000
  fpr : Fit pr
  fq : Fit q
  lsm : (Wh.limbs sm.natAbs).length ≤ 1000

set_option maxRecDepth 100000 in
set_option maxHeartbeats 1000000 in
theorem root_from (w : World) (x : Int) (m n k : Nat) (hnm : n = m + 1) (Inv : Int → Prop) (xa : Option Addr) (xc : Nat) (hs : Sl w (.slice xa (Wh.limbs x.natAbs).length xc) (Wh.limbs x.natAbs)) (hx : 0 < x) (hxl : (Wh.limbs x.natAbs).length ≤ 1000) (hm : m ≤ 19) (htab : Tab w) (hvn : Valid (n : Int)) (hfn : Fit (n : Int))
    (hk : (((Wh.decN x.natAbs).length : Int) + (n : Int) - 1) / (n : Int) = (k : Int)) (hld : (Wh.decN x.natAbs).length ≤ 100000) (hk5 : k ≤ 1000) (h10 : ∀ j, j ≤ k → (Wh.limbs ((10 : Int) ^ j).natAbs).length < 32) (h0 : Inv (10 ^ k))
    (hr : ∀ r, Inv r → RootFit x m n r) (hstep : ∀ r, Inv r → stepR x m n r < r → Inv (stepR x m n r))
    (hQ : ∀ r, Inv r → ∀ w va vb, Num w va x → Num w vb (r ^ m) → Calls Tryz.prog 241 #[va, vb] w fun e w' => (∃ vq vr, e = .returned (.tuple #[vq, vr]) ∧ Num w' vq (x.tdiv (r ^ m)) ∧ Num w' vr (x.tmod (r ^ m))) ∧ Below w.heap.size w w') :
    Calls Tryz.prog 230 #[.agg #[.int .i64 x.sign, .slice xa (Wh.limbs x.natAbs).length xc], .int .i64 (n : Int)] w fun e w' => (∃ r v', Inv r ∧ r ≤ stepR x m n r ∧ e = .returned v' ∧ Num w' v' r) ∧ Below w.heap.size w w' := by
  have HS := Lib.hid hs; clear hs
  have HK := Lib.hid hk; have HT := Lib.hid (And.intro h10 h0); have HR := Lib.hid hr; have HST := Lib.hid hstep; have HQ := Lib.hid hQ; clear hk h10 h0 hr hstep hQ
  have hsg : (x.sign == 0) = false := by rw [Int.sign_eq_one_of_pos hx]; rfl
  have HX := Lib.hid hx; clear hx
  have HNM := Lib.hid hnm; clear hnm
  go_enter Tryz.func230, Tryz.ntmps230
  go_wp2_with fail
  refine wp_scope_counts 0 (fun N a' V => ∃ (b5 b6 b7 : Nat) (r : Int) (u : Nat → Value), Hid (N = r.toNat ∧ Inv r ∧ RootM w V b5 b6 b7 x (n : Int) r) ∧ a' = { tmps := #[.agg #[.int .i64 x.sign, .slice xa (Wh.limbs x.natAbs).length xc], .int .i64 (n : Int), .pointer (some ⟨w.heap.size, 0, none⟩), undef, .pointer (some ⟨w.heap.size + 1, 0, none⟩), .pointer (some ⟨b5, 0, none⟩), .pointer (some ⟨b6, 0, none⟩), .pointer (some ⟨b7, 0, none⟩), u 8, u 9, u 10, u 11, u 12, u 13, u 14, u 15, u 16, u 17, u 18, u 19, u 20, u 21, u 22, u 23, u 24, u 25, u 26, u 27, u 28, u 29, u 30, u 31, u 32, u 33, u 34, u 35, u 36, u 37, u 38, u 39, u 40, u 41, u 42, u 43, u 44, u 45, u 46, u 47, u 48, u 49, u 50, u 51, u 52, u 53, u 54, u 55, u 56], defers := [] }) rfl ?pass ?first
  case pass =>
    rintro N a' V ⟨b5, b6, b7, r, u, HJ, rfl⟩
    have HI := Lib.hid HJ.out.2.1
    have HM := Lib.hid HJ.out.2.2
    have hN := HJ.out.1
    subst hN
    have HF := Lib.hid (HR.out r HI.out)
    have hl0 : w.heap.size < V.heap.size := by have := HM.out.below.size; have := HM.out.lt1; have := HM.out.lt2; have := HM.out.lt3; have := HM.out.size; omega
    have hl5 : b5 < V.heap.size := by have := HM.out.lt2; have := HM.out.lt3; have := HM.out.size; omega
    have hl6 : b6 < V.heap.size := by have := HM.out.lt3; have := HM.out.size; omega
    have hl7 : b7 < V.heap.size := HM.out.size
    clear HJ HT HS
    go_wp2_with fail
    refine wp_mono (Q := fun e a W' => e = .normal ∧ ∃ (vals : Nat → Value) (b8 : Nat), a = { tmps := #[.agg #[.int .i64 x.sign, .slice xa (Wh.limbs x.natAbs).length xc], .int .i64 (n : Int), .pointer (some ⟨w.heap.size, 0, none⟩), undef, .pointer (some ⟨w.heap.size + 1, 0, none⟩), .pointer (some ⟨b5, 0, none⟩), .pointer (some ⟨b6, 0, none⟩), .pointer (some ⟨b7, 0, none⟩), vals 9, vals 10, u 10, u 11, u 12, u 13, u 14, u 15, u 16, u 17, u 18, u 19, u 20, u 21, u 22, u 23, u 24, u 25, u 26, u 27, u 28, vals 6, vals 0, vals 1, vals 2, vals 3, vals 4, vals 5, vals 7, vals 8, u 38, u 39, u 40, u 41, u 42, u 43, u 44, u 45, u 46, u 47, u 48, u 49, u 50, u 51, u 52, u 53, u 54, u 55, u 56], defers := [] } ∧ vals 9 = .pointer (some ⟨b8, 0, none⟩) ∧ V.heap.size ≤ b8 ∧ NumAt W' b8 (x.tdiv (r ^ m)) ∧ b8 < W'.heap.size ∧ Below V.heap.size V W') ?_ ?_
    refine Rt.wp_region_pairs (n0 := 2) [11, 12] [8] 57 (fun vals => { tmps := #[.agg #[.int .i64 x.sign, .slice xa (Wh.limbs x.natAbs).length xc], .int .i64 (n : Int), .pointer (some ⟨w.heap.size, 0, none⟩), undef, .pointer (some ⟨w.heap.size + 1, 0, none⟩), .pointer (some ⟨b5, 0, none⟩), .pointer (some ⟨b6, 0, none⟩), .pointer (some ⟨b7, 0, none⟩), vals 9, vals 10, u 10, u 11, u 12, u 13, u 14, u 15, u 16, u 17, u 18, u 19, u 20, u 21, u 22, u 23, u 24, u 25, u 26, u 27, u 28, vals 6, vals 0, vals 1, vals 2, vals 3, vals 4, vals 5, vals 7, vals 8, u 38, u 39, u 40, u 41, u 42, u 43, u 44, u 45, u 46, u 47, u 48, u 49, u 50, u 51, u 52, u 53, u 54, u 55, u 56], defers := [] }) (RA V.heap.size x r m n) Two2 (by kernel_rfl) (by kernel_rfl) (by kernel_rfl) (by kernel_rfl) (fun _ _ _ _ _ h => absurd h.1 (by simp)) (by kernel_rfl) rfl (fun _ => by kernel_rfl) (by kernel_rfl) (by kernel_rfl) (RA_stays _ _ _ _ _) ?_ ?_ ?_
    · intro i o d hi hT hW hd vals w' hb hf
      have hlt : i < 13 := (Array.getElem?_eq_some_iff.1 hi).1
      rcases i with _ | _ | _ | _ | _ | _ | _ | _ | _ | _ | _ | _ | _ | i
      · obtain rfl := Option.some.inj hi
        obtain rfl := Option.some.inj hd
        obtain ⟨ga, gc, z0, z1, zs⟩ := HM.out.x.see hl0 hb
        have ZS := Lib.hid zs; clear zs
        dsimp only
        go_simp
        exact ⟨⟨_, rfl, ZS.out⟩, Below.refl _ _, fun j u _ _ => two2_of (by intro p e; cases e)⟩
      · obtain rfl := Option.some.inj hi
        obtain rfl := Option.some.inj hd
        obtain ⟨ga, gc, z0, z1, zs⟩ := HM.out.r.see hl7 hb
        have ZS := Lib.hid zs; clear zs
        dsimp only
        go_simp
        exact ⟨⟨_, rfl, ZS.out⟩, Below.refl _ _, fun j u _ _ => two2_of (by intro p e; cases e)⟩
      · obtain rfl := Option.some.inj hi
        obtain rfl := Option.some.inj hd
        dsimp only
        go_simp
        exact ⟨rfl, Below.refl _ _, fun j u _ _ => two2_of (by intro p e; cases e)⟩
      · obtain rfl := Option.some.inj hi
        obtain rfl := Option.some.inj hd
        have e0 : vals 2 = _ := hf 2 (by kernel_rfl)
        dsimp only
        rw [e0]
        have w1 : IntKind.i64.wrap ((n : Int) - 1) = (m : Int) := by have hnm := HNM.out; rw [wrap_i64 _ (by omega) (by omega)]; omega
        have W1 := Lib.hid w1; clear w1
        go_simp
        exact ⟨congrArg (Value.int .i64) W1.out, Below.refl _ _, fun j u _ _ => two2_of (by intro p e; cases e)⟩
      · obtain rfl := Option.some.inj hi
        obtain rfl := Option.some.inj hd
        obtain ⟨s1, e1, k1⟩ := hf 1 (by kernel_rfl)
        have e0 : vals 3 = _ := hf 3 (by kernel_rfl)
        obtain ⟨p1, c1, rfl⟩ := k1.len
        have HP := Lib.hid (power_any w' r m p1 c1 k1 (by omega) HF.out.pw)
        clear k1
        dsimp only
        rw [e1, e0]
        go_simp
        refine HP.out.mono ?_
        rintro e w5 ⟨⟨v5, rfl, hn5⟩, hb5⟩
        exact ⟨hn5, hb5, fun j u _ _ => two2_of (num_np hn5)⟩
      · obtain rfl := Option.some.inj hi
        obtain rfl := Option.some.inj hd
        have h0 : Num w' (vals 0) x := hf 0 (by kernel_rfl)
        have h4 : Num w' (vals 4) (r ^ m) := hf 4 (by kernel_rfl)
        have HP := HQ.out r HI.out w' _ _ h0 h4
        obtain ⟨s0, e0, -⟩ := h0
        obtain ⟨s4, e4, -⟩ := h4
        rw [e0, e4] at HP
        have HP := Lib.hid HP
        dsimp only
        rw [e0, e4]
        go_simp
        refine HP.out.mono ?_
        rintro e w5 ⟨⟨vq, vr, rfl, h6, h7⟩, hb5⟩
        exact ⟨⟨vq, vr, rfl, h6, h7⟩, hb5, fun j u _ _ => two2_of (by intro p e; cases e)⟩
      · obtain rfl := Option.some.inj hi
        obtain rfl := Option.some.inj hd
        obtain ⟨vq, vr, e5, h1, h2⟩ := hf 5 (by kernel_rfl)
        dsimp only
        rw [e5]
        go_simp
        exact ⟨⟨vq, vr, rfl, h1, h2⟩, Below.refl _ _, fun j u _ _ => two2_of (by intro p e; cases e)⟩
      · obtain rfl := Option.some.inj hi
        obtain rfl := Option.some.inj hd
        obtain ⟨vq, vr, e5, h1, h2⟩ := hf 6 (by kernel_rfl)
        dsimp only
        rw [e5]
        go_simp
        exact ⟨h1, Below.refl _ _, fun j u _ _ => two2_of (num_np h1)⟩
      · cases hW
      · obtain rfl := Option.some.inj hi
        obtain rfl := Option.some.inj hd
        dsimp only
        go_simp
        exact ⟨⟨w'.heap.size, rfl, hb.size, by simp, by go_simp, by go_simp, by go_simp, by go_simp⟩, (Below.refl _ _).alloc (Nat.le_refl _) _, fun j u _ hu => RA_new _ (Nat.le_refl _) j u hu⟩
      · obtain rfl := Option.some.inj hi
        obtain rfl := Option.some.inj hd
        dsimp only
        go_simp
        exact ⟨⟨w'.heap.size, rfl, hb.size, by simp, by go_simp, by go_simp, by go_simp, by go_simp⟩, (Below.refl _ _).alloc (Nat.le_refl _) _, fun j u _ hu => RA_new _ (Nat.le_refl _) j u hu⟩
      · cases hT
      · cases hT
      · omega
    · intro p o d hi hW hd vals w' hb hf
      have hlt : p < 13 := (Array.getElem?_eq_some_iff.1 hi).1
      rcases p with _ | _ | _ | _ | _ | _ | _ | _ | _ | _ | _ | _ | _ | p
      · cases hW
      · cases hW
      · cases hW
      · cases hW
      · cases hW
      · cases hW
      · cases hW
      · cases hW
      · obtain rfl := Option.some.inj hi
        obtain rfl := Option.some.inj hd
        obtain ⟨vq, vr, e5, h1, h2⟩ := hf 6 (by kernel_rfl)
        exact ⟨vr, fun w'' => by dsimp only; rw [e5]; go_simp, h2, fun j u _ _ => two2_of (num_np h2)⟩
      · cases hW
      · cases hW
      · cases hW
      · cases hW
      · omega
    · intro vals w' hb hf hp
      obtain ⟨s4, e4, h4⟩ := hf 7 (by decide) rfl
      obtain ⟨s5, e5, h5⟩ := hf 8 (by decide) rfl
      obtain ⟨b8, e6, n6, l6, B6⟩ := Fresh.blank (hf 9 (by decide) rfl)
      obtain ⟨b9, e7, n7, l7, B7⟩ := Fresh.blank (hf 10 (by decide) rfl)
      have h67 := hp 9 10 (by decide) (by decide) rfl rfl (by decide) _ _ e6 e7
      obtain ⟨p4, c4, rfl⟩ := h4.len
      obtain ⟨p5, c5, rfl⟩ := h5.len
      have HB := Lib.hid hb; clear hb hf hp
      have K4 := Lib.hid h4; clear h4 h5
      have BB6 := Lib.hid B6
      have BB7 := Lib.hid B7
      clear B7
      obtain ⟨x0, x1, f0, f1⟩ := B6
      generalize hq : x.tdiv (r ^ m) = qq at *
      generalize hrr : x.tmod (r ^ m) = rq at *
      rw [e4, e5, e6, e7]
      refine Rt.wpAny_step (i := 11) (by kernel_rfl) rfl (by rfl) (fun K hK => ?_)
      have HK := Lib.hid hK; clear hK
      go_simp
      refine HK.out _ _ ?_
      clear HK x0 x1 f0 f1
      have N6 := Lib.hid (BB6.out.put K4.out)
      have B7' := BB7.out.far h67 (.int .i64 qq.sign) (.slice p4 (Wh.limbs qq.natAbs).length c4)
      have HB' : Hid (Below V.heap.size V ((w'.setCell ⟨b8, 0, none⟩ (.int .i64 qq.sign)).setCell ⟨b8, 1, none⟩ (.slice p4 (Wh.limbs qq.natAbs).length c4))) := Lib.hid ((HB.out.setCell n6 _).setCell n6 _)
      have l6' : b8 < ((w'.setCell ⟨b8, 0, none⟩ (.int .i64 qq.sign)).setCell ⟨b8, 1, none⟩ (.slice p4 (Wh.limbs qq.natAbs).length c4)).heap.size := by simpa using l6
      clear BB6 BB7 HB K4
      generalize ((w'.setCell ⟨b8, 0, none⟩ (.int .i64 qq.sign)).setCell ⟨b8, 1, none⟩ (.slice p4 (Wh.limbs qq.natAbs).length c4)) = U at *
      have BB7 := Lib.hid B7'
      obtain ⟨x0, x1, f0, f1⟩ := B7'
      refine Rt.wpAny_step (i := 12) (by kernel_rfl) rfl (by rfl) (fun K hK => ?_)
      have HK := Lib.hid hK; clear hK
      go_simp
      refine HK.out _ _ ?_
      clear HK x0 x1 f0 f1
      exact Rt.wpAny_end (by kernel_rfl) ⟨rfl, vals, b8, by rw [e4, e5, e6, e7], e6, n6, N6.out.far BB7.out (Ne.symm h67) _ _, by simpa using l6', (HB'.out.setCell n7 _).setCell n7 _⟩
    rintro e a W ⟨rfl, va, b8, rfl, ea, hV8, h8, hl8, hb⟩
    have HM' := Lib.hid (HM.out.mono hb)
    clear HM; have HM := HM'; clear HM'
    have hbs := hb.size
    replace hl0 : w.heap.size < W.heap.size := by omega
    replace hl5 : b5 < W.heap.size := by omega
    replace hl6 : b6 < W.heap.size := by omega
    have h78 : b7 < b8 := by omega
    replace hl7 : b7 < W.heap.size := by omega
    clear hb hbs hV8
    obtain ⟨q, hq⟩ : ∃ q, q = x.tdiv (r ^ m) := ⟨_, rfl⟩
    obtain ⟨l, hl⟩ : ∃ l, l = (n : Int) - 1 := ⟨_, rfl⟩
    obtain ⟨pr, hpr⟩ : ∃ pr, pr = l * r := ⟨_, rfl⟩
    obtain ⟨sm, hsm⟩ : ∃ sm, sm = pr + q := ⟨_, rfl⟩
    obtain ⟨st, hst⟩ : ∃ st, st = sm.tdiv n := ⟨_, rfl⟩
    obtain ⟨rm, hrm⟩ : ∃ rm, rm = sm.tmod n := ⟨_, rfl⟩
    have HE : Hid (RootE l r q pr sm st rm n) := Lib.hid ⟨hpr.symm, hsm.symm, hst.symm, hrm.symm, by rw [hl]; exact HF.out.lfit, HF.out.r8, by rw [hpr, hl]; exact HF.out.pr, by rw [hq]; exact HF.out.sh, by rw [hsm, hpr, hl, hq]; exact HF.out.sm⟩
    have HSP : Hid (stepR x m n r = st) := Lib.hid (by rw [hst, hsm, hpr, hl, hq]; rfl)
    rw [← hq] at h8
    have HMl : ∃ y, y = l ∧ NumBox W b6 y := ⟨(n : Int) - 1, hl.symm, HM.out.l⟩
    obtain ⟨y, hy, HML⟩ := HMl
    rw [hy] at HML
    have HML := Lib.hid HML
    clear hq hl hpr hsm hst hrm hy
    have H8 := Lib.hid h8; clear h8
    rw [ea]
    go_wp2_with fail
    clear ea
    generalize W = V at *
    refine wp_mono (Q := fun e a W' => e = .normal ∧ ∃ (vals : Nat → Value) (b10 : Nat), a = { tmps := #[.agg #[.int .i64 x.sign, .slice xa (Wh.limbs x.natAbs).length xc], .int .i64 (n : Int), .pointer (some ⟨w.heap.size, 0, none⟩), undef, .pointer (some ⟨w.heap.size + 1, 0, none⟩), .pointer (some ⟨b5, 0, none⟩), .pointer (some ⟨b6, 0, none⟩), .pointer (some ⟨b7, 0, none⟩), .pointer (some ⟨b8, 0, none⟩), va 10, vals 11, vals 12, u 12, u 13, u 14, u 15, u 16, u 17, u 18, u 19, u 20, u 21, u 22, u 23, u 24, u 25, u 26, u 27, u 28, va 6, va 0, va 1, va 2, va 3, va 4, va 5, va 7, va 8, vals 8, vals 0, vals 1, vals 2, vals 3, vals 4, vals 5, vals 6, vals 7, vals 9, vals 10, u 49, u 50, u 51, u 52, u 53, u 54, u 55, u 56], defers := [] } ∧ vals 11 = .pointer (some ⟨b10, 0, none⟩) ∧ V.heap.size ≤ b10 ∧ NumAt W' b10 (st) ∧ b10 < W'.heap.size ∧ Below V.heap.size V W') ?_ ?_
    refine Rt.wp_region_pairs (n0 := 2) [13, 14] [10] 57 (fun vals => { tmps := #[.agg #[.int .i64 x.sign, .slice xa (Wh.limbs x.natAbs).length xc], .int .i64 (n : Int), .pointer (some ⟨w.heap.size, 0, none⟩), undef, .pointer (some ⟨w.heap.size + 1, 0, none⟩), .pointer (some ⟨b5, 0, none⟩), .pointer (some ⟨b6, 0, none⟩), .pointer (some ⟨b7, 0, none⟩), .pointer (some ⟨b8, 0, none⟩), va 10, vals 11, vals 12, u 12, u 13, u 14, u 15, u 16, u 17, u 18, u 19, u 20, u 21, u 22, u 23, u 24, u 25, u 26, u 27, u 28, va 6, va 0, va 1, va 2, va 3, va 4, va 5, va 7, va 8, vals 8, vals 0, vals 1, vals 2, vals 3, vals 4, vals 5, vals 6, vals 7, vals 9, vals 10, u 49, u 50, u 51, u 52, u 53, u 54, u 55, u 56], defers := [] }) (RB V.heap.size (n : Int) l r q pr sm st rm) Two2 (by kernel_rfl) (by kernel_rfl) (by kernel_rfl) (by kernel_rfl) (fun _ _ _ _ _ h => absurd h.1 (by simp)) (by kernel_rfl) rfl (fun _ => by kernel_rfl) (by kernel_rfl) (by kernel_rfl) (RB_stays _ _ _ _ _ _ _ _ _) ?_ ?_ ?_
    · intro i o d hi hT hW hd vals w' hb hf
      have hlt : i < 15 := (Array.getElem?_eq_some_iff.1 hi).1
      rcases i with _ | _ | _ | _ | _ | _ | _ | _ | _ | _ | _ | _ | _ | _ | _ | i
      · obtain rfl := Option.some.inj hi
        obtain rfl := Option.some.inj hd
        obtain ⟨ga, gc, z0, z1, zs⟩ := HML.out.see hl6 hb
        have ZS := Lib.hid zs; clear zs
        dsimp only
        go_simp
        exact ⟨⟨_, rfl, ZS.out⟩, Below.refl _ _, fun j u _ _ => two2_of (by intro p e; cases e)⟩
      · obtain rfl := Option.some.inj hi
        obtain rfl := Option.some.inj hd
        obtain ⟨ga, gc, z0, z1, zs⟩ := HM.out.r.see hl7 hb
        have ZS := Lib.hid zs; clear zs
        dsimp only
        go_simp
        exact ⟨⟨_, rfl, ZS.out⟩, Below.refl _ _, fun j u _ _ => two2_of (by intro p e; cases e)⟩
      · obtain rfl := Option.some.inj hi
        obtain rfl := Option.some.inj hd
        obtain ⟨s1, e1, k1⟩ := hf 1 (by kernel_rfl)
        obtain ⟨p1, c1, rfl⟩ := k1.len
        have al : Below w'.heap.size w' (w'.alloc (Obj.cells #[.int .i64 r.sign, .slice p1 (Wh.limbs r.natAbs).length c1] 92)) := (Below.refl _ _).alloc (Nat.le_refl _) _
        have K1 := Lib.hid (k1.mono al); clear k1 al
        dsimp only
        rw [e1]
        go_simp
        exact ⟨⟨w'.heap.size, p1, c1, rfl, by simp, hb.size, by go_simp, by go_simp, rfl, K1.out⟩, (Below.refl _ _).alloc (Nat.le_refl _) _, fun j u _ _ => two2_of (by intro p e; cases e)⟩
      · obtain rfl := Option.some.inj hi
        obtain rfl := Option.some.inj hd
        have h0 : Num w' (vals 0) _ := hf 0 (by kernel_rfl)
        obtain ⟨ab, ea, ec, e2, hab1, hab2, hab3⟩ := hf 2 (by kernel_rfl)
        have HP := product_any w' ab _ r hab1 _ h0 r.sign ea (Wh.limbs r.natAbs).length ec hab3 (by have := HE.out.lfit; unfold Fit at this; omega) (Nat.le_trans HE.out.r8 (by decide)) (.inl (by have := HE.out.lfit; unfold Fit at this; omega))
        rw [HE.out.epr] at HP
        obtain ⟨s0, e0, -⟩ := h0
        rw [e0] at HP
        have HP := Lib.hid HP
        clear hab3
        dsimp only
        rw [e0, e2]
        go_simp
        refine HP.out.mono ?_
        rintro e w5 ⟨⟨v5, rfl, hn5⟩, hb5⟩
        exact ⟨hn5, hb5, fun j u _ _ => two2_of (num_np hn5)⟩
      · obtain rfl := Option.some.inj hi
        obtain rfl := Option.some.inj hd
        obtain ⟨ga, gc, z0, z1, zs⟩ := H8.out.mono hb hl8
        have ZS := Lib.hid zs; clear zs
        dsimp only
        go_simp
        exact ⟨⟨_, rfl, ZS.out⟩, Below.refl _ _, fun j u _ _ => two2_of (by intro p e; cases e)⟩
      · obtain rfl := Option.some.inj hi
        obtain rfl := Option.some.inj hd
        have h0 : Num w' (vals 3) _ := hf 3 (by kernel_rfl)
        have h4 : Num w' (vals 4) _ := hf 4 (by kernel_rfl)
        have HP := add_any w' _ _ _ _ h0 h4 HE.out.fpr HE.out.fq
        rw [HE.out.esm] at HP
        obtain ⟨s0, e0, -⟩ := h0
        obtain ⟨s4, e4, -⟩ := h4
        rw [e0, e4] at HP
        have HP := Lib.hid HP
        dsimp only
        rw [e0, e4]
        go_simp
        refine HP.out.mono ?_
        rintro e w5 ⟨⟨v5, rfl, hn5⟩, hb5⟩
        exact ⟨hn5, hb5, fun j u _ _ => two2_of (num_np hn5)⟩
      · obtain rfl := Option.some.inj hi
        obtain rfl := Option.some.inj hd
        obtain ⟨ga, gc, z0, z1, zs⟩ := HM.out.d.see hl5 hb
        have ZS := Lib.hid zs; clear zs
        dsimp only
        go_simp
        exact ⟨⟨_, rfl, ZS.out⟩, Below.refl _ _, fun j u _ _ => two2_of (by intro p e; cases e)⟩
      · obtain rfl := Option.some.inj hi
        obtain rfl := Option.some.inj hd
        have h0 : Num w' (vals 5) _ := hf 5 (by kernel_rfl)
        have h4 : Num w' (vals 6) _ := hf 6 (by kernel_rfl)
        have HP := quo_short w' _ _ _ _ h0 h4 HE.out.lsm (by have := HNM.out; omega)
        rw [HE.out.est, HE.out.erm] at HP
        obtain ⟨s0, e0, -⟩ := h0
        obtain ⟨s4, e4, -⟩ := h4
        rw [e0, e4] at HP
        have HP := Lib.hid HP
        dsimp only
        rw [e0, e4]
        go_simp
        refine HP.out.mono ?_
        rintro e w5 ⟨⟨vq, vr, rfl, h6, h7⟩, hb5⟩
        exact ⟨⟨vq, vr, rfl, h6, h7⟩, hb5, fun j u _ _ => two2_of (by intro p e; cases e)⟩
      · obtain rfl := Option.some.inj hi
        obtain rfl := Option.some.inj hd
        obtain ⟨vq, vr, e5, h1, h2⟩ := hf 7 (by kernel_rfl)
        dsimp only
        rw [e5]
        go_simp
        exact ⟨⟨vq, vr, rfl, h1, h2⟩, Below.refl _ _, fun j u _ _ => two2_of (by intro p e; cases e)⟩
      · obtain rfl := Option.some.inj hi
        obtain rfl := Option.some.inj hd
        obtain ⟨vq, vr, e5, h1, h2⟩ := hf 8 (by kernel_rfl)
        dsimp only
        rw [e5]
        go_simp
        exact ⟨h1, Below.refl _ _, fun j u _ _ => two2_of (num_np h1)⟩
      · cases hW
      · obtain rfl := Option.some.inj hi
        obtain rfl := Option.some.inj hd
        dsimp only
        go_simp
        exact ⟨⟨w'.heap.size, rfl, hb.size, by simp, by go_simp, by go_simp, by go_simp, by go_simp⟩, (Below.refl _ _).alloc (Nat.le_refl _) _, fun j u _ hu => RB_new _ (Nat.le_refl _) j u hu⟩
      · obtain rfl := Option.some.inj hi
        obtain rfl := Option.some.inj hd
        dsimp only
        go_simp
        exact ⟨⟨w'.heap.size, rfl, hb.size, by simp, by go_simp, by go_simp, by go_simp, by go_simp⟩, (Below.refl _ _).alloc (Nat.le_refl _) _, fun j u _ hu => RB_new _ (Nat.le_refl _) j u hu⟩
      · cases hT
      · cases hT
      · omega
    · intro p o d hi hW hd vals w' hb hf
      have hlt : p < 15 := (Array.getElem?_eq_some_iff.1 hi).1
      rcases p with _ | _ | _ | _ | _ | _ | _ | _ | _ | _ | _ | _ | _ | _ | _ | p
      · cases hW
      · cases hW
      · cases hW
      · cases hW
      · cases hW
      · cases hW
      · cases hW
      · cases hW
      · cases hW
      · cases hW
      · obtain rfl := Option.some.inj hi
        obtain rfl := Option.some.inj hd
        obtain ⟨vq, vr, e5, h1, h2⟩ := hf 8 (by kernel_rfl)
        exact ⟨vr, fun w'' => by dsimp only; rw [e5]; go_simp, h2, fun j u _ _ => two2_of (num_np h2)⟩
      · cases hW
      · cases hW
      · cases hW
      · cases hW
      · omega
    · intro vals w' hb hf hp
      obtain ⟨s4, e4, h4⟩ := hf 9 (by decide) rfl
      obtain ⟨s5, e5, h5⟩ := hf 10 (by decide) rfl
      obtain ⟨b10, e6, n6, l6, B6⟩ := Fresh.blank (hf 11 (by decide) rfl)
      obtain ⟨b11, e7, n7, l7, B7⟩ := Fresh.blank (hf 12 (by decide) rfl)
      have h67 := hp 11 12 (by decide) (by decide) rfl rfl (by decide) _ _ e6 e7
      obtain ⟨p4, c4, rfl⟩ := h4.len
      obtain ⟨p5, c5, rfl⟩ := h5.len
      have HB := Lib.hid hb; clear hb hf hp
      have K4 := Lib.hid h4; clear h4 h5
      have BB6 := Lib.hid B6
      have BB7 := Lib.hid B7
      clear B7
      obtain ⟨x0, x1, f0, f1⟩ := B6
      rw [e4, e5, e6, e7]
      refine Rt.wpAny_step (i := 13) (by kernel_rfl) rfl (by rfl) (fun K hK => ?_)
      have HK := Lib.hid hK; clear hK
      go_simp
      refine HK.out _ _ ?_
      clear HK x0 x1 f0 f1
      have N6 := Lib.hid (BB6.out.put K4.out)
      have B7' := BB7.out.far h67 (.int .i64 st.sign) (.slice p4 (Wh.limbs st.natAbs).length c4)
      have HB' : Hid (Below V.heap.size V ((w'.setCell ⟨b10, 0, none⟩ (.int .i64 st.sign)).setCell ⟨b10, 1, none⟩ (.slice p4 (Wh.limbs st.natAbs).length c4))) := Lib.hid ((HB.out.setCell n6 _).setCell n6 _)
      have l6' : b10 < ((w'.setCell ⟨b10, 0, none⟩ (.int .i64 st.sign)).setCell ⟨b10, 1, none⟩ (.slice p4 (Wh.limbs st.natAbs).length c4)).heap.size := by simpa using l6
      clear BB6 BB7 HB K4
      generalize ((w'.setCell ⟨b10, 0, none⟩ (.int .i64 st.sign)).setCell ⟨b10, 1, none⟩ (.slice p4 (Wh.limbs st.natAbs).length c4)) = U at *
      have BB7 := Lib.hid B7'
      obtain ⟨x0, x1, f0, f1⟩ := B7'
      refine Rt.wpAny_step (i := 14) (by kernel_rfl) rfl (by rfl) (fun K hK => ?_)
      have HK := Lib.hid hK; clear hK
      go_simp
      refine HK.out _ _ ?_
      clear HK x0 x1 f0 f1
      exact Rt.wpAny_end (by kernel_rfl) ⟨rfl, vals, b10, by rw [e4, e5, e6, e7], e6, n6, N6.out.far BB7.out (Ne.symm h67) _ _, by simpa using l6', (HB'.out.setCell n7 _).setCell n7 _⟩
    rintro e a W ⟨rfl, vb, b10, rfl, eb, hV10, h10, hl10, hb⟩
    have HM' := Lib.hid (HM.out.mono hb)
    clear HM; have HM := HM'; clear HM'
    clear H8 HML hl8 h78 hl0 hl5 hl6 hV10 hb
    obtain ⟨sa, sc, s0, s1, ss⟩ := h10
    obtain ⟨⟨ra, rc, r0, r1, rs⟩, fr0, fr1⟩ := HM.out.r
    have hfst : (Wh.limbs st.natAbs).length < 8 ∨ (Wh.limbs st.natAbs).length ≠ (Wh.limbs r.natAbs).length := .inl (by have := HF.out.st; rw [HSP.out] at this; exact this)
    have HCL := Lib.hid (compareLimbs_any W _ _ st.natAbs r.natAbs ss rs hfst)
    have hlt := cmpN_lt_iff st r (by have := HF.out.nn; rw [HSP.out] at this; exact this) HF.out.pos
    have HSS := Lib.hid ss; clear ss rs hfst
    generalize Wh.cmpN st.natAbs r.natAbs = tc at *
    rw [eb]
    clear eb
    by_cases hc : st < r
    · rw [decide_eq_true hc] at hlt
      have HC := Lib.hid hc; clear hc
      go_wp2_with fail
      refine HCL.out.mono ?_
      rintro e X ⟨rfl, kk, rfl⟩
      have hbx := below_drewN W.heap.size W kk
      have s0 := (hbx.cell (p := ⟨b10, 0, none⟩) hl10).trans s0
      have s1 := (hbx.cell (p := ⟨b10, 1, none⟩) hl10).trans s1
      have r0 := (hbx.cell (p := ⟨b7, 0, none⟩) HM.out.size).trans r0
      have r1 := (hbx.cell (p := ⟨b7, 1, none⟩) HM.out.size).trans r1
      have fr0 := (hbx.frozen (p := ⟨b7, 0, none⟩) HM.out.size).trans fr0
      have fr1 := (hbx.frozen (p := ⟨b7, 1, none⟩) HM.out.size).trans fr1
      have HMX := Lib.hid ((HM.out.mono hbx).put (HSS.out.mono hbx))
      clear hbx HM HSS HCL
      generalize W.drewN kk = X at *
      go_wp2_with fail
      go_step3
      have hst0 : 0 ≤ st := by have := HF.out.nn; rw [HSP.out] at this; exact this
      refine ⟨rfl, st.toNat, by have := HC.out; omega, b5, b6, b7, st, fun i => (#[.agg #[.int .i64 x.sign, .slice xa (Wh.limbs x.natAbs).length xc], .int .i64 (n : Int), .pointer (some ⟨w.heap.size, 0, none⟩), undef, .pointer (some ⟨w.heap.size + 1, 0, none⟩), .pointer (some ⟨b5, 0, none⟩), .pointer (some ⟨b6, 0, none⟩), .pointer (some ⟨b7, 0, none⟩), .pointer (some ⟨b8, 0, none⟩), va 10, .pointer (some ⟨b10, 0, none⟩), vb 12, u 12, u 13, u 14, u 15, u 16, u 17, u 18, u 19, u 20, u 21, u 22, u 23, u 24, u 25, u 26, u 27, u 28, va 6, va 0, va 1, va 2, va 3, va 4, va 5, va 7, va 8, vb 8, vb 0, vb 1, vb 2, vb 3, vb 4, vb 5, vb 6, vb 7, vb 9, vb 10, .pointer (some ⟨b10, 1, none⟩), .slice sa (Wh.limbs st.natAbs).length sc, .pointer (some ⟨b7, 1, none⟩), .slice ra (Wh.limbs r.natAbs).length rc, .int .i64 tc, .bool true, .agg #[.int .i64 st.sign, .slice sa (Wh.limbs st.natAbs).length sc], u 56] : Array Value).getD i undef, Lib.hid ⟨rfl, by rw [← HSP.out]; exact HST.out r HI.out (by rw [HSP.out]; exact HC.out), HMX.out⟩, by kernel_rfl⟩
    · rw [decide_eq_false hc] at hlt
      have HC := Lib.hid hc; clear hc
      go_wp2_with fail
      refine HCL.out.mono ?_
      rintro e X ⟨rfl, kk, rfl⟩
      have hbx := below_drewN W.heap.size W kk
      have r0 := (hbx.cell (p := ⟨b7, 0, none⟩) HM.out.size).trans r0
      have r1 := (hbx.cell (p := ⟨b7, 1, none⟩) HM.out.size).trans r1
      have HMX := Lib.hid (HM.out.mono hbx)
      clear hbx HM HSS HCL fr0 fr1 s0 s1
      generalize W.drewN kk = X at *
      obtain ⟨t0, t1, g0, g1⟩ := HMX.out.t
      obtain ⟨⟨qa, qc, q0, q1, qs⟩, _, _⟩ := HMX.out.r
      rw [r1] at q1
      obtain ⟨rfl, rfl⟩ : ra = qa ∧ rc = qc := by cases q1; exact ⟨rfl, rfl⟩
      have HSR := Lib.hid (qs.store2 (w.heap.size + 1) t0 t1 (.int .i64 r.sign) (.slice ra (Wh.limbs r.natAbs).length rc))
      have hcc := two_cells X (w.heap.size + 1) (.int .i64 r.sign) (.slice ra (Wh.limbs r.natAbs).length rc) t0 t1
      have HBX : Hid (Below w.heap.size w ((X.setCell ⟨w.heap.size + 1, 0, none⟩ (.int .i64 r.sign)).setCell ⟨w.heap.size + 1, 1, none⟩ (.slice ra (Wh.limbs r.natAbs).length rc))) := Lib.hid ((HMX.out.below.setCell (Nat.le_succ _) _).setCell (Nat.le_succ _) _)
      clear q0 q1 qs HMX
      go_wp2_with fail
      simp only [Exit.jump]
      exact bodyPost_ret (v := .agg #[.int .i64 r.sign, .slice ra (Wh.limbs r.natAbs).length rc]) (by simp [results, Tryz.results230, go_sem, hcc]) rfl ⟨⟨r, _, HI.out, by rw [HSP.out]; exact HC.out, rfl, ⟨_, rfl, HSR.out⟩⟩, HBX.out⟩
  case first =>
    intro hpass
    have HPASS := Lib.hid hpass; clear hpass
    go_wp2_with fail
    refine (of_any n (by have := HNM.out; omega) hvn _ (htab.mono (((Below.refl _ _).alloc (Nat.le_refl _) _).alloc (by simp) _))).mono ?_
    rintro e w1 ⟨⟨v1, rfl, hn1⟩, hb1⟩
    obtain ⟨s1, rfl, k1⟩ := hn1
    obtain ⟨p1, c1, rfl⟩ := k1.len
    go_wp2_with fail
    have hal0 : Below w.heap.size w ((w.alloc (Obj.cells #[.int .i64 x.sign, .slice xa (Wh.limbs x.natAbs).length xc] 92)).alloc (Obj.cells #[.int .i64 0, .slice none 0 0] 92)) := ((Below.refl _ _).alloc (Nat.le_refl _) _).alloc (by simp) _
    have hszA : ((w.alloc (Obj.cells #[.int .i64 x.sign, .slice xa (Wh.limbs x.natAbs).length xc] 92)).alloc (Obj.cells #[.int .i64 0, .slice none 0 0] 92)).heap.size = w.heap.size + 2 := by simp
    have x0 : ((w.alloc (Obj.cells #[.int .i64 x.sign, .slice xa (Wh.limbs x.natAbs).length xc] 92)).alloc (Obj.cells #[.int .i64 0, .slice none 0 0] 92)).cell? ⟨w.heap.size, 0, none⟩ = some (.int .i64 x.sign) := by go_simp
    have x1 : ((w.alloc (Obj.cells #[.int .i64 x.sign, .slice xa (Wh.limbs x.natAbs).length xc] 92)).alloc (Obj.cells #[.int .i64 0, .slice none 0 0] 92)).cell? ⟨w.heap.size, 1, none⟩ = some (.slice xa (Wh.limbs x.natAbs).length xc) := by go_simp
    have fx0 : ((w.alloc (Obj.cells #[.int .i64 x.sign, .slice xa (Wh.limbs x.natAbs).length xc] 92)).alloc (Obj.cells #[.int .i64 0, .slice none 0 0] 92)).frozen? ⟨w.heap.size, 0, none⟩ = false := by go_simp
    have fx1 : ((w.alloc (Obj.cells #[.int .i64 x.sign, .slice xa (Wh.limbs x.natAbs).length xc] 92)).alloc (Obj.cells #[.int .i64 0, .slice none 0 0] 92)).frozen? ⟨w.heap.size, 1, none⟩ = false := by go_simp
    have hbt : Blank ((w.alloc (Obj.cells #[.int .i64 x.sign, .slice xa (Wh.limbs x.natAbs).length xc] 92)).alloc (Obj.cells #[.int .i64 0, .slice none 0 0] 92)) (w.heap.size + 1) := ⟨by go_simp, by go_simp, by go_simp, by go_simp⟩
    have hbx : NumBox ((w.alloc (Obj.cells #[.int .i64 x.sign, .slice xa (Wh.limbs x.natAbs).length xc] 92)).alloc (Obj.cells #[.int .i64 0, .slice none 0 0] 92)) w.heap.size x := ⟨⟨xa, xc, x0, x1, HS.out.mono hal0⟩, fx0, fx1⟩
    clear x0 x1 fx0 fx1
    generalize ((w.alloc (Obj.cells #[.int .i64 x.sign, .slice xa (Wh.limbs x.natAbs).length xc] 92)).alloc (Obj.cells #[.int .i64 0, .slice none 0 0] 92)) = W0 at *
    have hs1 : w.heap.size + 2 ≤ w1.heap.size := by rw [← hszA]; exact hb1.size
    have hB1 : Below w.heap.size w w1 := hal0.trans (hb1.mono (by omega))
    have hbV : Below w1.heap.size w1 (w1.alloc (Obj.cells #[.int .i64 (n : Int).sign, .slice p1 (Wh.limbs n).length c1] 92)) := (Below.refl _ _).alloc (Nat.le_refl _) _
    have F0 : First5 w (w1.alloc (Obj.cells #[.int .i64 (n : Int).sign, .slice p1 (Wh.limbs n).length c1] 92)) w1.heap.size x (n : Int) := ⟨(hbx.mono hb1 (by omega)).mono hbV (by omega), (hbt.mono hb1 (by omega)).mono hbV (by omega), ⟨⟨p1, c1, by go_simp, by go_simp, k1.mono hbV⟩, by go_simp, by go_simp⟩, hB1.trans (hbV.mono hB1.size), by omega, by simp⟩
    have HF0 := Lib.hid F0
    clear F0 hbV k1 hb1 hbx hbt hal0 hszA hB1
    generalize (w1.alloc (Obj.cells #[.int .i64 (n : Int).sign, .slice p1 (Wh.limbs n).length c1] 92)) = V at *
    obtain ⟨b5, hb5⟩ : ∃ b5, b5 = w1.heap.size := ⟨_, rfl⟩
    rw [← hb5] at HF0 ⊢
    clear hb5 hs1
    have hl5 : b5 < V.heap.size := HF0.out.size
    refine wp_mono (Q := fun e a W' => e = .normal ∧ ∃ (vals : Nat → Value) (b6 : Nat), a = { tmps := #[.agg #[.int .i64 x.sign, .slice xa (Wh.limbs x.natAbs).length xc], .int .i64 (n : Int), .pointer (some ⟨w.heap.size, 0, none⟩), undef, .pointer (some ⟨w.heap.size + 1, 0, none⟩), .pointer (some ⟨b5, 0, none⟩), .pointer (some ⟨b6, 0, none⟩), undef, undef, undef, undef, undef, .pointer (some ⟨w.heap.size, 0, none⟩), .int .i64 x.sign, .bool false, undef, .int .i64 (n : Int), .agg #[.int .i64 (n : Int).sign, .slice p1 (Wh.limbs n).length c1], vals 0, vals 1, vals 2, undef, undef, undef, undef, undef, undef, undef, undef, undef, undef, undef, undef, undef, undef, undef, undef, undef, undef, undef, undef, undef, undef, undef, undef, undef, undef, undef, undef, undef, undef, undef, undef, undef, undef, undef, undef], defers := [] } ∧ V.heap.size ≤ b6 ∧ NumBox W' b6 ((n : Int) - 1) ∧ b6 < W'.heap.size ∧ Below V.heap.size V W') ?_ ?_
    refine Rt.wp_region_grow (n0 := 1) [4] [] 57 (fun vals => { tmps := #[.agg #[.int .i64 x.sign, .slice xa (Wh.limbs x.natAbs).length xc], .int .i64 (n : Int), .pointer (some ⟨w.heap.size, 0, none⟩), undef, .pointer (some ⟨w.heap.size + 1, 0, none⟩), .pointer (some ⟨b5, 0, none⟩), vals 3, undef, undef, undef, undef, undef, .pointer (some ⟨w.heap.size, 0, none⟩), .int .i64 x.sign, .bool false, undef, .int .i64 (n : Int), .agg #[.int .i64 (n : Int).sign, .slice p1 (Wh.limbs n).length c1], vals 0, vals 1, vals 2, undef, undef, undef, undef, undef, undef, undef, undef, undef, undef, undef, undef, undef, undef, undef, undef, undef, undef, undef, undef, undef, undef, undef, undef, undef, undef, undef, undef, undef, undef, undef, undef, undef, undef, undef, undef], defers := [] }) (RL V.heap.size (n : Int)) (by kernel_rfl) (by kernel_rfl) (by kernel_rfl) (by kernel_rfl) (fun _ _ _ _ _ h => absurd h.1 (by simp)) (by kernel_rfl) rfl (fun _ => by kernel_rfl) (by kernel_rfl) (by kernel_rfl) (RL_stays _ _) ?_ ?_ ?_
    · intro i o d hi hT hW hd vals w' hb hf
      have hlt : i < 5 := (Array.getElem?_eq_some_iff.1 hi).1
      rcases i with _ | _ | _ | _ | _ | i
      · obtain rfl := Option.some.inj hi
        obtain rfl := Option.some.inj hd
        obtain ⟨ga, gc, z0, z1, zs⟩ := HF0.out.d.see hl5 hb
        have ZS := Lib.hid zs; clear zs
        dsimp only
        go_simp
        exact ⟨⟨_, rfl, ZS.out⟩, Below.refl _ _⟩
      · obtain rfl := Option.some.inj hi
        obtain rfl := Option.some.inj hd
        dsimp only
        go_simp
        refine (small_any w' 1 (by decide)).mono ?_
        rintro e w5 ⟨⟨v5, rfl, hn5⟩, hb5⟩
        exact ⟨hn5, hb5⟩
      · obtain rfl := Option.some.inj hi
        obtain rfl := Option.some.inj hd
        have h0 : Num w' (vals 0) _ := hf 0 (by kernel_rfl)
        have h4 : Num w' (vals 1) _ := hf 1 (by kernel_rfl)
        have HP := sub_any w' _ _ _ _ h0 h4 hfn fit_one
        obtain ⟨s0, e0, -⟩ := h0
        obtain ⟨s4, e4, -⟩ := h4
        rw [e0, e4] at HP
        have HP := Lib.hid HP
        dsimp only
        rw [e0, e4]
        go_simp
        refine HP.out.mono ?_
        rintro e w5 ⟨⟨v5, rfl, hn5⟩, hb5⟩
        exact ⟨hn5, hb5⟩
      · obtain rfl := Option.some.inj hi
        obtain rfl := Option.some.inj hd
        dsimp only
        go_simp
        exact ⟨⟨w'.heap.size, rfl, hb.size, by simp, by go_simp, by go_simp, by go_simp, by go_simp⟩, (Below.refl _ _).alloc (Nat.le_refl _) _⟩
      · cases hT
      · omega
    · intro p o d hi hW hd vals w' hb hf
      cases hW
    · intro vals w' hb hf
      obtain ⟨s4, e4, h4⟩ := hf 2 (by decide) rfl
      obtain ⟨b6, e6, n6, l6, B6⟩ := Fresh.blank (hf 3 (by decide) rfl)
      obtain ⟨p4, c4, rfl⟩ := h4.len
      have HB := Lib.hid hb; clear hb hf
      have K4 := Lib.hid h4; clear h4
      have BB6 := Lib.hid B6
      obtain ⟨x0, x1, f0, f1⟩ := B6
      generalize (n : Int) - 1 = qq at *
      rw [e4, e6]
      refine Rt.wpAny_step (i := 4) (by kernel_rfl) rfl (by rfl) (fun K hK => ?_)
      have HK := Lib.hid hK; clear hK
      go_simp
      refine HK.out _ _ ?_
      clear HK
      exact Rt.wpAny_end (by kernel_rfl) ⟨rfl, vals, b6, by rw [e4], n6, ⟨BB6.out.put K4.out, by simp only [World.frozen?_setCell]; exact f0, by simp only [World.frozen?_setCell]; exact f1⟩, by simpa using l6, (HB.out.setCell n6 _).setCell n6 _⟩
    rintro e a W ⟨rfl, va, b6, rfl, hV6, H6, hl6, hb⟩
    have HF1 := Lib.hid (HF0.out.mono hb)
    have h56 : b5 < b6 := by omega
    have HH6 := Lib.hid H6
    clear HF0 H6 hb hl5 hV6
    have HT5 := Lib.hid (htab.mono HF1.out.below)
    obtain ⟨⟨ya, yc, y0, y1, ys⟩, _, _⟩ := HF1.out.x
    have HLN := Lib.hid (len_any W (.agg #[.int .i64 x.sign, .slice ya (Wh.limbs x.natAbs).length yc]) x ⟨_, rfl, ys⟩ HT5.out (by omega))
    clear ys
    have hn20 : n ≤ 20 := by have := HNM.out; omega
    have hn1 : 0 < n := by have := HNM.out; omega
    have hnz : ((n : Int) == 0) = false := by rw [beq_eq_false_iff_ne]; omega
    generalize va 0 = v0; generalize va 1 = v1'; generalize va 2 = v2
    generalize (Wh.decN x.natAbs).length = LD at *
    go_wp2_with fail
    refine HLN.out.mono ?_
    rintro e W2 ⟨rfl, hb2⟩
    have HF2 := Lib.hid (HF1.out.mono hb2)
    have HH7 := Lib.hid (HH6.out.mono hb2 hl6)
    have hl7 : b6 < W2.heap.size := Nat.lt_of_lt_of_le hl6 hb2.size
    clear HF1 HH6 hb2 y0 y1 hl6 HLN HT5
    go_wp2_with fail
    rw [HK.out]
    refine (ten_any k (by omega) HT.out.1 W2).mono ?_
    rintro e W3 ⟨⟨v3, rfl, hn3⟩, hb3⟩
    have HI3 := Lib.hid HT.out.2
    clear HT
    generalize (10 : Int) ^ k = T at *
    obtain ⟨s3, rfl, k3⟩ := hn3
    obtain ⟨p3, c3, rfl⟩ := k3.len
    have hbV : Below W3.heap.size W3 (W3.alloc (Obj.cells #[.int .i64 T.sign, .slice p3 (Wh.limbs T.natAbs).length c3] 92)) := (Below.refl _ _).alloc (Nat.le_refl _) _
    have F3 := HF2.out.mono hb3
    have hl6' : b6 < W3.heap.size := Nat.lt_of_lt_of_le hl7 hb3.size
    have RM : RootM w (W3.alloc (Obj.cells #[.int .i64 T.sign, .slice p3 (Wh.limbs T.natAbs).length c3] 92)) b5 b6 W3.heap.size x (n : Int) T := ⟨F3.x.mono hbV (by have := F3.lt1; have := F3.size; omega), F3.t.mono hbV (by have := F3.lt1; have := F3.size; omega), F3.d.mono hbV F3.size, (HH7.out.mono hb3 hl7).mono hbV hl6', ⟨⟨p3, c3, by go_simp, by go_simp, k3.mono hbV⟩, by go_simp, by go_simp⟩, F3.below.trans (hbV.mono F3.below.size), F3.lt1, h56, hl6', by simp⟩
    have HRM := Lib.hid RM
    clear RM F3 hbV k3 hb3 HF2 HH7
    go_wp2_with fail
    rename_i hKK
    go_step3
    refine hKK _ _ ?_
    refine HPASS.out T.toNat _ _ ⟨b5, b6, W3.heap.size, T, fun i => (#[.agg #[.int .i64 x.sign, .slice xa (Wh.limbs x.natAbs).length xc], .int .i64 (n : Int), .pointer (some ⟨w.heap.size, 0, none⟩), undef, .pointer (some ⟨w.heap.size + 1, 0, none⟩), .pointer (some ⟨b5, 0, none⟩), .pointer (some ⟨b6, 0, none⟩), .pointer (some ⟨W3.heap.size, 0, none⟩), undef, undef, undef, undef, .pointer (some ⟨w.heap.size, 0, none⟩), .int .i64 x.sign, .bool false, undef, .int .i64 (n : Int), .agg #[.int .i64 (n : Int).sign, .slice p1 (Wh.limbs n).length c1], v0, v1', v2, .agg #[.int .i64 x.sign, .slice ya (Wh.limbs x.natAbs).length yc], .int .i64 (LD : Int), .int .i64 (n : Int), .int .i64 ((LD : Int) + n), .int .i64 ((LD : Int) + n - 1), .int .i64 (n : Int), .int .i64 (k : Int), .agg #[.int .i64 T.sign, .slice p3 (Wh.limbs T.natAbs).length c3], undef, undef, undef, undef, undef, undef, undef, undef, undef, undef, undef, undef, undef, undef, undef, undef, undef, undef, undef, undef, undef, undef, undef, undef, undef, undef, undef, undef] : Array Value).getD i undef, Lib.hid ⟨rfl, HI3.out, HRM.out⟩, by kernel_rfl⟩
end Go.Proofs.YteggbenhffmijaaGreatDoor

/- A region that draws its order, inside the body of a range over a function: what the law of P2 says there. My own law. -/
namespace Go.Proofs.Rt
open Go Go.RowKit
variable {P : Program} {ops : Array Oper} {Q : Exit → Act → World → Prop} {md : Region.Mode} {T : List Nat}
def noDefB (ops : Array Oper) : Bool := ops.all fun o => match o.op with | .defer _ => false | _ => true
theorem noDef_at (h : noDefB ops = true) {i : Nat} {o : Oper} (hi : ops[i]? = some o) : ∀ c, o.op ≠ .defer c := fun c e => by
  have := Array.all_eq_true_iff_forall_mem.1 h o (Array.mem_of_getElem? hi)
  rw [e] at this; cases this
theorem semAt_same {o : Oper} (h : ∀ c, o.op ≠ .defer c) (l : Nat) (ρ : Operand → Value) : Oper.semAt (some l) ρ o = execOp ρ o := by
  unfold Oper.semAt
  split
  · rename_i e; exact absurd e (h _)
  · rfl
theorem oper_lift {o : Oper} {a : Act} {w : World} {K : Act → World → Prop} (l n : Nat) (hd : ∀ c, o.op ≠ .defer c) (hh : o.wp P a w K Q) : o.wpIn (Fence.wide.inRound l) n P a w K Q := by
  refine ⟨fun _ _ => trivial, ?_⟩
  rw [show (Fence.wide.inRound l).round = some l from rfl, semAt_same hd]
  unfold Oper.wp at hh
  generalize (execOp a.eval o).run P w = r at *
  cases r with
  | ok x w' =>
    cases x <;> first
      | exact hh
      | exact ⟨fun h => Bool.noConfusion h, CallsIn.inRound l (callsIn_wide.2 hh)⟩
      | exact ⟨fun h => Bool.noConfusion h, fun c cs _ => let ⟨v, w'', r, s⟩ := hh c cs; ⟨v, w'', r, stepsIn_wide.2 s⟩⟩
      | exact hh.elim
  | halt x w' =>
    cases x <;> exact hh
theorem anyIn_of_any (l n : Nat) (hnd : noDefB ops = true) (hL : ¬ LetsOut Q) : ∀ (fuel : Nat) (listed : Array Bool) (a : Act) (w : World), wpAny P md ops Q fuel listed a w → wpAnyIn (Fence.wide.inRound l) n P md ops Q fuel listed a w := by
  intro fuel
  induction fuel with
  | zero => intro listed a w h; exact h
  | succ fuel ih =>
    intro listed a w h
    refine ⟨h.1, fun i hi => ?_⟩
    have h2 := h.2 i hi
    unfold wpOp at h2
    unfold wpOpIn
    cases ho : ops[i]? with
    | none => rw [ho] at h2; exact ih _ _ _ h2
    | some o =>
      rw [ho] at h2
      simp only at h2 ⊢
      split
      · rename_i hw
        rw [if_pos hw] at h2
        rcases h2 with h2 | h2
        · exact Oper.wpIn_mono (fun a w => ih _ a w) (oper_lift l n (noDef_at hnd ho) h2)
        · exact absurd h2.2 hL
      · rename_i hw
        rw [if_neg hw] at h2
        exact ⟨fun _ _ => trivial, ih _ _ _ h2⟩
theorem inRound_region {id : Nat} {a : Act} {w : World} (l n : Nat) (hm : P.follows .mixedOrders = true) (hnd : noDefB ops = true) (hL : ¬ LetsOut Q) (h : wpAny P .any ops Q ops.size (Array.replicate ops.size false) a w.drew) :
    (Code.region id ops true).wpIn (Fence.wide.inRound l) n P Q a w := wpIn_region_any hm (anyIn_of_any l n hnd hL _ _ _ _ h)
theorem any_region_grow {n0 : Nat} {a0 : Act} {w : World} (T W : List Nat) (m : Nat) (A : (Nat → Value) → Act) (Φ : Nat → Value → World → Prop) (hB : plainB .any ops T = true) (hTl : tailB .any ops T W = true) (hF : freeB .any ops W = true) (hQ : ∀ (c : List PanicEntry) (a : Act) (d : Option Tmp) (v : Value) (w : World), Q (.panic c) (a.put d v) w → Q (.panic c) a w) (hsz : dstLtB ops m = true) (hms : a0.tmps.size = m)
    (hA : ∀ vals, A vals = fillAll ops T vals a0) (hsel : Region.noSelect ops = true) (hTc : (listedT ops T).toList.count true + n0 = ops.size)
    (hst : ∀ i v w w', Φ i v w → Below w.heap.size w w' → Φ i v w')
    (hop : ∀ i o d, ops[i]? = some o → T.contains i = false → W.contains i = false → o.dst = some d → ∀ vals w', Below w.heap.size w w' → (∀ j, (o.after.any fun e => Region.binds .any e && e.on == j) = true → Φ j (vals j) w') →
      o.wp P (A vals) w' (fun a' w'' => a'.defers = (A vals).defers ∧ Φ i (a'.eval (.tmp d)) w'' ∧ Below w'.heap.size w' w'') (fun _ _ _ => False))
    (hpure : ∀ p o d, ops[p]? = some o → W.contains p = true → o.dst = some d → ∀ vals w', Below w.heap.size w w' → (∀ j, (o.after.any fun e => Region.binds .any e && e.on == j) = true → Φ j (vals j) w') →
      ∃ v, (∀ w'', (execOp (A vals).eval o).run P w'' = .ok (.value v) w'') ∧ Φ p v w')
    (hfin : ∀ vals w', Below w.heap.size w w' → (∀ i, i < ops.size → T.contains i = false → Φ i (vals i) w') → wpAny P .any ops Q n0 (listedT ops T) (A vals) w') :
    wpAny P .any ops Q ops.size (Array.replicate ops.size false) a0 w.drew := by
  have e0 : ∀ j, (Array.replicate ops.size false).getD j false = false := fun j => by
    by_cases h : j < ops.size <;> simp [h]
  refine wpAny_grow (V := w.drew) hB hTl hF hQ hsz hms hA hsel hTc hst (fun i o d h1 h2 h3 h4 vals w' hb => hop i o d h1 h2 h3 h4 vals w' ((Below.refl _ _).drew.trans hb)) (fun p o d h1 h2 h3 vals w' hb => hpure p o d h1 h2 h3 vals w' ((Below.refl _ _).drew.trans hb)) (fun vals w' hb => hfin vals w' ((Below.refl _ _).drew.trans hb)) ops.size (fun _ => undef) (Array.replicate ops.size false) a0 w.drew (by simp [List.count_replicate]) ?_
  have no : ∀ j, (Array.replicate ops.size false).getD j false = true → False := fun j h => (by rw [e0] at h; cases h)
  exact ⟨rfl, rfl, fun _ _ => rfl, fun i _ _ _ h => (no i h).elim, Below.refl _ _, fun i h => (no i h).elim, fun k _ _ h => (no k h).elim, by simp, fun j _ => e0 j⟩
end Go.Proofs.Rt
