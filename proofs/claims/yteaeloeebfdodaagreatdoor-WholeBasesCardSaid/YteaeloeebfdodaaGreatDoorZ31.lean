/- Part 31 of the proofs that laws of package whole answer true at every input and leave the input as it was, where the library's variables start as the text lays them (the texts Y2, U11). -/
import Derived.Test.YteaeloeebfdodaaGreatDoorZ25
import Derived.Test.YteaeloeebfdodaaGreatDoorZ29
import Derived.Test.YteaeloeebfdodaaGreatDoorZ30
import Derived.Test.YteaeloeebfdodaaGreatDoorZ24
set_option linter.unusedVariables false
set_option linter.unusedSimpArgs false
namespace Go.Proofs.YteaeloeebfdodaaGreatDoor
open Go.RowKit
theorem txt_eqz (x : Int) : ((str (Wh.decI x)).toList == [48]) = decide (x = 0) := by
  have h0 : Wh.decI 0 = [48] := by unfold Wh.decI; simp [Wh.decN_zero]
  rw [Lib.toList_data, str_data, ← h0]
  by_cases h : x = 0
  · rw [h]; simp
  · rw [decide_eq_false h, beq_eq_false_iff_ne]
    exact fun e => h (decI_inj e)
end Go.Proofs.YteaeloeebfdodaaGreatDoor

namespace Go.Proofs.YteaeloeebfdodaaGreatDoor
open Go.RowKit Go.Proofs.Rf
set_option maxHeartbeats 400000 in
theorem rlimbsOf_any (n : Nat) (hn : n < 10000) (w : World) :
    Calls Tryz.prog 213 #[.int .i64 n] w fun e w' => (∃ v, ∃ l : List Nat, e = .returned v ∧ RL4 w' v l ∧ Sm4 l ∧ Top l ∧ val4 l = n ∧ l.length ≤ 1) ∧ Below w.heap.size w w' := by
  by_cases h0 : n = 0
  · subst h0
    go_enter Tryz.func213, Tryz.ntmps213
    go_wp2
    go_ret
    exact ⟨⟨_, [], rfl, RL4.nil _, Sm4.nil, .inl rfl, rfl, Nat.zero_le _⟩, Below.refl _ _⟩
  · have hne : ((n : Int) == 0) = false := by rw [beq_eq_false_iff_ne]; omega
    have hc : (w.alloc (Obj.cells #[.int .i64 n] 3)).cell? ⟨w.heap.size, 0, none⟩ = some (.int .i64 n) := by go_simp
    have hs : w.heap.size < (w.alloc (Obj.cells #[.int .i64 n] 3)).heap.size := by simp
    have HC := Lib.hid (And.intro hc hs); clear hc hs
    go_enter Tryz.func213, Tryz.ntmps213
    go_wp2
    go_ret
    refine ⟨⟨_, [n], rfl, ⟨_, _, rfl, fun i hi => ⟨w.heap.size, 0, rfl, HC.out.2, fun j hj => ?_⟩, Nat.le_refl _⟩, ?_, ?_, by simp [val4], Nat.le_refl _⟩, (Below.refl _ _).alloc (Nat.le_refl _) _⟩
    · obtain rfl : j = 0 := by simpa using hj
      exact HC.out.1
    · intro x hx; rw [List.mem_singleton.1 hx]; exact hn
    · exact .inr (by simpa using h0)
def top3 (l : List Nat) (n : Nat) : Nat → Nat
  | 0 => 0
  | 1 => l.getD n 0
  | 2 => l.getD n 0 * 10000 + l.getD (n - 1) 0
  | _ => (l.getD n 0 * 10000 + l.getD (n - 1) 0) * 10000 + (if n < 2 then 0 else l.getD (n - 2) 0)
def by2 (m : List Nat) (n : Nat) : Nat := m.getD (n - 1) 0 * 10000 + (if 1 < n then m.getD (n - 2) 0 else 0)
theorem guess_top {l m : List Nat} (sl : Sm4 l) (sm : Sm4 m) (tl : Top l) (tm : Top m) (hm : 0 < m.length) (hlt : val4 l < val4 m * 10000) : val4 l / val4 m ≤ top3 l m.length 3 / by2 m m.length ∧ 0 < by2 m m.length ∧ l.length ≤ m.length + 1 := by
  have hv := val4_lt sm
  have hll : l.length ≤ m.length + 1 := by
    rcases Nat.lt_or_ge (m.length + 1) l.length with h | h
    · exfalso
      have h1 := val4_ge tl (by omega)
      have h2 : 10000 ^ (m.length + 1) ≤ 10000 ^ (l.length - 1) := Nat.pow_le_pow_right (by decide) (by omega)
      rw [Nat.pow_succ] at h2
      omega
    · exact h
  have htop : m.getD (m.length - 1) 0 ≠ 0 := by rcases tm with h | h; omega; exact h
  have hby : 0 < by2 m m.length := by unfold by2; omega
  refine ⟨?_, hby, hll⟩
  have hz : val4 (l.drop (m.length + 1)) = 0 := by rw [List.drop_eq_nil_of_le (by omega)]; rfl
  by_cases h1 : m.length = 1
  · have e1 : val4 m = m.getD 0 0 := by
      have := val4_drop m 0
      have h2 : val4 (m.drop 1) = 0 := by rw [List.drop_eq_nil_of_le (by omega)]; rfl
      rw [List.drop_zero, h2] at this; omega
    have e2 : val4 l = l.getD 0 0 + 10000 * l.getD 1 0 := by
      have a0 : val4 (l.drop 0) = l.getD 0 0 + 10000 * val4 (l.drop 1) := val4_drop l 0
      have a1 : val4 (l.drop 1) = l.getD 1 0 + 10000 * val4 (l.drop 2) := val4_drop l 1
      have hz2 : val4 (l.drop 2) = 0 := by rw [h1] at hz; exact hz
      rw [List.drop_zero] at a0
      omega
    unfold top3 by2
    simp only [h1, show ¬ (1 < 1) by omega, show (1 : Nat) < 2 by omega, if_true, if_false, Nat.add_zero, Nat.sub_self]
    rw [Nat.mul_div_mul_right _ _ (by decide), e1, e2, Nat.mul_comm 10000, Nat.add_comm]
    exact Nat.le_refl _
  · have h2 : 2 ≤ m.length := by omega
    obtain ⟨k, hk⟩ : ∃ k, m.length = k + 2 := ⟨m.length - 2, by omega⟩
    rw [hk] at hz htop ⊢
    have hT : val4 l / 10000 ^ k = top3 l (k + 2) 3 := by
      have a0 : val4 (l.drop k) = l.getD k 0 + 10000 * val4 (l.drop (k + 1)) := val4_drop l k
      have a1 : val4 (l.drop (k + 1)) = l.getD (k + 1) 0 + 10000 * val4 (l.drop (k + 2)) := val4_drop l (k + 1)
      have a2 : val4 (l.drop (k + 2)) = l.getD (k + 2) 0 + 10000 * val4 (l.drop (k + 2 + 1)) := val4_drop l (k + 2)
      rw [val4_div sl, a0, a1, a2, hz]
      show _ = (l.getD (k + 2) 0 * 10000 + l.getD (k + 2 - 1) 0) * 10000 + (if k + 2 < 2 then 0 else l.getD (k + 2 - 2) 0)
      rw [if_neg (by omega), show k + 2 - 1 = k + 1 from by omega, show k + 2 - 2 = k from by omega]
      omega
    refine guess_ge (p := 10000 ^ k) ?_ hT (Nat.pow_pos (by decide)) (by rw [hk] at hby; exact hby)
    have h3 := val4_split m k
    have h4 : val4 (m.drop k) = m.getD k 0 + 10000 * m.getD (k + 1) 0 := by
      have a0 := val4_drop m k
      have a1 := val4_drop m (k + 1)
      have a2 : val4 (m.drop (k + 1 + 1)) = 0 := by rw [List.drop_eq_nil_of_le (by omega)]; rfl
      omega
    unfold by2
    simp only [show 1 < k + 2 by omega, if_true, show k + 2 - 1 = k + 1 by omega, show k + 2 - 2 = k by omega]
    rw [h3, h4, Nat.mul_comm (_ + _) (10000 ^ k), Nat.mul_comm 10000 (m.getD (k + 1) 0), Nat.add_comm (m.getD k 0)]
    omega
set_option maxRecDepth 100000 in
set_option maxHeartbeats 1000000 in
theorem rguess_any (w : World) (v1 v2 : Value) (l m : List Nat) (h1 : RL4 w v1 l) (h2 : RL4 w v2 m) (sl : Sm4 l) (sm : Sm4 m) (tl : Top l) (tm : Top m) (hm : 0 < m.length) (hlt : val4 l < val4 m * 10000) (hml : m.length ≤ 10000) :
    Calls Tryz.prog 212 #[v1, v2] w fun e w' => (∃ g : Nat, e = .returned (.int .i64 g) ∧ val4 l / val4 m ≤ g ∧ g ≤ 9999) ∧ w' = w := by
  obtain ⟨a1, c1, rfl, hc1, -⟩ := h1
  obtain ⟨a2, c2, rfl, hc2, -⟩ := h2
  have HC1 := Lib.hid hc1; clear hc1
  have HG := Lib.hid (guess_top sl sm tl tm hm hlt)
  have HQ := Lib.hid (quo_lt hlt)
  have hb3 : top3 l m.length 3 < 1000000000000 := by
    show (l.getD m.length 0 * 10000 + l.getD (m.length - 1) 0) * 10000 + (if m.length < 2 then 0 else l.getD (m.length - 2) 0) < _
    have q1 := sl.getD m.length
    have q2 := sl.getD (m.length - 1)
    have q3 := sl.getD (m.length - 2)
    split <;> omega
  have hbr : ∀ j, j ≤ 2 → top3 l m.length j < 100000000 := fun j hj => by
    have q1 := sl.getD m.length
    have q2 := sl.getD (m.length - 1)
    match j, hj with
    | 0, _ => show (0 : Nat) < _; decide
    | 1, _ => show l.getD m.length 0 < _; omega
    | 2, _ => show l.getD m.length 0 * 10000 + l.getD (m.length - 1) 0 < _; omega
  have hstep : ∀ j, j ≤ 2 → top3 l m.length (j + 1) = top3 l m.length j * 10000 + (if m.length < j then 0 else l.getD (m.length - j) 0) := fun j hj => by
    match j, hj with
    | 0, _ => show l.getD m.length 0 = 0 * 10000 + (if m.length < 0 then 0 else l.getD (m.length - 0) 0); simp
    | 1, _ => show l.getD m.length 0 * 10000 + l.getD (m.length - 1) 0 = l.getD m.length 0 * 10000 + (if m.length < 1 then 0 else l.getD (m.length - 1) 0); rw [if_neg (by omega)]
    | 2, _ => rfl
  have hb2 : by2 m m.length < 1000000000 := by
    unfold by2
    have q1 := sm.getD (m.length - 1)
    have q2 := sm.getD (m.length - 2)
    split <;> omega
  have hby : by2 m m.length = m.getD (m.length - 1) 0 * 10000 + (if 1 < m.length then m.getD (m.length - 2) 0 else 0) := rfl
  have hls : ∀ i, l.getD i 0 < 10000 := fun i => sl.getD i
  have HB := Lib.hid (And.intro hb3 (And.intro hbr (And.intro hstep hls)))
  obtain ⟨b2, off2, rfl, hbl2, hcell2⟩ := hc2 0 hm
  have hy1 := hcell2 (m.length - 1) (by omega)
  have hy2 : 1 < m.length → _ := fun h => hcell2 (m.length - 2) (by omega)
  have s1 := sm.getD (m.length - 1)
  have s2 := sm.getD (m.length - 2)
  clear hcell2 hb3 hbr hstep hc2 hls sl sm tl tm hlt
  generalize m.getD (m.length - 1) 0 = y1 at *
  generalize m.getD (m.length - 2) 0 = y2 at *
  generalize by2 m m.length = BY at *
  generalize val4 l / val4 m = QQ at *
  generalize hn : l.length = n at *
  have HN := Lib.hid hn; clear hn
  generalize m.length = k at *
  obtain ⟨k1, rfl⟩ : ∃ k1, k = k1 + 1 := ⟨k - 1, by omega⟩
  rw [Nat.add_sub_cancel] at hy1
  go_enter Tryz.func212, Tryz.ntmps212
  go_wp2_with fail
  go_loopw [6, 8] (fun tv iv wr => ∃ j : Nat, j ≤ 3 ∧ tv = .int .i64 (top3 l (k1 + 1) j : Nat) ∧ iv = .int .i64 ((k1 : Int) + 1 - (j : Int)) ∧ wr = w) (fun _ iv _ => (intOf iv + 3 - (k1 : Int)).toNat)
  case atStart => exact ⟨0, by omega, rfl, by simp, rfl⟩
  case round =>
    obtain ⟨j, hj, rfl, rfl, rfl⟩ := hrel
    by_cases hj3 : j = 3
    · subst hj3
      have hb3 := HB.out.1
      have hd1 : decide (((k1 : Int) + 1) - 2 ≤ (k1 : Int) + 1 - ((3 : Nat) : Int)) = false := by rw [decide_eq_false_iff_not]; omega
      have hGG := HG.out
      obtain ⟨T, hT⟩ : ∃ T, top3 l (k1 + 1) 3 = T := ⟨_, rfl⟩
      rw [hT] at hGG hb3 ⊢
      have hbn : ((BY : Int) == 0) = false := by rw [beq_eq_false_iff_ne]; omega
      have htd : (T : Int).tdiv (BY : Int) = ((T / BY : Nat) : Int) := by rw [Int.tdiv_eq_ediv_of_nonneg (by omega)]; simp
      have hmn : min (9999 : Int) ((T / BY : Nat) : Int) = ((min 9999 (T / BY) : Nat) : Int) := by omega
      have HF : Hid (QQ ≤ min 9999 (T / BY) ∧ min 9999 (T / BY) ≤ 9999) := Lib.hid ⟨by have := HQ.out; omega, by omega⟩
      have hGb : T / BY < 1000000000000 := Nat.lt_of_le_of_lt (Nat.div_le_self _ _) hb3
      have hBp : 0 < BY := hGG.2.1
      clear hGG
      by_cases hk1 : 1 < k1 + 1
      · have hy2' := hy2 hk1
        rw [if_pos hk1] at hby
        rw [show k1 + 1 - 2 = k1 - 1 from by omega] at hy2'
        obtain ⟨k2, rfl⟩ : ∃ k2, k1 = k2 + 1 := ⟨k1 - 1, by omega⟩
        rw [Nat.add_sub_cancel] at hy2'
        have hd2 : decide ((1 : Int) < ((k2 + 1 + 1 : Nat) : Int)) = true := by rw [decide_eq_true_iff]; omega
        have hsum : (BY : Int) = (y1 : Int) * 10000 + (y2 : Int) := by omega
        rw [hsum] at htd
        have hbz : ¬ ((y1 : Int) * 10000 + (y2 : Int) = 0) := by omega
        clear hy2 hT hby hsum hbn
        generalize T / BY = G at *
        go_wp2_with fail
        go_ret
        exact ⟨⟨min 9999 G, by first | rfl | rw [hmn] | simp [hmn], HF.out⟩, rfl⟩
      · have hd2 : decide ((1 : Int) < ((k1 + 1 : Nat) : Int)) = false := by rw [decide_eq_false_iff_not]; omega
        rw [if_neg hk1] at hby
        have hsum : (BY : Int) = (y1 : Int) * 10000 := by omega
        rw [hsum] at htd
        have hbz : ¬ ((y1 : Int) = 0) := by omega
        have hbz2 : ¬ ((y1 : Int) * 10000 = 0) := by omega
        clear hy2 hT hby hsum hbn
        generalize T / BY = G at *
        go_wp2_with fail
        go_ret
        exact ⟨⟨min 9999 G, by first | rfl | rw [hmn] | simp [hmn], HF.out⟩, rfl⟩
    · have hj2 : j ≤ 2 := by omega
      have ht := HB.out.2.1 j hj2
      have HS := Lib.hid (HB.out.2.2.1 j hj2)
      have hd1 : decide (((k1 : Int) + 1) - 2 ≤ (k1 : Int) + 1 - (j : Int)) = true := by rw [decide_eq_true_iff]; omega
      generalize top3 l (k1 + 1) j = T at *
      by_cases hneg : k1 + 1 < j
      · have hd2 : decide ((0 : Int) ≤ (k1 : Int) + 1 - (j : Int)) = false := by rw [decide_eq_false_iff_not]; omega
        rw [if_pos hneg] at HS
        go_wp2_with fail
        go_roundw
        case rel => exact ⟨j + 1, by omega, by rw [HS.out]; simp, by simp; omega, trivial⟩
        case measure => simp [intOf]; omega
      · have hd2 : decide ((0 : Int) ≤ (k1 : Int) + 1 - (j : Int)) = true := by rw [decide_eq_true_iff]; omega
        rw [if_neg hneg] at HS
        obtain ⟨i, hi⟩ : ∃ i, k1 + 1 - j = i := ⟨_, rfl⟩
        rw [hi] at HS
        have hii : (k1 : Int) + 1 - (j : Int) = (i : Int) := by omega
        rw [hii] at hd1 hd2 ⊢
        by_cases hin : i < n
        · have hd3 : decide ((i : Int) < (n : Int)) = true := by rw [decide_eq_true_iff]; omega
          obtain ⟨b1, off1, rfl, hbl1, hcell1⟩ := HC1.out i hin
          have hx := hcell1 i hin
          have hxl := HB.out.2.2.2 i
          clear hcell1
          generalize l.getD i 0 = x at *
          go_wp2_with fail
          go_roundw
          case rel => exact ⟨j + 1, by omega, by rw [HS.out]; simp, by simp; omega, trivial⟩
          case measure => simp [intOf]; omega
        · have hd3 : decide ((i : Int) < (n : Int)) = false := by rw [decide_eq_false_iff_not]; omega
          have hx0 : l.getD i 0 = 0 := by simp [List.getD, show l.length ≤ i by rw [HN.out]; omega]
          rw [hx0] at HS
          go_wp2_with fail
          go_roundw
          case rel => exact ⟨j + 1, by omega, by rw [HS.out]; simp, by simp; omega, trivial⟩
          case measure => simp [intOf]; omega
end Go.Proofs.YteaeloeebfdodaaGreatDoor
