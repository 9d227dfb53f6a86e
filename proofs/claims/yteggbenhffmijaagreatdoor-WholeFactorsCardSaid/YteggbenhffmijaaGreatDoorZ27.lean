/- Part 27 of the proofs that laws of package whole answer true at every input and leave the input as it was, where the library's variables start as the text lays them (the texts W9, W10, Y1, Y2, J2, J3). -/
import Derived.Test.YteggbenhffmijaaGreatDoorZ26
import Derived.Test.YteggbenhffmijaaGreatDoorZ17
import Derived.Test.YteggbenhffmijaaGreatDoorZ20
import Derived.Test.YteggbenhffmijaaGreatDoorZ25
import Derived.Test.YteggbenhffmijaaGreatDoorZ18
import Derived.Test.YteggbenhffmijaaGreatDoorZ22
import Derived.Test.YteggbenhffmijaaGreatDoorZ12
set_option linter.unusedVariables false
set_option linter.unusedSimpArgs false
/- WALKS: whole.Floor and whole.Quo, by any number. -/
namespace Go.Proofs.YteggbenhffmijaaGreatDoor
open Go.RowKit
end Go.Proofs.YteggbenhffmijaaGreatDoor

/- WALKS: division by 0. -/
namespace Go.Proofs.YteggbenhffmijaaGreatDoor
open Go.RowKit Go.Proofs.Rf
end Go.Proofs.YteggbenhffmijaaGreatDoor

/- WALKS, the law WholeOrder. -/
namespace Go.Proofs.YteggbenhffmijaaGreatDoor
open Go.RowKit
theorem decI_inj {x y : Int} (h : Wh.decI x = Wh.decI y) : x = y := by
  have hn : ∀ {a b : Nat}, Wh.decN a = Wh.decN b → a = b := fun {a b} e => by rw [← Wh.numOf_decN a, e, Wh.numOf_decN]
  by_cases hx : x < 0
  · by_cases hy : y < 0
    · rw [decI_neg hx, decI_neg hy] at h
      injection h with _ h
      have := hn h; omega
    · rw [decI_neg hx, decI_pos hy] at h
      have := Wh.decN_digits y.natAbs 45 (by rw [← h]; simp)
      exact absurd this.1 (by decide)
  · by_cases hy : y < 0
    · rw [decI_pos hx, decI_neg hy] at h
      have := Wh.decN_digits x.natAbs 45 (by rw [h]; simp)
      exact absurd this.1 (by decide)
    · rw [decI_pos hx, decI_pos hy] at h
      have := hn h; omega
end Go.Proofs.YteggbenhffmijaaGreatDoor

/- WALKS, the law WholeDivision. -/
namespace Go.Proofs.YteggbenhffmijaaGreatDoor
open Go.RowKit
theorem txt_eqz (x : Int) : ((str (Wh.decI x)).toList == [48]) = decide (x = 0) := by
  have h0 : Wh.decI 0 = [48] := by unfold Wh.decI; simp [Wh.decN_zero]
  rw [Lib.toList_data, str_data, ← h0]
  by_cases h : x = 0
  · rw [h]; simp
  · rw [decide_eq_false h, beq_eq_false_iff_ne]
    exact fun e => h (decI_inj e)
end Go.Proofs.YteggbenhffmijaaGreatDoor

/- WALKS, WholeFactors 2: the reference's Factor. -/
namespace Go.Proofs.YteggbenhffmijaaGreatDoor
open Go.RowKit Go.Proofs.Rf
theorem Low.up {m p : Nat} (h : Low m p) (hz : m % p ≠ 0) : Low m (p + 1) := fun d h2 hd => by
  by_cases e : d = p
  · rw [e]; exact hz
  · exact h d h2 (by omega)
theorem Low.div {m p : Nat} (h : Low m p) (hz : m % p = 0) : Low (m / p) p := fun d h2 hd h0 => by
  refine h d h2 hd ?_
  have e : m = p * (m / p) := by have := Nat.div_add_mod m p; omega
  rw [e, Nat.mul_mod, h0, Nat.mul_zero, Nat.zero_mod]
theorem prq_one {m p d : Nat} (hp : 2 ≤ p) (hm : 1 < m) (hl : Low m p) (hd : 2 ≤ d) (hld : Low m d) (hz : m % d = 0) : prq p m = d := by
  obtain ⟨h1, h2, h3⟩ := prq_spec hp hm hl
  rcases Nat.lt_trichotomy (prq p m) d with h | h | h
  · exact absurd h2 (hld _ (by omega) h)
  · exact h
  · exact absurd hz (h1 d hd h)
theorem pr_up {m p : Nat} (hp : 2 ≤ p) (hl : Low m p) (hl1 : Low m (p + 1)) : pr (m + 1) p m = pr (m + 1) (p + 1) m := by
  rw [pr, pr]
  by_cases h : m ≤ 1
  · rw [if_pos h, if_pos h]
  · rw [if_neg h, if_neg h]
    obtain ⟨h1, h2, h3⟩ := prq_spec (p := p + 1) (by omega) (by omega) hl1
    rw [prq_one hp (by omega) hl (by omega) h1 h2]
theorem pr_take {m p : Nat} (hp : 2 ≤ p) (hm : 1 < m) (hl : Low m p) (hz : m % p = 0) : pr (m + 1) p m = p :: pr (m / p + 1) p (m / p) := by
  rw [pr_step hp hm, prq_one hp hm hl hp hl hz]
theorem low_ge {m p : Nat} (hm : 1 < m) (hl : Low m p) : p ≤ m := by
  rcases Nat.lt_or_ge m p with h | h
  · exact absurd (Nat.mod_self m) (hl m (by omega) h)
  · exact h
theorem dec_long {n : Nat} (h : 10 ^ 15 ≤ n) : 15 < (Wh.decN n).length := by
  rcases Nat.lt_or_ge 15 (Wh.decN n).length with h1 | h1
  · exact h1
  · have h2 := Wh.numOf_lt (l := Wh.decN n) (Wh.decN_digits n)
    rw [Wh.numOf_decN] at h2
    have := Nat.pow_le_pow_right (n := 10) (by decide) h1
    omega
set_option maxRecDepth 100000 in
set_option maxHeartbeats 400000 in
theorem ToInt_long (x : Int) (hx : V400 x) (h15 : 15 < (Wh.decN x.natAbs).length) (w : World) :
    Calls Tryz.prog 62 #[txt x] w fun e w' => e = .returned (.tuple #[.int .i64 0, .bool false]) ∧ w = w' := by
  have HA := Lib.hid (fun w => Abs_txt x w)
  have HF := Lib.hid (fun w => form_txtg x hx w)
  have hs : (str (Wh.decN x.natAbs)).size = (Wh.decN x.natAbs).length := rfl
  have hx' : (Wh.decN x.natAbs).length ≤ 400 := hx
  have hd : decide ((15 : Int) < ((str (Wh.decN x.natAbs)).size : Nat)) = true := by rw [decide_eq_true_iff, hs]; omega
  clear hx
  unfold txt at *
  generalize str (Wh.decI x) = S at *
  generalize str (Wh.decN x.natAbs) = T at *
  go_enter Tryz.func62, Tryz.ntmps62
  go_wp2_with fail
  refine (HA.out _).mono ?_
  rintro e w' ⟨rfl, rfl⟩
  go_wp2_with fail
  refine (HF.out _).mono ?_
  rintro e w' ⟨rfl, rfl⟩
  go_wp2_with fail
  go_ret2
  exact ⟨rfl, rfl⟩
set_option maxRecDepth 100000 in
set_option maxHeartbeats 800000 in
theorem rFactor_bad (l : List UInt8) (c : Int) (hlen : l.length ≤ 2000) (hc : c = 1 ∨ c = 13) (h : Bad l c) (w : World) :
    Calls Tryz.prog 69 #[.string (str l)] w fun e w' => e = .returned (.tuple #[.slice none 0 0, .int .i64 c]) ∧ w = w' := by
  have HC := Lib.hid (fun w => Check_not l c hlen h w)
  have hne : ((c : Int) == 0) = false := by rw [beq_eq_false_iff_ne]; omega
  clear h hlen hc
  generalize str l = S at *
  go_enter Tryz.func69, Tryz.ntmps69
  go_wp2_with fail
  refine (HC.out _).mono ?_
  rintro e w' ⟨rfl, rfl⟩
  go_wp2_with fail
  go_ret2
  exact ⟨rfl, rfl⟩
set_option maxRecDepth 100000 in
set_option maxHeartbeats 800000 in
theorem rFactor_low (x : Int) (hx : V400 x) (h : x ≤ 0) (w : World) :
    Calls Tryz.prog 69 #[txt x] w fun e w' => e = .returned (.tuple #[.slice none 0 0, .int .i64 2]) ∧ w = w' := by
  have HC := Lib.hid (fun w => Check_txt x hx w)
  have HNG := Lib.hid (fun w => Neg_txt x w)
  have hz := txt_eqz x
  by_cases hn : x < 0
  · rw [decide_eq_true hn] at HNG
    clear hx hz
    unfold txt at *
    generalize str (Wh.decI x) = S at *
    go_enter Tryz.func69, Tryz.ntmps69
    go_wp2_with fail
    refine (HC.out _).mono ?_
    rintro e w' ⟨rfl, rfl⟩
    go_wp2_with fail
    refine (HNG.out _).mono ?_
    rintro e w' ⟨rfl, rfl⟩
    go_wp2_with fail
    go_ret2
    exact ⟨rfl, rfl⟩
  · rw [decide_eq_false hn] at HNG
    rw [decide_eq_true (show x = 0 by omega)] at hz
    clear hx
    unfold txt at *
    generalize str (Wh.decI x) = S at *
    go_enter Tryz.func69, Tryz.ntmps69
    go_wp2_with fail
    refine (HC.out _).mono ?_
    rintro e w' ⟨rfl, rfl⟩
    go_wp2_with fail
    refine (HNG.out _).mono ?_
    rintro e w' ⟨rfl, rfl⟩
    go_wp2_with fail
    go_ret2
    exact ⟨rfl, rfl⟩
set_option maxRecDepth 100000 in
set_option maxHeartbeats 800000 in
theorem rFactor_large (x : Int) (hx : V400 x) (h : 1000000 < x) (w : World) :
    Calls Tryz.prog 69 #[txt x] w fun e w' => e = .returned (.tuple #[.slice none 0 0, .int .i64 13]) ∧ w = w' := by
  have HC := Lib.hid (fun w => Check_txt x hx w)
  have HNG := Lib.hid (fun w => Neg_txt x w)
  have hz := txt_eqz x
  rw [decide_eq_false (show ¬ x < 0 by omega)] at HNG
  rw [decide_eq_false (show ¬ x = 0 by omega)] at hz
  by_cases h15 : 15 < (Wh.decN x.natAbs).length
  · have HT := Lib.hid (fun w => ToInt_long x hx h15 w)
    clear hx h15
    unfold txt at *
    generalize str (Wh.decI x) = S at *
    go_enter Tryz.func69, Tryz.ntmps69
    go_wp2_with fail
    refine (HC.out _).mono ?_
    rintro e w' ⟨rfl, rfl⟩
    go_wp2_with fail
    refine (HNG.out _).mono ?_
    rintro e w' ⟨rfl, rfl⟩
    go_wp2_with fail
    refine (HT.out _).mono ?_
    rintro e w' ⟨rfl, rfl⟩
    go_wp2_with fail
    go_ret2
    exact ⟨rfl, rfl⟩
  · have HT := Lib.hid (fun w => ToInt_any x (by
      rcases Nat.lt_or_ge x.natAbs (10 ^ 15) with h | h
      · exact h
      · exact absurd (dec_long h) h15) w)
    have hgt : decide ((1000000 : Int) < x) = true := decide_eq_true h
    clear hx h15
    unfold txt at *
    generalize str (Wh.decI x) = S at *
    go_enter Tryz.func69, Tryz.ntmps69
    go_wp2_with fail
    refine (HC.out _).mono ?_
    rintro e w' ⟨rfl, rfl⟩
    go_wp2_with fail
    refine (HNG.out _).mono ?_
    rintro e w' ⟨rfl, rfl⟩
    go_wp2_with fail
    refine (HT.out _).mono ?_
    rintro e w' ⟨rfl, rfl⟩
    go_wp2_with fail
    go_ret2
    exact ⟨rfl, rfl⟩
end Go.Proofs.YteggbenhffmijaaGreatDoor

/- WALKS, WholeFactors 3: the reference's Factor of the numbers from 1 to a million. -/
namespace Go.Proofs.YteggbenhffmijaaGreatDoor
open Go.RowKit Go.Proofs.Rf
def txs (l : List Nat) : List Value := l.map fun q : Nat => txt (q : Int)
theorem sl_of_row {W : World} {base n size : Nat} {e : TypeId} {v : Value} {xs : List Value} (h : W.ownsRow base e size v n xs) : ∃ a c, v = .slice a n c := by
  rcases h.2 with ⟨rfl, rfl⟩ | ⟨g, cap, cur, rfl, _⟩
  · exact ⟨_, _, rfl⟩
  · exact ⟨_, _, rfl⟩
/-- what each operation of a region yields -/
def FG (o d : Value) (s : ByteArray) (m z : Value) : Nat → Value → World → Prop
  | 0, v, _ => v = o
  | 1, v, _ => v = d
  | 2, v, _ => v = .string s
  | 3, v, w => ∃ b, v = .slice (some ⟨b, 0, none⟩) 1 1 ∧ b < w.heap.size ∧ w.cell? ⟨b, 0, none⟩ = some (.string s)
  | 4, v, w => True
  | 5, v, _ => v = m
  | 6, v, _ => v = d
  | 7, v, _ => v = z
  | _, v, _ => v = .bool true
theorem FG_stays (o d : Value) (s : ByteArray) (m z : Value) : ∀ i v w w', FG o d s m z i v w → Below w.heap.size w w' → FG o d s m z i v w' := by
  intro i v w w' h hb
  match i, h with
  | 0, h => exact h
  | 1, h => exact h
  | 2, h => exact h
  | 3, h => exact (by obtain ⟨b, e, hl, hc⟩ := h; exact ⟨b, e, Nat.lt_of_lt_of_le hl hb.size, (hb.cell (p := ⟨b, 0, none⟩) hl).trans hc⟩)
  | 4, h => exact trivial
  | 5, h => exact h
  | 6, h => exact h
  | 7, h => exact h
  | _ + 8, h => exact h
set_option maxRecDepth 100000 in
set_option maxHeartbeats 2000000 in
theorem rFactor_good (N : Nat) (hN : 1 ≤ N ∧ N ≤ 1000000) (w : World) :
    Calls Tryz.prog 69 #[txt (N : Int)] w fun e w' => (∃ v, e = .returned (.tuple #[v, .int .i64 0]) ∧ w'.ownsRow w.heap.size 9 1 v (pr (N + 1) 2 N).length (txs (pr (N + 1) 2 N))) ∧ Below w.heap.size w w' := by
  have hx : V400 (N : Int) := show (Wh.decN ((N : Nat) : Int).natAbs).length ≤ 400 from Nat.le_trans (Wh.decN_length_le (k := 9) (by decide) (by have : (10 : Nat) ^ 9 = 1000000000 := rfl; omega)) (by decide)
  have HC := Lib.hid (fun w => Check_txt (N : Int) hx w)
  have HNG := Lib.hid (fun w => Neg_txt (N : Int) w)
  have HT := Lib.hid (fun w => ToInt_any (N : Int) (by have : (10 : Nat) ^ 15 = 1000000000000000 := rfl; omega) w)
  have hz := txt_eqz (N : Int)
  rw [decide_eq_false (show ¬ (N : Int) < 0 by omega)] at HNG
  rw [decide_eq_false (show ¬ (N : Int) = 0 by omega)] at hz
  have hgt : decide ((1000000 : Int) < (N : Int)) = false := by rw [decide_eq_false_iff_not]; omega
  have hLl : (pr (N + 1) 2 N).length ≤ 1000000 := Nat.le_trans (pr_len _ _ _ (by decide)) hN.2
  have HI0 : Hid (Low N 2) := Lib.hid (fun d h2 hd => by omega)
  obtain ⟨L, hL⟩ : ∃ L, L = pr (N + 1) 2 N := ⟨_, rfl⟩
  rw [← hL] at hLl ⊢
  have HLD := Lib.hid hL
  clear hL
  have HOF := fun (d : Nat) (h : d ≤ 1000000) => Lib.hid (fun w => OfInt_int (d : Int) (by omega) w)
  have HOFI := Lib.hid HOF
  clear hx HOF
  unfold txt at *
  generalize str (Wh.decI (N : Int)) = S at *
  go_enter Tryz.func69, Tryz.ntmps69
  go_wp2_with fail
  refine (HC.out _).mono ?_
  rintro e w' ⟨rfl, rfl⟩
  go_wp2_with fail
  refine (HNG.out _).mono ?_
  rintro e w' ⟨rfl, rfl⟩
  go_wp2_with fail
  refine (HT.out _).mono ?_
  rintro e w' ⟨rfl, rfl⟩
  clear HC HNG HT
  go_wp2_with fail
  go_loopw [5, 7, 8] (fun nv ov dv wr => ∃ (m d c : Nat) (pre : List Nat) (sa : Option Addr) (sac : Nat), nv = .int .i64 m ∧ dv = .int .i64 d ∧ ov = .slice sa c sac ∧ 1 ≤ m ∧ m ≤ N ∧ 2 ≤ d ∧ d ≤ N + 1 + 1 ∧ c ≤ 1000000 ∧ Hid (Low m d ∧ pre ++ pr (m + 1) d m = L) ∧ Hid (wr.ownsRow w.heap.size 9 1 (.slice sa c sac) c (txs pre) ∧ Below w.heap.size w wr) ∧ Hid (pre.length = c)) (fun _ _ dv _ => N + 2 - (intOf dv).toNat)
  case atStart => exact ⟨N, 2, 0, [], none, 0, rfl, rfl, rfl, hN.1, Nat.le_refl _, by omega, by omega, by omega, Lib.hid ⟨HI0.out, by rw [← HLD.out]; rfl⟩, Lib.hid ⟨World.ownsRow_nil _ _ _ _, Below.refl _ _⟩, Lib.hid rfl⟩
  case round =>
    clear HI0
    obtain ⟨m, d, c, pre, sa, sac, rfl, rfl, rfl, hm1, hmN, hd2, hdN, hc, HL, HO, HLen⟩ := hrel
    by_cases hm : 1 < m
    · have hmd : decide (1 < (m : Int)) = true := by rw [decide_eq_true_iff]; omega
      have hdm := low_ge hm HL.out.1
      go_wp2_with fail
      go_loopw [5, 7] (fun nv ov wi => ∃ (m1 c1 : Nat) (pre1 : List Nat) (sb : Option Addr) (sbc : Nat), nv = .int .i64 m1 ∧ ov = .slice sb c1 sbc ∧ 1 ≤ m1 ∧ m1 ≤ m ∧ c1 ≤ 1000000 ∧ Hid (Low m1 d ∧ pre1 ++ pr (m1 + 1) d m1 = L) ∧ Hid (wi.ownsRow w.heap.size 9 1 (.slice sb c1 sbc) c1 (txs pre1) ∧ Below w.heap.size w wi) ∧ Hid (pre1.length = c1)) (fun nv _ _ => (intOf nv).toNat)
      case atStart => exact ⟨m, c, pre, sa, sac, rfl, rfl, hm1, Nat.le_refl _, hc, HL, HO, HLen⟩
      case round =>
        clear HL HO HLen
        obtain ⟨m1, c1, pre1, sb, sbc, rfl, rfl, hm11, hm1m, hc1, HL, HO, HLen⟩ := hrel
        have hdz : ((d : Int) == 0) = false := by rw [beq_eq_false_iff_ne]; omega
        by_cases hz1 : m1 % d = 0
        · have hmb : ((m1 : Int) % (d : Int) == 0) = true := by rw [beq_iff_eq]; omega
          have HZ1 := Lib.hid hz1
          clear hz1
          go_wp2_with fail
          have hQI : ((m1 / d : Nat) : Int) = (m1 : Int) / (d : Int) := Int.natCast_ediv _ _
          have HQI := Lib.hid hQI
          have hm1x : 1 < m1 := by
            rcases Nat.lt_or_ge 1 m1 with h | h
            · exact h
            · have h9 : m1 = 1 := by omega
              have := HZ1.out
              rw [h9, Nat.mod_eq_of_lt (by omega)] at this
              omega
          obtain ⟨s, hs⟩ : ∃ s, s = str (Wh.decI (d : Int)) := ⟨_, rfl⟩
          have HOFD := Lib.hid (HOFI.out d (by omega)).out
          rw [← hs] at HOFD
          have HSD : Hid (txt (d : Int) = .string s) := Lib.hid (by rw [hs]; rfl)
          have hqb : (m1 : Int) / (d : Int) ≤ 1000000 ∧ 0 ≤ (m1 : Int) / (d : Int) := by rw [← hQI]; have h9 := Nat.div_le_self m1 d; generalize m1 / d = z9 at h9 ⊢; omega
          have HWR : Hid (IntKind.i64.wrap ((m1 : Int) / (d : Int)) = (m1 : Int) / (d : Int)) := Lib.hid (by rw [IntKind.wrap_i64]; generalize (m1 : Int) / (d : Int) = z9 at *; omega)
          clear hs hQI
          refine wp_mono (Q := fun e a W' => e = .normal ∧ ∃ (vals : Nat → Value) (sc2 : Option Addr) (sc2c : Nat), a = { tmps := #[.string S, undef, .slice none 0 0, .int .i64 0, .int .i64 0, .int .i64 ((m1 : Int) / (d : Int)), .bool true, .slice sc2 (c1 + 1) sc2c, .int .i64 d, .string S, .int .i64 0, .int .i64 0, .bool false, undef, .string S, .bool false, .bool false, .string S, .bool false, .bool false, .tuple #[.int .i64 N, .bool true], .string S, .tuple #[.int .i64 N, .bool true], .int .i64 N, .bool true, .bool true, .bool false, .bool false, .int .i64 N, .bool false, .bool false, .int .i64 m, .bool true, u33, u34, .int .i64 m1, .int .i64 d, .int .i64 ((m1 : Int) % (d : Int)), .bool true, vals 0, vals 1, vals 2, vals 3, .slice sc2 (c1 + 1) sc2c, vals 5, vals 6, vals 7, undef], defers := [] } ∧ W'.ownsRow w.heap.size 9 1 (.slice sc2 (c1 + 1) sc2c) (c1 + 1) (txs (pre1 ++ [d])) ∧ Below w.heap.size w W') ?_ ?_
          · refine Rt.wp_region_grow (n0 := 3) [4, 8, 9] [5, 6, 7] 48 (fun vals => { tmps := #[.string S, undef, .slice none 0 0, .int .i64 0, .int .i64 0, .int .i64 m1, .bool true, .slice sb c1 sbc, .int .i64 d, .string S, .int .i64 0, .int .i64 0, .bool false, undef, .string S, .bool false, .bool false, .string S, .bool false, .bool false, .tuple #[.int .i64 N, .bool true], .string S, .tuple #[.int .i64 N, .bool true], .int .i64 N, .bool true, .bool true, .bool false, .bool false, .int .i64 N, .bool false, .bool false, .int .i64 m, .bool true, u33, u34, .int .i64 m1, .int .i64 d, .int .i64 ((m1 : Int) % (d : Int)), .bool true, vals 0, vals 1, vals 2, vals 3, u43, vals 5, vals 6, vals 7, undef], defers := [] }) (FG (.slice sb c1 sbc) (.int .i64 d) s (.int .i64 m1) (.int .i64 ((m1 : Int) / (d : Int)))) (by kernel_rfl) (by kernel_rfl) (by kernel_rfl) (by kernel_rfl) (fun _ _ _ _ _ h => absurd h.1 (by simp)) (by kernel_rfl) rfl (fun _ => by kernel_rfl) (by kernel_rfl) (by kernel_rfl) (FG_stays _ _ _ _ _) ?_ ?_ ?_
            · intro i o' dT hi hT hW hd vals w' hb hf
              have hlt : i < 10 := (Array.getElem?_eq_some_iff.1 hi).1
              rcases i with _ | _ | _ | _ | _ | _ | _ | _ | _ | _ | i
              · obtain rfl := Option.some.inj hi
                obtain rfl := Option.some.inj hd
                dsimp only
                go_simp
                exact ⟨rfl, Below.refl _ _⟩
              · obtain rfl := Option.some.inj hi
                obtain rfl := Option.some.inj hd
                dsimp only
                go_simp
                exact ⟨rfl, Below.refl _ _⟩
              · obtain rfl := Option.some.inj hi
                obtain rfl := Option.some.inj hd
                have e1 : vals 1 = .int .i64 d := hf 1 (by kernel_rfl)
                dsimp only
                rw [e1]
                go_simp
                refine (HOFD.out w').mono ?_
                rintro e w5 ⟨rfl, hb5⟩
                exact ⟨rfl, hb5⟩
              · obtain rfl := Option.some.inj hi
                obtain rfl := Option.some.inj hd
                have e2 : vals 2 = .string s := hf 2 (by kernel_rfl)
                dsimp only
                rw [e2]
                go_simp
                exact ⟨⟨w'.heap.size, rfl, by simp, by go_simp⟩, (Below.refl _ _).alloc (Nat.le_refl _) _⟩
              · cases hT
              · cases hW
              · cases hW
              · cases hW
              · cases hT
              · cases hT
              · omega
            · intro p o dT hi hW hd vals w' hb hf
              have hlt : p < 10 := (Array.getElem?_eq_some_iff.1 hi).1
              rcases p with _ | _ | _ | _ | _ | _ | _ | _ | _ | _ | p
              · cases hW
              · cases hW
              · cases hW
              · cases hW
              · cases hW
              · obtain rfl := Option.some.inj hi
                obtain rfl := Option.some.inj hd
                exact ⟨.int .i64 m1, fun w'' => by dsimp only; go_simp, rfl⟩
              · obtain rfl := Option.some.inj hi
                obtain rfl := Option.some.inj hd
                exact ⟨.int .i64 d, fun w'' => by dsimp only; go_simp, rfl⟩
              · obtain rfl := Option.some.inj hi
                obtain rfl := Option.some.inj hd
                have e5 : vals 5 = .int .i64 m1 := hf 5 (by kernel_rfl)
                have e6 : vals 6 = .int .i64 d := hf 6 (by kernel_rfl)
                exact ⟨.int .i64 ((m1 : Int) / (d : Int)), fun w'' => by dsimp only; rw [e5, e6]; go_simp; rw [if_neg (by omega), HWR.out], rfl⟩
              · cases hW
              · cases hW
              · omega
            · intro vals w' hb hf
              have e0 : vals 0 = .slice sb c1 sbc := hf 0 (by decide) rfl
              have e1 : vals 1 = .int .i64 d := hf 1 (by decide) rfl
              have e2 : vals 2 = .string s := hf 2 (by decide) rfl
              have e5 : vals 5 = .int .i64 m1 := hf 5 (by decide) rfl
              have e6 : vals 6 = .int .i64 d := hf 6 (by decide) rfl
              have e7 : vals 7 = .int .i64 ((m1 : Int) / (d : Int)) := hf 7 (by decide) rfl
              obtain ⟨ab, e3, hab, hcab⟩ := hf 3 (by decide) rfl
              have HBB := Lib.hid hb; clear hb hf
              obtain ⟨inf, i1, i2, i3, i4⟩ := infoS
              have hown' : w'.ownsRow w.heap.size 9 1 (.slice sb c1 sbc) c1 (txs pre1) := ownsRow_onlyS HO.out.1 (OnlyS.of_below (S := fun _ => False) HBB.out) (fun _ _ h => h)
              have hzV : w.heap.size ≤ w'.heap.size := Nat.le_trans HO.out.2.size HBB.out.size
              rw [e0, e3]
              refine Rt.wpAny_step (i := 4) (by kernel_rfl) rfl (by rfl) (fun K hK => ?_)
              have HK := Lib.hid hK; clear hK
              refine wp_append_own w' (.tmp 39) (.tmp 42) 46 rfl w.heap.size 9 inf (.string ⟨#[]⟩) 1 16 Tryz.underlying46 i1 i2 i3 i4 rfl (by decide) (.slice sb c1 sbc) c1 (txs pre1) rfl hown' ⟨ab, 0, none⟩ 1 1 [.string s] rfl rfl ?_ ?_ ?_ ?_ hzV ?_
              · intro j u hj
                cases j with
                | zero => cases hj; exact hcab
                | succ j => cases j <;> cases hj
              · intro u hu
                rw [List.mem_singleton.1 hu]; rfl
              · simp only [maxLen]; omega
              · omega
              · intro v' W1 ho1 hg1 _
                refine HK.out _ _ ?_
                clear HK
                obtain ⟨sc2, sc2c, rfl⟩ := sl_of_row ho1
                have hgo := grownBy_onlyS hg1
                have hbw : Below w.heap.size w W1 := (HO.out.2.trans (HBB.out.mono HO.out.2.size)).trans (hgo.below (B := w.heap.size) (fun k hk => ownBlock_ge hown' hk) hzV)
                have HR1 : Hid (W1.ownsRow w.heap.size 9 1 (.slice sc2 (c1 + 1) sc2c) (c1 + 1) (txs (pre1 ++ [d])) ∧ Below w.heap.size w W1) := Lib.hid ⟨by rw [txs, List.map_append]; rw [← HSD.out] at ho1; exact ho1, hbw⟩
                clear hgo hbw ho1 hg1 hown'
                refine Rt.wpAny_step (i := 8) (by kernel_rfl) rfl (by rfl) (fun K hK => ?_)
                have HK := Lib.hid hK; clear hK
                go_simp
                refine HK.out _ _ ?_
                clear HK
                refine Rt.wpAny_step (i := 9) (by kernel_rfl) rfl (by rfl) (fun K hK => ?_)
                have HK := Lib.hid hK; clear hK
                go_simp
                refine HK.out _ _ ?_
                exact Rt.wpAny_end (by kernel_rfl) ⟨rfl, vals, sc2, sc2c, by first | rfl | (simp only [e0, e1, e2, e3, e5, e6, e7]), HR1.out⟩
          · rintro e a W1 ⟨rfl, vals, sc2, sc2c, rfl, hR⟩
            have HR := Lib.hid hR; clear hR
            try dsimp only
            go_wp2_with fail
            rw [← HQI.out]
            go_roundw
            case rel =>
              refine ⟨m1 / d, c1 + 1, pre1 ++ [d], sc2, sc2c, rfl, rfl, ?_, ?_, ?_, Lib.hid ⟨HL.out.1.div HZ1.out, ?_⟩, HR, Lib.hid (by rw [List.length_append, HLen.out]; rfl)⟩
              · have h8 := low_ge hm1x HL.out.1
                exact Nat.div_pos h8 (by omega)
              · exact Nat.le_trans (Nat.div_le_self m1 d) hm1m
              · have h8 := congrArg List.length HL.out.2
                rw [pr_take hd2 hm1x HL.out.1 HZ1.out, List.length_append, List.length_cons, HLen.out] at h8
                omega
              · have h8 := HL.out.2
                rw [pr_take hd2 hm1x HL.out.1 HZ1.out] at h8
                rw [List.append_assoc]; exact h8
            case measure =>
              have h8 := Nat.div_lt_self (n := m1) (k := d) (by omega) (by omega)
              show ((m1 / d : Nat) : Int).toNat < ((m1 : Nat) : Int).toNat
              omega
        · have hmb : ((m1 : Int) % (d : Int) == 0) = false := by rw [beq_eq_false_iff_ne]; omega
          have HZ1 := Lib.hid hz1
          clear hz1
          go_wp2_with fail
          go_roundw
          case rel =>
            have hl1 := HL.out.1.up HZ1.out
            refine ⟨m1, d + 1, c1, pre1, sb, sbc, rfl, by go_num, rfl, hm11, by omega, by omega, by omega, hc1, Lib.hid ⟨hl1, ?_⟩, HO, HLen⟩
            rw [← pr_up hd2 HL.out.1 hl1]; exact HL.out.2
          case measure => simp [intOf]; omega
    · have hmd : decide (1 < (m : Int)) = false := by rw [decide_eq_false_iff_not]; omega
      have hpr : pr (m + 1) d m = [] := by rw [pr, if_pos (by omega)]
      have hLL := HL.out.2
      rw [hpr, List.append_nil] at hLL
      have HLL := Lib.hid hLL
      clear hLL hpr
      go_wp2_with fail
      go_ret2
      refine ⟨⟨_, rfl, ?_⟩, HO.out.2⟩
      rw [← HLL.out, HLen.out]
      exact HO.out.1
end Go.Proofs.YteggbenhffmijaaGreatDoor
