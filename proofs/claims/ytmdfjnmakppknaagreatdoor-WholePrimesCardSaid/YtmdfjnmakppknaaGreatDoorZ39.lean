/- Part 39 of the proofs that laws of package whole answer true at every input and leave the input as it was, where the library's variables start as the text lays them (the texts K2, K1, K3, K4). -/
import Derived.Test.YtmdfjnmakppknaaGreatDoorZ32
import Derived.Test.YtmdfjnmakppknaaGreatDoorZ22
set_option linter.unusedVariables false
set_option linter.unusedSimpArgs false
/- WALKS: the reference's number of a text; the kit's text of a number. -/
namespace Go.Proofs.YtmdfjnmakppknaaGreatDoor
open Go.RowKit Go.Proofs.Rf
structure DecL (l : List UInt8) : Prop where
  ne : l ≠ []
  dig : ∀ c ∈ l, 48 ≤ c.toNat ∧ c.toNat ≤ 57
  head : l.headD 0 ≠ 48 ∨ l.length = 1
  len : l.length ≤ 15
theorem DecL.at {l : List UInt8} (h : DecL l) {i : Nat} (hi : i < l.length) : 48 ≤ (l.getD i 0).toNat ∧ (l.getD i 0).toNat ≤ 57 := by
  rw [List.getD_eq_getElem?_getD, List.getElem?_eq_getElem hi]; exact h.dig _ (List.getElem_mem hi)
theorem DecL.pos {l : List UInt8} (h : DecL l) : 0 < l.length := List.length_pos_iff.2 h.ne
set_option maxHeartbeats 400000 in
theorem neg_dec (l : List UInt8) (h : DecL l) (w : World) :
    Calls Tryz.prog 27 #[.string (str l)] w fun e w' => e = .returned (.bool false) ∧ w = w' := by
  have hs0 : 0 < (str l).size := h.pos
  have hc := h.at h.pos
  have h45 : ((((str l)[0]'hs0).toNat : Int) == 45) = false := by rw [beq_eq_false_iff_ne, str_get l 0 hs0]; omega
  have hsz : (str l).size ≤ 15 := h.len
  clear h hc
  go_enter Tryz.func27, Tryz.ntmps27
  go_wp2
  go_ret
  exact ⟨rfl, rfl⟩
set_option maxHeartbeats 400000 in
theorem abs_dec (l : List UInt8) (h : DecL l) (w : World) :
    Calls Tryz.prog 26 #[.string (str l)] w fun e w' => e = .returned (.string (str l)) ∧ w = w' := by
  have H := Lib.hid h; clear h
  go_enter Tryz.func26, Tryz.ntmps26
  go_wp2_with fail
  refine (neg_dec l H.out _).mono ?_
  rintro e w' ⟨rfl, rfl⟩
  go_wp2
  go_ret
  exact ⟨rfl, rfl⟩
theorem digits_loop (l : List UInt8) (H : Hid (DecL l)) (k : Nat) (hlt : k < (str l).size) : ∃ c : Nat, (((str l)[k]'hlt).toNat : Int) = (c : Int) ∧ (l.getD k 0).toNat = c ∧ 48 ≤ c ∧ c ≤ 57 := by
  have hc := H.out.at (i := k) hlt
  exact ⟨(l.getD k 0).toNat, by rw [str_get l k hlt], rfl, hc.1, hc.2⟩
set_option maxHeartbeats 400000 in
theorem digits_dec (l : List UInt8) (h : DecL l) (w : World) :
    Calls Tryz.prog 154 #[.string (str l)] w fun e w' => e = .returned (.bool true) ∧ w = w' := by
  have hs0 : 0 < (str l).size := h.pos
  have hsz : (str l).size ≤ 15 := h.len
  have H := Lib.hid h
  have hh : ((str l).size = 1) ∨ (1 < (str l).size ∧ ((((str l)[0]'hs0).toNat : Int) == 48) = false) := by
    by_cases h1 : (str l).size = 1
    · exact .inl h1
    · right
      refine ⟨by omega, ?_⟩
      rcases h.head with h2 | h2
      · rw [beq_eq_false_iff_ne, str_get l 0 hs0]
        intro e
        apply h2
        have e2 : l.getD 0 0 = 48 := UInt8.toNat_inj.1 (show (l.getD 0 0).toNat = 48 by omega)
        rw [← e2]; cases l <;> rfl
      · exact absurd h2 h1
  clear h
  rcases hh with h1 | ⟨h1, h2⟩
  case' inr =>
    have h0 : ((((str l).size : Nat) : Int) == 0) = false := by rw [beq_eq_false_iff_ne]; omega
    have h3 : decide ((1 : Int) < ((str l).size : Nat)) = true := by rw [decide_eq_true_iff]; omega
  all_goals
    go_enter Tryz.func154, Tryz.ntmps154
    go_wp2_with fail
    go_loopw [3] (fun i wr => ∃ k : Nat, k ≤ (str l).size ∧ i = .int .i64 k ∧ wr = w) (fun i _ => (str l).size - (intOf i).toNat)
    case atStart => exact ⟨0, Nat.zero_le _, rfl, rfl⟩
    case round =>
      obtain ⟨k, hk, rfl, rfl⟩ := hrel
      by_cases hlt : k < (str l).size
      · have hd : decide ((k : Int) < ((str l).size : Nat)) = true := by simpa using hlt
        obtain ⟨c, hx, _, hc1, hc2⟩ := digits_loop l H k hlt
        have hlo : decide ((c : Int) < 48) = false := by rw [decide_eq_false_iff_not]; omega
        have hhi : decide ((57 : Int) < (c : Int)) = false := by rw [decide_eq_false_iff_not]; omega
        go_wp2_with fail
        go_roundw
        case rel => exact ⟨k + 1, by omega, by simp, trivial⟩
        case measure => simp [intOf]; omega
      · have hd : decide ((k : Int) < ((str l).size : Nat)) = false := by simpa using hlt
        go_wp2_with fail
        go_ret
        exact ⟨rfl, rfl⟩
set_option maxHeartbeats 400000 in
theorem form_dec (l : List UInt8) (h : DecL l) (w : World) :
    Calls Tryz.prog 106 #[.string (str l)] w fun e w' => e = .returned (.bool true) ∧ w = w' := by
  have hb : ((str l).toList == [45, 48]) = false := by
    rw [Lib.toList_data, str_data, beq_eq_false_iff_ne]
    intro e
    have := h.dig 45 (by rw [e]; simp)
    exact absurd this.1 (by decide)
  have H := Lib.hid h; clear h
  have HB := Lib.hid hb; clear hb
  go_enter Tryz.func106, Tryz.ntmps106
  go_wp2_with fail
  refine (abs_dec l H.out _).mono ?_
  rintro e w' ⟨rfl, rfl⟩
  go_wp2_with fail
  refine (digits_dec l H.out _).mono ?_
  rintro e w' ⟨rfl, rfl⟩
  go_wp2_with fail
  rw [HB.out]
  go_ret
  exact ⟨rfl, rfl⟩
theorem numOf_take_le (l : List UInt8) (k : Nat) (hl : l.length ≤ 15) (hd : ∀ c ∈ l, 48 ≤ c.toNat ∧ c.toNat ≤ 57) : Wh.numOf (l.take k) < 1000000000000000 := by
  have h1 : ∀ c ∈ l.take k, 48 ≤ c.toNat ∧ c.toNat ≤ 57 := fun c hc => hd c (List.mem_of_mem_take hc)
  have h2 : (l.take k).length ≤ 15 := by rw [List.length_take]; omega
  have h3 := Wh.numOf_lt h1
  exact Nat.lt_of_lt_of_le h3 (Nat.le_trans (Nat.pow_le_pow_right (by decide) h2) (by decide))
set_option maxHeartbeats 400000 in
theorem ToInt_dec (l : List UInt8) (h : DecL l) (w : World) :
    Calls Tryz.prog 45 #[.string (str l)] w fun e w' => e = .returned (.tuple #[.int .i64 (Wh.numOf l : Nat), .bool true]) ∧ w = w' := by
  have hsz : (str l).size ≤ 15 := h.len
  have H := Lib.hid h; clear h
  go_enter Tryz.func45, Tryz.ntmps45
  go_wp2_with fail
  refine (abs_dec l H.out _).mono ?_
  rintro e w' ⟨rfl, rfl⟩
  go_wp2_with fail
  refine (form_dec l H.out _).mono ?_
  rintro e w' ⟨rfl, rfl⟩
  have h15 : decide ((15 : Int) < ((str l).size : Nat)) = false := by rw [decide_eq_false_iff_not]; omega
  go_wp2_with fail
  go_loopw [5, 6] (fun a i wr => ∃ k : Nat, k ≤ (str l).size ∧ i = .int .i64 k ∧ a = .int .i64 (Wh.numOf (l.take k) : Nat) ∧ wr = w) (fun _ i _ => (str l).size - (intOf i).toNat)
  case atStart => exact ⟨0, Nat.zero_le _, rfl, rfl, rfl⟩
  case round =>
    obtain ⟨k, hk, rfl, rfl, rfl⟩ := hrel
    by_cases hlt : k < (str l).size
    · have hd : decide ((k : Int) < ((str l).size : Nat)) = true := by rw [decide_eq_true_iff]; omega
      obtain ⟨c, hx, hcc, hc1, hc2⟩ := digits_loop l H k hlt
      have hnx : Wh.numOf (l.take (k + 1)) = 10 * Wh.numOf (l.take k) + (c - 48) := by
        rw [Wh.numOf_take_succ l k hlt, ← hcc]; rfl
      have hlim := numOf_take_le l k H.out.len H.out.dig
      have HNX := Lib.hid hnx; clear hnx hcc
      generalize Wh.numOf (l.take k) = v at *
      go_wp2_with fail
      go_roundw
      case rel => exact ⟨k + 1, by omega, by simp, by rw [HNX.out]; congr 1; omega, trivial⟩
      case measure => simp [intOf]; omega
    · have hd : decide ((k : Int) < ((str l).size : Nat)) = false := by rw [decide_eq_false_iff_not]; omega
      have hkl : l.take k = l := List.take_of_length_le (by have : (str l).size = l.length := rfl; omega)
      rw [hkl]
      go_wp2_with fail
      refine (neg_dec l H.out _).mono ?_
      rintro e w' ⟨rfl, rfl⟩
      go_wp2_with fail
      go_ret2
      exact ⟨rfl, rfl⟩
end Go.Proofs.YtmdfjnmakppknaaGreatDoor

/- ARITHMETIC: what the list of the least factors is: each a prime, ascending, the product the number. -/
namespace Go.Proofs.YtmdfjnmakppknaaGreatDoor
def Low (m p : Nat) : Prop := ∀ d, 2 ≤ d → d < p → m % d ≠ 0
theorem lst_low : ∀ (f p n : Nat), 0 < p → n + 1 - p < f → Low n p → Low n (lst f p n) ∧ (n % lst f p n = 0 ∨ n < lst f p n * lst f p n) := by
  intro f
  induction f with
  | zero => intro p n _ h; omega
  | succ f ih =>
    intro p n hp h hl
    rw [lst]
    by_cases hc : n % p = 0 ∨ n < p * p
    · rw [if_pos hc]; exact ⟨hl, hc⟩
    · rw [if_neg hc]
      have h3 : p ≤ n := Nat.le_trans (Nat.le_mul_of_pos_left p hp) (by omega)
      refine ih (p + 1) n (by omega) (by omega) fun d h2 hd => ?_
      by_cases e : d = p
      · subst e; intro h0; exact hc (.inl h0)
      · exact hl d h2 (by omega)
theorem prq_spec {p m : Nat} (hp : 2 ≤ p) (hm : 1 < m) (hl : Low m p) : Low m (prq p m) ∧ m % prq p m = 0 ∧ p ≤ prq p m := by
  obtain ⟨h1, h2⟩ := lst_low (m + 1) p m (by omega) (by omega) hl
  have hge := lst_ge (m + 1) p m
  unfold prq
  generalize lst (m + 1) p m = q at *
  by_cases hz : m % q = 0
  · rw [if_pos hz]; exact ⟨h1, hz, hge⟩
  · rw [if_neg hz]
    have hq : m < q * q := by omega
    refine ⟨fun d hd2 hdm h0 => ?_, Nat.mod_self m, ?_⟩
    · by_cases hdq : d < q
      · exact h1 d hd2 hdq h0
      · have e : d * (m / d) = m := by have := Nat.div_add_mod m d; rw [h0, Nat.add_zero] at this; exact this
        have hlt : m / d < q := Nat.div_lt_of_lt_mul (Nat.lt_of_lt_of_le hq (Nat.mul_le_mul_right q (by omega)))
        have hgt : 2 ≤ m / d := by
          rcases Nat.lt_or_ge (m / d) 2 with h | h
          · exfalso
            have : d * (m / d) ≤ d * 1 := Nat.mul_le_mul_left d (by omega)
            omega
          · exact h
        refine h1 (m / d) hgt hlt (Nat.mod_eq_zero_of_dvd ⟨d, ?_⟩)
        rw [Nat.mul_comm]; exact e.symm
    · rcases Nat.lt_or_ge m p with h | h
      · exact absurd (Nat.mod_self m) (hl m (by omega) h)
      · exact h
theorem low_of {m q d : Nat} (h : Low m q) (hq : m % q = 0) (h2 : 2 ≤ d) (hd : d < q) : q % d ≠ 0 := fun h0 =>
  h d h2 hd (Nat.mod_eq_zero_of_dvd (Nat.dvd_trans (Nat.dvd_of_mod_eq_zero h0) (Nat.dvd_of_mod_eq_zero hq)))
theorem low_quo {m q : Nat} (h : Low m q) (hq : m % q = 0) : Low (m / q) q := fun d h2 hd h0 =>
  h d h2 hd (Nat.mod_eq_zero_of_dvd (Nat.dvd_trans (Nat.dvd_of_mod_eq_zero h0) (Nat.div_dvd_of_dvd (Nat.dvd_of_mod_eq_zero hq))))
theorem low_two (m : Nat) : Low m 2 := fun d h2 hd => by omega
/-- the state at the head of a round: i factors are read, P is their product, L the last of them, m what is left -/
structure PAt (n : Nat) (i P L m : Nat) : Prop where
  rest : (pr (n + 1) 2 n).drop i = pr (m + 1) L m
  prod : P * m = n
  low : Low m L
  last : 2 ≤ L
  pos : 1 ≤ m
  le : i ≤ (pr (n + 1) 2 n).length
theorem PAt.start (n : Nat) (hn : 1 ≤ n) : PAt n 0 1 2 n := ⟨rfl, Nat.one_mul n, low_two n, Nat.le_refl 2, hn, Nat.zero_le _⟩
theorem PAt.more {n i P L m : Nat} (h : PAt n i P L m) (hi : i < (pr (n + 1) 2 n).length) : 1 < m := by
  rcases Nat.lt_or_ge 1 m with h1 | h1
  · exact h1
  · exfalso
    have := h.rest
    have e0 : pr (m + 1) L m = [] := by rw [pr, if_pos h1]
    rw [e0] at this
    have := congrArg List.length this
    simp only [List.length_drop, List.length_nil] at this
    omega
theorem PAt.get {n i P L m : Nat} (h : PAt n i P L m) (hi : i < (pr (n + 1) 2 n).length) : (pr (n + 1) 2 n)[i]? = some (prq L m) ∧ L ≤ prq L m ∧ prq L m ≤ n ∧ (∀ d, 2 ≤ d → d < prq L m → prq L m % d ≠ 0) ∧ P * prq L m ≤ n ∧ PAt n (i + 1) (P * prq L m) (prq L m) (m / prq L m) := by
  have hm := h.more hi
  obtain ⟨h1, h2, h3⟩ := prq_spec h.last hm h.low
  have hq2 := prq_ge h.last hm
  have hqm : prq L m ≤ m := prq_le hm
  have hr := h.rest
  rw [pr_step h.last hm] at hr
  have e : m / prq L m * prq L m = m := Nat.div_mul_cancel (Nat.dvd_of_mod_eq_zero h2)
  have hP : 0 < P := by
    rcases Nat.eq_zero_or_pos P with h0 | h0
    · have := h.prod; rw [h0, Nat.zero_mul] at this
      exfalso
      rw [← this] at hi
      have hz : pr 1 2 0 = [] := rfl
      rw [hz] at hi
      exact absurd hi (by simp)
    · exact h0
  have hm' : 1 ≤ m / prq L m := Nat.div_pos hqm (by omega)
  have hpm : P * prq L m * (m / prq L m) = n := by
    rw [Nat.mul_assoc, Nat.mul_comm (prq L m), e]; exact h.prod
  have hmn : m ≤ n := by have := Nat.mul_le_mul_right m (show 1 ≤ P from hP); rw [Nat.one_mul, h.prod] at this; exact this
  refine ⟨?_, h3, Nat.le_trans hqm hmn, fun d hd2 hd => low_of h1 h2 hd2 hd, ?_, ?_, hpm, low_quo h1 h2, hq2, hm', hi⟩
  · have := congrArg (fun l => l[0]?) hr
    simpa using this
  · calc P * prq L m = P * prq L m * 1 := (Nat.mul_one _).symm
      _ ≤ P * prq L m * (m / prq L m) := Nat.mul_le_mul_left _ hm'
      _ = n := hpm
  · have := congrArg List.tail hr
    rw [List.tail_drop] at this
    exact this
theorem PAt.fin {n i P L m : Nat} (h : PAt n i P L m) (hi : ¬ i < (pr (n + 1) 2 n).length) : P = n := by
  have hr := h.rest
  have h0 : (pr (n + 1) 2 n).drop i = [] := List.drop_eq_nil_of_le (by omega)
  rw [h0] at hr
  have hm : m = 1 := by
    rcases Nat.lt_or_ge 1 m with h1 | h1
    · rw [pr_step h.last h1] at hr; cases hr
    · have := h.pos; omega
  have := h.prod
  rw [hm, Nat.mul_one] at this
  exact this
end Go.Proofs.YtmdfjnmakppknaaGreatDoor

/- WALKS: the kit's decimal text; a prime's text as a number. -/
namespace Go.Proofs.YtmdfjnmakppknaaGreatDoor
open Go.RowKit Go.Proofs.Rf
set_option maxRecDepth 100000
set_option maxHeartbeats 400000 in
theorem Decimal_any : ∀ (n : Nat), n ≤ 1000000 → ∀ w : World, Calls Tryz.prog 42 #[.int .i64 n] w fun e w' => e = .returned (.string (str (Wh.decN n))) ∧ Below w.heap.size w w' := by
  intro n
  induction n using Nat.strongRecOn with
  | ind n ih =>
    intro hn w
    have hneg : decide ((n : Int) < 0) = false := by rw [decide_eq_false_iff_not]; omega
    by_cases h10 : n < 10
    · have h1 : decide ((n : Int) < 10) = true := by rw [decide_eq_true_iff]; omega
      have HD := Lib.hid fun w => Digit_any w n h10 (UInt8.ofNat (48 + n)) rfl
      rw [Wh.decN_small h10]
      generalize UInt8.ofNat (48 + n) = ch at *
      clear ih
      go_enter Tryz.func42, Tryz.ntmps42
      go_wp2_with fail
      refine (HD.out _).mono ?_
      rintro e w' ⟨rfl, hb⟩
      go_wp2
      go_ret
      exact ⟨rfl, hb⟩
    · have h1 : decide ((n : Int) < 10) = false := by rw [decide_eq_false_iff_not]; omega
      have IH := Lib.hid (ih (n / 10) (by omega) (by omega)); clear ih
      have HD := Lib.hid fun w => Digit_any w (n % 10) (Nat.mod_lt _ (by decide)) (UInt8.ofNat (48 + n % 10)) rfl
      have hle : (Wh.decN (n / 10)).length ≤ 7 := Wh.decN_length_le (k := 7) (by decide) (by have : (10 : Nat) ^ 7 = 10000000 := rfl; omega)
      rw [Wh.decN_big h10]
      have q1 : (n : Int) / 10 = ((n / 10 : Nat) : Int) := by omega
      have q2 : (n : Int) % 10 = ((n % 10 : Nat) : Int) := by omega
      generalize UInt8.ofNat (48 + n % 10) = ch at *
      have hm : n / 10 ≤ 100000 := by omega
      have hr : n % 10 < 10 := Nat.mod_lt _ (by decide)
      generalize n / 10 = m at *
      generalize n % 10 = r at *
      have hap : str (Wh.decN m ++ [ch]) = str (Wh.decN m) ++ str [ch] := (str_app _ _).symm
      rw [hap]
      have hs : (str (Wh.decN m)).size ≤ 7 := hle
      have hs1 : (str [ch]).size = 1 := rfl
      have hno : ¬ (9223372036854775807 < (str (Wh.decN m)).size + (str [ch]).size) := by omega
      clear hle hap
      generalize str (Wh.decN m) = S at *
      generalize str [ch] = C at *
      go_enter Tryz.func42, Tryz.ntmps42
      go_wp2_with fail
      refine (IH.out _).mono ?_
      rintro e w' ⟨rfl, hb⟩
      go_wp2_with fail
      refine (HD.out _).mono ?_
      rintro e w2 ⟨rfl, hb2⟩
      go_wp2
      go_ret
      exact ⟨rfl, hb.trans (hb2.mono hb.size)⟩
end Go.Proofs.YtmdfjnmakppknaaGreatDoor

/- WALKS: the parts of the statement on primes: the text of a number under 1,000,000 is read back; Factor of it. -/
namespace Go.Proofs.YtmdfjnmakppknaaGreatDoor
open Go.RowKit Go.Proofs.Rf
theorem decL_of (p : Nat) (h : 1 ≤ p ∧ p ≤ 1000000) : DecL (Wh.decN p) :=
  ⟨Wh.decN_ne p, Wh.decN_digits p, .inl (Wh.decN_head p h.1), Nat.le_trans (Wh.decN_length_le (k := 7) (by decide) (by have : (10 : Nat) ^ 7 = 10000000 := rfl; omega)) (by decide)⟩
theorem ToInt_txt (p : Nat) (h : 1 ≤ p ∧ p ≤ 1000000) (w : World) :
    Calls Tryz.prog 45 #[txt (p : Int)] w fun e w' => e = .returned (.tuple #[.int .i64 p, .bool true]) ∧ w = w' := by
  have := ToInt_dec _ (decL_of p h) w
  rw [Wh.numOf_decN] at this
  rw [txt_pos]
  exact this
theorem decFrom_dec : ∀ (l : List UInt8) (acc : Nat), (∀ c ∈ l, 48 ≤ c.toNat ∧ c.toNat ≤ 57) → Lib.decFrom acc l = some (l.foldl (fun a c => 10 * a + Wh.dv c) acc) := by
  intro l
  induction l with
  | nil => intro acc _; rfl
  | cons b r ih =>
    intro acc h
    have hb := h b (List.mem_cons_self ..)
    rw [Lib.decFrom, Lib.digitVal, if_pos hb]
    show Lib.decFrom (acc * 10 + (b.toNat - 48)) r = _
    rw [ih _ fun c hc => h c (List.mem_cons_of_mem _ hc), Nat.mul_comm]
    rfl
theorem atoi_dec {l : List UInt8} (h : DecL l) : Lib.atoi l = some (Wh.numOf l : Int) := by
  have hn : Lib.decNat l = some (Wh.numOf l) := by
    unfold Lib.decNat
    rw [if_neg (by simpa using h.ne)]
    exact decFrom_dec l 0 h.dig
  have hne := h.ne
  have hdg := h.dig
  clear h
  cases l with
  | nil => exact absurd rfl hne
  | cons b r =>
    have hb := hdg b (List.mem_cons_self ..)
    have h45 : (b == 45) = false := by rw [beq_eq_false_iff_ne]; rintro rfl; exact absurd hb.1 (by decide)
    have h43 : (b == 43) = false := by rw [beq_eq_false_iff_ne]; rintro rfl; exact absurd hb.1 (by decide)
    rw [Lib.atoi, h45, h43, hn]
    rfl
theorem Factor_nat (w : World) (n : Nat) (hn : 1 ≤ n ∧ n ≤ 3000) (ht : Tab w) :
    Calls Tryz.prog 36 #[.string (str (Wh.decN n))] w fun e w' => (∃ v, e = .returned (.tuple #[v, .int .i64 0]) ∧ w'.ownsRow w.heap.size 9 1 v (pr (n + 1) 2 n).length ((pr (n + 1) 2 n).map fun q : Nat => txt (q : Int))) ∧ Below w.heap.size w w' := by
  have hd : Wh.decI (n : Int) = Wh.decN n := by unfold Wh.decI; rw [if_neg (by omega), Int.natAbs_natCast]
  have h9 : ((n : Nat) : Int).natAbs < 1000000000 := by omega
  have hl := decL_of n ⟨hn.1, by omega⟩
  have h := Factor_any w n n rfl ⟨hn.1, by omega⟩ (valid9 _ h9) (valid9 _ (by decide)) (fit9 _ h9) (by rw [hd, atoi_dec hl, Wh.numOf_decN]) (by rw [hd]; exact Nat.le_trans hl.len (by decide)) ht
  rw [txt_pos] at h
  exact h
end Go.Proofs.YtmdfjnmakppknaaGreatDoor
