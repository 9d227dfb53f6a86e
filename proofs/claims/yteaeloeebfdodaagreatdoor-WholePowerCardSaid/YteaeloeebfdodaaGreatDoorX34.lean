/- Part 34 of the proofs that laws of package whole answer true at every input and leave the input as it was, where the library's variables start as the text lays them (the texts R8, K2, K1, K3, O1). -/
import Derived.Test.YteaeloeebfdodaaGreatDoorX11
import Derived.Test.YteaeloeebfdodaaGreatDoorX32
import Derived.Test.YteaeloeebfdodaaGreatDoorX22
set_option linter.unusedVariables false
set_option linter.unusedSimpArgs false
/- WALKS, the rod 8: Whole, with its number of digits. -/
namespace Go.Proofs.YteaeloeebfdodaaGreatDoor
open Go.RowKit
theorem natAbs_ltD (m j M D : Nat) (h : m < 10 ^ j) (hj : j ≤ M) (hM : M ≤ D) : (m : Int).natAbs < 10 ^ D := by
  rw [Int.natAbs_natCast]
  exact Nat.lt_of_lt_of_le h (Nat.pow_le_pow_right (by decide) (by omega))
set_option maxRecDepth 100000 in
set_option maxHeartbeats 4000000 in
theorem Whole_bd (w : World) (rb : Nat) (a : Option Addr) (n c k D : Nat) (h : IsRod w rb a n c k) (hk : k ≤ 1000) (hD : D ≤ 30) :
    Calls Tryz.prog 23 #[.pointer (some ⟨rb, 0, none⟩), .int .i64 (D : Int)] w fun e w' => (∃ x : Int, e = .returned (txt x) ∧ x.natAbs < 10 ^ D) ∧ RAt w w' rb a n c k 40 := by
  have HH := Lib.hid h; clear h
  go_enter Tryz.func23, Tryz.ntmps23
  go_wp2_with fail
  refine (Up_any _ _ _ _ _ _ _ HH.out (by omega) (by omega)).mono ?_
  rintro e w1 ⟨⟨m, rfl, hm⟩, hR, hO⟩
  obtain ⟨M, hM, rfl⟩ : ∃ M : Nat, M ≤ D ∧ m = (M : Int) := ⟨m.toNat, by unfold UpTo at hm; omega, by unfold UpTo at hm; omega⟩
  clear hm
  have HR := Lib.hid hR; clear hR
  have HO := Lib.hid hO; clear hO
  go_wp2_with fail
  go_loopw [6, 7] (fun s i wr => ∃ j : Nat, ∃ l : List UInt8, j ≤ M ∧ i = .int .i64 j ∧ s = .string (str l) ∧ Hid (l.length = j) ∧ Hid (WTxt j l ∧ RAt w1 wr rb a n c (k + 1) j)) (fun _ i _ => M - (intOf i).toNat)
  case atStart => exact ⟨0, [], Nat.zero_le _, rfl, rfl, Lib.hid rfl, Lib.hid ⟨.inl ⟨rfl, rfl⟩, Only.refl _ _, k + 1, by omega, HR.out⟩⟩
  case round =>
    obtain ⟨j, l, hj, rfl, rfl, HLEN, HI⟩ := hrel
    by_cases hlt : j < M
    · have hjd : decide (j < M) = true := by simpa using hlt
      obtain ⟨hW, hO1, k1, hk1, hR1⟩ := HI.out
      clear HI
      have HW := Lib.hid hW; clear hW
      have HR1 := Lib.hid hR1; clear hR1
      have HO1 := Lib.hid hO1; clear hO1
      go_wp2_with fail
      refine (Up_any _ _ _ _ _ _ _ HR1.out (by omega) (by omega)).mono ?_
      rintro e w2 ⟨⟨q, rfl, hq⟩, hR2, hO2⟩
      have hq9 : 0 ≤ q ∧ q ≤ 9 := by unfold UpTo at hq; omega
      have HR2 := Lib.hid hR2; clear hR2
      have HO2 := Lib.hid (HO1.out.trans hO2); clear hO2 HO1
      clear hq
      go_wp2_with fail
      have hb3 : Below w2.heap.size w2 (w2.alloc (Obj.cells #[Value.int IntKind.i64 0, Value.int IntKind.i64 9, Value.int IntKind.i64 q] 3)) := (Below.refl _ _).alloc (Nat.le_refl _) _
      refine (Pick_any _ rb a n c (k1 + 1) w2.heap.size 3 (HR2.out.mono hb3) (by omega) (by omega) (fun z => 0 ≤ z ∧ z ≤ 9) ⟨by have := HR2.out.lt; omega, by simp⟩ (three_cells w2 q 3 hq9)).mono ?_
      rintro e w3 ⟨⟨d, rfl, hd⟩, hR3, hO3⟩
      have HR3 := Lib.hid hR3; clear hR3
      have HO3 := Lib.hid ((HO2.out.trans (Only.of_below hb3)).trans hO3); clear hO3 HO2 hb3 HR2 HR1
      have HH3 : Hid (0 ≤ d ∧ d ≤ 9) := Lib.hid hd
      clear hd
      by_cases hj0 : j = 0
      · have hz : ((j : Int) == 0) = true := by simp [hj0]
        have hl : l = [] := by
          obtain ⟨_, h⟩ | ⟨h, _⟩ := HW.out
          · exact h
          · omega
        have HL := Lib.hid hl; clear hl HH3
        go_wp2_with fail
        refine (From_any _ rb a n c (k1 + 1 + 1) 1 9 HR3.out (by omega) (by omega)).mono ?_
        rintro e w4 ⟨⟨d1, rfl, hd1⟩, hR4, hO4⟩
        have HR4 := Lib.hid hR4; clear hR4
        have HO4 := Lib.hid (HO3.out.trans hO4); clear hO4 HO3 HR3
        obtain ⟨D1, hD1, rfl⟩ : ∃ D1 : Nat, (1 ≤ D1 ∧ D1 ≤ 9) ∧ d1 = (D1 : Int) := ⟨d1.toNat, by omega, by omega⟩
        clear hd1
        obtain ⟨ch, hch⟩ : ∃ ch : UInt8, ch = UInt8.ofNat (48 + D1) := ⟨_, rfl⟩
        have HT := Lib.hid (WTxt.first D1 hD1 ch hch)
        have HC := Lib.hid hch; clear hch
        have hsz : ¬ (9223372036854775807 < (str l).size + (str [ch]).size) := by rw [str_size, str_size, HLEN.out]; simp; omega
        go_wp2_with fail
        refine (Digit_any _ D1 (by omega) ch HC.out).mono ?_
        rintro e w5 ⟨rfl, hb5⟩
        have HB5 := Lib.hid hb5; clear hb5
        go_wp2_with fail
        refine ⟨⟨1, [ch], by omega, rfl, ?_, Lib.hid rfl, Lib.hid ⟨HT.out, HO4.out.trans (Only.of_below HB5.out), _, ?_, HR4.out.mono HB5.out⟩⟩, ?_⟩
        · rw [str_app, HL.out]; rfl
        · omega
        · simp [intOf]; omega
      · have hz : ((j : Int) == 0) = false := by simp; omega
        obtain ⟨D1, hD1, rfl⟩ : ∃ D1 : Nat, D1 ≤ 9 ∧ d = (D1 : Int) := ⟨d.toNat, by have := HH3.out; omega, by have := HH3.out; omega⟩
        clear HH3
        obtain ⟨ch, hch⟩ : ∃ ch : UInt8, ch = UInt8.ofNat (48 + D1) := ⟨_, rfl⟩
        have HT := Lib.hid (WTxt.next j l HW.out (by omega) D1 (by omega) ch hch)
        have HC := Lib.hid hch; clear hch
        have hsz : ¬ (9223372036854775807 < (str l).size + (str [ch]).size) := by rw [str_size, str_size, HLEN.out]; simp; omega
        go_wp2_with fail
        refine (Digit_any _ D1 (by omega) ch HC.out).mono ?_
        rintro e w5 ⟨rfl, hb5⟩
        have HB5 := Lib.hid hb5; clear hb5
        go_wp2_with fail
        refine ⟨⟨j + 1, l ++ [ch], by omega, by simp, by rw [str_app], Lib.hid (by rw [List.length_append, HLEN.out]; rfl), Lib.hid ⟨HT.out, HO3.out.trans (Only.of_below HB5.out), _, ?_, HR3.out.mono HB5.out⟩⟩, ?_⟩
        · omega
        · simp [intOf]; omega
    · have hjd : decide (j < M) = false := by simpa using hlt
      by_cases hj0 : j = 0
      · have hl : l = [] := by
          obtain ⟨_, h⟩ | ⟨h, _⟩ := HI.out.1
          · exact h
          · omega
        have hem : (str l).toList.isEmpty = true := by rw [Lib.toList_data, str_data, hl]; rfl
        clear hl
        go_wp2_with fail
        go_ret
        obtain ⟨_, hO1, k1, hk1, hR1⟩ := HI.out
        exact ⟨⟨0, by rw [txt_zero]; rfl, Nat.pow_pos (by decide)⟩, HO.out.trans hO1, k1, by omega, hR1⟩
      · obtain ⟨h0, _⟩ | ⟨_, m, hm, hlt', hl⟩ := HI.out.1
        · omega
        have hem : (str l).toList.isEmpty = false := by
          rw [Lib.toList_data, str_data, hl]
          have := Wh.decN_ne m
          cases h : Wh.decN m
          · exact absurd h this
          · rfl
        have HL := Lib.hid hl; clear hl
        have HM := Lib.hid hlt'; clear hlt'
        obtain ⟨_, hO1, k1, hk1, hR1⟩ := HI.out
        have HO1 := Lib.hid (HO.out.trans hO1); clear hO1
        clear HI
        go_wp2_with fail
        refine (Once_any _ rb a n c k1 3 hR1 (by omega) (by omega)).mono ?_
        rintro e w2 ⟨⟨b, rfl⟩, hR2, hO2⟩
        have HR2 := Lib.hid hR2; clear hR2
        have HO2 := Lib.hid (HO1.out.trans hO2); clear hO2 HO1
        cases b
        · go_wp2_with fail
          go_ret
          exact ⟨⟨m, by rw [txt_pos, ← HL.out]; rfl, natAbs_ltD m j M D HM.out hj hM⟩, HO2.out, k1 + 1, by omega, HR2.out⟩
        · have hsz : ¬ (9223372036854775807 < 1 + (str l).size) := by rw [str_size, HLEN.out]; omega
          go_wp2_with fail
          go_ret
          exact ⟨⟨-(m : Int), by rw [txt_neg m hm, ← HL.out]; rfl, by rw [Int.natAbs_neg]; exact natAbs_ltD m j M D HM.out hj hM⟩, HO2.out, k1 + 1, by omega, HR2.out⟩
end Go.Proofs.YteaeloeebfdodaaGreatDoor

/- WALKS: the reference's number of a text; the kit's text of a number. -/
namespace Go.Proofs.YteaeloeebfdodaaGreatDoor
open Go.RowKit Go.Proofs.Rf
structure DecL (l : List UInt8) : Prop where
  ne : l ≠ []
  dig : ∀ c ∈ l, 48 ≤ c.toNat ∧ c.toNat ≤ 57
  head : l.headD 0 ≠ 48 ∨ l.length = 1
  len : l.length ≤ 15
theorem DecL.at {l : List UInt8} (h : DecL l) {i : Nat} (hi : i < l.length) : 48 ≤ (l.getD i 0).toNat ∧ (l.getD i 0).toNat ≤ 57 := by
  rw [List.getD_eq_getElem?_getD, List.getElem?_eq_getElem hi]; exact h.dig _ (List.getElem_mem hi)
theorem DecL.pos {l : List UInt8} (h : DecL l) : 0 < l.length := List.length_pos_iff.2 h.ne
theorem digits_loop (l : List UInt8) (H : Hid (DecL l)) (k : Nat) (hlt : k < (str l).size) : ∃ c : Nat, (((str l)[k]'hlt).toNat : Int) = (c : Int) ∧ (l.getD k 0).toNat = c ∧ 48 ≤ c ∧ c ≤ 57 := by
  have hc := H.out.at (i := k) hlt
  exact ⟨(l.getD k 0).toNat, by rw [str_get l k hlt], rfl, hc.1, hc.2⟩
set_option maxHeartbeats 400000 in
theorem digits_dec (l : List UInt8) (h : DecL l) (w : World) :
    Calls Tryz.prog 254 #[.string (str l)] w fun e w' => e = .returned (.bool true) ∧ w = w' := by
  have hs0 : 0 < (str l).size := h.pos
  have hsz : (str l).size ≤ 15 := h.len
  have H := Lib.hid h
  have hh : ((str l).size = 1) ∨ (1 < (str l).size ∧ ((((str l)[0]'hs0).toNat : Int) == 48) = false) := by
    by_cases h1 : (str l).size = 1
    · exact .inl h1
    · right
      refine ⟨by omega, ?_⟩
      rcases h.head with h2 | h2
      · rw [beq_eq_false_iff_ne, str_get l 0 hs0]
        intro e
        apply h2
        have e2 : l.getD 0 0 = 48 := UInt8.toNat_inj.1 (show (l.getD 0 0).toNat = 48 by omega)
        rw [← e2]; cases l <;> rfl
      · exact absurd h2 h1
  clear h
  rcases hh with h1 | ⟨h1, h2⟩
  case' inr =>
    have h0 : ((((str l).size : Nat) : Int) == 0) = false := by rw [beq_eq_false_iff_ne]; omega
    have h3 : decide ((1 : Int) < ((str l).size : Nat)) = true := by rw [decide_eq_true_iff]; omega
  all_goals
    go_enter Tryz.func254, Tryz.ntmps254
    go_wp2_with fail
    go_loopw [3] (fun i wr => ∃ k : Nat, k ≤ (str l).size ∧ i = .int .i64 k ∧ wr = w) (fun i _ => (str l).size - (intOf i).toNat)
    case atStart => exact ⟨0, Nat.zero_le _, rfl, rfl⟩
    case round =>
      obtain ⟨k, hk, rfl, rfl⟩ := hrel
      by_cases hlt : k < (str l).size
      · have hd : decide ((k : Int) < ((str l).size : Nat)) = true := by simpa using hlt
        obtain ⟨c, hx, _, hc1, hc2⟩ := digits_loop l H k hlt
        have hlo : decide ((c : Int) < 48) = false := by rw [decide_eq_false_iff_not]; omega
        have hhi : decide ((57 : Int) < (c : Int)) = false := by rw [decide_eq_false_iff_not]; omega
        go_wp2_with fail
        go_roundw
        case rel => exact ⟨k + 1, by omega, by simp, trivial⟩
        case measure => simp [intOf]; omega
      · have hd : decide ((k : Int) < ((str l).size : Nat)) = false := by simpa using hlt
        go_wp2_with fail
        go_ret
        exact ⟨rfl, rfl⟩
theorem numOf_take_le (l : List UInt8) (k : Nat) (hl : l.length ≤ 15) (hd : ∀ c ∈ l, 48 ≤ c.toNat ∧ c.toNat ≤ 57) : Wh.numOf (l.take k) < 1000000000000000 := by
  have h1 : ∀ c ∈ l.take k, 48 ≤ c.toNat ∧ c.toNat ≤ 57 := fun c hc => hd c (List.mem_of_mem_take hc)
  have h2 : (l.take k).length ≤ 15 := by rw [List.length_take]; omega
  have h3 := Wh.numOf_lt h1
  exact Nat.lt_of_lt_of_le h3 (Nat.le_trans (Nat.pow_le_pow_right (by decide) h2) (by decide))
end Go.Proofs.YteaeloeebfdodaaGreatDoor

/- ARITHMETIC: what the list of the least factors is: each a prime, ascending, the product the number. -/
namespace Go.Proofs.YteaeloeebfdodaaGreatDoor
def Low (m p : Nat) : Prop := ∀ d, 2 ≤ d → d < p → m % d ≠ 0
theorem low_two (m : Nat) : Low m 2 := fun d h2 hd => by omega
/-- the state at the head of a round: i factors are read, P is their product, L the last of them, m what is left -/
structure PAt (n : Nat) (i P L m : Nat) : Prop where
  rest : (pr (n + 1) 2 n).drop i = pr (m + 1) L m
  prod : P * m = n
  low : Low m L
  last : 2 ≤ L
  pos : 1 ≤ m
  le : i ≤ (pr (n + 1) 2 n).length
theorem PAt.start (n : Nat) (hn : 1 ≤ n) : PAt n 0 1 2 n := ⟨rfl, Nat.one_mul n, low_two n, Nat.le_refl 2, hn, Nat.zero_le _⟩
theorem PAt.more {n i P L m : Nat} (h : PAt n i P L m) (hi : i < (pr (n + 1) 2 n).length) : 1 < m := by
  rcases Nat.lt_or_ge 1 m with h1 | h1
  · exact h1
  · exfalso
    have := h.rest
    have e0 : pr (m + 1) L m = [] := by rw [pr, if_pos h1]
    rw [e0] at this
    have := congrArg List.length this
    simp only [List.length_drop, List.length_nil] at this
    omega
theorem PAt.fin {n i P L m : Nat} (h : PAt n i P L m) (hi : ¬ i < (pr (n + 1) 2 n).length) : P = n := by
  have hr := h.rest
  have h0 : (pr (n + 1) 2 n).drop i = [] := List.drop_eq_nil_of_le (by omega)
  rw [h0] at hr
  have hm : m = 1 := by
    rcases Nat.lt_or_ge 1 m with h1 | h1
    · rw [pr_step h.last h1] at hr; cases hr
    · have := h.pos; omega
  have := h.prod
  rw [hm, Nat.mul_one] at this
  exact this
end Go.Proofs.YteaeloeebfdodaaGreatDoor

/- WALKS: the kit's decimal text; a prime's text as a number. -/
namespace Go.Proofs.YteaeloeebfdodaaGreatDoor
open Go.RowKit Go.Proofs.Rf
set_option maxRecDepth 100000
set_option maxHeartbeats 400000 in
theorem Decimal_any : ∀ (n : Nat), n ≤ 1000000 → ∀ w : World, Calls Tryz.prog 29 #[.int .i64 n] w fun e w' => e = .returned (.string (str (Wh.decN n))) ∧ Below w.heap.size w w' := by
  intro n
  induction n using Nat.strongRecOn with
  | ind n ih =>
    intro hn w
    have hneg : decide ((n : Int) < 0) = false := by rw [decide_eq_false_iff_not]; omega
    by_cases h10 : n < 10
    · have h1 : decide ((n : Int) < 10) = true := by rw [decide_eq_true_iff]; omega
      have HD := Lib.hid fun w => Digit_any w n h10 (UInt8.ofNat (48 + n)) rfl
      rw [Wh.decN_small h10]
      generalize UInt8.ofNat (48 + n) = ch at *
      clear ih
      go_enter Tryz.func29, Tryz.ntmps29
      go_wp2_with fail
      refine (HD.out _).mono ?_
      rintro e w' ⟨rfl, hb⟩
      go_wp2
      go_ret
      exact ⟨rfl, hb⟩
    · have h1 : decide ((n : Int) < 10) = false := by rw [decide_eq_false_iff_not]; omega
      have IH := Lib.hid (ih (n / 10) (by omega) (by omega)); clear ih
      have HD := Lib.hid fun w => Digit_any w (n % 10) (Nat.mod_lt _ (by decide)) (UInt8.ofNat (48 + n % 10)) rfl
      have hle : (Wh.decN (n / 10)).length ≤ 7 := Wh.decN_length_le (k := 7) (by decide) (by have : (10 : Nat) ^ 7 = 10000000 := rfl; omega)
      rw [Wh.decN_big h10]
      have q1 : (n : Int) / 10 = ((n / 10 : Nat) : Int) := by omega
      have q2 : (n : Int) % 10 = ((n % 10 : Nat) : Int) := by omega
      generalize UInt8.ofNat (48 + n % 10) = ch at *
      have hm : n / 10 ≤ 100000 := by omega
      have hr : n % 10 < 10 := Nat.mod_lt _ (by decide)
      generalize n / 10 = m at *
      generalize n % 10 = r at *
      have hap : str (Wh.decN m ++ [ch]) = str (Wh.decN m) ++ str [ch] := (str_app _ _).symm
      rw [hap]
      have hs : (str (Wh.decN m)).size ≤ 7 := hle
      have hs1 : (str [ch]).size = 1 := rfl
      have hno : ¬ (9223372036854775807 < (str (Wh.decN m)).size + (str [ch]).size) := by omega
      clear hle hap
      generalize str (Wh.decN m) = S at *
      generalize str [ch] = C at *
      go_enter Tryz.func29, Tryz.ntmps29
      go_wp2_with fail
      refine (IH.out _).mono ?_
      rintro e w' ⟨rfl, hb⟩
      go_wp2_with fail
      refine (HD.out _).mono ?_
      rintro e w2 ⟨rfl, hb2⟩
      go_wp2
      go_ret
      exact ⟨rfl, hb.trans (hb2.mono hb.size)⟩
end Go.Proofs.YteaeloeebfdodaaGreatDoor

/- WALKS: the reference's text of a number. -/
namespace Go.Proofs.YteaeloeebfdodaaGreatDoor
open Go.RowKit Go.Proofs.Rf
def OI (S : ByteArray) (n m r : Nat) (ch : UInt8) : Nat → Value → World → Prop
  | 0, v, _ => v = .int .i64 n
  | 1, v, _ => v = .int .i64 m
  | 2, v, _ => v = .string S
  | 3, v, _ => v = .int .i64 n
  | 4, v, _ => v = .int .i64 r
  | 5, v, _ => v = .int .i64 (48 + (r : Int))
  | 6, v, _ => v = .int .u8 (48 + (r : Int))
  | 7, v, w => ∃ g, v = .slice (some ⟨g, 0, none⟩) 1 1 ∧ OwnB w g [ch] ∧ g < w.heap.size
  | 8, v, _ => v = .string (str [ch])
  | 9, v, _ => v = .string (S ++ str [ch])
  | 10, v, _ => v = .string (S ++ str [ch])
  | _, _, _ => True
theorem OI_stays (S : ByteArray) (n m r : Nat) (ch : UInt8) : ∀ i v w w', OI S n m r ch i v w → Below w.heap.size w w' → OI S n m r ch i v w' := by
  intro i v w w' h hb
  match i, h with
  | 0, h => exact h
  | 1, h => exact h
  | 2, h => exact h
  | 3, h => exact h
  | 4, h => exact h
  | 5, h => exact h
  | 6, h => exact h
  | 7, h => obtain ⟨g, e, h1, h2⟩ := h; exact ⟨g, e, h1.mono hb h2, Nat.lt_of_lt_of_le h2 hb.size⟩
  | 8, h => exact h
  | 9, h => exact h
  | 10, h => exact h
  | _ + 11, h => exact trivial
set_option maxRecDepth 100000
set_option maxHeartbeats 600000 in
theorem OfInt_any : ∀ (n : Nat), n ≤ 1000000000000000000 → ∀ w : World, Calls Tryz.prog 85 #[.int .i64 n] w fun e w' => e = .returned (.string (str (Wh.decN n))) ∧ Below w.heap.size w w' := by
  intro n
  induction n using Nat.strongRecOn with
  | ind n ih =>
    intro hn w
    have hneg : decide ((n : Int) < 0) = false := by rw [decide_eq_false_iff_not]; omega
    by_cases h10 : n < 10
    · have h1 : decide ((n : Int) < 10) = true := by rw [decide_eq_true_iff]; omega
      have HB := Lib.hid (digit_block w n h10 5 (UInt8.ofNat (48 + n)) rfl)
      rw [Wh.decN_small h10]
      generalize UInt8.ofNat (48 + n) = ch at *
      clear ih
      go_enter Tryz.func85, Tryz.ntmps85
      go_wp2
      rw [run_string_back HB.out 1 1 rfl]
      go_wp2
      go_ret
      exact ⟨rfl, (Below.refl w.heap.size w).alloc (Nat.le_refl _) _⟩
    · have h1 : decide ((n : Int) < 10) = false := by rw [decide_eq_false_iff_not]; omega
      have IH := Lib.hid (ih (n / 10) (by omega) (by omega)); clear ih
      have HDB := Lib.hid fun w : World => digit_block w (n % 10) (Nat.mod_lt _ (by decide)) 5 (UInt8.ofNat (48 + n % 10)) rfl
      have hle : (Wh.decN (n / 10)).length ≤ 19 := Wh.decN_length_le (k := 19) (by decide) (by have : (10 : Nat) ^ 19 = 10000000000000000000 := rfl; omega)
      rw [Wh.decN_big h10]
      have q1 : (n : Int) / 10 = ((n / 10 : Nat) : Int) := by omega
      have q2 : (n : Int) % 10 = ((n % 10 : Nat) : Int) := by omega
      generalize UInt8.ofNat (48 + n % 10) = ch at *
      have hr : n % 10 < 10 := Nat.mod_lt _ (by decide)
      generalize n / 10 = m at *
      generalize n % 10 = r at *
      rw [← str_app]
      have hs : (str (Wh.decN m)).size ≤ 19 := hle
      have HNO : Hid (¬ (9223372036854775807 < (str (Wh.decN m)).size + (str [ch]).size)) := Lib.hid (by have : (str [ch]).size = 1 := rfl; omega)
      clear hle
      generalize str (Wh.decN m) = S at *
      have HQ := Lib.hid (And.intro q1 q2); clear q1 q2
      go_enter Tryz.func85, Tryz.ntmps85
      go_wp2_with fail
      refine wp_mono (Q := fun e a' W' => e = .normal ∧ (∃ (vals : Nat → Value), vals 10 = .string (S ++ str [ch]) ∧ a' = { tmps := #[.int .i64 n, undef, vals 10, .int .i64 n, .bool false, undef, undef, undef, undef, .int .i64 n, .bool false, undef, undef, undef, undef, undef, vals 0, vals 1, vals 2, vals 3, vals 4, vals 5, vals 6, vals 7, vals 8, vals 9], defers := [] }) ∧ Below w.heap.size w W') ?_ ?_
      refine Rt.wp_region_grow (n0 := 0) [] [] 26 (fun vals => { tmps := #[.int .i64 n, undef, vals 10, .int .i64 n, .bool false, undef, undef, undef, undef, .int .i64 n, .bool false, undef, undef, undef, undef, undef, vals 0, vals 1, vals 2, vals 3, vals 4, vals 5, vals 6, vals 7, vals 8, vals 9], defers := [] }) (OI S n m r ch) (by kernel_rfl) (by kernel_rfl) (by kernel_rfl) (by kernel_rfl) (fun _ _ _ _ _ h => absurd h.1 (by simp)) (by kernel_rfl) rfl (fun _ => by kernel_rfl) (by kernel_rfl) (by kernel_rfl) (OI_stays _ _ _ _ _) ?_ ?_ ?_
      · intro i o d hi hT hW hd vals w' hb hf
        have hlt : i < 11 := (Array.getElem?_eq_some_iff.1 hi).1
        rcases i with _ | _ | _ | _ | _ | _ | _ | _ | _ | _ | _ | i
        · obtain rfl := Option.some.inj hi
          obtain rfl := Option.some.inj hd
          dsimp only
          go_simp
          exact ⟨rfl, Below.refl _ _⟩
        · obtain rfl := Option.some.inj hi
          obtain rfl := Option.some.inj hd
          have e0 : vals 0 = _ := hf 0 (by kernel_rfl)
          dsimp only
          rw [e0]
          go_simp
          have hq : IntKind.i64.wrap ((n : Int) / 10) = (m : Int) := by
            have := HQ.out.1
            rw [IntKind.wrap_i64]; omega
          rw [hq]
          exact ⟨rfl, Below.refl _ _⟩
        · obtain rfl := Option.some.inj hi
          obtain rfl := Option.some.inj hd
          have e1 : vals 1 = _ := hf 1 (by kernel_rfl)
          dsimp only
          rw [e1]
          go_simp
          refine (IH.out _).mono ?_
          rintro e W ⟨rfl, hb2⟩
          exact ⟨rfl, hb2⟩
        · obtain rfl := Option.some.inj hi
          obtain rfl := Option.some.inj hd
          dsimp only
          go_simp
          exact ⟨rfl, Below.refl _ _⟩
        · obtain rfl := Option.some.inj hi
          obtain rfl := Option.some.inj hd
          have e3 : vals 3 = _ := hf 3 (by kernel_rfl)
          dsimp only
          rw [e3]
          go_simp
          have hq : ((n : Int).tmod 10) = (r : Int) := by rw [Int.tmod_eq_emod_of_nonneg (by omega)]; exact HQ.out.2
          rw [hq]
          exact ⟨rfl, Below.refl _ _⟩
        · obtain rfl := Option.some.inj hi
          obtain rfl := Option.some.inj hd
          have e4 : vals 4 = _ := hf 4 (by kernel_rfl)
          dsimp only
          rw [e4]
          go_simp
          have hq : IntKind.i64.wrap (48 + (r : Int)) = 48 + (r : Int) := by rw [IntKind.wrap_i64]; omega
          rw [hq]
          exact ⟨rfl, Below.refl _ _⟩
        · obtain rfl := Option.some.inj hi
          obtain rfl := Option.some.inj hd
          have e5 : vals 5 = _ := hf 5 (by kernel_rfl)
          dsimp only
          rw [e5]
          go_simp
          have hq : IntKind.u8.wrap (48 + (r : Int)) = 48 + (r : Int) := by rw [IntKind.wrap_u8]; omega
          rw [hq]
          exact ⟨rfl, Below.refl _ _⟩
        · obtain rfl := Option.some.inj hi
          obtain rfl := Option.some.inj hd
          have e6 : vals 6 = _ := hf 6 (by kernel_rfl)
          dsimp only
          rw [e6]
          go_simp
          exact ⟨⟨_, rfl, HDB.out _, by simp⟩, (Below.refl _ _).alloc (Nat.le_refl _) _⟩
        · obtain rfl := Option.some.inj hi
          obtain rfl := Option.some.inj hd
          obtain ⟨g7, e7, h71, h72⟩ := hf 7 (by kernel_rfl)
          dsimp only
          rw [e7]
          go_simp
          rw [run_string_back h71 1 1 rfl]
          exact ⟨rfl, rfl, Below.refl _ _⟩
        · obtain rfl := Option.some.inj hi
          obtain rfl := Option.some.inj hd
          have e2 : vals 2 = _ := hf 2 (by kernel_rfl)
          have e8 : vals 8 = _ := hf 8 (by kernel_rfl)
          dsimp only
          rw [e2, e8]
          go_simp
          rw [if_neg HNO.out]
          exact ⟨rfl, rfl, Below.refl _ _⟩
        · obtain rfl := Option.some.inj hi
          obtain rfl := Option.some.inj hd
          have e9 : vals 9 = _ := hf 9 (by kernel_rfl)
          dsimp only
          rw [e9]
          go_simp
          exact ⟨rfl, Below.refl _ _⟩
        · omega
      · intro p o d hi hW hd vals w' hb hf
        cases hW
      · intro vals w' hb hf
        have e10 : vals 10 = .string (S ++ str [ch]) := hf 10 (by decide) rfl
        exact Rt.wpAny_end (by kernel_rfl) ⟨rfl, ⟨vals, e10, rfl⟩, hb⟩
      · rintro e a' W' ⟨rfl, ⟨vals, e10, rfl⟩, hb⟩
        rw [e10]
        go_wp2
        go_ret
        exact ⟨rfl, hb⟩
end Go.Proofs.YteaeloeebfdodaaGreatDoor
