/- Part 25 of the proofs that laws of package whole answer true at every input and leave the input as it was, where the library's variables start as the text lays them (the texts U7, U8, U9, U10, X1, W1, W2, W3). -/
import Derived.Test.YteggbenhffmijaaGreatDoorZ24
import Derived.Test.YteggbenhffmijaaGreatDoorZ23
import Derived.Test.YteggbenhffmijaaGreatDoorZ10
import Derived.Test.YteggbenhffmijaaGreatDoorZ22
import Derived.Test.YteggbenhffmijaaGreatDoorZ01
import Derived.Test.YteggbenhffmijaaGreatDoorZ06
set_option linter.unusedVariables false
set_option linter.unusedSimpArgs false
/- WALKS: the reference's small numbers, signs, and sums. -/
namespace Go.Proofs.YteggbenhffmijaaGreatDoor
open Go.RowKit Go.Proofs.Rf
set_option maxHeartbeats 400000 in
theorem OfInt_int (n : Int) (h : n.natAbs ≤ 1000000000000000000) (w : World) :
    Calls Tryz.prog 52 #[.int .i64 n] w fun e w' => e = .returned (txt n) ∧ Below w.heap.size w w' := by
  by_cases hn : n < 0
  · have HO := Lib.hid (fun w => OfInt_any n.natAbs h w)
    have hc : ((n.natAbs : Nat) : Int) = -n := by omega
    rw [hc] at HO
    have hd : decide (n < 0) = true := decide_eq_true hn
    unfold txt
    rw [decI_neg hn]
    have hap : str [45] ++ str (Wh.decN n.natAbs) = str (45 :: Wh.decN n.natAbs) := str_app _ _
    have hsz : (str (Wh.decN n.natAbs)).size ≤ 19 := Wh.decN_length_le (k := 19) (by decide) (Nat.lt_of_le_of_lt h (by decide))
    have h45 : (⟨#[45]⟩ : ByteArray) = str [45] := rfl
    rw [← hap]
    clear hap
    generalize str (Wh.decN n.natAbs) = S at *
    have hno : ¬ (9223372036854775807 < (str [45]).size + S.size) := by have : (str [45]).size = 1 := rfl; omega
    have hno2 : ¬ (9223372036854775807 < (⟨#[45]⟩ : ByteArray).size + S.size) := by rw [h45]; exact hno
    go_enter Tryz.func52, Tryz.ntmps52
    go_wp2_with fail
    refine (HO.out _).mono ?_
    rintro e w' ⟨rfl, hb⟩
    go_wp2_with fail
    go_ret
    exact ⟨rfl, hb⟩
  · have := OfInt_any n.natAbs h w
    rw [show ((n.natAbs : Nat) : Int) = n by omega] at this
    unfold txt
    rw [decI_pos hn]
    exact this
end Go.Proofs.YteggbenhffmijaaGreatDoor

/- WALKS: the reference's sum, difference, product and order of numbers. -/
namespace Go.Proofs.YteggbenhffmijaaGreatDoor
open Go.RowKit Go.Proofs.Rf
/-- a number of at most 400 digits -/
abbrev V400 (x : Int) : Prop := (Wh.decN x.natAbs).length ≤ 400
end Go.Proofs.YteggbenhffmijaaGreatDoor

/- WALKS: the reference's negative, difference, product and order of numbers. -/
namespace Go.Proofs.YteggbenhffmijaaGreatDoor
open Go.RowKit Go.Proofs.Rf
end Go.Proofs.YteggbenhffmijaaGreatDoor

/- WALKS: the reference's check of a number. -/
namespace Go.Proofs.YteggbenhffmijaaGreatDoor
open Go.RowKit Go.Proofs.Rf
structure DecG (l : List UInt8) : Prop where
  ne : l ≠ []
  dig : ∀ c ∈ l, 48 ≤ c.toNat ∧ c.toNat ≤ 57
  head : l.headD 0 ≠ 48 ∨ l.length = 1
  len : l.length ≤ 2000
theorem DecG.at {l : List UInt8} (h : DecG l) {i : Nat} (hi : i < l.length) : 48 ≤ (l.getD i 0).toNat ∧ (l.getD i 0).toNat ≤ 57 := by
  rw [List.getD_eq_getElem?_getD, List.getElem?_eq_getElem hi]; exact h.dig _ (List.getElem_mem hi)
theorem DecG.pos {l : List UInt8} (h : DecG l) : 0 < l.length := List.length_pos_iff.2 h.ne
theorem digits_loopg (l : List UInt8) (H : Hid (DecG l)) (k : Nat) (hlt : k < (str l).size) : ∃ c : Nat, (((str l)[k]'hlt).toNat : Int) = (c : Int) ∧ (l.getD k 0).toNat = c ∧ 48 ≤ c ∧ c ≤ 57 := by
  have hc := H.out.at (i := k) hlt
  exact ⟨(l.getD k 0).toNat, by rw [str_get l k hlt], rfl, hc.1, hc.2⟩
set_option maxHeartbeats 400000 in
theorem digits_decg (l : List UInt8) (h : DecG l) (w : World) :
    Calls Tryz.prog 221 #[.string (str l)] w fun e w' => e = .returned (.bool true) ∧ w = w' := by
  have hs0 : 0 < (str l).size := h.pos
  have hsz : (str l).size ≤ 2000 := h.len
  have H := Lib.hid h
  have hh : ((str l).size = 1) ∨ (1 < (str l).size ∧ ((((str l)[0]'hs0).toNat : Int) == 48) = false) := by
    by_cases h1 : (str l).size = 1
    · exact .inl h1
    · right
      refine ⟨by omega, ?_⟩
      rcases h.head with h2 | h2
      · rw [beq_eq_false_iff_ne, str_get l 0 hs0]
        intro e
        apply h2
        have e2 : l.getD 0 0 = 48 := UInt8.toNat_inj.1 (show (l.getD 0 0).toNat = 48 by omega)
        rw [← e2]; cases l <;> rfl
      · exact absurd h2 h1
  clear h
  rcases hh with h1 | ⟨h1, h2⟩
  case' inr =>
    have h0 : ((((str l).size : Nat) : Int) == 0) = false := by rw [beq_eq_false_iff_ne]; omega
    have h3 : decide ((1 : Int) < ((str l).size : Nat)) = true := by rw [decide_eq_true_iff]; omega
  all_goals
    go_enter Tryz.func221, Tryz.ntmps221
    go_wp2_with fail
    go_loopw [3] (fun i wr => ∃ k : Nat, k ≤ (str l).size ∧ i = .int .i64 k ∧ wr = w) (fun i _ => (str l).size - (intOf i).toNat)
    case atStart => exact ⟨0, Nat.zero_le _, rfl, rfl⟩
    case round =>
      obtain ⟨k, hk, rfl, rfl⟩ := hrel
      by_cases hlt : k < (str l).size
      · have hd : decide ((k : Int) < ((str l).size : Nat)) = true := by simpa using hlt
        obtain ⟨c, hx, _, hc1, hc2⟩ := digits_loopg l H k hlt
        have hlo : decide ((c : Int) < 48) = false := by rw [decide_eq_false_iff_not]; omega
        have hhi : decide ((57 : Int) < (c : Int)) = false := by rw [decide_eq_false_iff_not]; omega
        go_wp2_with fail
        go_roundw
        case rel => exact ⟨k + 1, by omega, by simp, trivial⟩
        case measure => simp [intOf]; omega
      · have hd : decide ((k : Int) < ((str l).size : Nat)) = false := by simpa using hlt
        go_wp2_with fail
        go_ret
        exact ⟨rfl, rfl⟩
theorem decG_of (n : Nat) (h : (Wh.decN n).length ≤ 2000) : DecG (Wh.decN n) := by
  refine ⟨Wh.decN_ne n, Wh.decN_digits n, ?_, h⟩
  by_cases h0 : n = 0
  · subst h0; right; rw [Wh.decN_zero]; rfl
  · exact .inl (Wh.decN_head n (by omega))
set_option maxHeartbeats 400000 in
theorem form_txtg (x : Int) (hx : V400 x) (w : World) :
    Calls Tryz.prog 132 #[txt x] w fun e w' => e = .returned (.bool true) ∧ w = w' := by
  have hb : ((str (Wh.decI x)).toList == [45, 48]) = false := by
    rw [Lib.toList_data, str_data, beq_eq_false_iff_ne]
    intro e
    by_cases h : x < 0
    · rw [decI_neg h] at e
      have e2 : Wh.decN x.natAbs = [48] := by injection e
      have := Wh.decN_head x.natAbs (by omega)
      rw [e2] at this
      exact this rfl
    · rw [decI_pos h] at e
      have := Wh.decN_digits x.natAbs 45 (by rw [e]; simp)
      exact absurd this.1 (by decide)
  have HA := Lib.hid (fun w => Abs_txt x w)
  have HD := Lib.hid (fun w => digits_decg _ (decG_of _ (Nat.le_trans hx (by decide))) w)
  have HB := Lib.hid hb; clear hb hx
  unfold txt at *
  go_enter Tryz.func132, Tryz.ntmps132
  go_wp2_with fail
  refine (HA.out _).mono ?_
  rintro e w' ⟨rfl, rfl⟩
  go_wp2_with fail
  refine (HD.out _).mono ?_
  rintro e w' ⟨rfl, rfl⟩
  go_wp2_with fail
  rw [HB.out]
  go_wp2_with fail
  go_ret
  exact ⟨rfl, rfl⟩
set_option maxHeartbeats 400000 in
theorem Check_txt (x : Int) (hx : V400 x) (w : World) :
    Calls Tryz.prog 47 #[txt x] w fun e w' => e = .returned (.int .i64 0) ∧ w = w' := by
  have HF := Lib.hid (fun w => form_txtg x hx w)
  have HA := Lib.hid (fun w => Abs_txt x w)
  have hs : decide ((400 : Int) < ((str (Wh.decN x.natAbs)).size : Nat)) = false := by rw [decide_eq_false_iff_not]; show ¬ (400 : Int) < ((Wh.decN x.natAbs).length : Nat); have : (Wh.decN x.natAbs).length ≤ 400 := hx; omega
  clear hx
  unfold txt at *
  generalize str (Wh.decN x.natAbs) = S' at *
  go_enter Tryz.func47, Tryz.ntmps47
  go_wp2_with fail
  refine (HF.out _).mono ?_
  rintro e w' ⟨rfl, rfl⟩
  go_wp2_with fail
  refine (HA.out _).mono ?_
  rintro e w' ⟨rfl, rfl⟩
  go_wp2_with fail
  go_ret
  exact ⟨rfl, rfl⟩
end Go.Proofs.YteggbenhffmijaaGreatDoor

/- WALKS: the reference's check of any text. -/
namespace Go.Proofs.YteggbenhffmijaaGreatDoor
open Go.RowKit Go.Proofs.Rf
set_option maxHeartbeats 400000 in
theorem Neg_any (l : List UInt8) (w : World) :
    Calls Tryz.prog 128 #[.string (str l)] w fun e w' => e = .returned (.bool (decide (l.head? = some 45))) ∧ w = w' := by
  cases l with
  | nil =>
    have hz : (str ([] : List UInt8)).size = 0 := rfl
    have hd : decide ((0 : Int) < ((str ([] : List UInt8)).size : Nat)) = false := by rw [hz]; rfl
    go_enter Tryz.func128, Tryz.ntmps128
    go_wp2
    go_ret
    exact ⟨rfl, rfl⟩
  | cons c r =>
    have hs0 : 0 < (str (c :: r)).size := by rw [str_size]; simp
    have hd : decide ((0 : Int) < ((str (c :: r)).size : Nat)) = true := by rw [decide_eq_true_iff]; omega
    have h45 : ((((str (c :: r))[0]'hs0).toNat : Int) == 45) = decide ((c :: r).head? = some 45) := by
      rw [str_get _ 0 hs0]
      by_cases h : c = 45
      · subst h; rfl
      · rw [decide_eq_false (by simpa using h), beq_eq_false_iff_ne]
        intro e
        apply h
        exact UInt8.toNat_inj.1 (show c.toNat = 45 by simp at e; omega)
    generalize decide ((c :: r).head? = some 45) = b at *
    generalize str (c :: r) = S at *
    cases b
    all_goals
      go_enter Tryz.func128, Tryz.ntmps128
      go_wp2
      go_ret
      exact ⟨rfl, rfl⟩
set_option maxHeartbeats 400000 in
theorem Abs_any (l : List UInt8) (w : World) :
    Calls Tryz.prog 49 #[.string (str l)] w fun e w' => e = .returned (.string (str (behind l))) ∧ w = w' := by
  have HN := Lib.hid (fun w => Neg_any l w)
  by_cases h : l.head? = some 45
  · have hb : str (behind l) = (str l).extract 1 (str l).size := by
      cases l with
      | nil => simp at h
      | cons c r =>
        rw [str_tail]
        unfold behind
        rw [if_pos h]
        rfl
    have h1 : (1 : Int) ≤ ((str l).size : Nat) := by
      cases l with
      | nil => simp at h
      | cons c r => rw [str_size]; simp; omega
    rw [decide_eq_true h] at HN
    rw [hb]
    clear h hb
    generalize str l = S at *
    go_enter Tryz.func49, Tryz.ntmps49
    go_wp2_with fail
    refine (HN.out _).mono ?_
    rintro e w' ⟨rfl, rfl⟩
    go_wp2_with fail
    go_ret
    exact ⟨rfl, rfl⟩
  · have hb : behind l = l := by unfold behind; rw [if_neg h]
    rw [decide_eq_false h] at HN
    rw [hb]
    clear h hb
    generalize str l = S at *
    go_enter Tryz.func49, Tryz.ntmps49
    go_wp2_with fail
    refine (HN.out _).mono ?_
    rintro e w' ⟨rfl, rfl⟩
    go_wp2_with fail
    go_ret
    exact ⟨rfl, rfl⟩
set_option maxHeartbeats 800000 in
theorem digits_not (l : List UInt8) (hlen : l.length ≤ 2000) (h : ¬ DecG l) (w : World) :
    Calls Tryz.prog 221 #[.string (str l)] w fun e w' => e = .returned (.bool false) ∧ w = w' := by
  have HS : Hid ((str l).size = l.length) := Lib.hid rfl
  by_cases hne : l = []
  · have hz : (str l).size = 0 := by rw [HS.out, hne]; rfl
    have h0 : ((((str l).size : Nat) : Int) == 0) = true := by rw [hz]; rfl
    clear h HS
    generalize str l = S at *
    go_enter Tryz.func221, Tryz.ntmps221
    go_wp2
    go_ret
    exact ⟨rfl, rfl⟩
  · have hs0 : 0 < (str l).size := by rw [str_size]; exact List.length_pos_iff.2 hne
    have h0 : ((((str l).size : Nat) : Int) == 0) = false := by rw [beq_eq_false_iff_ne]; omega
    have hsz : (str l).size ≤ 2000 := by rw [HS.out]; exact hlen
    by_cases hz : 1 < l.length ∧ l.headD 0 = 48
    · have h3 : decide ((1 : Int) < ((str l).size : Nat)) = true := by rw [decide_eq_true_iff, HS.out]; omega
      have h2 : ((((str l)[0]'hs0).toNat : Int) == 48) = true := by
        rw [beq_iff_eq, str_get l 0 hs0]
        have e : l.getD 0 0 = 48 := by rw [← hz.2]; cases l <;> rfl
        rw [e]; rfl
      clear h HS hz
      generalize str l = S at *
      go_enter Tryz.func221, Tryz.ntmps221
      go_wp2
      go_ret
      exact ⟨rfl, rfl⟩
    · have hex : ¬ ∀ c ∈ l, 48 ≤ c.toNat ∧ c.toNat ≤ 57 := fun hd => h ⟨hne, hd, by
        by_cases h1 : l.length = 1
        · exact .inr h1
        · left
          intro e
          have := List.length_pos_iff.2 hne
          exact hz ⟨by omega, e⟩, hlen⟩
      have HEX := Lib.hid hex; clear hex
      have hh : ((str l).size = 1) ∨ (1 < (str l).size ∧ ((((str l)[0]'hs0).toNat : Int) == 48) = false) := by
        by_cases h1 : (str l).size = 1
        · exact .inl h1
        · right
          refine ⟨by omega, ?_⟩
          rw [beq_eq_false_iff_ne, str_get l 0 hs0]
          intro e
          have e2 : l.getD 0 0 = 48 := UInt8.toNat_inj.1 (show (l.getD 0 0).toNat = 48 by omega)
          exact hz ⟨by have := HS.out; omega, by rw [← e2]; cases l <;> rfl⟩
      clear h hz h0
      rcases hh with h1 | ⟨h1, h2⟩
      case' inr =>
        have h0 : ((((str l).size : Nat) : Int) == 0) = false := by rw [beq_eq_false_iff_ne]; omega
        have h3 : decide ((1 : Int) < ((str l).size : Nat)) = true := by rw [decide_eq_true_iff]; omega
      all_goals
        go_enter Tryz.func221, Tryz.ntmps221
        go_wp2_with fail
        go_loopw [3] (fun i wr => ∃ k : Nat, k ≤ (str l).size ∧ i = .int .i64 k ∧ wr = w ∧ Hid (∀ j, j < k → 48 ≤ (l.getD j 0).toNat ∧ (l.getD j 0).toNat ≤ 57)) (fun i _ => (str l).size - (intOf i).toNat)
        case atStart => exact ⟨0, Nat.zero_le _, rfl, rfl, Lib.hid (fun j h => absurd h (by omega))⟩
        case round =>
          obtain ⟨k, hk, rfl, rfl, HG⟩ := hrel
          by_cases hlt : k < (str l).size
          · have hd : decide ((k : Int) < ((str l).size : Nat)) = true := by simpa using hlt
            have hx : (((str l)[k]'hlt).toNat : Int) = (((l.getD k 0).toNat : Nat) : Int) := by rw [str_get l k hlt]
            by_cases hlo : (l.getD k 0).toNat < 48
            · clear HG
              generalize (l.getD k 0).toNat = c at *
              have hlo' : decide ((c : Int) < 48) = true := by rw [decide_eq_true_iff]; omega
              go_wp2_with fail
              go_ret
              exact ⟨rfl, rfl⟩
            · by_cases hhi : 57 < (l.getD k 0).toNat
              · clear HG
                generalize (l.getD k 0).toNat = c at *
                have hlo' : decide ((c : Int) < 48) = false := by rw [decide_eq_false_iff_not]; omega
                have hhi' : decide ((57 : Int) < (c : Int)) = true := by rw [decide_eq_true_iff]; omega
                go_wp2_with fail
                go_ret
                exact ⟨rfl, rfl⟩
              · have HG2 : Hid (∀ j, j < k + 1 → 48 ≤ (l.getD j 0).toNat ∧ (l.getD j 0).toNat ≤ 57) := Lib.hid (fun j hj => by
                  rcases Nat.lt_or_ge j k with h | h
                  · exact HG.out j h
                  · obtain rfl : j = k := by omega
                    exact ⟨by omega, by omega⟩)
                clear HG
                generalize (l.getD k 0).toNat = c at *
                have hlo' : decide ((c : Int) < 48) = false := by rw [decide_eq_false_iff_not]; omega
                have hhi' : decide ((57 : Int) < (c : Int)) = false := by rw [decide_eq_false_iff_not]; omega
                go_wp2_with fail
                go_roundw
                case rel => exact ⟨k + 1, by omega, by simp, trivial, HG2⟩
                case measure => simp [intOf]; omega
          · exfalso
            refine HEX.out fun c hc => ?_
            obtain ⟨i, hi, rfl⟩ := List.getElem_of_mem hc
            have := HG.out i (by have := HS.out; omega)
            rw [List.getD_eq_getElem?_getD, List.getElem?_eq_getElem hi] at this
            exact this
theorem decG_form {l : List UInt8} (h : DecG (behind l)) (hl : l ≠ [45, 48]) : Form 10 l := by
  refine ⟨h.ne, fun c hc => ?_, ?_⟩
  · have := dval_digit (h.dig c hc)
    exact ⟨this.1, this.2.1⟩
  · rcases h.head with h1 | h1
    · left
      intro e
      apply h1
      cases hb : behind l with
      | nil => exact absurd hb h.ne
      | cons c r => rw [hb] at e; simpa using e
    · by_cases h2 : (behind l).head? = some 48
      · right
        have hb : behind l = [48] := by
          cases hb : behind l with
          | nil => exact absurd hb h.ne
          | cons c r =>
            rw [hb] at h1 h2
            simp at h1 h2
            rw [h1, h2]
        unfold behind at hb
        by_cases hm : l.head? = some 45
        · rw [if_pos hm] at hb
          exfalso
          apply hl
          cases l with
          | nil => simp at hm
          | cons c r => simp at hm hb; rw [hm, hb]
        · rw [if_neg hm] at hb
          exact hb
      · exact .inl h2
set_option maxHeartbeats 400000 in
theorem form_not (l : List UInt8) (hlen : l.length ≤ 2000) (h : ¬ Form 10 l) (w : World) :
    Calls Tryz.prog 132 #[.string (str l)] w fun e w' => e = .returned (.bool false) ∧ w = w' := by
  have HA := Lib.hid (fun w => Abs_any l w)
  have hbl : (behind l).length ≤ 2000 := by
    unfold behind
    split
    · rw [List.length_tail]; omega
    · exact hlen
  by_cases hd : DecG (behind l)
  · have hl : l = [45, 48] := Decidable.byContradiction fun hl => h (decG_form hd hl)
    have HB : Hid (((str l).toList == [45, 48]) = true) := Lib.hid (by rw [Lib.toList_data, str_data, hl]; rfl)
    have HD := Lib.hid (fun w => digits_decg _ hd w)
    clear h hd hl hbl hlen
    generalize str (behind l) = SB at *
    generalize str l = S at *
    go_enter Tryz.func132, Tryz.ntmps132
    go_wp2_with fail
    refine (HA.out _).mono ?_
    rintro e w' ⟨rfl, rfl⟩
    go_wp2_with fail
    refine (HD.out _).mono ?_
    rintro e w' ⟨rfl, rfl⟩
    go_wp2_with fail
    rw [HB.out]
    go_wp2_with fail
    go_ret
    exact ⟨rfl, rfl⟩
  · have HD := Lib.hid (fun w => digits_not _ hbl hd w)
    clear h hd hbl hlen
    generalize str (behind l) = SB at *
    generalize str l = S at *
    go_enter Tryz.func132, Tryz.ntmps132
    go_wp2_with fail
    refine (HA.out _).mono ?_
    rintro e w' ⟨rfl, rfl⟩
    go_wp2_with fail
    refine (HD.out _).mono ?_
    rintro e w' ⟨rfl, rfl⟩
    go_wp2_with fail
    go_ret
    exact ⟨rfl, rfl⟩
set_option maxHeartbeats 400000 in
theorem form_long (x : Int) (hx : (Wh.decN x.natAbs).length ≤ 2000) (w : World) :
    Calls Tryz.prog 132 #[txt x] w fun e w' => e = .returned (.bool true) ∧ w = w' := by
  have hb : ((str (Wh.decI x)).toList == [45, 48]) = false := by
    rw [Lib.toList_data, str_data, beq_eq_false_iff_ne]
    intro e
    have := dec_form x
    rw [e] at this
    rcases this.lead with h | h <;> revert h <;> decide
  have HA := Lib.hid (fun w => Abs_txt x w)
  have HD := Lib.hid (fun w => digits_decg _ (decG_of _ hx) w)
  have HB := Lib.hid hb; clear hb hx
  unfold txt at *
  go_enter Tryz.func132, Tryz.ntmps132
  go_wp2_with fail
  refine (HA.out _).mono ?_
  rintro e w' ⟨rfl, rfl⟩
  go_wp2_with fail
  refine (HD.out _).mono ?_
  rintro e w' ⟨rfl, rfl⟩
  go_wp2_with fail
  rw [HB.out]
  go_wp2_with fail
  go_ret
  exact ⟨rfl, rfl⟩
set_option maxHeartbeats 400000 in
theorem Check_not (l : List UInt8) (c : Int) (hlen : l.length ≤ 2000) (h : Bad l c) (w : World) :
    Calls Tryz.prog 47 #[.string (str l)] w fun e w' => e = .returned (.int .i64 c) ∧ w = w' := by
  rcases h with ⟨h, rfl⟩ | ⟨x, rfl, h, rfl⟩
  · have HF := Lib.hid (fun w => form_not l hlen h w)
    clear h hlen
    generalize str l = S at *
    go_enter Tryz.func47, Tryz.ntmps47
    go_wp2_with fail
    refine (HF.out _).mono ?_
    rintro e w' ⟨rfl, rfl⟩
    go_wp2_with fail
    go_ret
    exact ⟨rfl, rfl⟩
  · have HF := Lib.hid (fun w => form_long x (Nat.le_trans (decI_len x) hlen) w)
    have HA := Lib.hid (fun w => Abs_txt x w)
    have hs : decide ((400 : Int) < ((str (Wh.decN x.natAbs)).size : Nat)) = true := by rw [decide_eq_true_iff]; show (400 : Int) < ((Wh.decN x.natAbs).length : Nat); unfold Valid at h; omega
    have hs2 : (str (Wh.decN x.natAbs)).size ≤ 2000 := Nat.le_trans (decI_len x) hlen
    clear h hlen
    unfold txt at *
    generalize str (Wh.decN x.natAbs) = S' at *
    generalize str (Wh.decI x) = S at *
    go_enter Tryz.func47, Tryz.ntmps47
    go_wp2_with fail
    refine (HF.out _).mono ?_
    rintro e w' ⟨rfl, rfl⟩
    go_wp2_with fail
    refine (HA.out _).mono ?_
    rintro e w' ⟨rfl, rfl⟩
    go_wp2_with fail
    go_ret
    exact ⟨rfl, rfl⟩
end Go.Proofs.YteggbenhffmijaaGreatDoor

/- long division, arithmetic -/
namespace Wh
theorem getD_set_ne (l : List Nat) {i j : Nat} (v : Nat) (h : i ≠ j) : (l.set i v).getD j 0 = l.getD j 0 := by
  simp [List.getD, List.getElem?_set_ne h]
theorem getD_set_eq (l : List Nat) {i : Nat} (v : Nat) (h : i < l.length) : (l.set i v).getD i 0 = v := by
  simp [List.getD, h]
theorem getD_replicate0 (n j : Nat) : (List.replicate n 0).getD j 0 = 0 := by
  rw [List.getD_eq_getElem?_getD, List.getElem?_replicate]
  split <;> rfl
/-- the value of n limbs from a place on -/
def win (L : List Nat) (p n : Nat) : Nat := sum (fun j => L.getD (p + j) 0) n
theorem win_succ (L : List Nat) (p n : Nat) : win L p (n + 1) = win L p n + R ^ n * L.getD (p + n) 0 := rfl
theorem win_congr {L M : List Nat} {p n : Nat} (h : ∀ j, p ≤ j → j < p + n → L.getD j 0 = M.getD j 0) : win L p n = win M p n :=
  sum_congr fun i hi => h (p + i) (by omega) (by omega)
theorem okD {l : List Nat} (h : Ok l) (i : Nat) : l.getD i 0 < R := by
  rw [List.getD_eq_getElem?_getD]
  cases e : l[i]? with
  | none => simp [R]
  | some x => exact h x (List.mem_of_getElem? e)
theorem win_low (L : List Nat) (p n : Nat) : win L p (n + 1) = L.getD p 0 + R * win L (p + 1) n := by
  induction n with
  | zero => simp [win, sum]
  | succ n ih =>
    rw [win_succ, ih, win_succ, Nat.mul_add, Nat.add_assoc]
    congr 2
    rw [← Nat.mul_assoc, Nat.pow_succ, Nat.mul_comm (R ^ n) R, show p + (n + 1) = p + 1 + n by omega]
theorem win_all (L : List Nat) : win L 0 L.length = val L := by
  rw [val_sum]
  exact sum_congr fun i _ => by rw [Nat.zero_add]
theorem win_drop (L : List Nat) (p : Nat) : win L p (L.length - p) = val (L.drop p) := by
  rw [val_sum, List.length_drop]
  exact sum_congr fun i _ => by simp [List.getD, List.getElem?_drop]
theorem win_zero {L : List Nat} {p : Nat} (n k : Nat) (h : ∀ j, p + n ≤ j → L.getD j 0 = 0) : win L p (n + k) = win L p n := by
  induction k with
  | zero => rfl
  | succ k ih => rw [← Nat.add_assoc, win_succ, ih, h (p + (n + k)) (by omega), Nat.mul_zero, Nat.add_zero]
/-- rounds of takeTimes -/
structure TK (lr d : List Nat) (p q i : Nat) (L : List Nat) (on bor : Nat) : Prop where
  len : L.length = lr.length
  ok : Ok L
  on1 : on < R
  b1 : bor ≤ 1
  out : ∀ j, j < p ∨ p + i ≤ j → L.getD j 0 = lr.getD j 0
  eq : win L p i + q * sum (d.getD · 0) i = win lr p i + R ^ i * (on + bor)
theorem TK.start {lr : List Nat} (h : Ok lr) (d : List Nat) (p q : Nat) : TK lr d p q 0 lr 0 0 :=
  ⟨rfl, h, R_pos, by omega, fun _ _ => rfl, by simp [win, sum]⟩
theorem mul_carry {x q on : Nat} (hx : x < R) (hq : q < R) (ho : on < R) : (x * q + on) / R < R := by
  have : x * q ≤ (R - 1) * (R - 1) := Nat.mul_le_mul (by omega) (by omega)
  have e : (R - 1) * (R - 1) + (R - 1) < R * R := by decide
  rw [Nat.div_lt_iff_lt_mul R_pos]
  omega
theorem TK.next {lr d : List Nat} {p q i : Nat} {L : List Nat} {on bor : Nat} (h : TK lr d p q i L on bor) (hd : Ok d) (hq : q < R) (hi : p + i < lr.length) :
    TK lr d p q (i + 1) (L.set (p + i) (minusN (L.getD (p + i) 0) ((d.getD i 0 * q + on) % R) bor).1) ((d.getD i 0 * q + on) / R) (minusN (L.getD (p + i) 0) ((d.getD i 0 * q + on) % R) bor).2 := by
  have h1 := okD hd i
  have h2 := okD h.ok (p + i)
  have h3 := minus_step h2 (Nat.mod_lt (d.getD i 0 * q + on) R_pos) h.b1
  have hl : p + i < L.length := by rw [h.len]; exact hi
  have ho := h.out (p + i) (.inr (Nat.le_refl _))
  generalize (minusN (L.getD (p + i) 0) ((d.getD i 0 * q + on) % R) bor).1 = x at *
  generalize (minusN (L.getD (p + i) 0) ((d.getD i 0 * q + on) % R) bor).2 = b' at *
  refine ⟨by rw [List.length_set]; exact h.len, ok_set h.ok h3.1, mul_carry h1 hq h.on1, h3.2.1, fun j hj => by rw [getD_set_ne _ _ (by omega)]; exact h.out j (by omega), ?_⟩
  have e1 : win (L.set (p + i) x) p i = win L p i := win_congr fun j _ h5 => getD_set_ne _ _ (by omega)
  rw [win_succ, e1, getD_set_eq _ _ hl, win_succ, sum, ← ho, Nat.mul_add]
  have h4 := h.eq
  have h5 := Nat.mod_add_div (d.getD i 0 * q + on) R
  have h6 : R ^ (i + 1) * ((d.getD i 0 * q + on) / R + b') = R ^ i * (R * ((d.getD i 0 * q + on) / R)) + R ^ i * (R * b') := by
    rw [Nat.pow_succ, Nat.mul_assoc, Nat.mul_add, Nat.mul_add]
  have h7 : q * (R ^ i * d.getD i 0) = R ^ i * (d.getD i 0 * q) := by rw [Nat.mul_left_comm, Nat.mul_comm q]
  rw [h6, h7]
  have h8 : R ^ i * x + R ^ i * ((d.getD i 0 * q + on) % R) + R ^ i * bor = R ^ i * L.getD (p + i) 0 + R ^ i * (R * b') := by rw [← Nat.mul_add, ← Nat.mul_add, h3.2.2, Nat.mul_add]
  have h9 : R ^ i * ((d.getD i 0 * q + on) % R) + R ^ i * (R * ((d.getD i 0 * q + on) / R)) = R ^ i * (d.getD i 0 * q) + R ^ i * on := by rw [← Nat.mul_add, h5, Nat.mul_add]
  rw [Nat.mul_add] at h4
  omega
/-- what takeTimes and giveTimes leave -/
structure TE (lr : List Nat) (p m : Nat) (L : List Nat) : Prop where
  len : L.length = lr.length
  ok : Ok L
  out : ∀ j, j < p ∨ p + m < j → L.getD j 0 = lr.getD j 0
theorem TK.fin {lr d : List Nat} {p q : Nat} {L : List Nat} {on bor : Nat} (h : TK lr d p q d.length L on bor) (hi : p + d.length < lr.length) :
    TE lr p d.length (L.set (p + d.length) (minusN (L.getD (p + d.length) 0) on bor).1) ∧ (minusN (L.getD (p + d.length) 0) on bor).2 ≤ 1 ∧
    win (L.set (p + d.length) (minusN (L.getD (p + d.length) 0) on bor).1) p (d.length + 1) + q * val d = win lr p (d.length + 1) + R ^ (d.length + 1) * (minusN (L.getD (p + d.length) 0) on bor).2 := by
  have h2 := okD h.ok (p + d.length)
  have h3 := minus_step h2 h.on1 h.b1
  have hl : p + d.length < L.length := by rw [h.len]; exact hi
  have ho := h.out (p + d.length) (.inr (Nat.le_refl _))
  generalize (minusN (L.getD (p + d.length) 0) on bor).1 = x at *
  generalize (minusN (L.getD (p + d.length) 0) on bor).2 = b' at *
  refine ⟨⟨by rw [List.length_set]; exact h.len, ok_set h.ok h3.1, fun j hj => by rw [getD_set_ne _ _ (by omega)]; exact h.out j (by omega)⟩, h3.2.1, ?_⟩
  have e1 : win (L.set (p + d.length) x) p d.length = win L p d.length := win_congr fun j _ h5 => getD_set_ne _ _ (by omega)
  rw [win_succ, e1, getD_set_eq _ _ hl, win_succ, ← ho, val_sum, Nat.pow_succ, Nat.mul_assoc]
  have h4 := h.eq
  have h8 : R ^ d.length * x + R ^ d.length * on + R ^ d.length * bor = R ^ d.length * L.getD (p + d.length) 0 + R ^ d.length * (R * b') := by rw [← Nat.mul_add, ← Nat.mul_add, h3.2.2, Nat.mul_add]
  rw [Nat.mul_add] at h4
  omega
/-- rounds of giveTimes -/
structure GK (lr d : List Nat) (p q i : Nat) (L : List Nat) (on car : Nat) : Prop where
  len : L.length = lr.length
  ok : Ok L
  on1 : on < R
  b1 : car ≤ 1
  out : ∀ j, j < p ∨ p + i ≤ j → L.getD j 0 = lr.getD j 0
  eq : win L p i + R ^ i * (on + car) = win lr p i + q * sum (d.getD · 0) i
theorem GK.start {lr : List Nat} (h : Ok lr) (d : List Nat) (p q : Nat) : GK lr d p q 0 lr 0 0 :=
  ⟨rfl, h, R_pos, by omega, fun _ _ => rfl, by simp [win, sum]⟩
theorem GK.next {lr d : List Nat} {p q i : Nat} {L : List Nat} {on car : Nat} (h : GK lr d p q i L on car) (hd : Ok d) (hq : q < R) (hi : p + i < lr.length) :
    GK lr d p q (i + 1) (L.set (p + i) (plusN (L.getD (p + i) 0) ((d.getD i 0 * q + on) % R) car).1) ((d.getD i 0 * q + on) / R) (plusN (L.getD (p + i) 0) ((d.getD i 0 * q + on) % R) car).2 := by
  have h1 := okD hd i
  have h2 := okD h.ok (p + i)
  have h3 := plus_step h2 (Nat.mod_lt (d.getD i 0 * q + on) R_pos) h.b1
  have hl : p + i < L.length := by rw [h.len]; exact hi
  have ho := h.out (p + i) (.inr (Nat.le_refl _))
  generalize (plusN (L.getD (p + i) 0) ((d.getD i 0 * q + on) % R) car).1 = x at *
  generalize (plusN (L.getD (p + i) 0) ((d.getD i 0 * q + on) % R) car).2 = b' at *
  refine ⟨by rw [List.length_set]; exact h.len, ok_set h.ok h3.1, mul_carry h1 hq h.on1, h3.2.1, fun j hj => by rw [getD_set_ne _ _ (by omega)]; exact h.out j (by omega), ?_⟩
  have e1 : win (L.set (p + i) x) p i = win L p i := win_congr fun j _ h5 => getD_set_ne _ _ (by omega)
  rw [win_succ, e1, getD_set_eq _ _ hl, win_succ, sum, ← ho, Nat.mul_add q]
  have h4 := h.eq
  have h5 := Nat.mod_add_div (d.getD i 0 * q + on) R
  have h6 : R ^ (i + 1) * ((d.getD i 0 * q + on) / R + b') = R ^ i * (R * ((d.getD i 0 * q + on) / R)) + R ^ i * (R * b') := by
    rw [Nat.pow_succ, Nat.mul_assoc, Nat.mul_add, Nat.mul_add]
  have h7 : q * (R ^ i * d.getD i 0) = R ^ i * (d.getD i 0 * q) := by rw [Nat.mul_left_comm, Nat.mul_comm q]
  rw [h6, h7]
  have h8 : R ^ i * x + R ^ i * (R * b') = R ^ i * L.getD (p + i) 0 + R ^ i * ((d.getD i 0 * q + on) % R) + R ^ i * car := by rw [← Nat.mul_add, h3.2.2, Nat.mul_add, Nat.mul_add]
  have h9 : R ^ i * ((d.getD i 0 * q + on) % R) + R ^ i * (R * ((d.getD i 0 * q + on) / R)) = R ^ i * (d.getD i 0 * q) + R ^ i * on := by rw [← Nat.mul_add, h5, Nat.mul_add]
  rw [Nat.mul_add] at h4
  omega
theorem GK.fin {lr d : List Nat} {p q : Nat} {L : List Nat} {on car : Nat} (h : GK lr d p q d.length L on car) (hi : p + d.length < lr.length) :
    TE lr p d.length (L.set (p + d.length) (plusN (L.getD (p + d.length) 0) on car).1) ∧ (plusN (L.getD (p + d.length) 0) on car).2 ≤ 1 ∧
    win (L.set (p + d.length) (plusN (L.getD (p + d.length) 0) on car).1) p (d.length + 1) + R ^ (d.length + 1) * (plusN (L.getD (p + d.length) 0) on car).2 = win lr p (d.length + 1) + q * val d := by
  have h2 := okD h.ok (p + d.length)
  have h3 := plus_step h2 h.on1 h.b1
  have hl : p + d.length < L.length := by rw [h.len]; exact hi
  have ho := h.out (p + d.length) (.inr (Nat.le_refl _))
  generalize (plusN (L.getD (p + d.length) 0) on car).1 = x at *
  generalize (plusN (L.getD (p + d.length) 0) on car).2 = b' at *
  refine ⟨⟨by rw [List.length_set]; exact h.len, ok_set h.ok h3.1, fun j hj => by rw [getD_set_ne _ _ (by omega)]; exact h.out j (by omega)⟩, h3.2.1, ?_⟩
  have e1 : win (L.set (p + d.length) x) p d.length = win L p d.length := win_congr fun j _ h5 => getD_set_ne _ _ (by omega)
  rw [win_succ, e1, getD_set_eq _ _ hl, win_succ, ← ho, val_sum, Nat.pow_succ, Nat.mul_assoc]
  have h4 := h.eq
  have h8 : R ^ d.length * x + R ^ d.length * (R * b') = R ^ d.length * L.getD (p + d.length) 0 + R ^ d.length * on + R ^ d.length * car := by rw [← Nat.mul_add, h3.2.2, Nat.mul_add, Nat.mul_add]
  rw [Nat.mul_add] at h4
  omega
theorem TE.trans {lr L M : List Nat} {p m : Nat} (h : TE lr p m L) (k : TE L p m M) : TE lr p m M :=
  ⟨k.len.trans h.len, k.ok, fun j hj => (k.out j hj).trans (h.out j hj)⟩
/-- what taking and giving do to the window, as words of their own: the kernel then never unfolds a power of R -/
structure TkEq (lr L : List Nat) (p m q D b : Nat) : Prop where
  eq : win L p (m + 1) + q * D = win lr p (m + 1) + R ^ (m + 1) * b
structure GvEq (lr L : List Nat) (p m q D b : Nat) : Prop where
  eq : win L p (m + 1) + R ^ (m + 1) * b = win lr p (m + 1) + q * D
theorem TkEq.zero {lr L : List Nat} {p m q D : Nat} (h : TkEq lr L p m q D 0) : win L p (m + 1) + q * D = win lr p (m + 1) := by
  have := h.eq
  rwa [Nat.mul_zero, Nat.add_zero] at this
/-- a guess that serves -/
theorem take_right {x w q D : Nat} (h1 : x + q * D = w) (hq : w / D ≤ q) (hD : 0 < D) : q = w / D ∧ x = w % D := by
  have h2 : q ≤ w / D := (Nat.le_div_iff_mul_le hD).2 (by omega)
  have h3 : q = w / D := by omega
  have := Nat.div_add_mod w D
  rw [Nat.mul_comm, ← h3] at this
  exact ⟨h3, by omega⟩
/-- the whole division -/
structure DV (A0 : List Nat) (m D p : Nat) (L Q : List Nat) : Prop where
  len : L.length = A0.length
  ok : Ok L
  qlen : Q.length + m = A0.length
  qok : Ok Q
  qlow : ∀ j, j < p → Q.getD j 0 = 0
  low : ∀ j, j < p → L.getD j 0 = A0.getD j 0
  high : ∀ j, p + m ≤ j → L.getD j 0 = 0
  lt : win L p m < D
  eq : val (A0.drop p) = val (Q.drop p) * D + win L p m
theorem DV.start {A0 : List Nat} {m D : Nat} (hA : Ok A0) (hm : m ≤ A0.length) (hlt : win A0 (A0.length - m) m < D) : DV A0 m D (A0.length - m) A0 (List.replicate (A0.length - m) 0) := by
  refine ⟨rfl, hA, by rw [List.length_replicate]; omega, ok_replicate _, fun j _ => getD_replicate0 _ _, fun _ _ => rfl, fun j hj => by simp [List.getD, show A0.length ≤ j by omega], hlt, ?_⟩
  have := win_drop A0 (A0.length - m)
  rw [show A0.length - (A0.length - m) = m by omega] at this
  have hd : (List.replicate (A0.length - m) 0).drop (A0.length - m) = ([] : List Nat) := List.drop_eq_nil_of_le (by rw [List.length_replicate]; exact Nat.le_refl _)
  rw [this, hd]
  simp [val]
/-- the part of a round -/
theorem DV.part {A0 : List Nat} {m D p : Nat} {L Q : List Nat} (h : DV A0 m D (p + 1) L Q) : win L p (m + 1) < R * D ∧ win L p (m + 1) = A0.getD p 0 + R * win L (p + 1) m := by
  have e := win_low L p m
  have h1 := h.low p (by omega)
  have h2 := okD h.ok p
  have h3 := h.lt
  have h4 : R * (win L (p + 1) m + 1) ≤ R * D := Nat.mul_le_mul_left _ h3
  rw [Nat.mul_add, Nat.mul_one] at h4
  exact ⟨by omega, by rw [e, h1]⟩
theorem val_drop0 (l : List Nat) (n : Nat) : val (l.drop n) = l.getD n 0 + R * val (l.drop (n + 1)) := by
  rcases Nat.lt_or_ge n l.length with h | h
  · rw [List.drop_eq_getElem_cons h, val]; simp [List.getD, h]
  · rw [List.drop_eq_nil_of_le (by omega), List.drop_eq_nil_of_le (by omega)]
    simp [val, List.getD, h]
theorem DV.next {A0 : List Nat} {m D p : Nat} {L Q M : List Nat} (h : DV A0 m D (p + 1) L Q) (hp : p + m < A0.length) (hDm : D ≤ R ^ m) (hE : TE L p m M) (hv : win M p (m + 1) = win L p (m + 1) % D) :
    DV A0 m D p M (Q.set p (win L p (m + 1) / D)) := by
  obtain ⟨h1, h2⟩ := h.part
  have hD : 0 < D := by have := h.lt; omega
  have hq : win L p (m + 1) / D < R := Nat.div_lt_of_lt_mul (by rw [Nat.mul_comm]; exact h1)
  have hql : p < Q.length := by have := h.qlen; omega
  have hr : win M p (m + 1) < D := by rw [hv]; exact Nat.mod_lt _ hD
  have htop : M.getD (p + m) 0 = 0 := by
    rw [win_succ] at hr
    rcases Nat.eq_zero_or_pos (M.getD (p + m) 0) with h0 | h0
    · exact h0
    · have : R ^ m * 1 ≤ R ^ m * M.getD (p + m) 0 := Nat.mul_le_mul_left _ h0
      omega
  have hw : win M p m = win L p (m + 1) % D := by rw [← hv, win_succ, htop]; omega
  refine ⟨hE.len.trans h.len, hE.ok, by rw [List.length_set]; exact h.qlen, ok_set h.qok hq, fun j hj => by rw [getD_set_ne _ _ (by omega)]; exact h.qlow j (by omega), fun j hj => by rw [hE.out j (.inl hj)]; exact h.low j (by omega), fun j hj => ?_, by rw [hw]; exact Nat.mod_lt _ hD, ?_⟩
  · rcases Nat.lt_or_ge (p + m) j with h3 | h3
    · rw [hE.out j (.inr h3)]; exact h.high j (by omega)
    · rw [show j = p + m by omega]; exact htop
  · have e1 : (Q.set p (win L p (m + 1) / D)).drop (p + 1) = Q.drop (p + 1) := List.drop_set_of_lt (by omega)
    rw [val_drop0 A0 p, val_drop0 _ p, e1, getD_set_eq _ _ hql, h.eq, hw, Nat.add_mul]
    have h5 := Nat.div_add_mod (win L p (m + 1)) D
    rw [Nat.mul_comm] at h5
    rw [Nat.mul_add, Nat.mul_assoc]
    omega
theorem DV.fin {A0 : List Nat} {m D : Nat} {L Q : List Nat} (h : DV A0 m D 0 L Q) : val Q = val A0 / D ∧ val L = val A0 % D := by
  have h1 := h.eq
  have hl : val L = win L 0 m := by
    have e := h.qlen
    have := win_zero (L := L) (p := 0) m (L.length - m) (fun j hj => h.high j hj)
    have hl := h.len
    rw [show m + (L.length - m) = L.length by omega, win_all] at this
    exact this
  rw [← hl] at h1
  have hlt := h.lt
  rw [← hl] at hlt
  simp only [List.drop_zero] at h1
  rw [h1]
  have hD : 0 < D := by omega
  constructor
  · rw [Nat.mul_comm, Nat.mul_add_div hD, Nat.div_eq_of_lt hlt, Nat.add_zero]
  · rw [Nat.mul_comm, Nat.mul_add_mod, Nat.mod_eq_of_lt hlt]
/-- the guess: digit and rest of it -/
structure GU (P D high first digit rest : Nat) : Prop where
  eq : digit * first + rest = high
  ge : P / D ≤ digit
theorem GU.down {P D high first second p2 k digit rest : Nat} (h : GU P D high first digit rest) (hP : P < (high * R + p2 + 1) * R ^ k) (hd : (first * R + second) * R ^ k ≤ D) (hlt : P / D < R)
    (hc : R ≤ digit ∨ rest * R + p2 < digit * second) : GU P D high first (digit - 1) (rest + first) ∧ 0 < digit := by
  have h1 : P / D < digit := by
    rcases hc with hc | hc
    · omega
    · refine Nat.div_lt_of_lt_mul ?_
      have e : digit * (first * R + second) = digit * first * R + digit * second := by rw [Nat.mul_add, Nat.mul_assoc]
      have h2 : high * R + p2 + 1 ≤ digit * (first * R + second) := by rw [e, ← h.eq, Nat.add_mul]; omega
      have h3 : (high * R + p2 + 1) * R ^ k ≤ digit * ((first * R + second) * R ^ k) := by rw [← Nat.mul_assoc]; exact Nat.mul_le_mul_right _ h2
      have h4 : digit * ((first * R + second) * R ^ k) ≤ digit * D := Nat.mul_le_mul_left _ hd
      rw [Nat.mul_comm D]
      omega
  have he := h.eq
  obtain ⟨t, rfl⟩ : ∃ t, digit = t + 1 := ⟨digit - 1, by generalize P / D = z at *; omega⟩
  rw [Nat.add_mul, Nat.one_mul] at he
  rw [Nat.add_sub_cancel]
  generalize hz : P / D = z at *
  exact ⟨⟨by omega, by omega⟩, by omega⟩
end Wh

/- WALKS, long division: takeTimes. -/
namespace Go.Proofs.YteggbenhffmijaaGreatDoor
open Go.RowKit Go.Proofs.Rf
end Go.Proofs.YteggbenhffmijaaGreatDoor

/- WALKS, long division: giveTimes. -/
namespace Go.Proofs.YteggbenhffmijaaGreatDoor
open Go.RowKit Go.Proofs.Rf
end Go.Proofs.YteggbenhffmijaaGreatDoor
