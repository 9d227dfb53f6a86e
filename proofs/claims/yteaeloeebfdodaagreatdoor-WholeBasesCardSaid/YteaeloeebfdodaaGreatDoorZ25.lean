/- Part 25 of the proofs that laws of package whole answer true at every input and leave the input as it was, where the library's variables start as the text lays them (the texts U10, X1, X5, L2, L3, L4, W13). -/
import Derived.Test.YteaeloeebfdodaaGreatDoorZ24
import Derived.Test.YteaeloeebfdodaaGreatDoorZ22
import Derived.Test.YteaeloeebfdodaaGreatDoorZ08
import Derived.Test.YteaeloeebfdodaaGreatDoorZ05
import Derived.Test.YteaeloeebfdodaaGreatDoorZ20
import Derived.Test.YteaeloeebfdodaaGreatDoorZ09
set_option linter.unusedVariables false
set_option linter.unusedSimpArgs false
namespace Go.Proofs.YteaeloeebfdodaaGreatDoor
open Go.RowKit Go.Proofs.Rf
structure DecG (l : List UInt8) : Prop where
  ne : l ≠ []
  dig : ∀ c ∈ l, 48 ≤ c.toNat ∧ c.toNat ≤ 57
  head : l.headD 0 ≠ 48 ∨ l.length = 1
  len : l.length ≤ 2000
theorem DecG.at {l : List UInt8} (h : DecG l) {i : Nat} (hi : i < l.length) : 48 ≤ (l.getD i 0).toNat ∧ (l.getD i 0).toNat ≤ 57 := by
  rw [List.getD_eq_getElem?_getD, List.getElem?_eq_getElem hi]; exact h.dig _ (List.getElem_mem hi)
theorem DecG.pos {l : List UInt8} (h : DecG l) : 0 < l.length := List.length_pos_iff.2 h.ne
theorem digits_loopg (l : List UInt8) (H : Hid (DecG l)) (k : Nat) (hlt : k < (str l).size) : ∃ c : Nat, (((str l)[k]'hlt).toNat : Int) = (c : Int) ∧ (l.getD k 0).toNat = c ∧ 48 ≤ c ∧ c ≤ 57 := by
  have hc := H.out.at (i := k) hlt
  exact ⟨(l.getD k 0).toNat, by rw [str_get l k hlt], rfl, hc.1, hc.2⟩
set_option maxHeartbeats 400000 in
theorem digits_decg (l : List UInt8) (h : DecG l) (w : World) :
    Calls Tryz.prog 254 #[.string (str l)] w fun e w' => e = .returned (.bool true) ∧ w = w' := by
  have hs0 : 0 < (str l).size := h.pos
  have hsz : (str l).size ≤ 2000 := h.len
  have H := Lib.hid h
  have hh : ((str l).size = 1) ∨ (1 < (str l).size ∧ ((((str l)[0]'hs0).toNat : Int) == 48) = false) := by
    by_cases h1 : (str l).size = 1
    · exact .inl h1
    · right
      refine ⟨by omega, ?_⟩
      rcases h.head with h2 | h2
      · rw [beq_eq_false_iff_ne, str_get l 0 hs0]
        intro e
        apply h2
        have e2 : l.getD 0 0 = 48 := UInt8.toNat_inj.1 (show (l.getD 0 0).toNat = 48 by omega)
        rw [← e2]; cases l <;> rfl
      · exact absurd h2 h1
  clear h
  rcases hh with h1 | ⟨h1, h2⟩
  case' inr =>
    have h0 : ((((str l).size : Nat) : Int) == 0) = false := by rw [beq_eq_false_iff_ne]; omega
    have h3 : decide ((1 : Int) < ((str l).size : Nat)) = true := by rw [decide_eq_true_iff]; omega
  all_goals
    go_enter Tryz.func254, Tryz.ntmps254
    go_wp2_with fail
    go_loopw [3] (fun i wr => ∃ k : Nat, k ≤ (str l).size ∧ i = .int .i64 k ∧ wr = w) (fun i _ => (str l).size - (intOf i).toNat)
    case atStart => exact ⟨0, Nat.zero_le _, rfl, rfl⟩
    case round =>
      obtain ⟨k, hk, rfl, rfl⟩ := hrel
      by_cases hlt : k < (str l).size
      · have hd : decide ((k : Int) < ((str l).size : Nat)) = true := by simpa using hlt
        obtain ⟨c, hx, _, hc1, hc2⟩ := digits_loopg l H k hlt
        have hlo : decide ((c : Int) < 48) = false := by rw [decide_eq_false_iff_not]; omega
        have hhi : decide ((57 : Int) < (c : Int)) = false := by rw [decide_eq_false_iff_not]; omega
        go_wp2_with fail
        go_roundw
        case rel => exact ⟨k + 1, by omega, by simp, trivial⟩
        case measure => simp [intOf]; omega
      · have hd : decide ((k : Int) < ((str l).size : Nat)) = false := by simpa using hlt
        go_wp2_with fail
        go_ret
        exact ⟨rfl, rfl⟩
theorem decG_of (n : Nat) (h : (Wh.decN n).length ≤ 2000) : DecG (Wh.decN n) := by
  refine ⟨Wh.decN_ne n, Wh.decN_digits n, ?_, h⟩
  by_cases h0 : n = 0
  · subst h0; right; rw [Wh.decN_zero]; rfl
  · exact .inl (Wh.decN_head n (by omega))
set_option maxHeartbeats 400000 in
theorem form_txtg (x : Int) (hx : V400 x) (w : World) :
    Calls Tryz.prog 186 #[txt x] w fun e w' => e = .returned (.bool true) ∧ w = w' := by
  have hb : ((str (Wh.decI x)).toList == [45, 48]) = false := by
    rw [Lib.toList_data, str_data, beq_eq_false_iff_ne]
    intro e
    by_cases h : x < 0
    · rw [decI_neg h] at e
      have e2 : Wh.decN x.natAbs = [48] := by injection e
      have := Wh.decN_head x.natAbs (by omega)
      rw [e2] at this
      exact this rfl
    · rw [decI_pos h] at e
      have := Wh.decN_digits x.natAbs 45 (by rw [e]; simp)
      exact absurd this.1 (by decide)
  have HA := Lib.hid (fun w => Abs_txt x w)
  have HD := Lib.hid (fun w => digits_decg _ (decG_of _ (Nat.le_trans hx (by decide))) w)
  have HB := Lib.hid hb; clear hb hx
  unfold txt at *
  go_enter Tryz.func186, Tryz.ntmps186
  go_wp2_with fail
  refine (HA.out _).mono ?_
  rintro e w' ⟨rfl, rfl⟩
  go_wp2_with fail
  refine (HD.out _).mono ?_
  rintro e w' ⟨rfl, rfl⟩
  go_wp2_with fail
  rw [HB.out]
  go_wp2_with fail
  go_ret
  exact ⟨rfl, rfl⟩
set_option maxHeartbeats 400000 in
theorem Check_txt (x : Int) (hx : V400 x) (w : World) :
    Calls Tryz.prog 100 #[txt x] w fun e w' => e = .returned (.int .i64 0) ∧ w = w' := by
  have HF := Lib.hid (fun w => form_txtg x hx w)
  have HA := Lib.hid (fun w => Abs_txt x w)
  have hs : decide ((400 : Int) < ((str (Wh.decN x.natAbs)).size : Nat)) = false := by rw [decide_eq_false_iff_not]; show ¬ (400 : Int) < ((Wh.decN x.natAbs).length : Nat); have : (Wh.decN x.natAbs).length ≤ 400 := hx; omega
  clear hx
  unfold txt at *
  generalize str (Wh.decN x.natAbs) = S' at *
  go_enter Tryz.func100, Tryz.ntmps100
  go_wp2_with fail
  refine (HF.out _).mono ?_
  rintro e w' ⟨rfl, rfl⟩
  go_wp2_with fail
  refine (HA.out _).mono ?_
  rintro e w' ⟨rfl, rfl⟩
  go_wp2_with fail
  go_ret
  exact ⟨rfl, rfl⟩
end Go.Proofs.YteaeloeebfdodaaGreatDoor

namespace Go.Proofs.YteaeloeebfdodaaGreatDoor
open Go.RowKit Go.Proofs.Rf
set_option maxHeartbeats 400000 in
theorem Neg_any (l : List UInt8) (w : World) :
    Calls Tryz.prog 41 #[.string (str l)] w fun e w' => e = .returned (.bool (decide (l.head? = some 45))) ∧ w = w' := by
  cases l with
  | nil =>
    have hz : (str ([] : List UInt8)).size = 0 := rfl
    have hd : decide ((0 : Int) < ((str ([] : List UInt8)).size : Nat)) = false := by rw [hz]; rfl
    go_enter Tryz.func41, Tryz.ntmps41
    go_wp2
    go_ret
    exact ⟨rfl, rfl⟩
  | cons c r =>
    have hs0 : 0 < (str (c :: r)).size := by rw [str_size]; simp
    have hd : decide ((0 : Int) < ((str (c :: r)).size : Nat)) = true := by rw [decide_eq_true_iff]; omega
    have h45 : ((((str (c :: r))[0]'hs0).toNat : Int) == 45) = decide ((c :: r).head? = some 45) := by
      rw [str_get _ 0 hs0]
      by_cases h : c = 45
      · subst h; rfl
      · rw [decide_eq_false (by simpa using h), beq_eq_false_iff_ne]
        intro e
        apply h
        exact UInt8.toNat_inj.1 (show c.toNat = 45 by simp at e; omega)
    generalize decide ((c :: r).head? = some 45) = b at *
    generalize str (c :: r) = S at *
    cases b
    all_goals
      go_enter Tryz.func41, Tryz.ntmps41
      go_wp2
      go_ret
      exact ⟨rfl, rfl⟩
set_option maxHeartbeats 400000 in
theorem Abs_any (l : List UInt8) (w : World) :
    Calls Tryz.prog 20 #[.string (str l)] w fun e w' => e = .returned (.string (str (behind l))) ∧ w = w' := by
  have HN := Lib.hid (fun w => Neg_any l w)
  by_cases h : l.head? = some 45
  · have hb : str (behind l) = (str l).extract 1 (str l).size := by
      cases l with
      | nil => simp at h
      | cons c r =>
        rw [str_tail]
        unfold behind
        rw [if_pos h]
        rfl
    have h1 : (1 : Int) ≤ ((str l).size : Nat) := by
      cases l with
      | nil => simp at h
      | cons c r => rw [str_size]; simp; omega
    rw [decide_eq_true h] at HN
    rw [hb]
    clear h hb
    generalize str l = S at *
    go_enter Tryz.func20, Tryz.ntmps20
    go_wp2_with fail
    refine (HN.out _).mono ?_
    rintro e w' ⟨rfl, rfl⟩
    go_wp2_with fail
    go_ret
    exact ⟨rfl, rfl⟩
  · have hb : behind l = l := by unfold behind; rw [if_neg h]
    rw [decide_eq_false h] at HN
    rw [hb]
    clear h hb
    generalize str l = S at *
    go_enter Tryz.func20, Tryz.ntmps20
    go_wp2_with fail
    refine (HN.out _).mono ?_
    rintro e w' ⟨rfl, rfl⟩
    go_wp2_with fail
    go_ret
    exact ⟨rfl, rfl⟩
set_option maxHeartbeats 800000 in
theorem digits_not (l : List UInt8) (hlen : l.length ≤ 2000) (h : ¬ DecG l) (w : World) :
    Calls Tryz.prog 254 #[.string (str l)] w fun e w' => e = .returned (.bool false) ∧ w = w' := by
  have HS : Hid ((str l).size = l.length) := Lib.hid rfl
  by_cases hne : l = []
  · have hz : (str l).size = 0 := by rw [HS.out, hne]; rfl
    have h0 : ((((str l).size : Nat) : Int) == 0) = true := by rw [hz]; rfl
    clear h HS
    generalize str l = S at *
    go_enter Tryz.func254, Tryz.ntmps254
    go_wp2
    go_ret
    exact ⟨rfl, rfl⟩
  · have hs0 : 0 < (str l).size := by rw [str_size]; exact List.length_pos_iff.2 hne
    have h0 : ((((str l).size : Nat) : Int) == 0) = false := by rw [beq_eq_false_iff_ne]; omega
    have hsz : (str l).size ≤ 2000 := by rw [HS.out]; exact hlen
    by_cases hz : 1 < l.length ∧ l.headD 0 = 48
    · have h3 : decide ((1 : Int) < ((str l).size : Nat)) = true := by rw [decide_eq_true_iff, HS.out]; omega
      have h2 : ((((str l)[0]'hs0).toNat : Int) == 48) = true := by
        rw [beq_iff_eq, str_get l 0 hs0]
        have e : l.getD 0 0 = 48 := by rw [← hz.2]; cases l <;> rfl
        rw [e]; rfl
      clear h HS hz
      generalize str l = S at *
      go_enter Tryz.func254, Tryz.ntmps254
      go_wp2
      go_ret
      exact ⟨rfl, rfl⟩
    · have hex : ¬ ∀ c ∈ l, 48 ≤ c.toNat ∧ c.toNat ≤ 57 := fun hd => h ⟨hne, hd, by
        by_cases h1 : l.length = 1
        · exact .inr h1
        · left
          intro e
          have := List.length_pos_iff.2 hne
          exact hz ⟨by omega, e⟩, hlen⟩
      have HEX := Lib.hid hex; clear hex
      have hh : ((str l).size = 1) ∨ (1 < (str l).size ∧ ((((str l)[0]'hs0).toNat : Int) == 48) = false) := by
        by_cases h1 : (str l).size = 1
        · exact .inl h1
        · right
          refine ⟨by omega, ?_⟩
          rw [beq_eq_false_iff_ne, str_get l 0 hs0]
          intro e
          have e2 : l.getD 0 0 = 48 := UInt8.toNat_inj.1 (show (l.getD 0 0).toNat = 48 by omega)
          exact hz ⟨by have := HS.out; omega, by rw [← e2]; cases l <;> rfl⟩
      clear h hz h0
      rcases hh with h1 | ⟨h1, h2⟩
      case' inr =>
        have h0 : ((((str l).size : Nat) : Int) == 0) = false := by rw [beq_eq_false_iff_ne]; omega
        have h3 : decide ((1 : Int) < ((str l).size : Nat)) = true := by rw [decide_eq_true_iff]; omega
      all_goals
        go_enter Tryz.func254, Tryz.ntmps254
        go_wp2_with fail
        go_loopw [3] (fun i wr => ∃ k : Nat, k ≤ (str l).size ∧ i = .int .i64 k ∧ wr = w ∧ Hid (∀ j, j < k → 48 ≤ (l.getD j 0).toNat ∧ (l.getD j 0).toNat ≤ 57)) (fun i _ => (str l).size - (intOf i).toNat)
        case atStart => exact ⟨0, Nat.zero_le _, rfl, rfl, Lib.hid (fun j h => absurd h (by omega))⟩
        case round =>
          obtain ⟨k, hk, rfl, rfl, HG⟩ := hrel
          by_cases hlt : k < (str l).size
          · have hd : decide ((k : Int) < ((str l).size : Nat)) = true := by simpa using hlt
            have hx : (((str l)[k]'hlt).toNat : Int) = (((l.getD k 0).toNat : Nat) : Int) := by rw [str_get l k hlt]
            by_cases hlo : (l.getD k 0).toNat < 48
            · clear HG
              generalize (l.getD k 0).toNat = c at *
              have hlo' : decide ((c : Int) < 48) = true := by rw [decide_eq_true_iff]; omega
              go_wp2_with fail
              go_ret
              exact ⟨rfl, rfl⟩
            · by_cases hhi : 57 < (l.getD k 0).toNat
              · clear HG
                generalize (l.getD k 0).toNat = c at *
                have hlo' : decide ((c : Int) < 48) = false := by rw [decide_eq_false_iff_not]; omega
                have hhi' : decide ((57 : Int) < (c : Int)) = true := by rw [decide_eq_true_iff]; omega
                go_wp2_with fail
                go_ret
                exact ⟨rfl, rfl⟩
              · have HG2 : Hid (∀ j, j < k + 1 → 48 ≤ (l.getD j 0).toNat ∧ (l.getD j 0).toNat ≤ 57) := Lib.hid (fun j hj => by
                  rcases Nat.lt_or_ge j k with h | h
                  · exact HG.out j h
                  · obtain rfl : j = k := by omega
                    exact ⟨by omega, by omega⟩)
                clear HG
                generalize (l.getD k 0).toNat = c at *
                have hlo' : decide ((c : Int) < 48) = false := by rw [decide_eq_false_iff_not]; omega
                have hhi' : decide ((57 : Int) < (c : Int)) = false := by rw [decide_eq_false_iff_not]; omega
                go_wp2_with fail
                go_roundw
                case rel => exact ⟨k + 1, by omega, by simp, trivial, HG2⟩
                case measure => simp [intOf]; omega
          · exfalso
            refine HEX.out fun c hc => ?_
            obtain ⟨i, hi, rfl⟩ := List.getElem_of_mem hc
            have := HG.out i (by have := HS.out; omega)
            rw [List.getD_eq_getElem?_getD, List.getElem?_eq_getElem hi] at this
            exact this
theorem decG_form {l : List UInt8} (h : DecG (behind l)) (hl : l ≠ [45, 48]) : Form 10 l := by
  refine ⟨h.ne, fun c hc => ?_, ?_⟩
  · have := dval_digit (h.dig c hc)
    exact ⟨this.1, this.2.1⟩
  · rcases h.head with h1 | h1
    · left
      intro e
      apply h1
      cases hb : behind l with
      | nil => exact absurd hb h.ne
      | cons c r => rw [hb] at e; simpa using e
    · by_cases h2 : (behind l).head? = some 48
      · right
        have hb : behind l = [48] := by
          cases hb : behind l with
          | nil => exact absurd hb h.ne
          | cons c r =>
            rw [hb] at h1 h2
            simp at h1 h2
            rw [h1, h2]
        unfold behind at hb
        by_cases hm : l.head? = some 45
        · rw [if_pos hm] at hb
          exfalso
          apply hl
          cases l with
          | nil => simp at hm
          | cons c r => simp at hm hb; rw [hm, hb]
        · rw [if_neg hm] at hb
          exact hb
      · exact .inl h2
set_option maxHeartbeats 400000 in
theorem form_not (l : List UInt8) (hlen : l.length ≤ 2000) (h : ¬ Form 10 l) (w : World) :
    Calls Tryz.prog 186 #[.string (str l)] w fun e w' => e = .returned (.bool false) ∧ w = w' := by
  have HA := Lib.hid (fun w => Abs_any l w)
  have hbl : (behind l).length ≤ 2000 := by
    unfold behind
    split
    · rw [List.length_tail]; omega
    · exact hlen
  by_cases hd : DecG (behind l)
  · have hl : l = [45, 48] := Decidable.byContradiction fun hl => h (decG_form hd hl)
    have HB : Hid (((str l).toList == [45, 48]) = true) := Lib.hid (by rw [Lib.toList_data, str_data, hl]; rfl)
    have HD := Lib.hid (fun w => digits_decg _ hd w)
    clear h hd hl hbl hlen
    generalize str (behind l) = SB at *
    generalize str l = S at *
    go_enter Tryz.func186, Tryz.ntmps186
    go_wp2_with fail
    refine (HA.out _).mono ?_
    rintro e w' ⟨rfl, rfl⟩
    go_wp2_with fail
    refine (HD.out _).mono ?_
    rintro e w' ⟨rfl, rfl⟩
    go_wp2_with fail
    rw [HB.out]
    go_wp2_with fail
    go_ret
    exact ⟨rfl, rfl⟩
  · have HD := Lib.hid (fun w => digits_not _ hbl hd w)
    clear h hd hbl hlen
    generalize str (behind l) = SB at *
    generalize str l = S at *
    go_enter Tryz.func186, Tryz.ntmps186
    go_wp2_with fail
    refine (HA.out _).mono ?_
    rintro e w' ⟨rfl, rfl⟩
    go_wp2_with fail
    refine (HD.out _).mono ?_
    rintro e w' ⟨rfl, rfl⟩
    go_wp2_with fail
    go_ret
    exact ⟨rfl, rfl⟩
set_option maxHeartbeats 400000 in
theorem form_long (x : Int) (hx : (Wh.decN x.natAbs).length ≤ 2000) (w : World) :
    Calls Tryz.prog 186 #[txt x] w fun e w' => e = .returned (.bool true) ∧ w = w' := by
  have hb : ((str (Wh.decI x)).toList == [45, 48]) = false := by
    rw [Lib.toList_data, str_data, beq_eq_false_iff_ne]
    intro e
    have := dec_form x
    rw [e] at this
    rcases this.lead with h | h <;> revert h <;> decide
  have HA := Lib.hid (fun w => Abs_txt x w)
  have HD := Lib.hid (fun w => digits_decg _ (decG_of _ hx) w)
  have HB := Lib.hid hb; clear hb hx
  unfold txt at *
  go_enter Tryz.func186, Tryz.ntmps186
  go_wp2_with fail
  refine (HA.out _).mono ?_
  rintro e w' ⟨rfl, rfl⟩
  go_wp2_with fail
  refine (HD.out _).mono ?_
  rintro e w' ⟨rfl, rfl⟩
  go_wp2_with fail
  rw [HB.out]
  go_wp2_with fail
  go_ret
  exact ⟨rfl, rfl⟩
set_option maxHeartbeats 400000 in
theorem Check_not (l : List UInt8) (c : Int) (hlen : l.length ≤ 2000) (h : Bad l c) (w : World) :
    Calls Tryz.prog 100 #[.string (str l)] w fun e w' => e = .returned (.int .i64 c) ∧ w = w' := by
  rcases h with ⟨h, rfl⟩ | ⟨x, rfl, h, rfl⟩
  · have HF := Lib.hid (fun w => form_not l hlen h w)
    clear h hlen
    generalize str l = S at *
    go_enter Tryz.func100, Tryz.ntmps100
    go_wp2_with fail
    refine (HF.out _).mono ?_
    rintro e w' ⟨rfl, rfl⟩
    go_wp2_with fail
    go_ret
    exact ⟨rfl, rfl⟩
  · have HF := Lib.hid (fun w => form_long x (Nat.le_trans (decI_len x) hlen) w)
    have HA := Lib.hid (fun w => Abs_txt x w)
    have hs : decide ((400 : Int) < ((str (Wh.decN x.natAbs)).size : Nat)) = true := by rw [decide_eq_true_iff]; show (400 : Int) < ((Wh.decN x.natAbs).length : Nat); unfold Valid at h; omega
    have hs2 : (str (Wh.decN x.natAbs)).size ≤ 2000 := Nat.le_trans (decI_len x) hlen
    clear h hlen
    unfold txt at *
    generalize str (Wh.decN x.natAbs) = S' at *
    generalize str (Wh.decI x) = S at *
    go_enter Tryz.func100, Tryz.ntmps100
    go_wp2_with fail
    refine (HF.out _).mono ?_
    rintro e w' ⟨rfl, rfl⟩
    go_wp2_with fail
    refine (HA.out _).mono ?_
    rintro e w' ⟨rfl, rfl⟩
    go_wp2_with fail
    go_ret
    exact ⟨rfl, rfl⟩
end Go.Proofs.YteaeloeebfdodaaGreatDoor

namespace Go.Proofs.YteaeloeebfdodaaGreatDoor
open Go.RowKit Go.Proofs.Rf
theorem own_new (w : World) (c : Nat) (ch : UInt8) (h : ch.toNat = c) (t : TypeId) : OwnB (w.alloc (Obj.cells #[Value.int IntKind.u8 (c : Int)] t)) w.heap.size [ch] := by
  subst h
  refine ⟨by simp, fun i hi => ?_, fun i hi => ?_⟩
  · obtain rfl : i = 0 := by simpa using hi
    rw [show ([ch].getD 0 0) = ch from rfl]
    go_simp
  · obtain rfl : i = 0 := by simpa using hi
    go_simp
theorem wr64 (n : Int) (h : -9223372036854775808 ≤ n ∧ n ≤ 9223372036854775807) : wrap64 n = n := by unfold wrap64; omega
theorem ext_size (s : ByteArray) (i j : Nat) (h1 : i ≤ j) (h2 : j ≤ s.size) : (s.extract i j).size = j - i := by
  rw [ByteArray.size_extract]; omega
set_option maxRecDepth 100000 in
set_option maxHeartbeats 4000000 in
theorem Spoilt_ix (S : ByteArray) (i c : Nat) (ch : UInt8) (hch : ch.toNat = c) (A H : Int) (hm : S.size ≤ 5000) (hi : i < S.size) (hA : (A.tmod (S.size : Int) = i ∧ ¬ A.tmod (S.size : Int) < 0) ∨ (A.tmod (S.size : Int) < 0 ∧ A.tmod (S.size : Int) + S.size = i)) (w : World) :
    Calls Tryz.prog 46 #[.string S, .int .i64 A, .int .i64 H, .int .u8 c] w fun e w' => (∃ B : ByteArray, e = .returned (.string B) ∧ B.size ≤ S.size + 1) ∧ Below w.heap.size w w' := by
  have hz0 : (((S.size : Nat) : Int) == 0) = false := by rw [beq_eq_false_iff_ne]; omega
  have hzz : ¬ ((S.size : Nat) : Int) = 0 := by omega
  have sP : (S.extract 0 i).size = i := by rw [ext_size _ _ _ (by omega) (by omega)]; omega
  have sQ1 : (S.extract (i + 1) S.size).size = S.size - (i + 1) := by rw [ext_size _ _ _ (by omega) (by omega)]
  have sQ0 : (S.extract i S.size).size = S.size - i := by rw [ext_size _ _ _ (by omega) (by omega)]
  have hi0 : (i : Int) ≤ (S.size : Nat) := by omega
  have hi1 : (i : Int) + 1 ≤ (S.size : Nat) := by omega
  have hsC : (str [ch]).size = 1 := rfl
  have hz1 : (S.extract 0 i ++ S.extract (i + 1) S.size).size ≤ S.size + 1 := by rw [ByteArray.size_append, sP, sQ1]; omega
  have hz2 : (S.extract 0 i ++ str [ch] ++ S.extract (i + 1) S.size).size ≤ S.size + 1 := by rw [ByteArray.size_append, ByteArray.size_append, sP, sQ1, hsC]; omega
  have hz3 : (S.extract 0 i ++ str [ch] ++ S.extract i S.size).size ≤ S.size + 1 := by rw [ByteArray.size_append, ByteArray.size_append, sP, sQ0, hsC]; omega
  have HZ := Lib.hid (And.intro hz1 (And.intro hz2 hz3)); clear hz1 hz2 hz3
  have hown := own_new w c ch hch 5
  have hcv := run_string_back (hown.mono (B := w.heap.size + 1) (Below.refl _ _).drew (Nat.lt_succ_self _)) 1 1 rfl
  have mixed : Tryz.prog.follows Departure.mixedOrders = true := by kernel_rfl
  rcases hA with ⟨hE, hs⟩ | ⟨hs, hE0⟩
  case' inl =>
    have hsg : decide (A.tmod (S.size : Int) < 0) = false := decide_eq_false hs
  case' inr =>
    have hsg : decide (A.tmod (S.size : Int) < 0) = true := decide_eq_true hs
    have hE : wrap64 (A.tmod (S.size : Int) + (S.size : Int)) = i := by rw [hE0]; exact wr64 _ (by omega)
    clear hE0
  all_goals
    clear hs
    by_cases hH : H.tmod 3 < 0
    case' pos => have hhg : decide (H.tmod 3 < 0) = true := decide_eq_true hH
    case' neg => have hhg : decide (H.tmod 3 < 0) = false := decide_eq_false hH
  all_goals clear hH
  all_goals
    · go_enter Tryz.func46, Tryz.ntmps46
      go_wp2_with fail
      all_goals try simp only [hE]
      · go_region_o
        go_wp2
        go_ret
        exact ⟨⟨_, rfl, HZ.out.2.1⟩, (Below.refl w.heap.size w).alloc (Nat.le_refl _) _ |>.trans (Below.refl _ _).drew⟩
      · go_quiet (fail)
        go_wp2
        go_ret
        exact ⟨⟨_, rfl, HZ.out.1⟩, below_drewN _ _ _⟩
      · go_region_o
        go_wp2
        go_ret
        exact ⟨⟨_, rfl, HZ.out.2.2⟩, (Below.refl w.heap.size w).alloc (Nat.le_refl _) _ |>.trans (Below.refl _ _).drew⟩
set_option maxRecDepth 100000 in
set_option maxHeartbeats 1000000 in
theorem Spoilt_any (S : ByteArray) (c : Nat) (hc : c < 256) (A H : Int) (hm : S.size ≤ 5000) (w : World) :
    Calls Tryz.prog 46 #[.string S, .int .i64 A, .int .i64 H, .int .u8 c] w fun e w' => (∃ l : List UInt8, e = .returned (.string (str l)) ∧ l.length ≤ S.size + 1) ∧ Below w.heap.size w w' := by
  have hch : (UInt8.ofNat c).toNat = c := by rw [UInt8.toNat_ofNat']; omega
  by_cases h0 : S.size = 0
  · have hz0 : (((S.size : Nat) : Int) == 0) = true := by rw [h0]; rfl
    have HB := Lib.hid (own_new w c (UInt8.ofNat c) hch 5)
    clear hch
    go_enter Tryz.func46, Tryz.ntmps46
    go_wp2
    rw [run_string_back HB.out 1 1 rfl]
    go_wp2
    go_ret
    exact ⟨⟨[UInt8.ofNat c], rfl, by simp⟩, (Below.refl w.heap.size w).alloc (Nat.le_refl _) _⟩
  · have h1 := Int.tmod_lt_of_pos A (b := (S.size : Int)) (by omega)
    have h2 := Int.lt_tmod_of_pos A (b := (S.size : Int)) (by omega)
    have hA : ∃ i : Nat, i < S.size ∧ ((A.tmod (S.size : Int) = i ∧ ¬ A.tmod (S.size : Int) < 0) ∨ (A.tmod (S.size : Int) < 0 ∧ A.tmod (S.size : Int) + S.size = i)) := by
      generalize A.tmod (S.size : Int) = M at *
      by_cases hM : M < 0
      · exact ⟨(M + S.size).toNat, by omega, .inr ⟨hM, by omega⟩⟩
      · exact ⟨M.toNat, by omega, .inl ⟨by omega, hM⟩⟩
    obtain ⟨i, hi, hA⟩ := hA
    refine (Spoilt_ix S i c _ hch A H hm hi hA w).mono ?_
    rintro e w' ⟨⟨B, rfl, hB⟩, hb⟩
    exact ⟨⟨B.data.toList, by rw [← eq_str (s := B) rfl], hB⟩, hb⟩
end Go.Proofs.YteaeloeebfdodaaGreatDoor

namespace Go.Proofs.YteaeloeebfdodaaGreatDoor
open Go.RowKit Go.Proofs.Rf
set_option maxHeartbeats 400000 in
theorem width_from (s : ByteArray) (sg : Int) (d : List UInt8) (b : Nat) (w : World) (hsp : ∀ w, Calls Tryz.prog 204 #[.string s, .int .i64 b] w fun e w' => e = .returned (.tuple #[.int .i64 sg, .string (str d)]) ∧ Below w.heap.size w w') :
    Calls Tryz.prog 121 #[.string s, .int .i64 b] w fun e w' => e = .returned (.int .i64 d.length) ∧ Below w.heap.size w w' := by
  have HSP := Lib.hid hsp; clear hsp
  go_enter Tryz.func121, Tryz.ntmps121
  go_wp2_with fail
  refine (HSP.out _).mono ?_
  rintro e w1 ⟨rfl, hb1⟩
  go_wp2
  go_ret
  exact ⟨rfl, hb1⟩
theorem numB_append (b : Nat) (x y : List UInt8) : numB b (x ++ y) = numB b x * b ^ y.length + numB b y := by
  have h : ∀ (y : List UInt8) (a : Nat), y.foldl (fun a c => a * b + dval c.toNat) a = a * b ^ y.length + y.foldl (fun a c => a * b + dval c.toNat) 0 := by
    intro y
    induction y with
    | nil => intro a; simp
    | cons c r ih =>
      intro a
      rw [List.foldl_cons, List.foldl_cons, ih, ih (0 * b + dval c.toNat), List.length_cons, Nat.pow_succ, Nat.zero_mul, Nat.zero_add, Nat.add_mul, Nat.mul_assoc, Nat.mul_comm b, Nat.add_assoc]
  show (x ++ y).foldl _ 0 = _
  rw [List.foldl_append, h]
  rfl
theorem numB_part (b k m : Nat) (d : List UInt8) (h : k + m ≤ d.length) : numB b (d.take (k + m)) = numB b (d.take k) * b ^ m + numB b ((d.drop k).take m) := by
  rw [List.take_add, numB_append, List.length_take, List.length_drop, Nat.min_eq_left (by omega)]
theorem digs_part {b : Nat} {d : List UInt8} (h : Digs b d) (k m : Nat) : Digs b ((d.drop k).take m) := fun c hc => h c (List.mem_of_mem_drop (List.mem_of_mem_take hc))
theorem sl_of_own {W : World} {base : Nat} {v : Value} {l : List Nat} (h : W.ownsRow base 181 1 v l.length (u32s l)) : Sl W v l := by
  rcases h.2 with ⟨rfl, hn⟩ | ⟨g, cap, cur, rfl, hg, hh, hnc, hcm, hcs, htake⟩
  · exact .inl ⟨List.length_eq_zero_iff.1 hn, rfl⟩
  · refine .inr ⟨g, 0, cap, rfl, hnc, (Array.getElem?_eq_some_iff.1 hh).1, fun i hi => ?_⟩
    have e : (u32s l)[i]? = cur.toList[i]? := by rw [← htake, Nat.mul_one, List.getElem?_take_of_lt hi]
    rw [Nat.zero_add]
    have e2 : W.cell? ⟨g, i, none⟩ = cur[i]? := by simp [World.cell?, hh]
    rw [e2, ← Array.getElem?_toList, ← e, List.getElem?_map, List.getElem?_eq_getElem hi]
    simp [List.getD, hi]
def szOf : Value → Nat
  | .string s => s.size
  | _ => 0
set_option maxRecDepth 100000 in
set_option maxHeartbeats 1000000 in
theorem ofbase_from (s : ByteArray) (sg : Int) (d : List UInt8) (b : Nat) (w : World) (hsp : ∀ w, Calls Tryz.prog 204 #[.string s, .int .i64 b] w fun e w' => e = .returned (.tuple #[.int .i64 sg, .string (str d)]) ∧ Below w.heap.size w w')
    (hb : 2 ≤ b ∧ b ≤ 36) (hd : Digs b d) (hm : d.length ≤ 1329) (hsg : sg = -1 ∨ sg = 1) :
    Calls Tryz.prog 122 #[.string s, .int .i64 b] w fun e w' => (∃ v', e = .returned v' ∧ Num w' v' (sg * (numB b d : Int))) ∧ Below w.heap.size w w' := by
  have HSP := Lib.hid hsp; clear hsp
  have HD := Lib.hid hd; clear hd
  have HSG := Lib.hid hsg; clear hsg
  have hsz : (str d).size = d.length := rfl
  generalize hL : d.length = L at *
  have HL := Lib.hid hL; clear hL
  have htg := tog_le b
  have htg1 : 1 ≤ togN b := by unfold togN; split <;> (try split) <;> (try split) <;> (try split) <;> omega
  go_enter Tryz.func122, Tryz.ntmps122
  go_wp2_with fail
  refine (HSP.out _).mono ?_
  rintro e w1 ⟨rfl, hb1⟩
  have HB1 := Lib.hid hb1; clear hb1
  go_wp2_with fail
  refine (together_any _ b hb.2).mono ?_
  rintro e w2 ⟨rfl, rfl⟩
  generalize hT : togN b = T at *
  have HT := Lib.hid hT; clear hT
  have hB1 : Below (w.heap.size + 1) (w.alloc (Obj.cells #[Value.int IntKind.i64 0, Value.slice none 0 0] 83)) w1 := by simpa using HB1.out
  have hO1 : w1.ownsRow (w.heap.size + 1) 181 1 (.slice none 0 0) ([] : List Nat).length (u32s []) := World.ownsRow_nil _ _ _ _
  have HI0 : Hid (w1.ownsRow (w.heap.size + 1) 181 1 (.slice none 0 0) ([] : List Nat).length (u32s []) ∧ Wh.Ok [] ∧ Wh.val [] = numB b (d.take 0) ∧ ([] : List Nat).length ≤ 0 ∧ Below (w.heap.size + 1) (w.alloc (Obj.cells #[Value.int IntKind.i64 0, Value.slice none 0 0] 83)) w1) :=
    Lib.hid ⟨hO1, (fun x hx => absurd hx (by simp)), rfl, Nat.le_refl _, hB1⟩
  clear hB1 hO1 HB1
  go_wp2_with fail
  go_loopw [6, 7, 8] (fun dg lv ct wr => ∃ k c : Nat, ∃ l : List Nat, k ≤ L ∧ dg = .string (str (d.drop k)) ∧ ct = .int .i64 c ∧ 1 ≤ c ∧ c ≤ T ∧ Hid (wr.ownsRow (w.heap.size + 1) 181 1 lv l.length (u32s l) ∧ Wh.Ok l ∧ Wh.val l = numB b (d.take k) ∧ l.length ≤ k ∧ Below (w.heap.size + 1) (w.alloc (Obj.cells #[Value.int IntKind.i64 0, Value.slice none 0 0] 83)) wr)) (fun dg _ _ _ => szOf dg)
  case atStart => exact ⟨0, T, [], Nat.zero_le _, rfl, rfl, htg1, Nat.le_refl _, HI0⟩
  case round =>
    obtain ⟨k, c, l, hk, rfl, rfl, hc1, hc2, HI⟩ := hrel
    obtain ⟨sa, sc, rfl⟩ := own_sl HI.out.1
    have hdl : (d.drop k).length = L - k := by rw [List.length_drop, HL.out]
    have hsd : (str (d.drop k)).size = L - k := hdl
    by_cases hlt : k < L
    · have hne : ((str (d.drop k)).toList == []) = false := by
        rw [Lib.toList_data, str_data, beq_eq_false_iff_ne]
        intro e
        rw [e] at hdl
        simp at hdl
        omega
      obtain ⟨m, hm⟩ : ∃ m, m = min c (L - k) := ⟨_, rfl⟩
      have hm1 : 1 ≤ m ∧ m ≤ c ∧ k + m ≤ L := by omega
      have hx1 : (str (d.drop k)).extract 0 m = str ((d.drop k).take m) := eq_str (by rw [Lib.extract_data, str_data]; simp)
      have hx2 : (str (d.drop k)).extract m (L - k) = str (d.drop (k + m)) := eq_str (by rw [← hsd, Lib.extract_to_end, str_data, List.drop_drop])
      have hmin : min (c : Int) ((L - k : Nat) : Int) = (m : Int) := by omega
      have hpl : ((d.drop k).take m).length ≤ togN b := by rw [List.length_take, HT.out]; omega
      have hpm : ((d.drop k).take m).length = m := by rw [List.length_take, hdl]; omega
      have hBs : w.heap.size + 1 ≤ wr.heap.size := by have := HI.out.2.2.2.2.size; simpa using this
      have HAD := Lib.hid (appendDigits_any wr (w.heap.size + 1) b _ l _ HI.out.1 HI.out.2.1 (by have := HI.out.2.2.2.1; omega) hb (digs_part HD.out k m) hpl hBs)
      have hnp := numB_part b k m d (by rw [HL.out]; exact hm1.2.2)
      rw [hpm] at HAD
      have HNP := Lib.hid hnp; clear hnp hpl hpm
      have hml : m ≤ L - k := by omega
      have hmz : (m : Int).toNat = m := by simp
      clear hdl hm
      go_wp2_with fail
      refine HAD.out.mono ?_
      rintro e w3 ⟨⟨v', l', rfl, ho', hok', hv', hln'⟩, hb3⟩
      have HN2 : Hid (w3.ownsRow (w.heap.size + 1) 181 1 v' l'.length (u32s l') ∧ Wh.Ok l' ∧ Wh.val l' = numB b (d.take (k + m)) ∧ l'.length ≤ k + m ∧ Below (w.heap.size + 1) (w.alloc (Obj.cells #[Value.int IntKind.i64 0, Value.slice none 0 0] 83)) w3) :=
        Lib.hid ⟨ho', hok', by rw [hv', HI.out.2.2.1, HNP.out], by have := HI.out.2.2.2.1; omega, HI.out.2.2.2.2.trans hb3⟩
      clear ho' hok' hv' hln' hb3 HAD
      go_wp2_with fail
      refine ⟨⟨k + m, m, l', hm1.2.2, rfl, rfl, by omega, by omega, HN2⟩, ?_⟩
      show (d.drop (k + m)).length < (d.drop k).length
      rw [List.length_drop, List.length_drop, HL.out]
      omega
    · obtain rfl : k = L := by omega
      have hne : ((str (d.drop k)).toList == []) = true := by
        rw [Lib.toList_data, str_data, beq_iff_eq]
        exact List.drop_eq_nil_of_le (by rw [HL.out]; exact Nat.le_refl _)
      obtain ⟨ho, hok, hv, hln, hbw⟩ := HI.out
      rw [← HL.out, List.take_length] at hv
      have hsl := sl_of_own ho
      have HSL := Lib.hid hsl
      have HV := Lib.hid hv
      have HBW := Lib.hid hbw
      clear hsl hv hbw ho HI hdl hsd
      go_wp2_with fail
      refine (signed_len sg _ l _ hok HSL.out (by omega) (by rcases HSG.out with h | h; exact .inl h; exact .inr (.inl h))).mono ?_
      rintro e w2 ⟨⟨v', rfl, hnum⟩, hb2⟩
      rw [HV.out] at hnum
      obtain ⟨x, hx⟩ : ∃ x : Int, x = sg * (numB b d : Int) := ⟨_, rfl⟩
      rw [← hx] at hnum
      have HX := Lib.hid hx; clear hx
      obtain ⟨sl, rfl, hsl⟩ := hnum
      obtain ⟨xa, xc, rfl⟩ := hsl.len
      have hw2 : Below (w.heap.size + 1) (w.alloc (Obj.cells #[Value.int IntKind.i64 0, Value.slice none 0 0] 83)) w2 := HBW.out.trans (hb2.mono (by have := HBW.out.size; simpa using this))
      obtain ⟨k0, k1, g0, g1⟩ := res_keep rfl hw2
      have hbb : Below w.heap.size w w2 := ((Below.refl _ _).alloc (Nat.le_refl _) _).trans (hw2.mono (Nat.le_succ _))
      clear hb2 hw2
      go_wp2
      have hfin := two_cells w2 w.heap.size (.int .i64 (Int.sign x)) (.slice xa (Wh.limbs x.natAbs).length xc) k0 k1
      exact bodyPost_ret (v := .agg #[.int .i64 (Int.sign x), .slice xa (Wh.limbs x.natAbs).length xc]) (by simp [results, Tryz.results122, go_sem, hfin.1, hfin.2]) rfl ⟨⟨_, rfl, by rw [← HX.out]; exact ⟨_, rfl, hsl.store2 _ k0 k1 _ _⟩⟩, (hbb.setCell (Nat.le_refl _) _).setCell (Nat.le_refl _) _⟩
end Go.Proofs.YteaeloeebfdodaaGreatDoor

namespace Go.Proofs.YteaeloeebfdodaaGreatDoor
open Go.RowKit Go.Proofs.Rf
set_option maxRecDepth 100000 in
set_option maxHeartbeats 1000000 in
theorem frombase_work (w : World) (pa pb : Addr) (s : ByteArray) (sg : Int) (d : List UInt8) (b : Nat) (ha : w.cell? pa = some (.int .i64 b)) (hb : w.cell? pb = some (.string s)) (hla : pa.block < w.heap.size) (hlb : pb.block < w.heap.size)
    (hsp : ∀ w, Calls Tryz.prog 204 #[.string s, .int .i64 b] w fun e w' => e = .returned (.tuple #[.int .i64 sg, .string (str d)]) ∧ Below w.heap.size w w')
    (hb2 : 2 ≤ b ∧ b ≤ 36) (hd : Digs b d) (hm : d.length ≤ 1329) (hsg : sg = -1 ∨ sg = 1) (z : Int) (hz : sg * (numB b d : Int) = z) (hv : Valid z) (htab : Tab w) :
    Calls Tryz.prog 120 #[.pointer (some pa), .pointer (some pb)] w fun e w' => e = .returned (txt z) ∧ Below w.heap.size w w' := by
  have g1 : decide (2 ≤ (b : Int)) = true := by rw [decide_eq_true_iff]; omega
  have g2 : decide ((b : Int) ≤ 36) = true := by rw [decide_eq_true_iff]; omega
  have g3 : decide ((d.length : Int) ≤ 1329) = true := by rw [decide_eq_true_iff]; omega
  have HW := Lib.hid (fun w => width_from s sg d b w hsp)
  have HO := Lib.hid (fun w => ofbase_from s sg d b w hsp hb2 hd hm hsg)
  have HZ := Lib.hid hz; have HV := Lib.hid hv; have HT := Lib.hid htab
  clear hsp hd hm hsg hz hv htab hb2
  generalize d.length = L at *
  go_enter Tryz.func120, Tryz.ntmps120
  go_wp2_with fail
  refine (demand_yes _ _).mono ?_
  rintro e w1 ⟨rfl, rfl⟩
  go_wp2_with fail
  refine (HW.out _).mono ?_
  rintro e w2 ⟨rfl, hB2⟩
  go_wp2_with fail
  refine (demand_yes _ _).mono ?_
  rintro e w3 ⟨rfl, rfl⟩
  have ka := (hB2.cell hla).trans ha
  have kb := (hB2.cell hlb).trans hb
  go_wp2_with fail
  refine (HO.out _).mono ?_
  rintro e w4 ⟨⟨v', rfl, hn⟩, hB4⟩
  rw [HZ.out] at hn
  have HB4 := Lib.hid (hB2.trans (hB4.mono hB2.size))
  obtain ⟨sl, rfl, hsl⟩ := hn
  obtain ⟨xa, xc, rfl⟩ := hsl.len
  have HWT := Lib.hid (wtext_any w4 _ z ⟨_, rfl, hsl⟩ (HT.out.mono HB4.out) HV.out)
  clear hsl
  generalize z.sign = zs at *
  generalize (Wh.limbs z.natAbs).length = zl at *
  unfold txt at *
  go_wp2_with fail
  refine HWT.out.mono ?_
  rintro e w5 ⟨rfl, hb5⟩
  go_wp2
  go_ret
  exact ⟨rfl, HB4.out.trans (hb5.mono HB4.out.size)⟩
set_option maxHeartbeats 400000 in
theorem FromBase_any (w : World) (s : ByteArray) (sg : Int) (d : List UInt8) (b : Nat)
    (hsp : ∀ w, Calls Tryz.prog 204 #[.string s, .int .i64 b] w fun e w' => e = .returned (.tuple #[.int .i64 sg, .string (str d)]) ∧ Below w.heap.size w w')
    (hb2 : 2 ≤ b ∧ b ≤ 36) (hd : Digs b d) (hm : d.length ≤ 1329) (hsg : sg = -1 ∨ sg = 1) (z : Int) (hz : sg * (numB b d : Int) = z) (hv : Valid z) (htab : Tab w) :
    Calls Tryz.prog 38 #[.string s, .int .i64 b] w fun e w' => e = .returned (.tuple #[txt z, .int .i64 0]) ∧ Below w.heap.size w w' := by
  have hmf : ∀ (fn : Fn) (first cap : Array Value) (w : World), (Instr.makeFunc fn first cap).run Tryz.prog w = .ok (.func fn first cap) w := fun _ _ _ _ => rfl
  have hat := fun (w : World) (pa pb : Addr) (ka : w.cell? pa = some (.int .i64 b)) (kb : w.cell? pb = some (.string s)) (htab : Tab w) (ha : pa.block < w.heap.size) (hb : pb.block < w.heap.size) => attempt_good 120 #[.pointer (some pa), .pointer (some pb)] (str (Wh.decI z)) w (fun w => by kernel_rfl) (fun w' hb' => frombase_work w' pa pb s sg d b ((hb'.cell ha).trans ka) ((hb'.cell hb).trans kb) (Nat.lt_of_lt_of_le ha hb'.size) (Nat.lt_of_lt_of_le hb hb'.size) hsp hb2 hd hm hsg z hz hv (htab.mono hb'))
  have HAT := Lib.hid hat; clear hat
  have HTB := Lib.hid htab; clear htab
  clear hsp hb2 hd hm hsg hz hv
  unfold txt at *
  go_enter Tryz.func38, Tryz.ntmps38
  go_wp2_with fail
  have hal : Below w.heap.size w ((w.alloc (.cells #[.string s] 9)).alloc (.cells #[.int .i64 b] 3)) := ((Below.refl _ _).alloc (Nat.le_refl _) _).alloc (by simp) _
  have b0 : ((w.alloc (.cells #[.string s] 9)).alloc (.cells #[.int .i64 b] 3)).cell? ⟨w.heap.size, 0, none⟩ = some (.string s) := by go_simp
  have b1 : ((w.alloc (.cells #[.string s] 9)).alloc (.cells #[.int .i64 b] 3)).cell? ⟨w.heap.size + 1, 0, none⟩ = some (.int .i64 b) := by go_simp
  refine (HAT.out _ _ _ b1 b0 (HTB.out.mono hal) (by simp) (by simp; omega)).mono ?_
  rintro e w2 ⟨rfl, hb2⟩
  have hbb := hal.trans (hb2.mono hal.size)
  clear hal b0 b1 hb2
  go_wp2
  go_ret2
  exact ⟨rfl, hbb⟩
end Go.Proofs.YteaeloeebfdodaaGreatDoor

namespace Go.Proofs.YteaeloeebfdodaaGreatDoor
open Go.RowKit Go.Proofs.Rf
def dgs (b n : Nat) : List UInt8 := ((Wh.dg b n).map charU).reverse
theorem dgs_zero (b : Nat) : dgs b 0 = [] := by rw [dgs, Wh.dg_zero]; rfl
theorem dgs_pos {b n : Nat} (hb : 2 ≤ b) (hn : 0 < n) : dgs b n = dgs b (n / b) ++ [charU (n % b)] := by
  rw [dgs, Wh.dg_pos hb hn, List.map_cons, List.reverse_cons]; rfl
theorem charU_facts : ∀ d : Fin 36, (charU d.val).toNat < 128 ∧ dval (charU d.val).toNat = d.val ∧ charU d.val ≠ 45 ∧ (d.val ≠ 0 → charU d.val ≠ 48) := by decide
theorem charU_at {b d : Nat} (hb : b ≤ 36) (hd : d < b) : (charU d).toNat < 128 ∧ dval (charU d).toNat = d ∧ charU d ≠ 45 ∧ (d ≠ 0 → charU d ≠ 48) := charU_facts ⟨d, by omega⟩
theorem dgs_head {b : Nat} (hb : 2 ≤ b ∧ b ≤ 36) (n : Nat) (hn : 0 < n) : ∃ c r, dgs b n = c :: r ∧ c ≠ 48 ∧ c ≠ 45 := by
  induction n using Nat.strongRecOn with
  | ind n ih =>
    rw [dgs_pos hb.1 hn]
    rcases Nat.eq_zero_or_pos (n / b) with h | h
    · rw [h, dgs_zero]
      have hlt : n < b := (Nat.div_eq_zero_iff_lt (by omega)).1 h
      obtain ⟨_, _, h3, h4⟩ := charU_at hb.2 (Nat.mod_lt n (show b > 0 by omega))
      exact ⟨_, [], rfl, h4 (by rw [Nat.mod_eq_of_lt hlt]; omega), h3⟩
    · obtain ⟨c, r, e, h1, h2⟩ := ih _ (Nat.div_lt_self hn (by omega)) h
      exact ⟨c, r ++ [charU (n % b)], by rw [e]; rfl, h1, h2⟩
def inB (b : Nat) (x : Int) : List UInt8 := if x = 0 then [48] else (if x < 0 then [45] else []) ++ dgs b x.natAbs
set_option maxHeartbeats 400000 in
theorem inbase_zero (w : World) (xa : Option Addr) (xn xc b : Nat) :
    Calls Tryz.prog 119 #[.agg #[.int .i64 0, .slice xa xn xc], .int .i64 b] w fun e w' => e = .returned (.string ⟨#[48]⟩) ∧ Below w.heap.size w w' := by
  refine callsIn_wide.1 (callsIn_of_wp_marks (n := 3) Tryz.func119 rfl trivial (wpIn_wide.2 ?_) rfl)
  simp only [Tryz.ntmps119, List.size_toArray, List.length_cons, List.length_nil, Nat.reduceAdd, Nat.reduceSub, Array.replicate_succ, Array.replicate_zero, List.push_toArray, List.append_toArray, List.nil_append, List.cons_append]
  go_wp2_with fail
  exact ⟨.string ⟨#[48]⟩, by simp [results, Tryz.results119, go_sem], rfl, (Below.refl _ _).alloc (Nat.le_refl _) _⟩
end Go.Proofs.YteaeloeebfdodaaGreatDoor

namespace Go.Proofs.YteaeloeebfdodaaGreatDoor
open Go.RowKit
theorem boxSI (w : World) (s : ByteArray) (n : Int) : ((w.alloc (.cells #[.string s] 9)).alloc (.cells #[.int .i64 n] 3)).cell? ⟨w.heap.size, 0, none⟩ = some (.string s) ∧ ((w.alloc (.cells #[.string s] 9)).alloc (.cells #[.int .i64 n] 3)).cell? ⟨w.heap.size + 1, 0, none⟩ = some (.int .i64 n) := ⟨by go_simp, by go_simp⟩
set_option maxRecDepth 100000 in
set_option maxHeartbeats 400000 in
theorem basework_bad (w : World) (pa pb : Addr) (l : List UInt8) (c : Int) (hc : w.cell? pa = some (.string (str l))) (hm : l.length ≤ 80000) (h : Bad l c) :
    Calls Tryz.prog 118 #[.pointer (some pa), .pointer (some pb)] w fun e w' => e = .panicked (chainOf c) ∧ Below w.heap.size w w' := by
  have H1 := Lib.hid (read_bad l c hm h w)
  clear hm h
  generalize str l = s at *
  go_enter Tryz.func118, Tryz.ntmps118
  go_wp2_with fail
  refine H1.out.mono ?_
  rintro e w1 ⟨rfl, hb1⟩
  go_wp2
  exact ⟨rfl, rfl, hb1⟩
set_option maxRecDepth 100000 in
set_option maxHeartbeats 400000 in
theorem basework_lo (w : World) (pa pb : Addr) (x n : Int) (hc : w.cell? pa = some (txt x)) (hd : w.cell? pb = some (.int .i64 n)) (hlb : pb.block < w.heap.size) (h : Valid x) (hn : n < 2) :
    Calls Tryz.prog 118 #[.pointer (some pa), .pointer (some pb)] w fun e w' => e = .panicked (chainOf 2) ∧ Below w.heap.size w w' := by
  have H1 := Lib.hid (read_any x h w)
  have hlo : decide ((2 : Int) ≤ n) = false := by rw [decide_eq_false_iff_not]; omega
  clear h
  unfold txt at *
  generalize str (Wh.decI x) = s at *
  go_enter Tryz.func118, Tryz.ntmps118
  go_wp2_with fail
  refine H1.out.mono ?_
  rintro e w1 ⟨⟨v1, rfl, hn1⟩, hb1⟩
  obtain ⟨s1, rfl, k1⟩ := hn1
  obtain ⟨p1, c1, rfl⟩ := k1.len
  have hal : Below w1.heap.size w1 (w1.alloc (Obj.cells #[Value.int IntKind.i64 x.sign, Value.slice p1 (Wh.limbs x.natAbs).length c1] 83)) := (Below.refl _ _).alloc (Nat.le_refl _) _
  have hB := hb1.trans (hal.mono hb1.size)
  have kb := (hB.cell hlb).trans hd
  have HB := Lib.hid hB
  have hpb : pb.block < w1.heap.size := Nat.lt_of_lt_of_le hlb hb1.size
  have ka : (w1.alloc (Obj.cells #[Value.int IntKind.i64 x.sign, Value.slice p1 (Wh.limbs x.natAbs).length c1] 83)).cell? ⟨w1.heap.size, 0, none⟩ = some (.int .i64 x.sign) := by go_simp
  have kc : (w1.alloc (Obj.cells #[Value.int IntKind.i64 x.sign, Value.slice p1 (Wh.limbs x.natAbs).length c1] 83)).cell? ⟨w1.heap.size, 1, none⟩ = some (.slice p1 (Wh.limbs x.natAbs).length c1) := by go_simp
  clear hal hB hb1 k1 hc hd
  generalize x.sign = sx at *
  generalize (Wh.limbs x.natAbs).length = nx at *
  go_wp2_with fail
  generalize w1.alloc (Obj.cells #[Value.int IntKind.i64 sx, Value.slice p1 nx c1] 83) = V at *
  refine (demand_no _ _).mono ?_
  rintro e w2 ⟨rfl, rfl⟩
  go_wp2
  exact ⟨rfl, rfl, HB.out⟩
set_option maxRecDepth 100000 in
set_option maxHeartbeats 400000 in
theorem basework_hi (w : World) (pa pb : Addr) (x n : Int) (hc : w.cell? pa = some (txt x)) (hd : w.cell? pb = some (.int .i64 n)) (hlb : pb.block < w.heap.size) (h : Valid x) (hn : 36 < n) :
    Calls Tryz.prog 118 #[.pointer (some pa), .pointer (some pb)] w fun e w' => e = .panicked (chainOf 2) ∧ Below w.heap.size w w' := by
  have H1 := Lib.hid (read_any x h w)
  have hlo : decide ((2 : Int) ≤ n) = true := by rw [decide_eq_true_iff]; omega
  have hhi : decide (n ≤ (36 : Int)) = false := by rw [decide_eq_false_iff_not]; omega
  clear h
  unfold txt at *
  generalize str (Wh.decI x) = s at *
  go_enter Tryz.func118, Tryz.ntmps118
  go_wp2_with fail
  refine H1.out.mono ?_
  rintro e w1 ⟨⟨v1, rfl, hn1⟩, hb1⟩
  obtain ⟨s1, rfl, k1⟩ := hn1
  obtain ⟨p1, c1, rfl⟩ := k1.len
  have hal : Below w1.heap.size w1 (w1.alloc (Obj.cells #[Value.int IntKind.i64 x.sign, Value.slice p1 (Wh.limbs x.natAbs).length c1] 83)) := (Below.refl _ _).alloc (Nat.le_refl _) _
  have hB := hb1.trans (hal.mono hb1.size)
  have kb := (hB.cell hlb).trans hd
  have HB := Lib.hid hB
  have hpb : pb.block < w1.heap.size := Nat.lt_of_lt_of_le hlb hb1.size
  have ka : (w1.alloc (Obj.cells #[Value.int IntKind.i64 x.sign, Value.slice p1 (Wh.limbs x.natAbs).length c1] 83)).cell? ⟨w1.heap.size, 0, none⟩ = some (.int .i64 x.sign) := by go_simp
  have kc : (w1.alloc (Obj.cells #[Value.int IntKind.i64 x.sign, Value.slice p1 (Wh.limbs x.natAbs).length c1] 83)).cell? ⟨w1.heap.size, 1, none⟩ = some (.slice p1 (Wh.limbs x.natAbs).length c1) := by go_simp
  clear hal hB hb1 k1 hc hd
  generalize x.sign = sx at *
  generalize (Wh.limbs x.natAbs).length = nx at *
  go_wp2_with fail
  generalize w1.alloc (Obj.cells #[Value.int IntKind.i64 sx, Value.slice p1 nx c1] 83) = V at *
  refine (demand_no _ _).mono ?_
  rintro e w2 ⟨rfl, rfl⟩
  go_wp2
  exact ⟨rfl, rfl, HB.out⟩
set_option maxRecDepth 100000 in
set_option maxHeartbeats 400000 in
theorem Base_fail (w : World) (s : ByteArray) (n c : Int) (hw : ∀ (w : World) (pa pb : Addr), w.cell? pa = some (.string s) → w.cell? pb = some (.int .i64 n) → pa.block < w.heap.size → pb.block < w.heap.size → Calls Tryz.prog 118 #[.pointer (some pa), .pointer (some pb)] w fun e w' => e = .panicked (chainOf c) ∧ Below w.heap.size w w') (hE : ErrT w) :
    Calls Tryz.prog 37 #[.string s, .int .i64 n] w fun e w' => e = .returned (.tuple #[.string ⟨#[]⟩, .int .i64 c]) ∧ Below w.heap.size w w' := by
  have hmf : ∀ (fn : Fn) (first cap : Array Value) (w : World), (Instr.makeFunc fn first cap).run Tryz.prog w = .ok (.func fn first cap) w := fun _ _ _ _ => rfl
  have HAT := Lib.hid (fun (w : World) (pa pb : Addr) (hc : w.cell? pa = some (.string s)) (hd : w.cell? pb = some (.int .i64 n)) (hl : pa.block < w.heap.size) (hl2 : pb.block < w.heap.size) (hE : ErrT w) => attempt_bad 118 #[.pointer (some pa), .pointer (some pb)] c w hE (fun w => by kernel_rfl) (fun w' hb' => hw w' pa pb ((hb'.cell hl).trans hc) ((hb'.cell hl2).trans hd) (Nat.lt_of_lt_of_le hl hb'.size) (Nat.lt_of_lt_of_le hl2 hb'.size)))
  clear hw
  have HBX := Lib.hid (boxSI w s n)
  go_enter Tryz.func37, Tryz.ntmps37
  go_wp2_with fail
  have hal : Below w.heap.size w ((w.alloc (.cells #[.string s] 9)).alloc (.cells #[.int .i64 n] 3)) := ((Below.refl _ _).alloc (Nat.le_refl _) _).alloc (by simp) _
  refine (HAT.out _ _ _ HBX.out.1 HBX.out.2 (by simp; omega) (by simp) (hE.mono hal)).mono ?_
  rintro e w2 ⟨rfl, hb2⟩
  have hbb := hal.trans (hb2.mono hal.size)
  clear hal hb2
  go_wp2
  go_ret2
  exact ⟨rfl, hbb⟩
theorem Base_bad (w : World) (l : List UInt8) (n c : Int) (hm : l.length ≤ 80000) (h : Bad l c) (hE : ErrT w) :
    Calls Tryz.prog 37 #[.string (str l), .int .i64 n] w fun e w' => e = .returned (.tuple #[.string ⟨#[]⟩, .int .i64 c]) ∧ Below w.heap.size w w' :=
  Base_fail w _ n c (fun w pa pb hc _ _ _ => basework_bad w pa pb l c hc hm h) hE
theorem Base_value (w : World) (x n : Int) (h : Valid x) (hn : n < 2 ∨ 36 < n) (hE : ErrT w) :
    Calls Tryz.prog 37 #[txt x, .int .i64 n] w fun e w' => e = .returned (.tuple #[.string ⟨#[]⟩, .int .i64 2]) ∧ Below w.heap.size w w' := by
  rcases hn with hn | hn
  · exact Base_fail w _ n 2 (fun w pa pb hc hd _ hl => basework_lo w pa pb x n hc hd hl h hn) hE
  · exact Base_fail w _ n 2 (fun w pa pb hc hd _ hl => basework_hi w pa pb x n hc hd hl h hn) hE
end Go.Proofs.YteaeloeebfdodaaGreatDoor
