/- Part 22 of the proofs that laws of package whole answer true at every input and leave the input as it was, where the library's variables start as the text lays them (the texts S7, S8, W13, L1, L2, L3, W14, J1, K1, K2). -/
import Derived.Test.YteggbenhffmijaaGreatDoorZ02
import Derived.Test.YteggbenhffmijaaGreatDoorZ20
import Derived.Laws.RangeAny
import Derived.Test.YteggbenhffmijaaGreatDoorZ05
import Derived.Test.YteggbenhffmijaaGreatDoorZ09
import Derived.Test.YteggbenhffmijaaGreatDoorZ07
import Derived.Test.YteggbenhffmijaaGreatDoorZ18
import Derived.Test.YteggbenhffmijaaGreatDoorZ08
import Derived.Test.YteggbenhffmijaaGreatDoorZ12
import Derived.Test.YteggbenhffmijaaGreatDoorZ11
set_option linter.unusedVariables false
set_option linter.unusedSimpArgs false
/- WALKS, strings 7: split of any text that is no number. -/
namespace Go.Proofs.YteggbenhffmijaaGreatDoor
open Go.RowKit
/-- what stands behind the sign -/
def behind (l : List UInt8) : List UInt8 := if l.head? = some 45 then l.tail else l
/-- the text has the form of a whole number in the base -/
structure FormD (l d : List UInt8) (b : Nat) : Prop where
  ne : d ≠ []
  digs : Digs b d
  lead : d.head? ≠ some 48 ∨ l = [48]
def Form (b : Nat) (l : List UInt8) : Prop := FormD l (behind l) b
set_option maxHeartbeats 400000 in
theorem digitOf_high (c : Nat) (h : 128 ≤ c) (hm : c ≤ 2147483647) (w : World) :
    Calls Tryz.prog 186 #[.int .i32 c] w fun e w' => e = .returned (.int .i64 36) ∧ w = w' := by
  go_enter Tryz.func186, Tryz.ntmps186
  go_wp2
  go_ret
  exact ⟨rfl, rfl⟩
set_option maxRecDepth 100000 in
set_option maxHeartbeats 800000 in
theorem split_bad_true (l d : List UInt8) (base : Nat) (hbs : base ≤ 36) (hcut : ∀ w, Calls Tryz.prog 199 #[.string (str l), .string ⟨#[45]⟩] w fun e w' => e = .returned (.tuple #[.string (str d), .bool true]) ∧ w = w') (hm : d.length ≤ 80000) (hbad : ¬ FormD l d base) (w : World) :
    Calls Tryz.prog 185 #[.string (str l), .int .i64 base] w fun e w' => e = .panicked (chainOf 1) ∧ Below w.heap.size w w' := by
  have HCUT := Lib.hid (hcut w); clear hcut
  have hsz : (str d).size = d.length := rfl
  have hsm : (str d).size ≤ 80000 := hm
  have HSZ := Lib.hid hsz; clear hsz hm
  have HBAD := Lib.hid hbad; clear hbad
  have HL : Hid ((str l).toList = l) := Lib.hid (by rw [Lib.toList_data, str_data])
  generalize str l = full at *
  go_enter Tryz.func185, Tryz.ntmps185
  go_wp2_with fail
  refine (mark_below _).mono ?_
  rintro e w' ⟨rfl, rfl⟩
  go_wp2_with fail
  refine HCUT.out.mono ?_
  rintro e w' ⟨rfl, rfl⟩
  go_wp2_with fail
  by_cases hne : d = []
  · rw [show (!(str d).toList.isEmpty) = false from by rw [Lib.toList_data, str_data, hne]; rfl]
    refine (demand_no _ _).mono ?_
    rintro e w' ⟨rfl, rfl⟩
    go_wp2
    exact ⟨rfl, rfl, Below.refl _ _⟩
  · have hs0 : 0 < (str d).size := by rw [str_size]; exact List.length_pos_iff.2 hne
    rw [show (!(str d).toList.isEmpty) = true from by rw [Lib.toList_data, str_data]; cases d <;> simp_all]
    have HNE := Lib.hid hne; clear hne
    refine (demand_yes _ _).mono ?_
    rintro e w' ⟨rfl, rfl⟩
    go_wp2_with fail
    go_loopw [] (fun wr => ∃ pos : Nat, pos ≤ (str d).size ∧ Hid (∀ i, i < pos → (d.getD i 0).toNat < 128 ∧ dval (d.getD i 0).toNat < base) ∧ wr = w.iter (str d) pos) (fun wr => (str d).size - wr.iterPos w.heap.size)
    case atStart => exact ⟨0, Nat.zero_le _, Lib.hid (fun i h => absurd h (by omega)), rfl⟩
    case round =>
      obtain ⟨pos, hp, HG, rfl⟩ := hrel
      by_cases hlt : pos < (str d).size
      · by_cases hc1 : (d.getD pos 0).toNat < 128
        · have hdec := decode_at d pos (by rw [← HSZ.out]; exact hlt) hc1
          have hnx : ∀ ty, (Instr.next (.pointer (some ⟨w.heap.size, 0, none⟩)) true ty).run Tryz.prog (w.iter (str d) pos) = .ok (.tuple #[.bool true, .int .i64 pos, .int .i32 ((d.getD pos 0).toNat : Nat)]) (w.iter (str d) (pos + 1)) := fun ty => by
            rw [run_next_any w (str d) pos ty hlt, hdec]
          clear hdec
          by_cases hc2 : dval (d.getD pos 0).toNat < base
          · have HG2 : Hid (∀ i, i < pos + 1 → (d.getD i 0).toNat < 128 ∧ dval (d.getD i 0).toNat < base) := Lib.hid (fun i hi => by
              rcases Nat.lt_or_ge i pos with h | h
              · exact HG.out i h
              · obtain rfl : i = pos := by omega
                exact ⟨hc1, hc2⟩)
            clear HG
            generalize (d.getD pos 0).toNat = c at *
            have hdv : decide (dval c < base) = true := by simpa using hc2
            go_wp2_with fail
            refine (digitOf_any c hc1 _).mono ?_
            rintro e w' ⟨rfl, rfl⟩
            go_wp2_with fail
            refine (demand_yes _ _).mono ?_
            rintro e w' ⟨rfl, rfl⟩
            go_wp2
            go_roundw
            case rel => exact ⟨pos + 1, by omega, HG2, rfl⟩
            case measure => simp; omega
          · clear HG
            generalize (d.getD pos 0).toNat = c at *
            have hdv : decide (dval c < base) = false := by simpa using hc2
            go_wp2_with fail
            refine (digitOf_any c hc1 _).mono ?_
            rintro e w' ⟨rfl, rfl⟩
            go_wp2_with fail
            refine (demand_no _ _).mono ?_
            rintro e w' ⟨rfl, rfl⟩
            go_wp2
            exact ⟨rfl, rfl, (Below.refl _ _).alloc (Nat.le_refl _) _⟩
        · clear HG
          obtain ⟨hr1, hr2⟩ := decode_high (str d) pos hlt (by rw [str_get]; omega)
          have hr3 := decode_le (str d) pos
          have hnx := fun ty => run_next_any (P := Tryz.prog) w (str d) pos ty hlt
          generalize (Utf8.decode (str d) pos).1 = c at *
          generalize (Utf8.decode (str d) pos).2 = k at *
          have hdv : decide ((36 : Int) < base) = false := by rw [decide_eq_false_iff_not]; omega
          clear hc1
          go_wp2_with fail
          refine (digitOf_high c hr1 hr3 _).mono ?_
          rintro e w' ⟨rfl, rfl⟩
          go_wp2_with fail
          refine (demand_no _ _).mono ?_
          rintro e w' ⟨rfl, rfl⟩
          go_wp2
          exact ⟨rfl, rfl, (Below.refl _ _).alloc (Nat.le_refl _) _⟩
      · have hnx : ∀ ty, (Instr.next (.pointer (some ⟨w.heap.size, 0, none⟩)) true ty).run Tryz.prog (w.iter (str d) pos) = _ := fun ty => run_next_end w (str d) pos ty hlt
        have hall : Digs base d := fun c hc => by
          obtain ⟨i, hi, rfl⟩ := List.getElem_of_mem hc
          have := HG.out i (by have := HSZ.out; omega)
          rw [List.getD_eq_getElem?_getD, List.getElem?_eq_getElem hi] at this
          exact this
        have hz : ¬ (d.head? ≠ some 48 ∨ l = [48]) := fun h => HBAD.out ⟨HNE.out, hall, h⟩
        have hz1 : d.head? = some 48 := Decidable.byContradiction fun h => hz (.inl h)
        have hz2 : l ≠ [48] := fun h => hz (.inr h)
        have h48 : (((str d)[0]'hs0).toNat : Int) = 48 := by
          rw [str_get d 0 hs0]
          cases d with
          | nil => simp at hz1
          | cons c r => simp at hz1; subst hz1; rfl
        have htl : (full.toList == [48]) = false := by rw [HL.out, beq_eq_false_iff_ne]; exact hz2
        clear HG hall hz hz1 hz2
        go_wp2_with fail
        refine (demand_no _ _).mono ?_
        rintro e w' ⟨rfl, rfl⟩
        go_wp2
        exact ⟨rfl, rfl, (Below.refl _ _).alloc (Nat.le_refl _) _⟩
set_option maxRecDepth 100000 in
set_option maxHeartbeats 800000 in
theorem split_bad_false (l d : List UInt8) (base : Nat) (hbs : base ≤ 36) (hcut : ∀ w, Calls Tryz.prog 199 #[.string (str l), .string ⟨#[45]⟩] w fun e w' => e = .returned (.tuple #[.string (str d), .bool false]) ∧ w = w') (hm : d.length ≤ 80000) (hbad : ¬ FormD l d base) (w : World) :
    Calls Tryz.prog 185 #[.string (str l), .int .i64 base] w fun e w' => e = .panicked (chainOf 1) ∧ Below w.heap.size w w' := by
  have HCUT := Lib.hid (hcut w); clear hcut
  have hsz : (str d).size = d.length := rfl
  have hsm : (str d).size ≤ 80000 := hm
  have HSZ := Lib.hid hsz; clear hsz hm
  have HBAD := Lib.hid hbad; clear hbad
  have HL : Hid ((str l).toList = l) := Lib.hid (by rw [Lib.toList_data, str_data])
  generalize str l = full at *
  go_enter Tryz.func185, Tryz.ntmps185
  go_wp2_with fail
  refine (mark_below _).mono ?_
  rintro e w' ⟨rfl, rfl⟩
  go_wp2_with fail
  refine HCUT.out.mono ?_
  rintro e w' ⟨rfl, rfl⟩
  go_wp2_with fail
  by_cases hne : d = []
  · rw [show (!(str d).toList.isEmpty) = false from by rw [Lib.toList_data, str_data, hne]; rfl]
    refine (demand_no _ _).mono ?_
    rintro e w' ⟨rfl, rfl⟩
    go_wp2
    exact ⟨rfl, rfl, Below.refl _ _⟩
  · have hs0 : 0 < (str d).size := by rw [str_size]; exact List.length_pos_iff.2 hne
    rw [show (!(str d).toList.isEmpty) = true from by rw [Lib.toList_data, str_data]; cases d <;> simp_all]
    have HNE := Lib.hid hne; clear hne
    refine (demand_yes _ _).mono ?_
    rintro e w' ⟨rfl, rfl⟩
    go_wp2_with fail
    go_loopw [] (fun wr => ∃ pos : Nat, pos ≤ (str d).size ∧ Hid (∀ i, i < pos → (d.getD i 0).toNat < 128 ∧ dval (d.getD i 0).toNat < base) ∧ wr = w.iter (str d) pos) (fun wr => (str d).size - wr.iterPos w.heap.size)
    case atStart => exact ⟨0, Nat.zero_le _, Lib.hid (fun i h => absurd h (by omega)), rfl⟩
    case round =>
      obtain ⟨pos, hp, HG, rfl⟩ := hrel
      by_cases hlt : pos < (str d).size
      · by_cases hc1 : (d.getD pos 0).toNat < 128
        · have hdec := decode_at d pos (by rw [← HSZ.out]; exact hlt) hc1
          have hnx : ∀ ty, (Instr.next (.pointer (some ⟨w.heap.size, 0, none⟩)) true ty).run Tryz.prog (w.iter (str d) pos) = .ok (.tuple #[.bool true, .int .i64 pos, .int .i32 ((d.getD pos 0).toNat : Nat)]) (w.iter (str d) (pos + 1)) := fun ty => by
            rw [run_next_any w (str d) pos ty hlt, hdec]
          clear hdec
          by_cases hc2 : dval (d.getD pos 0).toNat < base
          · have HG2 : Hid (∀ i, i < pos + 1 → (d.getD i 0).toNat < 128 ∧ dval (d.getD i 0).toNat < base) := Lib.hid (fun i hi => by
              rcases Nat.lt_or_ge i pos with h | h
              · exact HG.out i h
              · obtain rfl : i = pos := by omega
                exact ⟨hc1, hc2⟩)
            clear HG
            generalize (d.getD pos 0).toNat = c at *
            have hdv : decide (dval c < base) = true := by simpa using hc2
            go_wp2_with fail
            refine (digitOf_any c hc1 _).mono ?_
            rintro e w' ⟨rfl, rfl⟩
            go_wp2_with fail
            refine (demand_yes _ _).mono ?_
            rintro e w' ⟨rfl, rfl⟩
            go_wp2
            go_roundw
            case rel => exact ⟨pos + 1, by omega, HG2, rfl⟩
            case measure => simp; omega
          · clear HG
            generalize (d.getD pos 0).toNat = c at *
            have hdv : decide (dval c < base) = false := by simpa using hc2
            go_wp2_with fail
            refine (digitOf_any c hc1 _).mono ?_
            rintro e w' ⟨rfl, rfl⟩
            go_wp2_with fail
            refine (demand_no _ _).mono ?_
            rintro e w' ⟨rfl, rfl⟩
            go_wp2
            exact ⟨rfl, rfl, (Below.refl _ _).alloc (Nat.le_refl _) _⟩
        · clear HG
          obtain ⟨hr1, hr2⟩ := decode_high (str d) pos hlt (by rw [str_get]; omega)
          have hr3 := decode_le (str d) pos
          have hnx := fun ty => run_next_any (P := Tryz.prog) w (str d) pos ty hlt
          generalize (Utf8.decode (str d) pos).1 = c at *
          generalize (Utf8.decode (str d) pos).2 = k at *
          have hdv : decide ((36 : Int) < base) = false := by rw [decide_eq_false_iff_not]; omega
          clear hc1
          go_wp2_with fail
          refine (digitOf_high c hr1 hr3 _).mono ?_
          rintro e w' ⟨rfl, rfl⟩
          go_wp2_with fail
          refine (demand_no _ _).mono ?_
          rintro e w' ⟨rfl, rfl⟩
          go_wp2
          exact ⟨rfl, rfl, (Below.refl _ _).alloc (Nat.le_refl _) _⟩
      · have hnx : ∀ ty, (Instr.next (.pointer (some ⟨w.heap.size, 0, none⟩)) true ty).run Tryz.prog (w.iter (str d) pos) = _ := fun ty => run_next_end w (str d) pos ty hlt
        have hall : Digs base d := fun c hc => by
          obtain ⟨i, hi, rfl⟩ := List.getElem_of_mem hc
          have := HG.out i (by have := HSZ.out; omega)
          rw [List.getD_eq_getElem?_getD, List.getElem?_eq_getElem hi] at this
          exact this
        have hz : ¬ (d.head? ≠ some 48 ∨ l = [48]) := fun h => HBAD.out ⟨HNE.out, hall, h⟩
        have hz1 : d.head? = some 48 := Decidable.byContradiction fun h => hz (.inl h)
        have hz2 : l ≠ [48] := fun h => hz (.inr h)
        have h48 : (((str d)[0]'hs0).toNat : Int) = 48 := by
          rw [str_get d 0 hs0]
          cases d with
          | nil => simp at hz1
          | cons c r => simp at hz1; subst hz1; rfl
        have htl : (full.toList == [48]) = false := by rw [HL.out, beq_eq_false_iff_ne]; exact hz2
        clear HG hall hz hz1 hz2
        go_wp2_with fail
        refine (demand_no _ _).mono ?_
        rintro e w' ⟨rfl, rfl⟩
        go_wp2
        exact ⟨rfl, rfl, (Below.refl _ _).alloc (Nat.le_refl _) _⟩
theorem split_bad (l : List UInt8) (base : Nat) (hbs : base ≤ 36) (hm : l.length ≤ 80000) (hbad : ¬ Form base l) (w : World) :
    Calls Tryz.prog 185 #[.string (str l), .int .i64 base] w fun e w' => e = .panicked (chainOf 1) ∧ Below w.heap.size w w' := by
  unfold Form behind at hbad
  by_cases h : l.head? = some 45
  · rw [if_pos h] at hbad
    cases l with
    | nil => simp at h
    | cons c r =>
      simp at h
      subst h
      exact split_bad_true (45 :: r) r base hbs (fun w => cut_yes r (by simp at hm; omega) w) (by simp at hm; omega) hbad w
  · rw [if_neg h] at hbad
    exact split_bad_false l l base hbs (fun w => cut_no l (by omega) h w) hm hbad w
end Go.Proofs.YteggbenhffmijaaGreatDoor

/- WALKS, strings 8: check, read and readPair of any text. -/
namespace Go.Proofs.YteggbenhffmijaaGreatDoor
open Go.RowKit
theorem dval_dec {c : Nat} (h : dval c < 10) : 48 ≤ c ∧ c ≤ 57 := by
  unfold dval at h
  split at h
  · assumption
  · split at h <;> omega
theorem form_decI {l : List UInt8} (h : Form 10 l) : ∃ x : Int, l = Wh.decI x := by
  obtain ⟨hne, hd, hl⟩ := h
  have hdg : ∀ c ∈ behind l, Wh.isD c := fun c hc => dval_dec (hd c hc).2
  have hz : (behind l).headD 0 ≠ 48 ∨ (behind l).length = 1 := by
    rcases hl with h | h
    · left
      cases hb : behind l with
      | nil => exact absurd hb hne
      | cons c r => rw [hb] at h; simpa using h
    · right; rw [h]; rfl
  have hn := Wh.decN_numOf hdg hne hz
  by_cases hm : l.head? = some 45
  · have hb : l = 45 :: behind l := by
      unfold behind
      rw [if_pos hm]
      cases l with
      | nil => simp at hm
      | cons c r => simp at hm; subst hm; rfl
    have h0 : Wh.numOf (behind l) ≠ 0 := fun e => by
      rw [e, Wh.decN_zero] at hn
      rcases hl with h | h
      · rw [← hn] at h; simp at h
      · rw [h] at hm; simp at hm
    refine ⟨-(Wh.numOf (behind l) : Int), ?_⟩
    unfold Wh.decI
    rw [if_pos (by omega), Int.natAbs_neg, Int.natAbs_natCast, hn]
    exact hb
  · have hb : behind l = l := by unfold behind; rw [if_neg hm]
    refine ⟨(Wh.numOf (behind l) : Int), ?_⟩
    unfold Wh.decI
    rw [if_neg (by omega), Int.natAbs_natCast, hn, hb]
theorem behind_dec (x : Int) : behind (Wh.decI x) = Wh.decN x.natAbs := by
  unfold behind Wh.decI
  by_cases h : x < 0
  · rw [if_pos h]; simp
  · rw [if_neg h, if_neg (head_digit _)]
theorem dec_form (x : Int) : Form 10 (Wh.decI x) := by
  unfold Form
  rw [behind_dec]
  refine ⟨Wh.decN_ne _, digs_dec _, ?_⟩
  rcases head_zero x.natAbs with h | h
  · exact .inl h
  · right
    have h0 : x.natAbs = 0 := by
      have := Wh.numOf_decN x.natAbs
      rw [h] at this
      exact this.symm
    have : x = 0 := by omega
    subst this
    unfold Wh.decI
    rw [if_neg (by omega)]
    exact Wh.decN_zero
/-- a text that is no valid number, and its error -/
def Bad (l : List UInt8) (c : Int) : Prop := (¬ Form 10 l ∧ c = 1) ∨ (∃ x, l = Wh.decI x ∧ ¬ Valid x ∧ c = 13)
theorem good_or_bad (l : List UInt8) : (∃ x, l = Wh.decI x ∧ Valid x) ∨ ∃ c, Bad l c := by
  by_cases h : Form 10 l
  · obtain ⟨x, hx⟩ := form_decI h
    by_cases hv : Valid x
    · exact .inl ⟨x, hx, hv⟩
    · exact .inr ⟨13, .inr ⟨x, hx, hv, rfl⟩⟩
  · exact .inr ⟨1, .inl ⟨h, rfl⟩⟩
theorem decI_len (x : Int) : (Wh.decN x.natAbs).length ≤ (Wh.decI x).length := by
  unfold Wh.decI
  split
  · simp
  · exact Nat.le_refl _
theorem split_long (x : Int) (hv : (Wh.decN x.natAbs).length ≤ 80000) (w : World) :
    Calls Tryz.prog 185 #[txt x, .int .i64 10] w fun e w' => e = .returned (.tuple #[.int .i64 (if x < 0 then -1 else 1), .string (str (Wh.decN x.natAbs))]) ∧ Below w.heap.size w w' := by
  by_cases h : x < 0
  · rw [if_pos h]
    have hz : (Wh.decN x.natAbs).head? ≠ some 48 := by
      rcases head_zero x.natAbs with h' | h'
      · exact h'
      · have := Wh.numOf_decN x.natAbs
        rw [h'] at this
        have e : Wh.numOf [48] = 0 := rfl
        omega
    have := split_neg (Wh.decN x.natAbs) 10 (digs_dec _) (Wh.decN_ne _) (by omega) hz w
    unfold txt Wh.decI; rw [if_pos h]; exact this
  · rw [if_neg h]
    have := split_pos (Wh.decN x.natAbs) 10 (digs_dec _) (Wh.decN_ne _) (by omega) (head_digit _) (head_zero _) w
    unfold txt Wh.decI; rw [if_neg h]; exact this
set_option maxHeartbeats 400000 in
theorem check_form (l : List UInt8) (hm : l.length ≤ 80000) (h : ¬ Form 10 l) (w : World) :
    Calls Tryz.prog 178 #[.string (str l)] w fun e w' => e = .panicked (chainOf 1) ∧ Below w.heap.size w w' := by
  have HW : Hid (∀ w, Calls Tryz.prog 250 #[.string (str l), .int .i64 10] w fun e w' => e = .panicked (chainOf 1) ∧ Below w.heap.size w w') := Lib.hid fun w => by
    have H := Lib.hid (split_bad l 10 (by decide) hm h w)
    generalize str l = s at *
    go_enter Tryz.func250, Tryz.ntmps250
    go_wp2_with fail
    refine H.out.mono ?_
    rintro e w1 ⟨rfl, hb1⟩
    go_wp2
    exact ⟨rfl, rfl, hb1⟩
  generalize str l = s at *
  go_enter Tryz.func178, Tryz.ntmps178
  go_wp2_with fail
  refine (HW.out _).mono ?_
  rintro e w1 ⟨rfl, hb1⟩
  go_wp2
  exact ⟨rfl, rfl, hb1⟩
set_option maxHeartbeats 400000 in
theorem width_big (x : Int) (hv : (Wh.decN x.natAbs).length ≤ 80000) (w : World) :
    Calls Tryz.prog 250 #[txt x, .int .i64 10] w fun e w' => e = .returned (.int .i64 (Wh.decN x.natAbs).length) ∧ Below w.heap.size w w' := by
  have H := Lib.hid (split_long x hv)
  have hz : (str (Wh.decN x.natAbs)).size = (Wh.decN x.natAbs).length := rfl
  have hz2 : (str (Wh.decN x.natAbs)).size ≤ 80000 := hv
  unfold txt at *
  generalize str (Wh.decI x) = s at *
  generalize str (Wh.decN x.natAbs) = d at *
  generalize (if x < 0 then (-1 : Int) else 1) = sg at *
  have HZ := Lib.hid hz; clear hz
  go_enter Tryz.func250, Tryz.ntmps250
  go_wp2_with fail
  refine (H.out _).mono ?_
  rintro e w1 ⟨rfl, hb1⟩
  go_wp2
  go_ret
  exact ⟨by rw [← HZ.out]; rfl, hb1⟩
set_option maxHeartbeats 400000 in
theorem check_large (x : Int) (hm : (Wh.decN x.natAbs).length ≤ 80000) (hv : ¬ Valid x) (w : World) :
    Calls Tryz.prog 178 #[txt x] w fun e w' => e = .panicked (chainOf 13) ∧ Below w.heap.size w w' := by
  have H := Lib.hid (width_big x hm)
  unfold Valid at hv
  unfold txt at *
  generalize str (Wh.decI x) = s at *
  generalize (Wh.decN x.natAbs).length = n at *
  have hd2 : decide ((n : Int) ≤ 400) = false := by simp; omega
  go_enter Tryz.func178, Tryz.ntmps178
  go_wp2_with fail
  refine (H.out _).mono ?_
  rintro e w1 ⟨rfl, hb1⟩
  go_wp2_with fail
  refine (demand_no _ _).mono ?_
  rintro e w2 ⟨rfl, rfl⟩
  go_wp2
  exact ⟨rfl, rfl, hb1⟩
theorem check_bad (l : List UInt8) (c : Int) (hm : l.length ≤ 80000) (h : Bad l c) (w : World) :
    Calls Tryz.prog 178 #[.string (str l)] w fun e w' => e = .panicked (chainOf c) ∧ Below w.heap.size w w' := by
  rcases h with ⟨h, rfl⟩ | ⟨x, rfl, h, rfl⟩
  · exact check_form l hm h w
  · exact check_large x (Nat.le_trans (decI_len x) hm) h w
set_option maxHeartbeats 400000 in
theorem read_bad (l : List UInt8) (c : Int) (hm : l.length ≤ 80000) (h : Bad l c) (w : World) :
    Calls Tryz.prog 146 #[.string (str l)] w fun e w' => e = .panicked (chainOf c) ∧ Below w.heap.size w w' := by
  have H1 := Lib.hid (check_bad l c hm h)
  clear h hm
  generalize str l = s at *
  go_enter Tryz.func146, Tryz.ntmps146
  go_wp2_with fail
  refine (H1.out _).mono ?_
  rintro e w1 ⟨rfl, hb1⟩
  have hbb : Below w.heap.size w w1 := ((Below.refl _ _).alloc (Nat.le_refl _) _).trans (hb1.mono (by simp))
  clear hb1
  go_wp2
  exact ⟨rfl, rfl, hbb⟩
end Go.Proofs.YteggbenhffmijaaGreatDoor

/- WALKS: functions of package whole that fail: texts that are no numbers, values that are not allowed. -/
namespace Go.Proofs.YteggbenhffmijaaGreatDoor
open Go.RowKit
end Go.Proofs.YteggbenhffmijaaGreatDoor

/- WALKS, the number of digits in a base 1: arithmetic; times; appendDigits. -/
namespace Go.Proofs.YteggbenhffmijaaGreatDoor
open Go.RowKit Go.Proofs.Rf
/-- what the second loop keeps: j limbs are done, cc is carried on -/
structure MS (u c : Nat) (l : List Nat) (j cc : Nat) (l' : List Nat) : Prop where
  len : l'.length = l.length
  ok : Wh.Ok l'
  rest : ∀ i, j ≤ i → l'.getD i 0 = l.getD i 0
  val : Wh.val (l'.take j) + Wh.R ^ j * cc = Wh.val (l.take j) * u + c
  car : cc < 1000000000
theorem MS.start {u c : Nat} {l : List Nat} (ho : Wh.Ok l) (hc : c < 1000000000) : MS u c l 0 c l := ⟨rfl, ho, fun _ _ => rfl, by simp [Wh.val], hc⟩
theorem MS.step {u c : Nat} {l : List Nat} {j cc : Nat} {l' : List Nat} (h : MS u c l j cc l') (hj : j < l.length) (hu : u ≤ 1000000000) (hx : l.getD j 0 < 1000000000) :
    MS u c l (j + 1) ((l.getD j 0 * u + cc) / 1000000000) (l'.set j ((l.getD j 0 * u + cc) % 1000000000)) := by
  have hj' : j < l'.length := by rw [h.len]; exact hj
  refine ⟨by rw [List.length_set]; exact h.len, Wh.ok_set h.ok (Nat.mod_lt _ (by decide)), fun i hi => ?_, ?_, ?_⟩
  · have := h.rest i (by omega)
    simp only [List.getD] at this ⊢
    rw [List.getElem?_set_ne (by omega)]; exact this
  · rw [Wh.take_snoc _ j (by rw [List.length_set]; exact hj'), Wh.val_snoc, Wh.take_snoc l j hj, Wh.val_snoc]
    have e1 : (l'.set j ((l.getD j 0 * u + cc) % 1000000000)).take j = l'.take j := by rw [List.take_set_of_le (Nat.le_refl j)]
    have e2 : (l'.set j ((l.getD j 0 * u + cc) % 1000000000)).getD j 0 = (l.getD j 0 * u + cc) % 1000000000 := by simp [List.getD, hj']
    rw [e1, e2, List.length_take, List.length_take, Nat.min_eq_left (by omega), Nat.min_eq_left (by omega), Nat.pow_succ]
    have hv := h.val
    have hd := Nat.div_add_mod (l.getD j 0 * u + cc) 1000000000
    have h1 : Wh.R ^ j * ((l.getD j 0 * u + cc) % 1000000000) + Wh.R ^ j * Wh.R * ((l.getD j 0 * u + cc) / 1000000000) = Wh.R ^ j * (l.getD j 0 * u + cc) := by
      rw [Nat.mul_assoc, ← Nat.mul_add, Wh.R_eq]
      congr 1
      omega
    rw [Nat.add_assoc, h1, Nat.mul_add, Nat.add_mul, Nat.mul_assoc]
    omega
  · have : l.getD j 0 * u ≤ 999999999 * 1000000000 := Nat.mul_le_mul (by omega) hu
    have := h.car
    omega
theorem MS.fin {u c : Nat} {l : List Nat} {cc : Nat} {l' : List Nat} (h : MS u c l l.length cc l') : Wh.val l' + Wh.R ^ l'.length * cc = Wh.val l * u + c := by
  have := h.val
  rw [List.take_length, ← h.len, List.take_length] at this
  exact this
abbrev u32s (l : List Nat) : List Value := l.map fun x : Nat => Value.int .u32 (x : Int)
end Go.Proofs.YteggbenhffmijaaGreatDoor

/- WALKS, the number of digits in a base 2: Width, OfBase. -/
namespace Go.Proofs.YteggbenhffmijaaGreatDoor
open Go.RowKit Go.Proofs.Rf
end Go.Proofs.YteggbenhffmijaaGreatDoor

/- WALKS, the number of digits in a base 3: FromBase. -/
namespace Go.Proofs.YteggbenhffmijaaGreatDoor
open Go.RowKit Go.Proofs.Rf
end Go.Proofs.YteggbenhffmijaaGreatDoor

/- WALKS: FromBase, Factor and PowMod, where they fail. -/
namespace Go.Proofs.YteggbenhffmijaaGreatDoor
open Go.RowKit Go.Proofs.Rf
set_option maxRecDepth 100000 in
set_option maxHeartbeats 400000 in
theorem factorwork_bad (w : World) (pa : Addr) (l : List UInt8) (c : Int) (hc : w.cell? pa = some (.string (str l))) (hm : l.length ≤ 80000) (h : Bad l c) :
    Calls Tryz.prog 145 #[.pointer (some pa)] w fun e w' => e = .panicked (chainOf c) ∧ Below w.heap.size w w' := by
  have H1 := Lib.hid (read_bad l c hm h w)
  clear hm h
  generalize str l = s at *
  go_enter Tryz.func145, Tryz.ntmps145
  go_wp2_with fail
  refine H1.out.mono ?_
  rintro e w1 ⟨rfl, hb1⟩
  go_wp2
  exact ⟨rfl, rfl, hb1⟩
set_option maxRecDepth 100000 in
set_option maxHeartbeats 400000 in
theorem factorwork_low (w : World) (pa : Addr) (x : Int) (hc : w.cell? pa = some (txt x)) (h : Valid x) (hx0 : x ≤ 0) :
    Calls Tryz.prog 145 #[.pointer (some pa)] w fun e w' => e = .panicked (chainOf 2) ∧ Below w.heap.size w w' := by
  have H1 := Lib.hid (read_any x h w)
  have hsg : decide ((0 : Int) < x.sign) = false := by
    rw [decide_eq_false_iff_not]
    rcases Int.lt_trichotomy x 0 with h | h | h
    · rw [Int.sign_eq_neg_one_of_neg h]; decide
    · rw [h]; decide
    · omega
  clear h
  unfold txt at *
  generalize str (Wh.decI x) = s at *
  go_enter Tryz.func145, Tryz.ntmps145
  go_wp2_with fail
  refine H1.out.mono ?_
  rintro e w1 ⟨⟨v1, rfl, hn1⟩, hb1⟩
  obtain ⟨s1, rfl, k1⟩ := hn1
  obtain ⟨p1, c1, rfl⟩ := k1.len
  have hal : Below w1.heap.size w1 (w1.alloc (Obj.cells #[Value.int IntKind.i64 x.sign, Value.slice p1 (Wh.limbs x.natAbs).length c1] 92)) := (Below.refl _ _).alloc (Nat.le_refl _) _
  have HB := Lib.hid (hb1.trans (hal.mono hb1.size))
  have ka : (w1.alloc (Obj.cells #[Value.int IntKind.i64 x.sign, Value.slice p1 (Wh.limbs x.natAbs).length c1] 92)).cell? ⟨w1.heap.size, 0, none⟩ = some (.int .i64 x.sign) := by go_simp
  have kc : (w1.alloc (Obj.cells #[Value.int IntKind.i64 x.sign, Value.slice p1 (Wh.limbs x.natAbs).length c1] 92)).cell? ⟨w1.heap.size, 1, none⟩ = some (.slice p1 (Wh.limbs x.natAbs).length c1) := by go_simp
  clear hal hb1 k1 hc
  generalize x.sign = sx at *
  generalize (Wh.limbs x.natAbs).length = nx at *
  go_wp2_with fail
  generalize w1.alloc (Obj.cells #[Value.int IntKind.i64 sx, Value.slice p1 nx c1] 92) = V at *
  refine (sign_any _ _ _ _ _).mono ?_
  rintro e w5 ⟨rfl, hb5⟩
  have HB' := Lib.hid (HB.out.trans (hb5.mono HB.out.size)); clear hb5 HB
  go_wp2_with fail
  refine (demand_no _ _).mono ?_
  rintro e w2 ⟨rfl, rfl⟩
  go_wp2
  exact ⟨rfl, rfl, HB'.out⟩
set_option maxRecDepth 100000 in
set_option maxHeartbeats 400000 in
theorem Factor_fail (w : World) (s : ByteArray) (c : Int) (hw : ∀ (w : World) (pa : Addr), w.cell? pa = some (.string s) → pa.block < w.heap.size → Tab w → Calls Tryz.prog 145 #[.pointer (some pa)] w fun e w' => e = .panicked (chainOf c) ∧ Below w.heap.size w w') (hE : ErrT w) (hT : Tab w) :
    Calls Tryz.prog 68 #[.string s] w fun e w' => e = .returned (.tuple #[.slice none 0 0, .int .i64 c]) ∧ Below w.heap.size w w' := by
  have hmf : ∀ (fn : Fn) (first cap : Array Value) (w : World), (Instr.makeFunc fn first cap).run Tryz.prog w = .ok (.func fn first cap) w := fun _ _ _ _ => rfl
  have HAT := Lib.hid (fun (w : World) (pa : Addr) (hc : w.cell? pa = some (.string s)) (hl : pa.block < w.heap.size) (hE : ErrT w) (hT : Tab w) => attempt_badL 145 #[.pointer (some pa)] c w hE (fun w => by kernel_rfl) (fun w' hb' => hw w' pa ((hb'.cell hl).trans hc) (Nat.lt_of_lt_of_le hl hb'.size) (hT.mono hb')))
  clear hw
  go_enter Tryz.func68, Tryz.ntmps68
  go_wp2_with fail
  have hal : Below w.heap.size w (w.alloc (.cells #[.string s] 9)) := (Below.refl _ _).alloc (Nat.le_refl _) _
  refine (HAT.out _ _ (by go_simp) (by simp) (hE.mono hal) (hT.mono hal)).mono ?_
  rintro e w2 ⟨rfl, hb2⟩
  have hbb := hal.trans (hb2.mono hal.size)
  clear hal hb2
  go_wp2
  go_ret2
  exact ⟨rfl, hbb⟩
theorem Factor_bad (w : World) (l : List UInt8) (c : Int) (hm : l.length ≤ 80000) (h : Bad l c) (hE : ErrT w) (hT : Tab w) :
    Calls Tryz.prog 68 #[.string (str l)] w fun e w' => e = .returned (.tuple #[.slice none 0 0, .int .i64 c]) ∧ Below w.heap.size w w' :=
  Factor_fail w _ c (fun w pa hc _ _ => factorwork_bad w pa l c hc hm h) hE hT
theorem Factor_low (w : World) (x : Int) (h : Valid x) (hx0 : x ≤ 0) (hE : ErrT w) (hT : Tab w) :
    Calls Tryz.prog 68 #[txt x] w fun e w' => e = .returned (.tuple #[.slice none 0 0, .int .i64 2]) ∧ Below w.heap.size w w' :=
  Factor_fail w _ 2 (fun w pa hc _ _ => factorwork_low w pa x hc h hx0) hE hT
def FCL (x lim : Int) : Nat → Value → World → Prop
  | 0, v, w => Num w v x
  | 1, v, w => Num w v lim
  | 2, v, _ => v = .int .i64 (cmpI x lim)
  | 3, v, _ => v = .bool false
  | _, _, _ => True
theorem FCL_stays (x lim : Int) : ∀ i v w w', FCL x lim i v w → Below w.heap.size w w' → FCL x lim i v w' := by
  intro i v w w' h hb
  match i, h with
  | 0, h | 1, h => exact Num.mono h hb
  | 2, h | 3, h => exact h
  | _ + 4, h => trivial
end Go.Proofs.YteggbenhffmijaaGreatDoor

/- WALKS, WholeFactors 1: the order of any numbers; the factors of a number that is too large. -/
namespace Go.Proofs.YteggbenhffmijaaGreatDoor
open Go.RowKit
/-- numbers whose order is found in fewer than 8 limbs, or by their lengths -/
def CmpOk (x y : Int) : Prop := Fit x ∨ (Wh.limbs x.natAbs).length ≠ (Wh.limbs y.natAbs).length
set_option maxRecDepth 100000 in
set_option maxHeartbeats 400000 in
theorem compare_gen (w : World) (v1 v2 : Value) (x y : Int) (h1 : Num w v1 x) (h2 : Num w v2 y) (hx : CmpOk x y) :
    Calls Tryz.prog 148 #[v1, v2] w fun e w' => e = .returned (.int .i64 (cmpI x y)) ∧ Below w.heap.size w w' := by
  obtain ⟨s1, rfl, k1⟩ := h1
  obtain ⟨a1, c1, rfl⟩ := k1.len
  obtain ⟨s2, rfl, k2⟩ := h2
  obtain ⟨a2, c2, rfl⟩ := k2.len
  have hal : Below w.heap.size w ((w.alloc (.cells #[.int .i64 x.sign, .slice a1 (Wh.limbs x.natAbs).length c1] 92)).alloc (.cells #[.int .i64 y.sign, .slice a2 (Wh.limbs y.natAbs).length c2] 92)) := ((Below.refl _ _).alloc (Nat.le_refl _) _).alloc (by simp) _
  have HC := Lib.hid (fun n => compareLimbs_any (((w.alloc (.cells #[.int .i64 x.sign, .slice a1 (Wh.limbs x.natAbs).length c1] 92)).alloc (.cells #[.int .i64 y.sign, .slice a2 (Wh.limbs y.natAbs).length c2] 92)).drewN n) _ _ x.natAbs y.natAbs ((k1.mono hal).mono (below_drewN _ _ _)) ((k2.mono hal).mono (below_drewN _ _ _)) hx)
  have HAL := Lib.hid hal; clear hal k1 k2
  generalize (Wh.limbs x.natAbs).length = n1 at *
  generalize (Wh.limbs y.natAbs).length = n2 at *
  by_cases hs : x.sign = y.sign
  · have HE := Lib.hid (sign_same hs)
    have hr := cmpN_range x.natAbs y.natAbs
    have hsr := sign_range x
    rw [← hs] at HC HAL ⊢
    have hsb : (x.sign == x.sign) = true := by simp
    clear hs
    generalize Wh.cmpN x.natAbs y.natAbs = t at *
    generalize x.sign = s at *
    go_enter Tryz.func148, Tryz.ntmps148
    go_wp2_with fail
    have q0 : ((w.alloc (.cells #[.int .i64 s, .slice a1 n1 c1] 92)).alloc (.cells #[.int .i64 s, .slice a2 n2 c2] 92)).cell? ⟨w.heap.size, 0, none⟩ = some (.int .i64 s) := by go_simp
    have q1 : ((w.alloc (.cells #[.int .i64 s, .slice a1 n1 c1] 92)).alloc (.cells #[.int .i64 s, .slice a2 n2 c2] 92)).cell? ⟨w.heap.size, 1, none⟩ = some (.slice a1 n1 c1) := by go_simp
    have q2 : ((w.alloc (.cells #[.int .i64 s, .slice a1 n1 c1] 92)).alloc (.cells #[.int .i64 s, .slice a2 n2 c2] 92)).cell? ⟨w.heap.size + 1, 1, none⟩ = some (.slice a2 n2 c2) := by go_simp
    generalize ((w.alloc (.cells #[.int .i64 s, .slice a1 n1 c1] 92)).alloc (.cells #[.int .i64 s, .slice a2 n2 c2] 92)) = V at *
    have hw : -9223372036854775808 ≤ t * s ∧ t * s ≤ 9223372036854775807 := by
      rcases (by omega : s = -1 ∨ s = 0 ∨ s = 1) with rfl | rfl | rfl <;> omega
    go_quiet ((go_at_call 231; exact Calls.quiet_of (HC.out _)))
    go_wp2
    go_ret
    exact ⟨by rw [HE.out]; rfl, HAL.out.trans (below_drewN _ _ _)⟩
  · have HE := Lib.hid (cmp_signs hs)
    have hsb : (x.sign == y.sign) = false := by simpa using hs
    go_enter Tryz.func148, Tryz.ntmps148
    go_wp2_with fail
    refine (direction_any _ _).mono ?_
    rintro e w2 ⟨rfl, rfl⟩
    go_wp2
    · rename_i h
      go_ret
      exact ⟨by rw [HE.out, if_pos h]; rfl, HAL.out⟩
    · rename_i h
      go_ret
      exact ⟨by rw [HE.out, if_neg (by omega)]; rfl, HAL.out⟩
set_option maxRecDepth 100000 in
set_option maxHeartbeats 1000000 in
theorem factorwork_big (w : World) (pa : Addr) (x : Int) (ha : w.cell? pa = some (txt x)) (hla : pa.block < w.heap.size) (hn : 1000000 < x) (hx : Valid x) (hv6 : Valid (1000000 : Int)) (htab : Tab w) :
    Calls Tryz.prog 145 #[.pointer (some pa)] w fun e w' => e = .panicked (chainOf 13) ∧ Below w.heap.size w w' := by
  obtain ⟨lim, hlim⟩ : ∃ lim : Int, lim = 1000000 := ⟨_, rfl⟩
  have HOF : Hid (∀ w, Tab w → Calls Tryz.prog 125 #[.int .i64 1000000] w fun e w' => (∃ v', e = .returned v' ∧ Num w' v' lim) ∧ Below w.heap.size w w') := Lib.hid (by rw [hlim]; exact fun w ht => of_any 1000000 (by decide) hv6 w ht)
  have hci : Hid (decide (cmpI x lim ≤ 0) = false) := Lib.hid (by rw [hlim]; unfold cmpI; split <;> (try split) <;> first | rfl | omega)
  have HFX : Hid (CmpOk x lim) := Lib.hid (by
    rw [hlim]
    by_cases h : Fit x
    · exact .inl h
    · refine .inr (fun e => h ?_)
      have h1 := Wh.limbs_length_le (n := (1000000 : Int).natAbs) (k := 1) (by decide)
      unfold Fit; omega)
  clear hv6
  have hs1 : decide (0 < x.sign) = true := by rw [Int.sign_eq_one_of_pos (by omega)]; rfl
  have HCI := hci; clear hci hlim
  have HN := Lib.hid hn; clear hn
  have H1 := Lib.hid (read_any x hx w)
  have HTB := Lib.hid htab; clear htab
  unfold txt at ha H1
  go_enter Tryz.func145, Tryz.ntmps145
  go_wp2_with fail
  refine H1.out.mono ?_
  rintro e w1 ⟨⟨v1, rfl, hn1⟩, hb1⟩
  obtain ⟨s1, rfl, k1⟩ := hn1
  obtain ⟨p1, c1, rfl⟩ := k1.len
  have hal : Below w1.heap.size w1 (w1.alloc (Obj.cells #[Value.int IntKind.i64 x.sign, Value.slice p1 (Wh.limbs x.natAbs).length c1] 92)) := (Below.refl _ _).alloc (Nat.le_refl _) _
  have hBB := hb1.trans (hal.mono hb1.size)
  have kb := (hBB.cell hla).trans ha
  have ka : (w1.alloc (Obj.cells #[Value.int IntKind.i64 x.sign, Value.slice p1 (Wh.limbs x.natAbs).length c1] 92)).cell? ⟨w1.heap.size, 0, none⟩ = some (.int .i64 x.sign) := by go_simp
  have kc : (w1.alloc (Obj.cells #[Value.int IntKind.i64 x.sign, Value.slice p1 (Wh.limbs x.natAbs).length c1] 92)).cell? ⟨w1.heap.size, 1, none⟩ = some (.slice p1 (Wh.limbs x.natAbs).length c1) := by go_simp
  have hsz : (w1.alloc (Obj.cells #[Value.int IntKind.i64 x.sign, Value.slice p1 (Wh.limbs x.natAbs).length c1] 92)).heap.size = w1.heap.size + 1 := by simp
  have K1 := Lib.hid (k1.mono hal); have HB := Lib.hid hBB
  have hpb : pa.block < w1.heap.size := Nat.lt_of_lt_of_le hla hb1.size
  have hbw := hb1.size
  clear hal hBB k1 hb1 ha
  go_wp2_with fail
  generalize hX : (w1.alloc (Obj.cells #[Value.int IntKind.i64 x.sign, Value.slice p1 (Wh.limbs x.natAbs).length c1] 92)) = V at *
  clear hX
  generalize hsy : x.sign = Y at *
  have HSY := Lib.hid hsy; clear hsy
  generalize hnl : (Wh.limbs x.natAbs).length = NL at *
  refine (sign_any V Y _ _ _).mono ?_
  rintro e W2 ⟨rfl, hb2⟩
  have ka := (hb2.cell (p := ⟨w1.heap.size, 0, none⟩) (by show w1.heap.size < _; omega)).trans ka
  have kc := (hb2.cell (p := ⟨w1.heap.size, 1, none⟩) (by show w1.heap.size < _; omega)).trans kc
  have kb := (hb2.cell (p := pa) (by omega)).trans kb
  have K2 := Lib.hid (K1.out.mono hb2)
  have HB2 : Hid (Below w.heap.size w W2) := Lib.hid (HB.out.trans (hb2.mono HB.out.size))
  have hs2 := hb2.size
  clear hb2 K1 HB
  go_wp2_with fail
  refine (demand_yes _ _).mono ?_
  rintro e W3 ⟨rfl, rfl⟩
  have HT2 := Lib.hid (HTB.out.mono HB2.out)
  go_wp2_with fail
  refine wp_mono (Q := fun e a W' => e = .panic (chainOf 13) ∧ a.defers = [] ∧ Below w.heap.size w W') ?_ ?_
  refine Rt.wp_region_grow (n0 := 1) [4] [] 23 (fun vals => { tmps := #[.pointer (some pa), .slice none 0 0, .pointer (some ⟨w1.heap.size, 0, none⟩), undef, undef, .string (str (Wh.decI x)), .agg #[.int .i64 Y, .slice p1 NL c1], .agg #[.int .i64 Y, .slice p1 NL c1], .int .i64 Y, .bool true, .tuple #[], vals 0, vals 1, vals 2, vals 3, undef, undef, undef, undef, undef, undef, undef, undef], defers := [] }) (FCL x lim) (by kernel_rfl) (by kernel_rfl) (by kernel_rfl) (by kernel_rfl) (fun _ a d _ _ h => ⟨h.1, by cases d <;> exact h.2.1, h.2.2⟩) (by kernel_rfl) rfl (fun _ => by kernel_rfl) (by kernel_rfl) (by kernel_rfl) (FCL_stays _ _) ?_ ?_ ?_
  · intro i o d hi hT hW hd vals w' hb hf
    have hlt : i < 5 := (Array.getElem?_eq_some_iff.1 hi).1
    rcases i with _ | _ | _ | _ | _ | i
    · obtain rfl := Option.some.inj hi
      obtain rfl := Option.some.inj hd
      have z0 := (hb.cell (p := ⟨w1.heap.size, 0, none⟩) (by show w1.heap.size < _; omega)).trans ka
      have z1 := (hb.cell (p := ⟨w1.heap.size, 1, none⟩) (by show w1.heap.size < _; omega)).trans kc
      have ZS := Lib.hid (K2.out.mono hb)
      dsimp only
      go_simp
      exact ⟨⟨_, congrArg (fun s => Value.agg #[.int .i64 s, Value.slice p1 NL c1]) HSY.out.symm, ZS.out⟩, Below.refl _ _⟩
    · obtain rfl := Option.some.inj hi
      obtain rfl := Option.some.inj hd
      dsimp only
      go_simp
      refine (HOF.out w' (HT2.out.mono hb)).mono ?_
      rintro e w5 ⟨⟨v5, rfl, hn5⟩, hb5⟩
      exact ⟨hn5, hb5⟩
    · obtain rfl := Option.some.inj hi
      obtain rfl := Option.some.inj hd
      have h0 : Num w' (vals 0) _ := hf 0 (by kernel_rfl)
      have h4 : Num w' (vals 1) _ := hf 1 (by kernel_rfl)
      have HP := compare_gen w' _ _ _ _ h0 h4 HFX.out
      obtain ⟨s0, e0, -⟩ := h0
      obtain ⟨s4, e4, -⟩ := h4
      rw [e0, e4] at HP
      have HP := Lib.hid HP
      dsimp only
      rw [e0, e4]
      go_simp
      refine HP.out.mono ?_
      rintro e w5 ⟨rfl, hb5⟩
      exact ⟨rfl, hb5⟩
    · obtain rfl := Option.some.inj hi
      obtain rfl := Option.some.inj hd
      have e0 : vals 2 = _ := hf 2 (by kernel_rfl)
      dsimp only
      rw [e0]
      go_simp
      exact ⟨by first | rfl | exact congrArg Value.bool HCI.out, Below.refl _ _⟩
    · cases hT
    · omega
  · intro p o d hi hW hd vals w' hb hf
    cases hW
  · intro vals w' hb hf
    have e3 : vals 3 = .bool false := hf 3 (by decide) rfl
    have HB' := Lib.hid (HB2.out.trans (hb.mono HB2.out.size))
    clear hb hf
    rw [e3]
    refine Rt.wpAny_step (i := 4) (by kernel_rfl) rfl (by rfl) (fun K hK => ?_)
    clear hK
    go_simp
    refine (demand_no _ _).mono ?_
    rintro e w5 ⟨rfl, rfl⟩
    exact ⟨rfl, HB'.out⟩
  · rintro e a W5 ⟨rfl, hd, hB⟩
    go_wp2
    exact ⟨hd, rfl, hB⟩
theorem Factor_big (w : World) (x : Int) (hx : Valid x) (hn : 1000000 < x) (hE : ErrT w) (hT : Tab w) :
    Calls Tryz.prog 68 #[txt x] w fun e w' => e = .returned (.tuple #[.slice none 0 0, .int .i64 13]) ∧ Below w.heap.size w w' :=
  Factor_fail w _ 13 (fun w pa hc hl ht => factorwork_big w pa x hc hl hn hx (valid9 _ (by decide)) ht) hE hT
end Go.Proofs.YteggbenhffmijaaGreatDoor

/- ARITHMETIC: what the list of the least factors is: each a prime, ascending, the product the number. -/
namespace Go.Proofs.YteggbenhffmijaaGreatDoor
def Low (m p : Nat) : Prop := ∀ d, 2 ≤ d → d < p → m % d ≠ 0
theorem lst_low : ∀ (f p n : Nat), 0 < p → n + 1 - p < f → Low n p → Low n (lst f p n) ∧ (n % lst f p n = 0 ∨ n < lst f p n * lst f p n) := by
  intro f
  induction f with
  | zero => intro p n _ h; omega
  | succ f ih =>
    intro p n hp h hl
    rw [lst]
    by_cases hc : n % p = 0 ∨ n < p * p
    · rw [if_pos hc]; exact ⟨hl, hc⟩
    · rw [if_neg hc]
      have h3 : p ≤ n := Nat.le_trans (Nat.le_mul_of_pos_left p hp) (by omega)
      refine ih (p + 1) n (by omega) (by omega) fun d h2 hd => ?_
      by_cases e : d = p
      · subst e; intro h0; exact hc (.inl h0)
      · exact hl d h2 (by omega)
theorem prq_spec {p m : Nat} (hp : 2 ≤ p) (hm : 1 < m) (hl : Low m p) : Low m (prq p m) ∧ m % prq p m = 0 ∧ p ≤ prq p m := by
  obtain ⟨h1, h2⟩ := lst_low (m + 1) p m (by omega) (by omega) hl
  have hge := lst_ge (m + 1) p m
  unfold prq
  generalize lst (m + 1) p m = q at *
  by_cases hz : m % q = 0
  · rw [if_pos hz]; exact ⟨h1, hz, hge⟩
  · rw [if_neg hz]
    have hq : m < q * q := by omega
    refine ⟨fun d hd2 hdm h0 => ?_, Nat.mod_self m, ?_⟩
    · by_cases hdq : d < q
      · exact h1 d hd2 hdq h0
      · have e : d * (m / d) = m := by have := Nat.div_add_mod m d; rw [h0, Nat.add_zero] at this; exact this
        have hlt : m / d < q := Nat.div_lt_of_lt_mul (Nat.lt_of_lt_of_le hq (Nat.mul_le_mul_right q (by omega)))
        have hgt : 2 ≤ m / d := by
          rcases Nat.lt_or_ge (m / d) 2 with h | h
          · exfalso
            have : d * (m / d) ≤ d * 1 := Nat.mul_le_mul_left d (by omega)
            omega
          · exact h
        refine h1 (m / d) hgt hlt (Nat.mod_eq_zero_of_dvd ⟨d, ?_⟩)
        rw [Nat.mul_comm]; exact e.symm
    · rcases Nat.lt_or_ge m p with h | h
      · exact absurd (Nat.mod_self m) (hl m (by omega) h)
      · exact h
theorem low_two (m : Nat) : Low m 2 := fun d h2 hd => by omega
/-- the state at the head of a round: i factors are read, P is their product, L the last of them, m what is left -/
structure PAt (n : Nat) (i P L m : Nat) : Prop where
  rest : (pr (n + 1) 2 n).drop i = pr (m + 1) L m
  prod : P * m = n
  low : Low m L
  last : 2 ≤ L
  pos : 1 ≤ m
  le : i ≤ (pr (n + 1) 2 n).length
theorem PAt.start (n : Nat) (hn : 1 ≤ n) : PAt n 0 1 2 n := ⟨rfl, Nat.one_mul n, low_two n, Nat.le_refl 2, hn, Nat.zero_le _⟩
theorem PAt.more {n i P L m : Nat} (h : PAt n i P L m) (hi : i < (pr (n + 1) 2 n).length) : 1 < m := by
  rcases Nat.lt_or_ge 1 m with h1 | h1
  · exact h1
  · exfalso
    have := h.rest
    have e0 : pr (m + 1) L m = [] := by rw [pr, if_pos h1]
    rw [e0] at this
    have := congrArg List.length this
    simp only [List.length_drop, List.length_nil] at this
    omega
theorem PAt.fin {n i P L m : Nat} (h : PAt n i P L m) (hi : ¬ i < (pr (n + 1) 2 n).length) : P = n := by
  have hr := h.rest
  have h0 : (pr (n + 1) 2 n).drop i = [] := List.drop_eq_nil_of_le (by omega)
  rw [h0] at hr
  have hm : m = 1 := by
    rcases Nat.lt_or_ge 1 m with h1 | h1
    · rw [pr_step h.last h1] at hr; cases hr
    · have := h.pos; omega
  have := h.prod
  rw [hm, Nat.mul_one] at this
  exact this
end Go.Proofs.YteggbenhffmijaaGreatDoor

/- WALKS: the reference's number of a text; the kit's text of a number. -/
namespace Go.Proofs.YteggbenhffmijaaGreatDoor
open Go.RowKit Go.Proofs.Rf
structure DecL (l : List UInt8) : Prop where
  ne : l ≠ []
  dig : ∀ c ∈ l, 48 ≤ c.toNat ∧ c.toNat ≤ 57
  head : l.headD 0 ≠ 48 ∨ l.length = 1
  len : l.length ≤ 15
theorem DecL.at {l : List UInt8} (h : DecL l) {i : Nat} (hi : i < l.length) : 48 ≤ (l.getD i 0).toNat ∧ (l.getD i 0).toNat ≤ 57 := by
  rw [List.getD_eq_getElem?_getD, List.getElem?_eq_getElem hi]; exact h.dig _ (List.getElem_mem hi)
theorem DecL.pos {l : List UInt8} (h : DecL l) : 0 < l.length := List.length_pos_iff.2 h.ne
theorem digits_loop (l : List UInt8) (H : Hid (DecL l)) (k : Nat) (hlt : k < (str l).size) : ∃ c : Nat, (((str l)[k]'hlt).toNat : Int) = (c : Int) ∧ (l.getD k 0).toNat = c ∧ 48 ≤ c ∧ c ≤ 57 := by
  have hc := H.out.at (i := k) hlt
  exact ⟨(l.getD k 0).toNat, by rw [str_get l k hlt], rfl, hc.1, hc.2⟩
set_option maxHeartbeats 400000 in
theorem digits_dec (l : List UInt8) (h : DecL l) (w : World) :
    Calls Tryz.prog 221 #[.string (str l)] w fun e w' => e = .returned (.bool true) ∧ w = w' := by
  have hs0 : 0 < (str l).size := h.pos
  have hsz : (str l).size ≤ 15 := h.len
  have H := Lib.hid h
  have hh : ((str l).size = 1) ∨ (1 < (str l).size ∧ ((((str l)[0]'hs0).toNat : Int) == 48) = false) := by
    by_cases h1 : (str l).size = 1
    · exact .inl h1
    · right
      refine ⟨by omega, ?_⟩
      rcases h.head with h2 | h2
      · rw [beq_eq_false_iff_ne, str_get l 0 hs0]
        intro e
        apply h2
        have e2 : l.getD 0 0 = 48 := UInt8.toNat_inj.1 (show (l.getD 0 0).toNat = 48 by omega)
        rw [← e2]; cases l <;> rfl
      · exact absurd h2 h1
  clear h
  rcases hh with h1 | ⟨h1, h2⟩
  case' inr =>
    have h0 : ((((str l).size : Nat) : Int) == 0) = false := by rw [beq_eq_false_iff_ne]; omega
    have h3 : decide ((1 : Int) < ((str l).size : Nat)) = true := by rw [decide_eq_true_iff]; omega
  all_goals
    go_enter Tryz.func221, Tryz.ntmps221
    go_wp2_with fail
    go_loopw [3] (fun i wr => ∃ k : Nat, k ≤ (str l).size ∧ i = .int .i64 k ∧ wr = w) (fun i _ => (str l).size - (intOf i).toNat)
    case atStart => exact ⟨0, Nat.zero_le _, rfl, rfl⟩
    case round =>
      obtain ⟨k, hk, rfl, rfl⟩ := hrel
      by_cases hlt : k < (str l).size
      · have hd : decide ((k : Int) < ((str l).size : Nat)) = true := by simpa using hlt
        obtain ⟨c, hx, _, hc1, hc2⟩ := digits_loop l H k hlt
        have hlo : decide ((c : Int) < 48) = false := by rw [decide_eq_false_iff_not]; omega
        have hhi : decide ((57 : Int) < (c : Int)) = false := by rw [decide_eq_false_iff_not]; omega
        go_wp2_with fail
        go_roundw
        case rel => exact ⟨k + 1, by omega, by simp, trivial⟩
        case measure => simp [intOf]; omega
      · have hd : decide ((k : Int) < ((str l).size : Nat)) = false := by simpa using hlt
        go_wp2_with fail
        go_ret
        exact ⟨rfl, rfl⟩
theorem numOf_take_le (l : List UInt8) (k : Nat) (hl : l.length ≤ 15) (hd : ∀ c ∈ l, 48 ≤ c.toNat ∧ c.toNat ≤ 57) : Wh.numOf (l.take k) < 1000000000000000 := by
  have h1 : ∀ c ∈ l.take k, 48 ≤ c.toNat ∧ c.toNat ≤ 57 := fun c hc => hd c (List.mem_of_mem_take hc)
  have h2 : (l.take k).length ≤ 15 := by rw [List.length_take]; omega
  have h3 := Wh.numOf_lt h1
  exact Nat.lt_of_lt_of_le h3 (Nat.le_trans (Nat.pow_le_pow_right (by decide) h2) (by decide))
end Go.Proofs.YteggbenhffmijaaGreatDoor
