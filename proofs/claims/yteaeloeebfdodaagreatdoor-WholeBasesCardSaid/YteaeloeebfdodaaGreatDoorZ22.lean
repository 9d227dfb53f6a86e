/- Part 22 of the proofs that laws of package whole answer true at every input and leave the input as it was, where the library's variables start as the text lays them (the texts S7, S8, K2, K1, K3, O1, O2, L1, O3, O5). -/
import Derived.Test.YteaeloeebfdodaaGreatDoorZ02
import Derived.Test.YteaeloeebfdodaaGreatDoorZ20
import Derived.Laws.RangeAny
import Derived.Test.YteaeloeebfdodaaGreatDoorZ05
import Derived.Test.YteaeloeebfdodaaGreatDoorZ18
import Derived.Test.YteaeloeebfdodaaGreatDoorZ12
import Derived.Test.YteaeloeebfdodaaGreatDoorZ07
set_option linter.unusedVariables false
set_option linter.unusedSimpArgs false
namespace Go.Proofs.YteaeloeebfdodaaGreatDoor
open Go.RowKit
def behind (l : List UInt8) : List UInt8 := if l.head? = some 45 then l.tail else l
structure FormD (l d : List UInt8) (b : Nat) : Prop where
  ne : d ≠ []
  digs : Digs b d
  lead : d.head? ≠ some 48 ∨ l = [48]
def Form (b : Nat) (l : List UInt8) : Prop := FormD l (behind l) b
set_option maxHeartbeats 400000 in
theorem digitOf_high (c : Nat) (h : 128 ≤ c) (hm : c ≤ 2147483647) (w : World) :
    Calls Tryz.prog 230 #[.int .i32 c] w fun e w' => e = .returned (.int .i64 36) ∧ w = w' := by
  go_enter Tryz.func230, Tryz.ntmps230
  go_wp2
  go_ret
  exact ⟨rfl, rfl⟩
set_option maxRecDepth 100000 in
set_option maxHeartbeats 800000 in
theorem split_bad_true (l d : List UInt8) (base : Nat) (hbs : base ≤ 36) (hcut : ∀ w, Calls Tryz.prog 238 #[.string (str l), .string ⟨#[45]⟩] w fun e w' => e = .returned (.tuple #[.string (str d), .bool true]) ∧ w = w') (hm : d.length ≤ 80000) (hbad : ¬ FormD l d base) (w : World) :
    Calls Tryz.prog 204 #[.string (str l), .int .i64 base] w fun e w' => e = .panicked (chainOf 1) ∧ Below w.heap.size w w' := by
  have HCUT := Lib.hid (hcut w); clear hcut
  have hsz : (str d).size = d.length := rfl
  have hsm : (str d).size ≤ 80000 := hm
  have HSZ := Lib.hid hsz; clear hsz hm
  have HBAD := Lib.hid hbad; clear hbad
  have HL : Hid ((str l).toList = l) := Lib.hid (by rw [Lib.toList_data, str_data])
  generalize str l = full at *
  go_enter Tryz.func204, Tryz.ntmps204
  go_wp2_with fail
  refine (mark_below _).mono ?_
  rintro e w' ⟨rfl, rfl⟩
  go_wp2_with fail
  refine HCUT.out.mono ?_
  rintro e w' ⟨rfl, rfl⟩
  go_wp2_with fail
  by_cases hne : d = []
  · rw [show (!(str d).toList.isEmpty) = false from by rw [Lib.toList_data, str_data, hne]; rfl]
    refine (demand_no _ _).mono ?_
    rintro e w' ⟨rfl, rfl⟩
    go_wp2
    exact ⟨rfl, rfl, Below.refl _ _⟩
  · have hs0 : 0 < (str d).size := by rw [str_size]; exact List.length_pos_iff.2 hne
    rw [show (!(str d).toList.isEmpty) = true from by rw [Lib.toList_data, str_data]; cases d <;> simp_all]
    have HNE := Lib.hid hne; clear hne
    refine (demand_yes _ _).mono ?_
    rintro e w' ⟨rfl, rfl⟩
    go_wp2_with fail
    go_loopw [] (fun wr => ∃ pos : Nat, pos ≤ (str d).size ∧ Hid (∀ i, i < pos → (d.getD i 0).toNat < 128 ∧ dval (d.getD i 0).toNat < base) ∧ wr = w.iter (str d) pos) (fun wr => (str d).size - wr.iterPos w.heap.size)
    case atStart => exact ⟨0, Nat.zero_le _, Lib.hid (fun i h => absurd h (by omega)), rfl⟩
    case round =>
      obtain ⟨pos, hp, HG, rfl⟩ := hrel
      by_cases hlt : pos < (str d).size
      · by_cases hc1 : (d.getD pos 0).toNat < 128
        · have hdec := decode_at d pos (by rw [← HSZ.out]; exact hlt) hc1
          have hnx : ∀ ty, (Instr.next (.pointer (some ⟨w.heap.size, 0, none⟩)) true ty).run Tryz.prog (w.iter (str d) pos) = .ok (.tuple #[.bool true, .int .i64 pos, .int .i32 ((d.getD pos 0).toNat : Nat)]) (w.iter (str d) (pos + 1)) := fun ty => by
            rw [run_next_any w (str d) pos ty hlt, hdec]
          clear hdec
          by_cases hc2 : dval (d.getD pos 0).toNat < base
          · have HG2 : Hid (∀ i, i < pos + 1 → (d.getD i 0).toNat < 128 ∧ dval (d.getD i 0).toNat < base) := Lib.hid (fun i hi => by
              rcases Nat.lt_or_ge i pos with h | h
              · exact HG.out i h
              · obtain rfl : i = pos := by omega
                exact ⟨hc1, hc2⟩)
            clear HG
            generalize (d.getD pos 0).toNat = c at *
            have hdv : decide (dval c < base) = true := by simpa using hc2
            go_wp2_with fail
            refine (digitOf_any c hc1 _).mono ?_
            rintro e w' ⟨rfl, rfl⟩
            go_wp2_with fail
            refine (demand_yes _ _).mono ?_
            rintro e w' ⟨rfl, rfl⟩
            go_wp2
            go_roundw
            case rel => exact ⟨pos + 1, by omega, HG2, rfl⟩
            case measure => simp; omega
          · clear HG
            generalize (d.getD pos 0).toNat = c at *
            have hdv : decide (dval c < base) = false := by simpa using hc2
            go_wp2_with fail
            refine (digitOf_any c hc1 _).mono ?_
            rintro e w' ⟨rfl, rfl⟩
            go_wp2_with fail
            refine (demand_no _ _).mono ?_
            rintro e w' ⟨rfl, rfl⟩
            go_wp2
            exact ⟨rfl, rfl, (Below.refl _ _).alloc (Nat.le_refl _) _⟩
        · clear HG
          obtain ⟨hr1, hr2⟩ := decode_high (str d) pos hlt (by rw [str_get]; omega)
          have hr3 := decode_le (str d) pos
          have hnx := fun ty => run_next_any (P := Tryz.prog) w (str d) pos ty hlt
          generalize (Utf8.decode (str d) pos).1 = c at *
          generalize (Utf8.decode (str d) pos).2 = k at *
          have hdv : decide ((36 : Int) < base) = false := by rw [decide_eq_false_iff_not]; omega
          clear hc1
          go_wp2_with fail
          refine (digitOf_high c hr1 hr3 _).mono ?_
          rintro e w' ⟨rfl, rfl⟩
          go_wp2_with fail
          refine (demand_no _ _).mono ?_
          rintro e w' ⟨rfl, rfl⟩
          go_wp2
          exact ⟨rfl, rfl, (Below.refl _ _).alloc (Nat.le_refl _) _⟩
      · have hnx : ∀ ty, (Instr.next (.pointer (some ⟨w.heap.size, 0, none⟩)) true ty).run Tryz.prog (w.iter (str d) pos) = _ := fun ty => run_next_end w (str d) pos ty hlt
        have hall : Digs base d := fun c hc => by
          obtain ⟨i, hi, rfl⟩ := List.getElem_of_mem hc
          have := HG.out i (by have := HSZ.out; omega)
          rw [List.getD_eq_getElem?_getD, List.getElem?_eq_getElem hi] at this
          exact this
        have hz : ¬ (d.head? ≠ some 48 ∨ l = [48]) := fun h => HBAD.out ⟨HNE.out, hall, h⟩
        have hz1 : d.head? = some 48 := Decidable.byContradiction fun h => hz (.inl h)
        have hz2 : l ≠ [48] := fun h => hz (.inr h)
        have h48 : (((str d)[0]'hs0).toNat : Int) = 48 := by
          rw [str_get d 0 hs0]
          cases d with
          | nil => simp at hz1
          | cons c r => simp at hz1; subst hz1; rfl
        have htl : (full.toList == [48]) = false := by rw [HL.out, beq_eq_false_iff_ne]; exact hz2
        clear HG hall hz hz1 hz2
        go_wp2_with fail
        refine (demand_no _ _).mono ?_
        rintro e w' ⟨rfl, rfl⟩
        go_wp2
        exact ⟨rfl, rfl, (Below.refl _ _).alloc (Nat.le_refl _) _⟩
set_option maxRecDepth 100000 in
set_option maxHeartbeats 800000 in
theorem split_bad_false (l d : List UInt8) (base : Nat) (hbs : base ≤ 36) (hcut : ∀ w, Calls Tryz.prog 238 #[.string (str l), .string ⟨#[45]⟩] w fun e w' => e = .returned (.tuple #[.string (str d), .bool false]) ∧ w = w') (hm : d.length ≤ 80000) (hbad : ¬ FormD l d base) (w : World) :
    Calls Tryz.prog 204 #[.string (str l), .int .i64 base] w fun e w' => e = .panicked (chainOf 1) ∧ Below w.heap.size w w' := by
  have HCUT := Lib.hid (hcut w); clear hcut
  have hsz : (str d).size = d.length := rfl
  have hsm : (str d).size ≤ 80000 := hm
  have HSZ := Lib.hid hsz; clear hsz hm
  have HBAD := Lib.hid hbad; clear hbad
  have HL : Hid ((str l).toList = l) := Lib.hid (by rw [Lib.toList_data, str_data])
  generalize str l = full at *
  go_enter Tryz.func204, Tryz.ntmps204
  go_wp2_with fail
  refine (mark_below _).mono ?_
  rintro e w' ⟨rfl, rfl⟩
  go_wp2_with fail
  refine HCUT.out.mono ?_
  rintro e w' ⟨rfl, rfl⟩
  go_wp2_with fail
  by_cases hne : d = []
  · rw [show (!(str d).toList.isEmpty) = false from by rw [Lib.toList_data, str_data, hne]; rfl]
    refine (demand_no _ _).mono ?_
    rintro e w' ⟨rfl, rfl⟩
    go_wp2
    exact ⟨rfl, rfl, Below.refl _ _⟩
  · have hs0 : 0 < (str d).size := by rw [str_size]; exact List.length_pos_iff.2 hne
    rw [show (!(str d).toList.isEmpty) = true from by rw [Lib.toList_data, str_data]; cases d <;> simp_all]
    have HNE := Lib.hid hne; clear hne
    refine (demand_yes _ _).mono ?_
    rintro e w' ⟨rfl, rfl⟩
    go_wp2_with fail
    go_loopw [] (fun wr => ∃ pos : Nat, pos ≤ (str d).size ∧ Hid (∀ i, i < pos → (d.getD i 0).toNat < 128 ∧ dval (d.getD i 0).toNat < base) ∧ wr = w.iter (str d) pos) (fun wr => (str d).size - wr.iterPos w.heap.size)
    case atStart => exact ⟨0, Nat.zero_le _, Lib.hid (fun i h => absurd h (by omega)), rfl⟩
    case round =>
      obtain ⟨pos, hp, HG, rfl⟩ := hrel
      by_cases hlt : pos < (str d).size
      · by_cases hc1 : (d.getD pos 0).toNat < 128
        · have hdec := decode_at d pos (by rw [← HSZ.out]; exact hlt) hc1
          have hnx : ∀ ty, (Instr.next (.pointer (some ⟨w.heap.size, 0, none⟩)) true ty).run Tryz.prog (w.iter (str d) pos) = .ok (.tuple #[.bool true, .int .i64 pos, .int .i32 ((d.getD pos 0).toNat : Nat)]) (w.iter (str d) (pos + 1)) := fun ty => by
            rw [run_next_any w (str d) pos ty hlt, hdec]
          clear hdec
          by_cases hc2 : dval (d.getD pos 0).toNat < base
          · have HG2 : Hid (∀ i, i < pos + 1 → (d.getD i 0).toNat < 128 ∧ dval (d.getD i 0).toNat < base) := Lib.hid (fun i hi => by
              rcases Nat.lt_or_ge i pos with h | h
              · exact HG.out i h
              · obtain rfl : i = pos := by omega
                exact ⟨hc1, hc2⟩)
            clear HG
            generalize (d.getD pos 0).toNat = c at *
            have hdv : decide (dval c < base) = true := by simpa using hc2
            go_wp2_with fail
            refine (digitOf_any c hc1 _).mono ?_
            rintro e w' ⟨rfl, rfl⟩
            go_wp2_with fail
            refine (demand_yes _ _).mono ?_
            rintro e w' ⟨rfl, rfl⟩
            go_wp2
            go_roundw
            case rel => exact ⟨pos + 1, by omega, HG2, rfl⟩
            case measure => simp; omega
          · clear HG
            generalize (d.getD pos 0).toNat = c at *
            have hdv : decide (dval c < base) = false := by simpa using hc2
            go_wp2_with fail
            refine (digitOf_any c hc1 _).mono ?_
            rintro e w' ⟨rfl, rfl⟩
            go_wp2_with fail
            refine (demand_no _ _).mono ?_
            rintro e w' ⟨rfl, rfl⟩
            go_wp2
            exact ⟨rfl, rfl, (Below.refl _ _).alloc (Nat.le_refl _) _⟩
        · clear HG
          obtain ⟨hr1, hr2⟩ := decode_high (str d) pos hlt (by rw [str_get]; omega)
          have hr3 := decode_le (str d) pos
          have hnx := fun ty => run_next_any (P := Tryz.prog) w (str d) pos ty hlt
          generalize (Utf8.decode (str d) pos).1 = c at *
          generalize (Utf8.decode (str d) pos).2 = k at *
          have hdv : decide ((36 : Int) < base) = false := by rw [decide_eq_false_iff_not]; omega
          clear hc1
          go_wp2_with fail
          refine (digitOf_high c hr1 hr3 _).mono ?_
          rintro e w' ⟨rfl, rfl⟩
          go_wp2_with fail
          refine (demand_no _ _).mono ?_
          rintro e w' ⟨rfl, rfl⟩
          go_wp2
          exact ⟨rfl, rfl, (Below.refl _ _).alloc (Nat.le_refl _) _⟩
      · have hnx : ∀ ty, (Instr.next (.pointer (some ⟨w.heap.size, 0, none⟩)) true ty).run Tryz.prog (w.iter (str d) pos) = _ := fun ty => run_next_end w (str d) pos ty hlt
        have hall : Digs base d := fun c hc => by
          obtain ⟨i, hi, rfl⟩ := List.getElem_of_mem hc
          have := HG.out i (by have := HSZ.out; omega)
          rw [List.getD_eq_getElem?_getD, List.getElem?_eq_getElem hi] at this
          exact this
        have hz : ¬ (d.head? ≠ some 48 ∨ l = [48]) := fun h => HBAD.out ⟨HNE.out, hall, h⟩
        have hz1 : d.head? = some 48 := Decidable.byContradiction fun h => hz (.inl h)
        have hz2 : l ≠ [48] := fun h => hz (.inr h)
        have h48 : (((str d)[0]'hs0).toNat : Int) = 48 := by
          rw [str_get d 0 hs0]
          cases d with
          | nil => simp at hz1
          | cons c r => simp at hz1; subst hz1; rfl
        have htl : (full.toList == [48]) = false := by rw [HL.out, beq_eq_false_iff_ne]; exact hz2
        clear HG hall hz hz1 hz2
        go_wp2_with fail
        refine (demand_no _ _).mono ?_
        rintro e w' ⟨rfl, rfl⟩
        go_wp2
        exact ⟨rfl, rfl, (Below.refl _ _).alloc (Nat.le_refl _) _⟩
theorem split_bad (l : List UInt8) (base : Nat) (hbs : base ≤ 36) (hm : l.length ≤ 80000) (hbad : ¬ Form base l) (w : World) :
    Calls Tryz.prog 204 #[.string (str l), .int .i64 base] w fun e w' => e = .panicked (chainOf 1) ∧ Below w.heap.size w w' := by
  unfold Form behind at hbad
  by_cases h : l.head? = some 45
  · rw [if_pos h] at hbad
    cases l with
    | nil => simp at h
    | cons c r =>
      simp at h
      subst h
      exact split_bad_true (45 :: r) r base hbs (fun w => cut_yes r (by simp at hm; omega) w) (by simp at hm; omega) hbad w
  · rw [if_neg h] at hbad
    exact split_bad_false l l base hbs (fun w => cut_no l (by omega) h w) hm hbad w
end Go.Proofs.YteaeloeebfdodaaGreatDoor

namespace Go.Proofs.YteaeloeebfdodaaGreatDoor
open Go.RowKit
theorem dval_dec {c : Nat} (h : dval c < 10) : 48 ≤ c ∧ c ≤ 57 := by
  unfold dval at h
  split at h
  · assumption
  · split at h <;> omega
theorem form_decI {l : List UInt8} (h : Form 10 l) : ∃ x : Int, l = Wh.decI x := by
  obtain ⟨hne, hd, hl⟩ := h
  have hdg : ∀ c ∈ behind l, Wh.isD c := fun c hc => dval_dec (hd c hc).2
  have hz : (behind l).headD 0 ≠ 48 ∨ (behind l).length = 1 := by
    rcases hl with h | h
    · left
      cases hb : behind l with
      | nil => exact absurd hb hne
      | cons c r => rw [hb] at h; simpa using h
    · right; rw [h]; rfl
  have hn := Wh.decN_numOf hdg hne hz
  by_cases hm : l.head? = some 45
  · have hb : l = 45 :: behind l := by
      unfold behind
      rw [if_pos hm]
      cases l with
      | nil => simp at hm
      | cons c r => simp at hm; subst hm; rfl
    have h0 : Wh.numOf (behind l) ≠ 0 := fun e => by
      rw [e, Wh.decN_zero] at hn
      rcases hl with h | h
      · rw [← hn] at h; simp at h
      · rw [h] at hm; simp at hm
    refine ⟨-(Wh.numOf (behind l) : Int), ?_⟩
    unfold Wh.decI
    rw [if_pos (by omega), Int.natAbs_neg, Int.natAbs_natCast, hn]
    exact hb
  · have hb : behind l = l := by unfold behind; rw [if_neg hm]
    refine ⟨(Wh.numOf (behind l) : Int), ?_⟩
    unfold Wh.decI
    rw [if_neg (by omega), Int.natAbs_natCast, hn, hb]
theorem behind_dec (x : Int) : behind (Wh.decI x) = Wh.decN x.natAbs := by
  unfold behind Wh.decI
  by_cases h : x < 0
  · rw [if_pos h]; simp
  · rw [if_neg h, if_neg (head_digit _)]
theorem dec_form (x : Int) : Form 10 (Wh.decI x) := by
  unfold Form
  rw [behind_dec]
  refine ⟨Wh.decN_ne _, digs_dec _, ?_⟩
  rcases head_zero x.natAbs with h | h
  · exact .inl h
  · right
    have h0 : x.natAbs = 0 := by
      have := Wh.numOf_decN x.natAbs
      rw [h] at this
      exact this.symm
    have : x = 0 := by omega
    subst this
    unfold Wh.decI
    rw [if_neg (by omega)]
    exact Wh.decN_zero
def Bad (l : List UInt8) (c : Int) : Prop := (¬ Form 10 l ∧ c = 1) ∨ (∃ x, l = Wh.decI x ∧ ¬ Valid x ∧ c = 13)
theorem good_or_bad (l : List UInt8) : (∃ x, l = Wh.decI x ∧ Valid x) ∨ ∃ c, Bad l c := by
  by_cases h : Form 10 l
  · obtain ⟨x, hx⟩ := form_decI h
    by_cases hv : Valid x
    · exact .inl ⟨x, hx, hv⟩
    · exact .inr ⟨13, .inr ⟨x, hx, hv, rfl⟩⟩
  · exact .inr ⟨1, .inl ⟨h, rfl⟩⟩
theorem decI_len (x : Int) : (Wh.decN x.natAbs).length ≤ (Wh.decI x).length := by
  unfold Wh.decI
  split
  · simp
  · exact Nat.le_refl _
theorem split_long (x : Int) (hv : (Wh.decN x.natAbs).length ≤ 80000) (w : World) :
    Calls Tryz.prog 204 #[txt x, .int .i64 10] w fun e w' => e = .returned (.tuple #[.int .i64 (if x < 0 then -1 else 1), .string (str (Wh.decN x.natAbs))]) ∧ Below w.heap.size w w' := by
  by_cases h : x < 0
  · rw [if_pos h]
    have hz : (Wh.decN x.natAbs).head? ≠ some 48 := by
      rcases head_zero x.natAbs with h' | h'
      · exact h'
      · have := Wh.numOf_decN x.natAbs
        rw [h'] at this
        have e : Wh.numOf [48] = 0 := rfl
        omega
    have := split_neg (Wh.decN x.natAbs) 10 (digs_dec _) (Wh.decN_ne _) (by omega) hz w
    unfold txt Wh.decI; rw [if_pos h]; exact this
  · rw [if_neg h]
    have := split_pos (Wh.decN x.natAbs) 10 (digs_dec _) (Wh.decN_ne _) (by omega) (head_digit _) (head_zero _) w
    unfold txt Wh.decI; rw [if_neg h]; exact this
set_option maxHeartbeats 400000 in
theorem check_form (l : List UInt8) (hm : l.length ≤ 80000) (h : ¬ Form 10 l) (w : World) :
    Calls Tryz.prog 107 #[.string (str l)] w fun e w' => e = .panicked (chainOf 1) ∧ Below w.heap.size w w' := by
  have HW : Hid (∀ w, Calls Tryz.prog 121 #[.string (str l), .int .i64 10] w fun e w' => e = .panicked (chainOf 1) ∧ Below w.heap.size w w') := Lib.hid fun w => by
    have H := Lib.hid (split_bad l 10 (by decide) hm h w)
    generalize str l = s at *
    go_enter Tryz.func121, Tryz.ntmps121
    go_wp2_with fail
    refine H.out.mono ?_
    rintro e w1 ⟨rfl, hb1⟩
    go_wp2
    exact ⟨rfl, rfl, hb1⟩
  generalize str l = s at *
  go_enter Tryz.func107, Tryz.ntmps107
  go_wp2_with fail
  refine (HW.out _).mono ?_
  rintro e w1 ⟨rfl, hb1⟩
  go_wp2
  exact ⟨rfl, rfl, hb1⟩
set_option maxHeartbeats 400000 in
theorem width_big (x : Int) (hv : (Wh.decN x.natAbs).length ≤ 80000) (w : World) :
    Calls Tryz.prog 121 #[txt x, .int .i64 10] w fun e w' => e = .returned (.int .i64 (Wh.decN x.natAbs).length) ∧ Below w.heap.size w w' := by
  have H := Lib.hid (split_long x hv)
  have hz : (str (Wh.decN x.natAbs)).size = (Wh.decN x.natAbs).length := rfl
  have hz2 : (str (Wh.decN x.natAbs)).size ≤ 80000 := hv
  unfold txt at *
  generalize str (Wh.decI x) = s at *
  generalize str (Wh.decN x.natAbs) = d at *
  generalize (if x < 0 then (-1 : Int) else 1) = sg at *
  have HZ := Lib.hid hz; clear hz
  go_enter Tryz.func121, Tryz.ntmps121
  go_wp2_with fail
  refine (H.out _).mono ?_
  rintro e w1 ⟨rfl, hb1⟩
  go_wp2
  go_ret
  exact ⟨by rw [← HZ.out]; rfl, hb1⟩
set_option maxHeartbeats 400000 in
theorem check_large (x : Int) (hm : (Wh.decN x.natAbs).length ≤ 80000) (hv : ¬ Valid x) (w : World) :
    Calls Tryz.prog 107 #[txt x] w fun e w' => e = .panicked (chainOf 13) ∧ Below w.heap.size w w' := by
  have H := Lib.hid (width_big x hm)
  unfold Valid at hv
  unfold txt at *
  generalize str (Wh.decI x) = s at *
  generalize (Wh.decN x.natAbs).length = n at *
  have hd2 : decide ((n : Int) ≤ 400) = false := by simp; omega
  go_enter Tryz.func107, Tryz.ntmps107
  go_wp2_with fail
  refine (H.out _).mono ?_
  rintro e w1 ⟨rfl, hb1⟩
  go_wp2_with fail
  refine (demand_no _ _).mono ?_
  rintro e w2 ⟨rfl, rfl⟩
  go_wp2
  exact ⟨rfl, rfl, hb1⟩
theorem check_bad (l : List UInt8) (c : Int) (hm : l.length ≤ 80000) (h : Bad l c) (w : World) :
    Calls Tryz.prog 107 #[.string (str l)] w fun e w' => e = .panicked (chainOf c) ∧ Below w.heap.size w w' := by
  rcases h with ⟨h, rfl⟩ | ⟨x, rfl, h, rfl⟩
  · exact check_form l hm h w
  · exact check_large x (Nat.le_trans (decI_len x) hm) h w
set_option maxHeartbeats 400000 in
theorem read_bad (l : List UInt8) (c : Int) (hm : l.length ≤ 80000) (h : Bad l c) (w : World) :
    Calls Tryz.prog 95 #[.string (str l)] w fun e w' => e = .panicked (chainOf c) ∧ Below w.heap.size w w' := by
  have H1 := Lib.hid (check_bad l c hm h)
  clear h hm
  generalize str l = s at *
  go_enter Tryz.func95, Tryz.ntmps95
  go_wp2_with fail
  refine (H1.out _).mono ?_
  rintro e w1 ⟨rfl, hb1⟩
  have hbb : Below w.heap.size w w1 := ((Below.refl _ _).alloc (Nat.le_refl _) _).trans (hb1.mono (by simp))
  clear hb1
  go_wp2
  exact ⟨rfl, rfl, hbb⟩
end Go.Proofs.YteaeloeebfdodaaGreatDoor

namespace Go.Proofs.YteaeloeebfdodaaGreatDoor
open Go.RowKit Go.Proofs.Rf
structure DecL (l : List UInt8) : Prop where
  ne : l ≠ []
  dig : ∀ c ∈ l, 48 ≤ c.toNat ∧ c.toNat ≤ 57
  head : l.headD 0 ≠ 48 ∨ l.length = 1
  len : l.length ≤ 15
theorem DecL.at {l : List UInt8} (h : DecL l) {i : Nat} (hi : i < l.length) : 48 ≤ (l.getD i 0).toNat ∧ (l.getD i 0).toNat ≤ 57 := by
  rw [List.getD_eq_getElem?_getD, List.getElem?_eq_getElem hi]; exact h.dig _ (List.getElem_mem hi)
theorem DecL.pos {l : List UInt8} (h : DecL l) : 0 < l.length := List.length_pos_iff.2 h.ne
set_option maxHeartbeats 400000 in
theorem neg_dec (l : List UInt8) (h : DecL l) (w : World) :
    Calls Tryz.prog 41 #[.string (str l)] w fun e w' => e = .returned (.bool false) ∧ w = w' := by
  have hs0 : 0 < (str l).size := h.pos
  have hc := h.at h.pos
  have h45 : ((((str l)[0]'hs0).toNat : Int) == 45) = false := by rw [beq_eq_false_iff_ne, str_get l 0 hs0]; omega
  have hsz : (str l).size ≤ 15 := h.len
  clear h hc
  go_enter Tryz.func41, Tryz.ntmps41
  go_wp2
  go_ret
  exact ⟨rfl, rfl⟩
set_option maxHeartbeats 400000 in
theorem abs_dec (l : List UInt8) (h : DecL l) (w : World) :
    Calls Tryz.prog 20 #[.string (str l)] w fun e w' => e = .returned (.string (str l)) ∧ w = w' := by
  have H := Lib.hid h; clear h
  go_enter Tryz.func20, Tryz.ntmps20
  go_wp2_with fail
  refine (neg_dec l H.out _).mono ?_
  rintro e w' ⟨rfl, rfl⟩
  go_wp2
  go_ret
  exact ⟨rfl, rfl⟩
theorem digits_loop (l : List UInt8) (H : Hid (DecL l)) (k : Nat) (hlt : k < (str l).size) : ∃ c : Nat, (((str l)[k]'hlt).toNat : Int) = (c : Int) ∧ (l.getD k 0).toNat = c ∧ 48 ≤ c ∧ c ≤ 57 := by
  have hc := H.out.at (i := k) hlt
  exact ⟨(l.getD k 0).toNat, by rw [str_get l k hlt], rfl, hc.1, hc.2⟩
set_option maxHeartbeats 400000 in
theorem digits_dec (l : List UInt8) (h : DecL l) (w : World) :
    Calls Tryz.prog 254 #[.string (str l)] w fun e w' => e = .returned (.bool true) ∧ w = w' := by
  have hs0 : 0 < (str l).size := h.pos
  have hsz : (str l).size ≤ 15 := h.len
  have H := Lib.hid h
  have hh : ((str l).size = 1) ∨ (1 < (str l).size ∧ ((((str l)[0]'hs0).toNat : Int) == 48) = false) := by
    by_cases h1 : (str l).size = 1
    · exact .inl h1
    · right
      refine ⟨by omega, ?_⟩
      rcases h.head with h2 | h2
      · rw [beq_eq_false_iff_ne, str_get l 0 hs0]
        intro e
        apply h2
        have e2 : l.getD 0 0 = 48 := UInt8.toNat_inj.1 (show (l.getD 0 0).toNat = 48 by omega)
        rw [← e2]; cases l <;> rfl
      · exact absurd h2 h1
  clear h
  rcases hh with h1 | ⟨h1, h2⟩
  case' inr =>
    have h0 : ((((str l).size : Nat) : Int) == 0) = false := by rw [beq_eq_false_iff_ne]; omega
    have h3 : decide ((1 : Int) < ((str l).size : Nat)) = true := by rw [decide_eq_true_iff]; omega
  all_goals
    go_enter Tryz.func254, Tryz.ntmps254
    go_wp2_with fail
    go_loopw [3] (fun i wr => ∃ k : Nat, k ≤ (str l).size ∧ i = .int .i64 k ∧ wr = w) (fun i _ => (str l).size - (intOf i).toNat)
    case atStart => exact ⟨0, Nat.zero_le _, rfl, rfl⟩
    case round =>
      obtain ⟨k, hk, rfl, rfl⟩ := hrel
      by_cases hlt : k < (str l).size
      · have hd : decide ((k : Int) < ((str l).size : Nat)) = true := by simpa using hlt
        obtain ⟨c, hx, _, hc1, hc2⟩ := digits_loop l H k hlt
        have hlo : decide ((c : Int) < 48) = false := by rw [decide_eq_false_iff_not]; omega
        have hhi : decide ((57 : Int) < (c : Int)) = false := by rw [decide_eq_false_iff_not]; omega
        go_wp2_with fail
        go_roundw
        case rel => exact ⟨k + 1, by omega, by simp, trivial⟩
        case measure => simp [intOf]; omega
      · have hd : decide ((k : Int) < ((str l).size : Nat)) = false := by simpa using hlt
        go_wp2_with fail
        go_ret
        exact ⟨rfl, rfl⟩
set_option maxHeartbeats 400000 in
theorem form_dec (l : List UInt8) (h : DecL l) (w : World) :
    Calls Tryz.prog 186 #[.string (str l)] w fun e w' => e = .returned (.bool true) ∧ w = w' := by
  have hb : ((str l).toList == [45, 48]) = false := by
    rw [Lib.toList_data, str_data, beq_eq_false_iff_ne]
    intro e
    have := h.dig 45 (by rw [e]; simp)
    exact absurd this.1 (by decide)
  have H := Lib.hid h; clear h
  have HB := Lib.hid hb; clear hb
  go_enter Tryz.func186, Tryz.ntmps186
  go_wp2_with fail
  refine (abs_dec l H.out _).mono ?_
  rintro e w' ⟨rfl, rfl⟩
  go_wp2_with fail
  refine (digits_dec l H.out _).mono ?_
  rintro e w' ⟨rfl, rfl⟩
  go_wp2_with fail
  rw [HB.out]
  go_ret
  exact ⟨rfl, rfl⟩
theorem numOf_take_le (l : List UInt8) (k : Nat) (hl : l.length ≤ 15) (hd : ∀ c ∈ l, 48 ≤ c.toNat ∧ c.toNat ≤ 57) : Wh.numOf (l.take k) < 1000000000000000 := by
  have h1 : ∀ c ∈ l.take k, 48 ≤ c.toNat ∧ c.toNat ≤ 57 := fun c hc => hd c (List.mem_of_mem_take hc)
  have h2 : (l.take k).length ≤ 15 := by rw [List.length_take]; omega
  have h3 := Wh.numOf_lt h1
  exact Nat.lt_of_lt_of_le h3 (Nat.le_trans (Nat.pow_le_pow_right (by decide) h2) (by decide))
set_option maxHeartbeats 400000 in
theorem ToInt_dec (l : List UInt8) (h : DecL l) (w : World) :
    Calls Tryz.prog 129 #[.string (str l)] w fun e w' => e = .returned (.tuple #[.int .i64 (Wh.numOf l : Nat), .bool true]) ∧ w = w' := by
  have hsz : (str l).size ≤ 15 := h.len
  have H := Lib.hid h; clear h
  go_enter Tryz.func129, Tryz.ntmps129
  go_wp2_with fail
  refine (abs_dec l H.out _).mono ?_
  rintro e w' ⟨rfl, rfl⟩
  go_wp2_with fail
  refine (form_dec l H.out _).mono ?_
  rintro e w' ⟨rfl, rfl⟩
  have h15 : decide ((15 : Int) < ((str l).size : Nat)) = false := by rw [decide_eq_false_iff_not]; omega
  go_wp2_with fail
  go_loopw [5, 6] (fun a i wr => ∃ k : Nat, k ≤ (str l).size ∧ i = .int .i64 k ∧ a = .int .i64 (Wh.numOf (l.take k) : Nat) ∧ wr = w) (fun _ i _ => (str l).size - (intOf i).toNat)
  case atStart => exact ⟨0, Nat.zero_le _, rfl, rfl, rfl⟩
  case round =>
    obtain ⟨k, hk, rfl, rfl, rfl⟩ := hrel
    by_cases hlt : k < (str l).size
    · have hd : decide ((k : Int) < ((str l).size : Nat)) = true := by rw [decide_eq_true_iff]; omega
      obtain ⟨c, hx, hcc, hc1, hc2⟩ := digits_loop l H k hlt
      have hnx : Wh.numOf (l.take (k + 1)) = 10 * Wh.numOf (l.take k) + (c - 48) := by
        rw [Wh.numOf_take_succ l k hlt, ← hcc]; rfl
      have hlim := numOf_take_le l k H.out.len H.out.dig
      have HNX := Lib.hid hnx; clear hnx hcc
      generalize Wh.numOf (l.take k) = v at *
      go_wp2_with fail
      go_roundw
      case rel => exact ⟨k + 1, by omega, by simp, by rw [HNX.out]; congr 1; omega, trivial⟩
      case measure => simp [intOf]; omega
    · have hd : decide ((k : Int) < ((str l).size : Nat)) = false := by rw [decide_eq_false_iff_not]; omega
      have hkl : l.take k = l := List.take_of_length_le (by have : (str l).size = l.length := rfl; omega)
      rw [hkl]
      go_wp2_with fail
      refine (neg_dec l H.out _).mono ?_
      rintro e w' ⟨rfl, rfl⟩
      go_wp2_with fail
      go_ret2
      exact ⟨rfl, rfl⟩
end Go.Proofs.YteaeloeebfdodaaGreatDoor

namespace Go.Proofs.YteaeloeebfdodaaGreatDoor
def Low (m p : Nat) : Prop := ∀ d, 2 ≤ d → d < p → m % d ≠ 0
theorem low_two (m : Nat) : Low m 2 := fun d h2 hd => by omega
structure PAt (n : Nat) (i P L m : Nat) : Prop where
  rest : (pr (n + 1) 2 n).drop i = pr (m + 1) L m
  prod : P * m = n
  low : Low m L
  last : 2 ≤ L
  pos : 1 ≤ m
  le : i ≤ (pr (n + 1) 2 n).length
theorem PAt.start (n : Nat) (hn : 1 ≤ n) : PAt n 0 1 2 n := ⟨rfl, Nat.one_mul n, low_two n, Nat.le_refl 2, hn, Nat.zero_le _⟩
theorem PAt.more {n i P L m : Nat} (h : PAt n i P L m) (hi : i < (pr (n + 1) 2 n).length) : 1 < m := by
  rcases Nat.lt_or_ge 1 m with h1 | h1
  · exact h1
  · exfalso
    have := h.rest
    have e0 : pr (m + 1) L m = [] := by rw [pr, if_pos h1]
    rw [e0] at this
    have := congrArg List.length this
    simp only [List.length_drop, List.length_nil] at this
    omega
theorem PAt.fin {n i P L m : Nat} (h : PAt n i P L m) (hi : ¬ i < (pr (n + 1) 2 n).length) : P = n := by
  have hr := h.rest
  have h0 : (pr (n + 1) 2 n).drop i = [] := List.drop_eq_nil_of_le (by omega)
  rw [h0] at hr
  have hm : m = 1 := by
    rcases Nat.lt_or_ge 1 m with h1 | h1
    · rw [pr_step h.last h1] at hr; cases hr
    · have := h.pos; omega
  have := h.prod
  rw [hm, Nat.mul_one] at this
  exact this
end Go.Proofs.YteaeloeebfdodaaGreatDoor

namespace Go.Proofs.YteaeloeebfdodaaGreatDoor
open Go.RowKit Go.Proofs.Rf
set_option maxRecDepth 100000
end Go.Proofs.YteaeloeebfdodaaGreatDoor

namespace Go.Proofs.YteaeloeebfdodaaGreatDoor
open Go.RowKit Go.Proofs.Rf
def OI (S : ByteArray) (n m r : Nat) (ch : UInt8) : Nat → Value → World → Prop
  | 0, v, _ => v = .int .i64 n
  | 1, v, _ => v = .int .i64 m
  | 2, v, _ => v = .string S
  | 3, v, _ => v = .int .i64 n
  | 4, v, _ => v = .int .i64 r
  | 5, v, _ => v = .int .i64 (48 + (r : Int))
  | 6, v, _ => v = .int .u8 (48 + (r : Int))
  | 7, v, w => ∃ g, v = .slice (some ⟨g, 0, none⟩) 1 1 ∧ OwnB w g [ch] ∧ g < w.heap.size
  | 8, v, _ => v = .string (str [ch])
  | 9, v, _ => v = .string (S ++ str [ch])
  | 10, v, _ => v = .string (S ++ str [ch])
  | _, _, _ => True
theorem OI_stays (S : ByteArray) (n m r : Nat) (ch : UInt8) : ∀ i v w w', OI S n m r ch i v w → Below w.heap.size w w' → OI S n m r ch i v w' := by
  intro i v w w' h hb
  match i, h with
  | 0, h => exact h
  | 1, h => exact h
  | 2, h => exact h
  | 3, h => exact h
  | 4, h => exact h
  | 5, h => exact h
  | 6, h => exact h
  | 7, h => obtain ⟨g, e, h1, h2⟩ := h; exact ⟨g, e, h1.mono hb h2, Nat.lt_of_lt_of_le h2 hb.size⟩
  | 8, h => exact h
  | 9, h => exact h
  | 10, h => exact h
  | _ + 11, h => exact trivial
set_option maxRecDepth 100000
set_option maxHeartbeats 600000 in
theorem OfInt_any : ∀ (n : Nat), n ≤ 1000000000000000000 → ∀ w : World, Calls Tryz.prog 85 #[.int .i64 n] w fun e w' => e = .returned (.string (str (Wh.decN n))) ∧ Below w.heap.size w w' := by
  intro n
  induction n using Nat.strongRecOn with
  | ind n ih =>
    intro hn w
    have hneg : decide ((n : Int) < 0) = false := by rw [decide_eq_false_iff_not]; omega
    by_cases h10 : n < 10
    · have h1 : decide ((n : Int) < 10) = true := by rw [decide_eq_true_iff]; omega
      have HB := Lib.hid (digit_block w n h10 5 (UInt8.ofNat (48 + n)) rfl)
      rw [Wh.decN_small h10]
      generalize UInt8.ofNat (48 + n) = ch at *
      clear ih
      go_enter Tryz.func85, Tryz.ntmps85
      go_wp2
      rw [run_string_back HB.out 1 1 rfl]
      go_wp2
      go_ret
      exact ⟨rfl, (Below.refl w.heap.size w).alloc (Nat.le_refl _) _⟩
    · have h1 : decide ((n : Int) < 10) = false := by rw [decide_eq_false_iff_not]; omega
      have IH := Lib.hid (ih (n / 10) (by omega) (by omega)); clear ih
      have HDB := Lib.hid fun w : World => digit_block w (n % 10) (Nat.mod_lt _ (by decide)) 5 (UInt8.ofNat (48 + n % 10)) rfl
      have hle : (Wh.decN (n / 10)).length ≤ 19 := Wh.decN_length_le (k := 19) (by decide) (by have : (10 : Nat) ^ 19 = 10000000000000000000 := rfl; omega)
      rw [Wh.decN_big h10]
      have q1 : (n : Int) / 10 = ((n / 10 : Nat) : Int) := by omega
      have q2 : (n : Int) % 10 = ((n % 10 : Nat) : Int) := by omega
      generalize UInt8.ofNat (48 + n % 10) = ch at *
      have hr : n % 10 < 10 := Nat.mod_lt _ (by decide)
      generalize n / 10 = m at *
      generalize n % 10 = r at *
      rw [← str_app]
      have hs : (str (Wh.decN m)).size ≤ 19 := hle
      have HNO : Hid (¬ (9223372036854775807 < (str (Wh.decN m)).size + (str [ch]).size)) := Lib.hid (by have : (str [ch]).size = 1 := rfl; omega)
      clear hle
      generalize str (Wh.decN m) = S at *
      have HQ := Lib.hid (And.intro q1 q2); clear q1 q2
      go_enter Tryz.func85, Tryz.ntmps85
      go_wp2_with fail
      refine wp_mono (Q := fun e a' W' => e = .normal ∧ (∃ (vals : Nat → Value), vals 10 = .string (S ++ str [ch]) ∧ a' = { tmps := #[.int .i64 n, undef, vals 10, .int .i64 n, .bool false, undef, undef, undef, undef, .int .i64 n, .bool false, undef, undef, undef, undef, undef, vals 0, vals 1, vals 2, vals 3, vals 4, vals 5, vals 6, vals 7, vals 8, vals 9], defers := [] }) ∧ Below w.heap.size w W') ?_ ?_
      refine Rt.wp_region_grow (n0 := 0) [] [] 26 (fun vals => { tmps := #[.int .i64 n, undef, vals 10, .int .i64 n, .bool false, undef, undef, undef, undef, .int .i64 n, .bool false, undef, undef, undef, undef, undef, vals 0, vals 1, vals 2, vals 3, vals 4, vals 5, vals 6, vals 7, vals 8, vals 9], defers := [] }) (OI S n m r ch) (by kernel_rfl) (by kernel_rfl) (by kernel_rfl) (by kernel_rfl) (fun _ _ _ _ _ h => absurd h.1 (by simp)) (by kernel_rfl) rfl (fun _ => by kernel_rfl) (by kernel_rfl) (by kernel_rfl) (OI_stays _ _ _ _ _) ?_ ?_ ?_
      · intro i o d hi hT hW hd vals w' hb hf
        have hlt : i < 11 := (Array.getElem?_eq_some_iff.1 hi).1
        rcases i with _ | _ | _ | _ | _ | _ | _ | _ | _ | _ | _ | i
        · obtain rfl := Option.some.inj hi
          obtain rfl := Option.some.inj hd
          dsimp only
          go_simp
          exact ⟨rfl, Below.refl _ _⟩
        · obtain rfl := Option.some.inj hi
          obtain rfl := Option.some.inj hd
          have e0 : vals 0 = _ := hf 0 (by kernel_rfl)
          dsimp only
          rw [e0]
          go_simp
          have hq : IntKind.i64.wrap ((n : Int) / 10) = (m : Int) := by
            have := HQ.out.1
            rw [IntKind.wrap_i64]; omega
          rw [hq]
          exact ⟨rfl, Below.refl _ _⟩
        · obtain rfl := Option.some.inj hi
          obtain rfl := Option.some.inj hd
          have e1 : vals 1 = _ := hf 1 (by kernel_rfl)
          dsimp only
          rw [e1]
          go_simp
          refine (IH.out _).mono ?_
          rintro e W ⟨rfl, hb2⟩
          exact ⟨rfl, hb2⟩
        · obtain rfl := Option.some.inj hi
          obtain rfl := Option.some.inj hd
          dsimp only
          go_simp
          exact ⟨rfl, Below.refl _ _⟩
        · obtain rfl := Option.some.inj hi
          obtain rfl := Option.some.inj hd
          have e3 : vals 3 = _ := hf 3 (by kernel_rfl)
          dsimp only
          rw [e3]
          go_simp
          have hq : ((n : Int).tmod 10) = (r : Int) := by rw [Int.tmod_eq_emod_of_nonneg (by omega)]; exact HQ.out.2
          rw [hq]
          exact ⟨rfl, Below.refl _ _⟩
        · obtain rfl := Option.some.inj hi
          obtain rfl := Option.some.inj hd
          have e4 : vals 4 = _ := hf 4 (by kernel_rfl)
          dsimp only
          rw [e4]
          go_simp
          have hq : IntKind.i64.wrap (48 + (r : Int)) = 48 + (r : Int) := by rw [IntKind.wrap_i64]; omega
          rw [hq]
          exact ⟨rfl, Below.refl _ _⟩
        · obtain rfl := Option.some.inj hi
          obtain rfl := Option.some.inj hd
          have e5 : vals 5 = _ := hf 5 (by kernel_rfl)
          dsimp only
          rw [e5]
          go_simp
          have hq : IntKind.u8.wrap (48 + (r : Int)) = 48 + (r : Int) := by rw [IntKind.wrap_u8]; omega
          rw [hq]
          exact ⟨rfl, Below.refl _ _⟩
        · obtain rfl := Option.some.inj hi
          obtain rfl := Option.some.inj hd
          have e6 : vals 6 = _ := hf 6 (by kernel_rfl)
          dsimp only
          rw [e6]
          go_simp
          exact ⟨⟨_, rfl, HDB.out _, by simp⟩, (Below.refl _ _).alloc (Nat.le_refl _) _⟩
        · obtain rfl := Option.some.inj hi
          obtain rfl := Option.some.inj hd
          obtain ⟨g7, e7, h71, h72⟩ := hf 7 (by kernel_rfl)
          dsimp only
          rw [e7]
          go_simp
          rw [run_string_back h71 1 1 rfl]
          exact ⟨rfl, rfl, Below.refl _ _⟩
        · obtain rfl := Option.some.inj hi
          obtain rfl := Option.some.inj hd
          have e2 : vals 2 = _ := hf 2 (by kernel_rfl)
          have e8 : vals 8 = _ := hf 8 (by kernel_rfl)
          dsimp only
          rw [e2, e8]
          go_simp
          rw [if_neg HNO.out]
          exact ⟨rfl, rfl, Below.refl _ _⟩
        · obtain rfl := Option.some.inj hi
          obtain rfl := Option.some.inj hd
          have e9 : vals 9 = _ := hf 9 (by kernel_rfl)
          dsimp only
          rw [e9]
          go_simp
          exact ⟨rfl, Below.refl _ _⟩
        · omega
      · intro p o d hi hW hd vals w' hb hf
        cases hW
      · intro vals w' hb hf
        have e10 : vals 10 = .string (S ++ str [ch]) := hf 10 (by decide) rfl
        exact Rt.wpAny_end (by kernel_rfl) ⟨rfl, ⟨vals, e10, rfl⟩, hb⟩
      · rintro e a' W' ⟨rfl, ⟨vals, e10, rfl⟩, hb⟩
        rw [e10]
        go_wp2
        go_ret
        exact ⟨rfl, hb⟩
end Go.Proofs.YteaeloeebfdodaaGreatDoor

namespace Go.Proofs.YteaeloeebfdodaaGreatDoor
open Go.RowKit Go.Proofs.Rf
def Il (w : World) (a : Option Addr) (n : Nat) (l : List Nat) : Prop := ∀ i, i < n → ∃ b off, a = some ⟨b, off, none⟩ ∧ b < w.heap.size ∧ ∀ i, i < n → w.cell? ⟨b, off + i, none⟩ = some (.int .i64 (l.getD i 0 : Nat))
set_option maxRecDepth 100000 in
set_option maxHeartbeats 400000 in
theorem rtrim_any (w : World) (a : Option Addr) (c : Nat) (l : List Nat) (n : Nat) (h : Il w a n l) (hn : n ≤ 100000) (hc : n ≤ c) :
    Calls Tryz.prog 180 #[.slice a n c] w fun e w' => (∃ k : Nat, e = .returned (.slice a k c) ∧ k ≤ n ∧ (∀ i, k ≤ i → i < n → l.getD i 0 = 0) ∧ (k = 0 ∨ l.getD (k - 1) 0 ≠ 0)) ∧ w = w' := by
  have H := Lib.hid h; clear h
  go_enter Tryz.func180, Tryz.ntmps180
  go_wp2_with fail
  go_loopw [0] (fun v wr => ∃ k : Nat, k ≤ n ∧ v = .slice a k c ∧ Hid (∀ i, k ≤ i → i < n → l.getD i 0 = 0) ∧ wr = w) (fun v _ => match v with | .slice _ k _ => k | _ => 0)
  case atStart => exact ⟨n, Nat.le_refl _, rfl, Lib.hid (fun i h1 h2 => by omega), rfl⟩
  case round =>
    obtain ⟨k, hk, rfl, HZ, rfl⟩ := hrel
    by_cases h0 : k = 0
    · subst h0
      go_wp2_with fail
      go_ret
      exact ⟨⟨0, rfl, Nat.zero_le _, HZ.out, .inl rfl⟩, rfl⟩
    · obtain ⟨b, off, rfl, hb, hcell⟩ := H.out (k - 1) (by omega)
      have hx := hcell (k - 1) (by omega)
      obtain ⟨m, rfl⟩ : ∃ m, k = m + 1 := ⟨k - 1, by omega⟩
      rw [Nat.add_sub_cancel] at hx
      have hgt : decide ((0 : Int) < ((m + 1 : Nat) : Int)) = true := by rw [decide_eq_true_iff]; omega
      clear hcell
      generalize hxx : l.getD m 0 = x at *
      have HXX := Lib.hid hxx; clear hxx
      by_cases hz : x = 0
      · subst hz
        go_wp2_with fail
        refine ⟨⟨m, by omega, rfl, Lib.hid fun i h1 h2 => ?_, trivial⟩, Nat.lt_succ_self m⟩
        by_cases e : i = m
        · subst e; exact HXX.out
        · exact HZ.out i (by omega) h2
      · have hz' : ((x : Int) == 0) = false := by rw [beq_eq_false_iff_ne]; omega
        go_wp2_with fail
        go_ret
        exact ⟨⟨m + 1, rfl, hk, HZ.out, .inr (by rw [Nat.add_sub_cancel, HXX.out]; exact hz)⟩, rfl⟩
end Go.Proofs.YteaeloeebfdodaaGreatDoor

namespace Go.Proofs.YteaeloeebfdodaaGreatDoor
open Go.RowKit Go.Proofs.Rf
def numB (b : Nat) (l : List UInt8) : Nat := l.foldl (fun a c => a * b + dval c.toNat) 0
theorem numB_snoc (b : Nat) (l : List UInt8) (c : UInt8) : numB b (l ++ [c]) = numB b l * b + dval c.toNat := by simp [numB]
theorem numB_take_succ (b : Nat) (l : List UInt8) (k : Nat) (h : k < l.length) : numB b (l.take (k + 1)) = numB b (l.take k) * b + dval (l.getD k 0).toNat := by
  rw [List.take_add_one, List.getElem?_eq_getElem h, Option.toList_some, numB_snoc]
  simp [List.getD, h]
theorem numB_lt {b : Nat} {l : List UInt8} (h : ∀ i, i < l.length → dval (l.getD i 0).toNat < b) : ∀ k, k ≤ l.length → numB b (l.take k) < b ^ k := by
  intro k
  induction k with
  | zero => intro _; simp [numB]
  | succ k ih =>
    intro hk
    rw [numB_take_succ b l k hk, Nat.pow_succ]
    have h1 := ih (by omega)
    have h2 := h k hk
    have h3 : (numB b (l.take k) + 1) * b ≤ b ^ k * b := Nat.mul_le_mul_right b h1
    rw [Nat.add_mul, Nat.one_mul] at h3
    omega
set_option maxHeartbeats 400000 in
theorem times_any (w : World) (a b c : Nat) (ha : a < 1000000000) (hb : b ≤ 1000000000) (hc : c < 1000000000) :
    Calls Tryz.prog 270 #[.int .u32 a, .int .u32 b, .int .u32 c] w fun e w' => e = .returned (.tuple #[.int .u32 ((a * b + c) % 1000000000 : Nat), .int .u32 ((a * b + c) / 1000000000 : Nat)]) ∧ w = w' := by
  have hab : a * b ≤ 999999999 * 1000000000 := Nat.mul_le_mul (by omega) hb
  have hcast : ((a * b : Nat) : Int) = (a : Int) * (b : Int) := by simp
  go_enter Tryz.func270, Tryz.ntmps270
  go_wp2
  have e1 : (((a * b + c) % 1000000000 : Nat) : Int) = ((a : Int) * (b : Int) + (c : Int)) % 1000000000 := by simp
  have e2 : (((a * b + c) / 1000000000 : Nat) : Int) = ((a : Int) * (b : Int) + (c : Int)) / 1000000000 := by simp
  rw [e1, e2]
  go_ret2
  exact ⟨rfl, rfl⟩
structure MS (u c : Nat) (l : List Nat) (j cc : Nat) (l' : List Nat) : Prop where
  len : l'.length = l.length
  ok : Wh.Ok l'
  rest : ∀ i, j ≤ i → l'.getD i 0 = l.getD i 0
  val : Wh.val (l'.take j) + Wh.R ^ j * cc = Wh.val (l.take j) * u + c
  car : cc < 1000000000
theorem MS.start {u c : Nat} {l : List Nat} (ho : Wh.Ok l) (hc : c < 1000000000) : MS u c l 0 c l := ⟨rfl, ho, fun _ _ => rfl, by simp [Wh.val], hc⟩
theorem MS.step {u c : Nat} {l : List Nat} {j cc : Nat} {l' : List Nat} (h : MS u c l j cc l') (hj : j < l.length) (hu : u ≤ 1000000000) (hx : l.getD j 0 < 1000000000) :
    MS u c l (j + 1) ((l.getD j 0 * u + cc) / 1000000000) (l'.set j ((l.getD j 0 * u + cc) % 1000000000)) := by
  have hj' : j < l'.length := by rw [h.len]; exact hj
  refine ⟨by rw [List.length_set]; exact h.len, Wh.ok_set h.ok (Nat.mod_lt _ (by decide)), fun i hi => ?_, ?_, ?_⟩
  · have := h.rest i (by omega)
    simp only [List.getD] at this ⊢
    rw [List.getElem?_set_ne (by omega)]; exact this
  · rw [Wh.take_snoc _ j (by rw [List.length_set]; exact hj'), Wh.val_snoc, Wh.take_snoc l j hj, Wh.val_snoc]
    have e1 : (l'.set j ((l.getD j 0 * u + cc) % 1000000000)).take j = l'.take j := by rw [List.take_set_of_le (Nat.le_refl j)]
    have e2 : (l'.set j ((l.getD j 0 * u + cc) % 1000000000)).getD j 0 = (l.getD j 0 * u + cc) % 1000000000 := by simp [List.getD, hj']
    rw [e1, e2, List.length_take, List.length_take, Nat.min_eq_left (by omega), Nat.min_eq_left (by omega), Nat.pow_succ]
    have hv := h.val
    have hd := Nat.div_add_mod (l.getD j 0 * u + cc) 1000000000
    have h1 : Wh.R ^ j * ((l.getD j 0 * u + cc) % 1000000000) + Wh.R ^ j * Wh.R * ((l.getD j 0 * u + cc) / 1000000000) = Wh.R ^ j * (l.getD j 0 * u + cc) := by
      rw [Nat.mul_assoc, ← Nat.mul_add, Wh.R_eq]
      congr 1
      omega
    rw [Nat.add_assoc, h1, Nat.mul_add, Nat.add_mul, Nat.mul_assoc]
    omega
  · have : l.getD j 0 * u ≤ 999999999 * 1000000000 := Nat.mul_le_mul (by omega) hu
    have := h.car
    omega
theorem MS.fin {u c : Nat} {l : List Nat} {cc : Nat} {l' : List Nat} (h : MS u c l l.length cc l') : Wh.val l' + Wh.R ^ l'.length * cc = Wh.val l * u + c := by
  have := h.val
  rw [List.take_length, ← h.len, List.take_length] at this
  exact this
abbrev u32s (l : List Nat) : List Value := l.map fun x : Nat => Value.int .u32 (x : Int)
theorem ownsRow_set {W : World} {base n k g c : Nat} {e : TypeId} {xs : List Value} (h : W.ownsRow base e 1 (.slice (some ⟨g, 0, none⟩) n c) n xs) (hk : k < n) (v : Value) :
    (W.setCell ⟨g, k, none⟩ v).ownsRow base e 1 (.slice (some ⟨g, 0, none⟩) n c) n (xs.set k v) ∧ W.frozen? ⟨g, k, none⟩ = false ∧ base ≤ g := by
  rcases h.2 with ⟨h1, _⟩ | ⟨g', cap, cur, h1, h2, h3, h4, h5, h6, h7⟩
  · cases h1
  · cases h1
    have hkc : k < cur.size := by omega
    refine ⟨⟨by rw [List.length_set]; exact h.1, .inr ⟨g, c, cur.setIfInBounds k v, rfl, h2, ?_, h4, h5, by simpa using h6, ?_⟩⟩, ?_, h2⟩
    · simp [World.setCell, Array.getElem?_modify, h3]
    · rw [← h7]
      simp [List.take_set]
    · simp [World.frozen?, h3]
theorem own_sl {W : World} {base n size : Nat} {e : TypeId} {v : Value} {xs : List Value} (h : W.ownsRow base e size v n xs) : ∃ a c, v = .slice a n c := by
  rcases h.2 with ⟨rfl, rfl⟩ | ⟨g, cap, cur, rfl, _⟩
  · exact ⟨_, _, rfl⟩
  · exact ⟨_, _, rfl⟩
theorem infoL : ∃ i, Tryz.prog.info? 181 = some i ∧ i.zero = some (.int .u32 0) ∧ i.size = 1 ∧ i.bytes = 4 := by
  have h : (Tryz.prog.info? 181).map (fun i => (i.zero, i.size, i.bytes)) = some (some (.int .u32 0), 1, 4) := by kernel_rfl
  cases hi : Tryz.prog.info? 181 with
  | none => rw [hi] at h; cases h
  | some i => rw [hi] at h; simp at h; exact ⟨i, rfl, h.1, h.2.1, h.2.2⟩
set_option maxRecDepth 100000 in
set_option maxHeartbeats 1000000 in
theorem appendDigits_any (w : World) (B b : Nat) (v : Value) (l : List Nat) (p : List UInt8) (hown : w.ownsRow B 181 1 v l.length (u32s l)) (hok : Wh.Ok l) (hl : l.length ≤ 10000) (hb : 2 ≤ b ∧ b ≤ 36) (hp : Digs b p) (hpl : p.length ≤ togN b) (hB : B ≤ w.heap.size) :
    Calls Tryz.prog 206 #[v, .string (str p), .int .u32 b] w fun e w' => (∃ v' l', e = .returned v' ∧ w'.ownsRow B 181 1 v' l'.length (u32s l') ∧ Wh.Ok l' ∧ Wh.val l' = Wh.val l * b ^ p.length + numB b p ∧ l'.length ≤ l.length + 1) ∧ Below B w w' := by
  have hdg : ∀ i, i < p.length → dval (p.getD i 0).toNat < b := fun i hi => (hp.at hi).2
  have hlim : ∀ k, k ≤ p.length → numB b (p.take k) < b ^ k ∧ b ^ k ≤ 1000000000 := fun k hk => ⟨numB_lt hdg k hk, Nat.le_trans (Nat.pow_le_pow_right (by omega) (by omega)) (pow_tog b hb.2)⟩
  have HLIM := Lib.hid hlim; clear hlim hdg
  have HP := Lib.hid hp; clear hp
  have HOWN := Lib.hid hown; clear hown
  have HOK := Lib.hid hok; clear hok
  have hsz : (str p).size = p.length := rfl
  have HSZ := Lib.hid hsz; clear hsz
  have hsm : (str p).size ≤ 9 := Nat.le_trans hpl (tog_le b)
  clear hpl
  obtain ⟨sa, sc, rfl⟩ := own_sl HOWN.out
  go_enter Tryz.func206, Tryz.ntmps206
  go_wp2_with fail
  go_loopw [7, 8] (fun u o wr => ∃ pos : Nat, pos ≤ (str p).size ∧ u = .int .u32 (b ^ pos : Nat) ∧ o = .int .u32 (numB b (p.take pos) : Nat) ∧ wr = w.iter (str p) pos) (fun _ _ wr => (str p).size - wr.iterPos w.heap.size)
  case atStart => exact ⟨0, Nat.zero_le _, rfl, rfl, rfl⟩
  case round =>
    obtain ⟨pos, hpos, rfl, rfl, rfl⟩ := hrel
    by_cases hlt : pos < (str p).size
    · obtain ⟨hc1, hc2⟩ := HP.out.at (i := pos) (by rw [← HSZ.out]; exact hlt)
      have hdec := decode_at p pos (by rw [← HSZ.out]; exact hlt) hc1
      have hnx : ∀ ty, (Instr.next (.pointer (some ⟨w.heap.size, 0, none⟩)) true ty).run Tryz.prog (w.iter (str p) pos) = .ok (.tuple #[.bool true, .int .i64 pos, .int .i32 ((p.getD pos 0).toNat : Nat)]) (w.iter (str p) (pos + 1)) := fun ty => by
        rw [run_next_any w (str p) pos ty hlt, hdec]
      clear hdec
      have e1 := numB_take_succ b p pos (by rw [← HSZ.out]; exact hlt)
      have e2 := HLIM.out (pos + 1) (by rw [← HSZ.out]; exact hlt)
      have e3 : b ^ (pos + 1) = b ^ pos * b := Nat.pow_succ ..
      rw [e1, e3] at e2
      have HE1 := Lib.hid e1; have HE3 := Lib.hid e3
      clear e1 e3
      generalize (p.getD pos 0).toNat = c at *
      generalize b ^ pos = U at *
      generalize numB b (p.take pos) = V at *
      have hcu : ((U * b : Nat) : Int) = (U : Int) * (b : Int) := by simp
      have hcv : ((V * b : Nat) : Int) = (V : Int) * (b : Int) := by simp
      have HE2 := Lib.hid e2; clear e2
      go_wp2_with fail
      refine (digitOf_any c hc1 _).mono ?_
      rintro e w' ⟨rfl, rfl⟩
      go_wp2_with fail
      go_roundw
      case rel =>
        have h2 := HE2.out
        exact ⟨pos + 1, by omega, by rw [HE3.out]; congr 1; omega, by rw [HE1.out]; congr 1; omega, rfl⟩
      case measure => simp; omega
    · have hnx : ∀ ty, (Instr.next (.pointer (some ⟨w.heap.size, 0, none⟩)) true ty).run Tryz.prog (w.iter (str p) pos) = _ := fun ty => run_next_end w (str p) pos ty hlt
      have hpe : pos = p.length := by rw [← HSZ.out]; omega
      subst hpe
      have hpw := HLIM.out p.length (Nat.le_refl _)
      rw [List.take_length] at hpw ⊢
      have hB1 : Below w.heap.size w (w.iter (str p) p.length) := (Below.refl _ _).alloc (Nat.le_refl _) _
      have hO1 : (w.iter (str p) p.length).ownsRow B 181 1 (.slice sa l.length sc) l.length (u32s l) := ownsRow_onlyS HOWN.out (OnlyS.of_below (S := fun _ => False) hB1) (fun _ _ h => h)
      have hu : b ^ p.length ≤ 1000000000 := hpw.2
      have hc0 : numB b p < 1000000000 := Nat.lt_of_lt_of_le hpw.1 hpw.2
      clear hpw HLIM HP HOWN
      generalize hUU : b ^ p.length = U at *
      generalize hCC : numB b p = c0 at *
      have HUU := Lib.hid hUU; clear hUU
      have HCC := Lib.hid hCC; clear hCC
      have HM := Lib.hid (MS.start (u := U) HOK.out hc0)
      generalize hn : l.length = n at *
      have HLN := Lib.hid hn; clear hn
      have HO1 := Lib.hid hO1; have HB1 := Lib.hid (hB1.mono hB); clear hO1 hB1
      go_wp2_with fail
      go_loopw [8, 30] (fun cv i wr => ∃ j cc : Nat, ∃ l' : List Nat, j ≤ n ∧ cv = .int .u32 cc ∧ i = .int .i64 j ∧ Hid (MS U c0 l j cc l' ∧ wr.ownsRow B 181 1 (.slice sa n sc) n (u32s l') ∧ Below B w wr)) (fun _ i _ => n - (intOf i).toNat)
      case atStart => exact ⟨0, c0, l, Nat.zero_le _, rfl, rfl, Lib.hid ⟨HM.out, HO1.out, HB1.out⟩⟩
      case round =>
        obtain ⟨j, cc, l', hj, rfl, rfl, HI⟩ := hrel
        by_cases hlt2 : j < n
        · have hd : decide ((j : Int) < (n : Nat)) = true := by rw [decide_eq_true_iff]; omega
          obtain ⟨g, c2, hsl, hgl, hcell⟩ := own_cells HI.out.2.1 (by omega)
          simp only [Value.slice.injEq] at hsl
          obtain ⟨rfl, _, rfl⟩ := hsl
          have hlen : l'.length = n := by rw [HI.out.1.len, HLN.out]
          have hx := hcell j hlt2
          rw [List.getElem?_map, List.getElem?_eq_getElem (by omega)] at hx
          have hgd : l'[j]'(by omega) = l.getD j 0 := by rw [← HI.out.1.rest j (Nat.le_refl j)]; simp [List.getD, show j < l'.length by omega]
          rw [hgd] at hx
          have hx' : wr.cell? ⟨g, j, none⟩ = some (.int .u32 (l.getD j 0 : Nat)) := hx
          clear hx hcell hgd
          have hlx := Wh.getD_lt HOK.out j
          rw [Wh.R_eq] at hlx
          have HST := Lib.hid (HI.out.1.step (by rw [HLN.out]; exact hlt2) hu hlx)
          obtain ⟨ho2, hfz, hBg⟩ := ownsRow_set HI.out.2.1 hlt2 (.int .u32 ((l.getD j 0 * U + cc) % 1000000000 : Nat))
          have HO2 := Lib.hid ho2; clear ho2
          have hcc := HI.out.1.car
          have HT := Lib.hid fun w => times_any w (l.getD j 0) U cc hlx hu hcc
          generalize l.getD j 0 = x at *
          go_wp2_with fail
          refine (HT.out _).mono ?_
          rintro e w5 ⟨rfl, rfl⟩
          go_wp2_with fail
          have e1 : (((x * U + cc) % 1000000000 : Nat) : Int) = ((x : Int) * (U : Int) + (cc : Int)) % 1000000000 := by simp
          have e2 : (((x * U + cc) / 1000000000 : Nat) : Int) = ((x : Int) * (U : Int) + (cc : Int)) / 1000000000 := by simp
          rw [← e1, ← e2]
          go_roundw
          case rel => exact ⟨j + 1, _, _, by omega, rfl, by simp, Lib.hid ⟨HST.out, by rw [u32s, List.map_set]; exact HO2.out, HI.out.2.2.setCell hBg _⟩⟩
          case measure => simp [intOf]; omega
        · have hd : decide ((j : Int) < (n : Nat)) = false := by rw [decide_eq_false_iff_not]; omega
          have hjn : j = l.length := by rw [HLN.out]; omega
          obtain ⟨hm, ho, hbw⟩ := HI.out
          rw [hjn] at hm
          have hcc := hm.car
          have hv := hm.fin
          have hlen : l'.length = n := by rw [hm.len, HLN.out]
          have hok' := hm.ok
          have HR := Lib.hid (And.intro ho (And.intro hbw (And.intro hv (And.intro hlen hok'))))
          clear hm ho hbw hv hok' HI HM HO1 HB1
          by_cases h0 : cc = 0
          · subst h0
            go_wp2
            go_ret
            obtain ⟨ho, hbw, hv, _, hok'⟩ := HR.out
            exact ⟨⟨_, l', rfl, by rw [hlen]; exact ho, hok', by rw [HUU.out, HCC.out, ← hv, Nat.mul_zero, Nat.add_zero], by omega⟩, hbw⟩
          · have hz : ((cc : Int) == 0) = false := by rw [beq_eq_false_iff_ne]; omega
            have hal : Below wr.heap.size wr (wr.alloc (Obj.cells #[.int .u32 cc] 181)) := (Below.refl _ _).alloc (Nat.le_refl _) _
            have hownA : (wr.alloc (Obj.cells #[.int .u32 cc] 181)).ownsRow B 181 1 (.slice sa n sc) n (u32s l') := ownsRow_onlyS HR.out.1 (OnlyS.of_below (S := fun _ => False) hal) (fun _ _ h => h)
            obtain ⟨inf, i1, i2, i3, i4⟩ := infoL
            have hcellA : ∀ (j : Nat) (u : Value), [Value.int .u32 (cc : Int)][j]? = some u → (wr.alloc (Obj.cells #[.int .u32 cc] 181)).cell? ((⟨wr.heap.size, 0, none⟩ : Addr).add j) = some u := by
              intro j u hj
              cases j with
              | zero => cases hj; show (wr.alloc (Obj.cells #[.int .u32 cc] 181)).cell? ⟨wr.heap.size, 0, none⟩ = _; go_simp
              | succ j => cases j <;> cases hj
            have hzA : B ≤ (wr.alloc (Obj.cells #[.int .u32 cc] 181)).heap.size := Nat.le_trans (Nat.le_trans hB HR.out.2.1.size) hal.size
            have hone : ∀ u ∈ [Value.int .u32 (cc : Int)], u.oneCell' = true := by intro u hu; rw [List.mem_singleton.1 hu]; rfl
            have hmx : n + 1 ≤ maxLen := by simp only [maxLen]; omega
            have hbt : (n + 1) * 4 ≤ 140737488355328 := by omega
            go_wp2_with (at_builtin; refine wpList_append_own _ rfl _ _ 81 rfl B 181 inf (.int .u32 0) 1 4 Tryz.underlying81 i1 i2 i3 i4 rfl (by decide) (.slice sa n sc) n _ rfl hownA ⟨wr.heap.size, 0, none⟩ 1 1 [Value.int .u32 (cc : Int)] rfl rfl hcellA hone hmx hbt hzA ?_)
            intro v' W3 ho3 hg3 hnil
            clear hnil hone hmx hbt
            have hgo := grownBy_onlyS hg3
            have hb3 : Below B w W3 := (HR.out.2.1.trans (hal.mono (Nat.le_trans hB HR.out.2.1.size))).trans (hgo.below (B := B) (fun k hk => ownBlock_ge hownA hk) hzA)
            have HP3 : Hid (W3.ownsRow B 181 1 v' (n + 1) (u32s (l' ++ [cc])) ∧ Below B w W3) := Lib.hid ⟨by rw [u32s, List.map_append]; exact ho3, hb3⟩
            clear hal hownA hcellA hzA hgo hg3 ho3 hb3 i1 i2 i3 i4
            go_wp2
            go_ret
            obtain ⟨_, _, hv, _, hok'⟩ := HR.out
            refine ⟨⟨_, l' ++ [cc], rfl, by rw [List.length_append, List.length_singleton, hlen]; exact HP3.out.1, fun y hy => ?_, by rw [HUU.out, HCC.out, Wh.val_snoc, ← hv], by rw [List.length_append, List.length_singleton]; omega⟩, HP3.out.2⟩
            rcases List.mem_append.1 hy with h | h
            · exact hok' y h
            · rw [List.mem_singleton.1 h, Wh.R_eq]; exact hcc
end Go.Proofs.YteaeloeebfdodaaGreatDoor

namespace Go.Proofs.YteaeloeebfdodaaGreatDoor
open Go.RowKit Go.Proofs.Rf
def val4 : List Nat → Nat
  | [] => 0
  | x :: r => x + 10000 * val4 r
theorem val4_snoc (l : List Nat) (x : Nat) : val4 (l ++ [x]) = val4 l + 10000 ^ l.length * x := by
  induction l with
  | nil => simp [val4]
  | cons a r ih => rw [List.cons_append, val4, ih, val4, List.length_cons, Nat.pow_succ, Nat.mul_add, ← Nat.mul_assoc, Nat.mul_comm 10000 (10000 ^ r.length), Nat.add_assoc]
theorem numOf_append (x y : List UInt8) : Wh.numOf (x ++ y) = Wh.numOf x * 10 ^ y.length + Wh.numOf y := by
  have h : ∀ (y : List UInt8) (a : Nat), y.foldl (fun a c => 10 * a + Wh.dv c) a = a * 10 ^ y.length + y.foldl (fun a c => 10 * a + Wh.dv c) 0 := by
    intro y
    induction y with
    | nil => intro a; simp
    | cons c r ih =>
      intro a
      rw [List.foldl_cons, List.foldl_cons, ih, ih (10 * 0 + Wh.dv c), List.length_cons, Nat.pow_succ, Nat.mul_zero, Nat.zero_add, Nat.add_mul, Nat.mul_assoc, Nat.mul_comm 10, Nat.mul_assoc, Nat.add_assoc]
  show (x ++ y).foldl _ 0 = _
  rw [List.foldl_append, h]
  rfl
abbrev i64s (l : List Nat) : List Value := l.map fun x : Nat => Value.int .i64 (x : Int)
theorem infoI : ∃ i, Tryz.prog.info? 3 = some i ∧ i.zero = some (.int .i64 0) ∧ i.size = 1 ∧ i.bytes = 8 := by
  have h : (Tryz.prog.info? 3).map (fun i => (i.zero, i.size, i.bytes)) = some (some (.int .i64 0), 1, 8) := by kernel_rfl
  cases hi : Tryz.prog.info? 3 with
  | none => rw [hi] at h; cases h
  | some i => rw [hi] at h; simp at h; exact ⟨i, rfl, h.1, h.2.1, h.2.2⟩
theorem il_of_own {W : World} {base : Nat} {v : Value} {l : List Nat} (h : W.ownsRow base 3 1 v l.length (i64s l)) : ∃ a c, v = .slice a l.length c ∧ Il W a l.length l ∧ l.length ≤ c := by
  rcases h.2 with ⟨rfl, hn⟩ | ⟨g, cap, cur, rfl, hg, hh, hnc, hcm, hcs, htake⟩
  · rw [hn]; exact ⟨_, _, rfl, fun i hi => absurd hi (by omega), Nat.le_refl _⟩
  · refine ⟨_, _, rfl, fun _ _ => ⟨g, 0, rfl, (Array.getElem?_eq_some_iff.1 hh).1, fun i hi => ?_⟩, hnc⟩
    have e : (i64s l)[i]? = cur.toList[i]? := by rw [← htake, Nat.mul_one, List.getElem?_take_of_lt hi]
    rw [Nat.zero_add]
    have e2 : W.cell? ⟨g, i, none⟩ = cur[i]? := by simp [World.cell?, hh]
    rw [e2, ← Array.getElem?_toList, ← e, List.getElem?_map, List.getElem?_eq_getElem hi]
    simp [List.getD, hi]
structure LI (d : List UInt8) (k : Nat) (l : List Nat) : Prop where
  le : k ≤ d.length
  small : ∀ x ∈ l, x < 10000
  val : Wh.numOf d = Wh.numOf (d.take k) * 10000 ^ l.length + val4 l
  len : l.length + k ≤ d.length
theorem LI.start (d : List UInt8) : LI d d.length [] := ⟨Nat.le_refl _, fun x hx => absurd hx (by simp), by simp [val4], by simp⟩
theorem LI.next {d : List UInt8} {k : Nat} {l : List Nat} (h : LI d k l) (hd : ∀ c ∈ d, 48 ≤ c.toNat ∧ c.toNat ≤ 57) (hk : 0 < k) : LI d (k - 4) (l ++ [Wh.numOf ((d.take k).drop (k - 4))]) := by
  have hle := h.le
  have hln : ((d.take k).drop (k - 4)).length = k - (k - 4) := by rw [List.length_drop, List.length_take]; omega
  have hs : Wh.numOf ((d.take k).drop (k - 4)) < 10000 := by
    have := Wh.numOf_lt (l := (d.take k).drop (k - 4)) (fun c hc => hd c (List.mem_of_mem_take (List.mem_of_mem_drop hc)))
    rw [hln] at this
    exact Nat.lt_of_lt_of_le this (Nat.le_trans (Nat.pow_le_pow_right (by decide) (by omega)) (by decide : 10 ^ 4 ≤ 10000))
  refine ⟨by omega, fun x hx => ?_, ?_, by rw [List.length_append, List.length_singleton]; have := h.len; omega⟩
  · rcases List.mem_append.1 hx with h1 | h1
    · exact h.small x h1
    · rw [List.mem_singleton.1 h1]; exact hs
  · have e : d.take k = d.take (k - 4) ++ (d.take k).drop (k - 4) := by
      have := (List.take_append_drop (k - 4) (d.take k)).symm
      rw [List.take_take, Nat.min_eq_left (by omega)] at this
      exact this
    have hv := h.val
    rw [e, numOf_append, hln] at hv
    rw [hv, val4_snoc, List.length_append, List.length_singleton, Nat.pow_succ, Nat.add_mul]
    rcases Nat.lt_or_ge k 4 with h4 | h4
    · have : k - 4 = 0 := by omega
      rw [this]
      simp only [List.take_zero]
      have hz : Wh.numOf [] = 0 := rfl
      rw [hz, Nat.zero_mul, Nat.zero_mul, Nat.zero_mul, Nat.zero_add, Nat.zero_add, Nat.mul_comm, Nat.add_comm]
    · have : k - (k - 4) = 4 := by omega
      rw [this, Nat.mul_assoc, show (10 : Nat) ^ 4 = 10000 from rfl, Nat.mul_comm 10000 (10000 ^ l.length), Nat.mul_comm (Wh.numOf ((d.take k).drop (k - 4)))]
      omega
end Go.Proofs.YteaeloeebfdodaaGreatDoor

namespace Go.Proofs.YteaeloeebfdodaaGreatDoor
open Go.RowKit Go.Proofs.Rf
abbrev T4 : Nat := 10000
def Sm4 (l : List Nat) : Prop := ∀ x ∈ l, x < 10000
def Top (l : List Nat) : Prop := l.length = 0 ∨ l.getD (l.length - 1) 0 ≠ 0
theorem Sm4.nil : Sm4 [] := fun _ h => by cases h
theorem Sm4.snoc {l : List Nat} {x : Nat} (h : Sm4 l) (hx : x < 10000) : Sm4 (l ++ [x]) := fun y hy => by
  rcases List.mem_append.1 hy with h1 | h1
  · exact h y h1
  · rw [List.mem_singleton.1 h1]; exact hx
theorem Sm4.getD {l : List Nat} (h : Sm4 l) (i : Nat) : l.getD i 0 < 10000 := by
  rw [List.getD_eq_getElem?_getD]
  cases e : l[i]? with
  | none => simp
  | some x => exact h x (List.mem_of_getElem? e)
theorem Sm4.take {l : List Nat} (h : Sm4 l) (i : Nat) : Sm4 (l.take i) := fun x hx => h x (List.mem_of_mem_take hx)
theorem Sm4.drop {l : List Nat} (h : Sm4 l) (i : Nat) : Sm4 (l.drop i) := fun x hx => h x (List.mem_of_mem_drop hx)
theorem Sm4.set {l : List Nat} (h : Sm4 l) (i : Nat) {v : Nat} (hv : v < 10000) : Sm4 (l.set i v) := fun x hx => by
  rcases List.mem_or_eq_of_mem_set hx with h1 | h1
  · exact h x h1
  · rw [h1]; exact hv
theorem val4_take_succ (l : List Nat) (i : Nat) : val4 (l.take (i + 1)) = val4 (l.take i) + 10000 ^ i * l.getD i 0 := by
  induction l generalizing i with
  | nil => simp [val4]
  | cons x r ih =>
    cases i with
    | zero => simp [val4]
    | succ i =>
      rw [List.take_succ_cons, List.take_succ_cons, val4, val4, ih, Nat.mul_add, Nat.pow_succ, Nat.mul_comm (10000 ^ i) 10000, Nat.mul_assoc, Nat.add_assoc]
      simp [List.getD]
theorem val4_take_all {l : List Nat} {i : Nat} (h : l.length ≤ i) : val4 (l.take i) = val4 l := by rw [List.take_of_length_le h]
theorem val4_lt {l : List Nat} (h : Sm4 l) : val4 l < 10000 ^ l.length := by
  induction l with
  | nil => simp [val4]
  | cons x r ih =>
    have h1 := ih fun y hy => h y (List.mem_cons_of_mem _ hy)
    have h2 := h x (List.mem_cons_self ..)
    rw [val4, List.length_cons, Nat.pow_succ]
    omega
theorem val4_split (l : List Nat) (i : Nat) : val4 l = val4 (l.take i) + 10000 ^ i * val4 (l.drop i) := by
  induction l generalizing i with
  | nil => simp [val4]
  | cons x r ih =>
    cases i with
    | zero => simp [val4]
    | succ i =>
      rw [List.take_succ_cons, List.drop_succ_cons, val4, val4, ih i, Nat.mul_add, Nat.pow_succ, Nat.mul_comm (10000 ^ i) 10000, Nat.mul_assoc, Nat.add_assoc]
theorem drop4_step {l m : List Nat} {i : Nat} (h1 : i < l.length) (h2 : i < m.length) (h : l.getD i 0 = m.getD i 0) (hd : l.drop (i + 1) = m.drop (i + 1)) : l.drop i = m.drop i := by
  rw [List.drop_eq_getElem_cons h1, List.drop_eq_getElem_cons h2, hd]
  simp [List.getD, h1, h2] at h
  rw [h]
theorem val4_lt_at {l m : List Nat} (ho : Sm4 l) {i : Nat} (hd : l.drop (i + 1) = m.drop (i + 1)) (h : l.getD i 0 < m.getD i 0) : val4 l < val4 m := by
  rw [val4_split l (i + 1), val4_split m (i + 1), hd, val4_take_succ, val4_take_succ]
  have h1 : val4 (l.take i) < 10000 ^ i := by
    have := val4_lt (ho.take i)
    exact Nat.lt_of_lt_of_le this (Nat.pow_le_pow_right (by decide) (by rw [List.length_take]; omega))
  have h2 : 10000 ^ i * (l.getD i 0 + 1) ≤ 10000 ^ i * m.getD i 0 := Nat.mul_le_mul_left _ h
  rw [Nat.mul_add, Nat.mul_one] at h2
  omega
theorem val4_ge {l : List Nat} (ht : Top l) (hl : 0 < l.length) : 10000 ^ (l.length - 1) ≤ val4 l := by
  have h0 : l.getD (l.length - 1) 0 ≠ 0 := by rcases ht with h | h; omega; exact h
  have e : l.length - 1 + 1 = l.length := by omega
  have := val4_take_succ l (l.length - 1)
  rw [e, val4_take_all (Nat.le_refl _)] at this
  rw [this]
  have : 10000 ^ (l.length - 1) * 1 ≤ 10000 ^ (l.length - 1) * l.getD (l.length - 1) 0 := Nat.mul_le_mul_left _ (by omega)
  omega
theorem val4_lt_len {l m : List Nat} (ho : Sm4 l) (ht : Top m) (h : l.length < m.length) : val4 l < val4 m := by
  have h1 := val4_lt ho
  have h2 := val4_ge ht (by omega)
  have h3 : 10000 ^ l.length ≤ 10000 ^ (m.length - 1) := Nat.pow_le_pow_right (by decide) (by omega)
  omega
theorem val4_zeros (l : List Nat) (k : Nat) (h : ∀ i, k ≤ i → i < l.length → l.getD i 0 = 0) : val4 (l.take k) = val4 l := by
  rw [val4_split l k]
  have : val4 (l.drop k) = 0 := by
    have hz : ∀ m : List Nat, (∀ x ∈ m, x = 0) → val4 m = 0 := by
      intro m
      induction m with
      | nil => intro _; rfl
      | cons x r ih =>
        intro hm
        have h1 := hm x (List.mem_cons_self ..)
        have h2 := ih fun y hy => hm y (List.mem_cons_of_mem _ hy)
        rw [val4, h1, h2]
    apply hz
    intro x hx
    obtain ⟨j, hj, rfl⟩ := List.getElem_of_mem hx
    rw [List.length_drop] at hj
    have := h (k + j) (by omega) (by omega)
    rw [List.getElem_drop]
    simpa [List.getD, show k + j < l.length by omega] using this
  rw [this]; simp
theorem val4_eq_zero {l : List Nat} (ht : Top l) : val4 l = 0 ↔ l = [] := by
  constructor
  · intro h
    by_cases e : 0 < l.length
    · have := val4_ge ht e
      have h1 : 0 < 10000 ^ (l.length - 1) := Nat.pow_pos (by decide)
      omega
    · exact List.eq_nil_of_length_eq_zero (by omega)
  · intro h; rw [h]; rfl
theorem val4_set (l : List Nat) (k v : Nat) (h : k < l.length) : val4 (l.set k v) + 10000 ^ k * l.getD k 0 = val4 l + 10000 ^ k * v := by
  induction l generalizing k with
  | nil => simp at h
  | cons x r ih =>
    cases k with
    | zero => simp [val4]; omega
    | succ k =>
      have := ih k (by simpa using h)
      simp only [List.set_cons_succ, val4, Nat.pow_succ, List.getD_cons_succ]
      rw [Nat.mul_comm (10000 ^ k) 10000, Nat.mul_assoc, Nat.mul_assoc]
      omega
structure PLI (a b : List Nat) (i : Nat) (o : List Nat) (c : Nat) : Prop where
  len : o.length = i
  sm : Sm4 o
  c1 : c ≤ 1
  eq : val4 o + 10000 ^ i * c = val4 (a.take i) + val4 (b.take i)
theorem PLI.start (a b : List Nat) : PLI a b 0 [] 0 := ⟨rfl, Sm4.nil, by omega, by simp [val4]⟩
theorem PLI.next {a b : List Nat} {i : Nat} {o : List Nat} {c : Nat} (h : PLI a b i o c) (ha : Sm4 a) (hb : Sm4 b) : PLI a b (i + 1) (o ++ [(c + a.getD i 0 + b.getD i 0) % 10000]) ((c + a.getD i 0 + b.getD i 0) / 10000) := by
  have h1 := ha.getD i
  have h2 := hb.getD i
  have h3 := h.c1
  refine ⟨by simp [h.len], h.sm.snoc (Nat.mod_lt _ (by decide)), by omega, ?_⟩
  rw [val4_snoc, h.len, val4_take_succ, val4_take_succ, Nat.pow_succ, Nat.mul_assoc, Nat.add_assoc, ← Nat.mul_add]
  have h4 : (c + a.getD i 0 + b.getD i 0) % 10000 + 10000 * ((c + a.getD i 0 + b.getD i 0) / 10000) = c + a.getD i 0 + b.getD i 0 := Nat.mod_add_div _ _
  rw [h4, Nat.mul_add, Nat.mul_add]
  have := h.eq
  omega
theorem PLI.fin {a b : List Nat} {i : Nat} {o : List Nat} (h : PLI a b i o 0) (h1 : a.length ≤ i) (h2 : b.length ≤ i) : val4 o = val4 a + val4 b := by
  have := h.eq
  rw [val4_take_all h1, val4_take_all h2] at this
  simpa using this
structure MII (a b : List Nat) (i : Nat) (o : List Nat) (c : Nat) : Prop where
  len : o.length = i
  sm : Sm4 o
  c1 : c ≤ 1
  eq : val4 o + val4 (b.take i) = val4 (a.take i) + 10000 ^ i * c - 0 * c
  le : val4 (b.take i) ≤ val4 (a.take i) + 10000 ^ i * c
theorem MII.start (a b : List Nat) : MII a b 0 [] 0 := ⟨rfl, Sm4.nil, by omega, by simp [val4], by simp [val4]⟩
theorem MII.next {a b : List Nat} {i : Nat} {o : List Nat} {c d e : Nat} (h : MII a b i o c) (hd : d < 10000) (he : e ≤ 1) (heq : d + b.getD i 0 + c = a.getD i 0 + 10000 * e) : MII a b (i + 1) (o ++ [d]) e := by
  have hv : val4 (o ++ [d]) + val4 (b.take (i + 1)) = val4 (a.take (i + 1)) + 10000 ^ (i + 1) * e := by
    rw [val4_snoc, h.len, val4_take_succ, val4_take_succ, Nat.pow_succ, Nat.mul_assoc]
    have := h.eq
    have h5 : 10000 ^ i * d + 10000 ^ i * b.getD i 0 + 10000 ^ i * c = 10000 ^ i * a.getD i 0 + 10000 ^ i * (10000 * e) := by rw [← Nat.mul_add, ← Nat.mul_add, heq, Nat.mul_add]
    omega
  exact ⟨by simp [h.len], h.sm.snoc hd, he, by omega, by omega⟩
theorem MII.fin {a b : List Nat} {o : List Nat} {c : Nat} (h : MII a b a.length o c) (h2 : b.length ≤ a.length) (hv : val4 b ≤ val4 a) : val4 o = val4 a - val4 b := by
  have h1 := h.eq
  have h3 := val4_lt h.sm
  rw [h.len] at h3
  rw [val4_take_all (Nat.le_refl _), val4_take_all h2] at h1
  have : c = 0 := by
    have := h.c1
    rcases Nat.lt_or_ge 0 c with h4 | h4
    · have : c = 1 := by omega
      subst this
      omega
    · omega
  subst this
  omega
structure TII (a b : List Nat) (i k : Nat) (o : List Nat) (c : Nat) : Prop where
  len : o.length = a.length + b.length
  sm : Sm4 o
  c1 : c < 10000
  hi : i < a.length
  hk : k ≤ b.length
  eq : val4 o + 10000 ^ (i + k) * c = val4 (a.take i) * val4 b + 10000 ^ i * (a.getD i 0 * val4 (b.take k))
  z : ∀ j, i + b.length ≤ j → o.getD j 0 = 0
structure TOI (a b : List Nat) (i : Nat) (o : List Nat) : Prop where
  len : o.length = a.length + b.length
  sm : Sm4 o
  hi : i ≤ a.length
  eq : val4 o = val4 (a.take i) * val4 b
  z : ∀ j, i + b.length ≤ j → o.getD j 0 = 0
theorem sm4_zeros (n : Nat) : Sm4 (List.replicate n 0) := fun x hx => by rw [List.eq_of_mem_replicate hx]; decide
theorem val4_replicate (n : Nat) : val4 (List.replicate n 0) = 0 := by
  induction n with
  | zero => rfl
  | succ n ih => rw [List.replicate_succ, val4, ih]
theorem TOI.start (a b : List Nat) : TOI a b 0 (List.replicate (a.length + b.length) 0) :=
  ⟨by simp, sm4_zeros _, Nat.zero_le _, by rw [val4_replicate]; simp [val4], fun j _ => by simp [List.getD, List.getElem?_replicate]; split <;> simp_all⟩
theorem TOI.row {a b : List Nat} {i : Nat} {o : List Nat} (h : TOI a b i o) (hi : i < a.length) : TII a b i 0 o 0 :=
  ⟨h.len, h.sm, by decide, hi, Nat.zero_le _, by simp [h.eq, val4], h.z⟩
theorem getD_set_ne (l : List Nat) {i j : Nat} (v : Nat) (h : i ≠ j) : (l.set i v).getD j 0 = l.getD j 0 := by
  simp [List.getD, List.getElem?_set_ne h]
theorem TII.next {a b : List Nat} {i k : Nat} {o : List Nat} {c : Nat} (h : TII a b i k o c) (hk : k < b.length) :
    o.getD (i + k) 0 + a.getD i 0 * b.getD k 0 + c < 100000000 ∧ i + k < o.length ∧
    (∀ (_ : Sm4 a) (_ : Sm4 b), TII a b i (k + 1) (o.set (i + k) ((o.getD (i + k) 0 + a.getD i 0 * b.getD k 0 + c) % 10000)) ((o.getD (i + k) 0 + a.getD i 0 * b.getD k 0 + c) / 10000)) ∨ ¬ (Sm4 a ∧ Sm4 b) := by
  by_cases hs : Sm4 a ∧ Sm4 b
  · refine .inl ?_
    have ho := h.sm.getD (i + k)
    have ha := hs.1.getD i
    have hb := hs.2.getD k
    have hc := h.c1
    have hp : a.getD i 0 * b.getD k 0 ≤ 9999 * 9999 := Nat.mul_le_mul (by omega) (by omega)
    have hl : i + k < o.length := by rw [h.len]; have := h.hi; omega
    refine ⟨by omega, hl, fun _ _ => ?_⟩
    generalize hn : o.getD (i + k) 0 + a.getD i 0 * b.getD k 0 + c = n at *
    refine ⟨by rw [List.length_set]; exact h.len, h.sm.set _ (Nat.mod_lt _ (by decide)), by omega, h.hi, hk, ?_, fun j hj => by rw [getD_set_ne _ _ (by omega)]; exact h.z j hj⟩
    have h1 := val4_set o (i + k) (n % 10000) hl
    have h2 := h.eq
    have h3 : 10000 ^ (i + (k + 1)) * (n / 10000) = 10000 ^ (i + k) * (10000 * (n / 10000)) := by rw [← Nat.add_assoc, Nat.pow_succ, Nat.mul_assoc]
    have h4 : 10000 ^ (i + k) * (n % 10000) + 10000 ^ (i + k) * (10000 * (n / 10000)) = 10000 ^ (i + k) * n := by rw [← Nat.mul_add, Nat.mod_add_div]
    have h5 : 10000 ^ (i + k) * n = 10000 ^ (i + k) * o.getD (i + k) 0 + 10000 ^ (i + k) * (a.getD i 0 * b.getD k 0) + 10000 ^ (i + k) * c := by rw [← hn, Nat.mul_add, Nat.mul_add]
    have h6 : 10000 ^ i * (a.getD i 0 * val4 (b.take (k + 1))) = 10000 ^ i * (a.getD i 0 * val4 (b.take k)) + 10000 ^ (i + k) * (a.getD i 0 * b.getD k 0) := by
      rw [val4_take_succ, Nat.mul_add, Nat.mul_add, Nat.pow_add]
      congr 1
      rw [Nat.mul_assoc, Nat.mul_left_comm (a.getD i 0)]
    rw [h3, h6]
    omega
  · exact .inr hs
theorem TII.fin {a b : List Nat} {i : Nat} {o : List Nat} {c : Nat} (h : TII a b i b.length o c) :
    i + b.length < o.length ∧ o.getD (i + b.length) 0 = 0 ∧ TOI a b (i + 1) (o.set (i + b.length) (o.getD (i + b.length) 0 + c)) := by
  have hl : i + b.length < o.length := by rw [h.len]; have := h.hi; omega
  have hz := h.z (i + b.length) (Nat.le_refl _)
  refine ⟨hl, hz, by rw [List.length_set]; exact h.len, h.sm.set _ (by rw [hz]; have := h.c1; omega), h.hi, ?_, fun j hj => by rw [getD_set_ne _ _ (by omega)]; exact h.z j (by omega)⟩
  have h1 := val4_set o (i + b.length) (o.getD (i + b.length) 0 + c) hl
  have h2 := h.eq
  rw [val4_take_all (Nat.le_refl b.length)] at h2
  rw [val4_take_succ, Nat.add_mul, Nat.mul_assoc]
  rw [hz, Nat.zero_add] at h1 ⊢
  omega
theorem TOI.fin {a b : List Nat} {o : List Nat} (h : TOI a b a.length o) : val4 o = val4 a * val4 b := by
  rw [h.eq, val4_take_all (Nat.le_refl _)]
theorem guess_ge {A B : Nat} {p by' top : Nat} (hby : by' * p ≤ B) (htop : A / p = top) (hp : 0 < p) (h0 : 0 < by') : A / B ≤ top / by' := by
  rw [← htop, Nat.le_div_iff_mul_le h0, Nat.le_div_iff_mul_le hp, Nat.mul_assoc]
  exact Nat.le_trans (Nat.mul_le_mul_left _ hby) (Nat.div_mul_le_self A B)
theorem quo_lt {A B : Nat} (h : A < B * 10000) : A / B ≤ 9999 := by
  have := Nat.div_lt_of_lt_mul h
  omega
theorem val4_div {l : List Nat} (h : Sm4 l) (k : Nat) : val4 l / 10000 ^ k = val4 (l.drop k) := by
  rw [val4_split l k, Nat.add_mul_div_left _ _ (Nat.pow_pos (by decide)), Nat.div_eq_of_lt, Nat.zero_add]
  have := val4_lt (h.take k)
  exact Nat.lt_of_lt_of_le this (Nat.pow_le_pow_right (by decide) (by rw [List.length_take]; omega))
theorem val4_drop (l : List Nat) (k : Nat) : val4 (l.drop k) = l.getD k 0 + 10000 * val4 (l.drop (k + 1)) := by
  by_cases h : k < l.length
  · rw [List.drop_eq_getElem_cons h, val4]
    simp [List.getD, h]
  · rw [List.drop_eq_nil_of_le (by omega), List.drop_eq_nil_of_le (by omega)]
    simp [val4, List.getD, show l.length ≤ k by omega]
structure OVI (a b : List Nat) (i : Nat) (quo : List Nat) (rem : Nat) : Prop where
  len : quo.length = a.length
  sm : Sm4 quo
  lt : rem < val4 b
  eq : val4 (a.drop i) = val4 (quo.drop i) * val4 b + rem
theorem OVI.start (a b : List Nat) (hb : 0 < val4 b) : OVI a b a.length (List.replicate a.length 0) 0 :=
  ⟨by simp, sm4_zeros _, hb, by simp [val4]⟩
theorem OVI.next {a b quo : List Nat} {i rem : Nat} (h : OVI a b (i + 1) quo rem) (hi : i < a.length) (ha : Sm4 a) : 
    a.getD i 0 + 10000 * rem < val4 b * 10000 ∧ OVI a b i (quo.set i ((a.getD i 0 + 10000 * rem) / val4 b)) ((a.getD i 0 + 10000 * rem) % val4 b) := by
  have h1 := ha.getD i
  have h2 := h.lt
  have h3 : a.getD i 0 + 10000 * rem < val4 b * 10000 := by omega
  have h4 := quo_lt h3
  refine ⟨h3, by rw [List.length_set]; exact h.len, h.sm.set _ (by omega), Nat.mod_lt _ (by omega), ?_⟩
  rw [val4_drop a i, h.eq]
  have e : (quo.set i ((a.getD i 0 + 10000 * rem) / val4 b)).drop i = ((a.getD i 0 + 10000 * rem) / val4 b) :: quo.drop (i + 1) := by
    have hl : i < (quo.set i ((a.getD i 0 + 10000 * rem) / val4 b)).length := by rw [List.length_set, h.len]; exact hi
    rw [List.drop_eq_getElem_cons hl, List.getElem_set_self, List.drop_set_of_lt (by omega)]
  rw [e, val4, Nat.add_mul]
  have := Nat.div_add_mod (a.getD i 0 + 10000 * rem) (val4 b)
  rw [Nat.mul_comm] at this
  rw [Nat.mul_add, Nat.mul_assoc]
  omega
structure TXI (v len : Nat) (D : List UInt8) : Prop where
  len : D.length = len
  dg : ∀ c ∈ D, 48 ≤ c.toNat ∧ c.toNat ≤ 57
  val : Wh.numOf D = v
theorem TXI.nil : TXI 0 0 [] := ⟨rfl, fun _ h => absurd h (by simp), rfl⟩
theorem TXI.cons {v len : Nat} {D : List UInt8} {d : Nat} (h : TXI v len D) (hd : d < 10) : TXI (d * 10 ^ len + v) (len + 1) (UInt8.ofNat (48 + d) :: D) := by
  have hn := Wh.toNat_digit hd
  refine ⟨by simp [h.len], fun c hc => ?_, ?_⟩
  · rcases List.mem_cons.1 hc with h1 | h1
    · rw [h1, hn]; omega
    · exact h.dg c h1
  · have := numOf_append [UInt8.ofNat (48 + d)] D
    rw [List.singleton_append] at this
    rw [this, h.val, h.len]
    have e : Wh.numOf [UInt8.ofNat (48 + d)] = d := by
      show 10 * 0 + ((UInt8.ofNat (48 + d)).toNat - 48) = d
      rw [hn]; omega
    rw [e]
theorem TXI.tail {v len : Nat} {c : UInt8} {D : List UInt8} (h : TXI v (len + 1) (c :: D)) (hc : c.toNat = 48) : TXI v len D := by
  refine ⟨by have := h.len; simpa using this, fun c hc => h.dg c (List.mem_cons_of_mem _ hc), ?_⟩
  have := numOf_append [c] D
  rw [List.singleton_append] at this
  rw [h.val] at this
  have e : Wh.numOf [c] = 0 := by simp [Wh.numOf, Wh.dv, hc]
  rw [e] at this
  omega
theorem TXI.fin {v len : Nat} {c : UInt8} {D : List UInt8} (h : TXI v len (c :: D)) (hc : c.toNat ≠ 48 ∨ D = []) : c :: D = Wh.decN v := by
  rw [← h.val]
  refine (Wh.decN_numOf h.dg (by simp) ?_).symm
  rcases hc with hc | hc
  · left; intro e; apply hc; simp at e; rw [e]; rfl
  · right; rw [hc]; rfl
theorem limb4_step (n0 k i V : Nat) : (n0 / 10 ^ k % 10) * 10 ^ (4 * i + k) + (V + 10000 ^ i * (n0 % 10 ^ k)) = V + 10000 ^ i * (n0 % 10 ^ (k + 1)) := by
  have e : (10000 : Nat) ^ i = 10 ^ (4 * i) := by rw [Nat.pow_mul]
  rw [Nat.mod_pow_succ, Nat.mul_add, e, Nat.pow_add, Nat.mul_comm (10 ^ k) (n0 / 10 ^ k % 10), Nat.mul_left_comm (10 ^ (4 * i)) (n0 / 10 ^ k % 10)]
  omega
def RL4 (w : World) (v : Value) (l : List Nat) : Prop := ∃ a c, v = .slice a l.length c ∧ Il w a l.length l ∧ l.length ≤ c
theorem Il.mono {w w' : World} {a : Option Addr} {n : Nat} {l : List Nat} (h : Il w a n l) (hb : Below w.heap.size w w') : Il w' a n l := fun i hi => by
  obtain ⟨b, off, e, hl, hc⟩ := h i hi
  exact ⟨b, off, e, Nat.lt_of_lt_of_le hl hb.size, fun j hj => (hb.cell (p := ⟨b, off + j, none⟩) hl).trans (hc j hj)⟩
theorem RL4.mono {w w' : World} {v : Value} {l : List Nat} (h : RL4 w v l) (hb : Below w.heap.size w w') : RL4 w' v l := by
  obtain ⟨a, c, e, h1, h2⟩ := h; exact ⟨a, c, e, h1.mono hb, h2⟩
theorem RL4.nil (w : World) : RL4 w (.slice none 0 0) [] := ⟨none, 0, rfl, fun i hi => absurd hi (by simp), Nat.le_refl _⟩
theorem RL4.cut {w : World} {a : Option Addr} {c : Nat} {l : List Nat} {k : Nat} (h : Il w a l.length l) (hk : k ≤ l.length) (hc : l.length ≤ c) : RL4 w (.slice a k c) (l.take k) := by
  have e : (l.take k).length = k := by rw [List.length_take, Nat.min_eq_left hk]
  refine ⟨a, c, by rw [e], ?_, by omega⟩
  rw [e]
  intro i hi
  obtain ⟨b, off, e1, hl, hcc⟩ := h i (by omega)
  refine ⟨b, off, e1, hl, fun j hj => ?_⟩
  rw [hcc j (by omega)]
  simp [List.getD, hj]
theorem top_cut {l : List Nat} {k : Nat} (hk : k ≤ l.length) (h : k = 0 ∨ l.getD (k - 1) 0 ≠ 0) : Top (l.take k) := by
  have e : (l.take k).length = k := by rw [List.length_take, Nat.min_eq_left hk]
  unfold Top
  rw [e]
  rcases h with h | h
  · exact .inl h
  · by_cases h0 : k = 0
    · exact .inl h0
    · right
      simpa [List.getD, show k - 1 < k by omega] using h
theorem RL4.of_own {W : World} {base : Nat} {v : Value} {l : List Nat} (h : W.ownsRow base 3 1 v l.length (i64s l)) : RL4 W v l := by
  obtain ⟨a, c, e, h1, h2⟩ := il_of_own h; exact ⟨a, c, e, h1, h2⟩
end Go.Proofs.YteaeloeebfdodaaGreatDoor
