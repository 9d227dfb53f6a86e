/- Part 28 of the proofs that laws of package whole answer true at every input and leave the input as it was, where the library's variables start as the text lays them (the texts H2, S7, S8, W13, L2, L3, W14, M13). -/
import Derived.Test.YteaeloeebfdodaaGreatDoorF18
import Derived.Test.YteaeloeebfdodaaGreatDoorF27
import Derived.Test.YteaeloeebfdodaaGreatDoorF02
import Derived.Test.YteaeloeebfdodaaGreatDoorF20
import Derived.Laws.RangeAny
import Derived.Test.YteaeloeebfdodaaGreatDoorF05
import Derived.Test.YteaeloeebfdodaaGreatDoorF09
import Derived.Test.YteaeloeebfdodaaGreatDoorF23
import Derived.Test.YteaeloeebfdodaaGreatDoorF08
import Derived.Test.YteaeloeebfdodaaGreatDoorF12
import Derived.Test.YteaeloeebfdodaaGreatDoorF11
import Derived.Test.YteaeloeebfdodaaGreatDoorF01
set_option linter.unusedVariables false
set_option linter.unusedSimpArgs false
/- WALKS: the worked examples again, by the contracts for any numbers. -/
namespace Go.Proofs.YteaeloeebfdodaaGreatDoor
open Go.RowKit Go.Proofs.Rf
theorem floor_ex2 (w : World) (h : Tab w) : Calls Tryz.prog 33 #[.string { data := #[45, 55] }, .string { data := #[50] }] w fun e w' => e = .returned (.tuple #[.string { data := #[45, 52] }, .string { data := #[49] }, .int .i64 0]) ∧ Below w.heap.size w w' := by
  have h1 := FloorG_any w (-7) 2 (valid9 _ (by decide)) (valid9 _ (by decide)) (fit9 _ (by decide)) (fit9 _ (by decide)) (by decide) (valid9 _ (by decide)) (valid9 _ (by decide)) h
  rw [txn (x := -7) (n := 7) rfl (by decide) (dec_of (l := [55]) rfl (by decide) (by decide) (by decide)), txp (x := 2) (n := 2) rfl (dec_of (l := [50]) rfl (by decide) (by decide) (by decide)), txn (x := (-7 : Int).fdiv 2) (n := 4) (by decide) (by decide) (dec_of (l := [52]) rfl (by decide) (by decide) (by decide)), txp (x := (-7 : Int).fmod 2) (n := 1) (by decide) (dec_of (l := [49]) rfl (by decide) (by decide) (by decide))] at h1
  exact h1
theorem gcd_ex2 (w : World) (h : Tab w) : Calls Tryz.prog 35 #[.string { data := #[49, 50] }, .string { data := #[49, 56] }] w fun e w' => e = .returned (.tuple #[.string { data := #[54] }, .string { data := #[50] }, .string { data := #[45, 49] }, .int .i64 0]) ∧ Below w.heap.size w w' := by
  have h1 := Gcd_gcd w 12 18 6 2 (-1) (show Bd 20 _ from by unfold Bd; decide) (show Bd 20 _ from by unfold Bd; decide) (by decide) ⟨by decide, by decide, by decide, by decide, by decide, by decide⟩ h
  rw [txp (x := 12) (n := 12) rfl (dec_of (l := [49, 50]) rfl (by decide) (by decide) (by decide)), txp (x := 18) (n := 18) rfl (dec_of (l := [49, 56]) rfl (by decide) (by decide) (by decide)), txp (x := 6) (n := 6) rfl (dec_of (l := [54]) rfl (by decide) (by decide) (by decide)), txp (x := 2) (n := 2) rfl (dec_of (l := [50]) rfl (by decide) (by decide) (by decide)), txn (x := -1) (n := 1) rfl (by decide) (dec_of (l := [49]) rfl (by decide) (by decide) (by decide))] at h1
  exact h1
set_option maxRecDepth 100000 in
set_option maxHeartbeats 1000000 in
theorem counted_all : Counted := by
  intro w ht
  have HT := Lib.hid ht; clear ht
  go_enter Tryz.func21, Tryz.ntmps21
  go_wp2_with fail
  refine (mul_ex _ HT.out).mono ?_
  rintro e w1 ⟨rfl, hB⟩
  have HT1 := Lib.hid (HT.out.mono hB); have HB1 := Lib.hid hB; clear hB
  go_wp2_with fail
  refine (floor_ex2 _ HT1.out).mono ?_
  rintro e w2 ⟨rfl, hB⟩
  have HT2 := Lib.hid (HT1.out.mono hB); have HB2 := Lib.hid (HB1.out.trans (hB.mono HB1.out.size)); clear hB HT1 HB1
  go_wp2_with fail
  refine (gcd_ex2 _ HT2.out).mono ?_
  rintro e w3 ⟨rfl, hB⟩
  have HT3 := Lib.hid (HT2.out.mono hB); have HB3 := Lib.hid (HB2.out.trans (hB.mono HB2.out.size)); clear hB HT2 HB2
  go_wp2_with fail
  refine (powmod_ex _ HT3.out).mono ?_
  rintro e w4 ⟨rfl, hB⟩
  have HT4 := Lib.hid (HT3.out.mono hB); have HB4 := Lib.hid (HB3.out.trans (hB.mono HB3.out.size)); clear hB HT3 HB3
  go_wp2_with fail
  refine (base_ex _ HT4.out).mono ?_
  rintro e w5 ⟨rfl, hB⟩
  have HT5 := Lib.hid (HT4.out.mono hB); have HB5 := Lib.hid (HB4.out.trans (hB.mono HB4.out.size)); clear hB HT4 HB4
  go_wp2_with fail
  refine (factor_ex _ HT5.out).mono ?_
  rintro e w6 ⟨⟨g, c, rfl, hg, hcs⟩, hB⟩
  have HT6 := Lib.hid (HT5.out.mono hB); have HB6 := Lib.hid (HB5.out.trans (hB.mono HB5.out.size)); clear hB HT5 HB5
  have HCS := Lib.hid hcs; clear hcs
  go_wp2_with fail
  refine (root_ex _ HT6.out).mono ?_
  rintro e w7 ⟨rfl, hB⟩
  have HC7 : Hid (∀ i, i < 6 → w7.cell? ⟨g, 0 + i, none⟩ = some (.string (six i))) := Lib.hid (fun i hi => (hB.cell (p := ⟨g, 0 + i, none⟩) hg).trans (HCS.out i hi))
  have hg7 : g < w7.heap.size := Nat.lt_of_lt_of_le hg hB.size
  have HB7 := Lib.hid (HB6.out.trans (hB.mono HB6.out.size)); clear hB HT6 HB6 HCS hg
  go_wp2_with fail
  have hal : Below w7.heap.size w7 (w7.alloc (Obj.cells #[.string { data := #[50] }, .string { data := #[50] }, .string { data := #[50] }, .string { data := #[51] }, .string { data := #[51] }, .string { data := #[53] }] 9)) := (Below.refl _ _).alloc (Nat.le_refl _) _
  have h1 : ∀ i, i < 6 → (w7.alloc (Obj.cells #[.string { data := #[50] }, .string { data := #[50] }, .string { data := #[50] }, .string { data := #[51] }, .string { data := #[51] }, .string { data := #[53] }] 9)).cell? ⟨g, 0 + i, none⟩ = some (.string (six i)) := fun i hi => (hal.cell (p := ⟨g, 0 + i, none⟩) hg7).trans (HC7.out i hi)
  have h2 : ∀ i, i < 6 → (w7.alloc (Obj.cells #[.string { data := #[50] }, .string { data := #[50] }, .string { data := #[50] }, .string { data := #[51] }, .string { data := #[51] }, .string { data := #[53] }] 9)).cell? ⟨w7.heap.size, 0 + i, none⟩ = some (.string (six i)) := fun i hi => by
    rcases (by omega : i = 0 ∨ i = 1 ∨ i = 2 ∨ i = 3 ∨ i = 4 ∨ i = 5) with rfl | rfl | rfl | rfl | rfl | rfl <;> go_simp <;> rfl
  have HB8 := Lib.hid (HB7.out.trans (hal.mono HB7.out.size))
  have HE := Lib.hid (EqTexts_same (w7.alloc (Obj.cells #[.string { data := #[50] }, .string { data := #[50] }, .string { data := #[50] }, .string { data := #[51] }, .string { data := #[51] }, .string { data := #[53] }] 9)) g 0 w7.heap.size 0 6 c 6 six h1 h2 (by decide))
  clear hal h1 h2 HC7 HB7
  refine HE.out.mono ?_
  rintro e w8 ⟨rfl, hb8⟩
  have HB9 := Lib.hid (HB8.out.trans (hb8.mono HB8.out.size))
  clear HE hb8 HB8
  go_wp2
  go_ret
  exact ⟨rfl, HB9.out⟩
end Go.Proofs.YteaeloeebfdodaaGreatDoor

/- WALKS, strings 7: split of any text that is no number. -/
namespace Go.Proofs.YteaeloeebfdodaaGreatDoor
open Go.RowKit
/-- what stands behind the sign -/
def behind (l : List UInt8) : List UInt8 := if l.head? = some 45 then l.tail else l
/-- the text has the form of a whole number in the base -/
structure FormD (l d : List UInt8) (b : Nat) : Prop where
  ne : d ≠ []
  digs : Digs b d
  lead : d.head? ≠ some 48 ∨ l = [48]
def Form (b : Nat) (l : List UInt8) : Prop := FormD l (behind l) b
set_option maxHeartbeats 400000 in
theorem digitOf_high (c : Nat) (h : 128 ≤ c) (hm : c ≤ 2147483647) (w : World) :
    Calls Tryz.prog 230 #[.int .i32 c] w fun e w' => e = .returned (.int .i64 36) ∧ w = w' := by
  go_enter Tryz.func230, Tryz.ntmps230
  go_wp2
  go_ret
  exact ⟨rfl, rfl⟩
set_option maxRecDepth 100000 in
set_option maxHeartbeats 800000 in
theorem split_bad_true (l d : List UInt8) (base : Nat) (hbs : base ≤ 36) (hcut : ∀ w, Calls Tryz.prog 238 #[.string (str l), .string ⟨#[45]⟩] w fun e w' => e = .returned (.tuple #[.string (str d), .bool true]) ∧ w = w') (hm : d.length ≤ 80000) (hbad : ¬ FormD l d base) (w : World) :
    Calls Tryz.prog 204 #[.string (str l), .int .i64 base] w fun e w' => e = .panicked (chainOf 1) ∧ Below w.heap.size w w' := by
  have HCUT := Lib.hid (hcut w); clear hcut
  have hsz : (str d).size = d.length := rfl
  have hsm : (str d).size ≤ 80000 := hm
  have HSZ := Lib.hid hsz; clear hsz hm
  have HBAD := Lib.hid hbad; clear hbad
  have HL : Hid ((str l).toList = l) := Lib.hid (by rw [Lib.toList_data, str_data])
  generalize str l = full at *
  go_enter Tryz.func204, Tryz.ntmps204
  go_wp2_with fail
  refine (mark_below _).mono ?_
  rintro e w' ⟨rfl, rfl⟩
  go_wp2_with fail
  refine HCUT.out.mono ?_
  rintro e w' ⟨rfl, rfl⟩
  go_wp2_with fail
  by_cases hne : d = []
  · rw [show (!(str d).toList.isEmpty) = false from by rw [Lib.toList_data, str_data, hne]; rfl]
    refine (demand_no _ _).mono ?_
    rintro e w' ⟨rfl, rfl⟩
    go_wp2
    exact ⟨rfl, rfl, Below.refl _ _⟩
  · have hs0 : 0 < (str d).size := by rw [str_size]; exact List.length_pos_iff.2 hne
    rw [show (!(str d).toList.isEmpty) = true from by rw [Lib.toList_data, str_data]; cases d <;> simp_all]
    have HNE := Lib.hid hne; clear hne
    refine (demand_yes _ _).mono ?_
    rintro e w' ⟨rfl, rfl⟩
    go_wp2_with fail
    go_loopw [] (fun wr => ∃ pos : Nat, pos ≤ (str d).size ∧ Hid (∀ i, i < pos → (d.getD i 0).toNat < 128 ∧ dval (d.getD i 0).toNat < base) ∧ wr = w.iter (str d) pos) (fun wr => (str d).size - wr.iterPos w.heap.size)
    case atStart => exact ⟨0, Nat.zero_le _, Lib.hid (fun i h => absurd h (by omega)), rfl⟩
    case round =>
      obtain ⟨pos, hp, HG, rfl⟩ := hrel
      by_cases hlt : pos < (str d).size
      · by_cases hc1 : (d.getD pos 0).toNat < 128
        · have hdec := decode_at d pos (by rw [← HSZ.out]; exact hlt) hc1
          have hnx : ∀ ty, (Instr.next (.pointer (some ⟨w.heap.size, 0, none⟩)) true ty).run Tryz.prog (w.iter (str d) pos) = .ok (.tuple #[.bool true, .int .i64 pos, .int .i32 ((d.getD pos 0).toNat : Nat)]) (w.iter (str d) (pos + 1)) := fun ty => by
            rw [run_next_any w (str d) pos ty hlt, hdec]
          clear hdec
          by_cases hc2 : dval (d.getD pos 0).toNat < base
          · have HG2 : Hid (∀ i, i < pos + 1 → (d.getD i 0).toNat < 128 ∧ dval (d.getD i 0).toNat < base) := Lib.hid (fun i hi => by
              rcases Nat.lt_or_ge i pos with h | h
              · exact HG.out i h
              · obtain rfl : i = pos := by omega
                exact ⟨hc1, hc2⟩)
            clear HG
            generalize (d.getD pos 0).toNat = c at *
            have hdv : decide (dval c < base) = true := by simpa using hc2
            go_wp2_with fail
            refine (digitOf_any c hc1 _).mono ?_
            rintro e w' ⟨rfl, rfl⟩
            go_wp2_with fail
            refine (demand_yes _ _).mono ?_
            rintro e w' ⟨rfl, rfl⟩
            go_wp2
            go_roundw
            case rel => exact ⟨pos + 1, by omega, HG2, rfl⟩
            case measure => simp; omega
          · clear HG
            generalize (d.getD pos 0).toNat = c at *
            have hdv : decide (dval c < base) = false := by simpa using hc2
            go_wp2_with fail
            refine (digitOf_any c hc1 _).mono ?_
            rintro e w' ⟨rfl, rfl⟩
            go_wp2_with fail
            refine (demand_no _ _).mono ?_
            rintro e w' ⟨rfl, rfl⟩
            go_wp2
            exact ⟨rfl, rfl, (Below.refl _ _).alloc (Nat.le_refl _) _⟩
        · clear HG
          obtain ⟨hr1, hr2⟩ := decode_high (str d) pos hlt (by rw [str_get]; omega)
          have hr3 := decode_le (str d) pos
          have hnx := fun ty => run_next_any (P := Tryz.prog) w (str d) pos ty hlt
          generalize (Utf8.decode (str d) pos).1 = c at *
          generalize (Utf8.decode (str d) pos).2 = k at *
          have hdv : decide ((36 : Int) < base) = false := by rw [decide_eq_false_iff_not]; omega
          clear hc1
          go_wp2_with fail
          refine (digitOf_high c hr1 hr3 _).mono ?_
          rintro e w' ⟨rfl, rfl⟩
          go_wp2_with fail
          refine (demand_no _ _).mono ?_
          rintro e w' ⟨rfl, rfl⟩
          go_wp2
          exact ⟨rfl, rfl, (Below.refl _ _).alloc (Nat.le_refl _) _⟩
      · have hnx : ∀ ty, (Instr.next (.pointer (some ⟨w.heap.size, 0, none⟩)) true ty).run Tryz.prog (w.iter (str d) pos) = _ := fun ty => run_next_end w (str d) pos ty hlt
        have hall : Digs base d := fun c hc => by
          obtain ⟨i, hi, rfl⟩ := List.getElem_of_mem hc
          have := HG.out i (by have := HSZ.out; omega)
          rw [List.getD_eq_getElem?_getD, List.getElem?_eq_getElem hi] at this
          exact this
        have hz : ¬ (d.head? ≠ some 48 ∨ l = [48]) := fun h => HBAD.out ⟨HNE.out, hall, h⟩
        have hz1 : d.head? = some 48 := Decidable.byContradiction fun h => hz (.inl h)
        have hz2 : l ≠ [48] := fun h => hz (.inr h)
        have h48 : (((str d)[0]'hs0).toNat : Int) = 48 := by
          rw [str_get d 0 hs0]
          cases d with
          | nil => simp at hz1
          | cons c r => simp at hz1; subst hz1; rfl
        have htl : (full.toList == [48]) = false := by rw [HL.out, beq_eq_false_iff_ne]; exact hz2
        clear HG hall hz hz1 hz2
        go_wp2_with fail
        refine (demand_no _ _).mono ?_
        rintro e w' ⟨rfl, rfl⟩
        go_wp2
        exact ⟨rfl, rfl, (Below.refl _ _).alloc (Nat.le_refl _) _⟩
set_option maxRecDepth 100000 in
set_option maxHeartbeats 800000 in
theorem split_bad_false (l d : List UInt8) (base : Nat) (hbs : base ≤ 36) (hcut : ∀ w, Calls Tryz.prog 238 #[.string (str l), .string ⟨#[45]⟩] w fun e w' => e = .returned (.tuple #[.string (str d), .bool false]) ∧ w = w') (hm : d.length ≤ 80000) (hbad : ¬ FormD l d base) (w : World) :
    Calls Tryz.prog 204 #[.string (str l), .int .i64 base] w fun e w' => e = .panicked (chainOf 1) ∧ Below w.heap.size w w' := by
  have HCUT := Lib.hid (hcut w); clear hcut
  have hsz : (str d).size = d.length := rfl
  have hsm : (str d).size ≤ 80000 := hm
  have HSZ := Lib.hid hsz; clear hsz hm
  have HBAD := Lib.hid hbad; clear hbad
  have HL : Hid ((str l).toList = l) := Lib.hid (by rw [Lib.toList_data, str_data])
  generalize str l = full at *
  go_enter Tryz.func204, Tryz.ntmps204
  go_wp2_with fail
  refine (mark_below _).mono ?_
  rintro e w' ⟨rfl, rfl⟩
  go_wp2_with fail
  refine HCUT.out.mono ?_
  rintro e w' ⟨rfl, rfl⟩
  go_wp2_with fail
  by_cases hne : d = []
  · rw [show (!(str d).toList.isEmpty) = false from by rw [Lib.toList_data, str_data, hne]; rfl]
    refine (demand_no _ _).mono ?_
    rintro e w' ⟨rfl, rfl⟩
    go_wp2
    exact ⟨rfl, rfl, Below.refl _ _⟩
  · have hs0 : 0 < (str d).size := by rw [str_size]; exact List.length_pos_iff.2 hne
    rw [show (!(str d).toList.isEmpty) = true from by rw [Lib.toList_data, str_data]; cases d <;> simp_all]
    have HNE := Lib.hid hne; clear hne
    refine (demand_yes _ _).mono ?_
    rintro e w' ⟨rfl, rfl⟩
    go_wp2_with fail
    go_loopw [] (fun wr => ∃ pos : Nat, pos ≤ (str d).size ∧ Hid (∀ i, i < pos → (d.getD i 0).toNat < 128 ∧ dval (d.getD i 0).toNat < base) ∧ wr = w.iter (str d) pos) (fun wr => (str d).size - wr.iterPos w.heap.size)
    case atStart => exact ⟨0, Nat.zero_le _, Lib.hid (fun i h => absurd h (by omega)), rfl⟩
    case round =>
      obtain ⟨pos, hp, HG, rfl⟩ := hrel
      by_cases hlt : pos < (str d).size
      · by_cases hc1 : (d.getD pos 0).toNat < 128
        · have hdec := decode_at d pos (by rw [← HSZ.out]; exact hlt) hc1
          have hnx : ∀ ty, (Instr.next (.pointer (some ⟨w.heap.size, 0, none⟩)) true ty).run Tryz.prog (w.iter (str d) pos) = .ok (.tuple #[.bool true, .int .i64 pos, .int .i32 ((d.getD pos 0).toNat : Nat)]) (w.iter (str d) (pos + 1)) := fun ty => by
            rw [run_next_any w (str d) pos ty hlt, hdec]
          clear hdec
          by_cases hc2 : dval (d.getD pos 0).toNat < base
          · have HG2 : Hid (∀ i, i < pos + 1 → (d.getD i 0).toNat < 128 ∧ dval (d.getD i 0).toNat < base) := Lib.hid (fun i hi => by
              rcases Nat.lt_or_ge i pos with h | h
              · exact HG.out i h
              · obtain rfl : i = pos := by omega
                exact ⟨hc1, hc2⟩)
            clear HG
            generalize (d.getD pos 0).toNat = c at *
            have hdv : decide (dval c < base) = true := by simpa using hc2
            go_wp2_with fail
            refine (digitOf_any c hc1 _).mono ?_
            rintro e w' ⟨rfl, rfl⟩
            go_wp2_with fail
            refine (demand_yes _ _).mono ?_
            rintro e w' ⟨rfl, rfl⟩
            go_wp2
            go_roundw
            case rel => exact ⟨pos + 1, by omega, HG2, rfl⟩
            case measure => simp; omega
          · clear HG
            generalize (d.getD pos 0).toNat = c at *
            have hdv : decide (dval c < base) = false := by simpa using hc2
            go_wp2_with fail
            refine (digitOf_any c hc1 _).mono ?_
            rintro e w' ⟨rfl, rfl⟩
            go_wp2_with fail
            refine (demand_no _ _).mono ?_
            rintro e w' ⟨rfl, rfl⟩
            go_wp2
            exact ⟨rfl, rfl, (Below.refl _ _).alloc (Nat.le_refl _) _⟩
        · clear HG
          obtain ⟨hr1, hr2⟩ := decode_high (str d) pos hlt (by rw [str_get]; omega)
          have hr3 := decode_le (str d) pos
          have hnx := fun ty => run_next_any (P := Tryz.prog) w (str d) pos ty hlt
          generalize (Utf8.decode (str d) pos).1 = c at *
          generalize (Utf8.decode (str d) pos).2 = k at *
          have hdv : decide ((36 : Int) < base) = false := by rw [decide_eq_false_iff_not]; omega
          clear hc1
          go_wp2_with fail
          refine (digitOf_high c hr1 hr3 _).mono ?_
          rintro e w' ⟨rfl, rfl⟩
          go_wp2_with fail
          refine (demand_no _ _).mono ?_
          rintro e w' ⟨rfl, rfl⟩
          go_wp2
          exact ⟨rfl, rfl, (Below.refl _ _).alloc (Nat.le_refl _) _⟩
      · have hnx : ∀ ty, (Instr.next (.pointer (some ⟨w.heap.size, 0, none⟩)) true ty).run Tryz.prog (w.iter (str d) pos) = _ := fun ty => run_next_end w (str d) pos ty hlt
        have hall : Digs base d := fun c hc => by
          obtain ⟨i, hi, rfl⟩ := List.getElem_of_mem hc
          have := HG.out i (by have := HSZ.out; omega)
          rw [List.getD_eq_getElem?_getD, List.getElem?_eq_getElem hi] at this
          exact this
        have hz : ¬ (d.head? ≠ some 48 ∨ l = [48]) := fun h => HBAD.out ⟨HNE.out, hall, h⟩
        have hz1 : d.head? = some 48 := Decidable.byContradiction fun h => hz (.inl h)
        have hz2 : l ≠ [48] := fun h => hz (.inr h)
        have h48 : (((str d)[0]'hs0).toNat : Int) = 48 := by
          rw [str_get d 0 hs0]
          cases d with
          | nil => simp at hz1
          | cons c r => simp at hz1; subst hz1; rfl
        have htl : (full.toList == [48]) = false := by rw [HL.out, beq_eq_false_iff_ne]; exact hz2
        clear HG hall hz hz1 hz2
        go_wp2_with fail
        refine (demand_no _ _).mono ?_
        rintro e w' ⟨rfl, rfl⟩
        go_wp2
        exact ⟨rfl, rfl, (Below.refl _ _).alloc (Nat.le_refl _) _⟩
theorem split_bad (l : List UInt8) (base : Nat) (hbs : base ≤ 36) (hm : l.length ≤ 80000) (hbad : ¬ Form base l) (w : World) :
    Calls Tryz.prog 204 #[.string (str l), .int .i64 base] w fun e w' => e = .panicked (chainOf 1) ∧ Below w.heap.size w w' := by
  unfold Form behind at hbad
  by_cases h : l.head? = some 45
  · rw [if_pos h] at hbad
    cases l with
    | nil => simp at h
    | cons c r =>
      simp at h
      subst h
      exact split_bad_true (45 :: r) r base hbs (fun w => cut_yes r (by simp at hm; omega) w) (by simp at hm; omega) hbad w
  · rw [if_neg h] at hbad
    exact split_bad_false l l base hbs (fun w => cut_no l (by omega) h w) hm hbad w
end Go.Proofs.YteaeloeebfdodaaGreatDoor

/- WALKS, strings 8: check, read and readPair of any text. -/
namespace Go.Proofs.YteaeloeebfdodaaGreatDoor
open Go.RowKit
/-- a text that is no valid number, and its error -/
def Bad (l : List UInt8) (c : Int) : Prop := (¬ Form 10 l ∧ c = 1) ∨ (∃ x, l = Wh.decI x ∧ ¬ Valid x ∧ c = 13)
theorem decI_len (x : Int) : (Wh.decN x.natAbs).length ≤ (Wh.decI x).length := by
  unfold Wh.decI
  split
  · simp
  · exact Nat.le_refl _
theorem split_long (x : Int) (hv : (Wh.decN x.natAbs).length ≤ 80000) (w : World) :
    Calls Tryz.prog 204 #[txt x, .int .i64 10] w fun e w' => e = .returned (.tuple #[.int .i64 (if x < 0 then -1 else 1), .string (str (Wh.decN x.natAbs))]) ∧ Below w.heap.size w w' := by
  by_cases h : x < 0
  · rw [if_pos h]
    have hz : (Wh.decN x.natAbs).head? ≠ some 48 := by
      rcases head_zero x.natAbs with h' | h'
      · exact h'
      · have := Wh.numOf_decN x.natAbs
        rw [h'] at this
        have e : Wh.numOf [48] = 0 := rfl
        omega
    have := split_neg (Wh.decN x.natAbs) 10 (digs_dec _) (Wh.decN_ne _) (by omega) hz w
    unfold txt Wh.decI; rw [if_pos h]; exact this
  · rw [if_neg h]
    have := split_pos (Wh.decN x.natAbs) 10 (digs_dec _) (Wh.decN_ne _) (by omega) (head_digit _) (head_zero _) w
    unfold txt Wh.decI; rw [if_neg h]; exact this
set_option maxHeartbeats 400000 in
theorem check_form (l : List UInt8) (hm : l.length ≤ 80000) (h : ¬ Form 10 l) (w : World) :
    Calls Tryz.prog 107 #[.string (str l)] w fun e w' => e = .panicked (chainOf 1) ∧ Below w.heap.size w w' := by
  have HW : Hid (∀ w, Calls Tryz.prog 121 #[.string (str l), .int .i64 10] w fun e w' => e = .panicked (chainOf 1) ∧ Below w.heap.size w w') := Lib.hid fun w => by
    have H := Lib.hid (split_bad l 10 (by decide) hm h w)
    generalize str l = s at *
    go_enter Tryz.func121, Tryz.ntmps121
    go_wp2_with fail
    refine H.out.mono ?_
    rintro e w1 ⟨rfl, hb1⟩
    go_wp2
    exact ⟨rfl, rfl, hb1⟩
  generalize str l = s at *
  go_enter Tryz.func107, Tryz.ntmps107
  go_wp2_with fail
  refine (HW.out _).mono ?_
  rintro e w1 ⟨rfl, hb1⟩
  go_wp2
  exact ⟨rfl, rfl, hb1⟩
set_option maxHeartbeats 400000 in
theorem width_big (x : Int) (hv : (Wh.decN x.natAbs).length ≤ 80000) (w : World) :
    Calls Tryz.prog 121 #[txt x, .int .i64 10] w fun e w' => e = .returned (.int .i64 (Wh.decN x.natAbs).length) ∧ Below w.heap.size w w' := by
  have H := Lib.hid (split_long x hv)
  have hz : (str (Wh.decN x.natAbs)).size = (Wh.decN x.natAbs).length := rfl
  have hz2 : (str (Wh.decN x.natAbs)).size ≤ 80000 := hv
  unfold txt at *
  generalize str (Wh.decI x) = s at *
  generalize str (Wh.decN x.natAbs) = d at *
  generalize (if x < 0 then (-1 : Int) else 1) = sg at *
  have HZ := Lib.hid hz; clear hz
  go_enter Tryz.func121, Tryz.ntmps121
  go_wp2_with fail
  refine (H.out _).mono ?_
  rintro e w1 ⟨rfl, hb1⟩
  go_wp2
  go_ret
  exact ⟨by rw [← HZ.out]; rfl, hb1⟩
set_option maxHeartbeats 400000 in
theorem check_large (x : Int) (hm : (Wh.decN x.natAbs).length ≤ 80000) (hv : ¬ Valid x) (w : World) :
    Calls Tryz.prog 107 #[txt x] w fun e w' => e = .panicked (chainOf 13) ∧ Below w.heap.size w w' := by
  have H := Lib.hid (width_big x hm)
  unfold Valid at hv
  unfold txt at *
  generalize str (Wh.decI x) = s at *
  generalize (Wh.decN x.natAbs).length = n at *
  have hd2 : decide ((n : Int) ≤ 400) = false := by simp; omega
  go_enter Tryz.func107, Tryz.ntmps107
  go_wp2_with fail
  refine (H.out _).mono ?_
  rintro e w1 ⟨rfl, hb1⟩
  go_wp2_with fail
  refine (demand_no _ _).mono ?_
  rintro e w2 ⟨rfl, rfl⟩
  go_wp2
  exact ⟨rfl, rfl, hb1⟩
theorem check_bad (l : List UInt8) (c : Int) (hm : l.length ≤ 80000) (h : Bad l c) (w : World) :
    Calls Tryz.prog 107 #[.string (str l)] w fun e w' => e = .panicked (chainOf c) ∧ Below w.heap.size w w' := by
  rcases h with ⟨h, rfl⟩ | ⟨x, rfl, h, rfl⟩
  · exact check_form l hm h w
  · exact check_large x (Nat.le_trans (decI_len x) hm) h w
end Go.Proofs.YteaeloeebfdodaaGreatDoor

/- WALKS: functions of package whole that fail: texts that are no numbers, values that are not allowed. -/
namespace Go.Proofs.YteaeloeebfdodaaGreatDoor
open Go.RowKit
theorem boxSI (w : World) (s : ByteArray) (n : Int) : ((w.alloc (.cells #[.string s] 9)).alloc (.cells #[.int .i64 n] 3)).cell? ⟨w.heap.size, 0, none⟩ = some (.string s) ∧ ((w.alloc (.cells #[.string s] 9)).alloc (.cells #[.int .i64 n] 3)).cell? ⟨w.heap.size + 1, 0, none⟩ = some (.int .i64 n) := ⟨by go_simp, by go_simp⟩
set_option maxRecDepth 100000 in
set_option maxHeartbeats 400000 in
theorem checkwork_bad (w : World) (pa : Addr) (l : List UInt8) (c : Int) (hc : w.cell? pa = some (.string (str l))) (hm : l.length ≤ 80000) (h : Bad l c) :
    Calls Tryz.prog 106 #[.pointer (some pa)] w fun e w' => e = .panicked (chainOf c) ∧ Below w.heap.size w w' := by
  have H1 := Lib.hid (check_bad l c hm h w)
  clear hm h
  generalize str l = s at *
  go_enter Tryz.func106, Tryz.ntmps106
  go_wp2_with fail
  refine H1.out.mono ?_
  rintro e w1 ⟨rfl, hb1⟩
  go_wp2
  exact ⟨rfl, rfl, hb1⟩
set_option maxRecDepth 100000 in
set_option maxHeartbeats 400000 in
theorem checkwork_good (w : World) (pa : Addr) (x : Int) (hc : w.cell? pa = some (txt x)) (h : Valid x) :
    Calls Tryz.prog 106 #[.pointer (some pa)] w fun e w' => e = .returned (.string ⟨#[]⟩) ∧ Below w.heap.size w w' := by
  have H1 := Lib.hid (check_any x h w)
  clear h
  unfold txt at *
  generalize str (Wh.decI x) = s at *
  go_enter Tryz.func106, Tryz.ntmps106
  go_wp2_with fail
  refine H1.out.mono ?_
  rintro e w1 ⟨rfl, hb1⟩
  go_wp2
  go_ret
  exact ⟨rfl, hb1⟩
set_option maxRecDepth 100000 in
set_option maxHeartbeats 400000 in
theorem Check_bad (w : World) (l : List UInt8) (c : Int) (hm : l.length ≤ 80000) (h : Bad l c) (hE : ErrT w) :
    Calls Tryz.prog 31 #[.string (str l)] w fun e w' => e = .returned (.int .i64 c) ∧ Below w.heap.size w w' := by
  have hmf : ∀ (fn : Fn) (first cap : Array Value) (w : World), (Instr.makeFunc fn first cap).run Tryz.prog w = .ok (.func fn first cap) w := fun _ _ _ _ => rfl
  have HAT := Lib.hid (fun (w : World) (pa : Addr) (hc : w.cell? pa = some (.string (str l))) (hl : pa.block < w.heap.size) (hE : ErrT w) => attempt_bad 106 #[.pointer (some pa)] c w hE (fun w => by kernel_rfl) (fun w' hb' => checkwork_bad w' pa l c ((hb'.cell hl).trans hc) hm h))
  clear h hm
  unfold txt at *
  generalize str l = s at *
  go_enter Tryz.func31, Tryz.ntmps31
  go_wp2_with fail
  have hal : Below w.heap.size w (w.alloc (.cells #[.string s] 9)) := (Below.refl _ _).alloc (Nat.le_refl _) _
  refine (HAT.out _ _ (by go_simp) (by simp) (hE.mono hal)).mono ?_
  rintro e w2 ⟨rfl, hb2⟩
  have hbb := hal.trans (hb2.mono hal.size)
  clear hal hb2
  go_wp2
  go_ret
  exact ⟨rfl, hbb⟩
set_option maxRecDepth 100000 in
set_option maxHeartbeats 400000 in
theorem Check_good (w : World) (x : Int) (h : Valid x) :
    Calls Tryz.prog 31 #[txt x] w fun e w' => e = .returned (.int .i64 0) ∧ Below w.heap.size w w' := by
  have hmf : ∀ (fn : Fn) (first cap : Array Value) (w : World), (Instr.makeFunc fn first cap).run Tryz.prog w = .ok (.func fn first cap) w := fun _ _ _ _ => rfl
  have HAT := Lib.hid (fun (w : World) (pa : Addr) (hc : w.cell? pa = some (txt x)) (hl : pa.block < w.heap.size) => attempt_good 106 #[.pointer (some pa)] ⟨#[]⟩ w (fun w => by kernel_rfl) (fun w' hb' => checkwork_good w' pa x ((hb'.cell hl).trans hc) h))
  clear h
  unfold txt at *
  generalize str (Wh.decI x) = s at *
  go_enter Tryz.func31, Tryz.ntmps31
  go_wp2_with fail
  have hal : Below w.heap.size w (w.alloc (.cells #[.string s] 9)) := (Below.refl _ _).alloc (Nat.le_refl _) _
  refine (HAT.out _ _ (by go_simp) (by simp)).mono ?_
  rintro e w2 ⟨rfl, hb2⟩
  have hbb := hal.trans (hb2.mono hal.size)
  clear hal hb2
  go_wp2
  go_ret
  exact ⟨rfl, hbb⟩
set_option maxRecDepth 100000 in
set_option maxHeartbeats 400000 in
theorem powwork_lo (w : World) (pa pb : Addr) (x n : Int) (hc : w.cell? pa = some (txt x)) (hd : w.cell? pb = some (.int .i64 n)) (hlb : pb.block < w.heap.size) (h : Valid x) (hn : n < 0) :
    Calls Tryz.prog 94 #[.pointer (some pa), .pointer (some pb)] w fun e w' => e = .panicked (chainOf 2) ∧ Below w.heap.size w w' := by
  have H1 := Lib.hid (read_any x h w)
  have hlo : decide ((0 : Int) ≤ n) = false := by rw [decide_eq_false_iff_not]; omega
  clear h
  unfold txt at *
  generalize str (Wh.decI x) = s at *
  go_enter Tryz.func94, Tryz.ntmps94
  go_wp2_with fail
  refine H1.out.mono ?_
  rintro e w1 ⟨⟨v1, rfl, hn1⟩, hb1⟩
  obtain ⟨s1, rfl, k1⟩ := hn1
  obtain ⟨p1, c1, rfl⟩ := k1.len
  have hal : Below w1.heap.size w1 (w1.alloc (Obj.cells #[Value.int IntKind.i64 x.sign, Value.slice p1 (Wh.limbs x.natAbs).length c1] 83)) := (Below.refl _ _).alloc (Nat.le_refl _) _
  have hB := hb1.trans (hal.mono hb1.size)
  have kb := (hB.cell hlb).trans hd
  have HB := Lib.hid hB
  have hpb : pb.block < w1.heap.size := Nat.lt_of_lt_of_le hlb hb1.size
  have ka : (w1.alloc (Obj.cells #[Value.int IntKind.i64 x.sign, Value.slice p1 (Wh.limbs x.natAbs).length c1] 83)).cell? ⟨w1.heap.size, 0, none⟩ = some (.int .i64 x.sign) := by go_simp
  have kc : (w1.alloc (Obj.cells #[Value.int IntKind.i64 x.sign, Value.slice p1 (Wh.limbs x.natAbs).length c1] 83)).cell? ⟨w1.heap.size, 1, none⟩ = some (.slice p1 (Wh.limbs x.natAbs).length c1) := by go_simp
  clear hal hB hb1 k1 hc hd
  generalize x.sign = sx at *
  generalize (Wh.limbs x.natAbs).length = nx at *
  go_wp2_with fail
  generalize w1.alloc (Obj.cells #[Value.int IntKind.i64 sx, Value.slice p1 nx c1] 83) = V at *
  refine (demand_no _ _).mono ?_
  rintro e w2 ⟨rfl, rfl⟩
  go_wp2
  exact ⟨rfl, rfl, HB.out⟩
set_option maxRecDepth 100000 in
set_option maxHeartbeats 400000 in
theorem powwork_hi (w : World) (pa pb : Addr) (x n : Int) (hc : w.cell? pa = some (txt x)) (hd : w.cell? pb = some (.int .i64 n)) (hlb : pb.block < w.heap.size) (h : Valid x) (hn : 1000 < n) :
    Calls Tryz.prog 94 #[.pointer (some pa), .pointer (some pb)] w fun e w' => e = .panicked (chainOf 2) ∧ Below w.heap.size w w' := by
  have H1 := Lib.hid (read_any x h w)
  have hlo : decide ((0 : Int) ≤ n) = true := by rw [decide_eq_true_iff]; omega
  have hhi : decide (n ≤ (1000 : Int)) = false := by rw [decide_eq_false_iff_not]; omega
  clear h
  unfold txt at *
  generalize str (Wh.decI x) = s at *
  go_enter Tryz.func94, Tryz.ntmps94
  go_wp2_with fail
  refine H1.out.mono ?_
  rintro e w1 ⟨⟨v1, rfl, hn1⟩, hb1⟩
  obtain ⟨s1, rfl, k1⟩ := hn1
  obtain ⟨p1, c1, rfl⟩ := k1.len
  have hal : Below w1.heap.size w1 (w1.alloc (Obj.cells #[Value.int IntKind.i64 x.sign, Value.slice p1 (Wh.limbs x.natAbs).length c1] 83)) := (Below.refl _ _).alloc (Nat.le_refl _) _
  have hB := hb1.trans (hal.mono hb1.size)
  have kb := (hB.cell hlb).trans hd
  have HB := Lib.hid hB
  have hpb : pb.block < w1.heap.size := Nat.lt_of_lt_of_le hlb hb1.size
  have ka : (w1.alloc (Obj.cells #[Value.int IntKind.i64 x.sign, Value.slice p1 (Wh.limbs x.natAbs).length c1] 83)).cell? ⟨w1.heap.size, 0, none⟩ = some (.int .i64 x.sign) := by go_simp
  have kc : (w1.alloc (Obj.cells #[Value.int IntKind.i64 x.sign, Value.slice p1 (Wh.limbs x.natAbs).length c1] 83)).cell? ⟨w1.heap.size, 1, none⟩ = some (.slice p1 (Wh.limbs x.natAbs).length c1) := by go_simp
  clear hal hB hb1 k1 hc hd
  generalize x.sign = sx at *
  generalize (Wh.limbs x.natAbs).length = nx at *
  go_wp2_with fail
  generalize w1.alloc (Obj.cells #[Value.int IntKind.i64 sx, Value.slice p1 nx c1] 83) = V at *
  refine (demand_no _ _).mono ?_
  rintro e w2 ⟨rfl, rfl⟩
  go_wp2
  exact ⟨rfl, rfl, HB.out⟩
set_option maxRecDepth 100000 in
set_option maxHeartbeats 400000 in
theorem Pow_fail (w : World) (s : ByteArray) (n c : Int) (hw : ∀ (w : World) (pa pb : Addr), w.cell? pa = some (.string s) → w.cell? pb = some (.int .i64 n) → pa.block < w.heap.size → pb.block < w.heap.size → Calls Tryz.prog 94 #[.pointer (some pa), .pointer (some pb)] w fun e w' => e = .panicked (chainOf c) ∧ Below w.heap.size w w') (hE : ErrT w) :
    Calls Tryz.prog 25 #[.string s, .int .i64 n] w fun e w' => e = .returned (.tuple #[.string ⟨#[]⟩, .int .i64 c]) ∧ Below w.heap.size w w' := by
  have hmf : ∀ (fn : Fn) (first cap : Array Value) (w : World), (Instr.makeFunc fn first cap).run Tryz.prog w = .ok (.func fn first cap) w := fun _ _ _ _ => rfl
  have HAT := Lib.hid (fun (w : World) (pa pb : Addr) (hc : w.cell? pa = some (.string s)) (hd : w.cell? pb = some (.int .i64 n)) (hl : pa.block < w.heap.size) (hl2 : pb.block < w.heap.size) (hE : ErrT w) => attempt_bad 94 #[.pointer (some pa), .pointer (some pb)] c w hE (fun w => by kernel_rfl) (fun w' hb' => hw w' pa pb ((hb'.cell hl).trans hc) ((hb'.cell hl2).trans hd) (Nat.lt_of_lt_of_le hl hb'.size) (Nat.lt_of_lt_of_le hl2 hb'.size)))
  clear hw
  have HBX := Lib.hid (boxSI w s n)
  go_enter Tryz.func25, Tryz.ntmps25
  go_wp2_with fail
  have hal : Below w.heap.size w ((w.alloc (.cells #[.string s] 9)).alloc (.cells #[.int .i64 n] 3)) := ((Below.refl _ _).alloc (Nat.le_refl _) _).alloc (by simp) _
  refine (HAT.out _ _ _ HBX.out.1 HBX.out.2 (by simp; omega) (by simp) (hE.mono hal)).mono ?_
  rintro e w2 ⟨rfl, hb2⟩
  have hbb := hal.trans (hb2.mono hal.size)
  clear hal hb2
  go_wp2
  go_ret2
  exact ⟨rfl, hbb⟩
theorem Pow_value (w : World) (x n : Int) (h : Valid x) (hn : n < 0 ∨ 1000 < n) (hE : ErrT w) :
    Calls Tryz.prog 25 #[txt x, .int .i64 n] w fun e w' => e = .returned (.tuple #[.string ⟨#[]⟩, .int .i64 2]) ∧ Below w.heap.size w w' := by
  rcases hn with hn | hn
  · exact Pow_fail w _ n 2 (fun w pa pb hc hd _ hl => powwork_lo w pa pb x n hc hd hl h hn) hE
  · exact Pow_fail w _ n 2 (fun w pa pb hc hd _ hl => powwork_hi w pa pb x n hc hd hl h hn) hE
set_option maxRecDepth 100000 in
set_option maxHeartbeats 400000 in
theorem rootwork_neg (w : World) (pa pb : Addr) (x n : Int) (hc : w.cell? pa = some (txt x)) (hd : w.cell? pb = some (.int .i64 n)) (hlb : pb.block < w.heap.size) (h : Valid x) (hn : 1 ≤ n ∧ n ≤ 20) (hx0 : x < 0) :
    Calls Tryz.prog 116 #[.pointer (some pa), .pointer (some pb)] w fun e w' => e = .panicked (chainOf 2) ∧ Below w.heap.size w w' := by
  have H1 := Lib.hid (read_any x h w)
  have hlo : decide ((1 : Int) ≤ n) = true := by rw [decide_eq_true_iff]; omega
  have hhi : decide (n ≤ (20 : Int)) = true := by rw [decide_eq_true_iff]; omega
  have hsg : decide ((0 : Int) ≤ x.sign) = false := by rw [decide_eq_false_iff_not, Int.sign_eq_neg_one_of_neg hx0]; decide
  clear h
  unfold txt at *
  generalize str (Wh.decI x) = s at *
  go_enter Tryz.func116, Tryz.ntmps116
  go_wp2_with fail
  refine H1.out.mono ?_
  rintro e w1 ⟨⟨v1, rfl, hn1⟩, hb1⟩
  obtain ⟨s1, rfl, k1⟩ := hn1
  obtain ⟨p1, c1, rfl⟩ := k1.len
  have hal : Below w1.heap.size w1 (w1.alloc (Obj.cells #[Value.int IntKind.i64 x.sign, Value.slice p1 (Wh.limbs x.natAbs).length c1] 83)) := (Below.refl _ _).alloc (Nat.le_refl _) _
  have hB := hb1.trans (hal.mono hb1.size)
  have kb := (hB.cell hlb).trans hd
  have HB := Lib.hid hB
  have hpb : pb.block < w1.heap.size := Nat.lt_of_lt_of_le hlb hb1.size
  have ka : (w1.alloc (Obj.cells #[Value.int IntKind.i64 x.sign, Value.slice p1 (Wh.limbs x.natAbs).length c1] 83)).cell? ⟨w1.heap.size, 0, none⟩ = some (.int .i64 x.sign) := by go_simp
  have kc : (w1.alloc (Obj.cells #[Value.int IntKind.i64 x.sign, Value.slice p1 (Wh.limbs x.natAbs).length c1] 83)).cell? ⟨w1.heap.size, 1, none⟩ = some (.slice p1 (Wh.limbs x.natAbs).length c1) := by go_simp
  clear hal hB hb1 k1 hc hd
  generalize x.sign = sx at *
  generalize (Wh.limbs x.natAbs).length = nx at *
  go_wp2_with fail
  generalize w1.alloc (Obj.cells #[Value.int IntKind.i64 sx, Value.slice p1 nx c1] 83) = V at *
  refine (sign_any _ _ _ _ _).mono ?_
  rintro e w5 ⟨rfl, hb5⟩
  have HB' := Lib.hid (HB.out.trans (hb5.mono HB.out.size)); clear hb5 HB
  have HB := HB'; clear HB'
  go_wp2_with fail
  refine (demand_no _ _).mono ?_
  rintro e w2 ⟨rfl, rfl⟩
  go_wp2
  exact ⟨rfl, rfl, HB.out⟩
set_option maxRecDepth 100000 in
set_option maxHeartbeats 400000 in
theorem Root_fail (w : World) (s : ByteArray) (n c : Int) (hw : ∀ (w : World) (pa pb : Addr), w.cell? pa = some (.string s) → w.cell? pb = some (.int .i64 n) → pa.block < w.heap.size → pb.block < w.heap.size → Calls Tryz.prog 116 #[.pointer (some pa), .pointer (some pb)] w fun e w' => e = .panicked (chainOf c) ∧ Below w.heap.size w w') (hE : ErrT w) :
    Calls Tryz.prog 36 #[.string s, .int .i64 n] w fun e w' => e = .returned (.tuple #[.string ⟨#[]⟩, .int .i64 c]) ∧ Below w.heap.size w w' := by
  have hmf : ∀ (fn : Fn) (first cap : Array Value) (w : World), (Instr.makeFunc fn first cap).run Tryz.prog w = .ok (.func fn first cap) w := fun _ _ _ _ => rfl
  have HAT := Lib.hid (fun (w : World) (pa pb : Addr) (hc : w.cell? pa = some (.string s)) (hd : w.cell? pb = some (.int .i64 n)) (hl : pa.block < w.heap.size) (hl2 : pb.block < w.heap.size) (hE : ErrT w) => attempt_bad 116 #[.pointer (some pa), .pointer (some pb)] c w hE (fun w => by kernel_rfl) (fun w' hb' => hw w' pa pb ((hb'.cell hl).trans hc) ((hb'.cell hl2).trans hd) (Nat.lt_of_lt_of_le hl hb'.size) (Nat.lt_of_lt_of_le hl2 hb'.size)))
  clear hw
  have HBX := Lib.hid (boxSI w s n)
  go_enter Tryz.func36, Tryz.ntmps36
  go_wp2_with fail
  have hal : Below w.heap.size w ((w.alloc (.cells #[.string s] 9)).alloc (.cells #[.int .i64 n] 3)) := ((Below.refl _ _).alloc (Nat.le_refl _) _).alloc (by simp) _
  refine (HAT.out _ _ _ HBX.out.1 HBX.out.2 (by simp; omega) (by simp) (hE.mono hal)).mono ?_
  rintro e w2 ⟨rfl, hb2⟩
  have hbb := hal.trans (hb2.mono hal.size)
  clear hal hb2
  go_wp2
  go_ret2
  exact ⟨rfl, hbb⟩
theorem Root_negative (w : World) (x n : Int) (h : Valid x) (hn : 1 ≤ n ∧ n ≤ 20) (hx0 : x < 0) (hE : ErrT w) :
    Calls Tryz.prog 36 #[txt x, .int .i64 n] w fun e w' => e = .returned (.tuple #[.string ⟨#[]⟩, .int .i64 2]) ∧ Below w.heap.size w w' :=
  Root_fail w _ n 2 (fun w pa pb hc hd _ hl => rootwork_neg w pa pb x n hc hd hl h hn hx0) hE
end Go.Proofs.YteaeloeebfdodaaGreatDoor

/- WALKS, the number of digits in a base 2: Width, OfBase. -/
namespace Go.Proofs.YteaeloeebfdodaaGreatDoor
open Go.RowKit Go.Proofs.Rf
set_option maxHeartbeats 400000 in
theorem width_from (s : ByteArray) (sg : Int) (d : List UInt8) (b : Nat) (w : World) (hsp : ∀ w, Calls Tryz.prog 204 #[.string s, .int .i64 b] w fun e w' => e = .returned (.tuple #[.int .i64 sg, .string (str d)]) ∧ Below w.heap.size w w') :
    Calls Tryz.prog 121 #[.string s, .int .i64 b] w fun e w' => e = .returned (.int .i64 d.length) ∧ Below w.heap.size w w' := by
  have HSP := Lib.hid hsp; clear hsp
  go_enter Tryz.func121, Tryz.ntmps121
  go_wp2_with fail
  refine (HSP.out _).mono ?_
  rintro e w1 ⟨rfl, hb1⟩
  go_wp2
  go_ret
  exact ⟨rfl, hb1⟩
theorem numB_append (b : Nat) (x y : List UInt8) : numB b (x ++ y) = numB b x * b ^ y.length + numB b y := by
  have h : ∀ (y : List UInt8) (a : Nat), y.foldl (fun a c => a * b + dval c.toNat) a = a * b ^ y.length + y.foldl (fun a c => a * b + dval c.toNat) 0 := by
    intro y
    induction y with
    | nil => intro a; simp
    | cons c r ih =>
      intro a
      rw [List.foldl_cons, List.foldl_cons, ih, ih (0 * b + dval c.toNat), List.length_cons, Nat.pow_succ, Nat.zero_mul, Nat.zero_add, Nat.add_mul, Nat.mul_assoc, Nat.mul_comm b, Nat.add_assoc]
  show (x ++ y).foldl _ 0 = _
  rw [List.foldl_append, h]
  rfl
theorem numB_part (b k m : Nat) (d : List UInt8) (h : k + m ≤ d.length) : numB b (d.take (k + m)) = numB b (d.take k) * b ^ m + numB b ((d.drop k).take m) := by
  rw [List.take_add, numB_append, List.length_take, List.length_drop, Nat.min_eq_left (by omega)]
theorem digs_part {b : Nat} {d : List UInt8} (h : Digs b d) (k m : Nat) : Digs b ((d.drop k).take m) := fun c hc => h c (List.mem_of_mem_drop (List.mem_of_mem_take hc))
theorem sl_of_own {W : World} {base : Nat} {v : Value} {l : List Nat} (h : W.ownsRow base 181 1 v l.length (u32s l)) : Sl W v l := by
  rcases h.2 with ⟨rfl, hn⟩ | ⟨g, cap, cur, rfl, hg, hh, hnc, hcm, hcs, htake⟩
  · exact .inl ⟨List.length_eq_zero_iff.1 hn, rfl⟩
  · refine .inr ⟨g, 0, cap, rfl, hnc, (Array.getElem?_eq_some_iff.1 hh).1, fun i hi => ?_⟩
    have e : (u32s l)[i]? = cur.toList[i]? := by rw [← htake, Nat.mul_one, List.getElem?_take_of_lt hi]
    rw [Nat.zero_add]
    have e2 : W.cell? ⟨g, i, none⟩ = cur[i]? := by simp [World.cell?, hh]
    rw [e2, ← Array.getElem?_toList, ← e, List.getElem?_map, List.getElem?_eq_getElem hi]
    simp [List.getD, hi]
def szOf : Value → Nat
  | .string s => s.size
  | _ => 0
set_option maxRecDepth 100000 in
set_option maxHeartbeats 1000000 in
theorem ofbase_from (s : ByteArray) (sg : Int) (d : List UInt8) (b : Nat) (w : World) (hsp : ∀ w, Calls Tryz.prog 204 #[.string s, .int .i64 b] w fun e w' => e = .returned (.tuple #[.int .i64 sg, .string (str d)]) ∧ Below w.heap.size w w')
    (hb : 2 ≤ b ∧ b ≤ 36) (hd : Digs b d) (hm : d.length ≤ 1329) (hsg : sg = -1 ∨ sg = 1) :
    Calls Tryz.prog 122 #[.string s, .int .i64 b] w fun e w' => (∃ v', e = .returned v' ∧ Num w' v' (sg * (numB b d : Int))) ∧ Below w.heap.size w w' := by
  have HSP := Lib.hid hsp; clear hsp
  have HD := Lib.hid hd; clear hd
  have HSG := Lib.hid hsg; clear hsg
  have hsz : (str d).size = d.length := rfl
  generalize hL : d.length = L at *
  have HL := Lib.hid hL; clear hL
  have htg := tog_le b
  have htg1 : 1 ≤ togN b := by unfold togN; split <;> (try split) <;> (try split) <;> (try split) <;> omega
  go_enter Tryz.func122, Tryz.ntmps122
  go_wp2_with fail
  refine (HSP.out _).mono ?_
  rintro e w1 ⟨rfl, hb1⟩
  have HB1 := Lib.hid hb1; clear hb1
  go_wp2_with fail
  refine (together_any _ b hb.2).mono ?_
  rintro e w2 ⟨rfl, rfl⟩
  generalize hT : togN b = T at *
  have HT := Lib.hid hT; clear hT
  have hB1 : Below (w.heap.size + 1) (w.alloc (Obj.cells #[Value.int IntKind.i64 0, Value.slice none 0 0] 83)) w1 := by simpa using HB1.out
  have hO1 : w1.ownsRow (w.heap.size + 1) 181 1 (.slice none 0 0) ([] : List Nat).length (u32s []) := World.ownsRow_nil _ _ _ _
  have HI0 : Hid (w1.ownsRow (w.heap.size + 1) 181 1 (.slice none 0 0) ([] : List Nat).length (u32s []) ∧ Wh.Ok [] ∧ Wh.val [] = numB b (d.take 0) ∧ ([] : List Nat).length ≤ 0 ∧ Below (w.heap.size + 1) (w.alloc (Obj.cells #[Value.int IntKind.i64 0, Value.slice none 0 0] 83)) w1) :=
    Lib.hid ⟨hO1, (fun x hx => absurd hx (by simp)), rfl, Nat.le_refl _, hB1⟩
  clear hB1 hO1 HB1
  go_wp2_with fail
  go_loopw [6, 7, 8] (fun dg lv ct wr => ∃ k c : Nat, ∃ l : List Nat, k ≤ L ∧ dg = .string (str (d.drop k)) ∧ ct = .int .i64 c ∧ 1 ≤ c ∧ c ≤ T ∧ Hid (wr.ownsRow (w.heap.size + 1) 181 1 lv l.length (u32s l) ∧ Wh.Ok l ∧ Wh.val l = numB b (d.take k) ∧ l.length ≤ k ∧ Below (w.heap.size + 1) (w.alloc (Obj.cells #[Value.int IntKind.i64 0, Value.slice none 0 0] 83)) wr)) (fun dg _ _ _ => szOf dg)
  case atStart => exact ⟨0, T, [], Nat.zero_le _, rfl, rfl, htg1, Nat.le_refl _, HI0⟩
  case round =>
    obtain ⟨k, c, l, hk, rfl, rfl, hc1, hc2, HI⟩ := hrel
    obtain ⟨sa, sc, rfl⟩ := own_sl HI.out.1
    have hdl : (d.drop k).length = L - k := by rw [List.length_drop, HL.out]
    have hsd : (str (d.drop k)).size = L - k := hdl
    by_cases hlt : k < L
    · have hne : ((str (d.drop k)).toList == []) = false := by
        rw [Lib.toList_data, str_data, beq_eq_false_iff_ne]
        intro e
        rw [e] at hdl
        simp at hdl
        omega
      obtain ⟨m, hm⟩ : ∃ m, m = min c (L - k) := ⟨_, rfl⟩
      have hm1 : 1 ≤ m ∧ m ≤ c ∧ k + m ≤ L := by omega
      have hx1 : (str (d.drop k)).extract 0 m = str ((d.drop k).take m) := eq_str (by rw [Lib.extract_data, str_data]; simp)
      have hx2 : (str (d.drop k)).extract m (L - k) = str (d.drop (k + m)) := eq_str (by rw [← hsd, Lib.extract_to_end, str_data, List.drop_drop])
      have hmin : min (c : Int) ((L - k : Nat) : Int) = (m : Int) := by omega
      have hpl : ((d.drop k).take m).length ≤ togN b := by rw [List.length_take, HT.out]; omega
      have hpm : ((d.drop k).take m).length = m := by rw [List.length_take, hdl]; omega
      have hBs : w.heap.size + 1 ≤ wr.heap.size := by have := HI.out.2.2.2.2.size; simpa using this
      have HAD := Lib.hid (appendDigits_any wr (w.heap.size + 1) b _ l _ HI.out.1 HI.out.2.1 (by have := HI.out.2.2.2.1; omega) hb (digs_part HD.out k m) hpl hBs)
      have hnp := numB_part b k m d (by rw [HL.out]; exact hm1.2.2)
      rw [hpm] at HAD
      have HNP := Lib.hid hnp; clear hnp hpl hpm
      have hml : m ≤ L - k := by omega
      have hmz : (m : Int).toNat = m := by simp
      clear hdl hm
      go_wp2_with fail
      refine HAD.out.mono ?_
      rintro e w3 ⟨⟨v', l', rfl, ho', hok', hv', hln'⟩, hb3⟩
      have HN2 : Hid (w3.ownsRow (w.heap.size + 1) 181 1 v' l'.length (u32s l') ∧ Wh.Ok l' ∧ Wh.val l' = numB b (d.take (k + m)) ∧ l'.length ≤ k + m ∧ Below (w.heap.size + 1) (w.alloc (Obj.cells #[Value.int IntKind.i64 0, Value.slice none 0 0] 83)) w3) :=
        Lib.hid ⟨ho', hok', by rw [hv', HI.out.2.2.1, HNP.out], by have := HI.out.2.2.2.1; omega, HI.out.2.2.2.2.trans hb3⟩
      clear ho' hok' hv' hln' hb3 HAD
      go_wp2_with fail
      refine ⟨⟨k + m, m, l', hm1.2.2, rfl, rfl, by omega, by omega, HN2⟩, ?_⟩
      show (d.drop (k + m)).length < (d.drop k).length
      rw [List.length_drop, List.length_drop, HL.out]
      omega
    · obtain rfl : k = L := by omega
      have hne : ((str (d.drop k)).toList == []) = true := by
        rw [Lib.toList_data, str_data, beq_iff_eq]
        exact List.drop_eq_nil_of_le (by rw [HL.out]; exact Nat.le_refl _)
      obtain ⟨ho, hok, hv, hln, hbw⟩ := HI.out
      rw [← HL.out, List.take_length] at hv
      have hsl := sl_of_own ho
      have HSL := Lib.hid hsl
      have HV := Lib.hid hv
      have HBW := Lib.hid hbw
      clear hsl hv hbw ho HI hdl hsd
      go_wp2_with fail
      refine (signed_len sg _ l _ hok HSL.out (by omega) (by rcases HSG.out with h | h; exact .inl h; exact .inr (.inl h))).mono ?_
      rintro e w2 ⟨⟨v', rfl, hnum⟩, hb2⟩
      rw [HV.out] at hnum
      obtain ⟨x, hx⟩ : ∃ x : Int, x = sg * (numB b d : Int) := ⟨_, rfl⟩
      rw [← hx] at hnum
      have HX := Lib.hid hx; clear hx
      obtain ⟨sl, rfl, hsl⟩ := hnum
      obtain ⟨xa, xc, rfl⟩ := hsl.len
      have hw2 : Below (w.heap.size + 1) (w.alloc (Obj.cells #[Value.int IntKind.i64 0, Value.slice none 0 0] 83)) w2 := HBW.out.trans (hb2.mono (by have := HBW.out.size; simpa using this))
      obtain ⟨k0, k1, g0, g1⟩ := res_keep rfl hw2
      have hbb : Below w.heap.size w w2 := ((Below.refl _ _).alloc (Nat.le_refl _) _).trans (hw2.mono (Nat.le_succ _))
      clear hb2 hw2
      go_wp2
      have hfin := two_cells w2 w.heap.size (.int .i64 (Int.sign x)) (.slice xa (Wh.limbs x.natAbs).length xc) k0 k1
      exact bodyPost_ret (v := .agg #[.int .i64 (Int.sign x), .slice xa (Wh.limbs x.natAbs).length xc]) (by simp [results, Tryz.results122, go_sem, hfin.1, hfin.2]) rfl ⟨⟨_, rfl, by rw [← HX.out]; exact ⟨_, rfl, hsl.store2 _ k0 k1 _ _⟩⟩, (hbb.setCell (Nat.le_refl _) _).setCell (Nat.le_refl _) _⟩
end Go.Proofs.YteaeloeebfdodaaGreatDoor

/- WALKS, the number of digits in a base 3: FromBase. -/
namespace Go.Proofs.YteaeloeebfdodaaGreatDoor
open Go.RowKit Go.Proofs.Rf
set_option maxRecDepth 100000 in
set_option maxHeartbeats 1000000 in
theorem frombase_work (w : World) (pa pb : Addr) (s : ByteArray) (sg : Int) (d : List UInt8) (b : Nat) (ha : w.cell? pa = some (.int .i64 b)) (hb : w.cell? pb = some (.string s)) (hla : pa.block < w.heap.size) (hlb : pb.block < w.heap.size)
    (hsp : ∀ w, Calls Tryz.prog 204 #[.string s, .int .i64 b] w fun e w' => e = .returned (.tuple #[.int .i64 sg, .string (str d)]) ∧ Below w.heap.size w w')
    (hb2 : 2 ≤ b ∧ b ≤ 36) (hd : Digs b d) (hm : d.length ≤ 1329) (hsg : sg = -1 ∨ sg = 1) (z : Int) (hz : sg * (numB b d : Int) = z) (hv : Valid z) (htab : Tab w) :
    Calls Tryz.prog 120 #[.pointer (some pa), .pointer (some pb)] w fun e w' => e = .returned (txt z) ∧ Below w.heap.size w w' := by
  have g1 : decide (2 ≤ (b : Int)) = true := by rw [decide_eq_true_iff]; omega
  have g2 : decide ((b : Int) ≤ 36) = true := by rw [decide_eq_true_iff]; omega
  have g3 : decide ((d.length : Int) ≤ 1329) = true := by rw [decide_eq_true_iff]; omega
  have HW := Lib.hid (fun w => width_from s sg d b w hsp)
  have HO := Lib.hid (fun w => ofbase_from s sg d b w hsp hb2 hd hm hsg)
  have HZ := Lib.hid hz; have HV := Lib.hid hv; have HT := Lib.hid htab
  clear hsp hd hm hsg hz hv htab hb2
  generalize d.length = L at *
  go_enter Tryz.func120, Tryz.ntmps120
  go_wp2_with fail
  refine (demand_yes _ _).mono ?_
  rintro e w1 ⟨rfl, rfl⟩
  go_wp2_with fail
  refine (HW.out _).mono ?_
  rintro e w2 ⟨rfl, hB2⟩
  go_wp2_with fail
  refine (demand_yes _ _).mono ?_
  rintro e w3 ⟨rfl, rfl⟩
  have ka := (hB2.cell hla).trans ha
  have kb := (hB2.cell hlb).trans hb
  go_wp2_with fail
  refine (HO.out _).mono ?_
  rintro e w4 ⟨⟨v', rfl, hn⟩, hB4⟩
  rw [HZ.out] at hn
  have HB4 := Lib.hid (hB2.trans (hB4.mono hB2.size))
  obtain ⟨sl, rfl, hsl⟩ := hn
  obtain ⟨xa, xc, rfl⟩ := hsl.len
  have HWT := Lib.hid (wtext_any w4 _ z ⟨_, rfl, hsl⟩ (HT.out.mono HB4.out) HV.out)
  clear hsl
  generalize z.sign = zs at *
  generalize (Wh.limbs z.natAbs).length = zl at *
  unfold txt at *
  go_wp2_with fail
  refine HWT.out.mono ?_
  rintro e w5 ⟨rfl, hb5⟩
  go_wp2
  go_ret
  exact ⟨rfl, HB4.out.trans (hb5.mono HB4.out.size)⟩
set_option maxHeartbeats 400000 in
theorem FromBase_any (w : World) (s : ByteArray) (sg : Int) (d : List UInt8) (b : Nat)
    (hsp : ∀ w, Calls Tryz.prog 204 #[.string s, .int .i64 b] w fun e w' => e = .returned (.tuple #[.int .i64 sg, .string (str d)]) ∧ Below w.heap.size w w')
    (hb2 : 2 ≤ b ∧ b ≤ 36) (hd : Digs b d) (hm : d.length ≤ 1329) (hsg : sg = -1 ∨ sg = 1) (z : Int) (hz : sg * (numB b d : Int) = z) (hv : Valid z) (htab : Tab w) :
    Calls Tryz.prog 38 #[.string s, .int .i64 b] w fun e w' => e = .returned (.tuple #[txt z, .int .i64 0]) ∧ Below w.heap.size w w' := by
  have hmf : ∀ (fn : Fn) (first cap : Array Value) (w : World), (Instr.makeFunc fn first cap).run Tryz.prog w = .ok (.func fn first cap) w := fun _ _ _ _ => rfl
  have hat := fun (w : World) (pa pb : Addr) (ka : w.cell? pa = some (.int .i64 b)) (kb : w.cell? pb = some (.string s)) (htab : Tab w) (ha : pa.block < w.heap.size) (hb : pb.block < w.heap.size) => attempt_good 120 #[.pointer (some pa), .pointer (some pb)] (str (Wh.decI z)) w (fun w => by kernel_rfl) (fun w' hb' => frombase_work w' pa pb s sg d b ((hb'.cell ha).trans ka) ((hb'.cell hb).trans kb) (Nat.lt_of_lt_of_le ha hb'.size) (Nat.lt_of_lt_of_le hb hb'.size) hsp hb2 hd hm hsg z hz hv (htab.mono hb'))
  have HAT := Lib.hid hat; clear hat
  have HTB := Lib.hid htab; clear htab
  clear hsp hb2 hd hm hsg hz hv
  unfold txt at *
  go_enter Tryz.func38, Tryz.ntmps38
  go_wp2_with fail
  have hal : Below w.heap.size w ((w.alloc (.cells #[.string s] 9)).alloc (.cells #[.int .i64 b] 3)) := ((Below.refl _ _).alloc (Nat.le_refl _) _).alloc (by simp) _
  have b0 : ((w.alloc (.cells #[.string s] 9)).alloc (.cells #[.int .i64 b] 3)).cell? ⟨w.heap.size, 0, none⟩ = some (.string s) := by go_simp
  have b1 : ((w.alloc (.cells #[.string s] 9)).alloc (.cells #[.int .i64 b] 3)).cell? ⟨w.heap.size + 1, 0, none⟩ = some (.int .i64 b) := by go_simp
  refine (HAT.out _ _ _ b1 b0 (HTB.out.mono hal) (by simp) (by simp; omega)).mono ?_
  rintro e w2 ⟨rfl, hb2⟩
  have hbb := hal.trans (hb2.mono hal.size)
  clear hal b0 b1 hb2
  go_wp2
  go_ret2
  exact ⟨rfl, hbb⟩
end Go.Proofs.YteaeloeebfdodaaGreatDoor

/- WALKS: FromBase, Factor and PowMod, where they fail. -/
namespace Go.Proofs.YteaeloeebfdodaaGreatDoor
open Go.RowKit Go.Proofs.Rf
theorem split_form (l : List UInt8) (b : Nat) (h : Form b l) (hm : l.length ≤ 80000) (w : World) :
    Calls Tryz.prog 204 #[.string (str l), .int .i64 b] w fun e w' => e = .returned (.tuple #[.int .i64 (if l.head? = some 45 then -1 else 1), .string (str (behind l))]) ∧ Below w.heap.size w w' := by
  obtain ⟨hne, hd, hl⟩ := h
  by_cases hm45 : l.head? = some 45
  · have hb : l = 45 :: behind l := by
      unfold behind
      rw [if_pos hm45]
      cases l with
      | nil => simp at hm45
      | cons c r => simp at hm45; subst hm45; rfl
    rw [if_pos hm45]
    have hz : (behind l).head? ≠ some 48 := by
      rcases hl with h | h
      · exact h
      · rw [h] at hm45; simp at hm45
    have hml : (behind l).length ≤ 80000 := by rw [hb] at hm; simp at hm; omega
    have := split_neg (behind l) b hd hne hml hz w
    rw [← hb] at this
    exact this
  · have hb : behind l = l := by unfold behind; rw [if_neg hm45]
    rw [if_neg hm45, hb]
    rw [hb] at hne hd hl
    exact split_pos l b hd hne hm hm45 hl w
set_option maxRecDepth 100000 in
set_option maxHeartbeats 400000 in
theorem frombasework_form (w : World) (pa pb : Addr) (b : Int) (l : List UInt8) (ha : w.cell? pa = some (.int .i64 b)) (hb : w.cell? pb = some (.string (str l))) (hb2 : 2 ≤ b ∧ b ≤ 36) (hm : l.length ≤ 80000) (h : ¬ Form b.toNat l) :
    Calls Tryz.prog 120 #[.pointer (some pa), .pointer (some pb)] w fun e w' => e = .panicked (chainOf 1) ∧ Below w.heap.size w w' := by
  have g1 : decide (2 ≤ b) = true := by rw [decide_eq_true_iff]; omega
  have g2 : decide (b ≤ 36) = true := by rw [decide_eq_true_iff]; omega
  have HS := Lib.hid (fun w => split_bad l b.toNat (by omega) hm h w)
  rw [show ((b.toNat : Nat) : Int) = b by omega] at HS
  clear hm h hb2
  generalize str l = s at *
  have HW : Hid (∀ w, Calls Tryz.prog 121 #[.string s, .int .i64 b] w fun e w' => e = .panicked (chainOf 1) ∧ Below w.heap.size w w') := Lib.hid fun w => by
    clear ha hb g1 g2
    go_enter Tryz.func121, Tryz.ntmps121
    go_wp2_with fail
    refine (HS.out _).mono ?_
    rintro e w1 ⟨rfl, hb1⟩
    go_wp2
    exact ⟨rfl, rfl, hb1⟩
  clear HS
  go_enter Tryz.func120, Tryz.ntmps120
  go_wp2_with fail
  refine (demand_yes _ _).mono ?_
  rintro e w1 ⟨rfl, rfl⟩
  go_wp2_with fail
  refine (HW.out _).mono ?_
  rintro e w2 ⟨rfl, hB2⟩
  go_wp2
  exact ⟨rfl, rfl, hB2⟩
set_option maxRecDepth 100000 in
set_option maxHeartbeats 400000 in
theorem FromBase_fail (w : World) (s : ByteArray) (b c : Int) (hw : ∀ (w : World) (pa pb : Addr), w.cell? pa = some (.int .i64 b) → w.cell? pb = some (.string s) → pa.block < w.heap.size → pb.block < w.heap.size → Calls Tryz.prog 120 #[.pointer (some pa), .pointer (some pb)] w fun e w' => e = .panicked (chainOf c) ∧ Below w.heap.size w w') (hE : ErrT w) :
    Calls Tryz.prog 38 #[.string s, .int .i64 b] w fun e w' => e = .returned (.tuple #[.string ⟨#[]⟩, .int .i64 c]) ∧ Below w.heap.size w w' := by
  have hmf : ∀ (fn : Fn) (first cap : Array Value) (w : World), (Instr.makeFunc fn first cap).run Tryz.prog w = .ok (.func fn first cap) w := fun _ _ _ _ => rfl
  have HAT := Lib.hid (fun (w : World) (pa pb : Addr) (hc : w.cell? pa = some (.int .i64 b)) (hd : w.cell? pb = some (.string s)) (hl : pa.block < w.heap.size) (hl2 : pb.block < w.heap.size) (hE : ErrT w) => attempt_bad 120 #[.pointer (some pa), .pointer (some pb)] c w hE (fun w => by kernel_rfl) (fun w' hb' => hw w' pa pb ((hb'.cell hl).trans hc) ((hb'.cell hl2).trans hd) (Nat.lt_of_lt_of_le hl hb'.size) (Nat.lt_of_lt_of_le hl2 hb'.size)))
  clear hw
  have HBX := Lib.hid (boxSI w s b)
  go_enter Tryz.func38, Tryz.ntmps38
  go_wp2_with fail
  have hal : Below w.heap.size w ((w.alloc (.cells #[.string s] 9)).alloc (.cells #[.int .i64 b] 3)) := ((Below.refl _ _).alloc (Nat.le_refl _) _).alloc (by simp) _
  refine (HAT.out _ _ _ HBX.out.2 HBX.out.1 (by simp) (by simp; omega) (hE.mono hal)).mono ?_
  rintro e w2 ⟨rfl, hb2⟩
  have hbb := hal.trans (hb2.mono hal.size)
  clear hal hb2
  go_wp2
  go_ret2
  exact ⟨rfl, hbb⟩
theorem FromBase_form (w : World) (l : List UInt8) (b : Int) (hb : 2 ≤ b ∧ b ≤ 36) (hm : l.length ≤ 80000) (h : ¬ Form b.toNat l) (hE : ErrT w) :
    Calls Tryz.prog 38 #[.string (str l), .int .i64 b] w fun e w' => e = .returned (.tuple #[.string ⟨#[]⟩, .int .i64 1]) ∧ Below w.heap.size w w' :=
  FromBase_fail w _ b 1 (fun w pa pb hc hd _ _ => frombasework_form w pa pb b l hc hd hb hm h) hE
set_option maxRecDepth 100000 in
set_option maxHeartbeats 400000 in
theorem factorwork_low (w : World) (pa : Addr) (x : Int) (hc : w.cell? pa = some (txt x)) (h : Valid x) (hx0 : x ≤ 0) :
    Calls Tryz.prog 124 #[.pointer (some pa)] w fun e w' => e = .panicked (chainOf 2) ∧ Below w.heap.size w w' := by
  have H1 := Lib.hid (read_any x h w)
  have hsg : decide ((0 : Int) < x.sign) = false := by
    rw [decide_eq_false_iff_not]
    rcases Int.lt_trichotomy x 0 with h | h | h
    · rw [Int.sign_eq_neg_one_of_neg h]; decide
    · rw [h]; decide
    · omega
  clear h
  unfold txt at *
  generalize str (Wh.decI x) = s at *
  go_enter Tryz.func124, Tryz.ntmps124
  go_wp2_with fail
  refine H1.out.mono ?_
  rintro e w1 ⟨⟨v1, rfl, hn1⟩, hb1⟩
  obtain ⟨s1, rfl, k1⟩ := hn1
  obtain ⟨p1, c1, rfl⟩ := k1.len
  have hal : Below w1.heap.size w1 (w1.alloc (Obj.cells #[Value.int IntKind.i64 x.sign, Value.slice p1 (Wh.limbs x.natAbs).length c1] 83)) := (Below.refl _ _).alloc (Nat.le_refl _) _
  have HB := Lib.hid (hb1.trans (hal.mono hb1.size))
  have ka : (w1.alloc (Obj.cells #[Value.int IntKind.i64 x.sign, Value.slice p1 (Wh.limbs x.natAbs).length c1] 83)).cell? ⟨w1.heap.size, 0, none⟩ = some (.int .i64 x.sign) := by go_simp
  have kc : (w1.alloc (Obj.cells #[Value.int IntKind.i64 x.sign, Value.slice p1 (Wh.limbs x.natAbs).length c1] 83)).cell? ⟨w1.heap.size, 1, none⟩ = some (.slice p1 (Wh.limbs x.natAbs).length c1) := by go_simp
  clear hal hb1 k1 hc
  generalize x.sign = sx at *
  generalize (Wh.limbs x.natAbs).length = nx at *
  go_wp2_with fail
  generalize w1.alloc (Obj.cells #[Value.int IntKind.i64 sx, Value.slice p1 nx c1] 83) = V at *
  refine (sign_any _ _ _ _ _).mono ?_
  rintro e w5 ⟨rfl, hb5⟩
  have HB' := Lib.hid (HB.out.trans (hb5.mono HB.out.size)); clear hb5 HB
  go_wp2_with fail
  refine (demand_no _ _).mono ?_
  rintro e w2 ⟨rfl, rfl⟩
  go_wp2
  exact ⟨rfl, rfl, HB'.out⟩
set_option maxRecDepth 100000 in
set_option maxHeartbeats 400000 in
theorem Factor_fail (w : World) (s : ByteArray) (c : Int) (hw : ∀ (w : World) (pa : Addr), w.cell? pa = some (.string s) → pa.block < w.heap.size → Tab w → Calls Tryz.prog 124 #[.pointer (some pa)] w fun e w' => e = .panicked (chainOf c) ∧ Below w.heap.size w w') (hE : ErrT w) (hT : Tab w) :
    Calls Tryz.prog 39 #[.string s] w fun e w' => e = .returned (.tuple #[.slice none 0 0, .int .i64 c]) ∧ Below w.heap.size w w' := by
  have hmf : ∀ (fn : Fn) (first cap : Array Value) (w : World), (Instr.makeFunc fn first cap).run Tryz.prog w = .ok (.func fn first cap) w := fun _ _ _ _ => rfl
  have HAT := Lib.hid (fun (w : World) (pa : Addr) (hc : w.cell? pa = some (.string s)) (hl : pa.block < w.heap.size) (hE : ErrT w) (hT : Tab w) => attempt_badL 124 #[.pointer (some pa)] c w hE (fun w => by kernel_rfl) (fun w' hb' => hw w' pa ((hb'.cell hl).trans hc) (Nat.lt_of_lt_of_le hl hb'.size) (hT.mono hb')))
  clear hw
  go_enter Tryz.func39, Tryz.ntmps39
  go_wp2_with fail
  have hal : Below w.heap.size w (w.alloc (.cells #[.string s] 9)) := (Below.refl _ _).alloc (Nat.le_refl _) _
  refine (HAT.out _ _ (by go_simp) (by simp) (hE.mono hal) (hT.mono hal)).mono ?_
  rintro e w2 ⟨rfl, hb2⟩
  have hbb := hal.trans (hb2.mono hal.size)
  clear hal hb2
  go_wp2
  go_ret2
  exact ⟨rfl, hbb⟩
theorem Factor_low (w : World) (x : Int) (h : Valid x) (hx0 : x ≤ 0) (hE : ErrT w) (hT : Tab w) :
    Calls Tryz.prog 39 #[txt x] w fun e w' => e = .returned (.tuple #[.slice none 0 0, .int .i64 2]) ∧ Below w.heap.size w w' :=
  Factor_fail w _ 2 (fun w pa hc _ _ => factorwork_low w pa x hc h hx0) hE hT
set_option maxRecDepth 100000 in
set_option maxHeartbeats 4000000 in
theorem powmodwork_neg (w : World) (pa pb pc : Addr) (x y m : Int) (hc : Captured3 w pa pb pc x y m) (hl : Lie3 w pa pb pc) (hx : Valid x) (hy : Valid y) (hm : Valid m) (hy0 : y < 0) :
    Calls Tryz.prog 102 #[.pointer (some pa), .pointer (some pb), .pointer (some pc)] w fun e w' => e = .panicked (chainOf 2) ∧ Below w.heap.size w w' := by
  have ka := hc.a
  have kb := hc.b
  have kc := hc.c
  clear hc
  have HPL := Lib.hid hl; clear hl
  have HRX := Lib.hid (read_any x hx)
  have HRY := Lib.hid (read_any y hy)
  have HRM := Lib.hid (read_any m hm)
  unfold txt at ka kb kc HRX HRY HRM
  have htx : ∀ z : Int, txt z = .string (str (Wh.decI z)) := fun _ => rfl
  have sy : decide (0 ≤ y.sign) = false := by rw [Int.sign_eq_neg_one_of_neg hy0]; rfl
  go_enter Tryz.func102, Tryz.ntmps102
  go_wp2_with fail
  refine wp_mono (Q := fun e a W' => e = .normal ∧ ∃ (vals : Nat → Value) (b4 b5 b6 : Nat), a = { tmps := #[.pointer (some pa), .pointer (some pb), .pointer (some pc), .string { data := #[] }, vals 6, vals 7, vals 8, vals 0, vals 1, vals 2, vals 3, vals 4, vals 5, undef, undef, undef, undef, undef, undef, undef, undef, undef, undef, undef, undef, undef, undef], defers := [] } ∧ vals 6 = .pointer (some ⟨b4, 0, none⟩) ∧ vals 7 = .pointer (some ⟨b5, 0, none⟩) ∧ vals 8 = .pointer (some ⟨b6, 0, none⟩) ∧ NumAt W' b4 x ∧ NumAt W' b5 y ∧ NumAt W' b6 m ∧ b4 < W'.heap.size ∧ b5 < W'.heap.size ∧ b6 < W'.heap.size ∧ Below w.heap.size w W') ?_ ?_
  refine Rt.wp_region_pairs (n0 := 3) [9, 10, 11] [] 27 (fun vals => { tmps := #[.pointer (some pa), .pointer (some pb), .pointer (some pc), .string { data := #[] }, vals 6, vals 7, vals 8, vals 0, vals 1, vals 2, vals 3, vals 4, vals 5, undef, undef, undef, undef, undef, undef, undef, undef, undef, undef, undef, undef, undef, undef], defers := [] }) (PW w.heap.size x y m) Two2 (by kernel_rfl) (by kernel_rfl) (by kernel_rfl) (by kernel_rfl) (fun _ _ _ _ _ h => absurd h.1 (by simp)) (by kernel_rfl) rfl (fun _ => by kernel_rfl) (by kernel_rfl) (by kernel_rfl) (pw_stays _ _ _ _) ?_ ?_ ?_
  · intro i o d hi hT hW hd vals w' hb hf
    have hlt : i < 12 := (Array.getElem?_eq_some_iff.1 hi).1
    rcases i with _ | _ | _ | _ | _ | _ | _ | _ | _ | _ | _ | _ | i
    · obtain rfl := Option.some.inj hi
      obtain rfl := Option.some.inj hd
      have h0 := (hb.cell HPL.out.a).trans ka
      dsimp only
      go_simp
      exact ⟨by unfold PW txt; rfl, Below.refl _ _, fun j u _ _ => two2_of (by intro p e; cases e)⟩
    · obtain rfl := Option.some.inj hi
      obtain rfl := Option.some.inj hd
      have e0 : vals 0 = .string (str (Wh.decI x)) := hf 0 (by kernel_rfl)
      dsimp only
      rw [e0]
      go_simp
      refine (HRX.out _).mono ?_
      rintro e w5 ⟨⟨v5, rfl, hn5⟩, hb5⟩
      exact ⟨hn5, hb5, fun j u _ _ => two2_of (num_np hn5)⟩
    · obtain rfl := Option.some.inj hi
      obtain rfl := Option.some.inj hd
      have h0 := (hb.cell HPL.out.b).trans kb
      dsimp only
      go_simp
      exact ⟨by unfold PW txt; rfl, Below.refl _ _, fun j u _ _ => two2_of (by intro p e; cases e)⟩
    · obtain rfl := Option.some.inj hi
      obtain rfl := Option.some.inj hd
      have e0 : vals 2 = .string (str (Wh.decI y)) := hf 2 (by kernel_rfl)
      dsimp only
      rw [e0]
      go_simp
      refine (HRY.out _).mono ?_
      rintro e w5 ⟨⟨v5, rfl, hn5⟩, hb5⟩
      exact ⟨hn5, hb5, fun j u _ _ => two2_of (num_np hn5)⟩
    · obtain rfl := Option.some.inj hi
      obtain rfl := Option.some.inj hd
      have h0 := (hb.cell HPL.out.c).trans kc
      dsimp only
      go_simp
      exact ⟨by unfold PW txt; rfl, Below.refl _ _, fun j u _ _ => two2_of (by intro p e; cases e)⟩
    · obtain rfl := Option.some.inj hi
      obtain rfl := Option.some.inj hd
      have e0 : vals 4 = .string (str (Wh.decI m)) := hf 4 (by kernel_rfl)
      dsimp only
      rw [e0]
      go_simp
      refine (HRM.out _).mono ?_
      rintro e w5 ⟨⟨v5, rfl, hn5⟩, hb5⟩
      exact ⟨hn5, hb5, fun j u _ _ => two2_of (num_np hn5)⟩
    · obtain rfl := Option.some.inj hi
      obtain rfl := Option.some.inj hd
      dsimp only
      go_simp
      exact ⟨⟨w'.heap.size, rfl, hb.size, by simp, by go_simp, by go_simp, by go_simp, by go_simp⟩, (Below.refl _ _).alloc (Nat.le_refl _) _, fun j u _ hu => pw_new _ (Nat.le_refl _) j u hu⟩
    · obtain rfl := Option.some.inj hi
      obtain rfl := Option.some.inj hd
      dsimp only
      go_simp
      exact ⟨⟨w'.heap.size, rfl, hb.size, by simp, by go_simp, by go_simp, by go_simp, by go_simp⟩, (Below.refl _ _).alloc (Nat.le_refl _) _, fun j u _ hu => pw_new _ (Nat.le_refl _) j u hu⟩
    · obtain rfl := Option.some.inj hi
      obtain rfl := Option.some.inj hd
      dsimp only
      go_simp
      exact ⟨⟨w'.heap.size, rfl, hb.size, by simp, by go_simp, by go_simp, by go_simp, by go_simp⟩, (Below.refl _ _).alloc (Nat.le_refl _) _, fun j u _ hu => pw_new _ (Nat.le_refl _) j u hu⟩
    · cases hT
    · cases hT
    · cases hT
    · omega
  · intro p o d hi hW hd vals w' hb hf
    cases hW
  · intro vals w' hb hf hp
    obtain ⟨s1, e1, k1⟩ := hf 1 (by decide) rfl
    obtain ⟨s3, e3, k3⟩ := hf 3 (by decide) rfl
    obtain ⟨s5, e5, k5⟩ := hf 5 (by decide) rfl
    obtain ⟨b4, e6, n4, l4, B4⟩ := Fresh.blank (hf 6 (by decide) rfl)
    obtain ⟨b5, e7, n5, l5, B5⟩ := Fresh.blank (hf 7 (by decide) rfl)
    obtain ⟨b6, e8, n6, l6, B6⟩ := Fresh.blank (hf 8 (by decide) rfl)
    have h45 := hp 6 7 (by decide) (by decide) rfl rfl (by decide) _ _ e6 e7
    have h46 := hp 6 8 (by decide) (by decide) rfl rfl (by decide) _ _ e6 e8
    have h56 := hp 7 8 (by decide) (by decide) rfl rfl (by decide) _ _ e7 e8
    obtain ⟨p1, c1, rfl⟩ := k1.len
    obtain ⟨p3, c3, rfl⟩ := k3.len
    obtain ⟨p5, c5, rfl⟩ := k5.len
    have HB := Lib.hid hb; clear hb hf hp
    have K1 := Lib.hid k1; have K3 := Lib.hid k3; have K5 := Lib.hid k5; clear k1 k3 k5
    have BB4 := Lib.hid B4; have BB5 := Lib.hid B5; have BB6 := Lib.hid B6
    obtain ⟨x0, x1, f0, f1⟩ := B4
    clear B5 B6
    rw [e1, e3, e5, e6, e7, e8]
    refine Rt.wpAny_step (i := 9) (by kernel_rfl) rfl (by rfl) (fun K hK => ?_)
    have HK := Lib.hid hK; clear hK
    go_simp
    refine HK.out _ _ ?_
    clear HK x0 x1 f0 f1
    have N4 := Lib.hid (BB4.out.put K1.out)
    have B5' := BB5.out.far h45 (.int .i64 x.sign) (.slice p1 (Wh.limbs x.natAbs).length c1)
    have B6' := Lib.hid (BB6.out.far h46 (.int .i64 x.sign) (.slice p1 (Wh.limbs x.natAbs).length c1))
    have K3' := Lib.hid (K3.out.store2 b4 BB4.out.c0 BB4.out.c1 (.int .i64 x.sign) (.slice p1 (Wh.limbs x.natAbs).length c1))
    have K5' := Lib.hid (K5.out.store2 b4 BB4.out.c0 BB4.out.c1 (.int .i64 x.sign) (.slice p1 (Wh.limbs x.natAbs).length c1))
    have HB' : Hid (Below w.heap.size w ((w'.setCell ⟨b4, 0, none⟩ (.int .i64 x.sign)).setCell ⟨b4, 1, none⟩ (.slice p1 (Wh.limbs x.natAbs).length c1))) := Lib.hid ((HB.out.setCell n4 _).setCell n4 _)
    have l4' : b4 < ((w'.setCell ⟨b4, 0, none⟩ (.int .i64 x.sign)).setCell ⟨b4, 1, none⟩ (.slice p1 (Wh.limbs x.natAbs).length c1)).heap.size := by simpa using l4
    have l5' : b5 < ((w'.setCell ⟨b4, 0, none⟩ (.int .i64 x.sign)).setCell ⟨b4, 1, none⟩ (.slice p1 (Wh.limbs x.natAbs).length c1)).heap.size := by simpa using l5
    have l6' : b6 < ((w'.setCell ⟨b4, 0, none⟩ (.int .i64 x.sign)).setCell ⟨b4, 1, none⟩ (.slice p1 (Wh.limbs x.natAbs).length c1)).heap.size := by simpa using l6
    clear K1 K3 K5 BB4 BB5 BB6 HB l4 l5 l6
    generalize ((w'.setCell ⟨b4, 0, none⟩ (.int .i64 x.sign)).setCell ⟨b4, 1, none⟩ (.slice p1 (Wh.limbs x.natAbs).length c1)) = U at *
    have BB5 := Lib.hid B5'
    obtain ⟨x0, x1, f0, f1⟩ := B5'
    refine Rt.wpAny_step (i := 10) (by kernel_rfl) rfl (by rfl) (fun K hK => ?_)
    have HK := Lib.hid hK; clear hK
    go_simp
    refine HK.out _ _ ?_
    clear HK x0 x1 f0 f1
    have N5 := Lib.hid (BB5.out.put K3'.out)
    have N4' := Lib.hid (N4.out.far BB5.out (Ne.symm h45) (.int .i64 y.sign) (.slice p3 (Wh.limbs y.natAbs).length c3))
    have B6'' := B6'.out.far h56 (.int .i64 y.sign) (.slice p3 (Wh.limbs y.natAbs).length c3)
    have K5'' := Lib.hid (K5'.out.store2 b5 BB5.out.c0 BB5.out.c1 (.int .i64 y.sign) (.slice p3 (Wh.limbs y.natAbs).length c3))
    have HB'' : Hid (Below w.heap.size w ((U.setCell ⟨b5, 0, none⟩ (.int .i64 y.sign)).setCell ⟨b5, 1, none⟩ (.slice p3 (Wh.limbs y.natAbs).length c3))) := Lib.hid ((HB'.out.setCell n5 _).setCell n5 _)
    have l4 : b4 < ((U.setCell ⟨b5, 0, none⟩ (.int .i64 y.sign)).setCell ⟨b5, 1, none⟩ (.slice p3 (Wh.limbs y.natAbs).length c3)).heap.size := by simpa using l4'
    have l5 : b5 < ((U.setCell ⟨b5, 0, none⟩ (.int .i64 y.sign)).setCell ⟨b5, 1, none⟩ (.slice p3 (Wh.limbs y.natAbs).length c3)).heap.size := by simpa using l5'
    have l6 : b6 < ((U.setCell ⟨b5, 0, none⟩ (.int .i64 y.sign)).setCell ⟨b5, 1, none⟩ (.slice p3 (Wh.limbs y.natAbs).length c3)).heap.size := by simpa using l6'
    clear N4 K3' K5' BB5 B6' HB' l4' l5' l6'
    generalize ((U.setCell ⟨b5, 0, none⟩ (.int .i64 y.sign)).setCell ⟨b5, 1, none⟩ (.slice p3 (Wh.limbs y.natAbs).length c3)) = U2 at *
    have BB6 := Lib.hid B6''
    obtain ⟨x0, x1, f0, f1⟩ := B6''
    refine Rt.wpAny_step (i := 11) (by kernel_rfl) rfl (by rfl) (fun K hK => ?_)
    have HK := Lib.hid hK; clear hK
    go_simp
    refine HK.out _ _ ?_
    clear HK x0 x1 f0 f1
    exact Rt.wpAny_end (by kernel_rfl) ⟨rfl, vals, b4, b5, b6, by rw [e1, e3, e5, e6, e7, e8], e6, e7, e8, N4'.out.far BB6.out (Ne.symm h46) _ _, N5.out.far BB6.out (Ne.symm h56) _ _, BB6.out.put K5''.out, by simpa using l4, by simpa using l5, by simpa using l6, (HB''.out.setCell n6 _).setCell n6 _⟩
  · rintro e a W ⟨rfl, vals, b4, b5, b6, rfl, e6, e7, e8, N4, N5, N6, l4, l5, l6, hB⟩
    rw [e6, e7, e8]
    generalize vals 0 = v0; generalize vals 1 = v1; generalize vals 2 = v2; generalize vals 3 = v3; generalize vals 4 = v4; generalize vals 5 = v5
    obtain ⟨p5, c5, y0, y1, ys⟩ := N5
    have HYS := Lib.hid ys; clear ys
    have HN4 := Lib.hid N4; have HN6 := Lib.hid N6; have HB := Lib.hid hB; clear N4 N6 hB
    generalize hsy : y.sign = Y at *
    generalize hsm : m.sign = MS at *
    go_wp2_with fail
    refine (sign_any W Y _ _ _).mono ?_
    rintro e W2 ⟨rfl, hb2⟩
    have HB' : Hid (Below w.heap.size w _) := Lib.hid (HB.out.trans (hb2.mono HB.out.size))
    clear HN4 HN6 hb2 HB
    go_wp2_with fail
    refine (demand_no _ _).mono ?_
    rintro e W4 ⟨rfl, rfl⟩
    go_wp2
    exact ⟨rfl, rfl, HB'.out⟩
set_option maxRecDepth 100000 in
set_option maxHeartbeats 400000 in
theorem PowMod_neg (w : World) (x y m : Int) (hx : Valid x) (hy : Valid y) (hm : Valid m) (hy0 : y < 0) (hE : ErrT w) :
    Calls Tryz.prog 28 #[txt x, txt y, txt m] w fun e w' => e = .returned (.tuple #[.string ⟨#[]⟩, .int .i64 2]) ∧ Below w.heap.size w w' := by
  have hmf : ∀ (fn : Fn) (first cap : Array Value) (w : World), (Instr.makeFunc fn first cap).run Tryz.prog w = .ok (.func fn first cap) w := fun _ _ _ _ => rfl
  have hat := fun (w : World) (pa pb pc : Addr) (h : Captured3 w pa pb pc x y m) (hl : Lie3 w pa pb pc) (hE : ErrT w) => attempt_bad 102 #[.pointer (some pa), .pointer (some pb), .pointer (some pc)] 2 w hE (fun w => by kernel_rfl) (fun w' hb' => powmodwork_neg w' pa pb pc x y m ⟨(hb'.cell hl.a).trans h.a, (hb'.cell hl.b).trans h.b, (hb'.cell hl.c).trans h.c⟩ ⟨Nat.lt_of_lt_of_le hl.a hb'.size, Nat.lt_of_lt_of_le hl.b hb'.size, Nat.lt_of_lt_of_le hl.c hb'.size⟩ hx hy hm hy0)
  have HAT := Lib.hid hat; clear hat
  unfold txt at *
  go_enter Tryz.func28, Tryz.ntmps28
  go_wp2_with fail
  have hal : Below w.heap.size w (((w.alloc (.cells #[.string (str (Wh.decI x))] 9)).alloc (.cells #[.string (str (Wh.decI y))] 9)).alloc (.cells #[.string (str (Wh.decI m))] 9)) := (((Below.refl _ _).alloc (Nat.le_refl _) _).alloc (by simp) _).alloc (by simp; omega) _
  obtain ⟨b0, b1, b2⟩ := boxed3 w (.string (str (Wh.decI x))) (.string (str (Wh.decI y))) (.string (str (Wh.decI m))) 9
  refine (HAT.out _ _ _ _ ⟨b0, b1, b2⟩ ⟨by simp <;> omega, by simp <;> omega, by simp <;> omega⟩ (hE.mono hal)).mono ?_
  rintro e w2 ⟨rfl, hb2⟩
  have hbb := hal.trans (hb2.mono hal.size)
  clear hal b0 b1 b2 hb2
  go_wp2
  go_ret2
  exact ⟨rfl, hbb⟩
def FCL (x lim : Int) : Nat → Value → World → Prop
  | 0, v, w => Num w v x
  | 1, v, w => Num w v lim
  | 2, v, _ => v = .int .i64 (cmpI x lim)
  | 3, v, _ => v = .bool false
  | _, _, _ => True
theorem FCL_stays (x lim : Int) : ∀ i v w w', FCL x lim i v w → Below w.heap.size w w' → FCL x lim i v w' := by
  intro i v w w' h hb
  match i, h with
  | 0, h | 1, h => exact Num.mono h hb
  | 2, h | 3, h => exact h
  | _ + 4, h => trivial
set_option maxRecDepth 100000 in
set_option maxHeartbeats 1000000 in
theorem factorwork_large (w : World) (pa : Addr) (x : Int) (ha : w.cell? pa = some (txt x)) (hla : pa.block < w.heap.size) (hn : 1000000 < x) (hx : Valid x) (hv6 : Valid (1000000 : Int)) (hfx : Fit x) (htab : Tab w) :
    Calls Tryz.prog 124 #[.pointer (some pa)] w fun e w' => e = .panicked (chainOf 13) ∧ Below w.heap.size w w' := by
  obtain ⟨lim, hlim⟩ : ∃ lim : Int, lim = 1000000 := ⟨_, rfl⟩
  have HOF : Hid (∀ w, Tab w → Calls Tryz.prog 125 #[.int .i64 1000000] w fun e w' => (∃ v', e = .returned v' ∧ Num w' v' lim) ∧ Below w.heap.size w w') := Lib.hid (by rw [hlim]; exact fun w ht => of_any 1000000 (by decide) hv6 w ht)
  have hci : Hid (decide (cmpI x lim ≤ 0) = false) := Lib.hid (by rw [hlim]; unfold cmpI; split <;> (try split) <;> first | rfl | omega)
  have HFX := Lib.hid hfx; clear hfx hv6
  have hs1 : decide (0 < x.sign) = true := by rw [Int.sign_eq_one_of_pos (by omega)]; rfl
  have HCI := hci; clear hci hlim
  have HN := Lib.hid hn; clear hn
  have H1 := Lib.hid (read_any x hx w)
  have HTB := Lib.hid htab; clear htab
  unfold txt at ha H1
  go_enter Tryz.func124, Tryz.ntmps124
  go_wp2_with fail
  refine H1.out.mono ?_
  rintro e w1 ⟨⟨v1, rfl, hn1⟩, hb1⟩
  obtain ⟨s1, rfl, k1⟩ := hn1
  obtain ⟨p1, c1, rfl⟩ := k1.len
  have hal : Below w1.heap.size w1 (w1.alloc (Obj.cells #[Value.int IntKind.i64 x.sign, Value.slice p1 (Wh.limbs x.natAbs).length c1] 83)) := (Below.refl _ _).alloc (Nat.le_refl _) _
  have hBB := hb1.trans (hal.mono hb1.size)
  have kb := (hBB.cell hla).trans ha
  have ka : (w1.alloc (Obj.cells #[Value.int IntKind.i64 x.sign, Value.slice p1 (Wh.limbs x.natAbs).length c1] 83)).cell? ⟨w1.heap.size, 0, none⟩ = some (.int .i64 x.sign) := by go_simp
  have kc : (w1.alloc (Obj.cells #[Value.int IntKind.i64 x.sign, Value.slice p1 (Wh.limbs x.natAbs).length c1] 83)).cell? ⟨w1.heap.size, 1, none⟩ = some (.slice p1 (Wh.limbs x.natAbs).length c1) := by go_simp
  have hsz : (w1.alloc (Obj.cells #[Value.int IntKind.i64 x.sign, Value.slice p1 (Wh.limbs x.natAbs).length c1] 83)).heap.size = w1.heap.size + 1 := by simp
  have K1 := Lib.hid (k1.mono hal); have HB := Lib.hid hBB
  have hpb : pa.block < w1.heap.size := Nat.lt_of_lt_of_le hla hb1.size
  have hbw := hb1.size
  clear hal hBB k1 hb1 ha
  go_wp2_with fail
  generalize hX : (w1.alloc (Obj.cells #[Value.int IntKind.i64 x.sign, Value.slice p1 (Wh.limbs x.natAbs).length c1] 83)) = V at *
  clear hX
  generalize hsy : x.sign = Y at *
  have HSY := Lib.hid hsy; clear hsy
  generalize hnl : (Wh.limbs x.natAbs).length = NL at *
  refine (sign_any V Y _ _ _).mono ?_
  rintro e W2 ⟨rfl, hb2⟩
  have ka := (hb2.cell (p := ⟨w1.heap.size, 0, none⟩) (by show w1.heap.size < _; omega)).trans ka
  have kc := (hb2.cell (p := ⟨w1.heap.size, 1, none⟩) (by show w1.heap.size < _; omega)).trans kc
  have kb := (hb2.cell (p := pa) (by omega)).trans kb
  have K2 := Lib.hid (K1.out.mono hb2)
  have HB2 : Hid (Below w.heap.size w W2) := Lib.hid (HB.out.trans (hb2.mono HB.out.size))
  have hs2 := hb2.size
  clear hb2 K1 HB
  go_wp2_with fail
  refine (demand_yes _ _).mono ?_
  rintro e W3 ⟨rfl, rfl⟩
  have HT2 := Lib.hid (HTB.out.mono HB2.out)
  go_wp2_with fail
  refine wp_mono (Q := fun e a W' => e = .panic (chainOf 13) ∧ a.defers = [] ∧ Below w.heap.size w W') ?_ ?_
  refine Rt.wp_region_grow (n0 := 1) [4] [] 23 (fun vals => { tmps := #[.pointer (some pa), .slice none 0 0, .pointer (some ⟨w1.heap.size, 0, none⟩), undef, undef, .string (str (Wh.decI x)), .agg #[.int .i64 Y, .slice p1 NL c1], .agg #[.int .i64 Y, .slice p1 NL c1], .int .i64 Y, .bool true, .tuple #[], vals 0, vals 1, vals 2, vals 3, undef, undef, undef, undef, undef, undef, undef, undef], defers := [] }) (FCL x lim) (by kernel_rfl) (by kernel_rfl) (by kernel_rfl) (by kernel_rfl) (fun _ a d _ _ h => ⟨h.1, by cases d <;> exact h.2.1, h.2.2⟩) (by kernel_rfl) rfl (fun _ => by kernel_rfl) (by kernel_rfl) (by kernel_rfl) (FCL_stays _ _) ?_ ?_ ?_
  · intro i o d hi hT hW hd vals w' hb hf
    have hlt : i < 5 := (Array.getElem?_eq_some_iff.1 hi).1
    rcases i with _ | _ | _ | _ | _ | i
    · obtain rfl := Option.some.inj hi
      obtain rfl := Option.some.inj hd
      have z0 := (hb.cell (p := ⟨w1.heap.size, 0, none⟩) (by show w1.heap.size < _; omega)).trans ka
      have z1 := (hb.cell (p := ⟨w1.heap.size, 1, none⟩) (by show w1.heap.size < _; omega)).trans kc
      have ZS := Lib.hid (K2.out.mono hb)
      dsimp only
      go_simp
      exact ⟨⟨_, congrArg (fun s => Value.agg #[.int .i64 s, Value.slice p1 NL c1]) HSY.out.symm, ZS.out⟩, Below.refl _ _⟩
    · obtain rfl := Option.some.inj hi
      obtain rfl := Option.some.inj hd
      dsimp only
      go_simp
      refine (HOF.out w' (HT2.out.mono hb)).mono ?_
      rintro e w5 ⟨⟨v5, rfl, hn5⟩, hb5⟩
      exact ⟨hn5, hb5⟩
    · obtain rfl := Option.some.inj hi
      obtain rfl := Option.some.inj hd
      have h0 : Num w' (vals 0) _ := hf 0 (by kernel_rfl)
      have h4 : Num w' (vals 1) _ := hf 1 (by kernel_rfl)
      have HP := compare_any w' _ _ _ _ h0 h4 HFX.out
      obtain ⟨s0, e0, -⟩ := h0
      obtain ⟨s4, e4, -⟩ := h4
      rw [e0, e4] at HP
      have HP := Lib.hid HP
      dsimp only
      rw [e0, e4]
      go_simp
      refine HP.out.mono ?_
      rintro e w5 ⟨rfl, hb5⟩
      exact ⟨rfl, hb5⟩
    · obtain rfl := Option.some.inj hi
      obtain rfl := Option.some.inj hd
      have e0 : vals 2 = _ := hf 2 (by kernel_rfl)
      dsimp only
      rw [e0]
      go_simp
      exact ⟨by first | rfl | exact congrArg Value.bool HCI.out, Below.refl _ _⟩
    · cases hT
    · omega
  · intro p o d hi hW hd vals w' hb hf
    cases hW
  · intro vals w' hb hf
    have e3 : vals 3 = .bool false := hf 3 (by decide) rfl
    have HB' := Lib.hid (HB2.out.trans (hb.mono HB2.out.size))
    clear hb hf
    rw [e3]
    refine Rt.wpAny_step (i := 4) (by kernel_rfl) rfl (by rfl) (fun K hK => ?_)
    clear hK
    go_simp
    refine (demand_no _ _).mono ?_
    rintro e w5 ⟨rfl, rfl⟩
    exact ⟨rfl, HB'.out⟩
  · rintro e a W5 ⟨rfl, hd, hB⟩
    go_wp2
    exact ⟨hd, rfl, hB⟩
theorem Factor_large (w : World) (x : Int) (hx : Valid x) (hfx : Fit x) (hn : 1000000 < x) (hE : ErrT w) (hT : Tab w) :
    Calls Tryz.prog 39 #[txt x] w fun e w' => e = .returned (.tuple #[.slice none 0 0, .int .i64 13]) ∧ Below w.heap.size w w' :=
  Factor_fail w _ 13 (fun w pa hc hl ht => factorwork_large w pa x hc hl hn hx (valid9 _ (by decide)) hfx ht) hE hT
end Go.Proofs.YteaeloeebfdodaaGreatDoor

/- MATH 13: roots by Newton's steps. -/
namespace Wh
theorem amgm (a b : Int) (ha : 0 ≤ a) (hb : 0 ≤ b) (m : Nat) : ((m : Int) + 1) * (a * b ^ m) ≤ a ^ (m + 1) + (m : Int) * b ^ (m + 1) := by
  induction m with
  | zero => simp [Int.pow_succ]
  | succ m ih =>
    have hB : 0 ≤ b ^ m := Int.pow_nonneg hb
    have h1 := Int.mul_le_mul_of_nonneg_left ih ha
    have h2 : 0 ≤ ((m : Int) + 1) * b ^ m * ((a - b) * (a - b)) := Int.mul_nonneg (Int.mul_nonneg (by omega) hB) (by
      rcases Int.le_total 0 (a - b) with h | h
      · exact Int.mul_nonneg h h
      · exact Int.mul_nonneg_of_nonpos_of_nonpos h h)
    have e1 : b ^ (m + 1) = b ^ m * b := Int.pow_succ b m
    have e2 : b ^ (m + 1 + 1) = b ^ m * b * b := by rw [Int.pow_succ, e1]
    have e3 : a ^ (m + 1 + 1) = a ^ (m + 1) * a := Int.pow_succ a (m + 1)
    rw [e1] at h1
    rw [e3, e2, e1, Int.natCast_succ]
    generalize b ^ m = B at *
    generalize a ^ (m + 1) = A at *
    generalize (m : Int) = k at *
    have e4 : (k + 1 + 1) * (a * (B * b)) = (A * a + (k + 1) * (B * b * b)) - (a * (A + k * (B * b)) - a * ((k + 1) * (a * B))) - (k + 1) * B * ((a - b) * (a - b)) := by grind
    rw [e4]
    omega
/-- a step never goes below the root -/
theorem newton_up {x r t : Int} {m : Nat} (hx : 0 ≤ x) (hr : 0 < r) (ht : 0 ≤ t) (h : ((m : Int) * r + x.tdiv (r ^ m)).tdiv ((m : Int) + 1) = t) : x < (t + 1) ^ (m + 1) := by
  have hp : 0 < r ^ m := Int.pow_pos hr
  have hq : x.tdiv (r ^ m) = x / r ^ m := Int.tdiv_eq_ediv_of_nonneg hx
  have hq0 : 0 ≤ x / r ^ m := Int.ediv_nonneg hx (Int.le_of_lt hp)
  rw [hq, Int.tdiv_eq_ediv_of_nonneg (Int.add_nonneg (Int.mul_nonneg (by omega) (Int.le_of_lt hr)) hq0)] at h
  have h1 : (m : Int) * r + x / r ^ m < (t + 1) * ((m : Int) + 1) := by
    rw [← h]
    exact Int.lt_ediv_add_one_mul_self _ (by omega)
  have h2 : x < (x / r ^ m + 1) * r ^ m := Int.lt_ediv_add_one_mul_self _ hp
  have h3 := amgm (t + 1) r (by omega) (Int.le_of_lt hr) m
  have h4 : (x / r ^ m + 1) * r ^ m ≤ ((t + 1) * ((m : Int) + 1) - (m : Int) * r) * r ^ m := Int.mul_le_mul_of_nonneg_right (by omega) (Int.le_of_lt hp)
  have e1 : r ^ (m + 1) = r ^ m * r := Int.pow_succ r m
  rw [e1] at h3
  generalize r ^ m = B at *
  generalize (t + 1) ^ (m + 1) = A at *
  generalize x / B = q at *
  have e2 : ((t + 1) * ((m : Int) + 1) - (m : Int) * r) * B = ((m : Int) + 1) * ((t + 1) * B) - (m : Int) * (B * r) := by grind
  omega
/-- where a step does not go down, the power is not more -/
theorem newton_stop {x r : Int} {m : Nat} (hx : 0 ≤ x) (hr : 0 < r) (h : r ≤ ((m : Int) * r + x.tdiv (r ^ m)).tdiv ((m : Int) + 1)) : r ^ (m + 1) ≤ x := by
  have hp : 0 < r ^ m := Int.pow_pos hr
  have hq : x.tdiv (r ^ m) = x / r ^ m := Int.tdiv_eq_ediv_of_nonneg hx
  have hq0 : 0 ≤ x / r ^ m := Int.ediv_nonneg hx (Int.le_of_lt hp)
  rw [hq, Int.tdiv_eq_ediv_of_nonneg (Int.add_nonneg (Int.mul_nonneg (by omega) (Int.le_of_lt hr)) hq0)] at h
  have h1 : r * ((m : Int) + 1) ≤ (m : Int) * r + x / r ^ m := (Int.le_ediv_iff_mul_le (by omega)).1 h
  have h2 : r ≤ x / r ^ m := by
    have : r * ((m : Int) + 1) = (m : Int) * r + r := by grind
    omega
  have h3 := (Int.le_ediv_iff_mul_le hp).1 h2
  rw [Int.pow_succ, Int.mul_comm]
  exact h3
end Wh
