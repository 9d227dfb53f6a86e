/- Part 26 of the proofs that laws of package whole answer true at every input and leave the input as it was, where the library's variables start as the text lays them (the texts W14, X2). -/
import Derived.Test.YteaeloeebfdodaaGreatDoorZ25
import Derived.Test.YteaeloeebfdodaaGreatDoorZ12
import Derived.Test.YteaeloeebfdodaaGreatDoorZ11
import Derived.Test.YteaeloeebfdodaaGreatDoorZ24
set_option linter.unusedVariables false
set_option linter.unusedSimpArgs false
namespace Go.Proofs.YteaeloeebfdodaaGreatDoor
open Go.RowKit Go.Proofs.Rf
theorem split_form (l : List UInt8) (b : Nat) (h : Form b l) (hm : l.length ≤ 80000) (w : World) :
    Calls Tryz.prog 204 #[.string (str l), .int .i64 b] w fun e w' => e = .returned (.tuple #[.int .i64 (if l.head? = some 45 then -1 else 1), .string (str (behind l))]) ∧ Below w.heap.size w w' := by
  obtain ⟨hne, hd, hl⟩ := h
  by_cases hm45 : l.head? = some 45
  · have hb : l = 45 :: behind l := by
      unfold behind
      rw [if_pos hm45]
      cases l with
      | nil => simp at hm45
      | cons c r => simp at hm45; subst hm45; rfl
    rw [if_pos hm45]
    have hz : (behind l).head? ≠ some 48 := by
      rcases hl with h | h
      · exact h
      · rw [h] at hm45; simp at hm45
    have hml : (behind l).length ≤ 80000 := by rw [hb] at hm; simp at hm; omega
    have := split_neg (behind l) b hd hne hml hz w
    rw [← hb] at this
    exact this
  · have hb : behind l = l := by unfold behind; rw [if_neg hm45]
    rw [if_neg hm45, hb]
    rw [hb] at hne hd hl
    exact split_pos l b hd hne hm hm45 hl w
set_option maxRecDepth 100000 in
set_option maxHeartbeats 400000 in
theorem frombasework_form (w : World) (pa pb : Addr) (b : Int) (l : List UInt8) (ha : w.cell? pa = some (.int .i64 b)) (hb : w.cell? pb = some (.string (str l))) (hb2 : 2 ≤ b ∧ b ≤ 36) (hm : l.length ≤ 80000) (h : ¬ Form b.toNat l) :
    Calls Tryz.prog 120 #[.pointer (some pa), .pointer (some pb)] w fun e w' => e = .panicked (chainOf 1) ∧ Below w.heap.size w w' := by
  have g1 : decide (2 ≤ b) = true := by rw [decide_eq_true_iff]; omega
  have g2 : decide (b ≤ 36) = true := by rw [decide_eq_true_iff]; omega
  have HS := Lib.hid (fun w => split_bad l b.toNat (by omega) hm h w)
  rw [show ((b.toNat : Nat) : Int) = b by omega] at HS
  clear hm h hb2
  generalize str l = s at *
  have HW : Hid (∀ w, Calls Tryz.prog 121 #[.string s, .int .i64 b] w fun e w' => e = .panicked (chainOf 1) ∧ Below w.heap.size w w') := Lib.hid fun w => by
    clear ha hb g1 g2
    go_enter Tryz.func121, Tryz.ntmps121
    go_wp2_with fail
    refine (HS.out _).mono ?_
    rintro e w1 ⟨rfl, hb1⟩
    go_wp2
    exact ⟨rfl, rfl, hb1⟩
  clear HS
  go_enter Tryz.func120, Tryz.ntmps120
  go_wp2_with fail
  refine (demand_yes _ _).mono ?_
  rintro e w1 ⟨rfl, rfl⟩
  go_wp2_with fail
  refine (HW.out _).mono ?_
  rintro e w2 ⟨rfl, hB2⟩
  go_wp2
  exact ⟨rfl, rfl, hB2⟩
set_option maxRecDepth 100000 in
set_option maxHeartbeats 400000 in
theorem frombasework_lo (w : World) (pa pb : Addr) (b : Int) (ha : w.cell? pa = some (.int .i64 b)) (h : b < 2) :
    Calls Tryz.prog 120 #[.pointer (some pa), .pointer (some pb)] w fun e w' => e = .panicked (chainOf 2) ∧ Below w.heap.size w w' := by
  have g1 : decide (2 ≤ b) = false := by rw [decide_eq_false_iff_not]; omega
  go_enter Tryz.func120, Tryz.ntmps120
  go_wp2_with fail
  refine (demand_no _ _).mono ?_
  rintro e w1 ⟨rfl, rfl⟩
  go_wp2
  exact ⟨rfl, rfl, Below.refl _ _⟩
set_option maxRecDepth 100000 in
set_option maxHeartbeats 400000 in
theorem frombasework_hi (w : World) (pa pb : Addr) (b : Int) (ha : w.cell? pa = some (.int .i64 b)) (h : 36 < b) :
    Calls Tryz.prog 120 #[.pointer (some pa), .pointer (some pb)] w fun e w' => e = .panicked (chainOf 2) ∧ Below w.heap.size w w' := by
  have g1 : decide (2 ≤ b) = true := by rw [decide_eq_true_iff]; omega
  have g2 : decide (b ≤ 36) = false := by rw [decide_eq_false_iff_not]; omega
  go_enter Tryz.func120, Tryz.ntmps120
  go_wp2_with fail
  refine (demand_no _ _).mono ?_
  rintro e w1 ⟨rfl, rfl⟩
  go_wp2
  exact ⟨rfl, rfl, Below.refl _ _⟩
set_option maxRecDepth 100000 in
set_option maxHeartbeats 400000 in
theorem FromBase_fail (w : World) (s : ByteArray) (b c : Int) (hw : ∀ (w : World) (pa pb : Addr), w.cell? pa = some (.int .i64 b) → w.cell? pb = some (.string s) → pa.block < w.heap.size → pb.block < w.heap.size → Calls Tryz.prog 120 #[.pointer (some pa), .pointer (some pb)] w fun e w' => e = .panicked (chainOf c) ∧ Below w.heap.size w w') (hE : ErrT w) :
    Calls Tryz.prog 38 #[.string s, .int .i64 b] w fun e w' => e = .returned (.tuple #[.string ⟨#[]⟩, .int .i64 c]) ∧ Below w.heap.size w w' := by
  have hmf : ∀ (fn : Fn) (first cap : Array Value) (w : World), (Instr.makeFunc fn first cap).run Tryz.prog w = .ok (.func fn first cap) w := fun _ _ _ _ => rfl
  have HAT := Lib.hid (fun (w : World) (pa pb : Addr) (hc : w.cell? pa = some (.int .i64 b)) (hd : w.cell? pb = some (.string s)) (hl : pa.block < w.heap.size) (hl2 : pb.block < w.heap.size) (hE : ErrT w) => attempt_bad 120 #[.pointer (some pa), .pointer (some pb)] c w hE (fun w => by kernel_rfl) (fun w' hb' => hw w' pa pb ((hb'.cell hl).trans hc) ((hb'.cell hl2).trans hd) (Nat.lt_of_lt_of_le hl hb'.size) (Nat.lt_of_lt_of_le hl2 hb'.size)))
  clear hw
  have HBX := Lib.hid (boxSI w s b)
  go_enter Tryz.func38, Tryz.ntmps38
  go_wp2_with fail
  have hal : Below w.heap.size w ((w.alloc (.cells #[.string s] 9)).alloc (.cells #[.int .i64 b] 3)) := ((Below.refl _ _).alloc (Nat.le_refl _) _).alloc (by simp) _
  refine (HAT.out _ _ _ HBX.out.2 HBX.out.1 (by simp) (by simp; omega) (hE.mono hal)).mono ?_
  rintro e w2 ⟨rfl, hb2⟩
  have hbb := hal.trans (hb2.mono hal.size)
  clear hal hb2
  go_wp2
  go_ret2
  exact ⟨rfl, hbb⟩
theorem FromBase_range (w : World) (s : ByteArray) (b : Int) (h : b < 2 ∨ 36 < b) (hE : ErrT w) :
    Calls Tryz.prog 38 #[.string s, .int .i64 b] w fun e w' => e = .returned (.tuple #[.string ⟨#[]⟩, .int .i64 2]) ∧ Below w.heap.size w w' := by
  rcases h with h | h
  · exact FromBase_fail w _ b 2 (fun w pa pb hc _ _ _ => frombasework_lo w pa pb b hc h) hE
  · exact FromBase_fail w _ b 2 (fun w pa pb hc _ _ _ => frombasework_hi w pa pb b hc h) hE
theorem FromBase_form (w : World) (l : List UInt8) (b : Int) (hb : 2 ≤ b ∧ b ≤ 36) (hm : l.length ≤ 80000) (h : ¬ Form b.toNat l) (hE : ErrT w) :
    Calls Tryz.prog 38 #[.string (str l), .int .i64 b] w fun e w' => e = .returned (.tuple #[.string ⟨#[]⟩, .int .i64 1]) ∧ Below w.heap.size w w' :=
  FromBase_fail w _ b 1 (fun w pa pb hc hd _ _ => frombasework_form w pa pb b l hc hd hb hm h) hE
end Go.Proofs.YteaeloeebfdodaaGreatDoor

namespace Go.Proofs.YteaeloeebfdodaaGreatDoor
open Go.RowKit Go.Proofs.Rf
def lets : List UInt8 := [48, 49, 50, 51, 52, 53, 54, 55, 56, 57, 97, 98, 99, 100, 101, 102, 103, 104, 105, 106, 107, 108, 109, 110, 111, 112, 113, 114, 115, 116, 117, 118, 119, 120, 121, 122]
theorem lets_facts : ∀ i : Fin 36, ((lets.getD i.val 0).toNat : Nat) = charN i.val := by decide
def vl (c : Nat) : Nat := if dval c < 36 then dval c else 99
theorem charN_dval {c : Nat} (h : dval c < 36) : charN (dval c) = c := by
  unfold dval at *
  unfold charN
  split at h
  · rename_i h1; rw [if_pos h1, if_pos (by omega)]; omega
  · rename_i h1
    split at h
    · rename_i h2; rw [if_neg h1, if_pos h2, if_neg (by omega)]; omega
    · omega
theorem dval_charN {d : Nat} (h : d < 36) : dval (charN d) = d := by
  unfold dval charN
  split
  · rw [if_pos (by omega)]; omega
  · rw [if_neg (by omega), if_pos (by omega)]; omega
theorem dval_ascii {c b : Nat} (hb : b ≤ 36) (h : dval c < b) : c < 128 := by
  unfold dval at h
  split at h
  · omega
  · split at h <;> omega
set_option maxRecDepth 100000 in
set_option maxHeartbeats 800000 in
theorem value_any (c : Nat) (w : World) :
    Calls Tryz.prog 130 #[.int .u8 c] w fun e w' => e = .returned (.int .i64 (vl c)) ∧ w = w' := by
  have hsz : ({ data := #[48, 49, 50, 51, 52, 53, 54, 55, 56, 57, 97, 98, 99, 100, 101, 102, 103, 104, 105, 106, 107, 108, 109, 110, 111, 112, 113, 114, 115, 116, 117, 118, 119, 120, 121, 122] } : ByteArray).size = 36 := rfl
  have hat : ∀ i (h : i < ({ data := #[48, 49, 50, 51, 52, 53, 54, 55, 56, 57, 97, 98, 99, 100, 101, 102, 103, 104, 105, 106, 107, 108, 109, 110, 111, 112, 113, 114, 115, 116, 117, 118, 119, 120, 121, 122] } : ByteArray).size), ((({ data := #[48, 49, 50, 51, 52, 53, 54, 55, 56, 57, 97, 98, 99, 100, 101, 102, 103, 104, 105, 106, 107, 108, 109, 110, 111, 112, 113, 114, 115, 116, 117, 118, 119, 120, 121, 122] } : ByteArray)[i]'h).toNat : Int) = (charN i : Int) := fun i h => by
    have := lets_facts ⟨i, h⟩
    rw [← this]
    have e := str_get lets i h
    exact congrArg (fun x : UInt8 => (x.toNat : Int)) e
  go_enter Tryz.func130, Tryz.ntmps130
  go_wp2_with fail
  generalize ({ data := #[48, 49, 50, 51, 52, 53, 54, 55, 56, 57, 97, 98, 99, 100, 101, 102, 103, 104, 105, 106, 107, 108, 109, 110, 111, 112, 113, 114, 115, 116, 117, 118, 119, 120, 121, 122] } : ByteArray) = LB at *
  go_loopw [3] (fun iv wr => ∃ i : Nat, i ≤ 36 ∧ iv = .int .i64 i ∧ wr = w ∧ Hid (∀ j, j < i → charN j ≠ c)) (fun iv _ => 36 - (intOf iv).toNat)
  case atStart => exact ⟨0, Nat.zero_le _, rfl, rfl, Lib.hid (fun j h => absurd h (by omega))⟩
  case round =>
    obtain ⟨i, hi, rfl, rfl, HG⟩ := hrel
    by_cases hlt : i < 36
    · have hd : decide ((i : Int) < 36) = true := by rw [decide_eq_true_iff]; omega
      have hls : i < LB.size := by omega
      have hx := hat i hls
      by_cases hc : charN i = c
      · have hv : vl c = i := by unfold vl; rw [← hc, dval_charN hlt, if_pos hlt]
        have hq : ((charN i : Int) == (c : Int)) = true := by rw [beq_iff_eq]; omega
        clear HG hat
        generalize charN i = ch at *
        go_wp2_with fail
        go_ret
        exact ⟨by rw [hv]; rfl, rfl⟩
      · have HG2 : Hid (∀ j, j < i + 1 → charN j ≠ c) := Lib.hid (fun j hj => by
          rcases Nat.lt_or_ge j i with h | h
          · exact HG.out j h
          · obtain rfl : j = i := by omega
            exact hc)
        have hq : ((charN i : Int) == (c : Int)) = false := by rw [beq_eq_false_iff_ne]; omega
        clear HG hc hat
        generalize charN i = ch at *
        go_wp2_with fail
        exact ⟨⟨i + 1, by omega, by simp, trivial, HG2⟩, by simp [intOf]; omega⟩
    · have hd : decide ((i : Int) < 36) = false := by rw [decide_eq_false_iff_not]; omega
      have hv : vl c = 99 := by
        unfold vl
        rw [if_neg]
        intro h
        exact HG.out (dval c) (by omega) (charN_dval h)
      clear hat
      go_wp2_with fail
      go_ret
      exact ⟨by rw [hv]; rfl, rfl⟩
set_option maxRecDepth 100000 in
set_option maxHeartbeats 800000 in
theorem rFromBase_lo (s : ByteArray) (b : Int) (h : b < 2) (w : World) :
    Calls Tryz.prog 47 #[.string s, .int .i64 b] w fun e w' => e = .returned (.tuple #[.string ⟨#[]⟩, .int .i64 2]) ∧ w = w' := by
  have g1 : decide (b < 2) = true := by rw [decide_eq_true_iff]; omega
  go_enter Tryz.func47, Tryz.ntmps47
  go_wp2_with fail
  go_ret2
  exact ⟨rfl, rfl⟩
set_option maxRecDepth 100000 in
set_option maxHeartbeats 800000 in
theorem rFromBase_hi (s : ByteArray) (b : Int) (h : 36 < b) (w : World) :
    Calls Tryz.prog 47 #[.string s, .int .i64 b] w fun e w' => e = .returned (.tuple #[.string ⟨#[]⟩, .int .i64 2]) ∧ w = w' := by
  have g1 : decide (b < 2) = false := by rw [decide_eq_false_iff_not]; omega
  have g2 : decide (36 < b) = true := by rw [decide_eq_true_iff]; omega
  go_enter Tryz.func47, Tryz.ntmps47
  go_wp2_with fail
  go_ret2
  exact ⟨rfl, rfl⟩
set_option maxRecDepth 100000 in
set_option maxHeartbeats 800000 in
theorem rFromBase_bad (l : List UInt8) (b : Nat) (hb : 2 ≤ b ∧ b ≤ 36) (hlen : l.length ≤ 2000) (h : ¬ Form b l) (w : World) :
    Calls Tryz.prog 47 #[.string (str l), .int .i64 b] w fun e w' => e = .returned (.tuple #[.string ⟨#[]⟩, .int .i64 1]) ∧ w = w' := by
  have g1 : decide ((b : Int) < 2) = false := by rw [decide_eq_false_iff_not]; omega
  have g2 : decide ((36 : Int) < (b : Int)) = false := by rw [decide_eq_false_iff_not]; omega
  have HA := Lib.hid (fun w => Abs_any l w)
  have HS : Hid ((str (behind l)).size = (behind l).length) := Lib.hid rfl
  have hbl : (behind l).length ≤ 2000 := by
    unfold behind
    split
    · rw [List.length_tail]; omega
    · exact hlen
  have hsz : (str (behind l)).size ≤ 2000 := hbl
  by_cases hne : behind l = []
  · have hz : (str (behind l)).size = 0 := by rw [HS.out, hne]; rfl
    have h0 : ((((str (behind l)).size : Nat) : Int) == 0) = true := by rw [hz]; rfl
    clear h HS hne hbl
    generalize str (behind l) = SB at *
    generalize str l = S at *
    go_enter Tryz.func47, Tryz.ntmps47
    go_wp2_with fail
    refine (HA.out _).mono ?_
    rintro e w' ⟨rfl, rfl⟩
    go_wp2_with fail
    go_ret2
    exact ⟨rfl, rfl⟩
  · have hs0 : 0 < (str (behind l)).size := by rw [str_size]; exact List.length_pos_iff.2 hne
    have h0 : ((((str (behind l)).size : Nat) : Int) == 0) = false := by rw [beq_eq_false_iff_ne]; omega
    by_cases hz : 1 < (behind l).length ∧ (behind l).headD 0 = 48
    · have h3 : decide ((1 : Int) < ((str (behind l)).size : Nat)) = true := by rw [decide_eq_true_iff, HS.out]; omega
      have h2 : ((((str (behind l))[0]'hs0).toNat : Int) == 48) = true := by
        rw [beq_iff_eq, str_get _ 0 hs0]
        have e : (behind l).getD 0 0 = 48 := by rw [← hz.2]; cases behind l <;> rfl
        rw [e]; rfl
      clear h HS hz hne hbl
      generalize str (behind l) = SB at *
      generalize str l = S at *
      go_enter Tryz.func47, Tryz.ntmps47
      go_wp2_with fail
      refine (HA.out _).mono ?_
      rintro e w' ⟨rfl, rfl⟩
      go_wp2_with fail
      go_ret2
      exact ⟨rfl, rfl⟩
    · have hh : ((str (behind l)).size = 1) ∨ (1 < (str (behind l)).size ∧ ((((str (behind l))[0]'hs0).toNat : Int) == 48) = false) := by
        by_cases h1 : (str (behind l)).size = 1
        · exact .inl h1
        · right
          refine ⟨by omega, ?_⟩
          rw [beq_eq_false_iff_ne, str_get _ 0 hs0]
          intro e
          have e2 : (behind l).getD 0 0 = 48 := UInt8.toNat_inj.1 (show ((behind l).getD 0 0).toNat = 48 by omega)
          exact hz ⟨by have := HS.out; omega, by rw [← e2]; cases behind l <;> rfl⟩
      by_cases h45 : l = [45, 48]
      · have htl : ((str l).toList == [45, 48]) = true := by rw [Lib.toList_data, str_data, h45]; rfl
        clear h HS hz hne hbl h45 h0
        generalize str (behind l) = SB at *
        generalize str l = S at *
        rcases hh with h1 | ⟨h1, h2⟩
        case' inr =>
          have h0 : (((SB.size : Nat) : Int) == 0) = false := by rw [beq_eq_false_iff_ne]; omega
          have h3 : decide ((1 : Int) < (SB.size : Nat)) = true := by rw [decide_eq_true_iff]; omega
        all_goals
          go_enter Tryz.func47, Tryz.ntmps47
          go_wp2_with fail
          refine (HA.out _).mono ?_
          rintro e w' ⟨rfl, rfl⟩
          go_wp2_with fail
          go_ret2
          exact ⟨rfl, rfl⟩
      · have htl : ((str l).toList == [45, 48]) = false := by rw [Lib.toList_data, str_data, beq_eq_false_iff_ne]; exact h45
        have hex : ¬ Digs b (behind l) := fun hd => h ⟨hne, hd, by
          by_cases h1 : (behind l).head? = some 48
          · right
            have hb48 : behind l = [48] := by
              cases hb : behind l with
              | nil => exact absurd hb hne
              | cons c r =>
                rw [hb] at hz h1
                simp at hz h1
                subst h1
                cases r with
                | nil => rfl
                | cons d r => simp at hz
            unfold behind at hb48
            by_cases hm : l.head? = some 45
            · rw [if_pos hm] at hb48
              exfalso
              apply h45
              cases l with
              | nil => simp at hm
              | cons c r => simp at hm hb48; rw [hm, hb48]
            · rw [if_neg hm] at hb48
              exact hb48
          · exact .inl h1⟩
        have HEX := Lib.hid hex
        clear h hz hne hbl h45 h0 hex
        generalize str l = S at *
        rcases hh with h1 | ⟨h1, h2⟩
        case' inr =>
          have h0 : ((((str (behind l)).size : Nat) : Int) == 0) = false := by rw [beq_eq_false_iff_ne]; omega
          have h3 : decide ((1 : Int) < ((str (behind l)).size : Nat)) = true := by rw [decide_eq_true_iff]; omega
        all_goals
          go_enter Tryz.func47, Tryz.ntmps47
          go_wp2_with fail
          refine (HA.out _).mono ?_
          rintro e w' ⟨rfl, rfl⟩
          go_wp2_with fail
          go_loopw [7] (fun iv wr => ∃ k : Nat, k ≤ (str (behind l)).size ∧ iv = .int .i64 k ∧ wr = w ∧ Hid (∀ j, j < k → dval ((behind l).getD j 0).toNat < b)) (fun iv _ => (str (behind l)).size - (intOf iv).toNat)
          case atStart => exact ⟨0, Nat.zero_le _, rfl, rfl, Lib.hid (fun j h => absurd h (by omega))⟩
          case round =>
            obtain ⟨k, hk, rfl, rfl, HG⟩ := hrel
            by_cases hlt : k < (str (behind l)).size
            · have hd : decide ((k : Int) < ((str (behind l)).size : Nat)) = true := by simpa using hlt
              have hx : (((str (behind l))[k]'hlt).toNat : Int) = ((((behind l).getD k 0).toNat : Nat) : Int) := by rw [str_get _ k hlt]
              by_cases hv : dval ((behind l).getD k 0).toNat < b
              · have HG2 : Hid (∀ j, j < k + 1 → dval ((behind l).getD j 0).toNat < b) := Lib.hid (fun j hj => by
                  rcases Nat.lt_or_ge j k with h | h
                  · exact HG.out j h
                  · obtain rfl : j = k := by omega
                    exact hv)
                clear HG
                generalize ((behind l).getD k 0).toNat = c at *
                have hq : decide (b ≤ vl c) = false := by rw [decide_eq_false_iff_not]; unfold vl; rw [if_pos (by omega)]; omega
                have HV := Lib.hid (value_any c)
                generalize vl c = vc at *
                go_wp2_with fail
                refine (HV.out _).mono ?_
                rintro e w' ⟨rfl, rfl⟩
                go_wp2_with fail
                exact ⟨⟨k + 1, by omega, by simp, trivial, HG2⟩, by simp [intOf]; omega⟩
              · clear HG
                generalize ((behind l).getD k 0).toNat = c at *
                have hq : decide (b ≤ vl c) = true := by rw [decide_eq_true_iff]; unfold vl; split <;> omega
                have HV := Lib.hid (value_any c)
                generalize vl c = vc at *
                go_wp2_with fail
                refine (HV.out _).mono ?_
                rintro e w' ⟨rfl, rfl⟩
                go_wp2_with fail
                go_ret2
                exact ⟨rfl, rfl⟩
            · exfalso
              refine HEX.out fun c hc => ?_
              obtain ⟨i, hi, rfl⟩ := List.getElem_of_mem hc
              have := HG.out i (by have := HS.out; omega)
              rw [List.getD_eq_getElem?_getD, List.getElem?_eq_getElem hi] at this
              exact ⟨dval_ascii hb.2 this, this⟩
end Go.Proofs.YteaeloeebfdodaaGreatDoor
