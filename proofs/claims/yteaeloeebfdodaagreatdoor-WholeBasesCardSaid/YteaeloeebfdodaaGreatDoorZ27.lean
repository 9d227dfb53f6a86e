/- Part 27 of the proofs that laws of package whole answer true at every input and leave the input as it was, where the library's variables start as the text lays them (the texts X3, W1, W2, W3, W4). -/
import Derived.Test.YteaeloeebfdodaaGreatDoorZ26
import Derived.Test.YteaeloeebfdodaaGreatDoorZ08
import Derived.Test.YteaeloeebfdodaaGreatDoorZ01
import Derived.Test.YteaeloeebfdodaaGreatDoorZ22
import Derived.Test.YteaeloeebfdodaaGreatDoorZ06
set_option linter.unusedVariables false
set_option linter.unusedSimpArgs false
namespace Go.Proofs.YteaeloeebfdodaaGreatDoor
open Go.RowKit Go.Proofs.Rf
theorem v400_le {m n : Nat} (h : V400 (n : Int)) (hm : m ≤ n) : V400 (m : Int) := by
  unfold V400 at *
  rw [Int.natAbs_natCast] at *
  exact Nat.le_trans (Wh.decN_length_le (Wh.decN_length_pos n) (Nat.lt_of_le_of_lt hm (by have := Wh.numOf_lt (l := Wh.decN n) (Wh.decN_digits n); rwa [Wh.numOf_decN] at this))) h
theorem numB_take_le (b : Nat) (l : List UInt8) (hb : 1 ≤ b) : ∀ k, numB b (l.take k) ≤ numB b l := by
  intro k
  by_cases hk : l.length ≤ k
  · rw [List.take_of_length_le hk]; exact Nat.le_refl _
  · have : ∀ j, numB b (l.take k) ≤ numB b (l.take (k + j)) := by
      intro j
      induction j with
      | zero => exact Nat.le_refl _
      | succ j ih =>
        by_cases h : k + j < l.length
        · rw [show k + (j + 1) = (k + j) + 1 by omega, numB_take_succ b l (k + j) h]
          have := Nat.mul_le_mul_left (numB b (l.take (k + j))) hb
          omega
        · rw [List.take_of_length_le (show l.length ≤ k + (j + 1) by omega)]
          rwa [List.take_of_length_le (show l.length ≤ k + j by omega)] at ih
    have h2 := this (l.length - k)
    rw [show k + (l.length - k) = l.length by omega, List.take_length] at h2
    exact h2
def FBP (n b k c vc : Nat) (SB : ByteArray) : Nat → Value → World → Prop
  | 0, v, _ => v = .string (str (Wh.decI (n : Int)))
  | 1, v, _ => v = .int .i64 b
  | 2, v, _ => v = .string (str (Wh.decI (b : Int)))
  | 3, v, _ => v = .string (str (Wh.decI ((n : Int) * b)))
  | 4, v, _ => v = .string SB
  | 5, v, _ => v = .int .i64 k
  | 6, v, _ => v = .int .u8 c
  | 7, v, _ => v = .int .i64 vc
  | 8, v, _ => v = .string (str (Wh.decI (vc : Int)))
  | 9, v, _ => v = .string (str (Wh.decI ((n : Int) * b + vc)))
  | _, _, _ => True
theorem FBP_stays (n b k c vc : Nat) (SB : ByteArray) : ∀ i v w w', FBP n b k c vc SB i v w → Below w.heap.size w w' → FBP n b k c vc SB i v w' := by
  intro i v w w' h _
  match i, h with
  | 0, h | 1, h | 2, h | 3, h | 4, h | 5, h | 6, h | 7, h | 8, h | 9, h => exact h
  | _ + 10, h => trivial
set_option maxRecDepth 100000 in
set_option maxHeartbeats 4000000 in
theorem rFromBase_good (l : List UInt8) (b : Nat) (hb : 2 ≤ b ∧ b ≤ 36) (hlen : l.length ≤ 2000) (h : Form b l) (hv : V400 (numB b (behind l) : Int)) (z : Int) (hz : (if l.head? = some 45 then -1 else 1) * (numB b (behind l) : Int) = z) (w : World) :
    Calls Tryz.prog 47 #[.string (str l), .int .i64 b] w fun e w' => e = .returned (.tuple #[txt z, .int .i64 0]) ∧ Below w.heap.size w w' := by
  have g1 : decide ((b : Int) < 2) = false := by rw [decide_eq_false_iff_not]; omega
  have g2 : decide ((36 : Int) < (b : Int)) = false := by rw [decide_eq_false_iff_not]; omega
  have HA := Lib.hid (fun w => Abs_any l w)
  have HS : Hid ((str (behind l)).size = (behind l).length) := Lib.hid rfl
  have hbl : (behind l).length ≤ 2000 := by
    unfold behind
    split
    · rw [List.length_tail]; omega
    · exact hlen
  have hsz : (str (behind l)).size ≤ 2000 := hbl
  have hs0 : 0 < (str (behind l)).size := by rw [str_size]; exact List.length_pos_iff.2 h.ne
  have h0 : ((((str (behind l)).size : Nat) : Int) == 0) = false := by rw [beq_eq_false_iff_ne]; omega
  have hh : ((str (behind l)).size = 1) ∨ (1 < (str (behind l)).size ∧ ((((str (behind l))[0]'hs0).toNat : Int) == 48) = false) := by
    by_cases h1 : (str (behind l)).size = 1
    · exact .inl h1
    · right
      refine ⟨by omega, ?_⟩
      rw [beq_eq_false_iff_ne, str_get _ 0 hs0]
      intro e
      have e2 : (behind l).getD 0 0 = 48 := UInt8.toNat_inj.1 (show ((behind l).getD 0 0).toNat = 48 by omega)
      rcases h.lead with h2 | h2
      · apply h2
        cases hb : behind l with
        | nil => exact absurd hb h.ne
        | cons c r => rw [hb] at e2; simpa using e2
      · apply h1
        rw [HS.out, h2]; rfl
  have htl : ((str l).toList == [45, 48]) = false := by
    rw [Lib.toList_data, str_data, beq_eq_false_iff_ne]
    intro e
    rcases h.lead with h2 | h2
    · rw [e] at h2; exact h2 rfl
    · rw [e] at h2; cases h2
  have HZZ := Lib.hid hz; clear hz
  have HD := Lib.hid h.digs
  have HVN := Lib.hid hv
  have HNG := Lib.hid (fun w => Neg_any l w)
  have HOB := Lib.hid (fun w => OfInt_int (b : Int) (by omega) w)
  have HVB : Hid (V400 (b : Int)) := Lib.hid (show (Wh.decN ((b : Nat) : Int).natAbs).length ≤ 400 from Nat.le_trans (Wh.decN_length_le (k := 9) (by decide) (by have : (10 : Nat) ^ 9 = 1000000000 := rfl; omega)) (by decide))
  have HXX : Hid (∀ k (hk : k < (str (behind l)).size), (((str (behind l))[k]'hk).toNat : Int) = ((((behind l).getD k 0).toNat : Nat) : Int)) := Lib.hid (fun k hk => by rw [str_get _ k hk])
  clear h hv hbl h0
  generalize str (behind l) = SB at *
  generalize behind l = d at *
  generalize str l = S at *
  rcases hh with h1 | ⟨h1, h2⟩
  · have h0 : (((SB.size : Nat) : Int) == 0) = false := by rw [beq_eq_false_iff_ne]; omega
    have h3 : decide ((1 : Int) < (SB.size : Nat)) = false := by rw [h1]; rfl
    clear h1
    go_enter Tryz.func47, Tryz.ntmps47
    go_wp2_with fail
    refine (HA.out _).mono ?_
    rintro e w' ⟨rfl, rfl⟩
    go_wp2_with fail
    go_loopw [7] (fun iv wr => ∃ k : Nat, k ≤ SB.size ∧ iv = .int .i64 k ∧ wr = w) (fun iv _ => SB.size - (intOf iv).toNat)
    case atStart => exact ⟨0, Nat.zero_le _, rfl, rfl⟩
    case round =>
      obtain ⟨k0, hk0, rfl, rfl⟩ := hrel
      by_cases hlt0 : k0 < SB.size
      · have hd : decide ((k0 : Int) < (SB.size : Nat)) = true := by simpa using hlt0
        have hx := HXX.out k0 hlt0
        have hv : dval (d.getD k0 0).toNat < b := (HD.out.at (i := k0) (by have := HS.out; omega)).2
        generalize (d.getD k0 0).toNat = c at *
        have hq : decide (b ≤ vl c) = false := by rw [decide_eq_false_iff_not]; unfold vl; rw [if_pos (by omega)]; omega
        have HV := Lib.hid (value_any c)
        generalize vl c = vc at *
        go_wp2_with fail
        refine (HV.out _).mono ?_
        rintro e w' ⟨rfl, rfl⟩
        go_wp2_with fail
        exact ⟨⟨k0 + 1, by omega, by simp, trivial⟩, by simp [intOf]; omega⟩
      · have hd : decide ((k0 : Int) < (SB.size : Nat)) = false := by simpa using hlt0
        clear hk0
        generalize hW0 : wr = W0 at *
        have HW0 := Lib.hid hW0; clear hW0
        go_wp2_with fail
        generalize ((SB[0]'hs0).toNat : Int) = c00 at *
        go_loopw [8, 9] (fun nv iv w2 => ∃ k : Nat, k ≤ SB.size ∧ nv = txt (numB b (d.take k) : Int) ∧ iv = .int .i64 k ∧ Hid (Below W0.heap.size W0 w2)) (fun _ iv _ => SB.size - (intOf iv).toNat)
        case atStart => exact ⟨0, Nat.zero_le _, by unfold numB; exact txt_zero.symm, rfl, Lib.hid (Below.refl _ _)⟩
        case round =>
          obtain ⟨k, hk, rfl, rfl, HI⟩ := hrel
          by_cases hlt : k < SB.size
          · have hd2 : decide ((k : Int) < (SB.size : Nat)) = true := by simpa using hlt
            have hx := HXX.out k hlt
            have hvd : dval (d.getD k 0).toNat < b := (HD.out.at (i := k) (by have := HS.out; omega)).2
            have hsu := numB_take_succ b d k (by have := HS.out; omega)
            have hvl : vl (d.getD k 0).toNat = dval (d.getD k 0).toNat := by unfold vl; rw [if_pos (by omega)]
            rw [← hvl] at hsu hvd
            have hle := numB_take_le b d (by omega) (k + 1)
            have hsz4 : (str (Wh.decI ((numB b (d.take (k + 1)) : Nat) : Int))).size ≤ 400 := by
              have h4 : V400 ((numB b (d.take (k + 1)) : Nat) : Int) := v400_le HVN.out hle
              unfold V400 at h4
              rw [decI_size, if_neg (by omega)]
              omega
            have HZ := Lib.hid hsz4; clear hsz4
            generalize (d.getD k 0).toNat = c at *
            generalize hvc : vl c = vc at *
            have HV : Hid (∀ w, Calls Tryz.prog 130 #[.int .u8 c] w fun e w' => e = .returned (.int .i64 vc) ∧ w = w') := Lib.hid (by rw [← hvc]; exact value_any c)
            clear hvl hvc
            generalize hn : numB b (d.take k) = n at *
            have HNX : Hid (str (Wh.decI ((numB b (d.take (k + 1)) : Nat) : Int)) = str (Wh.decI ((n : Int) * b + vc))) := Lib.hid (by rw [hsu, Int.natCast_add, Int.natCast_mul])
            have HTM := Lib.hid (fun w => rTimes_any (n : Int) (b : Int) (v400_le HVN.out (by have := Nat.le_mul_of_pos_right n (show 0 < b by omega); omega)) HVB.out w)
            have HOV := Lib.hid (fun w => OfInt_int (vc : Int) (by omega) w)
            have HPL := Lib.hid (fun w => rPlus_any ((n : Int) * b) (vc : Int) (by rw [← Int.natCast_mul]; exact v400_le HVN.out (by omega)) (v400_le HVB.out (by omega)) w)
            clear hle hsu hn hvd
            unfold txt at *
            go_wp2_with fail
            refine wp_mono (Q := fun e a' W' => e = .normal ∧ (∃ (vals : Nat → Value), a' = { tmps := #[Value.string S, Value.int IntKind.i64 ↑b, undef, undef, u4, u5, Value.string SB, Value.int IntKind.i64 ↑k0, .string (str (Wh.decI ((n : Int) * b + vc))), Value.int IntKind.i64 ↑k, Value.int IntKind.i64 ↑b, Value.bool false, Value.bool false, Value.int IntKind.i64 ↑b, Value.bool false, Value.bool false, Value.string S, Value.string SB, Value.string SB, Value.int IntKind.i64 ↑SB.size, Value.bool false, Value.bool false, Value.string SB, Value.int IntKind.i64 ↑SB.size, Value.bool false, Value.bool false, undef, undef, undef, Value.bool false, Value.bool false, Value.bool false, Value.string S, Value.bool false, Value.bool false, Value.int IntKind.i64 ↑k0, Value.string SB, Value.int IntKind.i64 ↑SB.size, Value.bool false, u39, u40, u41, u42, u43, u44, u45, u46, Value.int IntKind.i64 ↑k, Value.string SB, Value.int IntKind.i64 ↑SB.size, Value.bool true, u51, u52, vals 0, vals 1, vals 2, vals 3, vals 4, vals 5, vals 6, vals 7, vals 8, vals 9, u63, u64, u65, undef, undef, undef, undef, undef], defers := [] }) ∧ Below wr.heap.size wr W') ?_ ?_
            refine Rt.wp_region_grow (n0 := 1) [10] [] 71 (fun vals => { tmps := #[Value.string S, Value.int IntKind.i64 ↑b, undef, undef, u4, u5, Value.string SB, Value.int IntKind.i64 ↑k0, Value.string (str (Wh.decI ↑n)), Value.int IntKind.i64 ↑k, Value.int IntKind.i64 ↑b, Value.bool false, Value.bool false, Value.int IntKind.i64 ↑b, Value.bool false, Value.bool false, Value.string S, Value.string SB, Value.string SB, Value.int IntKind.i64 ↑SB.size, Value.bool false, Value.bool false, Value.string SB, Value.int IntKind.i64 ↑SB.size, Value.bool false, Value.bool false, undef, undef, undef, Value.bool false, Value.bool false, Value.bool false, Value.string S, Value.bool false, Value.bool false, Value.int IntKind.i64 ↑k0, Value.string SB, Value.int IntKind.i64 ↑SB.size, Value.bool false, u39, u40, u41, u42, u43, u44, u45, u46, Value.int IntKind.i64 ↑k, Value.string SB, Value.int IntKind.i64 ↑SB.size, Value.bool true, u51, u52, vals 0, vals 1, vals 2, vals 3, vals 4, vals 5, vals 6, vals 7, vals 8, vals 9, u63, u64, u65, undef, undef, undef, undef, undef], defers := [] }) (FBP n b k c vc SB) (by kernel_rfl) (by kernel_rfl) (by kernel_rfl) (by kernel_rfl) (fun _ _ _ _ _ h => absurd h.1 (by simp)) (by kernel_rfl) rfl (fun _ => by kernel_rfl) (by kernel_rfl) (by kernel_rfl) (FBP_stays _ _ _ _ _ _) ?_ ?_ ?_
            · intro i o d hi hT hW hd vals w' hb hf
              have hlt' : i < 11 := (Array.getElem?_eq_some_iff.1 hi).1
              rcases i with _ | _ | _ | _ | _ | _ | _ | _ | _ | _ | _ | i
              · obtain rfl := Option.some.inj hi
                obtain rfl := Option.some.inj hd
                dsimp only
                go_simp
                exact ⟨rfl, Below.refl _ _⟩
              · obtain rfl := Option.some.inj hi
                obtain rfl := Option.some.inj hd
                dsimp only
                go_simp
                exact ⟨rfl, Below.refl _ _⟩
              · obtain rfl := Option.some.inj hi
                obtain rfl := Option.some.inj hd
                have e1 : vals 1 = _ := hf 1 (by kernel_rfl)
                dsimp only
                rw [e1]
                go_simp
                refine (HOB.out _).mono ?_
                rintro e w5 ⟨rfl, hb5⟩
                exact ⟨rfl, hb5⟩
              · obtain rfl := Option.some.inj hi
                obtain rfl := Option.some.inj hd
                have e0 : vals 0 = _ := hf 0 (by kernel_rfl)
                have e2 : vals 2 = _ := hf 2 (by kernel_rfl)
                dsimp only
                rw [e0, e2]
                go_simp
                refine (HTM.out _).mono ?_
                rintro e w5 ⟨rfl, hb5⟩
                exact ⟨rfl, hb5⟩
              · obtain rfl := Option.some.inj hi
                obtain rfl := Option.some.inj hd
                dsimp only
                go_simp
                exact ⟨rfl, Below.refl _ _⟩
              · obtain rfl := Option.some.inj hi
                obtain rfl := Option.some.inj hd
                dsimp only
                go_simp
                exact ⟨rfl, Below.refl _ _⟩
              · obtain rfl := Option.some.inj hi
                obtain rfl := Option.some.inj hd
                have e4 : vals 4 = _ := hf 4 (by kernel_rfl)
                have e5 : vals 5 = _ := hf 5 (by kernel_rfl)
                dsimp only
                rw [e4, e5]
                go_simp
                exact ⟨rfl, Below.refl _ _⟩
              · obtain rfl := Option.some.inj hi
                obtain rfl := Option.some.inj hd
                have e6 : vals 6 = _ := hf 6 (by kernel_rfl)
                dsimp only
                rw [e6]
                go_simp
                refine (HV.out _).mono ?_
                rintro e w5 ⟨rfl, hb5⟩
                exact ⟨rfl, by rw [hb5]; exact Below.refl _ _⟩
              · obtain rfl := Option.some.inj hi
                obtain rfl := Option.some.inj hd
                have e7 : vals 7 = _ := hf 7 (by kernel_rfl)
                dsimp only
                rw [e7]
                go_simp
                refine (HOV.out _).mono ?_
                rintro e w5 ⟨rfl, hb5⟩
                exact ⟨rfl, hb5⟩
              · obtain rfl := Option.some.inj hi
                obtain rfl := Option.some.inj hd
                have e3 : vals 3 = _ := hf 3 (by kernel_rfl)
                have e8 : vals 8 = _ := hf 8 (by kernel_rfl)
                dsimp only
                rw [e3, e8]
                go_simp
                refine (HPL.out _).mono ?_
                rintro e w5 ⟨rfl, hb5⟩
                exact ⟨rfl, hb5⟩
              · cases hT
              · omega
            · intro p o d hi hW hd vals w' hb hf
              cases hW
            · intro vals w' hb hf
              have e9 : vals 9 = .string (str (Wh.decI ((n : Int) * b + vc))) := hf 9 (by decide) rfl
              clear hf
              rw [e9]
              refine Rt.wpAny_step (i := 10) (by kernel_rfl) rfl (by rfl) (fun K hK => ?_)
              have HK := Lib.hid hK; clear hK
              go_simp
              refine HK.out _ _ ?_
              exact Rt.wpAny_end (by kernel_rfl) ⟨rfl, ⟨vals, by rw [e9]⟩, hb⟩
            rintro e a' W5 ⟨rfl, ⟨vals, rfl⟩, hb5⟩
            have HI5 := Lib.hid (HI.out.trans (hb5.mono HI.out.size))
            clear hb5 HOB HTM HV HOV HPL HI
            rw [← HNX.out]
            have hs4 := HZ.out
            clear HNX
            generalize vals 0 = v0; generalize vals 1 = v1; generalize vals 2 = v2; generalize vals 3 = v3; generalize vals 4 = v4; generalize vals 5 = v5; generalize vals 6 = v6; generalize vals 7 = v7; generalize vals 8 = v8; generalize vals 9 = v9
            generalize hTN : str (Wh.decI ((numB b (d.take (k + 1)) : Nat) : Int)) = TN at *
            have HTN := Lib.hid hTN; clear hTN
            have hgt : decide ((400 : Int) < (TN.size : Nat)) = false := by rw [decide_eq_false_iff_not]; omega
            go_wp2_with fail
            first
              | exact ⟨⟨k + 1, by omega, by rw [HTN.out], by simp, HI5⟩, by simp [intOf]; omega⟩
              | trace_state; go_roundw
                case rel => exact ⟨k + 1, by omega, by rw [HTN.out], by simp, HI5⟩
                case measure => simp [intOf]; omega
          · obtain rfl : k = SB.size := by omega
            have hd2 : decide ((SB.size : Int) < (SB.size : Nat)) = false := by rw [decide_eq_false_iff_not]; omega
            rw [List.take_of_length_le (show d.length ≤ SB.size by have := HS.out; omega)]
            obtain ⟨m, hm⟩ : ∃ m : Int, (numB b d : Int) = m := ⟨_, rfl⟩
            have HNEG := Lib.hid (fun w => rNegated_any m (by rw [← hm]; exact HVN.out) w)
            rw [hm]
            have HM := Lib.hid hm; clear hm
            by_cases h45 : l.head? = some 45
            · rw [decide_eq_true h45] at HNG
              obtain rfl : z = -m := by have := HZZ.out; rw [if_pos h45, HM.out] at this; omega
              unfold txt at *
              go_wp2_with fail
              refine (HNG.out _).mono ?_
              rintro e w' ⟨rfl, rfl⟩
              go_wp2_with fail
              refine (HNEG.out _).mono ?_
              rintro e w3 ⟨rfl, hb⟩
              go_wp2_with fail
              go_ret2
              have hW0 := HW0.out
              subst hW0
              exact ⟨rfl, HI.out.trans (hb.mono HI.out.size)⟩
            · rw [decide_eq_false h45] at HNG
              obtain rfl : z = m := by have := HZZ.out; rw [if_neg h45, HM.out] at this; omega
              unfold txt at *
              go_wp2_with fail
              refine (HNG.out _).mono ?_
              rintro e w' ⟨rfl, rfl⟩
              go_wp2_with fail
              go_ret2
              have hW0 := HW0.out
              subst hW0
              exact ⟨rfl, HI.out⟩
  · have h0 : (((SB.size : Nat) : Int) == 0) = false := by rw [beq_eq_false_iff_ne]; omega
    have h3 : decide ((1 : Int) < (SB.size : Nat)) = true := by rw [decide_eq_true_iff]; omega
    go_enter Tryz.func47, Tryz.ntmps47
    go_wp2_with fail
    refine (HA.out _).mono ?_
    rintro e w' ⟨rfl, rfl⟩
    go_wp2_with fail
    go_loopw [7] (fun iv wr => ∃ k : Nat, k ≤ SB.size ∧ iv = .int .i64 k ∧ wr = w) (fun iv _ => SB.size - (intOf iv).toNat)
    case atStart => exact ⟨0, Nat.zero_le _, rfl, rfl⟩
    case round =>
      obtain ⟨k0, hk0, rfl, rfl⟩ := hrel
      by_cases hlt0 : k0 < SB.size
      · have hd : decide ((k0 : Int) < (SB.size : Nat)) = true := by simpa using hlt0
        have hx := HXX.out k0 hlt0
        have hv : dval (d.getD k0 0).toNat < b := (HD.out.at (i := k0) (by have := HS.out; omega)).2
        generalize (d.getD k0 0).toNat = c at *
        have hq : decide (b ≤ vl c) = false := by rw [decide_eq_false_iff_not]; unfold vl; rw [if_pos (by omega)]; omega
        have HV := Lib.hid (value_any c)
        generalize vl c = vc at *
        go_wp2_with fail
        refine (HV.out _).mono ?_
        rintro e w' ⟨rfl, rfl⟩
        go_wp2_with fail
        exact ⟨⟨k0 + 1, by omega, by simp, trivial⟩, by simp [intOf]; omega⟩
      · have hd : decide ((k0 : Int) < (SB.size : Nat)) = false := by simpa using hlt0
        clear hk0
        generalize hW0 : wr = W0 at *
        have HW0 := Lib.hid hW0; clear hW0
        go_wp2_with fail
        generalize ((SB[0]'hs0).toNat : Int) = c00 at *
        go_loopw [8, 9] (fun nv iv w2 => ∃ k : Nat, k ≤ SB.size ∧ nv = txt (numB b (d.take k) : Int) ∧ iv = .int .i64 k ∧ Hid (Below W0.heap.size W0 w2)) (fun _ iv _ => SB.size - (intOf iv).toNat)
        case atStart => exact ⟨0, Nat.zero_le _, by unfold numB; exact txt_zero.symm, rfl, Lib.hid (Below.refl _ _)⟩
        case round =>
          obtain ⟨k, hk, rfl, rfl, HI⟩ := hrel
          by_cases hlt : k < SB.size
          · have hd2 : decide ((k : Int) < (SB.size : Nat)) = true := by simpa using hlt
            have hx := HXX.out k hlt
            have hvd : dval (d.getD k 0).toNat < b := (HD.out.at (i := k) (by have := HS.out; omega)).2
            have hsu := numB_take_succ b d k (by have := HS.out; omega)
            have hvl : vl (d.getD k 0).toNat = dval (d.getD k 0).toNat := by unfold vl; rw [if_pos (by omega)]
            rw [← hvl] at hsu hvd
            have hle := numB_take_le b d (by omega) (k + 1)
            have hsz4 : (str (Wh.decI ((numB b (d.take (k + 1)) : Nat) : Int))).size ≤ 400 := by
              have h4 : V400 ((numB b (d.take (k + 1)) : Nat) : Int) := v400_le HVN.out hle
              unfold V400 at h4
              rw [decI_size, if_neg (by omega)]
              omega
            have HZ := Lib.hid hsz4; clear hsz4
            generalize (d.getD k 0).toNat = c at *
            generalize hvc : vl c = vc at *
            have HV : Hid (∀ w, Calls Tryz.prog 130 #[.int .u8 c] w fun e w' => e = .returned (.int .i64 vc) ∧ w = w') := Lib.hid (by rw [← hvc]; exact value_any c)
            clear hvl hvc
            generalize hn : numB b (d.take k) = n at *
            have HNX : Hid (str (Wh.decI ((numB b (d.take (k + 1)) : Nat) : Int)) = str (Wh.decI ((n : Int) * b + vc))) := Lib.hid (by rw [hsu, Int.natCast_add, Int.natCast_mul])
            have HTM := Lib.hid (fun w => rTimes_any (n : Int) (b : Int) (v400_le HVN.out (by have := Nat.le_mul_of_pos_right n (show 0 < b by omega); omega)) HVB.out w)
            have HOV := Lib.hid (fun w => OfInt_int (vc : Int) (by omega) w)
            have HPL := Lib.hid (fun w => rPlus_any ((n : Int) * b) (vc : Int) (by rw [← Int.natCast_mul]; exact v400_le HVN.out (by omega)) (v400_le HVB.out (by omega)) w)
            clear hle hsu hn hvd
            unfold txt at *
            go_wp2_with fail
            refine wp_mono (Q := fun e a' W' => e = .normal ∧ (∃ (vals : Nat → Value), a' = { tmps := #[Value.string S, Value.int IntKind.i64 ↑b, undef, undef, u4, u5, Value.string SB, Value.int IntKind.i64 ↑k0, .string (str (Wh.decI ((n : Int) * b + vc))), Value.int IntKind.i64 ↑k, Value.int IntKind.i64 ↑b, Value.bool false, Value.bool false, Value.int IntKind.i64 ↑b, Value.bool false, Value.bool false, Value.string S, Value.string SB, Value.string SB, Value.int IntKind.i64 ↑SB.size, Value.bool false, Value.bool false, Value.string SB, Value.int IntKind.i64 ↑SB.size, Value.bool true, Value.bool true, Value.string SB, Value.int IntKind.u8 c00, Value.bool false, Value.bool false, Value.bool false, Value.bool false, Value.string S, Value.bool false, Value.bool false, Value.int IntKind.i64 ↑k0, Value.string SB, Value.int IntKind.i64 ↑SB.size, Value.bool false, u39, u40, u41, u42, u43, u44, u45, u46, Value.int IntKind.i64 ↑k, Value.string SB, Value.int IntKind.i64 ↑SB.size, Value.bool true, u51, u52, vals 0, vals 1, vals 2, vals 3, vals 4, vals 5, vals 6, vals 7, vals 8, vals 9, u63, u64, u65, undef, undef, undef, undef, undef], defers := [] }) ∧ Below wr.heap.size wr W') ?_ ?_
            refine Rt.wp_region_grow (n0 := 1) [10] [] 71 (fun vals => { tmps := #[Value.string S, Value.int IntKind.i64 ↑b, undef, undef, u4, u5, Value.string SB, Value.int IntKind.i64 ↑k0, Value.string (str (Wh.decI ↑n)), Value.int IntKind.i64 ↑k, Value.int IntKind.i64 ↑b, Value.bool false, Value.bool false, Value.int IntKind.i64 ↑b, Value.bool false, Value.bool false, Value.string S, Value.string SB, Value.string SB, Value.int IntKind.i64 ↑SB.size, Value.bool false, Value.bool false, Value.string SB, Value.int IntKind.i64 ↑SB.size, Value.bool true, Value.bool true, Value.string SB, Value.int IntKind.u8 c00, Value.bool false, Value.bool false, Value.bool false, Value.bool false, Value.string S, Value.bool false, Value.bool false, Value.int IntKind.i64 ↑k0, Value.string SB, Value.int IntKind.i64 ↑SB.size, Value.bool false, u39, u40, u41, u42, u43, u44, u45, u46, Value.int IntKind.i64 ↑k, Value.string SB, Value.int IntKind.i64 ↑SB.size, Value.bool true, u51, u52, vals 0, vals 1, vals 2, vals 3, vals 4, vals 5, vals 6, vals 7, vals 8, vals 9, u63, u64, u65, undef, undef, undef, undef, undef], defers := [] }) (FBP n b k c vc SB) (by kernel_rfl) (by kernel_rfl) (by kernel_rfl) (by kernel_rfl) (fun _ _ _ _ _ h => absurd h.1 (by simp)) (by kernel_rfl) rfl (fun _ => by kernel_rfl) (by kernel_rfl) (by kernel_rfl) (FBP_stays _ _ _ _ _ _) ?_ ?_ ?_
            · intro i o d hi hT hW hd vals w' hb hf
              have hlt' : i < 11 := (Array.getElem?_eq_some_iff.1 hi).1
              rcases i with _ | _ | _ | _ | _ | _ | _ | _ | _ | _ | _ | i
              · obtain rfl := Option.some.inj hi
                obtain rfl := Option.some.inj hd
                dsimp only
                go_simp
                exact ⟨rfl, Below.refl _ _⟩
              · obtain rfl := Option.some.inj hi
                obtain rfl := Option.some.inj hd
                dsimp only
                go_simp
                exact ⟨rfl, Below.refl _ _⟩
              · obtain rfl := Option.some.inj hi
                obtain rfl := Option.some.inj hd
                have e1 : vals 1 = _ := hf 1 (by kernel_rfl)
                dsimp only
                rw [e1]
                go_simp
                refine (HOB.out _).mono ?_
                rintro e w5 ⟨rfl, hb5⟩
                exact ⟨rfl, hb5⟩
              · obtain rfl := Option.some.inj hi
                obtain rfl := Option.some.inj hd
                have e0 : vals 0 = _ := hf 0 (by kernel_rfl)
                have e2 : vals 2 = _ := hf 2 (by kernel_rfl)
                dsimp only
                rw [e0, e2]
                go_simp
                refine (HTM.out _).mono ?_
                rintro e w5 ⟨rfl, hb5⟩
                exact ⟨rfl, hb5⟩
              · obtain rfl := Option.some.inj hi
                obtain rfl := Option.some.inj hd
                dsimp only
                go_simp
                exact ⟨rfl, Below.refl _ _⟩
              · obtain rfl := Option.some.inj hi
                obtain rfl := Option.some.inj hd
                dsimp only
                go_simp
                exact ⟨rfl, Below.refl _ _⟩
              · obtain rfl := Option.some.inj hi
                obtain rfl := Option.some.inj hd
                have e4 : vals 4 = _ := hf 4 (by kernel_rfl)
                have e5 : vals 5 = _ := hf 5 (by kernel_rfl)
                dsimp only
                rw [e4, e5]
                go_simp
                exact ⟨rfl, Below.refl _ _⟩
              · obtain rfl := Option.some.inj hi
                obtain rfl := Option.some.inj hd
                have e6 : vals 6 = _ := hf 6 (by kernel_rfl)
                dsimp only
                rw [e6]
                go_simp
                refine (HV.out _).mono ?_
                rintro e w5 ⟨rfl, hb5⟩
                exact ⟨rfl, by rw [hb5]; exact Below.refl _ _⟩
              · obtain rfl := Option.some.inj hi
                obtain rfl := Option.some.inj hd
                have e7 : vals 7 = _ := hf 7 (by kernel_rfl)
                dsimp only
                rw [e7]
                go_simp
                refine (HOV.out _).mono ?_
                rintro e w5 ⟨rfl, hb5⟩
                exact ⟨rfl, hb5⟩
              · obtain rfl := Option.some.inj hi
                obtain rfl := Option.some.inj hd
                have e3 : vals 3 = _ := hf 3 (by kernel_rfl)
                have e8 : vals 8 = _ := hf 8 (by kernel_rfl)
                dsimp only
                rw [e3, e8]
                go_simp
                refine (HPL.out _).mono ?_
                rintro e w5 ⟨rfl, hb5⟩
                exact ⟨rfl, hb5⟩
              · cases hT
              · omega
            · intro p o d hi hW hd vals w' hb hf
              cases hW
            · intro vals w' hb hf
              have e9 : vals 9 = .string (str (Wh.decI ((n : Int) * b + vc))) := hf 9 (by decide) rfl
              clear hf
              rw [e9]
              refine Rt.wpAny_step (i := 10) (by kernel_rfl) rfl (by rfl) (fun K hK => ?_)
              have HK := Lib.hid hK; clear hK
              go_simp
              refine HK.out _ _ ?_
              exact Rt.wpAny_end (by kernel_rfl) ⟨rfl, ⟨vals, by rw [e9]⟩, hb⟩
            rintro e a' W5 ⟨rfl, ⟨vals, rfl⟩, hb5⟩
            have HI5 := Lib.hid (HI.out.trans (hb5.mono HI.out.size))
            clear hb5 HOB HTM HV HOV HPL HI
            rw [← HNX.out]
            have hs4 := HZ.out
            clear HNX
            generalize vals 0 = v0; generalize vals 1 = v1; generalize vals 2 = v2; generalize vals 3 = v3; generalize vals 4 = v4; generalize vals 5 = v5; generalize vals 6 = v6; generalize vals 7 = v7; generalize vals 8 = v8; generalize vals 9 = v9
            generalize hTN : str (Wh.decI ((numB b (d.take (k + 1)) : Nat) : Int)) = TN at *
            have HTN := Lib.hid hTN; clear hTN
            have hgt : decide ((400 : Int) < (TN.size : Nat)) = false := by rw [decide_eq_false_iff_not]; omega
            go_wp2_with fail
            first
              | exact ⟨⟨k + 1, by omega, by rw [HTN.out], by simp, HI5⟩, by simp [intOf]; omega⟩
              | trace_state; go_roundw
                case rel => exact ⟨k + 1, by omega, by rw [HTN.out], by simp, HI5⟩
                case measure => simp [intOf]; omega
          · obtain rfl : k = SB.size := by omega
            have hd2 : decide ((SB.size : Int) < (SB.size : Nat)) = false := by rw [decide_eq_false_iff_not]; omega
            rw [List.take_of_length_le (show d.length ≤ SB.size by have := HS.out; omega)]
            obtain ⟨m, hm⟩ : ∃ m : Int, (numB b d : Int) = m := ⟨_, rfl⟩
            have HNEG := Lib.hid (fun w => rNegated_any m (by rw [← hm]; exact HVN.out) w)
            rw [hm]
            have HM := Lib.hid hm; clear hm
            by_cases h45 : l.head? = some 45
            · rw [decide_eq_true h45] at HNG
              obtain rfl : z = -m := by have := HZZ.out; rw [if_pos h45, HM.out] at this; omega
              unfold txt at *
              go_wp2_with fail
              refine (HNG.out _).mono ?_
              rintro e w' ⟨rfl, rfl⟩
              go_wp2_with fail
              refine (HNEG.out _).mono ?_
              rintro e w3 ⟨rfl, hb⟩
              go_wp2_with fail
              go_ret2
              have hW0 := HW0.out
              subst hW0
              exact ⟨rfl, HI.out.trans (hb.mono HI.out.size)⟩
            · rw [decide_eq_false h45] at HNG
              obtain rfl : z = m := by have := HZZ.out; rw [if_neg h45, HM.out] at this; omega
              unfold txt at *
              go_wp2_with fail
              refine (HNG.out _).mono ?_
              rintro e w' ⟨rfl, rfl⟩
              go_wp2_with fail
              go_ret2
              have hW0 := HW0.out
              subst hW0
              exact ⟨rfl, HI.out⟩
end Go.Proofs.YteaeloeebfdodaaGreatDoor

namespace Wh
theorem getD_set_ne (l : List Nat) {i j : Nat} (v : Nat) (h : i ≠ j) : (l.set i v).getD j 0 = l.getD j 0 := by
  simp [List.getD, List.getElem?_set_ne h]
theorem getD_set_eq (l : List Nat) {i : Nat} (v : Nat) (h : i < l.length) : (l.set i v).getD i 0 = v := by
  simp [List.getD, h]
theorem getD_replicate0 (n j : Nat) : (List.replicate n 0).getD j 0 = 0 := by
  rw [List.getD_eq_getElem?_getD, List.getElem?_replicate]
  split <;> rfl
def win (L : List Nat) (p n : Nat) : Nat := sum (fun j => L.getD (p + j) 0) n
theorem win_succ (L : List Nat) (p n : Nat) : win L p (n + 1) = win L p n + R ^ n * L.getD (p + n) 0 := rfl
theorem win_congr {L M : List Nat} {p n : Nat} (h : ∀ j, p ≤ j → j < p + n → L.getD j 0 = M.getD j 0) : win L p n = win M p n :=
  sum_congr fun i hi => h (p + i) (by omega) (by omega)
theorem okD {l : List Nat} (h : Ok l) (i : Nat) : l.getD i 0 < R := by
  rw [List.getD_eq_getElem?_getD]
  cases e : l[i]? with
  | none => simp [R]
  | some x => exact h x (List.mem_of_getElem? e)
theorem win_low (L : List Nat) (p n : Nat) : win L p (n + 1) = L.getD p 0 + R * win L (p + 1) n := by
  induction n with
  | zero => simp [win, sum]
  | succ n ih =>
    rw [win_succ, ih, win_succ, Nat.mul_add, Nat.add_assoc]
    congr 2
    rw [← Nat.mul_assoc, Nat.pow_succ, Nat.mul_comm (R ^ n) R, show p + (n + 1) = p + 1 + n by omega]
theorem win_all (L : List Nat) : win L 0 L.length = val L := by
  rw [val_sum]
  exact sum_congr fun i _ => by rw [Nat.zero_add]
theorem win_drop (L : List Nat) (p : Nat) : win L p (L.length - p) = val (L.drop p) := by
  rw [val_sum, List.length_drop]
  exact sum_congr fun i _ => by simp [List.getD, List.getElem?_drop]
theorem win_zero {L : List Nat} {p : Nat} (n k : Nat) (h : ∀ j, p + n ≤ j → L.getD j 0 = 0) : win L p (n + k) = win L p n := by
  induction k with
  | zero => rfl
  | succ k ih => rw [← Nat.add_assoc, win_succ, ih, h (p + (n + k)) (by omega), Nat.mul_zero, Nat.add_zero]
structure TK (lr d : List Nat) (p q i : Nat) (L : List Nat) (on bor : Nat) : Prop where
  len : L.length = lr.length
  ok : Ok L
  on1 : on < R
  b1 : bor ≤ 1
  out : ∀ j, j < p ∨ p + i ≤ j → L.getD j 0 = lr.getD j 0
  eq : win L p i + q * sum (d.getD · 0) i = win lr p i + R ^ i * (on + bor)
theorem TK.start {lr : List Nat} (h : Ok lr) (d : List Nat) (p q : Nat) : TK lr d p q 0 lr 0 0 :=
  ⟨rfl, h, R_pos, by omega, fun _ _ => rfl, by simp [win, sum]⟩
theorem mul_carry {x q on : Nat} (hx : x < R) (hq : q < R) (ho : on < R) : (x * q + on) / R < R := by
  have : x * q ≤ (R - 1) * (R - 1) := Nat.mul_le_mul (by omega) (by omega)
  have e : (R - 1) * (R - 1) + (R - 1) < R * R := by decide
  rw [Nat.div_lt_iff_lt_mul R_pos]
  omega
theorem TK.next {lr d : List Nat} {p q i : Nat} {L : List Nat} {on bor : Nat} (h : TK lr d p q i L on bor) (hd : Ok d) (hq : q < R) (hi : p + i < lr.length) :
    TK lr d p q (i + 1) (L.set (p + i) (minusN (L.getD (p + i) 0) ((d.getD i 0 * q + on) % R) bor).1) ((d.getD i 0 * q + on) / R) (minusN (L.getD (p + i) 0) ((d.getD i 0 * q + on) % R) bor).2 := by
  have h1 := okD hd i
  have h2 := okD h.ok (p + i)
  have h3 := minus_step h2 (Nat.mod_lt (d.getD i 0 * q + on) R_pos) h.b1
  have hl : p + i < L.length := by rw [h.len]; exact hi
  have ho := h.out (p + i) (.inr (Nat.le_refl _))
  generalize (minusN (L.getD (p + i) 0) ((d.getD i 0 * q + on) % R) bor).1 = x at *
  generalize (minusN (L.getD (p + i) 0) ((d.getD i 0 * q + on) % R) bor).2 = b' at *
  refine ⟨by rw [List.length_set]; exact h.len, ok_set h.ok h3.1, mul_carry h1 hq h.on1, h3.2.1, fun j hj => by rw [getD_set_ne _ _ (by omega)]; exact h.out j (by omega), ?_⟩
  have e1 : win (L.set (p + i) x) p i = win L p i := win_congr fun j _ h5 => getD_set_ne _ _ (by omega)
  rw [win_succ, e1, getD_set_eq _ _ hl, win_succ, sum, ← ho, Nat.mul_add]
  have h4 := h.eq
  have h5 := Nat.mod_add_div (d.getD i 0 * q + on) R
  have h6 : R ^ (i + 1) * ((d.getD i 0 * q + on) / R + b') = R ^ i * (R * ((d.getD i 0 * q + on) / R)) + R ^ i * (R * b') := by
    rw [Nat.pow_succ, Nat.mul_assoc, Nat.mul_add, Nat.mul_add]
  have h7 : q * (R ^ i * d.getD i 0) = R ^ i * (d.getD i 0 * q) := by rw [Nat.mul_left_comm, Nat.mul_comm q]
  rw [h6, h7]
  have h8 : R ^ i * x + R ^ i * ((d.getD i 0 * q + on) % R) + R ^ i * bor = R ^ i * L.getD (p + i) 0 + R ^ i * (R * b') := by rw [← Nat.mul_add, ← Nat.mul_add, h3.2.2, Nat.mul_add]
  have h9 : R ^ i * ((d.getD i 0 * q + on) % R) + R ^ i * (R * ((d.getD i 0 * q + on) / R)) = R ^ i * (d.getD i 0 * q) + R ^ i * on := by rw [← Nat.mul_add, h5, Nat.mul_add]
  rw [Nat.mul_add] at h4
  omega
structure TE (lr : List Nat) (p m : Nat) (L : List Nat) : Prop where
  len : L.length = lr.length
  ok : Ok L
  out : ∀ j, j < p ∨ p + m < j → L.getD j 0 = lr.getD j 0
theorem TK.fin {lr d : List Nat} {p q : Nat} {L : List Nat} {on bor : Nat} (h : TK lr d p q d.length L on bor) (hi : p + d.length < lr.length) :
    TE lr p d.length (L.set (p + d.length) (minusN (L.getD (p + d.length) 0) on bor).1) ∧ (minusN (L.getD (p + d.length) 0) on bor).2 ≤ 1 ∧
    win (L.set (p + d.length) (minusN (L.getD (p + d.length) 0) on bor).1) p (d.length + 1) + q * val d = win lr p (d.length + 1) + R ^ (d.length + 1) * (minusN (L.getD (p + d.length) 0) on bor).2 := by
  have h2 := okD h.ok (p + d.length)
  have h3 := minus_step h2 h.on1 h.b1
  have hl : p + d.length < L.length := by rw [h.len]; exact hi
  have ho := h.out (p + d.length) (.inr (Nat.le_refl _))
  generalize (minusN (L.getD (p + d.length) 0) on bor).1 = x at *
  generalize (minusN (L.getD (p + d.length) 0) on bor).2 = b' at *
  refine ⟨⟨by rw [List.length_set]; exact h.len, ok_set h.ok h3.1, fun j hj => by rw [getD_set_ne _ _ (by omega)]; exact h.out j (by omega)⟩, h3.2.1, ?_⟩
  have e1 : win (L.set (p + d.length) x) p d.length = win L p d.length := win_congr fun j _ h5 => getD_set_ne _ _ (by omega)
  rw [win_succ, e1, getD_set_eq _ _ hl, win_succ, ← ho, val_sum, Nat.pow_succ, Nat.mul_assoc]
  have h4 := h.eq
  have h8 : R ^ d.length * x + R ^ d.length * on + R ^ d.length * bor = R ^ d.length * L.getD (p + d.length) 0 + R ^ d.length * (R * b') := by rw [← Nat.mul_add, ← Nat.mul_add, h3.2.2, Nat.mul_add]
  rw [Nat.mul_add] at h4
  omega
structure GK (lr d : List Nat) (p q i : Nat) (L : List Nat) (on car : Nat) : Prop where
  len : L.length = lr.length
  ok : Ok L
  on1 : on < R
  b1 : car ≤ 1
  out : ∀ j, j < p ∨ p + i ≤ j → L.getD j 0 = lr.getD j 0
  eq : win L p i + R ^ i * (on + car) = win lr p i + q * sum (d.getD · 0) i
theorem GK.start {lr : List Nat} (h : Ok lr) (d : List Nat) (p q : Nat) : GK lr d p q 0 lr 0 0 :=
  ⟨rfl, h, R_pos, by omega, fun _ _ => rfl, by simp [win, sum]⟩
theorem GK.next {lr d : List Nat} {p q i : Nat} {L : List Nat} {on car : Nat} (h : GK lr d p q i L on car) (hd : Ok d) (hq : q < R) (hi : p + i < lr.length) :
    GK lr d p q (i + 1) (L.set (p + i) (plusN (L.getD (p + i) 0) ((d.getD i 0 * q + on) % R) car).1) ((d.getD i 0 * q + on) / R) (plusN (L.getD (p + i) 0) ((d.getD i 0 * q + on) % R) car).2 := by
  have h1 := okD hd i
  have h2 := okD h.ok (p + i)
  have h3 := plus_step h2 (Nat.mod_lt (d.getD i 0 * q + on) R_pos) h.b1
  have hl : p + i < L.length := by rw [h.len]; exact hi
  have ho := h.out (p + i) (.inr (Nat.le_refl _))
  generalize (plusN (L.getD (p + i) 0) ((d.getD i 0 * q + on) % R) car).1 = x at *
  generalize (plusN (L.getD (p + i) 0) ((d.getD i 0 * q + on) % R) car).2 = b' at *
  refine ⟨by rw [List.length_set]; exact h.len, ok_set h.ok h3.1, mul_carry h1 hq h.on1, h3.2.1, fun j hj => by rw [getD_set_ne _ _ (by omega)]; exact h.out j (by omega), ?_⟩
  have e1 : win (L.set (p + i) x) p i = win L p i := win_congr fun j _ h5 => getD_set_ne _ _ (by omega)
  rw [win_succ, e1, getD_set_eq _ _ hl, win_succ, sum, ← ho, Nat.mul_add q]
  have h4 := h.eq
  have h5 := Nat.mod_add_div (d.getD i 0 * q + on) R
  have h6 : R ^ (i + 1) * ((d.getD i 0 * q + on) / R + b') = R ^ i * (R * ((d.getD i 0 * q + on) / R)) + R ^ i * (R * b') := by
    rw [Nat.pow_succ, Nat.mul_assoc, Nat.mul_add, Nat.mul_add]
  have h7 : q * (R ^ i * d.getD i 0) = R ^ i * (d.getD i 0 * q) := by rw [Nat.mul_left_comm, Nat.mul_comm q]
  rw [h6, h7]
  have h8 : R ^ i * x + R ^ i * (R * b') = R ^ i * L.getD (p + i) 0 + R ^ i * ((d.getD i 0 * q + on) % R) + R ^ i * car := by rw [← Nat.mul_add, h3.2.2, Nat.mul_add, Nat.mul_add]
  have h9 : R ^ i * ((d.getD i 0 * q + on) % R) + R ^ i * (R * ((d.getD i 0 * q + on) / R)) = R ^ i * (d.getD i 0 * q) + R ^ i * on := by rw [← Nat.mul_add, h5, Nat.mul_add]
  rw [Nat.mul_add] at h4
  omega
theorem GK.fin {lr d : List Nat} {p q : Nat} {L : List Nat} {on car : Nat} (h : GK lr d p q d.length L on car) (hi : p + d.length < lr.length) :
    TE lr p d.length (L.set (p + d.length) (plusN (L.getD (p + d.length) 0) on car).1) ∧ (plusN (L.getD (p + d.length) 0) on car).2 ≤ 1 ∧
    win (L.set (p + d.length) (plusN (L.getD (p + d.length) 0) on car).1) p (d.length + 1) + R ^ (d.length + 1) * (plusN (L.getD (p + d.length) 0) on car).2 = win lr p (d.length + 1) + q * val d := by
  have h2 := okD h.ok (p + d.length)
  have h3 := plus_step h2 h.on1 h.b1
  have hl : p + d.length < L.length := by rw [h.len]; exact hi
  have ho := h.out (p + d.length) (.inr (Nat.le_refl _))
  generalize (plusN (L.getD (p + d.length) 0) on car).1 = x at *
  generalize (plusN (L.getD (p + d.length) 0) on car).2 = b' at *
  refine ⟨⟨by rw [List.length_set]; exact h.len, ok_set h.ok h3.1, fun j hj => by rw [getD_set_ne _ _ (by omega)]; exact h.out j (by omega)⟩, h3.2.1, ?_⟩
  have e1 : win (L.set (p + d.length) x) p d.length = win L p d.length := win_congr fun j _ h5 => getD_set_ne _ _ (by omega)
  rw [win_succ, e1, getD_set_eq _ _ hl, win_succ, ← ho, val_sum, Nat.pow_succ, Nat.mul_assoc]
  have h4 := h.eq
  have h8 : R ^ d.length * x + R ^ d.length * (R * b') = R ^ d.length * L.getD (p + d.length) 0 + R ^ d.length * on + R ^ d.length * car := by rw [← Nat.mul_add, h3.2.2, Nat.mul_add, Nat.mul_add]
  rw [Nat.mul_add] at h4
  omega
theorem TE.trans {lr L M : List Nat} {p m : Nat} (h : TE lr p m L) (k : TE L p m M) : TE lr p m M :=
  ⟨k.len.trans h.len, k.ok, fun j hj => (k.out j hj).trans (h.out j hj)⟩
structure TkEq (lr L : List Nat) (p m q D b : Nat) : Prop where
  eq : win L p (m + 1) + q * D = win lr p (m + 1) + R ^ (m + 1) * b
structure GvEq (lr L : List Nat) (p m q D b : Nat) : Prop where
  eq : win L p (m + 1) + R ^ (m + 1) * b = win lr p (m + 1) + q * D
theorem TkEq.zero {lr L : List Nat} {p m q D : Nat} (h : TkEq lr L p m q D 0) : win L p (m + 1) + q * D = win lr p (m + 1) := by
  have := h.eq
  rwa [Nat.mul_zero, Nat.add_zero] at this
theorem take_right {x w q D : Nat} (h1 : x + q * D = w) (hq : w / D ≤ q) (hD : 0 < D) : q = w / D ∧ x = w % D := by
  have h2 : q ≤ w / D := (Nat.le_div_iff_mul_le hD).2 (by omega)
  have h3 : q = w / D := by omega
  have := Nat.div_add_mod w D
  rw [Nat.mul_comm, ← h3] at this
  exact ⟨h3, by omega⟩
structure DV (A0 : List Nat) (m D p : Nat) (L Q : List Nat) : Prop where
  len : L.length = A0.length
  ok : Ok L
  qlen : Q.length + m = A0.length
  qok : Ok Q
  qlow : ∀ j, j < p → Q.getD j 0 = 0
  low : ∀ j, j < p → L.getD j 0 = A0.getD j 0
  high : ∀ j, p + m ≤ j → L.getD j 0 = 0
  lt : win L p m < D
  eq : val (A0.drop p) = val (Q.drop p) * D + win L p m
theorem DV.start {A0 : List Nat} {m D : Nat} (hA : Ok A0) (hm : m ≤ A0.length) (hlt : win A0 (A0.length - m) m < D) : DV A0 m D (A0.length - m) A0 (List.replicate (A0.length - m) 0) := by
  refine ⟨rfl, hA, by rw [List.length_replicate]; omega, ok_replicate _, fun j _ => getD_replicate0 _ _, fun _ _ => rfl, fun j hj => by simp [List.getD, show A0.length ≤ j by omega], hlt, ?_⟩
  have := win_drop A0 (A0.length - m)
  rw [show A0.length - (A0.length - m) = m by omega] at this
  have hd : (List.replicate (A0.length - m) 0).drop (A0.length - m) = ([] : List Nat) := List.drop_eq_nil_of_le (by rw [List.length_replicate]; exact Nat.le_refl _)
  rw [this, hd]
  simp [val]
theorem DV.part {A0 : List Nat} {m D p : Nat} {L Q : List Nat} (h : DV A0 m D (p + 1) L Q) : win L p (m + 1) < R * D ∧ win L p (m + 1) = A0.getD p 0 + R * win L (p + 1) m := by
  have e := win_low L p m
  have h1 := h.low p (by omega)
  have h2 := okD h.ok p
  have h3 := h.lt
  have h4 : R * (win L (p + 1) m + 1) ≤ R * D := Nat.mul_le_mul_left _ h3
  rw [Nat.mul_add, Nat.mul_one] at h4
  exact ⟨by omega, by rw [e, h1]⟩
theorem val_drop0 (l : List Nat) (n : Nat) : val (l.drop n) = l.getD n 0 + R * val (l.drop (n + 1)) := by
  rcases Nat.lt_or_ge n l.length with h | h
  · rw [List.drop_eq_getElem_cons h, val]; simp [List.getD, h]
  · rw [List.drop_eq_nil_of_le (by omega), List.drop_eq_nil_of_le (by omega)]
    simp [val, List.getD, h]
theorem DV.next {A0 : List Nat} {m D p : Nat} {L Q M : List Nat} (h : DV A0 m D (p + 1) L Q) (hp : p + m < A0.length) (hDm : D ≤ R ^ m) (hE : TE L p m M) (hv : win M p (m + 1) = win L p (m + 1) % D) :
    DV A0 m D p M (Q.set p (win L p (m + 1) / D)) := by
  obtain ⟨h1, h2⟩ := h.part
  have hD : 0 < D := by have := h.lt; omega
  have hq : win L p (m + 1) / D < R := Nat.div_lt_of_lt_mul (by rw [Nat.mul_comm]; exact h1)
  have hql : p < Q.length := by have := h.qlen; omega
  have hr : win M p (m + 1) < D := by rw [hv]; exact Nat.mod_lt _ hD
  have htop : M.getD (p + m) 0 = 0 := by
    rw [win_succ] at hr
    rcases Nat.eq_zero_or_pos (M.getD (p + m) 0) with h0 | h0
    · exact h0
    · have : R ^ m * 1 ≤ R ^ m * M.getD (p + m) 0 := Nat.mul_le_mul_left _ h0
      omega
  have hw : win M p m = win L p (m + 1) % D := by rw [← hv, win_succ, htop]; omega
  refine ⟨hE.len.trans h.len, hE.ok, by rw [List.length_set]; exact h.qlen, ok_set h.qok hq, fun j hj => by rw [getD_set_ne _ _ (by omega)]; exact h.qlow j (by omega), fun j hj => by rw [hE.out j (.inl hj)]; exact h.low j (by omega), fun j hj => ?_, by rw [hw]; exact Nat.mod_lt _ hD, ?_⟩
  · rcases Nat.lt_or_ge (p + m) j with h3 | h3
    · rw [hE.out j (.inr h3)]; exact h.high j (by omega)
    · rw [show j = p + m by omega]; exact htop
  · have e1 : (Q.set p (win L p (m + 1) / D)).drop (p + 1) = Q.drop (p + 1) := List.drop_set_of_lt (by omega)
    rw [val_drop0 A0 p, val_drop0 _ p, e1, getD_set_eq _ _ hql, h.eq, hw, Nat.add_mul]
    have h5 := Nat.div_add_mod (win L p (m + 1)) D
    rw [Nat.mul_comm] at h5
    rw [Nat.mul_add, Nat.mul_assoc]
    omega
theorem DV.fin {A0 : List Nat} {m D : Nat} {L Q : List Nat} (h : DV A0 m D 0 L Q) : val Q = val A0 / D ∧ val L = val A0 % D := by
  have h1 := h.eq
  have hl : val L = win L 0 m := by
    have e := h.qlen
    have := win_zero (L := L) (p := 0) m (L.length - m) (fun j hj => h.high j hj)
    have hl := h.len
    rw [show m + (L.length - m) = L.length by omega, win_all] at this
    exact this
  rw [← hl] at h1
  have hlt := h.lt
  rw [← hl] at hlt
  simp only [List.drop_zero] at h1
  rw [h1]
  have hD : 0 < D := by omega
  constructor
  · rw [Nat.mul_comm, Nat.mul_add_div hD, Nat.div_eq_of_lt hlt, Nat.add_zero]
  · rw [Nat.mul_comm, Nat.mul_add_mod, Nat.mod_eq_of_lt hlt]
structure GU (P D high first digit rest : Nat) : Prop where
  eq : digit * first + rest = high
  ge : P / D ≤ digit
theorem GU.down {P D high first second p2 k digit rest : Nat} (h : GU P D high first digit rest) (hP : P < (high * R + p2 + 1) * R ^ k) (hd : (first * R + second) * R ^ k ≤ D) (hlt : P / D < R)
    (hc : R ≤ digit ∨ rest * R + p2 < digit * second) : GU P D high first (digit - 1) (rest + first) ∧ 0 < digit := by
  have h1 : P / D < digit := by
    rcases hc with hc | hc
    · omega
    · refine Nat.div_lt_of_lt_mul ?_
      have e : digit * (first * R + second) = digit * first * R + digit * second := by rw [Nat.mul_add, Nat.mul_assoc]
      have h2 : high * R + p2 + 1 ≤ digit * (first * R + second) := by rw [e, ← h.eq, Nat.add_mul]; omega
      have h3 : (high * R + p2 + 1) * R ^ k ≤ digit * ((first * R + second) * R ^ k) := by rw [← Nat.mul_assoc]; exact Nat.mul_le_mul_right _ h2
      have h4 : digit * ((first * R + second) * R ^ k) ≤ digit * D := Nat.mul_le_mul_left _ hd
      rw [Nat.mul_comm D]
      omega
  have he := h.eq
  obtain ⟨t, rfl⟩ : ∃ t, digit = t + 1 := ⟨digit - 1, by generalize P / D = z at *; omega⟩
  rw [Nat.add_mul, Nat.one_mul] at he
  rw [Nat.add_sub_cancel]
  generalize hz : P / D = z at *
  exact ⟨⟨by omega, by omega⟩, by omega⟩
end Wh

namespace Go.Proofs.YteaeloeebfdodaaGreatDoor
open Go.RowKit Go.Proofs.Rf
end Go.Proofs.YteaeloeebfdodaaGreatDoor

namespace Go.Proofs.YteaeloeebfdodaaGreatDoor
open Go.RowKit Go.Proofs.Rf
end Go.Proofs.YteaeloeebfdodaaGreatDoor

namespace Go.Proofs.YteaeloeebfdodaaGreatDoor
open Go.RowKit Go.Proofs.Rf
structure SK (l : List Nat) (f i : Nat) (L : List Nat) (on : Nat) : Prop where
  len : L.length = l.length + 1
  ok : Wh.Ok L
  on1 : on < Wh.R
  out : ∀ j, i ≤ j → L.getD j 0 = 0
  eq : Wh.win L 0 i + Wh.R ^ i * on = f * Wh.sum (l.getD · 0) i
theorem SK.start (l : List Nat) (f : Nat) : SK l f 0 (List.replicate (l.length + 1) 0) 0 :=
  ⟨by simp, Wh.ok_replicate _, Wh.R_pos, fun j _ => Wh.getD_replicate0 _ _, by simp [Wh.win, Wh.sum]⟩
theorem SK.next {l : List Nat} {f i : Nat} {L : List Nat} {on : Nat} (h : SK l f i L on) (hl : Wh.Ok l) (hf : f ≤ Wh.R) (hi : i < l.length) :
    SK l f (i + 1) (L.set i ((l.getD i 0 * f + on) % Wh.R)) ((l.getD i 0 * f + on) / Wh.R) := by
  have h1 := Wh.okD hl i
  have hil : i < L.length := by rw [h.len]; omega
  refine ⟨by rw [List.length_set]; exact h.len, Wh.ok_set h.ok (Nat.mod_lt _ Wh.R_pos), ?_, fun j hj => by rw [Wh.getD_set_ne _ _ (by omega)]; exact h.out j (by omega), ?_⟩
  · have : l.getD i 0 * f ≤ (Wh.R - 1) * Wh.R := Nat.mul_le_mul (by omega) hf
    have e : (Wh.R - 1) * Wh.R + Wh.R = Wh.R * Wh.R := by decide
    have := h.on1
    rw [Nat.div_lt_iff_lt_mul Wh.R_pos]
    omega
  · have e1 : Wh.win (L.set i ((l.getD i 0 * f + on) % Wh.R)) 0 i = Wh.win L 0 i := Wh.win_congr fun j _ h5 => Wh.getD_set_ne _ _ (by omega)
    rw [Wh.win_succ, e1, Nat.zero_add, Wh.getD_set_eq _ _ hil, Wh.sum, Nat.mul_add]
    have h5 := Nat.mod_add_div (l.getD i 0 * f + on) Wh.R
    have h6 : Wh.R ^ i * ((l.getD i 0 * f + on) % Wh.R) + Wh.R ^ (i + 1) * ((l.getD i 0 * f + on) / Wh.R) = Wh.R ^ i * (l.getD i 0 * f) + Wh.R ^ i * on := by
      rw [Nat.pow_succ, Nat.mul_assoc, ← Nat.mul_add, h5, Nat.mul_add]
    have h7 : f * (Wh.R ^ i * l.getD i 0) = Wh.R ^ i * (l.getD i 0 * f) := by rw [Nat.mul_left_comm, Nat.mul_comm f]
    have := h.eq
    rw [h7]
    omega
theorem SK.fin {l : List Nat} {f : Nat} {L : List Nat} {on : Nat} (h : SK l f l.length L on) : Wh.Ok (L.set l.length on) ∧ (L.set l.length on).length = l.length + 1 ∧ Wh.val (L.set l.length on) = f * Wh.val l := by
  have hil : l.length < L.length := by rw [h.len]; omega
  refine ⟨Wh.ok_set h.ok h.on1, by rw [List.length_set]; exact h.len, ?_⟩
  have e1 : Wh.win (L.set l.length on) 0 l.length = Wh.win L 0 l.length := Wh.win_congr fun j _ h5 => Wh.getD_set_ne _ _ (by omega)
  have := Wh.win_all (L.set l.length on)
  rw [List.length_set, h.len, Wh.win_succ, e1, Nat.zero_add, Wh.getD_set_eq _ _ hil] at this
  rw [← this, h.eq, ← Wh.val_sum]
end Go.Proofs.YteaeloeebfdodaaGreatDoor
