/- Part 24 of the proofs that laws of package whole answer true at every input and leave the input as it was, where the library's variables start as the text lays them (the texts U3, U4, U5, K4, U6). -/
import Derived.Test.YteggbenhffmijaaGreatDoorZ23
import Derived.Deep.OwnRows
set_option linter.unusedVariables false
set_option linter.unusedSimpArgs false
/- WALKS: the reference's sum of limbs. -/
namespace Go.Proofs.YteggbenhffmijaaGreatDoor
open Go.RowKit Go.Proofs.Rf
end Go.Proofs.YteggbenhffmijaaGreatDoor

/- WALKS: the reference's product of limbs. -/
namespace Go.Proofs.YteggbenhffmijaaGreatDoor
open Go.RowKit Go.Proofs.Rf
/-- block b is the call's own, and has these numbers -/
structure OwnJ (w : World) (b : Nat) (l : List Nat) : Prop where
  lt : b < w.heap.size
  cell : ∀ i, i < l.length → w.cell? ⟨b, i, none⟩ = some (.int .i64 (l.getD i 0 : Nat))
  free : ∀ i, i < l.length → w.frozen? ⟨b, i, none⟩ = false
theorem OwnJ.mono {w w' : World} {b B : Nat} {l : List Nat} (h : OwnJ w b l) (hb : Below B w w') (hB : b < B) : OwnJ w' b l :=
  ⟨Nat.lt_of_lt_of_le h.lt hb.size, fun i hi => (hb.cell (p := ⟨b, i, none⟩) hB).trans (h.cell i hi), fun i hi => (hb.frozen (p := ⟨b, i, none⟩) hB).trans (h.free i hi)⟩
theorem OwnJ.set {w : World} {b : Nat} {l : List Nat} (h : OwnJ w b l) {i : Nat} (hi : i < l.length) (x : Nat) (z : Int) (hz : z = (x : Int)) : OwnJ (w.setCell ⟨b, i, none⟩ (.int .i64 z)) b (l.set i x) := by
  subst hz
  refine ⟨by simpa using h.lt, fun j hj => ?_, fun j hj => ?_⟩
  · rw [List.length_set] at hj
    by_cases e : i = j
    · subst e
      rw [World.cell?_setCell_same _ _ _ (h.cell i hi)]
      simp [List.getD, hi]
    · rw [World.cell?_setCell_other _ _ _ _ (by intro e'; exact e (congrArg Addr.off e')), h.cell j hj]
      simp [List.getD, List.getElem?_set_ne e]
  · rw [List.length_set] at hj
    rw [World.frozen?_setCell]; exact h.free j hj
theorem OwnJ.rl {w : World} {b : Nat} {l : List Nat} (h : OwnJ w b l) : RL4 w (.slice (some ⟨b, 0, none⟩) l.length l.length) l :=
  ⟨_, _, rfl, fun i hi => ⟨b, 0, rfl, h.lt, fun j hj => by rw [Nat.zero_add]; exact h.cell j hj⟩, Nat.le_refl _⟩
theorem Il.only {w w' : World} {a : Option Addr} {n : Nat} {l : List Nat} {g : Nat} (h : Il w a n l) (ho : Only g w w') (hg : w.heap.size ≤ g) : Il w' a n l := fun i hi => by
  obtain ⟨b, off, e, hl, hc⟩ := h i hi
  exact ⟨b, off, e, Nat.lt_of_lt_of_le hl ho.size, fun j hj => (ho.cell (p := ⟨b, off + j, none⟩) (by show b ≠ g; omega) hl).trans (hc j hj)⟩
end Go.Proofs.YteggbenhffmijaaGreatDoor

/- WALKS: the reference's text of limbs. -/
namespace Go.Proofs.YteggbenhffmijaaGreatDoor
open Go.RowKit Go.Proofs.Rf
end Go.Proofs.YteggbenhffmijaaGreatDoor

/- WALKS: the parts of the statement on primes: the text of a number under 1,000,000 is read back; Factor of it. -/
namespace Go.Proofs.YteggbenhffmijaaGreatDoor
open Go.RowKit Go.Proofs.Rf
theorem decL_of (p : Nat) (h : 1 ≤ p ∧ p ≤ 1000000) : DecL (Wh.decN p) :=
  ⟨Wh.decN_ne p, Wh.decN_digits p, .inl (Wh.decN_head p h.1), Nat.le_trans (Wh.decN_length_le (k := 7) (by decide) (by have : (10 : Nat) ^ 7 = 10000000 := rfl; omega)) (by decide)⟩
theorem decFrom_dec : ∀ (l : List UInt8) (acc : Nat), (∀ c ∈ l, 48 ≤ c.toNat ∧ c.toNat ≤ 57) → Lib.decFrom acc l = some (l.foldl (fun a c => 10 * a + Wh.dv c) acc) := by
  intro l
  induction l with
  | nil => intro acc _; rfl
  | cons b r ih =>
    intro acc h
    have hb := h b (List.mem_cons_self ..)
    rw [Lib.decFrom, Lib.digitVal, if_pos hb]
    show Lib.decFrom (acc * 10 + (b.toNat - 48)) r = _
    rw [ih _ fun c hc => h c (List.mem_cons_of_mem _ hc), Nat.mul_comm]
    rfl
theorem atoi_dec {l : List UInt8} (h : DecL l) : Lib.atoi l = some (Wh.numOf l : Int) := by
  have hn : Lib.decNat l = some (Wh.numOf l) := by
    unfold Lib.decNat
    rw [if_neg (by simpa using h.ne)]
    exact decFrom_dec l 0 h.dig
  have hne := h.ne
  have hdg := h.dig
  clear h
  cases l with
  | nil => exact absurd rfl hne
  | cons b r =>
    have hb := hdg b (List.mem_cons_self ..)
    have h45 : (b == 45) = false := by rw [beq_eq_false_iff_ne]; rintro rfl; exact absurd hb.1 (by decide)
    have h43 : (b == 43) = false := by rw [beq_eq_false_iff_ne]; rintro rfl; exact absurd hb.1 (by decide)
    rw [Lib.atoi, h45, h43, hn]
    rfl
end Go.Proofs.YteggbenhffmijaaGreatDoor

/- WALKS: the reference's numbers as texts: sign, size, small ones. -/
namespace Go.Proofs.YteggbenhffmijaaGreatDoor
open Go.RowKit Go.Proofs.Rf
theorem decL_lt (n : Nat) (h : n < 10 ^ 15) : DecL (Wh.decN n) := by
  refine ⟨Wh.decN_ne n, Wh.decN_digits n, ?_, Wh.decN_length_le (by decide) h⟩
  by_cases h0 : n = 0
  · subst h0; right; rw [Wh.decN_zero]; rfl
  · exact .inl (Wh.decN_head n (by omega))
theorem decI_neg {x : Int} (h : x < 0) : Wh.decI x = 45 :: Wh.decN x.natAbs := by unfold Wh.decI; rw [if_pos h]
theorem decI_pos {x : Int} (h : ¬ x < 0) : Wh.decI x = Wh.decN x.natAbs := by unfold Wh.decI; rw [if_neg h]
theorem decI_first (x : Int) : ∃ h : 0 < (str (Wh.decI x)).size, ((((str (Wh.decI x))[0]'h).toNat : Int) == 45) = decide (x < 0) := by
  by_cases h : x < 0
  · rw [decI_neg h]
    have hs : 0 < (str (45 :: Wh.decN x.natAbs)).size := by show 0 < (45 :: Wh.decN x.natAbs).length; simp
    refine ⟨hs, ?_⟩
    rw [str_get _ 0 hs, decide_eq_true h]
    rfl
  · rw [decI_pos h]
    have hs : 0 < (str (Wh.decN x.natAbs)).size := Wh.decN_length_pos _
    refine ⟨hs, ?_⟩
    rw [str_get _ 0 hs, decide_eq_false h, beq_eq_false_iff_ne]
    have hd : Wh.isD ((Wh.decN x.natAbs).getD 0 0) := by
      rw [List.getD_eq_getElem?_getD, List.getElem?_eq_getElem (Wh.decN_length_pos _)]
      exact Wh.decN_digits _ _ (List.getElem_mem _)
    unfold Wh.isD at hd
    omega
theorem decI_size (x : Int) : (str (Wh.decI x)).size = (Wh.decN x.natAbs).length + (if x < 0 then 1 else 0) := by
  by_cases h : x < 0
  · rw [decI_neg h, if_pos h]; rfl
  · rw [decI_pos h, if_neg h]; rfl
set_option maxHeartbeats 400000 in
theorem Neg_txt (x : Int) (w : World) :
    Calls Tryz.prog 128 #[txt x] w fun e w' => e = .returned (.bool (decide (x < 0))) ∧ w = w' := by
  unfold txt
  obtain ⟨hs0, h45⟩ := decI_first x
  have hd : decide ((0 : Int) < ((str (Wh.decI x)).size : Nat)) = true := by rw [decide_eq_true_iff]; omega
  generalize decide (x < 0) = b at *
  generalize str (Wh.decI x) = S at *
  cases b
  all_goals
    go_enter Tryz.func128, Tryz.ntmps128
    go_wp2
    go_ret
    exact ⟨rfl, rfl⟩
set_option maxHeartbeats 400000 in
theorem Abs_txt (x : Int) (w : World) :
    Calls Tryz.prog 49 #[txt x] w fun e w' => e = .returned (.string (str (Wh.decN x.natAbs))) ∧ w = w' := by
  have HN := Lib.hid (fun w => Neg_txt x w)
  by_cases h : x < 0
  · have hx : (str (Wh.decI x)).extract 1 (str (Wh.decI x)).size = str (Wh.decN x.natAbs) := eq_str (by rw [Lib.extract_data, str_data, decI_size, if_pos h, decI_neg h]; simp)
    have h1 : (1 : Int) ≤ ((str (Wh.decI x)).size : Nat) := by rw [decI_size]; have := Wh.decN_length_pos x.natAbs; omega
    rw [decide_eq_true h] at HN
    have HX := Lib.hid hx; clear hx
    unfold txt at *
    generalize str (Wh.decI x) = S at *
    go_enter Tryz.func49, Tryz.ntmps49
    go_wp2_with fail
    refine (HN.out _).mono ?_
    rintro e w' ⟨rfl, rfl⟩
    go_wp2_with fail
    go_ret
    exact ⟨by rw [← HX.out]; rfl, rfl⟩
  · rw [decide_eq_false h] at HN
    unfold txt at *
    rw [decI_pos h] at *
    generalize str (Wh.decN x.natAbs) = S at *
    go_enter Tryz.func49, Tryz.ntmps49
    go_wp2_with fail
    refine (HN.out _).mono ?_
    rintro e w' ⟨rfl, rfl⟩
    go_wp2_with fail
    go_ret
    exact ⟨rfl, rfl⟩
set_option maxHeartbeats 400000 in
theorem form_txt (x : Int) (hx : x.natAbs < 10 ^ 15) (w : World) :
    Calls Tryz.prog 132 #[txt x] w fun e w' => e = .returned (.bool true) ∧ w = w' := by
  have hb : ((str (Wh.decI x)).toList == [45, 48]) = false := by
    rw [Lib.toList_data, str_data, beq_eq_false_iff_ne]
    intro e
    by_cases h : x < 0
    · rw [decI_neg h] at e
      have e2 : Wh.decN x.natAbs = [48] := by injection e
      have := Wh.decN_head x.natAbs (by omega)
      rw [e2] at this
      exact this rfl
    · rw [decI_pos h] at e
      have := Wh.decN_digits x.natAbs 45 (by rw [e]; simp)
      exact absurd this.1 (by decide)
  have HA := Lib.hid (fun w => Abs_txt x w)
  have HD := Lib.hid (fun w => digits_dec _ (decL_lt _ hx) w)
  have HB := Lib.hid hb; clear hb hx
  unfold txt at *
  go_enter Tryz.func132, Tryz.ntmps132
  go_wp2_with fail
  refine (HA.out _).mono ?_
  rintro e w' ⟨rfl, rfl⟩
  go_wp2_with fail
  refine (HD.out _).mono ?_
  rintro e w' ⟨rfl, rfl⟩
  go_wp2_with fail
  rw [HB.out]
  go_wp2_with fail
  go_ret
  exact ⟨rfl, rfl⟩
set_option maxRecDepth 100000 in
set_option maxHeartbeats 400000 in
theorem ToInt_any (x : Int) (hx : x.natAbs < 10 ^ 15) (w : World) :
    Calls Tryz.prog 62 #[txt x] w fun e w' => e = .returned (.tuple #[.int .i64 x, .bool true]) ∧ w = w' := by
  have HA := Lib.hid (fun w => Abs_txt x w)
  have HF := Lib.hid (fun w => form_txt x hx w)
  have HNG := Lib.hid (fun w => Neg_txt x w)
  have hl := decL_lt _ hx
  have hv := Wh.numOf_decN x.natAbs
  have hxx : x.natAbs < 1000000000000000 := hx
  obtain ⟨b, hb⟩ : ∃ b, decide (x < 0) = b := ⟨_, rfl⟩
  have hsg : (if b then -((x.natAbs : Nat) : Int) else ((x.natAbs : Nat) : Int)) = x := by
    by_cases h : x < 0
    · rw [decide_eq_true h] at hb; subst hb; simp; omega
    · rw [decide_eq_false h] at hb; subst hb; simp; omega
  rw [hb] at HNG
  clear hb hx
  unfold txt at *
  generalize str (Wh.decI x) = S at *
  generalize Wh.decN x.natAbs = l at *
  generalize x.natAbs = n at *
  have hsz : (str l).size ≤ 15 := hl.len
  have H := Lib.hid hl; clear hl
  have HV := Lib.hid (And.intro hv hsg); clear hv hsg
  go_enter Tryz.func62, Tryz.ntmps62
  go_wp2_with fail
  refine (HA.out _).mono ?_
  rintro e w' ⟨rfl, rfl⟩
  go_wp2_with fail
  refine (HF.out _).mono ?_
  rintro e w' ⟨rfl, rfl⟩
  have h15 : decide ((15 : Int) < ((str l).size : Nat)) = false := by rw [decide_eq_false_iff_not]; omega
  go_wp2_with fail
  go_loopw [5, 6] (fun a i wr => ∃ k : Nat, k ≤ (str l).size ∧ i = .int .i64 k ∧ a = .int .i64 (Wh.numOf (l.take k) : Nat) ∧ wr = w) (fun _ i _ => (str l).size - (intOf i).toNat)
  case atStart => exact ⟨0, Nat.zero_le _, rfl, rfl, rfl⟩
  case round =>
    obtain ⟨k, hk, rfl, rfl, rfl⟩ := hrel
    by_cases hlt : k < (str l).size
    · have hd : decide ((k : Int) < ((str l).size : Nat)) = true := by rw [decide_eq_true_iff]; omega
      obtain ⟨c, hx, hcc, hc1, hc2⟩ := digits_loop l H k hlt
      have hnx : Wh.numOf (l.take (k + 1)) = 10 * Wh.numOf (l.take k) + (c - 48) := by
        rw [Wh.numOf_take_succ l k hlt, ← hcc]; rfl
      have hlim := numOf_take_le l k H.out.len H.out.dig
      have HNX := Lib.hid hnx; clear hnx hcc
      generalize Wh.numOf (l.take k) = v at *
      go_wp2_with fail
      go_roundw
      case rel => exact ⟨k + 1, by omega, by simp, by rw [HNX.out]; congr 1; omega, trivial⟩
      case measure => simp [intOf]; omega
    · have hd : decide ((k : Int) < ((str l).size : Nat)) = false := by rw [decide_eq_false_iff_not]; omega
      have hkl : l.take k = l := List.take_of_length_le (by have : (str l).size = l.length := rfl; omega)
      rw [hkl, HV.out.1]
      go_wp2_with fail
      refine (HNG.out _).mono ?_
      rintro e w' ⟨rfl, rfl⟩
      have hsg := HV.out.2
      cases b
      all_goals
        simp only [if_true, if_false, Bool.false_eq_true] at hsg
        go_wp2_with fail
        go_ret2
        exact ⟨by rw [← hsg]; rfl, rfl⟩
end Go.Proofs.YteggbenhffmijaaGreatDoor
