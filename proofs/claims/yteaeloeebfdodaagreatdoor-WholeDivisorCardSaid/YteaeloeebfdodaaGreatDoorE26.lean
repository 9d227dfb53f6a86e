/- Part 26 of the proofs that laws of package whole answer true at every input and leave the input as it was, where the library's variables start as the text lays them (the texts H2, K2, K1, K3, O1, O2, O3, O5). -/
import Derived.Test.YteaeloeebfdodaaGreatDoorE18
import Derived.Test.YteaeloeebfdodaaGreatDoorE25
import Derived.Test.YteaeloeebfdodaaGreatDoorE12
import Derived.Test.YteaeloeebfdodaaGreatDoorE21
set_option linter.unusedVariables false
set_option linter.unusedSimpArgs false
/- WALKS: the worked examples again, by the contracts for any numbers. -/
namespace Go.Proofs.YteaeloeebfdodaaGreatDoor
open Go.RowKit Go.Proofs.Rf
theorem floor_ex2 (w : World) (h : Tab w) : Calls Tryz.prog 33 #[.string { data := #[45, 55] }, .string { data := #[50] }] w fun e w' => e = .returned (.tuple #[.string { data := #[45, 52] }, .string { data := #[49] }, .int .i64 0]) ∧ Below w.heap.size w w' := by
  have h1 := FloorG_any w (-7) 2 (valid9 _ (by decide)) (valid9 _ (by decide)) (fit9 _ (by decide)) (fit9 _ (by decide)) (by decide) (valid9 _ (by decide)) (valid9 _ (by decide)) h
  rw [txn (x := -7) (n := 7) rfl (by decide) (dec_of (l := [55]) rfl (by decide) (by decide) (by decide)), txp (x := 2) (n := 2) rfl (dec_of (l := [50]) rfl (by decide) (by decide) (by decide)), txn (x := (-7 : Int).fdiv 2) (n := 4) (by decide) (by decide) (dec_of (l := [52]) rfl (by decide) (by decide) (by decide)), txp (x := (-7 : Int).fmod 2) (n := 1) (by decide) (dec_of (l := [49]) rfl (by decide) (by decide) (by decide))] at h1
  exact h1
theorem gcd_ex2 (w : World) (h : Tab w) : Calls Tryz.prog 35 #[.string { data := #[49, 50] }, .string { data := #[49, 56] }] w fun e w' => e = .returned (.tuple #[.string { data := #[54] }, .string { data := #[50] }, .string { data := #[45, 49] }, .int .i64 0]) ∧ Below w.heap.size w w' := by
  have h1 := Gcd_gcd w 12 18 6 2 (-1) (show Bd 20 _ from by unfold Bd; decide) (show Bd 20 _ from by unfold Bd; decide) (by decide) ⟨by decide, by decide, by decide, by decide, by decide, by decide⟩ h
  rw [txp (x := 12) (n := 12) rfl (dec_of (l := [49, 50]) rfl (by decide) (by decide) (by decide)), txp (x := 18) (n := 18) rfl (dec_of (l := [49, 56]) rfl (by decide) (by decide) (by decide)), txp (x := 6) (n := 6) rfl (dec_of (l := [54]) rfl (by decide) (by decide) (by decide)), txp (x := 2) (n := 2) rfl (dec_of (l := [50]) rfl (by decide) (by decide) (by decide)), txn (x := -1) (n := 1) rfl (by decide) (dec_of (l := [49]) rfl (by decide) (by decide) (by decide))] at h1
  exact h1
set_option maxRecDepth 100000 in
set_option maxHeartbeats 1000000 in
theorem counted_all : Counted := by
  intro w ht
  have HT := Lib.hid ht; clear ht
  go_enter Tryz.func21, Tryz.ntmps21
  go_wp2_with fail
  refine (mul_ex _ HT.out).mono ?_
  rintro e w1 ⟨rfl, hB⟩
  have HT1 := Lib.hid (HT.out.mono hB); have HB1 := Lib.hid hB; clear hB
  go_wp2_with fail
  refine (floor_ex2 _ HT1.out).mono ?_
  rintro e w2 ⟨rfl, hB⟩
  have HT2 := Lib.hid (HT1.out.mono hB); have HB2 := Lib.hid (HB1.out.trans (hB.mono HB1.out.size)); clear hB HT1 HB1
  go_wp2_with fail
  refine (gcd_ex2 _ HT2.out).mono ?_
  rintro e w3 ⟨rfl, hB⟩
  have HT3 := Lib.hid (HT2.out.mono hB); have HB3 := Lib.hid (HB2.out.trans (hB.mono HB2.out.size)); clear hB HT2 HB2
  go_wp2_with fail
  refine (powmod_ex _ HT3.out).mono ?_
  rintro e w4 ⟨rfl, hB⟩
  have HT4 := Lib.hid (HT3.out.mono hB); have HB4 := Lib.hid (HB3.out.trans (hB.mono HB3.out.size)); clear hB HT3 HB3
  go_wp2_with fail
  refine (base_ex _ HT4.out).mono ?_
  rintro e w5 ⟨rfl, hB⟩
  have HT5 := Lib.hid (HT4.out.mono hB); have HB5 := Lib.hid (HB4.out.trans (hB.mono HB4.out.size)); clear hB HT4 HB4
  go_wp2_with fail
  refine (factor_ex _ HT5.out).mono ?_
  rintro e w6 ⟨⟨g, c, rfl, hg, hcs⟩, hB⟩
  have HT6 := Lib.hid (HT5.out.mono hB); have HB6 := Lib.hid (HB5.out.trans (hB.mono HB5.out.size)); clear hB HT5 HB5
  have HCS := Lib.hid hcs; clear hcs
  go_wp2_with fail
  refine (root_ex _ HT6.out).mono ?_
  rintro e w7 ⟨rfl, hB⟩
  have HC7 : Hid (∀ i, i < 6 → w7.cell? ⟨g, 0 + i, none⟩ = some (.string (six i))) := Lib.hid (fun i hi => (hB.cell (p := ⟨g, 0 + i, none⟩) hg).trans (HCS.out i hi))
  have hg7 : g < w7.heap.size := Nat.lt_of_lt_of_le hg hB.size
  have HB7 := Lib.hid (HB6.out.trans (hB.mono HB6.out.size)); clear hB HT6 HB6 HCS hg
  go_wp2_with fail
  have hal : Below w7.heap.size w7 (w7.alloc (Obj.cells #[.string { data := #[50] }, .string { data := #[50] }, .string { data := #[50] }, .string { data := #[51] }, .string { data := #[51] }, .string { data := #[53] }] 9)) := (Below.refl _ _).alloc (Nat.le_refl _) _
  have h1 : ∀ i, i < 6 → (w7.alloc (Obj.cells #[.string { data := #[50] }, .string { data := #[50] }, .string { data := #[50] }, .string { data := #[51] }, .string { data := #[51] }, .string { data := #[53] }] 9)).cell? ⟨g, 0 + i, none⟩ = some (.string (six i)) := fun i hi => (hal.cell (p := ⟨g, 0 + i, none⟩) hg7).trans (HC7.out i hi)
  have h2 : ∀ i, i < 6 → (w7.alloc (Obj.cells #[.string { data := #[50] }, .string { data := #[50] }, .string { data := #[50] }, .string { data := #[51] }, .string { data := #[51] }, .string { data := #[53] }] 9)).cell? ⟨w7.heap.size, 0 + i, none⟩ = some (.string (six i)) := fun i hi => by
    rcases (by omega : i = 0 ∨ i = 1 ∨ i = 2 ∨ i = 3 ∨ i = 4 ∨ i = 5) with rfl | rfl | rfl | rfl | rfl | rfl <;> go_simp <;> rfl
  have HB8 := Lib.hid (HB7.out.trans (hal.mono HB7.out.size))
  have HE := Lib.hid (EqTexts_same (w7.alloc (Obj.cells #[.string { data := #[50] }, .string { data := #[50] }, .string { data := #[50] }, .string { data := #[51] }, .string { data := #[51] }, .string { data := #[53] }] 9)) g 0 w7.heap.size 0 6 c 6 six h1 h2 (by decide))
  clear hal h1 h2 HC7 HB7
  refine HE.out.mono ?_
  rintro e w8 ⟨rfl, hb8⟩
  have HB9 := Lib.hid (HB8.out.trans (hb8.mono HB8.out.size))
  clear HE hb8 HB8
  go_wp2
  go_ret
  exact ⟨rfl, HB9.out⟩
end Go.Proofs.YteaeloeebfdodaaGreatDoor

/- WALKS: the reference's number of a text; the kit's text of a number. -/
namespace Go.Proofs.YteaeloeebfdodaaGreatDoor
open Go.RowKit Go.Proofs.Rf
structure DecL (l : List UInt8) : Prop where
  ne : l ≠ []
  dig : ∀ c ∈ l, 48 ≤ c.toNat ∧ c.toNat ≤ 57
  head : l.headD 0 ≠ 48 ∨ l.length = 1
  len : l.length ≤ 15
theorem DecL.at {l : List UInt8} (h : DecL l) {i : Nat} (hi : i < l.length) : 48 ≤ (l.getD i 0).toNat ∧ (l.getD i 0).toNat ≤ 57 := by
  rw [List.getD_eq_getElem?_getD, List.getElem?_eq_getElem hi]; exact h.dig _ (List.getElem_mem hi)
theorem DecL.pos {l : List UInt8} (h : DecL l) : 0 < l.length := List.length_pos_iff.2 h.ne
theorem digits_loop (l : List UInt8) (H : Hid (DecL l)) (k : Nat) (hlt : k < (str l).size) : ∃ c : Nat, (((str l)[k]'hlt).toNat : Int) = (c : Int) ∧ (l.getD k 0).toNat = c ∧ 48 ≤ c ∧ c ≤ 57 := by
  have hc := H.out.at (i := k) hlt
  exact ⟨(l.getD k 0).toNat, by rw [str_get l k hlt], rfl, hc.1, hc.2⟩
set_option maxHeartbeats 400000 in
theorem digits_dec (l : List UInt8) (h : DecL l) (w : World) :
    Calls Tryz.prog 254 #[.string (str l)] w fun e w' => e = .returned (.bool true) ∧ w = w' := by
  have hs0 : 0 < (str l).size := h.pos
  have hsz : (str l).size ≤ 15 := h.len
  have H := Lib.hid h
  have hh : ((str l).size = 1) ∨ (1 < (str l).size ∧ ((((str l)[0]'hs0).toNat : Int) == 48) = false) := by
    by_cases h1 : (str l).size = 1
    · exact .inl h1
    · right
      refine ⟨by omega, ?_⟩
      rcases h.head with h2 | h2
      · rw [beq_eq_false_iff_ne, str_get l 0 hs0]
        intro e
        apply h2
        have e2 : l.getD 0 0 = 48 := UInt8.toNat_inj.1 (show (l.getD 0 0).toNat = 48 by omega)
        rw [← e2]; cases l <;> rfl
      · exact absurd h2 h1
  clear h
  rcases hh with h1 | ⟨h1, h2⟩
  case' inr =>
    have h0 : ((((str l).size : Nat) : Int) == 0) = false := by rw [beq_eq_false_iff_ne]; omega
    have h3 : decide ((1 : Int) < ((str l).size : Nat)) = true := by rw [decide_eq_true_iff]; omega
  all_goals
    go_enter Tryz.func254, Tryz.ntmps254
    go_wp2_with fail
    go_loopw [3] (fun i wr => ∃ k : Nat, k ≤ (str l).size ∧ i = .int .i64 k ∧ wr = w) (fun i _ => (str l).size - (intOf i).toNat)
    case atStart => exact ⟨0, Nat.zero_le _, rfl, rfl⟩
    case round =>
      obtain ⟨k, hk, rfl, rfl⟩ := hrel
      by_cases hlt : k < (str l).size
      · have hd : decide ((k : Int) < ((str l).size : Nat)) = true := by simpa using hlt
        obtain ⟨c, hx, _, hc1, hc2⟩ := digits_loop l H k hlt
        have hlo : decide ((c : Int) < 48) = false := by rw [decide_eq_false_iff_not]; omega
        have hhi : decide ((57 : Int) < (c : Int)) = false := by rw [decide_eq_false_iff_not]; omega
        go_wp2_with fail
        go_roundw
        case rel => exact ⟨k + 1, by omega, by simp, trivial⟩
        case measure => simp [intOf]; omega
      · have hd : decide ((k : Int) < ((str l).size : Nat)) = false := by simpa using hlt
        go_wp2_with fail
        go_ret
        exact ⟨rfl, rfl⟩
theorem numOf_take_le (l : List UInt8) (k : Nat) (hl : l.length ≤ 15) (hd : ∀ c ∈ l, 48 ≤ c.toNat ∧ c.toNat ≤ 57) : Wh.numOf (l.take k) < 1000000000000000 := by
  have h1 : ∀ c ∈ l.take k, 48 ≤ c.toNat ∧ c.toNat ≤ 57 := fun c hc => hd c (List.mem_of_mem_take hc)
  have h2 : (l.take k).length ≤ 15 := by rw [List.length_take]; omega
  have h3 := Wh.numOf_lt h1
  exact Nat.lt_of_lt_of_le h3 (Nat.le_trans (Nat.pow_le_pow_right (by decide) h2) (by decide))
end Go.Proofs.YteaeloeebfdodaaGreatDoor

/- ARITHMETIC: what the list of the least factors is: each a prime, ascending, the product the number. -/
namespace Go.Proofs.YteaeloeebfdodaaGreatDoor
def Low (m p : Nat) : Prop := ∀ d, 2 ≤ d → d < p → m % d ≠ 0
theorem low_two (m : Nat) : Low m 2 := fun d h2 hd => by omega
/-- the state at the head of a round: i factors are read, P is their product, L the last of them, m what is left -/
structure PAt (n : Nat) (i P L m : Nat) : Prop where
  rest : (pr (n + 1) 2 n).drop i = pr (m + 1) L m
  prod : P * m = n
  low : Low m L
  last : 2 ≤ L
  pos : 1 ≤ m
  le : i ≤ (pr (n + 1) 2 n).length
theorem PAt.start (n : Nat) (hn : 1 ≤ n) : PAt n 0 1 2 n := ⟨rfl, Nat.one_mul n, low_two n, Nat.le_refl 2, hn, Nat.zero_le _⟩
theorem PAt.more {n i P L m : Nat} (h : PAt n i P L m) (hi : i < (pr (n + 1) 2 n).length) : 1 < m := by
  rcases Nat.lt_or_ge 1 m with h1 | h1
  · exact h1
  · exfalso
    have := h.rest
    have e0 : pr (m + 1) L m = [] := by rw [pr, if_pos h1]
    rw [e0] at this
    have := congrArg List.length this
    simp only [List.length_drop, List.length_nil] at this
    omega
theorem PAt.fin {n i P L m : Nat} (h : PAt n i P L m) (hi : ¬ i < (pr (n + 1) 2 n).length) : P = n := by
  have hr := h.rest
  have h0 : (pr (n + 1) 2 n).drop i = [] := List.drop_eq_nil_of_le (by omega)
  rw [h0] at hr
  have hm : m = 1 := by
    rcases Nat.lt_or_ge 1 m with h1 | h1
    · rw [pr_step h.last h1] at hr; cases hr
    · have := h.pos; omega
  have := h.prod
  rw [hm, Nat.mul_one] at this
  exact this
end Go.Proofs.YteaeloeebfdodaaGreatDoor

/- WALKS: the kit's decimal text; a prime's text as a number. -/
namespace Go.Proofs.YteaeloeebfdodaaGreatDoor
open Go.RowKit Go.Proofs.Rf
set_option maxRecDepth 100000
end Go.Proofs.YteaeloeebfdodaaGreatDoor

/- WALKS: the reference's text of a number. -/
namespace Go.Proofs.YteaeloeebfdodaaGreatDoor
open Go.RowKit Go.Proofs.Rf
def OI (S : ByteArray) (n m r : Nat) (ch : UInt8) : Nat → Value → World → Prop
  | 0, v, _ => v = .int .i64 n
  | 1, v, _ => v = .int .i64 m
  | 2, v, _ => v = .string S
  | 3, v, _ => v = .int .i64 n
  | 4, v, _ => v = .int .i64 r
  | 5, v, _ => v = .int .i64 (48 + (r : Int))
  | 6, v, _ => v = .int .u8 (48 + (r : Int))
  | 7, v, w => ∃ g, v = .slice (some ⟨g, 0, none⟩) 1 1 ∧ OwnB w g [ch] ∧ g < w.heap.size
  | 8, v, _ => v = .string (str [ch])
  | 9, v, _ => v = .string (S ++ str [ch])
  | 10, v, _ => v = .string (S ++ str [ch])
  | _, _, _ => True
theorem OI_stays (S : ByteArray) (n m r : Nat) (ch : UInt8) : ∀ i v w w', OI S n m r ch i v w → Below w.heap.size w w' → OI S n m r ch i v w' := by
  intro i v w w' h hb
  match i, h with
  | 0, h => exact h
  | 1, h => exact h
  | 2, h => exact h
  | 3, h => exact h
  | 4, h => exact h
  | 5, h => exact h
  | 6, h => exact h
  | 7, h => obtain ⟨g, e, h1, h2⟩ := h; exact ⟨g, e, h1.mono hb h2, Nat.lt_of_lt_of_le h2 hb.size⟩
  | 8, h => exact h
  | 9, h => exact h
  | 10, h => exact h
  | _ + 11, h => exact trivial
set_option maxRecDepth 100000
set_option maxHeartbeats 600000 in
theorem OfInt_any : ∀ (n : Nat), n ≤ 1000000000000000000 → ∀ w : World, Calls Tryz.prog 85 #[.int .i64 n] w fun e w' => e = .returned (.string (str (Wh.decN n))) ∧ Below w.heap.size w w' := by
  intro n
  induction n using Nat.strongRecOn with
  | ind n ih =>
    intro hn w
    have hneg : decide ((n : Int) < 0) = false := by rw [decide_eq_false_iff_not]; omega
    by_cases h10 : n < 10
    · have h1 : decide ((n : Int) < 10) = true := by rw [decide_eq_true_iff]; omega
      have HB := Lib.hid (digit_block w n h10 5 (UInt8.ofNat (48 + n)) rfl)
      rw [Wh.decN_small h10]
      generalize UInt8.ofNat (48 + n) = ch at *
      clear ih
      go_enter Tryz.func85, Tryz.ntmps85
      go_wp2
      rw [run_string_back HB.out 1 1 rfl]
      go_wp2
      go_ret
      exact ⟨rfl, (Below.refl w.heap.size w).alloc (Nat.le_refl _) _⟩
    · have h1 : decide ((n : Int) < 10) = false := by rw [decide_eq_false_iff_not]; omega
      have IH := Lib.hid (ih (n / 10) (by omega) (by omega)); clear ih
      have HDB := Lib.hid fun w : World => digit_block w (n % 10) (Nat.mod_lt _ (by decide)) 5 (UInt8.ofNat (48 + n % 10)) rfl
      have hle : (Wh.decN (n / 10)).length ≤ 19 := Wh.decN_length_le (k := 19) (by decide) (by have : (10 : Nat) ^ 19 = 10000000000000000000 := rfl; omega)
      rw [Wh.decN_big h10]
      have q1 : (n : Int) / 10 = ((n / 10 : Nat) : Int) := by omega
      have q2 : (n : Int) % 10 = ((n % 10 : Nat) : Int) := by omega
      generalize UInt8.ofNat (48 + n % 10) = ch at *
      have hr : n % 10 < 10 := Nat.mod_lt _ (by decide)
      generalize n / 10 = m at *
      generalize n % 10 = r at *
      rw [← str_app]
      have hs : (str (Wh.decN m)).size ≤ 19 := hle
      have HNO : Hid (¬ (9223372036854775807 < (str (Wh.decN m)).size + (str [ch]).size)) := Lib.hid (by have : (str [ch]).size = 1 := rfl; omega)
      clear hle
      generalize str (Wh.decN m) = S at *
      have HQ := Lib.hid (And.intro q1 q2); clear q1 q2
      go_enter Tryz.func85, Tryz.ntmps85
      go_wp2_with fail
      refine wp_mono (Q := fun e a' W' => e = .normal ∧ (∃ (vals : Nat → Value), vals 10 = .string (S ++ str [ch]) ∧ a' = { tmps := #[.int .i64 n, undef, vals 10, .int .i64 n, .bool false, undef, undef, undef, undef, .int .i64 n, .bool false, undef, undef, undef, undef, undef, vals 0, vals 1, vals 2, vals 3, vals 4, vals 5, vals 6, vals 7, vals 8, vals 9], defers := [] }) ∧ Below w.heap.size w W') ?_ ?_
      refine Rt.wp_region_grow (n0 := 0) [] [] 26 (fun vals => { tmps := #[.int .i64 n, undef, vals 10, .int .i64 n, .bool false, undef, undef, undef, undef, .int .i64 n, .bool false, undef, undef, undef, undef, undef, vals 0, vals 1, vals 2, vals 3, vals 4, vals 5, vals 6, vals 7, vals 8, vals 9], defers := [] }) (OI S n m r ch) (by kernel_rfl) (by kernel_rfl) (by kernel_rfl) (by kernel_rfl) (fun _ _ _ _ _ h => absurd h.1 (by simp)) (by kernel_rfl) rfl (fun _ => by kernel_rfl) (by kernel_rfl) (by kernel_rfl) (OI_stays _ _ _ _ _) ?_ ?_ ?_
      · intro i o d hi hT hW hd vals w' hb hf
        have hlt : i < 11 := (Array.getElem?_eq_some_iff.1 hi).1
        rcases i with _ | _ | _ | _ | _ | _ | _ | _ | _ | _ | _ | i
        · obtain rfl := Option.some.inj hi
          obtain rfl := Option.some.inj hd
          dsimp only
          go_simp
          exact ⟨rfl, Below.refl _ _⟩
        · obtain rfl := Option.some.inj hi
          obtain rfl := Option.some.inj hd
          have e0 : vals 0 = _ := hf 0 (by kernel_rfl)
          dsimp only
          rw [e0]
          go_simp
          have hq : IntKind.i64.wrap ((n : Int) / 10) = (m : Int) := by
            have := HQ.out.1
            rw [IntKind.wrap_i64]; omega
          rw [hq]
          exact ⟨rfl, Below.refl _ _⟩
        · obtain rfl := Option.some.inj hi
          obtain rfl := Option.some.inj hd
          have e1 : vals 1 = _ := hf 1 (by kernel_rfl)
          dsimp only
          rw [e1]
          go_simp
          refine (IH.out _).mono ?_
          rintro e W ⟨rfl, hb2⟩
          exact ⟨rfl, hb2⟩
        · obtain rfl := Option.some.inj hi
          obtain rfl := Option.some.inj hd
          dsimp only
          go_simp
          exact ⟨rfl, Below.refl _ _⟩
        · obtain rfl := Option.some.inj hi
          obtain rfl := Option.some.inj hd
          have e3 : vals 3 = _ := hf 3 (by kernel_rfl)
          dsimp only
          rw [e3]
          go_simp
          have hq : ((n : Int).tmod 10) = (r : Int) := by rw [Int.tmod_eq_emod_of_nonneg (by omega)]; exact HQ.out.2
          rw [hq]
          exact ⟨rfl, Below.refl _ _⟩
        · obtain rfl := Option.some.inj hi
          obtain rfl := Option.some.inj hd
          have e4 : vals 4 = _ := hf 4 (by kernel_rfl)
          dsimp only
          rw [e4]
          go_simp
          have hq : IntKind.i64.wrap (48 + (r : Int)) = 48 + (r : Int) := by rw [IntKind.wrap_i64]; omega
          rw [hq]
          exact ⟨rfl, Below.refl _ _⟩
        · obtain rfl := Option.some.inj hi
          obtain rfl := Option.some.inj hd
          have e5 : vals 5 = _ := hf 5 (by kernel_rfl)
          dsimp only
          rw [e5]
          go_simp
          have hq : IntKind.u8.wrap (48 + (r : Int)) = 48 + (r : Int) := by rw [IntKind.wrap_u8]; omega
          rw [hq]
          exact ⟨rfl, Below.refl _ _⟩
        · obtain rfl := Option.some.inj hi
          obtain rfl := Option.some.inj hd
          have e6 : vals 6 = _ := hf 6 (by kernel_rfl)
          dsimp only
          rw [e6]
          go_simp
          exact ⟨⟨_, rfl, HDB.out _, by simp⟩, (Below.refl _ _).alloc (Nat.le_refl _) _⟩
        · obtain rfl := Option.some.inj hi
          obtain rfl := Option.some.inj hd
          obtain ⟨g7, e7, h71, h72⟩ := hf 7 (by kernel_rfl)
          dsimp only
          rw [e7]
          go_simp
          rw [run_string_back h71 1 1 rfl]
          exact ⟨rfl, rfl, Below.refl _ _⟩
        · obtain rfl := Option.some.inj hi
          obtain rfl := Option.some.inj hd
          have e2 : vals 2 = _ := hf 2 (by kernel_rfl)
          have e8 : vals 8 = _ := hf 8 (by kernel_rfl)
          dsimp only
          rw [e2, e8]
          go_simp
          rw [if_neg HNO.out]
          exact ⟨rfl, rfl, Below.refl _ _⟩
        · obtain rfl := Option.some.inj hi
          obtain rfl := Option.some.inj hd
          have e9 : vals 9 = _ := hf 9 (by kernel_rfl)
          dsimp only
          rw [e9]
          go_simp
          exact ⟨rfl, Below.refl _ _⟩
        · omega
      · intro p o d hi hW hd vals w' hb hf
        cases hW
      · intro vals w' hb hf
        have e10 : vals 10 = .string (S ++ str [ch]) := hf 10 (by decide) rfl
        exact Rt.wpAny_end (by kernel_rfl) ⟨rfl, ⟨vals, e10, rfl⟩, hb⟩
      · rintro e a' W' ⟨rfl, ⟨vals, e10, rfl⟩, hb⟩
        rw [e10]
        go_wp2
        go_ret
        exact ⟨rfl, hb⟩
end Go.Proofs.YteaeloeebfdodaaGreatDoor

/- WALKS: the reference's trim. -/
namespace Go.Proofs.YteaeloeebfdodaaGreatDoor
open Go.RowKit Go.Proofs.Rf
/-- the slice reads as these numbers -/
def Il (w : World) (a : Option Addr) (n : Nat) (l : List Nat) : Prop := ∀ i, i < n → ∃ b off, a = some ⟨b, off, none⟩ ∧ b < w.heap.size ∧ ∀ i, i < n → w.cell? ⟨b, off + i, none⟩ = some (.int .i64 (l.getD i 0 : Nat))
set_option maxRecDepth 100000 in
set_option maxHeartbeats 400000 in
theorem rtrim_any (w : World) (a : Option Addr) (c : Nat) (l : List Nat) (n : Nat) (h : Il w a n l) (hn : n ≤ 100000) (hc : n ≤ c) :
    Calls Tryz.prog 180 #[.slice a n c] w fun e w' => (∃ k : Nat, e = .returned (.slice a k c) ∧ k ≤ n ∧ (∀ i, k ≤ i → i < n → l.getD i 0 = 0) ∧ (k = 0 ∨ l.getD (k - 1) 0 ≠ 0)) ∧ w = w' := by
  have H := Lib.hid h; clear h
  go_enter Tryz.func180, Tryz.ntmps180
  go_wp2_with fail
  go_loopw [0] (fun v wr => ∃ k : Nat, k ≤ n ∧ v = .slice a k c ∧ Hid (∀ i, k ≤ i → i < n → l.getD i 0 = 0) ∧ wr = w) (fun v _ => match v with | .slice _ k _ => k | _ => 0)
  case atStart => exact ⟨n, Nat.le_refl _, rfl, Lib.hid (fun i h1 h2 => by omega), rfl⟩
  case round =>
    obtain ⟨k, hk, rfl, HZ, rfl⟩ := hrel
    by_cases h0 : k = 0
    · subst h0
      go_wp2_with fail
      go_ret
      exact ⟨⟨0, rfl, Nat.zero_le _, HZ.out, .inl rfl⟩, rfl⟩
    · obtain ⟨b, off, rfl, hb, hcell⟩ := H.out (k - 1) (by omega)
      have hx := hcell (k - 1) (by omega)
      obtain ⟨m, rfl⟩ : ∃ m, k = m + 1 := ⟨k - 1, by omega⟩
      rw [Nat.add_sub_cancel] at hx
      have hgt : decide ((0 : Int) < ((m + 1 : Nat) : Int)) = true := by rw [decide_eq_true_iff]; omega
      clear hcell
      generalize hxx : l.getD m 0 = x at *
      have HXX := Lib.hid hxx; clear hxx
      by_cases hz : x = 0
      · subst hz
        go_wp2_with fail
        refine ⟨⟨m, by omega, rfl, Lib.hid fun i h1 h2 => ?_, trivial⟩, Nat.lt_succ_self m⟩
        by_cases e : i = m
        · subst e; exact HXX.out
        · exact HZ.out i (by omega) h2
      · have hz' : ((x : Int) == 0) = false := by rw [beq_eq_false_iff_ne]; omega
        go_wp2_with fail
        go_ret
        exact ⟨⟨m + 1, rfl, hk, HZ.out, .inr (by rw [Nat.add_sub_cancel, HXX.out]; exact hz)⟩, rfl⟩
end Go.Proofs.YteaeloeebfdodaaGreatDoor

/- WALKS: the reference's limbs of a text. -/
namespace Go.Proofs.YteaeloeebfdodaaGreatDoor
open Go.RowKit Go.Proofs.Rf
/-- what limbs of four digits stand for -/
def val4 : List Nat → Nat
  | [] => 0
  | x :: r => x + 10000 * val4 r
theorem val4_snoc (l : List Nat) (x : Nat) : val4 (l ++ [x]) = val4 l + 10000 ^ l.length * x := by
  induction l with
  | nil => simp [val4]
  | cons a r ih => rw [List.cons_append, val4, ih, val4, List.length_cons, Nat.pow_succ, Nat.mul_add, ← Nat.mul_assoc, Nat.mul_comm 10000 (10000 ^ r.length), Nat.add_assoc]
theorem numOf_append (x y : List UInt8) : Wh.numOf (x ++ y) = Wh.numOf x * 10 ^ y.length + Wh.numOf y := by
  have h : ∀ (y : List UInt8) (a : Nat), y.foldl (fun a c => 10 * a + Wh.dv c) a = a * 10 ^ y.length + y.foldl (fun a c => 10 * a + Wh.dv c) 0 := by
    intro y
    induction y with
    | nil => intro a; simp
    | cons c r ih =>
      intro a
      rw [List.foldl_cons, List.foldl_cons, ih, ih (10 * 0 + Wh.dv c), List.length_cons, Nat.pow_succ, Nat.mul_zero, Nat.zero_add, Nat.add_mul, Nat.mul_assoc, Nat.mul_comm 10, Nat.mul_assoc, Nat.add_assoc]
  show (x ++ y).foldl _ 0 = _
  rw [List.foldl_append, h]
  rfl
abbrev i64s (l : List Nat) : List Value := l.map fun x : Nat => Value.int .i64 (x : Int)
theorem infoI : ∃ i, Tryz.prog.info? 3 = some i ∧ i.zero = some (.int .i64 0) ∧ i.size = 1 ∧ i.bytes = 8 := by
  have h : (Tryz.prog.info? 3).map (fun i => (i.zero, i.size, i.bytes)) = some (some (.int .i64 0), 1, 8) := by kernel_rfl
  cases hi : Tryz.prog.info? 3 with
  | none => rw [hi] at h; cases h
  | some i => rw [hi] at h; simp at h; exact ⟨i, rfl, h.1, h.2.1, h.2.2⟩
theorem il_of_own {W : World} {base : Nat} {v : Value} {l : List Nat} (h : W.ownsRow base 3 1 v l.length (i64s l)) : ∃ a c, v = .slice a l.length c ∧ Il W a l.length l ∧ l.length ≤ c := by
  rcases h.2 with ⟨rfl, hn⟩ | ⟨g, cap, cur, rfl, hg, hh, hnc, hcm, hcs, htake⟩
  · rw [hn]; exact ⟨_, _, rfl, fun i hi => absurd hi (by omega), Nat.le_refl _⟩
  · refine ⟨_, _, rfl, fun _ _ => ⟨g, 0, rfl, (Array.getElem?_eq_some_iff.1 hh).1, fun i hi => ?_⟩, hnc⟩
    have e : (i64s l)[i]? = cur.toList[i]? := by rw [← htake, Nat.mul_one, List.getElem?_take_of_lt hi]
    rw [Nat.zero_add]
    have e2 : W.cell? ⟨g, i, none⟩ = cur[i]? := by simp [World.cell?, hh]
    rw [e2, ← Array.getElem?_toList, ← e, List.getElem?_map, List.getElem?_eq_getElem hi]
    simp [List.getD, hi]
structure LI (d : List UInt8) (k : Nat) (l : List Nat) : Prop where
  le : k ≤ d.length
  small : ∀ x ∈ l, x < 10000
  val : Wh.numOf d = Wh.numOf (d.take k) * 10000 ^ l.length + val4 l
  len : l.length + k ≤ d.length
theorem LI.start (d : List UInt8) : LI d d.length [] := ⟨Nat.le_refl _, fun x hx => absurd hx (by simp), by simp [val4], by simp⟩
theorem LI.next {d : List UInt8} {k : Nat} {l : List Nat} (h : LI d k l) (hd : ∀ c ∈ d, 48 ≤ c.toNat ∧ c.toNat ≤ 57) (hk : 0 < k) : LI d (k - 4) (l ++ [Wh.numOf ((d.take k).drop (k - 4))]) := by
  have hle := h.le
  have hln : ((d.take k).drop (k - 4)).length = k - (k - 4) := by rw [List.length_drop, List.length_take]; omega
  have hs : Wh.numOf ((d.take k).drop (k - 4)) < 10000 := by
    have := Wh.numOf_lt (l := (d.take k).drop (k - 4)) (fun c hc => hd c (List.mem_of_mem_take (List.mem_of_mem_drop hc)))
    rw [hln] at this
    exact Nat.lt_of_lt_of_le this (Nat.le_trans (Nat.pow_le_pow_right (by decide) (by omega)) (by decide : 10 ^ 4 ≤ 10000))
  refine ⟨by omega, fun x hx => ?_, ?_, by rw [List.length_append, List.length_singleton]; have := h.len; omega⟩
  · rcases List.mem_append.1 hx with h1 | h1
    · exact h.small x h1
    · rw [List.mem_singleton.1 h1]; exact hs
  · have e : d.take k = d.take (k - 4) ++ (d.take k).drop (k - 4) := by
      have := (List.take_append_drop (k - 4) (d.take k)).symm
      rw [List.take_take, Nat.min_eq_left (by omega)] at this
      exact this
    have hv := h.val
    rw [e, numOf_append, hln] at hv
    rw [hv, val4_snoc, List.length_append, List.length_singleton, Nat.pow_succ, Nat.add_mul]
    rcases Nat.lt_or_ge k 4 with h4 | h4
    · have : k - 4 = 0 := by omega
      rw [this]
      simp only [List.take_zero]
      have hz : Wh.numOf [] = 0 := rfl
      rw [hz, Nat.zero_mul, Nat.zero_mul, Nat.zero_mul, Nat.zero_add, Nat.zero_add, Nat.mul_comm, Nat.add_comm]
    · have : k - (k - 4) = 4 := by omega
      rw [this, Nat.mul_assoc, show (10 : Nat) ^ 4 = 10000 from rfl, Nat.mul_comm 10000 (10000 ^ l.length), Nat.mul_comm (Wh.numOf ((d.take k).drop (k - 4)))]
      omega
end Go.Proofs.YteaeloeebfdodaaGreatDoor

/- WALKS: limbs of four digits, arithmetic. -/
namespace Go.Proofs.YteaeloeebfdodaaGreatDoor
open Go.RowKit Go.Proofs.Rf
abbrev T4 : Nat := 10000
def Sm4 (l : List Nat) : Prop := ∀ x ∈ l, x < 10000
/-- the top is not 0 -/
def Top (l : List Nat) : Prop := l.length = 0 ∨ l.getD (l.length - 1) 0 ≠ 0
theorem Sm4.nil : Sm4 [] := fun _ h => by cases h
theorem Sm4.snoc {l : List Nat} {x : Nat} (h : Sm4 l) (hx : x < 10000) : Sm4 (l ++ [x]) := fun y hy => by
  rcases List.mem_append.1 hy with h1 | h1
  · exact h y h1
  · rw [List.mem_singleton.1 h1]; exact hx
theorem Sm4.getD {l : List Nat} (h : Sm4 l) (i : Nat) : l.getD i 0 < 10000 := by
  rw [List.getD_eq_getElem?_getD]
  cases e : l[i]? with
  | none => simp
  | some x => exact h x (List.mem_of_getElem? e)
theorem Sm4.take {l : List Nat} (h : Sm4 l) (i : Nat) : Sm4 (l.take i) := fun x hx => h x (List.mem_of_mem_take hx)
theorem Sm4.drop {l : List Nat} (h : Sm4 l) (i : Nat) : Sm4 (l.drop i) := fun x hx => h x (List.mem_of_mem_drop hx)
theorem Sm4.set {l : List Nat} (h : Sm4 l) (i : Nat) {v : Nat} (hv : v < 10000) : Sm4 (l.set i v) := fun x hx => by
  rcases List.mem_or_eq_of_mem_set hx with h1 | h1
  · exact h x h1
  · rw [h1]; exact hv
theorem val4_take_succ (l : List Nat) (i : Nat) : val4 (l.take (i + 1)) = val4 (l.take i) + 10000 ^ i * l.getD i 0 := by
  induction l generalizing i with
  | nil => simp [val4]
  | cons x r ih =>
    cases i with
    | zero => simp [val4]
    | succ i =>
      rw [List.take_succ_cons, List.take_succ_cons, val4, val4, ih, Nat.mul_add, Nat.pow_succ, Nat.mul_comm (10000 ^ i) 10000, Nat.mul_assoc, Nat.add_assoc]
      simp [List.getD]
theorem val4_take_all {l : List Nat} {i : Nat} (h : l.length ≤ i) : val4 (l.take i) = val4 l := by rw [List.take_of_length_le h]
theorem val4_lt {l : List Nat} (h : Sm4 l) : val4 l < 10000 ^ l.length := by
  induction l with
  | nil => simp [val4]
  | cons x r ih =>
    have h1 := ih fun y hy => h y (List.mem_cons_of_mem _ hy)
    have h2 := h x (List.mem_cons_self ..)
    rw [val4, List.length_cons, Nat.pow_succ]
    omega
theorem val4_split (l : List Nat) (i : Nat) : val4 l = val4 (l.take i) + 10000 ^ i * val4 (l.drop i) := by
  induction l generalizing i with
  | nil => simp [val4]
  | cons x r ih =>
    cases i with
    | zero => simp [val4]
    | succ i =>
      rw [List.take_succ_cons, List.drop_succ_cons, val4, val4, ih i, Nat.mul_add, Nat.pow_succ, Nat.mul_comm (10000 ^ i) 10000, Nat.mul_assoc, Nat.add_assoc]
theorem drop4_step {l m : List Nat} {i : Nat} (h1 : i < l.length) (h2 : i < m.length) (h : l.getD i 0 = m.getD i 0) (hd : l.drop (i + 1) = m.drop (i + 1)) : l.drop i = m.drop i := by
  rw [List.drop_eq_getElem_cons h1, List.drop_eq_getElem_cons h2, hd]
  simp [List.getD, h1, h2] at h
  rw [h]
theorem val4_lt_at {l m : List Nat} (ho : Sm4 l) {i : Nat} (hd : l.drop (i + 1) = m.drop (i + 1)) (h : l.getD i 0 < m.getD i 0) : val4 l < val4 m := by
  rw [val4_split l (i + 1), val4_split m (i + 1), hd, val4_take_succ, val4_take_succ]
  have h1 : val4 (l.take i) < 10000 ^ i := by
    have := val4_lt (ho.take i)
    exact Nat.lt_of_lt_of_le this (Nat.pow_le_pow_right (by decide) (by rw [List.length_take]; omega))
  have h2 : 10000 ^ i * (l.getD i 0 + 1) ≤ 10000 ^ i * m.getD i 0 := Nat.mul_le_mul_left _ h
  rw [Nat.mul_add, Nat.mul_one] at h2
  omega
theorem val4_ge {l : List Nat} (ht : Top l) (hl : 0 < l.length) : 10000 ^ (l.length - 1) ≤ val4 l := by
  have h0 : l.getD (l.length - 1) 0 ≠ 0 := by rcases ht with h | h; omega; exact h
  have e : l.length - 1 + 1 = l.length := by omega
  have := val4_take_succ l (l.length - 1)
  rw [e, val4_take_all (Nat.le_refl _)] at this
  rw [this]
  have : 10000 ^ (l.length - 1) * 1 ≤ 10000 ^ (l.length - 1) * l.getD (l.length - 1) 0 := Nat.mul_le_mul_left _ (by omega)
  omega
theorem val4_lt_len {l m : List Nat} (ho : Sm4 l) (ht : Top m) (h : l.length < m.length) : val4 l < val4 m := by
  have h1 := val4_lt ho
  have h2 := val4_ge ht (by omega)
  have h3 : 10000 ^ l.length ≤ 10000 ^ (m.length - 1) := Nat.pow_le_pow_right (by decide) (by omega)
  omega
theorem val4_zeros (l : List Nat) (k : Nat) (h : ∀ i, k ≤ i → i < l.length → l.getD i 0 = 0) : val4 (l.take k) = val4 l := by
  rw [val4_split l k]
  have : val4 (l.drop k) = 0 := by
    have hz : ∀ m : List Nat, (∀ x ∈ m, x = 0) → val4 m = 0 := by
      intro m
      induction m with
      | nil => intro _; rfl
      | cons x r ih =>
        intro hm
        have h1 := hm x (List.mem_cons_self ..)
        have h2 := ih fun y hy => hm y (List.mem_cons_of_mem _ hy)
        rw [val4, h1, h2]
    apply hz
    intro x hx
    obtain ⟨j, hj, rfl⟩ := List.getElem_of_mem hx
    rw [List.length_drop] at hj
    have := h (k + j) (by omega) (by omega)
    rw [List.getElem_drop]
    simpa [List.getD, show k + j < l.length by omega] using this
  rw [this]; simp
theorem val4_eq_zero {l : List Nat} (ht : Top l) : val4 l = 0 ↔ l = [] := by
  constructor
  · intro h
    by_cases e : 0 < l.length
    · have := val4_ge ht e
      have h1 : 0 < 10000 ^ (l.length - 1) := Nat.pow_pos (by decide)
      omega
    · exact List.eq_nil_of_length_eq_zero (by omega)
  · intro h; rw [h]; rfl
theorem val4_set (l : List Nat) (k v : Nat) (h : k < l.length) : val4 (l.set k v) + 10000 ^ k * l.getD k 0 = val4 l + 10000 ^ k * v := by
  induction l generalizing k with
  | nil => simp at h
  | cons x r ih =>
    cases k with
    | zero => simp [val4]; omega
    | succ k =>
      have := ih k (by simpa using h)
      simp only [List.set_cons_succ, val4, Nat.pow_succ, List.getD_cons_succ]
      rw [Nat.mul_comm (10000 ^ k) 10000, Nat.mul_assoc, Nat.mul_assoc]
      omega
/-- a round of the sum -/
structure PLI (a b : List Nat) (i : Nat) (o : List Nat) (c : Nat) : Prop where
  len : o.length = i
  sm : Sm4 o
  c1 : c ≤ 1
  eq : val4 o + 10000 ^ i * c = val4 (a.take i) + val4 (b.take i)
theorem PLI.start (a b : List Nat) : PLI a b 0 [] 0 := ⟨rfl, Sm4.nil, by omega, by simp [val4]⟩
theorem PLI.next {a b : List Nat} {i : Nat} {o : List Nat} {c : Nat} (h : PLI a b i o c) (ha : Sm4 a) (hb : Sm4 b) : PLI a b (i + 1) (o ++ [(c + a.getD i 0 + b.getD i 0) % 10000]) ((c + a.getD i 0 + b.getD i 0) / 10000) := by
  have h1 := ha.getD i
  have h2 := hb.getD i
  have h3 := h.c1
  refine ⟨by simp [h.len], h.sm.snoc (Nat.mod_lt _ (by decide)), by omega, ?_⟩
  rw [val4_snoc, h.len, val4_take_succ, val4_take_succ, Nat.pow_succ, Nat.mul_assoc, Nat.add_assoc, ← Nat.mul_add]
  have h4 : (c + a.getD i 0 + b.getD i 0) % 10000 + 10000 * ((c + a.getD i 0 + b.getD i 0) / 10000) = c + a.getD i 0 + b.getD i 0 := Nat.mod_add_div _ _
  rw [h4, Nat.mul_add, Nat.mul_add]
  have := h.eq
  omega
theorem PLI.fin {a b : List Nat} {i : Nat} {o : List Nat} (h : PLI a b i o 0) (h1 : a.length ≤ i) (h2 : b.length ≤ i) : val4 o = val4 a + val4 b := by
  have := h.eq
  rw [val4_take_all h1, val4_take_all h2] at this
  simpa using this
/-- a round of the difference -/
structure MII (a b : List Nat) (i : Nat) (o : List Nat) (c : Nat) : Prop where
  len : o.length = i
  sm : Sm4 o
  c1 : c ≤ 1
  eq : val4 o + val4 (b.take i) = val4 (a.take i) + 10000 ^ i * c - 0 * c
  le : val4 (b.take i) ≤ val4 (a.take i) + 10000 ^ i * c
theorem MII.start (a b : List Nat) : MII a b 0 [] 0 := ⟨rfl, Sm4.nil, by omega, by simp [val4], by simp [val4]⟩
theorem MII.next {a b : List Nat} {i : Nat} {o : List Nat} {c d e : Nat} (h : MII a b i o c) (hd : d < 10000) (he : e ≤ 1) (heq : d + b.getD i 0 + c = a.getD i 0 + 10000 * e) : MII a b (i + 1) (o ++ [d]) e := by
  have hv : val4 (o ++ [d]) + val4 (b.take (i + 1)) = val4 (a.take (i + 1)) + 10000 ^ (i + 1) * e := by
    rw [val4_snoc, h.len, val4_take_succ, val4_take_succ, Nat.pow_succ, Nat.mul_assoc]
    have := h.eq
    have h5 : 10000 ^ i * d + 10000 ^ i * b.getD i 0 + 10000 ^ i * c = 10000 ^ i * a.getD i 0 + 10000 ^ i * (10000 * e) := by rw [← Nat.mul_add, ← Nat.mul_add, heq, Nat.mul_add]
    omega
  exact ⟨by simp [h.len], h.sm.snoc hd, he, by omega, by omega⟩
theorem MII.fin {a b : List Nat} {o : List Nat} {c : Nat} (h : MII a b a.length o c) (h2 : b.length ≤ a.length) (hv : val4 b ≤ val4 a) : val4 o = val4 a - val4 b := by
  have h1 := h.eq
  have h3 := val4_lt h.sm
  rw [h.len] at h3
  rw [val4_take_all (Nat.le_refl _), val4_take_all h2] at h1
  have : c = 0 := by
    have := h.c1
    rcases Nat.lt_or_ge 0 c with h4 | h4
    · have : c = 1 := by omega
      subst this
      omega
    · omega
  subst this
  omega
/-- a row of the product, within: row i, column k -/
structure TII (a b : List Nat) (i k : Nat) (o : List Nat) (c : Nat) : Prop where
  len : o.length = a.length + b.length
  sm : Sm4 o
  c1 : c < 10000
  hi : i < a.length
  hk : k ≤ b.length
  eq : val4 o + 10000 ^ (i + k) * c = val4 (a.take i) * val4 b + 10000 ^ i * (a.getD i 0 * val4 (b.take k))
  z : ∀ j, i + b.length ≤ j → o.getD j 0 = 0
/-- rows of the product -/
structure TOI (a b : List Nat) (i : Nat) (o : List Nat) : Prop where
  len : o.length = a.length + b.length
  sm : Sm4 o
  hi : i ≤ a.length
  eq : val4 o = val4 (a.take i) * val4 b
  z : ∀ j, i + b.length ≤ j → o.getD j 0 = 0
theorem sm4_zeros (n : Nat) : Sm4 (List.replicate n 0) := fun x hx => by rw [List.eq_of_mem_replicate hx]; decide
theorem val4_replicate (n : Nat) : val4 (List.replicate n 0) = 0 := by
  induction n with
  | zero => rfl
  | succ n ih => rw [List.replicate_succ, val4, ih]
theorem TOI.start (a b : List Nat) : TOI a b 0 (List.replicate (a.length + b.length) 0) :=
  ⟨by simp, sm4_zeros _, Nat.zero_le _, by rw [val4_replicate]; simp [val4], fun j _ => by simp [List.getD, List.getElem?_replicate]; split <;> simp_all⟩
theorem TOI.row {a b : List Nat} {i : Nat} {o : List Nat} (h : TOI a b i o) (hi : i < a.length) : TII a b i 0 o 0 :=
  ⟨h.len, h.sm, by decide, hi, Nat.zero_le _, by simp [h.eq, val4], h.z⟩
theorem getD_set_ne (l : List Nat) {i j : Nat} (v : Nat) (h : i ≠ j) : (l.set i v).getD j 0 = l.getD j 0 := by
  simp [List.getD, List.getElem?_set_ne h]
theorem TII.next {a b : List Nat} {i k : Nat} {o : List Nat} {c : Nat} (h : TII a b i k o c) (hk : k < b.length) :
    o.getD (i + k) 0 + a.getD i 0 * b.getD k 0 + c < 100000000 ∧ i + k < o.length ∧
    (∀ (_ : Sm4 a) (_ : Sm4 b), TII a b i (k + 1) (o.set (i + k) ((o.getD (i + k) 0 + a.getD i 0 * b.getD k 0 + c) % 10000)) ((o.getD (i + k) 0 + a.getD i 0 * b.getD k 0 + c) / 10000)) ∨ ¬ (Sm4 a ∧ Sm4 b) := by
  by_cases hs : Sm4 a ∧ Sm4 b
  · refine .inl ?_
    have ho := h.sm.getD (i + k)
    have ha := hs.1.getD i
    have hb := hs.2.getD k
    have hc := h.c1
    have hp : a.getD i 0 * b.getD k 0 ≤ 9999 * 9999 := Nat.mul_le_mul (by omega) (by omega)
    have hl : i + k < o.length := by rw [h.len]; have := h.hi; omega
    refine ⟨by omega, hl, fun _ _ => ?_⟩
    generalize hn : o.getD (i + k) 0 + a.getD i 0 * b.getD k 0 + c = n at *
    refine ⟨by rw [List.length_set]; exact h.len, h.sm.set _ (Nat.mod_lt _ (by decide)), by omega, h.hi, hk, ?_, fun j hj => by rw [getD_set_ne _ _ (by omega)]; exact h.z j hj⟩
    have h1 := val4_set o (i + k) (n % 10000) hl
    have h2 := h.eq
    have h3 : 10000 ^ (i + (k + 1)) * (n / 10000) = 10000 ^ (i + k) * (10000 * (n / 10000)) := by rw [← Nat.add_assoc, Nat.pow_succ, Nat.mul_assoc]
    have h4 : 10000 ^ (i + k) * (n % 10000) + 10000 ^ (i + k) * (10000 * (n / 10000)) = 10000 ^ (i + k) * n := by rw [← Nat.mul_add, Nat.mod_add_div]
    have h5 : 10000 ^ (i + k) * n = 10000 ^ (i + k) * o.getD (i + k) 0 + 10000 ^ (i + k) * (a.getD i 0 * b.getD k 0) + 10000 ^ (i + k) * c := by rw [← hn, Nat.mul_add, Nat.mul_add]
    have h6 : 10000 ^ i * (a.getD i 0 * val4 (b.take (k + 1))) = 10000 ^ i * (a.getD i 0 * val4 (b.take k)) + 10000 ^ (i + k) * (a.getD i 0 * b.getD k 0) := by
      rw [val4_take_succ, Nat.mul_add, Nat.mul_add, Nat.pow_add]
      congr 1
      rw [Nat.mul_assoc, Nat.mul_left_comm (a.getD i 0)]
    rw [h3, h6]
    omega
  · exact .inr hs
theorem TII.fin {a b : List Nat} {i : Nat} {o : List Nat} {c : Nat} (h : TII a b i b.length o c) :
    i + b.length < o.length ∧ o.getD (i + b.length) 0 = 0 ∧ TOI a b (i + 1) (o.set (i + b.length) (o.getD (i + b.length) 0 + c)) := by
  have hl : i + b.length < o.length := by rw [h.len]; have := h.hi; omega
  have hz := h.z (i + b.length) (Nat.le_refl _)
  refine ⟨hl, hz, by rw [List.length_set]; exact h.len, h.sm.set _ (by rw [hz]; have := h.c1; omega), h.hi, ?_, fun j hj => by rw [getD_set_ne _ _ (by omega)]; exact h.z j (by omega)⟩
  have h1 := val4_set o (i + b.length) (o.getD (i + b.length) 0 + c) hl
  have h2 := h.eq
  rw [val4_take_all (Nat.le_refl b.length)] at h2
  rw [val4_take_succ, Nat.add_mul, Nat.mul_assoc]
  rw [hz, Nat.zero_add] at h1 ⊢
  omega
theorem TOI.fin {a b : List Nat} {o : List Nat} (h : TOI a b a.length o) : val4 o = val4 a * val4 b := by
  rw [h.eq, val4_take_all (Nat.le_refl _)]
/-- the guess is not too small -/
theorem guess_ge {A B : Nat} {p by' top : Nat} (hby : by' * p ≤ B) (htop : A / p = top) (hp : 0 < p) (h0 : 0 < by') : A / B ≤ top / by' := by
  rw [← htop, Nat.le_div_iff_mul_le h0, Nat.le_div_iff_mul_le hp, Nat.mul_assoc]
  exact Nat.le_trans (Nat.mul_le_mul_left _ hby) (Nat.div_mul_le_self A B)
theorem quo_lt {A B : Nat} (h : A < B * 10000) : A / B ≤ 9999 := by
  have := Nat.div_lt_of_lt_mul h
  omega
/-- a number without its low limbs -/
theorem val4_div {l : List Nat} (h : Sm4 l) (k : Nat) : val4 l / 10000 ^ k = val4 (l.drop k) := by
  rw [val4_split l k, Nat.add_mul_div_left _ _ (Nat.pow_pos (by decide)), Nat.div_eq_of_lt, Nat.zero_add]
  have := val4_lt (h.take k)
  exact Nat.lt_of_lt_of_le this (Nat.pow_le_pow_right (by decide) (by rw [List.length_take]; omega))
theorem val4_drop (l : List Nat) (k : Nat) : val4 (l.drop k) = l.getD k 0 + 10000 * val4 (l.drop (k + 1)) := by
  by_cases h : k < l.length
  · rw [List.drop_eq_getElem_cons h, val4]
    simp [List.getD, h]
  · rw [List.drop_eq_nil_of_le (by omega), List.drop_eq_nil_of_le (by omega)]
    simp [val4, List.getD, show l.length ≤ k by omega]
/-- a round of the quotient -/
structure OVI (a b : List Nat) (i : Nat) (quo : List Nat) (rem : Nat) : Prop where
  len : quo.length = a.length
  sm : Sm4 quo
  lt : rem < val4 b
  eq : val4 (a.drop i) = val4 (quo.drop i) * val4 b + rem
theorem OVI.start (a b : List Nat) (hb : 0 < val4 b) : OVI a b a.length (List.replicate a.length 0) 0 :=
  ⟨by simp, sm4_zeros _, hb, by simp [val4]⟩
theorem OVI.next {a b quo : List Nat} {i rem : Nat} (h : OVI a b (i + 1) quo rem) (hi : i < a.length) (ha : Sm4 a) : 
    a.getD i 0 + 10000 * rem < val4 b * 10000 ∧ OVI a b i (quo.set i ((a.getD i 0 + 10000 * rem) / val4 b)) ((a.getD i 0 + 10000 * rem) % val4 b) := by
  have h1 := ha.getD i
  have h2 := h.lt
  have h3 : a.getD i 0 + 10000 * rem < val4 b * 10000 := by omega
  have h4 := quo_lt h3
  refine ⟨h3, by rw [List.length_set]; exact h.len, h.sm.set _ (by omega), Nat.mod_lt _ (by omega), ?_⟩
  rw [val4_drop a i, h.eq]
  have e : (quo.set i ((a.getD i 0 + 10000 * rem) / val4 b)).drop i = ((a.getD i 0 + 10000 * rem) / val4 b) :: quo.drop (i + 1) := by
    have hl : i < (quo.set i ((a.getD i 0 + 10000 * rem) / val4 b)).length := by rw [List.length_set, h.len]; exact hi
    rw [List.drop_eq_getElem_cons hl, List.getElem_set_self, List.drop_set_of_lt (by omega)]
  rw [e, val4, Nat.add_mul]
  have := Nat.div_add_mod (a.getD i 0 + 10000 * rem) (val4 b)
  rw [Nat.mul_comm] at this
  rw [Nat.mul_add, Nat.mul_assoc]
  omega
structure TXI (v len : Nat) (D : List UInt8) : Prop where
  len : D.length = len
  dg : ∀ c ∈ D, 48 ≤ c.toNat ∧ c.toNat ≤ 57
  val : Wh.numOf D = v
theorem TXI.nil : TXI 0 0 [] := ⟨rfl, fun _ h => absurd h (by simp), rfl⟩
theorem TXI.cons {v len : Nat} {D : List UInt8} {d : Nat} (h : TXI v len D) (hd : d < 10) : TXI (d * 10 ^ len + v) (len + 1) (UInt8.ofNat (48 + d) :: D) := by
  have hn := Wh.toNat_digit hd
  refine ⟨by simp [h.len], fun c hc => ?_, ?_⟩
  · rcases List.mem_cons.1 hc with h1 | h1
    · rw [h1, hn]; omega
    · exact h.dg c h1
  · have := numOf_append [UInt8.ofNat (48 + d)] D
    rw [List.singleton_append] at this
    rw [this, h.val, h.len]
    have e : Wh.numOf [UInt8.ofNat (48 + d)] = d := by
      show 10 * 0 + ((UInt8.ofNat (48 + d)).toNat - 48) = d
      rw [hn]; omega
    rw [e]
theorem TXI.tail {v len : Nat} {c : UInt8} {D : List UInt8} (h : TXI v (len + 1) (c :: D)) (hc : c.toNat = 48) : TXI v len D := by
  refine ⟨by have := h.len; simpa using this, fun c hc => h.dg c (List.mem_cons_of_mem _ hc), ?_⟩
  have := numOf_append [c] D
  rw [List.singleton_append] at this
  rw [h.val] at this
  have e : Wh.numOf [c] = 0 := by simp [Wh.numOf, Wh.dv, hc]
  rw [e] at this
  omega
theorem TXI.fin {v len : Nat} {c : UInt8} {D : List UInt8} (h : TXI v len (c :: D)) (hc : c.toNat ≠ 48 ∨ D = []) : c :: D = Wh.decN v := by
  rw [← h.val]
  refine (Wh.decN_numOf h.dg (by simp) ?_).symm
  rcases hc with hc | hc
  · left; intro e; apply hc; simp at e; rw [e]; rfl
  · right; rw [hc]; rfl
/-- digits of a limb -/
theorem limb4_step (n0 k i V : Nat) : (n0 / 10 ^ k % 10) * 10 ^ (4 * i + k) + (V + 10000 ^ i * (n0 % 10 ^ k)) = V + 10000 ^ i * (n0 % 10 ^ (k + 1)) := by
  have e : (10000 : Nat) ^ i = 10 ^ (4 * i) := by rw [Nat.pow_mul]
  rw [Nat.mod_pow_succ, Nat.mul_add, e, Nat.pow_add, Nat.mul_comm (10 ^ k) (n0 / 10 ^ k % 10), Nat.mul_left_comm (10 ^ (4 * i)) (n0 / 10 ^ k % 10)]
  omega
/-- a slice of limbs, as it can be read -/
def RL4 (w : World) (v : Value) (l : List Nat) : Prop := ∃ a c, v = .slice a l.length c ∧ Il w a l.length l ∧ l.length ≤ c
theorem Il.mono {w w' : World} {a : Option Addr} {n : Nat} {l : List Nat} (h : Il w a n l) (hb : Below w.heap.size w w') : Il w' a n l := fun i hi => by
  obtain ⟨b, off, e, hl, hc⟩ := h i hi
  exact ⟨b, off, e, Nat.lt_of_lt_of_le hl hb.size, fun j hj => (hb.cell (p := ⟨b, off + j, none⟩) hl).trans (hc j hj)⟩
theorem RL4.mono {w w' : World} {v : Value} {l : List Nat} (h : RL4 w v l) (hb : Below w.heap.size w w') : RL4 w' v l := by
  obtain ⟨a, c, e, h1, h2⟩ := h; exact ⟨a, c, e, h1.mono hb, h2⟩
theorem RL4.nil (w : World) : RL4 w (.slice none 0 0) [] := ⟨none, 0, rfl, fun i hi => absurd hi (by simp), Nat.le_refl _⟩
theorem RL4.cut {w : World} {a : Option Addr} {c : Nat} {l : List Nat} {k : Nat} (h : Il w a l.length l) (hk : k ≤ l.length) (hc : l.length ≤ c) : RL4 w (.slice a k c) (l.take k) := by
  have e : (l.take k).length = k := by rw [List.length_take, Nat.min_eq_left hk]
  refine ⟨a, c, by rw [e], ?_, by omega⟩
  rw [e]
  intro i hi
  obtain ⟨b, off, e1, hl, hcc⟩ := h i (by omega)
  refine ⟨b, off, e1, hl, fun j hj => ?_⟩
  rw [hcc j (by omega)]
  simp [List.getD, hj]
theorem top_cut {l : List Nat} {k : Nat} (hk : k ≤ l.length) (h : k = 0 ∨ l.getD (k - 1) 0 ≠ 0) : Top (l.take k) := by
  have e : (l.take k).length = k := by rw [List.length_take, Nat.min_eq_left hk]
  unfold Top
  rw [e]
  rcases h with h | h
  · exact .inl h
  · by_cases h0 : k = 0
    · exact .inl h0
    · right
      simpa [List.getD, show k - 1 < k by omega] using h
theorem RL4.of_own {W : World} {base : Nat} {v : Value} {l : List Nat} (h : W.ownsRow base 3 1 v l.length (i64s l)) : RL4 W v l := by
  obtain ⟨a, c, e, h1, h2⟩ := il_of_own h; exact ⟨a, c, e, h1, h2⟩
end Go.Proofs.YteaeloeebfdodaaGreatDoor
