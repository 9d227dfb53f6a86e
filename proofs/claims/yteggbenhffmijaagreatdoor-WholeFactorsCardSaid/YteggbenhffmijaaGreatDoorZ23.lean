/- Part 23 of the proofs that laws of package whole answer true at every input and leave the input as it was, where the library's variables start as the text lays them (the texts K3, O1, O2, O3, O5, O4, U1, U2). -/
import Derived.Test.YteggbenhffmijaaGreatDoorZ22
import Derived.Deep.AppendLies
import Derived.Deep.RegionHeld3
set_option linter.unusedVariables false
set_option linter.unusedSimpArgs false
/- WALKS: the kit's decimal text; a prime's text as a number. -/
namespace Go.Proofs.YteggbenhffmijaaGreatDoor
open Go.RowKit Go.Proofs.Rf
set_option maxRecDepth 100000
set_option maxHeartbeats 400000 in
theorem Decimal_any : ∀ (n : Nat), n ≤ 1000000 → ∀ w : World, Calls Tryz.prog 67 #[.int .i64 n] w fun e w' => e = .returned (.string (str (Wh.decN n))) ∧ Below w.heap.size w w' := by
  intro n
  induction n using Nat.strongRecOn with
  | ind n ih =>
    intro hn w
    have hneg : decide ((n : Int) < 0) = false := by rw [decide_eq_false_iff_not]; omega
    by_cases h10 : n < 10
    · have h1 : decide ((n : Int) < 10) = true := by rw [decide_eq_true_iff]; omega
      have HD := Lib.hid fun w => Digit_any w n h10 (UInt8.ofNat (48 + n)) rfl
      rw [Wh.decN_small h10]
      generalize UInt8.ofNat (48 + n) = ch at *
      clear ih
      go_enter Tryz.func67, Tryz.ntmps67
      go_wp2_with fail
      refine (HD.out _).mono ?_
      rintro e w' ⟨rfl, hb⟩
      go_wp2
      go_ret
      exact ⟨rfl, hb⟩
    · have h1 : decide ((n : Int) < 10) = false := by rw [decide_eq_false_iff_not]; omega
      have IH := Lib.hid (ih (n / 10) (by omega) (by omega)); clear ih
      have HD := Lib.hid fun w => Digit_any w (n % 10) (Nat.mod_lt _ (by decide)) (UInt8.ofNat (48 + n % 10)) rfl
      have hle : (Wh.decN (n / 10)).length ≤ 7 := Wh.decN_length_le (k := 7) (by decide) (by have : (10 : Nat) ^ 7 = 10000000 := rfl; omega)
      rw [Wh.decN_big h10]
      have q1 : (n : Int) / 10 = ((n / 10 : Nat) : Int) := by omega
      have q2 : (n : Int) % 10 = ((n % 10 : Nat) : Int) := by omega
      generalize UInt8.ofNat (48 + n % 10) = ch at *
      have hm : n / 10 ≤ 100000 := by omega
      have hr : n % 10 < 10 := Nat.mod_lt _ (by decide)
      generalize n / 10 = m at *
      generalize n % 10 = r at *
      have hap : str (Wh.decN m ++ [ch]) = str (Wh.decN m) ++ str [ch] := (str_app _ _).symm
      rw [hap]
      have hs : (str (Wh.decN m)).size ≤ 7 := hle
      have hs1 : (str [ch]).size = 1 := rfl
      have hno : ¬ (9223372036854775807 < (str (Wh.decN m)).size + (str [ch]).size) := by omega
      clear hle hap
      generalize str (Wh.decN m) = S at *
      generalize str [ch] = C at *
      go_enter Tryz.func67, Tryz.ntmps67
      go_wp2_with fail
      refine (IH.out _).mono ?_
      rintro e w' ⟨rfl, hb⟩
      go_wp2_with fail
      refine (HD.out _).mono ?_
      rintro e w2 ⟨rfl, hb2⟩
      go_wp2
      go_ret
      exact ⟨rfl, hb.trans (hb2.mono hb.size)⟩
end Go.Proofs.YteggbenhffmijaaGreatDoor

/- WALKS: the reference's text of a number. -/
namespace Go.Proofs.YteggbenhffmijaaGreatDoor
open Go.RowKit Go.Proofs.Rf
def OI (S : ByteArray) (n m r : Nat) (ch : UInt8) : Nat → Value → World → Prop
  | 0, v, _ => v = .int .i64 n
  | 1, v, _ => v = .int .i64 m
  | 2, v, _ => v = .string S
  | 3, v, _ => v = .int .i64 n
  | 4, v, _ => v = .int .i64 r
  | 5, v, _ => v = .int .i64 (48 + (r : Int))
  | 6, v, _ => v = .int .u8 (48 + (r : Int))
  | 7, v, w => ∃ g, v = .slice (some ⟨g, 0, none⟩) 1 1 ∧ OwnB w g [ch] ∧ g < w.heap.size
  | 8, v, _ => v = .string (str [ch])
  | 9, v, _ => v = .string (S ++ str [ch])
  | 10, v, _ => v = .string (S ++ str [ch])
  | _, _, _ => True
theorem OI_stays (S : ByteArray) (n m r : Nat) (ch : UInt8) : ∀ i v w w', OI S n m r ch i v w → Below w.heap.size w w' → OI S n m r ch i v w' := by
  intro i v w w' h hb
  match i, h with
  | 0, h => exact h
  | 1, h => exact h
  | 2, h => exact h
  | 3, h => exact h
  | 4, h => exact h
  | 5, h => exact h
  | 6, h => exact h
  | 7, h => obtain ⟨g, e, h1, h2⟩ := h; exact ⟨g, e, h1.mono hb h2, Nat.lt_of_lt_of_le h2 hb.size⟩
  | 8, h => exact h
  | 9, h => exact h
  | 10, h => exact h
  | _ + 11, h => exact trivial
set_option maxRecDepth 100000
set_option maxHeartbeats 600000 in
theorem OfInt_any : ∀ (n : Nat), n ≤ 1000000000000000000 → ∀ w : World, Calls Tryz.prog 52 #[.int .i64 n] w fun e w' => e = .returned (.string (str (Wh.decN n))) ∧ Below w.heap.size w w' := by
  intro n
  induction n using Nat.strongRecOn with
  | ind n ih =>
    intro hn w
    have hneg : decide ((n : Int) < 0) = false := by rw [decide_eq_false_iff_not]; omega
    by_cases h10 : n < 10
    · have h1 : decide ((n : Int) < 10) = true := by rw [decide_eq_true_iff]; omega
      have HB := Lib.hid (digit_block w n h10 5 (UInt8.ofNat (48 + n)) rfl)
      rw [Wh.decN_small h10]
      generalize UInt8.ofNat (48 + n) = ch at *
      clear ih
      go_enter Tryz.func52, Tryz.ntmps52
      go_wp2
      rw [run_string_back HB.out 1 1 rfl]
      go_wp2
      go_ret
      exact ⟨rfl, (Below.refl w.heap.size w).alloc (Nat.le_refl _) _⟩
    · have h1 : decide ((n : Int) < 10) = false := by rw [decide_eq_false_iff_not]; omega
      have IH := Lib.hid (ih (n / 10) (by omega) (by omega)); clear ih
      have HDB := Lib.hid fun w : World => digit_block w (n % 10) (Nat.mod_lt _ (by decide)) 5 (UInt8.ofNat (48 + n % 10)) rfl
      have hle : (Wh.decN (n / 10)).length ≤ 19 := Wh.decN_length_le (k := 19) (by decide) (by have : (10 : Nat) ^ 19 = 10000000000000000000 := rfl; omega)
      rw [Wh.decN_big h10]
      have q1 : (n : Int) / 10 = ((n / 10 : Nat) : Int) := by omega
      have q2 : (n : Int) % 10 = ((n % 10 : Nat) : Int) := by omega
      generalize UInt8.ofNat (48 + n % 10) = ch at *
      have hr : n % 10 < 10 := Nat.mod_lt _ (by decide)
      generalize n / 10 = m at *
      generalize n % 10 = r at *
      rw [← str_app]
      have hs : (str (Wh.decN m)).size ≤ 19 := hle
      have HNO : Hid (¬ (9223372036854775807 < (str (Wh.decN m)).size + (str [ch]).size)) := Lib.hid (by have : (str [ch]).size = 1 := rfl; omega)
      clear hle
      generalize str (Wh.decN m) = S at *
      have HQ := Lib.hid (And.intro q1 q2); clear q1 q2
      go_enter Tryz.func52, Tryz.ntmps52
      go_wp2_with fail
      refine wp_mono (Q := fun e a' W' => e = .normal ∧ (∃ (vals : Nat → Value), vals 10 = .string (S ++ str [ch]) ∧ a' = { tmps := #[.int .i64 n, undef, vals 10, .int .i64 n, .bool false, undef, undef, undef, undef, .int .i64 n, .bool false, undef, undef, undef, undef, undef, vals 0, vals 1, vals 2, vals 3, vals 4, vals 5, vals 6, vals 7, vals 8, vals 9], defers := [] }) ∧ Below w.heap.size w W') ?_ ?_
      refine Rt.wp_region_grow (n0 := 0) [] [] 26 (fun vals => { tmps := #[.int .i64 n, undef, vals 10, .int .i64 n, .bool false, undef, undef, undef, undef, .int .i64 n, .bool false, undef, undef, undef, undef, undef, vals 0, vals 1, vals 2, vals 3, vals 4, vals 5, vals 6, vals 7, vals 8, vals 9], defers := [] }) (OI S n m r ch) (by kernel_rfl) (by kernel_rfl) (by kernel_rfl) (by kernel_rfl) (fun _ _ _ _ _ h => absurd h.1 (by simp)) (by kernel_rfl) rfl (fun _ => by kernel_rfl) (by kernel_rfl) (by kernel_rfl) (OI_stays _ _ _ _ _) ?_ ?_ ?_
      · intro i o d hi hT hW hd vals w' hb hf
        have hlt : i < 11 := (Array.getElem?_eq_some_iff.1 hi).1
        rcases i with _ | _ | _ | _ | _ | _ | _ | _ | _ | _ | _ | i
        · obtain rfl := Option.some.inj hi
          obtain rfl := Option.some.inj hd
          dsimp only
          go_simp
          exact ⟨rfl, Below.refl _ _⟩
        · obtain rfl := Option.some.inj hi
          obtain rfl := Option.some.inj hd
          have e0 : vals 0 = _ := hf 0 (by kernel_rfl)
          dsimp only
          rw [e0]
          go_simp
          have hq : IntKind.i64.wrap ((n : Int) / 10) = (m : Int) := by
            have := HQ.out.1
            rw [IntKind.wrap_i64]; omega
          rw [hq]
          exact ⟨rfl, Below.refl _ _⟩
        · obtain rfl := Option.some.inj hi
          obtain rfl := Option.some.inj hd
          have e1 : vals 1 = _ := hf 1 (by kernel_rfl)
          dsimp only
          rw [e1]
          go_simp
          refine (IH.out _).mono ?_
          rintro e W ⟨rfl, hb2⟩
          exact ⟨rfl, hb2⟩
        · obtain rfl := Option.some.inj hi
          obtain rfl := Option.some.inj hd
          dsimp only
          go_simp
          exact ⟨rfl, Below.refl _ _⟩
        · obtain rfl := Option.some.inj hi
          obtain rfl := Option.some.inj hd
          have e3 : vals 3 = _ := hf 3 (by kernel_rfl)
          dsimp only
          rw [e3]
          go_simp
          have hq : ((n : Int).tmod 10) = (r : Int) := by rw [Int.tmod_eq_emod_of_nonneg (by omega)]; exact HQ.out.2
          rw [hq]
          exact ⟨rfl, Below.refl _ _⟩
        · obtain rfl := Option.some.inj hi
          obtain rfl := Option.some.inj hd
          have e4 : vals 4 = _ := hf 4 (by kernel_rfl)
          dsimp only
          rw [e4]
          go_simp
          have hq : IntKind.i64.wrap (48 + (r : Int)) = 48 + (r : Int) := by rw [IntKind.wrap_i64]; omega
          rw [hq]
          exact ⟨rfl, Below.refl _ _⟩
        · obtain rfl := Option.some.inj hi
          obtain rfl := Option.some.inj hd
          have e5 : vals 5 = _ := hf 5 (by kernel_rfl)
          dsimp only
          rw [e5]
          go_simp
          have hq : IntKind.u8.wrap (48 + (r : Int)) = 48 + (r : Int) := by rw [IntKind.wrap_u8]; omega
          rw [hq]
          exact ⟨rfl, Below.refl _ _⟩
        · obtain rfl := Option.some.inj hi
          obtain rfl := Option.some.inj hd
          have e6 : vals 6 = _ := hf 6 (by kernel_rfl)
          dsimp only
          rw [e6]
          go_simp
          exact ⟨⟨_, rfl, HDB.out _, by simp⟩, (Below.refl _ _).alloc (Nat.le_refl _) _⟩
        · obtain rfl := Option.some.inj hi
          obtain rfl := Option.some.inj hd
          obtain ⟨g7, e7, h71, h72⟩ := hf 7 (by kernel_rfl)
          dsimp only
          rw [e7]
          go_simp
          rw [run_string_back h71 1 1 rfl]
          exact ⟨rfl, rfl, Below.refl _ _⟩
        · obtain rfl := Option.some.inj hi
          obtain rfl := Option.some.inj hd
          have e2 : vals 2 = _ := hf 2 (by kernel_rfl)
          have e8 : vals 8 = _ := hf 8 (by kernel_rfl)
          dsimp only
          rw [e2, e8]
          go_simp
          rw [if_neg HNO.out]
          exact ⟨rfl, rfl, Below.refl _ _⟩
        · obtain rfl := Option.some.inj hi
          obtain rfl := Option.some.inj hd
          have e9 : vals 9 = _ := hf 9 (by kernel_rfl)
          dsimp only
          rw [e9]
          go_simp
          exact ⟨rfl, Below.refl _ _⟩
        · omega
      · intro p o d hi hW hd vals w' hb hf
        cases hW
      · intro vals w' hb hf
        have e10 : vals 10 = .string (S ++ str [ch]) := hf 10 (by decide) rfl
        exact Rt.wpAny_end (by kernel_rfl) ⟨rfl, ⟨vals, e10, rfl⟩, hb⟩
      · rintro e a' W' ⟨rfl, ⟨vals, e10, rfl⟩, hb⟩
        rw [e10]
        go_wp2
        go_ret
        exact ⟨rfl, hb⟩
end Go.Proofs.YteggbenhffmijaaGreatDoor

/- WALKS: the reference's trim. -/
namespace Go.Proofs.YteggbenhffmijaaGreatDoor
open Go.RowKit Go.Proofs.Rf
/-- the slice reads as these numbers -/
def Il (w : World) (a : Option Addr) (n : Nat) (l : List Nat) : Prop := ∀ i, i < n → ∃ b off, a = some ⟨b, off, none⟩ ∧ b < w.heap.size ∧ ∀ i, i < n → w.cell? ⟨b, off + i, none⟩ = some (.int .i64 (l.getD i 0 : Nat))
end Go.Proofs.YteggbenhffmijaaGreatDoor

/- WALKS: the reference's limbs of a text. -/
namespace Go.Proofs.YteggbenhffmijaaGreatDoor
open Go.RowKit Go.Proofs.Rf
/-- what limbs of four digits stand for -/
def val4 : List Nat → Nat
  | [] => 0
  | x :: r => x + 10000 * val4 r
theorem val4_snoc (l : List Nat) (x : Nat) : val4 (l ++ [x]) = val4 l + 10000 ^ l.length * x := by
  induction l with
  | nil => simp [val4]
  | cons a r ih => rw [List.cons_append, val4, ih, val4, List.length_cons, Nat.pow_succ, Nat.mul_add, ← Nat.mul_assoc, Nat.mul_comm 10000 (10000 ^ r.length), Nat.add_assoc]
theorem numOf_append (x y : List UInt8) : Wh.numOf (x ++ y) = Wh.numOf x * 10 ^ y.length + Wh.numOf y := by
  have h : ∀ (y : List UInt8) (a : Nat), y.foldl (fun a c => 10 * a + Wh.dv c) a = a * 10 ^ y.length + y.foldl (fun a c => 10 * a + Wh.dv c) 0 := by
    intro y
    induction y with
    | nil => intro a; simp
    | cons c r ih =>
      intro a
      rw [List.foldl_cons, List.foldl_cons, ih, ih (10 * 0 + Wh.dv c), List.length_cons, Nat.pow_succ, Nat.mul_zero, Nat.zero_add, Nat.add_mul, Nat.mul_assoc, Nat.mul_comm 10, Nat.mul_assoc, Nat.add_assoc]
  show (x ++ y).foldl _ 0 = _
  rw [List.foldl_append, h]
  rfl
abbrev i64s (l : List Nat) : List Value := l.map fun x : Nat => Value.int .i64 (x : Int)
structure LI (d : List UInt8) (k : Nat) (l : List Nat) : Prop where
  le : k ≤ d.length
  small : ∀ x ∈ l, x < 10000
  val : Wh.numOf d = Wh.numOf (d.take k) * 10000 ^ l.length + val4 l
  len : l.length + k ≤ d.length
theorem LI.start (d : List UInt8) : LI d d.length [] := ⟨Nat.le_refl _, fun x hx => absurd hx (by simp), by simp [val4], by simp⟩
theorem LI.next {d : List UInt8} {k : Nat} {l : List Nat} (h : LI d k l) (hd : ∀ c ∈ d, 48 ≤ c.toNat ∧ c.toNat ≤ 57) (hk : 0 < k) : LI d (k - 4) (l ++ [Wh.numOf ((d.take k).drop (k - 4))]) := by
  have hle := h.le
  have hln : ((d.take k).drop (k - 4)).length = k - (k - 4) := by rw [List.length_drop, List.length_take]; omega
  have hs : Wh.numOf ((d.take k).drop (k - 4)) < 10000 := by
    have := Wh.numOf_lt (l := (d.take k).drop (k - 4)) (fun c hc => hd c (List.mem_of_mem_take (List.mem_of_mem_drop hc)))
    rw [hln] at this
    exact Nat.lt_of_lt_of_le this (Nat.le_trans (Nat.pow_le_pow_right (by decide) (by omega)) (by decide : 10 ^ 4 ≤ 10000))
  refine ⟨by omega, fun x hx => ?_, ?_, by rw [List.length_append, List.length_singleton]; have := h.len; omega⟩
  · rcases List.mem_append.1 hx with h1 | h1
    · exact h.small x h1
    · rw [List.mem_singleton.1 h1]; exact hs
  · have e : d.take k = d.take (k - 4) ++ (d.take k).drop (k - 4) := by
      have := (List.take_append_drop (k - 4) (d.take k)).symm
      rw [List.take_take, Nat.min_eq_left (by omega)] at this
      exact this
    have hv := h.val
    rw [e, numOf_append, hln] at hv
    rw [hv, val4_snoc, List.length_append, List.length_singleton, Nat.pow_succ, Nat.add_mul]
    rcases Nat.lt_or_ge k 4 with h4 | h4
    · have : k - 4 = 0 := by omega
      rw [this]
      simp only [List.take_zero]
      have hz : Wh.numOf [] = 0 := rfl
      rw [hz, Nat.zero_mul, Nat.zero_mul, Nat.zero_mul, Nat.zero_add, Nat.zero_add, Nat.mul_comm, Nat.add_comm]
    · have : k - (k - 4) = 4 := by omega
      rw [this, Nat.mul_assoc, show (10 : Nat) ^ 4 = 10000 from rfl, Nat.mul_comm 10000 (10000 ^ l.length), Nat.mul_comm (Wh.numOf ((d.take k).drop (k - 4)))]
      omega
end Go.Proofs.YteggbenhffmijaaGreatDoor

/- WALKS: limbs of four digits, arithmetic. -/
namespace Go.Proofs.YteggbenhffmijaaGreatDoor
open Go.RowKit Go.Proofs.Rf
abbrev T4 : Nat := 10000
def Sm4 (l : List Nat) : Prop := ∀ x ∈ l, x < 10000
/-- the top is not 0 -/
def Top (l : List Nat) : Prop := l.length = 0 ∨ l.getD (l.length - 1) 0 ≠ 0
theorem Sm4.nil : Sm4 [] := fun _ h => by cases h
theorem Sm4.snoc {l : List Nat} {x : Nat} (h : Sm4 l) (hx : x < 10000) : Sm4 (l ++ [x]) := fun y hy => by
  rcases List.mem_append.1 hy with h1 | h1
  · exact h y h1
  · rw [List.mem_singleton.1 h1]; exact hx
theorem Sm4.getD {l : List Nat} (h : Sm4 l) (i : Nat) : l.getD i 0 < 10000 := by
  rw [List.getD_eq_getElem?_getD]
  cases e : l[i]? with
  | none => simp
  | some x => exact h x (List.mem_of_getElem? e)
theorem Sm4.take {l : List Nat} (h : Sm4 l) (i : Nat) : Sm4 (l.take i) := fun x hx => h x (List.mem_of_mem_take hx)
theorem Sm4.drop {l : List Nat} (h : Sm4 l) (i : Nat) : Sm4 (l.drop i) := fun x hx => h x (List.mem_of_mem_drop hx)
theorem Sm4.set {l : List Nat} (h : Sm4 l) (i : Nat) {v : Nat} (hv : v < 10000) : Sm4 (l.set i v) := fun x hx => by
  rcases List.mem_or_eq_of_mem_set hx with h1 | h1
  · exact h x h1
  · rw [h1]; exact hv
theorem val4_take_succ (l : List Nat) (i : Nat) : val4 (l.take (i + 1)) = val4 (l.take i) + 10000 ^ i * l.getD i 0 := by
  induction l generalizing i with
  | nil => simp [val4]
  | cons x r ih =>
    cases i with
    | zero => simp [val4]
    | succ i =>
      rw [List.take_succ_cons, List.take_succ_cons, val4, val4, ih, Nat.mul_add, Nat.pow_succ, Nat.mul_comm (10000 ^ i) 10000, Nat.mul_assoc, Nat.add_assoc]
      simp [List.getD]
theorem val4_take_all {l : List Nat} {i : Nat} (h : l.length ≤ i) : val4 (l.take i) = val4 l := by rw [List.take_of_length_le h]
theorem val4_lt {l : List Nat} (h : Sm4 l) : val4 l < 10000 ^ l.length := by
  induction l with
  | nil => simp [val4]
  | cons x r ih =>
    have h1 := ih fun y hy => h y (List.mem_cons_of_mem _ hy)
    have h2 := h x (List.mem_cons_self ..)
    rw [val4, List.length_cons, Nat.pow_succ]
    omega
theorem val4_set (l : List Nat) (k v : Nat) (h : k < l.length) : val4 (l.set k v) + 10000 ^ k * l.getD k 0 = val4 l + 10000 ^ k * v := by
  induction l generalizing k with
  | nil => simp at h
  | cons x r ih =>
    cases k with
    | zero => simp [val4]; omega
    | succ k =>
      have := ih k (by simpa using h)
      simp only [List.set_cons_succ, val4, Nat.pow_succ, List.getD_cons_succ]
      rw [Nat.mul_comm (10000 ^ k) 10000, Nat.mul_assoc, Nat.mul_assoc]
      omega
/-- a round of the sum -/
structure PLI (a b : List Nat) (i : Nat) (o : List Nat) (c : Nat) : Prop where
  len : o.length = i
  sm : Sm4 o
  c1 : c ≤ 1
  eq : val4 o + 10000 ^ i * c = val4 (a.take i) + val4 (b.take i)
theorem PLI.start (a b : List Nat) : PLI a b 0 [] 0 := ⟨rfl, Sm4.nil, by omega, by simp [val4]⟩
theorem PLI.next {a b : List Nat} {i : Nat} {o : List Nat} {c : Nat} (h : PLI a b i o c) (ha : Sm4 a) (hb : Sm4 b) : PLI a b (i + 1) (o ++ [(c + a.getD i 0 + b.getD i 0) % 10000]) ((c + a.getD i 0 + b.getD i 0) / 10000) := by
  have h1 := ha.getD i
  have h2 := hb.getD i
  have h3 := h.c1
  refine ⟨by simp [h.len], h.sm.snoc (Nat.mod_lt _ (by decide)), by omega, ?_⟩
  rw [val4_snoc, h.len, val4_take_succ, val4_take_succ, Nat.pow_succ, Nat.mul_assoc, Nat.add_assoc, ← Nat.mul_add]
  have h4 : (c + a.getD i 0 + b.getD i 0) % 10000 + 10000 * ((c + a.getD i 0 + b.getD i 0) / 10000) = c + a.getD i 0 + b.getD i 0 := Nat.mod_add_div _ _
  rw [h4, Nat.mul_add, Nat.mul_add]
  have := h.eq
  omega
theorem PLI.fin {a b : List Nat} {i : Nat} {o : List Nat} (h : PLI a b i o 0) (h1 : a.length ≤ i) (h2 : b.length ≤ i) : val4 o = val4 a + val4 b := by
  have := h.eq
  rw [val4_take_all h1, val4_take_all h2] at this
  simpa using this
/-- a round of the difference -/
structure MII (a b : List Nat) (i : Nat) (o : List Nat) (c : Nat) : Prop where
  len : o.length = i
  sm : Sm4 o
  c1 : c ≤ 1
  eq : val4 o + val4 (b.take i) = val4 (a.take i) + 10000 ^ i * c - 0 * c
  le : val4 (b.take i) ≤ val4 (a.take i) + 10000 ^ i * c
theorem MII.start (a b : List Nat) : MII a b 0 [] 0 := ⟨rfl, Sm4.nil, by omega, by simp [val4], by simp [val4]⟩
theorem MII.next {a b : List Nat} {i : Nat} {o : List Nat} {c d e : Nat} (h : MII a b i o c) (hd : d < 10000) (he : e ≤ 1) (heq : d + b.getD i 0 + c = a.getD i 0 + 10000 * e) : MII a b (i + 1) (o ++ [d]) e := by
  have hv : val4 (o ++ [d]) + val4 (b.take (i + 1)) = val4 (a.take (i + 1)) + 10000 ^ (i + 1) * e := by
    rw [val4_snoc, h.len, val4_take_succ, val4_take_succ, Nat.pow_succ, Nat.mul_assoc]
    have := h.eq
    have h5 : 10000 ^ i * d + 10000 ^ i * b.getD i 0 + 10000 ^ i * c = 10000 ^ i * a.getD i 0 + 10000 ^ i * (10000 * e) := by rw [← Nat.mul_add, ← Nat.mul_add, heq, Nat.mul_add]
    omega
  exact ⟨by simp [h.len], h.sm.snoc hd, he, by omega, by omega⟩
theorem MII.fin {a b : List Nat} {o : List Nat} {c : Nat} (h : MII a b a.length o c) (h2 : b.length ≤ a.length) (hv : val4 b ≤ val4 a) : val4 o = val4 a - val4 b := by
  have h1 := h.eq
  have h3 := val4_lt h.sm
  rw [h.len] at h3
  rw [val4_take_all (Nat.le_refl _), val4_take_all h2] at h1
  have : c = 0 := by
    have := h.c1
    rcases Nat.lt_or_ge 0 c with h4 | h4
    · have : c = 1 := by omega
      subst this
      omega
    · omega
  subst this
  omega
/-- a row of the product, within: row i, column k -/
structure TII (a b : List Nat) (i k : Nat) (o : List Nat) (c : Nat) : Prop where
  len : o.length = a.length + b.length
  sm : Sm4 o
  c1 : c < 10000
  hi : i < a.length
  hk : k ≤ b.length
  eq : val4 o + 10000 ^ (i + k) * c = val4 (a.take i) * val4 b + 10000 ^ i * (a.getD i 0 * val4 (b.take k))
  z : ∀ j, i + b.length ≤ j → o.getD j 0 = 0
/-- rows of the product -/
structure TOI (a b : List Nat) (i : Nat) (o : List Nat) : Prop where
  len : o.length = a.length + b.length
  sm : Sm4 o
  hi : i ≤ a.length
  eq : val4 o = val4 (a.take i) * val4 b
  z : ∀ j, i + b.length ≤ j → o.getD j 0 = 0
theorem sm4_zeros (n : Nat) : Sm4 (List.replicate n 0) := fun x hx => by rw [List.eq_of_mem_replicate hx]; decide
theorem val4_replicate (n : Nat) : val4 (List.replicate n 0) = 0 := by
  induction n with
  | zero => rfl
  | succ n ih => rw [List.replicate_succ, val4, ih]
theorem TOI.start (a b : List Nat) : TOI a b 0 (List.replicate (a.length + b.length) 0) :=
  ⟨by simp, sm4_zeros _, Nat.zero_le _, by rw [val4_replicate]; simp [val4], fun j _ => by simp [List.getD, List.getElem?_replicate]; split <;> simp_all⟩
theorem TOI.row {a b : List Nat} {i : Nat} {o : List Nat} (h : TOI a b i o) (hi : i < a.length) : TII a b i 0 o 0 :=
  ⟨h.len, h.sm, by decide, hi, Nat.zero_le _, by simp [h.eq, val4], h.z⟩
theorem getD_set_ne (l : List Nat) {i j : Nat} (v : Nat) (h : i ≠ j) : (l.set i v).getD j 0 = l.getD j 0 := by
  simp [List.getD, List.getElem?_set_ne h]
theorem TII.next {a b : List Nat} {i k : Nat} {o : List Nat} {c : Nat} (h : TII a b i k o c) (hk : k < b.length) :
    o.getD (i + k) 0 + a.getD i 0 * b.getD k 0 + c < 100000000 ∧ i + k < o.length ∧
    (∀ (_ : Sm4 a) (_ : Sm4 b), TII a b i (k + 1) (o.set (i + k) ((o.getD (i + k) 0 + a.getD i 0 * b.getD k 0 + c) % 10000)) ((o.getD (i + k) 0 + a.getD i 0 * b.getD k 0 + c) / 10000)) ∨ ¬ (Sm4 a ∧ Sm4 b) := by
  by_cases hs : Sm4 a ∧ Sm4 b
  · refine .inl ?_
    have ho := h.sm.getD (i + k)
    have ha := hs.1.getD i
    have hb := hs.2.getD k
    have hc := h.c1
    have hp : a.getD i 0 * b.getD k 0 ≤ 9999 * 9999 := Nat.mul_le_mul (by omega) (by omega)
    have hl : i + k < o.length := by rw [h.len]; have := h.hi; omega
    refine ⟨by omega, hl, fun _ _ => ?_⟩
    generalize hn : o.getD (i + k) 0 + a.getD i 0 * b.getD k 0 + c = n at *
    refine ⟨by rw [List.length_set]; exact h.len, h.sm.set _ (Nat.mod_lt _ (by decide)), by omega, h.hi, hk, ?_, fun j hj => by rw [getD_set_ne _ _ (by omega)]; exact h.z j hj⟩
    have h1 := val4_set o (i + k) (n % 10000) hl
    have h2 := h.eq
    have h3 : 10000 ^ (i + (k + 1)) * (n / 10000) = 10000 ^ (i + k) * (10000 * (n / 10000)) := by rw [← Nat.add_assoc, Nat.pow_succ, Nat.mul_assoc]
    have h4 : 10000 ^ (i + k) * (n % 10000) + 10000 ^ (i + k) * (10000 * (n / 10000)) = 10000 ^ (i + k) * n := by rw [← Nat.mul_add, Nat.mod_add_div]
    have h5 : 10000 ^ (i + k) * n = 10000 ^ (i + k) * o.getD (i + k) 0 + 10000 ^ (i + k) * (a.getD i 0 * b.getD k 0) + 10000 ^ (i + k) * c := by rw [← hn, Nat.mul_add, Nat.mul_add]
    have h6 : 10000 ^ i * (a.getD i 0 * val4 (b.take (k + 1))) = 10000 ^ i * (a.getD i 0 * val4 (b.take k)) + 10000 ^ (i + k) * (a.getD i 0 * b.getD k 0) := by
      rw [val4_take_succ, Nat.mul_add, Nat.mul_add, Nat.pow_add]
      congr 1
      rw [Nat.mul_assoc, Nat.mul_left_comm (a.getD i 0)]
    rw [h3, h6]
    omega
  · exact .inr hs
theorem TII.fin {a b : List Nat} {i : Nat} {o : List Nat} {c : Nat} (h : TII a b i b.length o c) :
    i + b.length < o.length ∧ o.getD (i + b.length) 0 = 0 ∧ TOI a b (i + 1) (o.set (i + b.length) (o.getD (i + b.length) 0 + c)) := by
  have hl : i + b.length < o.length := by rw [h.len]; have := h.hi; omega
  have hz := h.z (i + b.length) (Nat.le_refl _)
  refine ⟨hl, hz, by rw [List.length_set]; exact h.len, h.sm.set _ (by rw [hz]; have := h.c1; omega), h.hi, ?_, fun j hj => by rw [getD_set_ne _ _ (by omega)]; exact h.z j (by omega)⟩
  have h1 := val4_set o (i + b.length) (o.getD (i + b.length) 0 + c) hl
  have h2 := h.eq
  rw [val4_take_all (Nat.le_refl b.length)] at h2
  rw [val4_take_succ, Nat.add_mul, Nat.mul_assoc]
  rw [hz, Nat.zero_add] at h1 ⊢
  omega
theorem TOI.fin {a b : List Nat} {o : List Nat} (h : TOI a b a.length o) : val4 o = val4 a * val4 b := by
  rw [h.eq, val4_take_all (Nat.le_refl _)]
theorem quo_lt {A B : Nat} (h : A < B * 10000) : A / B ≤ 9999 := by
  have := Nat.div_lt_of_lt_mul h
  omega
theorem val4_drop (l : List Nat) (k : Nat) : val4 (l.drop k) = l.getD k 0 + 10000 * val4 (l.drop (k + 1)) := by
  by_cases h : k < l.length
  · rw [List.drop_eq_getElem_cons h, val4]
    simp [List.getD, h]
  · rw [List.drop_eq_nil_of_le (by omega), List.drop_eq_nil_of_le (by omega)]
    simp [val4, List.getD, show l.length ≤ k by omega]
/-- a round of the quotient -/
structure OVI (a b : List Nat) (i : Nat) (quo : List Nat) (rem : Nat) : Prop where
  len : quo.length = a.length
  sm : Sm4 quo
  lt : rem < val4 b
  eq : val4 (a.drop i) = val4 (quo.drop i) * val4 b + rem
theorem OVI.start (a b : List Nat) (hb : 0 < val4 b) : OVI a b a.length (List.replicate a.length 0) 0 :=
  ⟨by simp, sm4_zeros _, hb, by simp [val4]⟩
theorem OVI.next {a b quo : List Nat} {i rem : Nat} (h : OVI a b (i + 1) quo rem) (hi : i < a.length) (ha : Sm4 a) : 
    a.getD i 0 + 10000 * rem < val4 b * 10000 ∧ OVI a b i (quo.set i ((a.getD i 0 + 10000 * rem) / val4 b)) ((a.getD i 0 + 10000 * rem) % val4 b) := by
  have h1 := ha.getD i
  have h2 := h.lt
  have h3 : a.getD i 0 + 10000 * rem < val4 b * 10000 := by omega
  have h4 := quo_lt h3
  refine ⟨h3, by rw [List.length_set]; exact h.len, h.sm.set _ (by omega), Nat.mod_lt _ (by omega), ?_⟩
  rw [val4_drop a i, h.eq]
  have e : (quo.set i ((a.getD i 0 + 10000 * rem) / val4 b)).drop i = ((a.getD i 0 + 10000 * rem) / val4 b) :: quo.drop (i + 1) := by
    have hl : i < (quo.set i ((a.getD i 0 + 10000 * rem) / val4 b)).length := by rw [List.length_set, h.len]; exact hi
    rw [List.drop_eq_getElem_cons hl, List.getElem_set_self, List.drop_set_of_lt (by omega)]
  rw [e, val4, Nat.add_mul]
  have := Nat.div_add_mod (a.getD i 0 + 10000 * rem) (val4 b)
  rw [Nat.mul_comm] at this
  rw [Nat.mul_add, Nat.mul_assoc]
  omega
structure TXI (v len : Nat) (D : List UInt8) : Prop where
  len : D.length = len
  dg : ∀ c ∈ D, 48 ≤ c.toNat ∧ c.toNat ≤ 57
  val : Wh.numOf D = v
theorem TXI.nil : TXI 0 0 [] := ⟨rfl, fun _ h => absurd h (by simp), rfl⟩
theorem TXI.cons {v len : Nat} {D : List UInt8} {d : Nat} (h : TXI v len D) (hd : d < 10) : TXI (d * 10 ^ len + v) (len + 1) (UInt8.ofNat (48 + d) :: D) := by
  have hn := Wh.toNat_digit hd
  refine ⟨by simp [h.len], fun c hc => ?_, ?_⟩
  · rcases List.mem_cons.1 hc with h1 | h1
    · rw [h1, hn]; omega
    · exact h.dg c h1
  · have := numOf_append [UInt8.ofNat (48 + d)] D
    rw [List.singleton_append] at this
    rw [this, h.val, h.len]
    have e : Wh.numOf [UInt8.ofNat (48 + d)] = d := by
      show 10 * 0 + ((UInt8.ofNat (48 + d)).toNat - 48) = d
      rw [hn]; omega
    rw [e]
theorem TXI.tail {v len : Nat} {c : UInt8} {D : List UInt8} (h : TXI v (len + 1) (c :: D)) (hc : c.toNat = 48) : TXI v len D := by
  refine ⟨by have := h.len; simpa using this, fun c hc => h.dg c (List.mem_cons_of_mem _ hc), ?_⟩
  have := numOf_append [c] D
  rw [List.singleton_append] at this
  rw [h.val] at this
  have e : Wh.numOf [c] = 0 := by simp [Wh.numOf, Wh.dv, hc]
  rw [e] at this
  omega
theorem TXI.fin {v len : Nat} {c : UInt8} {D : List UInt8} (h : TXI v len (c :: D)) (hc : c.toNat ≠ 48 ∨ D = []) : c :: D = Wh.decN v := by
  rw [← h.val]
  refine (Wh.decN_numOf h.dg (by simp) ?_).symm
  rcases hc with hc | hc
  · left; intro e; apply hc; simp at e; rw [e]; rfl
  · right; rw [hc]; rfl
/-- a slice of limbs, as it can be read -/
def RL4 (w : World) (v : Value) (l : List Nat) : Prop := ∃ a c, v = .slice a l.length c ∧ Il w a l.length l ∧ l.length ≤ c
theorem Il.mono {w w' : World} {a : Option Addr} {n : Nat} {l : List Nat} (h : Il w a n l) (hb : Below w.heap.size w w') : Il w' a n l := fun i hi => by
  obtain ⟨b, off, e, hl, hc⟩ := h i hi
  exact ⟨b, off, e, Nat.lt_of_lt_of_le hl hb.size, fun j hj => (hb.cell (p := ⟨b, off + j, none⟩) hl).trans (hc j hj)⟩
theorem RL4.mono {w w' : World} {v : Value} {l : List Nat} (h : RL4 w v l) (hb : Below w.heap.size w w') : RL4 w' v l := by
  obtain ⟨a, c, e, h1, h2⟩ := h; exact ⟨a, c, e, h1.mono hb, h2⟩
theorem RL4.nil (w : World) : RL4 w (.slice none 0 0) [] := ⟨none, 0, rfl, fun i hi => absurd hi (by simp), Nat.le_refl _⟩
theorem RL4.cut {w : World} {a : Option Addr} {c : Nat} {l : List Nat} {k : Nat} (h : Il w a l.length l) (hk : k ≤ l.length) (hc : l.length ≤ c) : RL4 w (.slice a k c) (l.take k) := by
  have e : (l.take k).length = k := by rw [List.length_take, Nat.min_eq_left hk]
  refine ⟨a, c, by rw [e], ?_, by omega⟩
  rw [e]
  intro i hi
  obtain ⟨b, off, e1, hl, hcc⟩ := h i (by omega)
  refine ⟨b, off, e1, hl, fun j hj => ?_⟩
  rw [hcc j (by omega)]
  simp [List.getD, hj]
end Go.Proofs.YteggbenhffmijaaGreatDoor

/- WALKS: the reference's limbs of a text: the walk. -/
namespace Go.Proofs.YteggbenhffmijaaGreatDoor
open Go.RowKit Go.Proofs.Rf
end Go.Proofs.YteggbenhffmijaaGreatDoor

/- WALKS: the reference's order, sum and difference of limbs. -/
namespace Go.Proofs.YteggbenhffmijaaGreatDoor
open Go.RowKit Go.Proofs.Rf
/-- what an append of a number wants -/
structure AppI (B : Nat) (wr A : World) (v : Value) (l : List Nat) (x : Int) : Prop where
  own : A.ownsRow B 3 1 v l.length (i64s l)
  cell : ∀ (j : Nat) (u : Value), [Value.int .i64 x][j]? = some u → A.cell? ((⟨wr.heap.size, 0, none⟩ : Addr).add j) = some u
  one : ∀ u ∈ [Value.int .i64 x], u.oneCell' = true
  big : B ≤ A.heap.size
  below : Below wr.heap.size wr A
end Go.Proofs.YteggbenhffmijaaGreatDoor

/- WALKS: the reference's difference of limbs. -/
namespace Go.Proofs.YteggbenhffmijaaGreatDoor
open Go.RowKit Go.Proofs.Rf
end Go.Proofs.YteggbenhffmijaaGreatDoor
