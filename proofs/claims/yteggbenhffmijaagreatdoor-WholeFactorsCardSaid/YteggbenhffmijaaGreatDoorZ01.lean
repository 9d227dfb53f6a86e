/- Part 1 of the proofs that laws of package whole answer true at every input and leave the input as it was, where the library's variables start as the text lays them (the texts M1, M2, M3, A1, M4, A2, A3, A4, A5, A6, M5, A7, A8, A9). -/
import Derived.Test.YteggbenhffmijaaGreatDoorProg
import Derived.Lib.Hide
import Derived.WalkKit
import Derived.WalkSpells
import Derived.WalkLawsBesides
import Derived.Deep.OwnRows
import Derived.Deep.QuietTactic
import Derived.BigQuiet
import Derived.Deep.RegionHeld3
set_option linter.unusedVariables false
set_option linter.unusedSimpArgs false
/- limbs in base 10^9, the lowest first -/
namespace Wh
def R : Nat := 1000000000
theorem R_pos : 0 < R := by decide
theorem R_gt : 1 < R := by decide
theorem R_eq : R = 1000000000 := rfl
def val : List Nat → Nat
  | [] => 0
  | x :: xs => x + R * val xs
def limbs (n : Nat) : List Nat := if _h : n = 0 then [] else n % R :: limbs (n / R)
termination_by n
decreasing_by exact Nat.div_lt_self (by omega) R_gt
def Ok (l : List Nat) : Prop := ∀ x ∈ l, x < R
def trimL (l : List Nat) : List Nat := limbs (val l)
theorem limbs_zero : limbs 0 = [] := by rw [limbs]; rfl
theorem limbs_pos {n : Nat} (h : 0 < n) : limbs n = n % R :: limbs (n / R) := by
  rw [limbs]; rw [dif_neg (by omega)]
theorem val_limbs (n : Nat) : val (limbs n) = n := by
  induction n using Nat.strongRecOn with
  | ind n ih =>
    by_cases h : n = 0
    · subst h; rw [limbs_zero]; rfl
    · rw [limbs_pos (by omega), val, ih (n / R) (Nat.div_lt_self (by omega) R_gt)]
      exact Nat.mod_add_div n R
theorem ok_limbs (n : Nat) : Ok (limbs n) := by
  induction n using Nat.strongRecOn with
  | ind n ih =>
    by_cases h : n = 0
    · subst h; rw [limbs_zero]; intro x hx; cases hx
    · rw [limbs_pos (by omega)]
      intro x hx
      cases hx with
      | head => exact Nat.mod_lt _ R_pos
      | tail _ hx => exact ih _ (Nat.div_lt_self (by omega) R_gt) x hx
theorem ok_nil : Ok [] := fun _ h => by cases h
theorem ok_cons {x : Nat} {l : List Nat} : Ok (x :: l) ↔ x < R ∧ Ok l := by
  simp [Ok]
theorem ok_append {l m : List Nat} : Ok (l ++ m) ↔ Ok l ∧ Ok m := by
  simp only [Ok, List.mem_append]
  exact ⟨fun h => ⟨fun x hx => h x (.inl hx), fun x hx => h x (.inr hx)⟩, fun ⟨a, b⟩ x hx => hx.elim (a x) (b x)⟩
theorem val_lt {l : List Nat} (h : Ok l) : val l < R ^ l.length := by
  induction l with
  | nil => exact Nat.zero_lt_one
  | cons x xs ih =>
    have ⟨h1, h2⟩ := ok_cons.1 h
    have := ih h2
    rw [val, List.length_cons, Nat.pow_succ]
    calc x + R * val xs < R + R * val xs := by omega
      _ = R * (val xs + 1) := by rw [Nat.mul_add, Nat.mul_one, Nat.add_comm]
      _ ≤ R * R ^ xs.length := Nat.mul_le_mul_left _ this
      _ = R ^ xs.length * R := Nat.mul_comm _ _
theorem val_append (l m : List Nat) : val (l ++ m) = val l + R ^ l.length * val m := by
  induction l with
  | nil => simp [val]
  | cons x xs ih =>
    rw [List.cons_append, val, val, ih, List.length_cons, Nat.mul_add, Nat.pow_succ]
    rw [Nat.mul_comm (R ^ xs.length) R, Nat.mul_assoc, Nat.add_assoc]
theorem val_replicate (k : Nat) : val (List.replicate k 0) = 0 := by
  induction k with
  | zero => rfl
  | succ k ih => rw [List.replicate_succ, val, ih, Nat.mul_zero]
theorem limbs_add_mul {x : Nat} (hx : x < R) {n : Nat} (h : 0 < x + R * n) : limbs (x + R * n) = x :: limbs n := by
  rw [limbs_pos h, Nat.add_mul_mod_self_left, Nat.mod_eq_of_lt hx, Nat.add_mul_div_left _ _ R_pos, Nat.div_eq_of_lt hx, Nat.zero_add]
/-- a list of limbs whose last one is not zero is its number's -/
theorem limbs_of_last {l : List Nat} (h : Ok l) (hl : l ≠ [] → l.getLastD 0 ≠ 0) : limbs (val l) = l := by
  induction l with
  | nil => exact limbs_zero
  | cons x xs ih =>
    have ⟨h1, h2⟩ := ok_cons.1 h
    rw [val]
    cases xs with
    | nil =>
      have : x ≠ 0 := by simpa [List.getLastD] using hl (by simp)
      rw [limbs_add_mul h1 (by simp [val]; omega)]
      simp [val, limbs_zero]
    | cons y ys =>
      have e := ih h2 (fun _ => by simpa [List.getLastD] using hl (by simp))
      have hp : 0 < val (y :: ys) := by
        rcases Nat.eq_zero_or_pos (val (y :: ys)) with h0 | h0
        · rw [h0, limbs_zero] at e; cases e
        · exact h0
      have : 0 < R * val (y :: ys) := Nat.mul_pos R_pos hp
      rw [limbs_add_mul h1 (by omega), e]
/-- cutting off a zero at the high end -/
theorem trim_zero (l : List Nat) : trimL (l ++ [0]) = trimL l := by
  unfold trimL; rw [val_append]; simp [val]
theorem trim_last {l : List Nat} (h : Ok l) (hl : l ≠ [] → l.getLastD 0 ≠ 0) : trimL l = l := limbs_of_last h hl
theorem limbs_length_le {n k : Nat} (h : n < R ^ k) : (limbs n).length ≤ k := by
  induction k generalizing n with
  | zero => have : n = 0 := by simpa using h
            subst this; rw [limbs_zero]; exact Nat.le_refl _
  | succ k ih =>
    by_cases h0 : n = 0
    · subst h0; rw [limbs_zero]; exact Nat.zero_le _
    · rw [limbs_pos (by omega), List.length_cons]
      have : n / R < R ^ k := (Nat.div_lt_iff_lt_mul R_pos).2 (by rw [← Nat.pow_succ]; exact h)
      have := ih this; omega
theorem lt_pow_limbs (n : Nat) : n < R ^ (limbs n).length := by
  have := val_lt (ok_limbs n); rwa [val_limbs] at this
theorem limbs_length_mono {m n : Nat} (h : m ≤ n) : (limbs m).length ≤ (limbs n).length :=
  limbs_length_le (Nat.lt_of_le_of_lt h (lt_pow_limbs n))
theorem limbs_lt_of_length {m n : Nat} (h : (limbs m).length < (limbs n).length) : m < n := by
  rcases Nat.lt_or_ge m n with h' | h'
  · exact h'
  · have := limbs_length_mono h'; omega
theorem limbs_nil {n : Nat} : limbs n = [] ↔ n = 0 := by
  constructor
  · intro h; have := val_limbs n; rw [h] at this; exact this.symm
  · rintro rfl; exact limbs_zero
theorem limbs_last (n : Nat) : limbs n ≠ [] → (limbs n).getLastD 0 ≠ 0 := by
  induction n using Nat.strongRecOn with
  | ind n ih =>
    intro h
    have h0 : n ≠ 0 := fun e => h (by rw [e]; exact limbs_zero)
    rw [limbs_pos (by omega)]
    by_cases hq : n / R = 0
    · rw [hq, limbs_zero]
      have : n < R := by
        rcases Nat.lt_or_ge n R with h | h
        · exact h
        · have := Nat.div_pos h R_pos; omega
      simp [List.getLastD, Nat.mod_eq_of_lt this, h0]
    · have hne : limbs (n / R) ≠ [] := fun e => hq (limbs_nil.1 e)
      have := ih (n / R) (Nat.div_lt_self (by omega) R_gt) hne
      cases hl : limbs (n / R) with
      | nil => exact absurd hl hne
      | cons y ys => rw [hl] at this; simpa [List.getLastD] using this
/-- sums of limbs, by index -/
def sum (g : Nat → Nat) : Nat → Nat
  | 0 => 0
  | n + 1 => sum g n + R ^ n * g n
theorem sum_congr {f g : Nat → Nat} {n : Nat} (h : ∀ i, i < n → f i = g i) : sum f n = sum g n := by
  induction n with
  | zero => rfl
  | succ n ih => rw [sum, sum, ih (fun i hi => h i (by omega)), h n (by omega)]
theorem sum_lt {g : Nat → Nat} {n : Nat} (h : ∀ i, i < n → g i < R) : sum g n < R ^ n := by
  induction n with
  | zero => exact Nat.zero_lt_one
  | succ n ih =>
    have h1 := ih (fun i hi => h i (by omega))
    have h2 : R ^ n * g n ≤ R ^ n * (R - 1) := Nat.mul_le_mul_left _ (by have := h n (by omega); omega)
    rw [sum, Nat.pow_succ]
    have h3 : R ^ n * R = R ^ n * (R - 1) + R ^ n := by rw [← Nat.mul_succ]; rfl
    omega
theorem val_snoc (l : List Nat) (x : Nat) : val (l ++ [x]) = val l + R ^ l.length * x := by rw [val_append]; simp [val]
theorem take_snoc (l : List Nat) (n : Nat) (h : n < l.length) : l.take (n + 1) = l.take n ++ [l.getD n 0] := by
  rw [List.take_succ_eq_append_getElem h]; simp [List.getD, h]
theorem val_take (l : List Nat) (n : Nat) : val (l.take n) = sum (l.getD · 0) n := by
  induction n with
  | zero => simp [sum, val]
  | succ n ih =>
    rcases Nat.lt_or_ge n l.length with h | h
    · rw [take_snoc l n h, val_snoc, sum, ih, List.length_take, Nat.min_eq_left (by omega)]
    · rw [sum, ← ih, List.take_of_length_le (by omega), List.take_of_length_le (by omega)]
      simp [List.getD, h]
theorem val_sum (l : List Nat) : val l = sum (l.getD · 0) l.length := by
  rw [← val_take, List.take_length]
theorem val_sum_ge (l : List Nat) (n : Nat) (h : l.length ≤ n) : val l = sum (l.getD · 0) n := by
  rw [← val_take, List.take_of_length_le h]
/-- a step of a combination: the digit, and what is handed on -/
def plusN (x y c : Nat) : Nat × Nat := if R ≤ x + y + c then (x + y + c - R, 1) else (x + y + c, 0)
def minusN (x y c : Nat) : Nat × Nat := if x < y + c then (x + R - (y + c), 1) else (x - (y + c), 0)
def car (f : Nat → Nat → Nat → Nat × Nat) (x y : Nat → Nat) : Nat → Nat
  | 0 => 0
  | n + 1 => (f (x n) (y n) (car f x y n)).2
def dig (f : Nat → Nat → Nat → Nat × Nat) (x y : Nat → Nat) (n : Nat) : Nat := (f (x n) (y n) (car f x y n)).1
theorem plus_step {x y c : Nat} (hx : x < R) (hy : y < R) (hc : c ≤ 1) : (plusN x y c).1 < R ∧ (plusN x y c).2 ≤ 1 ∧ (plusN x y c).1 + R * (plusN x y c).2 = x + y + c := by
  unfold plusN; split <;> simp <;> omega
theorem minus_step {x y c : Nat} (hx : x < R) (hy : y < R) (hc : c ≤ 1) : (minusN x y c).1 < R ∧ (minusN x y c).2 ≤ 1 ∧ (minusN x y c).1 + y + c = x + R * (minusN x y c).2 := by
  unfold minusN; split <;> simp <;> omega
theorem plus_sum {x y : Nat → Nat} (hx : ∀ i, x i < R) (hy : ∀ i, y i < R) (n : Nat) :
    car plusN x y n ≤ 1 ∧ sum (dig plusN x y) n + R ^ n * car plusN x y n = sum x n + sum y n := by
  induction n with
  | zero => simp [car, sum]
  | succ n ih =>
    obtain ⟨h1, h2⟩ := ih
    obtain ⟨_, a2, a3⟩ := plus_step (hx n) (hy n) h1
    refine ⟨a2, ?_⟩
    have e : R ^ (n + 1) * car plusN x y (n + 1) = R ^ n * (R * (plusN (x n) (y n) (car plusN x y n)).2) := by rw [car, Nat.pow_succ, Nat.mul_assoc]
    have e2 : R ^ n * (dig plusN x y n) + R ^ n * (R * (plusN (x n) (y n) (car plusN x y n)).2) = R ^ n * x n + R ^ n * y n + R ^ n * car plusN x y n := by
      rw [← Nat.mul_add, ← Nat.mul_add, ← Nat.mul_add]; exact congrArg _ a3
    rw [sum, sum, sum, e]; omega
theorem minus_sum {x y : Nat → Nat} (hx : ∀ i, x i < R) (hy : ∀ i, y i < R) (n : Nat) :
    car minusN x y n ≤ 1 ∧ sum (dig minusN x y) n + sum y n = sum x n + R ^ n * car minusN x y n := by
  induction n with
  | zero => simp [car, sum]
  | succ n ih =>
    obtain ⟨h1, h2⟩ := ih
    obtain ⟨_, a2, a3⟩ := minus_step (hx n) (hy n) h1
    refine ⟨a2, ?_⟩
    have e : R ^ (n + 1) * car minusN x y (n + 1) = R ^ n * (R * (minusN (x n) (y n) (car minusN x y n)).2) := by rw [car, Nat.pow_succ, Nat.mul_assoc]
    have e2 : R ^ n * (dig minusN x y n) + R ^ n * y n + R ^ n * car minusN x y n = R ^ n * x n + R ^ n * (R * (minusN (x n) (y n) (car minusN x y n)).2) := by
      rw [← Nat.mul_add, ← Nat.mul_add, ← Nat.mul_add]; exact congrArg _ a3
    rw [sum, sum, sum, e]; omega
theorem plus_dig {x y : Nat → Nat} (hx : ∀ i, x i < R) (hy : ∀ i, y i < R) (n : Nat) : dig plusN x y n < R := (plus_step (hx n) (hy n) (plus_sum hx hy n).1).1
theorem minus_dig {x y : Nat → Nat} (hx : ∀ i, x i < R) (hy : ∀ i, y i < R) (n : Nat) : dig minusN x y n < R := (minus_step (hx n) (hy n) (minus_sum hx hy n).1).1
/-- nothing is borrowed in the end if the first number is not less -/
theorem minus_none {x y : Nat → Nat} (hx : ∀ i, x i < R) (hy : ∀ i, y i < R) (n : Nat) (h : sum y n ≤ sum x n) : car minusN x y n = 0 := by
  obtain ⟨h1, h2⟩ := minus_sum hx hy n
  have h3 := sum_lt (fun i (_ : i < n) => minus_dig hx hy i)
  rcases Nat.eq_zero_or_pos (car minusN x y n) with h0 | h0
  · exact h0
  · have : car minusN x y n = 1 := by omega
    rw [this, Nat.mul_one] at h2; omega
/-- the list of a combination -/
def comb (f : Nat → Nat → Nat → Nat × Nat) (xs ys : List Nat) : List Nat :=
  (List.range xs.length).map (dig f (xs.getD · 0) (ys.getD · 0)) ++ [car f (xs.getD · 0) (ys.getD · 0) xs.length]
theorem val_map_range (g : Nat → Nat) (n : Nat) : val ((List.range n).map g) = sum g n := by
  induction n with
  | zero => rfl
  | succ n ih => rw [List.range_succ, List.map_append, List.map_singleton, val_snoc, ih, sum]; simp
theorem getD_lt {l : List Nat} (h : Ok l) (i : Nat) : l.getD i 0 < R := by
  rcases Nat.lt_or_ge i l.length with hi | hi
  · simp only [List.getD, List.getElem?_eq_getElem hi, Option.getD_some]; exact h _ (List.getElem_mem hi)
  · simp [List.getD, hi, R_pos]
theorem comb_plus {xs ys : List Nat} (hx : Ok xs) (hy : Ok ys) (h : ys.length ≤ xs.length) : Ok (comb plusN xs ys) ∧ val (comb plusN xs ys) = val xs + val ys := by
  obtain ⟨h1, h2⟩ := plus_sum (getD_lt hx) (getD_lt hy) xs.length
  refine ⟨ok_append.2 ⟨?_, ok_cons.2 ⟨Nat.lt_of_le_of_lt h1 R_gt, ok_nil⟩⟩, ?_⟩
  · intro z hz
    obtain ⟨i, _, rfl⟩ := List.mem_map.1 hz
    exact plus_dig (getD_lt hx) (getD_lt hy) i
  · rw [comb, val_snoc, val_map_range, List.length_map, List.length_range, h2, ← val_sum, ← val_sum_ge ys _ h]
theorem comb_minus {xs ys : List Nat} (hx : Ok xs) (hy : Ok ys) (h : ys.length ≤ xs.length) (hv : val ys ≤ val xs) : Ok (comb minusN xs ys) ∧ val (comb minusN xs ys) = val xs - val ys := by
  obtain ⟨h1, h2⟩ := minus_sum (getD_lt hx) (getD_lt hy) xs.length
  have h0 := minus_none (getD_lt hx) (getD_lt hy) xs.length (by rw [← val_sum, ← val_sum_ge ys _ h]; exact hv)
  refine ⟨ok_append.2 ⟨?_, ok_cons.2 ⟨Nat.lt_of_le_of_lt h1 R_gt, ok_nil⟩⟩, ?_⟩
  · intro z hz
    obtain ⟨i, _, rfl⟩ := List.mem_map.1 hz
    exact minus_dig (getD_lt hx) (getD_lt hy) i
  · rw [comb, val_snoc, val_map_range, List.length_map, List.length_range]
    rw [h0] at h2 ⊢
    rw [← val_sum, ← val_sum_ge ys _ h] at h2
    omega
end Wh

namespace Wh
/-- setting one limb -/
theorem val_set (l : List Nat) (k v : Nat) (h : k < l.length) : val (l.set k v) + R ^ k * l.getD k 0 = val l + R ^ k * v := by
  induction l generalizing k with
  | nil => simp at h
  | cons x xs ih =>
    cases k with
    | zero => simp [val]; omega
    | succ k =>
      have := ih k (by simpa using h)
      simp only [List.set_cons_succ, val, List.getD_cons_succ]
      have e : ∀ z, R ^ (k + 1) * z = R * (R ^ k * z) := fun z => by rw [Nat.pow_succ, Nat.mul_comm (R ^ k) R, Nat.mul_assoc]
      rw [e, e]
      have := congrArg (R * ·) this
      simp only [Nat.mul_add] at this
      omega
theorem ok_set {l : List Nat} (h : Ok l) {k v : Nat} (hv : v < R) : Ok (l.set k v) := by
  intro x hx
  rcases List.mem_or_eq_of_mem_set hx with h' | h'
  · exact h x h'
  · rw [h']; exact hv
theorem ok_replicate (k : Nat) : Ok (List.replicate k 0) := fun x hx => by rw [List.eq_of_mem_replicate hx]; exact R_pos
theorem val_take_drop (l : List Nat) (n : Nat) (h : n ≤ l.length) : val l = val (l.take n) + R ^ n * val (l.drop n) := by
  have := val_append (l.take n) (l.drop n)
  rw [List.take_append_drop, List.length_take, Nat.min_eq_left h] at this
  exact this
theorem val_drop (l : List Nat) (n : Nat) (h : n < l.length) : val (l.drop n) = l.getD n 0 + R * val (l.drop (n + 1)) := by
  rw [List.drop_eq_getElem_cons h, val]; simp [List.getD, h]
/-- one step of the inner loop of a product: the cell is x y + cell + carry -/
theorem mul_step {x y c o : Nat} (hx : x < R) (hy : y < R) (hc : c < R) (ho : o < R) : (x * y + o + c) / R < R ∧ (x * y + o + c) < 18446744073709551616 := by
  have h1 : x * y ≤ (R - 1) * (R - 1) := Nat.mul_le_mul (by omega) (by omega)
  have h2 : (R - 1) * (R - 1) + (R - 1) + (R - 1) < R * R := by decide
  have h3 : x * y + o + c < R * R := by omega
  refine ⟨(Nat.div_lt_iff_lt_mul R_pos).2 h3, ?_⟩
  have : R * R = 1000000000000000000 := by decide
  omega
/-- what holds in a product behind j steps of row i: t is what the room stood for at the row's beginning -/
theorem mul_inner {r : List Nat} {i j x y c t B : Nat} (hk : i + j < r.length) (h : val r + R ^ (i + j) * c = t + R ^ i * (x * B)) :
    val (r.set (i + j) ((x * y + r.getD (i + j) 0 + c) % R)) + R ^ (i + j + 1) * ((x * y + r.getD (i + j) 0 + c) / R) = t + R ^ i * (x * (B + R ^ j * y)) := by
  have h1 := val_set r (i + j) ((x * y + r.getD (i + j) 0 + c) % R) hk
  have h2 := Nat.mod_add_div (x * y + r.getD (i + j) 0 + c) R
  have h3 := congrArg (R ^ (i + j) * ·) h2
  simp only [Nat.mul_add] at h3
  rw [← Nat.mul_assoc (R ^ (i + j)) R, ← Nat.pow_succ, Nat.succ_eq_add_one] at h3
  have e : R ^ i * (x * (B + R ^ j * y)) = R ^ i * (x * B) + R ^ (i + j) * (x * y) := by
    rw [Nat.mul_add, Nat.mul_add, Nat.pow_add, Nat.mul_assoc (R ^ i) (R ^ j)]
    congr 2
    rw [← Nat.mul_assoc, ← Nat.mul_assoc, Nat.mul_comm x]
  rw [e]; omega
/-- the end of a row: the carry is laid into a zero -/
theorem mul_row_end {r : List Nat} {i m x c t B : Nat} (hk : i + m < r.length) (hz : r.getD (i + m) 0 = 0) (h : val r + R ^ (i + m) * c = t + R ^ i * (x * B)) :
    val (r.set (i + m) c) = t + R ^ i * (x * B) := by
  have := val_set r (i + m) c hk
  rw [hz] at this; omega
end Wh

namespace Wh
/-- decimal digits, the highest first, as bytes -/
def decN (n : Nat) : List UInt8 := if _h : n < 10 then [UInt8.ofNat (48 + n)] else decN (n / 10) ++ [UInt8.ofNat (48 + n % 10)]
termination_by n
decreasing_by omega
def decI (x : Int) : List UInt8 := if x < 0 then 45 :: decN x.natAbs else decN x.natAbs
def dv (c : UInt8) : Nat := c.toNat - 48
def numOf (l : List UInt8) : Nat := l.foldl (fun a c => 10 * a + dv c) 0
def isD (c : UInt8) : Prop := 48 ≤ c.toNat ∧ c.toNat ≤ 57
theorem snocInd {α : Type} {P : List α → Prop} (h0 : P []) (h1 : ∀ l c, P l → P (l ++ [c])) (l : List α) : P l := by
  have : ∀ m : List α, P m.reverse := by
    intro m
    induction m with
    | nil => exact h0
    | cons c m ih => rw [List.reverse_cons]; exact h1 _ _ ih
  have := this l.reverse
  rwa [List.reverse_reverse] at this
theorem numOf_snoc (l : List UInt8) (c : UInt8) : numOf (l ++ [c]) = 10 * numOf l + dv c := by simp [numOf]
theorem decN_small {n : Nat} (h : n < 10) : decN n = [UInt8.ofNat (48 + n)] := by rw [decN]; simp [h]
theorem decN_big {n : Nat} (h : ¬ n < 10) : decN n = decN (n / 10) ++ [UInt8.ofNat (48 + n % 10)] := by rw [decN]; simp [h]
theorem toNat_digit {d : Nat} (h : d < 10) : (UInt8.ofNat (48 + d)).toNat = 48 + d := by
  rw [UInt8.toNat_ofNat']; omega
theorem numOf_decN (n : Nat) : numOf (decN n) = n := by
  induction n using Nat.strongRecOn with
  | ind n ih =>
    by_cases h : n < 10
    · rw [decN_small h]; simp [numOf, dv]; omega
    · rw [decN_big h, numOf_snoc, ih _ (by omega), dv, toNat_digit (by omega)]; omega
theorem decN_digits (n : Nat) : ∀ c ∈ decN n, isD c := by
  induction n using Nat.strongRecOn with
  | ind n ih =>
    by_cases h : n < 10
    · rw [decN_small h]; intro c hc; rw [List.mem_singleton.1 hc, isD, toNat_digit h]; omega
    · rw [decN_big h]
      intro c hc
      rcases List.mem_append.1 hc with hc | hc
      · exact ih _ (by omega) c hc
      · rw [List.mem_singleton.1 hc, isD, toNat_digit (by omega)]; omega
theorem decN_ne (n : Nat) : decN n ≠ [] := by
  rw [decN]; split <;> simp
theorem decN_length_pos (n : Nat) : 0 < (decN n).length := List.length_pos_iff.2 (decN_ne n)
theorem decN_head (n : Nat) (h : 0 < n) : (decN n).headD 0 ≠ 48 := by
  induction n using Nat.strongRecOn with
  | ind n ih =>
    by_cases h9 : n < 10
    · rw [decN_small h9]
      intro e
      have := congrArg UInt8.toNat e
      simp only [List.headD_cons, toNat_digit h9] at this
      have e2 : (48 : UInt8).toNat = 48 := rfl
      omega
    · rw [decN_big h9]
      have := ih (n / 10) (by omega) (by omega)
      cases hl : decN (n / 10) with
      | nil => exact absurd hl (decN_ne _)
      | cons c cs => rw [hl] at this; simpa using this
theorem decN_zero : decN 0 = [48] := by rw [decN_small (by omega)]; rfl
theorem numOf_lt {l : List UInt8} (h : ∀ c ∈ l, isD c) : numOf l < 10 ^ l.length := by
  induction l using snocInd with
  | h0 => exact Nat.one_pos
  | h1 l c ih =>
    rw [numOf_snoc, List.length_append, List.length_singleton, Nat.pow_succ]
    have h1 := ih (fun x hx => h x (List.mem_append_left _ hx))
    have h2 := h c (by simp)
    unfold isD at h2; unfold dv; omega
theorem lt_pow_decN (n : Nat) : n < 10 ^ (decN n).length := by
  have := numOf_lt (decN_digits n); rwa [numOf_decN] at this
theorem decN_length_le {n k : Nat} (hk : 0 < k) (h : n < 10 ^ k) : (decN n).length ≤ k := by
  induction k generalizing n with
  | zero => omega
  | succ k ih =>
    by_cases h9 : n < 10
    · rw [decN_small h9]; simp
    · rw [decN_big h9, List.length_append, List.length_singleton]
      have hk0 : 0 < k := by
        rcases Nat.eq_zero_or_pos k with h0 | h0
        · subst h0; simp at h; omega
        · exact h0
      have := ih (n := n / 10) hk0 (by rw [Nat.pow_succ] at h; omega)
      omega
theorem pow_le_decN {n : Nat} (h : 0 < n) : 10 ^ ((decN n).length - 1) ≤ n := by
  rcases Nat.lt_or_ge n (10 ^ ((decN n).length - 1)) with hlt | hge
  · have hp := decN_length_pos n
    rcases Nat.eq_zero_or_pos ((decN n).length - 1) with h0 | h0
    · rw [h0] at hlt; simp at hlt; omega
    · have := decN_length_le h0 hlt; omega
  · exact hge
/-- digits without a leading zero are those of their number -/
theorem decN_numOf {l : List UInt8} (hd : ∀ c ∈ l, isD c) (hne : l ≠ []) (hz : l.headD 0 ≠ 48 ∨ l.length = 1) : decN (numOf l) = l := by
  induction l using snocInd with
  | h0 => exact absurd rfl hne
  | h1 l c ih =>
    have hc := hd c (by simp)
    have hcd : UInt8.ofNat (48 + dv c) = c := by
      apply UInt8.toNat_inj.1
      rw [toNat_digit (by unfold isD at hc; unfold dv; omega)]; unfold isD at hc; unfold dv; omega
    have hdv : dv c < 10 := by unfold isD at hc; unfold dv; omega
    rw [numOf_snoc]
    by_cases hl : l = []
    · subst hl
      simp only [numOf, List.foldl_nil, Nat.mul_zero, Nat.zero_add, List.nil_append]
      rw [decN_small hdv, hcd]
    · have hh : l.headD 0 ≠ 48 := by
        cases l with
        | nil => exact absurd rfl hl
        | cons y ys =>
          rcases hz with h | h
          · simpa using h
          · simp at h
      have hi := ih (fun x hx => hd x (List.mem_append_left _ hx)) hl (.inl hh)
      have hpos : 0 < numOf l := by
        rcases Nat.eq_zero_or_pos (numOf l) with h0 | h0
        · rw [h0, decN_zero] at hi; rw [← hi] at hh; exact absurd rfl hh
        · exact h0
      rw [decN_big (by omega)]
      have e1 : (10 * numOf l + dv c) / 10 = numOf l := by omega
      have e2 : (10 * numOf l + dv c) % 10 = dv c := by omega
      rw [e1, e2, hi, hcd]
theorem numOf_append (l m : List UInt8) : numOf (l ++ m) = numOf l * 10 ^ m.length + numOf m := by
  induction m using snocInd with
  | h0 => simp [numOf]
  | h1 m c ih =>
    rw [← List.append_assoc, numOf_snoc, ih, numOf_snoc, List.length_append, List.length_singleton, Nat.pow_succ]
    rw [Nat.mul_add, ← Nat.mul_assoc (numOf l), Nat.mul_comm 10 (numOf l * _)]; omega
end Wh

/- WALKS, part 1: the leaves: digits, directions, signs, one limb plus, minus another one. -/
namespace Go.Proofs.YteggbenhffmijaaGreatDoor
open Go.RowKit
set_option maxHeartbeats 400000 in
theorem direction_any (b : Bool) (w : World) :
    Calls Tryz.prog 190 #[.bool b] w fun e w' => e = .returned (.int .i64 (if b then -1 else 1)) ∧ w = w' := by
  cases b
  · go_enter Tryz.func190, Tryz.ntmps190
    go_wp2
    go_ret
    exact ⟨rfl, rfl⟩
  · go_enter Tryz.func190, Tryz.ntmps190
    go_wp2
    go_ret
    exact ⟨rfl, rfl⟩
set_option maxHeartbeats 400000 in
theorem demand_yes (o : Int) (w : World) :
    Calls Tryz.prog 97 #[.bool true, .int .i64 o] w fun e w' => e = .returned (.tuple #[]) ∧ w = w' := by
  go_enter Tryz.func97, Tryz.ntmps97
  go_wp2
  go_end0
  exact ⟨rfl, rfl⟩
set_option maxHeartbeats 400000 in
theorem mark_below (w : World) :
    Calls Tryz.prog 198 #[.int .i64 (-1)] w fun e w' => e = .returned (.string ⟨#[45]⟩) ∧ w = w' := by
  go_enter Tryz.func198, Tryz.ntmps198
  go_wp2
  go_ret
  exact ⟨rfl, rfl⟩
set_option maxHeartbeats 400000 in
theorem mark_other (s : Int) (h : 0 ≤ s) (w : World) :
    Calls Tryz.prog 198 #[.int .i64 s] w fun e w' => e = .returned (.string ⟨#[]⟩) ∧ w = w' := by
  go_enter Tryz.func198, Tryz.ntmps198
  go_wp2
  go_ret
  exact ⟨rfl, rfl⟩
set_option maxHeartbeats 400000 in
theorem with_any (s t : Int) (hs : -1 ≤ s ∧ s ≤ 1) (ht : -1 ≤ t ∧ t ≤ 1) (w : World) :
    Calls Tryz.prog 242 #[.int .i64 s, .int .i64 t] w fun e w' => e = .returned (.int .i64 (s * t)) ∧ w = w' := by
  have hp : -1 ≤ s * t ∧ s * t ≤ 1 := by
    obtain ⟨a, b⟩ := hs; obtain ⟨c, d⟩ := ht
    have hs : s = -1 ∨ s = 0 ∨ s = 1 := by omega
    rcases hs with rfl | rfl | rfl <;> omega
  obtain ⟨hp1, hp2⟩ := hp
  go_enter Tryz.func242, Tryz.ntmps242
  go_wp2
  go_ret
  exact ⟨rfl, rfl⟩
set_option maxHeartbeats 400000 in
theorem turned_any (s : Int) (hs : -1 ≤ s ∧ s ≤ 1) (w : World) :
    Calls Tryz.prog 309 #[.int .i64 s] w fun e w' => e = .returned (.int .i64 (-s)) ∧ w = w' := by
  obtain ⟨a, b⟩ := hs
  go_enter Tryz.func309, Tryz.ntmps309
  go_wp2
  go_ret
  exact ⟨rfl, rfl⟩
def u32 (n : Nat) : Value := .int .u32 n
def pairV (p : Nat × Nat) : Value := .tuple #[.int .u32 p.1, .int .u32 p.2]
set_option maxHeartbeats 400000 in
theorem plus_any (a b c : Nat) (ha : a < 1000000000) (hb : b < 1000000000) (hc : c ≤ 1) (w : World) :
    Calls Tryz.prog 288 #[.int .u32 a, .int .u32 b, .int .u32 c] w fun e w' => e = .returned (pairV (Wh.plusN a b c)) ∧ w = w' := by
  by_cases h : 1000000000 ≤ a + b + c
  · have hf : Wh.plusN a b c = (a + b + c - 1000000000, 1) := by unfold Wh.plusN Wh.R; rw [if_pos h]
    have H := Lib.hid hf; clear hf
    have h' : (1000000000 : Int) ≤ (a : Int) + b + c := by omega
    go_enter Tryz.func288, Tryz.ntmps288
    go_wp2
    go_ret2
    exact ⟨by rw [H.out]; simp [pairV]; omega, rfl⟩
  · have hf : Wh.plusN a b c = (a + b + c, 0) := by unfold Wh.plusN Wh.R; rw [if_neg h]
    have H := Lib.hid hf; clear hf
    have h' : ¬ (1000000000 : Int) ≤ (a : Int) + b + c := by omega
    go_enter Tryz.func288, Tryz.ntmps288
    go_wp2
    go_ret2
    exact ⟨by rw [H.out]; simp [pairV], rfl⟩
set_option maxHeartbeats 400000 in
theorem minus_any (a b c : Nat) (ha : a < 1000000000) (hb : b < 1000000000) (hc : c ≤ 1) (w : World) :
    Calls Tryz.prog 287 #[.int .u32 a, .int .u32 b, .int .u32 c] w fun e w' => e = .returned (pairV (Wh.minusN a b c)) ∧ w = w' := by
  by_cases h : a < b + c
  · have hf : Wh.minusN a b c = (a + 1000000000 - (b + c), 1) := by unfold Wh.minusN Wh.R; rw [if_pos h]
    have H := Lib.hid hf; clear hf
    have h' : (a : Int) < (b : Int) + c := by omega
    go_enter Tryz.func287, Tryz.ntmps287
    go_wp2
    go_ret2
    exact ⟨by rw [H.out]; simp [pairV]; omega, rfl⟩
  · have hf : Wh.minusN a b c = (a - (b + c), 0) := by unfold Wh.minusN Wh.R; rw [if_neg h]
    have H := Lib.hid hf; clear hf
    have h' : ¬ (a : Int) < (b : Int) + c := by omega
    go_enter Tryz.func287, Tryz.ntmps287
    go_wp2
    go_ret2
    exact ⟨by rw [H.out]; simp [pairV]; omega, rfl⟩
end Go.Proofs.YteggbenhffmijaaGreatDoor

namespace Wh
theorem take_step {l : List Nat} {k : Nat} (h : k < l.length) (h0 : l.getD k 0 = 0) : trimL (l.take (k + 1)) = trimL (l.take k) := by
  rw [take_snoc l k h, h0, trim_zero]
theorem take_end {l : List Nat} {k : Nat} (hk : k ≤ l.length) (ho : Ok l) (h : k = 0 ∨ l.getD (k - 1) 0 ≠ 0) (e : trimL (l.take k) = trimL l) : l.take k = trimL l := by
  rw [← e]
  refine (trim_last (fun x hx => ho x (List.mem_of_mem_take hx)) ?_).symm
  intro hne
  rcases h with h | h
  · subst h; simp at hne
  · cases k with
    | zero => simp at hne
    | succ k =>
      rw [take_snoc l k (by omega)]
      rw [List.getLastD_concat]; exact h
theorem trimL_length {l : List Nat} (h : Ok l) : (trimL l).length ≤ l.length := limbs_length_le (val_lt h)
/-- what is cut off is at the high end -/
theorem trimL_prefix {l : List Nat} (h : Ok l) : ∃ k, trimL l = l.take k := by
  induction l using snocInd with
  | h0 => exact ⟨0, by simp [trimL, val, limbs_zero]⟩
  | h1 l x ih =>
    have ⟨h1, h2⟩ := ok_append.1 h
    by_cases hx : x = 0
    · subst hx
      obtain ⟨k, hk⟩ := ih h1
      refine ⟨min k l.length, ?_⟩
      rw [trim_zero, hk, List.take_append_of_le_length (by omega)]
      rw [List.take_eq_take_min]
    · refine ⟨l.length + 1, ?_⟩
      rw [trim_last h (fun _ => by rw [List.getLastD_concat]; exact hx), List.take_of_length_le (by simp)]
theorem trimL_getD {l : List Nat} (h : Ok l) {i : Nat} (hi : i < (trimL l).length) : (trimL l).getD i 0 = l.getD i 0 := by
  obtain ⟨k, hk⟩ := trimL_prefix h
  rw [hk] at hi ⊢
  simp only [List.length_take] at hi
  simp only [List.getD]
  rw [List.getElem?_take_of_lt (by omega)]
/-- the first k limbs of n, the others 0 -/
def pre (g : Nat → Nat) (k n : Nat) : List Nat := (List.range k).map g ++ List.replicate (n - k) 0
theorem pre_zero (g : Nat → Nat) (n : Nat) : pre g 0 n = List.replicate n 0 := by simp [pre]
theorem pre_length (g : Nat → Nat) {k n : Nat} (h : k ≤ n) : (pre g k n).length = n := by simp [pre]; omega
theorem set_append_zero (l : List Nat) (m v : Nat) : (l ++ List.replicate (m + 1) 0).set l.length v = l ++ [v] ++ List.replicate m 0 := by
  rw [List.set_append_right _ _ (Nat.le_refl _), Nat.sub_self, List.replicate_succ, List.set_cons_zero, List.append_assoc]; rfl
theorem pre_set_any (g : Nat → Nat) {k n : Nat} (h : k < n) (v : Nat) : (pre g k n).set k v = (List.range k).map g ++ [v] ++ List.replicate (n - (k + 1)) 0 := by
  have e : n - k = (n - (k + 1)) + 1 := by omega
  have := set_append_zero ((List.range k).map g) (n - (k + 1)) v
  rw [List.length_map, List.length_range] at this
  rw [pre, e, this]
theorem pre_set (g : Nat → Nat) {k n : Nat} (h : k < n) : (pre g k n).set k (g k) = pre g (k + 1) n := by
  rw [pre_set_any g h, pre, List.range_succ, List.map_append, List.map_singleton]
theorem comb_pre (f : Nat → Nat → Nat → Nat × Nat) (xs ys : List Nat) :
    (pre (dig f (xs.getD · 0) (ys.getD · 0)) xs.length (xs.length + 1)).set xs.length (car f (xs.getD · 0) (ys.getD · 0) xs.length) = comb f xs ys := by
  rw [pre_set_any _ (Nat.lt_succ_self _)]; simp [comb]
theorem comb_length (f : Nat → Nat → Nat → Nat × Nat) (xs ys : List Nat) : (comb f xs ys).length = xs.length + 1 := by simp [comb]
theorem getD_out {l : List Nat} {i : Nat} (h : l.length ≤ i) : l.getD i 0 = 0 := by simp [List.getD, h]
end Wh

/- WALKS, part 2: slices of limbs as lists of numbers; trim. -/
namespace Go.Proofs.YteggbenhffmijaaGreatDoor
open Go.RowKit
/-- v is a slice of limbs that reads as l -/
def Sl (w : World) (v : Value) (l : List Nat) : Prop :=
  (l = [] ∧ v = .slice none 0 0) ∨ ∃ b off cap : Nat, v = .slice (some ⟨b, off, none⟩) l.length cap ∧ l.length ≤ cap ∧ b < w.heap.size ∧ ∀ i, i < l.length → w.cell? ⟨b, off + i, none⟩ = some (.int .u32 (l.getD i 0))
theorem Sl.mono {w w' : World} {v : Value} {l : List Nat} (h : Sl w v l) (hb : Below w.heap.size w w') : Sl w' v l := by
  rcases h with h | ⟨b, off, cap, h1, h2, h3, h4⟩
  · exact .inl h
  · exact .inr ⟨b, off, cap, h1, h2, Nat.lt_of_lt_of_le h3 hb.size, fun i hi => (hb.cell (p := ⟨b, off + i, none⟩) h3).trans (h4 i hi)⟩
set_option maxHeartbeats 400000 in
theorem trim_nil (w : World) :
    Calls Tryz.prog 253 #[.slice none 0 0] w fun e w' => e = .returned (.slice none 0 0) ∧ w = w' := by
  go_enter Tryz.func253, Tryz.ntmps253
  go_wp2
  go_loop [3] (fun k => k = .int .i64 0) (fun _ => 0)
  case atStart => rfl
  case round =>
    subst hrel
    go_wp2
    go_ret
    exact ⟨rfl, rfl⟩
set_option maxHeartbeats 400000 in
theorem trim_some (w : World) (b off cap : Nat) (l : List Nat) (ho : Wh.Ok l) (hcap : l.length ≤ cap) (hm : cap ≤ 100000) (hc : ∀ i, i < l.length → w.cell? ⟨b, off + i, none⟩ = some (.int .u32 (l.getD i 0))) :
    Calls Tryz.prog 253 #[.slice (some ⟨b, off, none⟩) l.length cap] w fun e w' => e = .returned (.slice (some ⟨b, off, none⟩) (Wh.trimL l).length cap) ∧ w = w' := by
  have HO := Lib.hid ho; clear ho
  generalize hn : l.length = n at *
  have HN := Lib.hid hn; clear hn
  have HC := Lib.hid hc; clear hc
  go_enter Tryz.func253, Tryz.ntmps253
  go_wp2
  go_loop [3] (fun k => ∃ j : Nat, j ≤ n ∧ k = .int .i64 j ∧ Hid (Wh.trimL (l.take j) = Wh.trimL l)) (fun k => (intOf k).toNat)
  case atStart => exact ⟨n, Nat.le_refl _, rfl, Lib.hid (by rw [List.take_of_length_le (by rw [HN.out]; exact Nat.le_refl _)])⟩
  case round =>
    obtain ⟨j, hj, rfl, HT⟩ := hrel
    by_cases h0 : j = 0
    · subst h0
      go_wp2
      go_ret
      have e := Wh.take_end (Nat.zero_le _) HO.out (.inl rfl) HT.out
      exact ⟨by rw [← e]; rfl, rfl⟩
    · obtain ⟨k, rfl⟩ : ∃ k, j = k + 1 := ⟨j - 1, by omega⟩
      have hc := HC.out k (by omega)
      by_cases hz : l.getD k 0 = 0
      · have HZ := Lib.hid hz
        rw [hz] at hc; clear hz
        go_wp2
        go_round
        case rel => exact ⟨k, by omega, by go_num, Lib.hid ((Wh.take_step (by rw [HN.out]; omega) HZ.out).symm.trans HT.out)⟩
        case measure => simp [intOf]
      · have HZ := Lib.hid hz
        generalize l.getD k 0 = x at hc hz
        have hx : ((x : Int) == 0) = false := by simpa using hz
        clear hz
        go_wp2
        go_ret
        have e := Wh.take_end (k := k + 1) (by rw [HN.out]; exact hj) HO.out (.inr HZ.out) HT.out
        exact ⟨by rw [← e, List.length_take, HN.out, Nat.min_eq_left hj]; rfl, rfl⟩
/-- trim: the same memory, the limbs of the number -/
theorem trim_any (w : World) (v : Value) (l : List Nat) (ho : Wh.Ok l) (h : Sl w v l) (hm : ∀ a n c, v = .slice a n c → c ≤ 100000) :
    Calls Tryz.prog 253 #[v] w fun e w' => (∃ a c, e = .returned (.slice a (Wh.trimL l).length c) ∧ c ≤ 100000 ∧ ∀ w0, Sl w0 v l → Sl w0 (.slice a (Wh.trimL l).length c) (Wh.trimL l)) ∧ w = w' := by
  rcases h with ⟨rfl, rfl⟩ | ⟨b, off, cap, rfl, h2, h3, h4⟩
  · refine (trim_nil w).mono ?_
    rintro e w' ⟨rfl, rfl⟩
    have e0 : Wh.trimL [] = [] := by simp [Wh.trimL, Wh.val, Wh.limbs_zero]
    rw [e0]
    exact ⟨⟨_, _, rfl, Nat.zero_le _, fun w0 h => h⟩, rfl⟩
  · refine (trim_some w b off cap l ho h2 (hm _ _ _ rfl) h4).mono ?_
    rintro e w' ⟨rfl, rfl⟩
    have hl := Wh.trimL_length ho
    refine ⟨⟨_, _, rfl, hm _ _ _ rfl, fun w0 h0 => ?_⟩, rfl⟩
    rcases h0 with ⟨_, h0⟩ | ⟨b', off', cap', e0, h2', h3', h4'⟩
    · cases h0
    · simp only [Value.slice.injEq, Option.some.injEq, Addr.mk.injEq] at e0
      obtain ⟨⟨rfl, rfl, _⟩, _, rfl⟩ := e0
      exact .inr ⟨b, off, cap, rfl, by omega, h3', fun i hi => by rw [h4' i (by omega), Wh.trimL_getD ho hi]⟩
/-- the same, of a slice that is written out: its address and its capacity stay -/
theorem trim_same (w : World) (a : Option Addr) (n c : Nat) (l : List Nat) (ho : Wh.Ok l) (h : Sl w (.slice a n c) l) (hc : c ≤ 100000) :
    Calls Tryz.prog 253 #[.slice a n c] w fun e w' => e = .returned (.slice a (Wh.trimL l).length c) ∧ Sl w' (.slice a (Wh.trimL l).length c) (Wh.trimL l) ∧ w = w' := by
  rcases h with ⟨rfl, h⟩ | ⟨b, off, cap, h1, h2, h3, h4⟩
  · simp only [Value.slice.injEq] at h
    obtain ⟨rfl, rfl, rfl⟩ := h
    refine (trim_nil w).mono ?_
    rintro e w' ⟨rfl, rfl⟩
    have e0 : Wh.trimL [] = [] := by simp [Wh.trimL, Wh.val, Wh.limbs_zero]
    rw [e0]
    exact ⟨rfl, .inl ⟨rfl, rfl⟩, rfl⟩
  · simp only [Value.slice.injEq] at h1
    obtain ⟨rfl, rfl, rfl⟩ := h1
    refine (trim_some w b off c l ho h2 hc h4).mono ?_
    rintro e w' ⟨rfl, rfl⟩
    have hl := Wh.trimL_length ho
    exact ⟨rfl, .inr ⟨b, off, c, rfl, by omega, h3, fun i hi => by rw [h4 i (by omega), Wh.trimL_getD ho hi]⟩, rfl⟩
end Go.Proofs.YteggbenhffmijaaGreatDoor

/- WALKS, part 3: numbers: signed, small. -/
namespace Go.Proofs.YteggbenhffmijaaGreatDoor
open Go.RowKit
/-- v is a number at work that stands for x -/
def Num (w : World) (v : Value) (x : Int) : Prop := ∃ sl, v = .agg #[.int .i64 (Int.sign x), sl] ∧ Sl w sl (Wh.limbs x.natAbs)
theorem Num.mono {w w' : World} {v : Value} {x : Int} (h : Num w v x) (hb : Below w.heap.size w w') : Num w' v x := by
  obtain ⟨sl, h1, h2⟩ := h; exact ⟨sl, h1, h2.mono hb⟩
theorem Sl.len {w : World} {v : Value} {l : List Nat} (h : Sl w v l) : ∃ a c, v = .slice a l.length c := by
  rcases h with ⟨rfl, rfl⟩ | ⟨b, off, cap, rfl, _⟩
  · exact ⟨_, _, rfl⟩
  · exact ⟨_, _, rfl⟩
set_option maxHeartbeats 400000 in
theorem signed_nil (s : Int) (v : Value) (l : List Nat) (w : World) (ho : Wh.Ok l) (h : Sl w v l) (hm : ∀ a n c, v = .slice a n c → c ≤ 100000) (h0 : Wh.trimL l = []) :
    Calls Tryz.prog 187 #[.int .i64 s, v] w fun e w' => e = .returned (.agg #[.int .i64 0, .slice none 0 0]) ∧ Below w.heap.size w w' := by
  have H0 := Lib.hid h0; clear h0
  go_enter Tryz.func187, Tryz.ntmps187
  go_wp2_with fail
  refine (trim_any _ v l ho (h.mono ?_) hm).mono ?_
  · exact (Below.refl _ _).alloc (Nat.le_refl _) _
  rintro e w' ⟨⟨a, c, rfl, -, -⟩, rfl⟩
  rw [H0.out]
  simp only [List.length_nil]
  go_wp2
  exact bodyPost_ret (v := .agg #[.int .i64 0, .slice none 0 0]) (by simp [results, Tryz.results187, go_sem]) rfl ⟨rfl, (Below.refl _ _).alloc (Nat.le_refl _) _⟩
set_option maxHeartbeats 400000 in
theorem signed_some (s : Int) (v : Value) (l : List Nat) (w : World) (ho : Wh.Ok l) (h : Sl w v l) (hm : ∀ a n c, v = .slice a n c → c ≤ 100000) (h0 : 0 < (Wh.trimL l).length) :
    Calls Tryz.prog 187 #[.int .i64 s, v] w fun e w' => (∃ v', e = .returned (.agg #[.int .i64 s, v']) ∧ Sl w' v' (Wh.trimL l)) ∧ Below w.heap.size w w' := by
  go_enter Tryz.func187, Tryz.ntmps187
  go_wp2_with fail
  refine (trim_any _ v l ho (h.mono ?_) hm).mono ?_
  · exact (Below.refl _ _).alloc (Nat.le_refl _) _
  rintro e w' ⟨⟨a, c, rfl, _, hv⟩, rfl⟩
  have HV := Lib.hid (hv w h); clear hv
  generalize hl : Wh.trimL l = m at *
  have HL := Lib.hid hl; clear hl
  have hne : ((m.length : Int) == 0) = false := by rw [beq_eq_false_iff_ne]; omega
  go_wp2
  exact bodyPost_ret (v := .agg #[.int .i64 s, .slice a m.length c]) (by simp [results, Tryz.results187, go_sem]) rfl ⟨⟨_, rfl, by rw [HL.out]; exact (HV.out).mono ((Below.refl _ _).alloc (Nat.le_refl _) _)⟩, (Below.refl _ _).alloc (Nat.le_refl _) _⟩
/-- a slice of limbs has as many cells as it may -/
def Small (v : Value) : Prop := ∀ a n c, v = .slice a n c → c ≤ 100000
theorem small_nil : Small (.slice none 0 0) := by rintro a n c h; cases h; exact Nat.zero_le _
/-- signed: the number s times what the limbs stand for -/
theorem signed_any (s : Int) (v : Value) (l : List Nat) (w : World) (ho : Wh.Ok l) (h : Sl w v l) (hm : Small v) (hs : s = -1 ∨ s = 1 ∨ Wh.val l = 0) :
    Calls Tryz.prog 187 #[.int .i64 s, v] w fun e w' => (∃ v', e = .returned v' ∧ Num w' v' (s * (Wh.val l : Int))) ∧ Below w.heap.size w w' := by
  by_cases h0 : Wh.val l = 0
  · refine (signed_nil s v l w ho h hm (by rw [Wh.trimL, h0, Wh.limbs_zero])).mono ?_
    rintro e w' ⟨rfl, hb⟩
    refine ⟨⟨_, rfl, ⟨.slice none 0 0, ?_, .inl ⟨?_, rfl⟩⟩⟩, hb⟩
    · rw [h0]; simp
    · rw [h0]; simp [Wh.limbs_zero]
  · have hpos : 0 < (Wh.trimL l).length := by
      rcases Nat.eq_zero_or_pos (Wh.trimL l).length with e | e
      · exact absurd (Wh.limbs_nil.1 (List.eq_nil_of_length_eq_zero e)) h0
      · exact e
    refine (signed_some s v l w ho h hm hpos).mono ?_
    rintro e w' ⟨⟨v', rfl, hv'⟩, hb⟩
    have hs' : s = -1 ∨ s = 1 := by omega
    have e1 : (s * (Wh.val l : Int)).natAbs = Wh.val l := by rcases hs' with rfl | rfl <;> omega
    have e2 : Int.sign (s * (Wh.val l : Int)) = s := by
      rw [Int.sign_mul]
      have : Int.sign (Wh.val l : Int) = 1 := Int.sign_eq_one_of_pos (by omega)
      rw [this]; rcases hs' with rfl | rfl <;> rfl
    exact ⟨⟨_, rfl, ⟨v', by rw [e2], by rw [e1]; exact hv'⟩⟩, hb⟩
end Go.Proofs.YteggbenhffmijaaGreatDoor

/- WALKS, part 4: memory that a call makes for limbs; combine. -/
namespace Go.Proofs.YteggbenhffmijaaGreatDoor
open Go.RowKit
def zeros (n : Nat) : Array Value := Array.replicate n (.int .u32 0)
/-- block b is the call's own, and has the limbs l -/
structure Own (w : World) (b : Nat) (l : List Nat) : Prop where
  lt : b < w.heap.size
  cell : ∀ i, i < l.length → w.cell? ⟨b, i, none⟩ = some (.int .u32 (l.getD i 0))
  free : ∀ i, i < l.length → w.frozen? ⟨b, i, none⟩ = false
theorem Own.mono {w w' : World} {b B : Nat} {l : List Nat} (h : Own w b l) (hb : Below B w w') (hB : b < B) : Own w' b l :=
  ⟨Nat.lt_of_lt_of_le h.lt hb.size, fun i hi => (hb.cell (p := ⟨b, i, none⟩) hB).trans (h.cell i hi), fun i hi => (hb.frozen (p := ⟨b, i, none⟩) hB).trans (h.free i hi)⟩
theorem Own.sl {w : World} {b : Nat} {l : List Nat} (h : Own w b l) (cap : Nat) (hc : l.length ≤ cap) : Sl w (.slice (some ⟨b, 0, none⟩) l.length cap) l :=
  .inr ⟨b, 0, cap, rfl, hc, h.lt, fun i hi => by rw [Nat.zero_add]; exact h.cell i hi⟩
theorem Own.set {w : World} {b : Nat} {l : List Nat} (h : Own w b l) {i : Nat} (hi : i < l.length) (x : Nat) : Own (w.setCell ⟨b, i, none⟩ (.int .u32 x)) b (l.set i x) := by
  refine ⟨by simpa using h.lt, fun j hj => ?_, fun j hj => ?_⟩
  · rw [List.length_set] at hj
    by_cases e : i = j
    · subst e
      rw [World.cell?_setCell_same _ _ _ (h.cell i hi)]
      simp [List.getD, hi]
    · rw [World.cell?_setCell_other _ _ _ _ (by intro e'; exact e (congrArg Addr.off e')), h.cell j hj]
      simp [List.getD, List.getElem?_set_ne e]
  · rw [List.length_set] at hj
    rw [World.frozen?_setCell]; exact h.free j hj
theorem madeCells_zero (n : Nat) : madeCells #[Value.int .u32 0] n = zeros n := by
  apply Array.toList_inj.1
  rw [toList_madeCells_one, zeros, Array.toList_replicate]
theorem own_make (w : World) (n : Nat) : Own (w.alloc (.cells (zeros n) 181)) w.heap.size (List.replicate n 0) := by
  refine ⟨by simp, fun i hi => ?_, fun i hi => ?_⟩
  · simp only [List.length_replicate] at hi
    rw [World.cell?_alloc_at (hn := rfl)]
    simp [zeros, hi, List.getD]
  · exact World.frozen?_alloc_at (hn := rfl) ..
theorem info_limb : (Tryz.prog.info? 181).map (fun i => (i.zero, i.size, i.bytes)) = some (some (.int .u32 0), 1, 4) := by kernel_rfl
theorem run_make_limbs (n : Nat) (h : n ≤ 100000) (w : World) (x : Int) (hx : x = n) :
    (Instr.makeSlice 90 (.int .i64 x) (.int .i64 x)).run Tryz.prog w = .ok (.slice (some ⟨w.heap.size, 0, none⟩) n n) (w.alloc (.cells (zeros n) 181)) := by
  subst hx
  have := run_make_row' (P := Tryz.prog) 90 181 (.int .u32 0) 4 Tryz.underlying90 info_limb rfl .i64 .i64 n (by omega) (by omega) w
  rw [madeCells_zero] at this
  exact this
end Go.Proofs.YteggbenhffmijaaGreatDoor

/- WALKS, part 5: combine, addLimbs, takeLimbs. -/
namespace Go.Proofs.YteggbenhffmijaaGreatDoor
open Go.RowKit
theorem Sl.addr {w : World} {v : Value} {l : List Nat} (h : Sl w v l) : ∃ a c, v = .slice a l.length c ∧ ∀ k, k < l.length → ∃ b off, a = some ⟨b, off, none⟩ ∧ b < w.heap.size ∧ ∀ i, i < l.length → w.cell? ⟨b, off + i, none⟩ = some (.int .u32 (l.getD i 0)) := by
  rcases h with ⟨rfl, rfl⟩ | ⟨b, off, cap, rfl, h2, h3, h4⟩
  · exact ⟨_, _, rfl, fun k hk => absurd hk (by simp)⟩
  · exact ⟨_, _, rfl, fun k hk => ⟨b, off, rfl, h3, h4⟩⟩
set_option maxRecDepth 100000 in
set_option maxHeartbeats 400000 in
theorem combine_any (K : Nat) (f : Nat → Nat → Nat → Nat × Nat) (w : World) (v1 v2 : Value) (l1 l2 : List Nat) (h1 : Sl w v1 l1) (h2 : Sl w v2 l2) (ho1 : Wh.Ok l1) (ho2 : Wh.Ok l2) (hl : l2.length ≤ l1.length) (hm : l1.length ≤ 5000)
    (hf : ∀ k, Wh.car f (l1.getD · 0) (l2.getD · 0) k ≤ 1)
    (hok : Wh.Ok (Wh.comb f l1 l2)) (hkc : ∀ (args : Array Value) (w : World), (callFunc K args).run Tryz.prog w = .ok (.enter K args) w)
    (hstep : ∀ (x y c : Nat) (w : World), x < 1000000000 → y < 1000000000 → c ≤ 1 → Calls Tryz.prog K #[.int .u32 x, .int .u32 y, .int .u32 c] w fun e w' => e = .returned (pairV (f x y c)) ∧ w = w') :
    Calls Tryz.prog 286 #[v1, v2, .func (Fn.func K) #[] #[]] w fun e w' => (∃ v', e = .returned v' ∧ Small v' ∧ Sl w' v' (Wh.trimL (Wh.comb f l1 l2))) ∧ Below w.heap.size w w' := by
  obtain ⟨a1, c1, rfl, hc1⟩ := h1.addr
  obtain ⟨a2, c2, rfl, hc2⟩ := h2.addr
  have HC1 := Lib.hid hc1; clear hc1 h1
  have HC2 := Lib.hid hc2; clear hc2 h2
  have HO1 := Lib.hid ho1; clear ho1
  have HO2 := Lib.hid ho2; clear ho2
  have HF := Lib.hid hf; clear hf
  have HS := Lib.hid hstep; clear hstep
  generalize hn1 : l1.length = n1 at *
  generalize hn2 : l2.length = n2 at *
  have HN1 := Lib.hid hn1; clear hn1
  have HN2 := Lib.hid hn2; clear hn2
  have hmk := run_make_limbs (n1 + 1) (by omega) w ((n1 : Int) + 1) (by omega)
  go_enter Tryz.func286, Tryz.ntmps286
  go_wp2_with fail
  go_loopw [8, 18] (fun on i wr => ∃ k : Nat, k ≤ n1 ∧ i = .int .i64 k ∧ on = .int .u32 (Wh.car f (l1.getD · 0) (l2.getD · 0) k) ∧ Below w.heap.size w wr ∧ Hid (Own wr w.heap.size (Wh.pre (Wh.dig f (l1.getD · 0) (l2.getD · 0)) k (n1 + 1)))) (fun _ i _ => n1 - (intOf i).toNat)
  case atStart => exact ⟨0, Nat.zero_le _, rfl, rfl, (Below.refl _ _).alloc (Nat.le_refl _) _, Lib.hid (by rw [Wh.pre_zero]; exact own_make w (n1 + 1))⟩
  case round =>
    obtain ⟨k, hk, rfl, rfl, hb, hown⟩ := hrel
    have hcar : Wh.car f (l1.getD · 0) (l2.getD · 0) (k + 1) = (f (l1.getD k 0) (l2.getD k 0) (Wh.car f (l1.getD · 0) (l2.getD · 0) k)).2 := rfl
    have hdig : Wh.dig f (l1.getD · 0) (l2.getD · 0) k = (f (l1.getD k 0) (l2.getD k 0) (Wh.car f (l1.getD · 0) (l2.getD · 0) k)).1 := rfl
    have hc1 := HF.out k
    have hpl := Wh.pre_length (Wh.dig f (l1.getD · 0) (l2.getD · 0)) (show k ≤ n1 + 1 by omega)
    by_cases hlt : k < n1
    · have hset := Wh.pre_set (Wh.dig f (l1.getD · 0) (l2.getD · 0)) (show k < n1 + 1 by omega)
      have hoc := hown.out.cell k (by rw [hpl]; omega)
      have hof := hown.out.free k (by rw [hpl]; omega)
      have hos := fun x => hown.out.set (i := k) (by rw [hpl]; omega) x
      have hx := Wh.getD_lt HO1.out k
      have hy := Wh.getD_lt HO2.out k
      rw [hdig] at hset
      generalize Wh.pre (Wh.dig f (l1.getD · 0) (l2.getD · 0)) k (n1 + 1) = pk at *
      obtain ⟨b1, off1, rfl, hbl1, hcell1⟩ := HC1.out k hlt
      have hcx := (hb.cell (p := ⟨b1, off1 + k, none⟩) hbl1).trans (hcell1 k hlt)
      clear hcell1
      have hcall := HS.out (l1.getD k 0) (l2.getD k 0) _ wr hx hy hc1
      generalize Wh.car f (l1.getD · 0) (l2.getD · 0) k = c at *
      generalize hc' : Wh.car f (l1.getD · 0) (l2.getD · 0) (k + 1) = c' at *
      have HC' := Lib.hid hc'; clear hc'
      generalize hyy : l2.getD k 0 = y at *
      generalize l1.getD k 0 = x at *
      generalize hp : f x y c = p at *
      obtain ⟨d, o⟩ := p
      simp only at hcar hdig hset
      subst hcar
      have HSET := Lib.hid hset; clear hset hdig hp
      have HOS := Lib.hid hos; clear hos hown hpl
      have FIN : Hid (Own (wr.setCell ⟨w.heap.size, k, none⟩ (.int .u32 d)) w.heap.size (Wh.pre (Wh.dig f (l1.getD · 0) (l2.getD · 0)) (k + 1) (n1 + 1))) := by
        have := HOS.out d; rw [HSET.out] at this; exact Lib.hid this
      have hbl : Below w.heap.size w (wr.setCell ⟨w.heap.size, k, none⟩ (.int .u32 d)) := hb.setCell (Nat.le_refl _) _
      by_cases hk2 : k < n2
      · obtain ⟨b2, off2, rfl, hbl2, hcell2⟩ := HC2.out k hk2
        have hcy := (hb.cell (p := ⟨b2, off2 + k, none⟩) hbl2).trans (hcell2 k hk2)
        clear hcell2
        rw [hyy] at hcy
        clear hyy
        go_wp2_with fail
        refine hcall.mono ?_
        rintro e w' ⟨rfl, rfl⟩
        simp only [pairV]
        go_wp2
        go_roundw
        case rel => exact ⟨k + 1, by omega, by go_num, by rw [HC'.out], hbl, FIN⟩
        case measure => simp [intOf]; omega
      · have hy0 : y = 0 := by rw [← hyy]; exact Wh.getD_out (by rw [HN2.out]; omega)
        subst hy0
        clear hyy
        simp only [Int.natCast_zero] at hcall
        go_wp2_with fail
        refine hcall.mono ?_
        rintro e w' ⟨rfl, rfl⟩
        simp only [pairV]
        go_wp2
        go_roundw
        case rel => exact ⟨k + 1, by omega, by go_num, by rw [HC'.out], hbl, FIN⟩
        case measure => simp [intOf]; omega
    · obtain rfl : k = n1 := by omega
      have hpr := Wh.comb_pre f l1 l2
      rw [HN1.out] at hpr
      have hcl := Wh.comb_length f l1 l2
      rw [HN1.out] at hcl
      have hown2 := hown.out.set (i := k) (by rw [hpl]; omega) (Wh.car f (l1.getD · 0) (l2.getD · 0) k)
      have hoc := hown.out.cell k (by rw [hpl]; omega)
      have hof := hown.out.free k (by rw [hpl]; omega)
      rw [hpr] at hown2
      have HOW := Lib.hid hown2; clear hown2
      have HCL := Lib.hid hcl; clear hcl hpr hpl hown hcar hdig
      generalize Wh.pre (Wh.dig f (l1.getD · 0) (l2.getD · 0)) k (k + 1) = pk at *
      generalize Wh.car f (l1.getD · 0) (l2.getD · 0) k = c at *
      have HOK : Wh.Ok (Wh.comb f l1 l2) := hok
      have hbl : Below w.heap.size w (wr.setCell ⟨w.heap.size, k, none⟩ (.int .u32 c)) := hb.setCell (Nat.le_refl _) _
      go_wp2_with fail
      have hsl := HOW.out.sl (k + 1) (by rw [HCL.out]; exact Nat.le_refl _)
      rw [HCL.out] at hsl
      refine (trim_any _ _ _ HOK hsl (by intro a n c h; cases h; omega)).mono ?_
      rintro e w' ⟨⟨a, c, rfl, hc, hv⟩, rfl⟩
      have hfin := hv _ hsl
      have HFIN := Lib.hid hfin; clear hfin hv hsl
      go_wp2
      go_ret
      exact ⟨⟨_, rfl, by intro a' n' c' h; cases h; exact hc, HFIN.out⟩, hbl⟩
end Go.Proofs.YteggbenhffmijaaGreatDoor

/- WALKS, part 6: addLimbs, takeLimbs. -/
namespace Go.Proofs.YteggbenhffmijaaGreatDoor
open Go.RowKit
theorem plus_calls (w : World) (v1 v2 : Value) (l1 l2 : List Nat) (h1 : Sl w v1 l1) (h2 : Sl w v2 l2) (ho1 : Wh.Ok l1) (ho2 : Wh.Ok l2) (hl : l2.length ≤ l1.length) (hm : l1.length ≤ 5000) :
    Calls Tryz.prog 286 #[v1, v2, .func (Fn.func 288) #[] #[]] w fun e w' => (∃ v', e = .returned v' ∧ Small v' ∧ Sl w' v' (Wh.limbs (Wh.val l1 + Wh.val l2))) ∧ Below w.heap.size w w' := by
  obtain ⟨k1, k2⟩ := Wh.comb_plus ho1 ho2 hl
  have := combine_any 288 Wh.plusN w v1 v2 l1 l2 h1 h2 ho1 ho2 hl hm (fun k => (Wh.plus_sum (Wh.getD_lt ho1) (Wh.getD_lt ho2) k).1) k1 (fun _ _ => by kernel_rfl) (fun x y c w hx hy hc => plus_any x y c hx hy hc w)
  unfold Wh.trimL at this
  rw [k2] at this
  exact this
theorem minus_calls (w : World) (v1 v2 : Value) (l1 l2 : List Nat) (h1 : Sl w v1 l1) (h2 : Sl w v2 l2) (ho1 : Wh.Ok l1) (ho2 : Wh.Ok l2) (hl : l2.length ≤ l1.length) (hm : l1.length ≤ 5000) (hv : Wh.val l2 ≤ Wh.val l1) :
    Calls Tryz.prog 286 #[v1, v2, .func (Fn.func 287) #[] #[]] w fun e w' => (∃ v', e = .returned v' ∧ Small v' ∧ Sl w' v' (Wh.limbs (Wh.val l1 - Wh.val l2))) ∧ Below w.heap.size w w' := by
  obtain ⟨k1, k2⟩ := Wh.comb_minus ho1 ho2 hl hv
  have := combine_any 287 Wh.minusN w v1 v2 l1 l2 h1 h2 ho1 ho2 hl hm (fun k => (Wh.minus_sum (Wh.getD_lt ho1) (Wh.getD_lt ho2) k).1) k1 (fun _ _ => by kernel_rfl) (fun x y c w hx hy hc => minus_any x y c hx hy hc w)
  unfold Wh.trimL at this
  rw [k2] at this
  exact this
/-- takeLimbs: the difference of two numbers, of which the second one is not greater -/
theorem takeLimbs_any (w : World) (v1 v2 : Value) (a b : Nat) (h1 : Sl w v1 (Wh.limbs a)) (h2 : Sl w v2 (Wh.limbs b)) (hm : (Wh.limbs a).length ≤ 5000) (hv : b ≤ a) :
    Calls Tryz.prog 246 #[v1, v2] w fun e w' => (∃ v', e = .returned v' ∧ Small v' ∧ Sl w' v' (Wh.limbs (a - b))) ∧ Below w.heap.size w w' := by
  have hc := minus_calls w v1 v2 _ _ h1 h2 (Wh.ok_limbs a) (Wh.ok_limbs b) (Wh.limbs_length_mono hv) hm (by rw [Wh.val_limbs, Wh.val_limbs]; exact hv)
  rw [Wh.val_limbs, Wh.val_limbs] at hc
  have HC := Lib.hid hc; clear hc h1 h2
  go_enter Tryz.func246, Tryz.ntmps246
  go_wp2_with fail
  refine HC.out.mono ?_
  rintro e w' ⟨⟨v', rfl, hs, hv'⟩, hb⟩
  have HV := Lib.hid hv'; clear hv'
  have HS := Lib.hid hs; clear hs
  go_wp2
  go_ret
  exact ⟨⟨_, rfl, HS.out, HV.out⟩, hb⟩
set_option maxHeartbeats 400000 in
/-- addLimbs: the sum of two numbers -/
theorem addLimbs_any (w : World) (v1 v2 : Value) (a b : Nat) (h1 : Sl w v1 (Wh.limbs a)) (h2 : Sl w v2 (Wh.limbs b)) (hm : (Wh.limbs a).length ≤ 5000) (hm2 : (Wh.limbs b).length ≤ 5000) :
    Calls Tryz.prog 247 #[v1, v2] w fun e w' => (∃ v', e = .returned v' ∧ Small v' ∧ Sl w' v' (Wh.limbs (a + b))) ∧ Below w.heap.size w w' := by
  obtain ⟨x1, c1, rfl⟩ := h1.len
  obtain ⟨x2, c2, rfl⟩ := h2.len
  by_cases hl : (Wh.limbs a).length < (Wh.limbs b).length
  · have hc := plus_calls w _ _ _ _ h2 h1 (Wh.ok_limbs b) (Wh.ok_limbs a) (by omega) hm2
    rw [Wh.val_limbs, Wh.val_limbs, Nat.add_comm b a] at hc
    have HC := Lib.hid hc; clear hc h1 h2
    generalize (Wh.limbs a).length = n1 at *
    generalize (Wh.limbs b).length = n2 at *
    go_enter Tryz.func247, Tryz.ntmps247
    go_wp2_with fail
    refine HC.out.mono ?_
    rintro e w' ⟨⟨v', rfl, hs, hv'⟩, hb⟩
    have HV := Lib.hid hv'; clear hv'
    have HS := Lib.hid hs; clear hs
    go_wp2
    go_ret
    exact ⟨⟨_, rfl, HS.out, HV.out⟩, hb⟩
  · have hc := plus_calls w _ _ _ _ h1 h2 (Wh.ok_limbs a) (Wh.ok_limbs b) (by omega) hm
    rw [Wh.val_limbs, Wh.val_limbs] at hc
    have HC := Lib.hid hc; clear hc h1 h2
    generalize (Wh.limbs a).length = n1 at *
    generalize (Wh.limbs b).length = n2 at *
    go_enter Tryz.func247, Tryz.ntmps247
    go_wp2_with fail
    refine HC.out.mono ?_
    rintro e w' ⟨⟨v', rfl, hs, hv'⟩, hb⟩
    have HV := Lib.hid hv'; clear hv'
    have HS := Lib.hid hs; clear hs
    go_wp2
    go_ret
    exact ⟨⟨_, rfl, HS.out, HV.out⟩, hb⟩
end Go.Proofs.YteggbenhffmijaaGreatDoor

namespace Wh
/-- the first limb that differs, from the high end, decides -/
theorem val_lt_of_top {l m : List Nat} (ho : Ok l) (i : Nat) (h1 : i < l.length) (h2 : i < m.length) (hd : l.drop (i + 1) = m.drop (i + 1)) (h : l.getD i 0 < m.getD i 0) : val l < val m := by
  rw [val_take_drop l i (by omega), val_take_drop m i (by omega), val_drop l i h1, val_drop m i h2, hd]
  have h3 : val (l.take i) < R ^ i := by
    have := val_lt (l := l.take i) (fun x hx => ho x (List.mem_of_mem_take hx))
    rwa [List.length_take, Nat.min_eq_left (by omega)] at this
  have h4 : R ^ i * (l.getD i 0 + R * val (m.drop (i + 1)) + 1) ≤ R ^ i * (m.getD i 0 + R * val (m.drop (i + 1))) := Nat.mul_le_mul_left _ (by omega)
  rw [Nat.mul_add, Nat.mul_one] at h4
  omega
def cmpN (a b : Nat) : Int := if a < b then -1 else if a = b then 0 else 1
theorem drop_step {l m : List Nat} {i : Nat} (h1 : i < l.length) (h2 : i < m.length) (h : l.getD i 0 = m.getD i 0) (hd : l.drop (i + 1) = m.drop (i + 1)) : l.drop i = m.drop i := by
  rw [List.drop_eq_getElem_cons h1, List.drop_eq_getElem_cons h2, hd]
  congr 1
  simpa [List.getD, h1, h2] using h
theorem cmpN_lt {a b : Nat} (h : a < b) : cmpN a b = -1 := by simp [cmpN, h]
theorem cmpN_gt {a b : Nat} (h : b < a) : cmpN a b = 1 := by simp [cmpN, show ¬ a < b by omega, show ¬ a = b by omega]
theorem cmpN_self (a : Nat) : cmpN a a = 0 := by simp [cmpN]
end Wh

/- WALKS, part 7: compareLimbs. -/
namespace Go.Proofs.YteggbenhffmijaaGreatDoor
open Go.RowKit
theorem below_drewN (B : Nat) (w : World) (n : Nat) : Below B w (w.drewN n) := by
  induction n with
  | zero => exact Below.refl _ _
  | succ n ih => exact ih.drew
theorem drew3 (w : World) (a b c : Nat) : ∃ n, ((w.drewN a).drewN b).drewN c = w.drewN n := ⟨a + (b + c), by rw [World.drewN_drewN, World.drewN_drewN]⟩
/-- a callee that turns nothing, called behind draws that the walk has joined -/
theorem q_still {f : FuncId} {args : Array Value} {w : World} {a n : Nat} {v : Value} (h : ∀ W, Calls Tryz.prog f args W fun e W' => e = .returned v ∧ W = W') :
    Calls Tryz.prog f args (w.drewN (a + n)) fun e W' => e = .returned v ∧ ∃ m, W' = w.drewN (a + m) :=
  (h _).mono fun _ _ x => ⟨x.1, n, x.2.symm⟩
set_option maxHeartbeats 400000 in
theorem compare_short (w : World) (v1 v2 : Value) (l1 l2 : List Nat) (h1 : Sl w v1 l1) (h2 : Sl w v2 l2) (hl : l1.length ≠ l2.length) :
    Calls Tryz.prog 231 #[v1, v2] w fun e w' => e = .returned (.int .i64 (if l1.length < l2.length then -1 else 1)) ∧ w = w' := by
  obtain ⟨a1, c1, rfl⟩ := h1.len
  obtain ⟨a2, c2, rfl⟩ := h2.len
  clear h1 h2
  generalize l1.length = n1 at *
  generalize l2.length = n2 at *
  rcases Nat.lt_or_gt_of_ne hl with h | h
  · clear hl
    have h' : (n1 : Int) < n2 := by omega
    have hd : decide ((n1 : Int) < n2) = true := by simpa using h
    go_enter Tryz.func231, Tryz.ntmps231
    go_wp2_with fail
    refine (direction_any _ _).mono ?_
    rintro e w' ⟨rfl, rfl⟩
    go_wp2
    go_ret
    exact ⟨rfl, rfl⟩
  · clear hl
    have h' : (n2 : Int) < n1 := by omega
    have hd : decide ((n1 : Int) < n2) = false := by simp; omega
    go_enter Tryz.func231, Tryz.ntmps231
    go_wp2_with fail
    refine (direction_any _ _).mono ?_
    rintro e w' ⟨rfl, rfl⟩
    go_wp2
    go_ret
    exact ⟨rfl, rfl⟩
set_option maxRecDepth 100000 in
set_option maxHeartbeats 400000 in
theorem compare_same (w : World) (v1 v2 : Value) (l1 l2 : List Nat) (h1 : Sl w v1 l1) (h2 : Sl w v2 l2) (ho1 : Wh.Ok l1) (ho2 : Wh.Ok l2) (hl : l1.length = l2.length) (hm : l1.length < 8) :
    Calls Tryz.prog 231 #[v1, v2] w fun e w' => e = .returned (.int .i64 (Wh.cmpN (Wh.val l1) (Wh.val l2))) ∧ ∃ n, w' = w.drewN n := by
  obtain ⟨a1, c1, rfl, hc1⟩ := h1.addr
  obtain ⟨a2, c2, rfl, hc2⟩ := h2.addr
  clear h1 h2
  have HC1 := Lib.hid hc1; clear hc1
  have HC2 := Lib.hid hc2; clear hc2
  have HO1 := Lib.hid ho1; clear ho1
  have HO2 := Lib.hid ho2; clear ho2
  rw [← hl] at HC2 ⊢
  have HL := Lib.hid hl; clear hl
  generalize hn : l1.length = n at *
  have HN := Lib.hid hn; clear hn
  have h8 : (n : Int) < 8 := by omega
  go_enter Tryz.func231, Tryz.ntmps231
  go_wp2_with fail
  go_loop [5] (fun r => r = .int .i64 n) (fun _ => 0)
  case atStart => rfl
  case round =>
  subst hrel
  go_wp2_with fail
  go_loopw [6] (fun i wr => ∃ j m : Nat, j ≤ n ∧ i = .int .i64 ((j : Int) - 1) ∧ wr = w.drewN m ∧ Hid (l1.drop j = l2.drop j)) (fun i _ => (intOf i + 1).toNat)
  case atStart => exact ⟨n, 0, Nat.le_refl _, rfl, rfl, Lib.hid (by rw [List.drop_of_length_le (by rw [HN.out]; exact Nat.le_refl _), List.drop_of_length_le (by rw [← HL.out]; exact Nat.le_refl _)])⟩
  case round =>
    obtain ⟨j, m, hj, rfl, rfl, HD⟩ := hrel
    by_cases h0 : j = 0
    · subst h0
      go_wp2
      go_ret
      refine ⟨?_, m, rfl⟩
      have e : l1 = l2 := by simpa using HD.out
      rw [e, Wh.cmpN_self]
      rfl
    · obtain ⟨k, rfl⟩ : ∃ k, j = k + 1 := ⟨j - 1, by omega⟩
      obtain ⟨b1, off1, rfl, hbl1, hcell1⟩ := HC1.out k (by omega)
      obtain ⟨b2, off2, rfl, hbl2, hcell2⟩ := HC2.out k (by omega)
      have hcx := hcell1 k (by omega)
      have hcy := hcell2 k (by omega)
      clear hcell1 hcell2
      have hk : (0 : Int) ≤ (k : Int) ∧ (k : Int) < (n : Int) := by omega
      obtain ⟨hk1, hk2⟩ := hk
      have hkn : k < n := by omega
      rw [show (((k + 1 : Nat) : Int) - 1) = (k : Int) from by omega]
      clear h0 hj
      generalize hx : l1.getD k 0 = x at *
      generalize hy : l2.getD k 0 = y at *
      have HX := Lib.hid hx; clear hx
      have HY := Lib.hid hy; clear hy
      rcases Nat.lt_trichotomy x y with hc | hc | hc
      · have hne : ((x : Int) != (y : Int)) = true := by rw [bne_iff_ne]; omega
        have hlt : decide (x < y) = true := by simpa using hc
        have hfin : Wh.cmpN (Wh.val l1) (Wh.val l2) = -1 := Wh.cmpN_lt (Wh.val_lt_of_top HO1.out k (by rw [HN.out]; exact hkn) (by rw [← HL.out]; exact hkn) HD.out (by rw [HX.out, HY.out]; exact hc))
        have HF := Lib.hid hfin; clear hfin
        go_wp2
        go_quiet (fail)
        go_wp2
        go_quiet ((go_at_call 190; exact q_still (direction_any _)))
        go_wp2
        go_ret
        exact ⟨by rw [HF.out]; rfl, by first | exact drew3 .. | exact ⟨_, rfl⟩⟩
      · subst hc
        have hne : ((x : Int) != (x : Int)) = false := by simp
        have HD2 := Lib.hid (Wh.drop_step (by rw [HN.out]; exact hkn) (by rw [← HL.out]; exact hkn) (HX.out.trans HY.out.symm) HD.out)
        go_wp2
        go_quiet (fail)
        go_wp2
        go_roundw
        case rel => exact ⟨k, m + nq, by omega, rfl, rfl, HD2⟩
        case measure => simp [intOf]
      · have hne : ((x : Int) != (y : Int)) = true := by rw [bne_iff_ne]; omega
        have hlt : decide (x < y) = false := by simp; omega
        have hfin : Wh.cmpN (Wh.val l1) (Wh.val l2) = 1 := Wh.cmpN_gt (Wh.val_lt_of_top HO2.out k (by rw [← HL.out]; exact hkn) (by rw [HN.out]; exact hkn) HD.out.symm (by rw [HX.out, HY.out]; exact hc))
        have HF := Lib.hid hfin; clear hfin
        go_wp2
        go_quiet (fail)
        go_wp2
        go_quiet ((go_at_call 190; exact q_still (direction_any _)))
        go_wp2
        go_ret
        exact ⟨by rw [HF.out]; rfl, by first | exact drew3 .. | exact ⟨_, rfl⟩⟩
/-- compareLimbs: the order of the numbers -/
theorem compareLimbs_any (w : World) (v1 v2 : Value) (a b : Nat) (h1 : Sl w v1 (Wh.limbs a)) (h2 : Sl w v2 (Wh.limbs b)) (hm : (Wh.limbs a).length < 8 ∨ (Wh.limbs a).length ≠ (Wh.limbs b).length) :
    Calls Tryz.prog 231 #[v1, v2] w fun e w' => e = .returned (.int .i64 (Wh.cmpN a b)) ∧ ∃ n, w' = w.drewN n := by
  by_cases hl : (Wh.limbs a).length = (Wh.limbs b).length
  · have := compare_same w v1 v2 _ _ h1 h2 (Wh.ok_limbs a) (Wh.ok_limbs b) hl (by omega)
    rw [Wh.val_limbs, Wh.val_limbs] at this
    exact this
  · refine (compare_short w v1 v2 _ _ h1 h2 hl).mono ?_
    rintro e w' ⟨rfl, rfl⟩
    refine ⟨?_, 0, rfl⟩
    by_cases h : (Wh.limbs a).length < (Wh.limbs b).length
    · rw [if_pos h, Wh.cmpN_lt (Wh.limbs_lt_of_length h)]
    · rw [if_neg h, Wh.cmpN_gt (Wh.limbs_lt_of_length (by omega))]
end Go.Proofs.YteggbenhffmijaaGreatDoor

/- WALKS, part 8: add. -/
namespace Go.Proofs.YteggbenhffmijaaGreatDoor
open Go.RowKit
/-- limbs of at most this many -/
def Fit (x : Int) : Prop := (Wh.limbs x.natAbs).length < 8
/-- three new variables that hold numbers at work -/
structure Laid3 (w W : World) (a0 a1 b0 b1 c0 c1 : Value) : Prop where
  a0 : W.cell? ⟨w.heap.size, 0, none⟩ = some a0
  a1 : W.cell? ⟨w.heap.size, 1, none⟩ = some a1
  b0 : W.cell? ⟨w.heap.size + 1, 0, none⟩ = some b0
  b1 : W.cell? ⟨w.heap.size + 1, 1, none⟩ = some b1
  c0 : W.cell? ⟨w.heap.size + 1 + 1, 0, none⟩ = some c0
  c1 : W.cell? ⟨w.heap.size + 1 + 1, 1, none⟩ = some c1
  f0 : W.frozen? ⟨w.heap.size + 1 + 1, 0, none⟩ = false
  f1 : W.frozen? ⟨w.heap.size + 1 + 1, 1, none⟩ = false
  fa0 : W.frozen? ⟨w.heap.size, 0, none⟩ = false
  fa1 : W.frozen? ⟨w.heap.size, 1, none⟩ = false
  fb0 : W.frozen? ⟨w.heap.size + 1, 0, none⟩ = false
  fb1 : W.frozen? ⟨w.heap.size + 1, 1, none⟩ = false
  below : Below w.heap.size w W
  size : W.heap.size = w.heap.size + 1 + 1 + 1
theorem Laid3.keep {w W w' : World} {a0 a1 b0 b1 c0 c1 : Value} (L : Laid3 w W a0 a1 b0 b1 c0 c1) (h : Below W.heap.size W w') :
    w'.cell? ⟨w.heap.size, 0, none⟩ = some a0 ∧ w'.cell? ⟨w.heap.size, 1, none⟩ = some a1 ∧ w'.cell? ⟨w.heap.size + 1, 1, none⟩ = some b1 :=
  ⟨(h.cell (p := ⟨_, _, none⟩) (by rw [L.size]; show w.heap.size < _; omega)).trans L.a0, (h.cell (p := ⟨_, _, none⟩) (by rw [L.size]; show w.heap.size < _; omega)).trans L.a1, (h.cell (p := ⟨_, _, none⟩) (by rw [L.size]; show w.heap.size + 1 < _; omega)).trans L.b1⟩
theorem Laid3.result {w W w' : World} {a0 a1 b0 b1 c0 c1 : Value} (L : Laid3 w W a0 a1 b0 b1 c0 c1) (h : Below W.heap.size W w') :
    w'.cell? ⟨w.heap.size + 1 + 1, 0, none⟩ = some c0 ∧ w'.cell? ⟨w.heap.size + 1 + 1, 1, none⟩ = some c1 ∧ w'.frozen? ⟨w.heap.size + 1 + 1, 0, none⟩ = false ∧ w'.frozen? ⟨w.heap.size + 1 + 1, 1, none⟩ = false :=
  ⟨(h.cell (p := ⟨_, _, none⟩) (by rw [L.size]; show w.heap.size + 1 + 1 < _; omega)).trans L.c0, (h.cell (p := ⟨_, _, none⟩) (by rw [L.size]; show w.heap.size + 1 + 1 < _; omega)).trans L.c1,
   (h.frozen (p := ⟨_, _, none⟩) (by rw [L.size]; show w.heap.size + 1 + 1 < _; omega)).trans L.f0, (h.frozen (p := ⟨_, _, none⟩) (by rw [L.size]; show w.heap.size + 1 + 1 < _; omega)).trans L.f1⟩
theorem far1 {w : World} {b b0 i : Nat} {x y a : Value} (h : w.cell? ⟨b0, i, none⟩ = some a) (h0 : b ≠ b0) : ((w.setCell ⟨b, 0, none⟩ x).setCell ⟨b, 1, none⟩ y).cell? ⟨b0, i, none⟩ = some a := by
  rw [World.cell?_setCell_far _ _ _ _ h0, World.cell?_setCell_far _ _ _ _ h0]; exact h
theorem two_cells (w : World) (b : Nat) (x y : Value) {u v : Value} (h0 : w.cell? ⟨b, 0, none⟩ = some u) (h1 : w.cell? ⟨b, 1, none⟩ = some v) :
    ((w.setCell ⟨b, 0, none⟩ x).setCell ⟨b, 1, none⟩ y).cell? ⟨b, 0, none⟩ = some x ∧ ((w.setCell ⟨b, 0, none⟩ x).setCell ⟨b, 1, none⟩ y).cell? ⟨b, 1, none⟩ = some y := by
  constructor
  · rw [World.cell?_setCell_other _ _ _ _ (by intro e; have := congrArg Addr.off e; simp at this), World.cell?_setCell_same _ _ _ h0]
  · exact World.cell?_setCell_same _ _ _ (by rw [World.cell?_setCell_other _ _ _ _ (by intro e; have := congrArg Addr.off e; simp at this)]; exact h1)
/-- a store into a cell that holds no limb turns no limbs -/
theorem Sl.store {w : World} {v : Value} {l : List Nat} (h : Sl w v l) (p : Addr) {u : Value} (hu : w.cell? p = some u) (hn : ∀ n, u ≠ .int .u32 n) (z : Value) : Sl (w.setCell p z) v l := by
  rcases h with h | ⟨b, off, cap, h1, h2, h3, h4⟩
  · exact .inl h
  · refine .inr ⟨b, off, cap, h1, h2, by simpa using h3, fun i hi => ?_⟩
    rw [World.cell?_setCell_other _ _ _ _ (by intro e; rw [e] at hu; rw [h4 i hi] at hu; exact hn _ (Option.some.inj hu).symm)]
    exact h4 i hi
theorem Sl.store2 {w : World} {v : Value} {l : List Nat} (h : Sl w v l) (b : Nat) (k0 : w.cell? ⟨b, 0, none⟩ = some (.int .i64 0)) (k1 : w.cell? ⟨b, 1, none⟩ = some (.slice none 0 0)) (x y : Value) :
    Sl ((w.setCell ⟨b, 0, none⟩ x).setCell ⟨b, 1, none⟩ y) v l :=
  (h.store _ k0 (by intro n e; cases e) x).store _ (u := .slice none 0 0) (by rw [World.cell?_setCell_other _ _ _ _ (by intro e; have := congrArg Addr.off e; simp at this)]; exact k1) (by intro n e; cases e) y
/-- a draw turns no block -/
theorem drew_left {w w' : World} {B : Nat} (h : Below B w.drew w') : Below B w w' := (Below.refl B w).drew.trans h
theorem laid3 (w : World) (a0 a1 b0 b1 c0 c1 : Value) (t : TypeId) (m : Nat) :
    Laid3 w ((((w.alloc (.cells #[a0, a1] t)).alloc (.cells #[b0, b1] t)).alloc (.cells #[c0, c1] t)).drewN m) a0 a1 b0 b1 c0 c1 := by
  refine ⟨by go_simp, by go_simp, by go_simp, by go_simp, by go_simp, by go_simp, by go_simp, by go_simp, by go_simp, by go_simp, by go_simp, by go_simp, ?_, by simp⟩
  exact ((((Below.refl _ _).alloc (Nat.le_refl _) _).alloc (by simp) _).alloc (by simp; omega) _).trans (below_drewN _ _ _)
theorem sign_lt (x : Int) : (x < 0 ∧ Int.sign x = -1) ∨ (x = 0 ∧ Int.sign x = 0) ∨ (0 < x ∧ Int.sign x = 1) := by
  rcases Int.lt_trichotomy x 0 with h | h | h
  · exact .inl ⟨h, Int.sign_eq_neg_one_of_neg h⟩
  · exact .inr (.inl ⟨h, by rw [h]; rfl⟩)
  · exact .inr (.inr ⟨h, Int.sign_eq_one_of_pos h⟩)
theorem sum_take (x y : Int) (hle : y.natAbs ≤ x.natAbs) (hneg : Int.sign x * Int.sign y = -1) : Int.sign x * ((Wh.val (Wh.limbs (x.natAbs - y.natAbs)) : Nat) : Int) = x + y := by
  rw [Wh.val_limbs]
  rcases sign_lt x with ⟨h, e⟩ | ⟨h, e⟩ | ⟨h, e⟩ <;> rcases sign_lt y with ⟨k, f⟩ | ⟨k, f⟩ | ⟨k, f⟩ <;> rw [e] at hneg ⊢ <;> rw [f] at hneg <;> omega
theorem sum_add (x y : Int) (hle : y.natAbs ≤ x.natAbs) (hneg : Int.sign x * Int.sign y ≠ -1) : Int.sign x * ((Wh.val (Wh.limbs (x.natAbs + y.natAbs)) : Nat) : Int) = x + y := by
  rw [Wh.val_limbs]
  rcases sign_lt x with ⟨h, e⟩ | ⟨h, e⟩ | ⟨h, e⟩ <;> rcases sign_lt y with ⟨k, f⟩ | ⟨k, f⟩ | ⟨k, f⟩ <;> rw [e] at hneg ⊢ <;> rw [f] at hneg <;> omega
theorem sign_cases (x y : Int) : Int.sign x = -1 ∨ Int.sign x = 1 ∨ x.natAbs - y.natAbs = 0 := by
  rcases Int.lt_trichotomy x 0 with h | h | h
  · exact .inl (Int.sign_eq_neg_one_of_neg h)
  · subst h; exact .inr (.inr (by simp))
  · exact .inr (.inl (Int.sign_eq_one_of_pos h))
theorem sign_cases2 (x y : Int) (h : y.natAbs ≤ x.natAbs) : Int.sign x = -1 ∨ Int.sign x = 1 ∨ x.natAbs + y.natAbs = 0 := by
  rcases sign_lt x with ⟨_, e⟩ | ⟨k, _⟩ | ⟨_, e⟩
  · exact .inl e
  · exact .inr (.inr (by omega))
  · exact .inr (.inl e)
theorem sign_range (x : Int) : -1 ≤ Int.sign x ∧ Int.sign x ≤ 1 := by
  rcases sign_lt x with ⟨_, e⟩ | ⟨_, e⟩ | ⟨_, e⟩ <;> omega
theorem Laid3.swap {w W : World} {a0 a1 b0 b1 c0 c1 : Value} (L : Laid3 w W a0 a1 b0 b1 c0 c1) :
    Laid3 w ((((W.setCell ⟨w.heap.size, 0, none⟩ b0).setCell ⟨w.heap.size, 1, none⟩ b1).setCell ⟨w.heap.size + 1, 0, none⟩ a0).setCell ⟨w.heap.size + 1, 1, none⟩ a1) b0 b1 a0 a1 c0 c1 := by
  have e1 := two_cells W w.heap.size b0 b1 L.a0 L.a1
  have far : ∀ (V : World) (b i : Nat) (x y : Value), b ≠ w.heap.size → ((V.setCell ⟨w.heap.size, 0, none⟩ x).setCell ⟨w.heap.size, 1, none⟩ y).cell? ⟨b, i, none⟩ = V.cell? ⟨b, i, none⟩ := fun V b i x y hb => by
    rw [World.cell?_setCell_far _ _ _ _ (fun e => hb e.symm), World.cell?_setCell_far _ _ _ _ (fun e => hb e.symm)]
  have far' : ∀ (V : World) (b i : Nat) (x y : Value), b ≠ w.heap.size + 1 → ((V.setCell ⟨w.heap.size + 1, 0, none⟩ x).setCell ⟨w.heap.size + 1, 1, none⟩ y).cell? ⟨b, i, none⟩ = V.cell? ⟨b, i, none⟩ := fun V b i x y hb => by
    rw [World.cell?_setCell_far _ _ _ _ (fun e => hb e.symm), World.cell?_setCell_far _ _ _ _ (fun e => hb e.symm)]
  have e2 := two_cells ((W.setCell ⟨w.heap.size, 0, none⟩ b0).setCell ⟨w.heap.size, 1, none⟩ b1) (w.heap.size + 1) a0 a1 ((far _ _ _ _ _ (by omega)).trans L.b0) ((far _ _ _ _ _ (by omega)).trans L.b1)
  refine ⟨(far' _ _ _ _ _ (by omega)).trans e1.1, (far' _ _ _ _ _ (by omega)).trans e1.2, e2.1, e2.2, ((far' _ _ _ _ _ (by omega)).trans (far _ _ _ _ _ (by omega))).trans L.c0, ((far' _ _ _ _ _ (by omega)).trans (far _ _ _ _ _ (by omega))).trans L.c1, ?_, ?_, ?_, ?_, ?_, ?_, ?_, by simpa using L.size⟩
  iterate 6 (simp only [World.frozen?_setCell]; first | exact L.f0 | exact L.f1 | exact L.fa0 | exact L.fa1 | exact L.fb0 | exact L.fb1)
  exact (((L.below.setCell (Nat.le_refl _) _).setCell (Nat.le_refl _) _).setCell (by show w.heap.size ≤ w.heap.size + 1; omega) _).setCell (by show w.heap.size ≤ w.heap.size + 1; omega) _
end Go.Proofs.YteggbenhffmijaaGreatDoor

/- WALKS, part 9: add (made by tools/gen_add.py). -/
namespace Go.Proofs.YteggbenhffmijaaGreatDoor
open Go.RowKit
set_option maxRecDepth 100000 in
set_option maxHeartbeats 800000 in
theorem add_tt (w : World) (x y : Int) (s1 s2 : Value) (h1 : Sl w s1 (Wh.limbs x.natAbs)) (h2 : Sl w s2 (Wh.limbs y.natAbs)) (hx : Fit x) (hy : Fit y) (hle : y.natAbs ≤ x.natAbs) (hneg : Int.sign x * Int.sign y = -1) :
    Calls Tryz.prog 169 #[.agg #[.int .i64 (Int.sign x), s1], .agg #[.int .i64 (Int.sign y), s2]] w fun e w' => (∃ v', e = .returned v' ∧ Num w' v' (x + y)) ∧ Below w.heap.size w w' := by
  obtain ⟨xa1, xc1, rfl⟩ := h1.len
  obtain ⟨xa2, xc2, rfl⟩ := h2.len
  have H1 := Lib.hid h1; clear h1
  have H2 := Lib.hid h2; clear h2
  have hfx : (Wh.limbs x.natAbs).length < 8 := hx
  have hfy : (Wh.limbs y.natAbs).length < 8 := hy
  have HFX := Lib.hid hfx; clear hfx
  have HFY := Lib.hid hfy; clear hfy
  clear hx hy
  generalize (Wh.limbs x.natAbs).length = n1 at H1 ⊢
  generalize (Wh.limbs y.natAbs).length = n2 at H2 ⊢
  have hle' := hle
  have HXY := Lib.hid (sum_take x y hle hneg)
  have hcc0 : 0 ≤ Wh.cmpN x.natAbs y.natAbs := by
    unfold Wh.cmpN; split
    · omega
    · split <;> omega
  clear hle
  have HLE := Lib.hid hle'; clear hle'
  have HNEG := Lib.hid hneg; clear hneg
  go_enter Tryz.func169, Tryz.ntmps169
  go_wp2_with fail
  refine (compareLimbs_any _ _ _ x.natAbs y.natAbs (H1.out.mono ?_) (H2.out.mono ?_) (.inl HFX.out)).mono ?_
  · exact (((Below.refl _ _).alloc (Nat.le_refl _) _).alloc (by simp) _).alloc (by simp; omega) _
  · exact (((Below.refl _ _).alloc (Nat.le_refl _) _).alloc (by simp) _).alloc (by simp; omega) _
  rintro e w' ⟨rfl, m, rfl⟩
  generalize Wh.cmpN x.natAbs y.natAbs = cc at hcc0 ⊢
  have L := laid3 w (.int .i64 x.sign) (.slice xa1 n1 xc1) (.int .i64 y.sign) (.slice xa2 n2 xc2) (.int .i64 0) (.slice none 0 0) 92 m
  generalize (((w.alloc (Obj.cells #[Value.int IntKind.i64 x.sign, .slice xa1 n1 xc1] 92)).alloc (Obj.cells #[Value.int IntKind.i64 y.sign, .slice xa2 n2 xc2] 92)).alloc (Obj.cells #[Value.int IntKind.i64 0, Value.slice none 0 0] 92)).drewN m = W at L ⊢
  have la0 := L.a0
  have la1 := L.a1
  have lb0 := L.b0
  have lb1 := L.b1
  have fa0 := L.fa0
  have fa1 := L.fa1
  have fb0 := L.fb0
  have fb1 := L.fb1
  go_wp2_with fail
  refine (with_any _ _ (sign_range _) (sign_range _) _).mono ?_
  rintro e w' ⟨rfl, rfl⟩
  rw [HNEG.out]
  go_wp2_with fail
  go_region_held3 (fun w' => w'.cell? ⟨w.heap.size, 0, none⟩ = some (.int .i64 x.sign) ∧ w'.cell? ⟨w.heap.size, 1, none⟩ = some (.slice xa1 n1 xc1) ∧ w'.cell? ⟨w.heap.size + 1, 1, none⟩ = some (.slice xa2 n2 xc2)) (first | exact ⟨far1 q2.1 (by omega), far1 q2.2.1 (by omega), far1 q2.2.2 (by omega)⟩ | exact q2 | exact q1 | go_keep) (first
    | (go_at_call 246; refine (takeLimbs_any _ _ _ x.natAbs y.natAbs (H1.out.mono L.below.drew) (H2.out.mono L.below.drew) (by have := HFX.out; omega) HLE.out).mono ?_; rintro e w1 ⟨⟨v1, rfl, hsm, hv1⟩, hb1⟩; have q1 := L.keep (drew_left hb1))
    | (go_at_call 187; refine (signed_any _ _ _ _ (Wh.ok_limbs _) hv1 hsm (by rw [Wh.val_limbs]; exact (sign_cases x y))).mono ?_; rintro e w2 ⟨⟨v2, rfl, hn⟩, hb2⟩; rw [HXY.out] at hn; obtain ⟨sl, rfl, hsl⟩ := hn; obtain ⟨xa, xc, rfl⟩ := hsl.len; have hbb := drew_left (hb1.trans (hb2.mono hb1.size)); have q2 := L.keep hbb; obtain ⟨k0, k1, g0, g1⟩ := L.result hbb))
  go_wp2
  have hfin := two_cells w2 (w.heap.size + 1 + 1) (.int .i64 (Int.sign (x + y))) (.slice xa (Wh.limbs (x + y).natAbs).length xc) k0 k1
  have hB : Below w.heap.size w ((w2.setCell ⟨w.heap.size + 1 + 1, 0, none⟩ (.int .i64 (Int.sign (x + y)))).setCell ⟨w.heap.size + 1 + 1, 1, none⟩ (.slice xa (Wh.limbs (x + y).natAbs).length xc)) :=
    ((L.below.trans (hbb.mono L.below.size)).setCell (by simp; omega) _).setCell (by simp; omega) _
  exact bodyPost_ret (v := .agg #[.int .i64 (Int.sign (x + y)), .slice xa (Wh.limbs (x + y).natAbs).length xc]) (by simp [results, Tryz.results169, go_sem, hfin.1, hfin.2]) rfl ⟨⟨_, rfl, _, rfl, hsl.store2 _ k0 k1 _ _⟩, hB⟩
set_option maxRecDepth 100000 in
set_option maxHeartbeats 800000 in
theorem add_ta (w : World) (x y : Int) (s1 s2 : Value) (h1 : Sl w s1 (Wh.limbs x.natAbs)) (h2 : Sl w s2 (Wh.limbs y.natAbs)) (hx : Fit x) (hy : Fit y) (hle : y.natAbs ≤ x.natAbs) (hneg : Int.sign x * Int.sign y ≠ -1) :
    Calls Tryz.prog 169 #[.agg #[.int .i64 (Int.sign x), s1], .agg #[.int .i64 (Int.sign y), s2]] w fun e w' => (∃ v', e = .returned v' ∧ Num w' v' (x + y)) ∧ Below w.heap.size w w' := by
  obtain ⟨xa1, xc1, rfl⟩ := h1.len
  obtain ⟨xa2, xc2, rfl⟩ := h2.len
  have H1 := Lib.hid h1; clear h1
  have H2 := Lib.hid h2; clear h2
  have hfx : (Wh.limbs x.natAbs).length < 8 := hx
  have hfy : (Wh.limbs y.natAbs).length < 8 := hy
  have HFX := Lib.hid hfx; clear hfx
  have HFY := Lib.hid hfy; clear hfy
  clear hx hy
  generalize (Wh.limbs x.natAbs).length = n1 at H1 ⊢
  generalize (Wh.limbs y.natAbs).length = n2 at H2 ⊢
  have hle' := hle
  have HXY := Lib.hid (sum_add x y hle hneg)
  have hcc0 : 0 ≤ Wh.cmpN x.natAbs y.natAbs := by
    unfold Wh.cmpN; split
    · omega
    · split <;> omega
  clear hle
  have HLE := Lib.hid hle'; clear hle'
  have hz : ((Int.sign x * Int.sign y) == -1) = false := beq_eq_false_iff_ne.2 hneg
  clear hneg
  go_enter Tryz.func169, Tryz.ntmps169
  go_wp2_with fail
  refine (compareLimbs_any _ _ _ x.natAbs y.natAbs (H1.out.mono ?_) (H2.out.mono ?_) (.inl HFX.out)).mono ?_
  · exact (((Below.refl _ _).alloc (Nat.le_refl _) _).alloc (by simp) _).alloc (by simp; omega) _
  · exact (((Below.refl _ _).alloc (Nat.le_refl _) _).alloc (by simp) _).alloc (by simp; omega) _
  rintro e w' ⟨rfl, m, rfl⟩
  generalize Wh.cmpN x.natAbs y.natAbs = cc at hcc0 ⊢
  have L := laid3 w (.int .i64 x.sign) (.slice xa1 n1 xc1) (.int .i64 y.sign) (.slice xa2 n2 xc2) (.int .i64 0) (.slice none 0 0) 92 m
  generalize (((w.alloc (Obj.cells #[Value.int IntKind.i64 x.sign, .slice xa1 n1 xc1] 92)).alloc (Obj.cells #[Value.int IntKind.i64 y.sign, .slice xa2 n2 xc2] 92)).alloc (Obj.cells #[Value.int IntKind.i64 0, Value.slice none 0 0] 92)).drewN m = W at L ⊢
  have la0 := L.a0
  have la1 := L.a1
  have lb0 := L.b0
  have lb1 := L.b1
  have fa0 := L.fa0
  have fa1 := L.fa1
  have fb0 := L.fb0
  have fb1 := L.fb1
  go_wp2_with fail
  refine (with_any _ _ (sign_range _) (sign_range _) _).mono ?_
  rintro e w' ⟨rfl, rfl⟩
  generalize x.sign * y.sign = z at hz ⊢
  go_wp2_with fail
  go_region_held3 (fun w' => w'.cell? ⟨w.heap.size, 0, none⟩ = some (.int .i64 x.sign) ∧ w'.cell? ⟨w.heap.size, 1, none⟩ = some (.slice xa1 n1 xc1) ∧ w'.cell? ⟨w.heap.size + 1, 1, none⟩ = some (.slice xa2 n2 xc2)) (first | exact ⟨far1 q2.1 (by omega), far1 q2.2.1 (by omega), far1 q2.2.2 (by omega)⟩ | exact q2 | exact q1 | go_keep) (first
    | (go_at_call 247; refine (addLimbs_any _ _ _ x.natAbs y.natAbs (H1.out.mono L.below.drew) (H2.out.mono L.below.drew) (by have := HFX.out; omega) (by have := HFY.out; omega)).mono ?_; rintro e w1 ⟨⟨v1, rfl, hsm, hv1⟩, hb1⟩; have q1 := L.keep (drew_left hb1))
    | (go_at_call 187; refine (signed_any _ _ _ _ (Wh.ok_limbs _) hv1 hsm (by rw [Wh.val_limbs]; exact (sign_cases2 x y HLE.out))).mono ?_; rintro e w2 ⟨⟨v2, rfl, hn⟩, hb2⟩; rw [HXY.out] at hn; obtain ⟨sl, rfl, hsl⟩ := hn; obtain ⟨xa, xc, rfl⟩ := hsl.len; have hbb := drew_left (hb1.trans (hb2.mono hb1.size)); have q2 := L.keep hbb; obtain ⟨k0, k1, g0, g1⟩ := L.result hbb))
  go_wp2
  have hfin := two_cells w2 (w.heap.size + 1 + 1) (.int .i64 (Int.sign (x + y))) (.slice xa (Wh.limbs (x + y).natAbs).length xc) k0 k1
  have hB : Below w.heap.size w ((w2.setCell ⟨w.heap.size + 1 + 1, 0, none⟩ (.int .i64 (Int.sign (x + y)))).setCell ⟨w.heap.size + 1 + 1, 1, none⟩ (.slice xa (Wh.limbs (x + y).natAbs).length xc)) :=
    ((L.below.trans (hbb.mono L.below.size)).setCell (by simp; omega) _).setCell (by simp; omega) _
  exact bodyPost_ret (v := .agg #[.int .i64 (Int.sign (x + y)), .slice xa (Wh.limbs (x + y).natAbs).length xc]) (by simp [results, Tryz.results169, go_sem, hfin.1, hfin.2]) rfl ⟨⟨_, rfl, _, rfl, hsl.store2 _ k0 k1 _ _⟩, hB⟩
set_option maxRecDepth 100000 in
set_option maxHeartbeats 800000 in
theorem add_st (w : World) (x y : Int) (s1 s2 : Value) (h1 : Sl w s1 (Wh.limbs x.natAbs)) (h2 : Sl w s2 (Wh.limbs y.natAbs)) (hx : Fit x) (hy : Fit y) (hle : x.natAbs < y.natAbs) (hneg : Int.sign x * Int.sign y = -1) :
    Calls Tryz.prog 169 #[.agg #[.int .i64 (Int.sign x), s1], .agg #[.int .i64 (Int.sign y), s2]] w fun e w' => (∃ v', e = .returned v' ∧ Num w' v' (x + y)) ∧ Below w.heap.size w w' := by
  obtain ⟨xa1, xc1, rfl⟩ := h1.len
  obtain ⟨xa2, xc2, rfl⟩ := h2.len
  have H1 := Lib.hid h1; clear h1
  have H2 := Lib.hid h2; clear h2
  have hfx : (Wh.limbs x.natAbs).length < 8 := hx
  have hfy : (Wh.limbs y.natAbs).length < 8 := hy
  have HFX := Lib.hid hfx; clear hfx
  have HFY := Lib.hid hfy; clear hfy
  clear hx hy
  generalize (Wh.limbs x.natAbs).length = n1 at H1 ⊢
  generalize (Wh.limbs y.natAbs).length = n2 at H2 ⊢
  have hle' : x.natAbs ≤ y.natAbs := by omega
  rw [Int.mul_comm] at hneg
  have HXY := Lib.hid ((sum_take y x hle' hneg).trans (Int.add_comm y x))
  have HCC := Lib.hid (Wh.cmpN_lt hle)
  clear hle
  have HLE := Lib.hid hle'; clear hle'
  have HNEG := Lib.hid hneg; clear hneg
  go_enter Tryz.func169, Tryz.ntmps169
  go_wp2_with fail
  refine (compareLimbs_any _ _ _ x.natAbs y.natAbs (H1.out.mono ?_) (H2.out.mono ?_) (.inl HFX.out)).mono ?_
  · exact (((Below.refl _ _).alloc (Nat.le_refl _) _).alloc (by simp) _).alloc (by simp; omega) _
  · exact (((Below.refl _ _).alloc (Nat.le_refl _) _).alloc (by simp) _).alloc (by simp; omega) _
  rintro e w' ⟨rfl, m, rfl⟩
  rw [HCC.out]
  have L := laid3 w (.int .i64 x.sign) (.slice xa1 n1 xc1) (.int .i64 y.sign) (.slice xa2 n2 xc2) (.int .i64 0) (.slice none 0 0) 92 m
  generalize (((w.alloc (Obj.cells #[Value.int IntKind.i64 x.sign, .slice xa1 n1 xc1] 92)).alloc (Obj.cells #[Value.int IntKind.i64 y.sign, .slice xa2 n2 xc2] 92)).alloc (Obj.cells #[Value.int IntKind.i64 0, Value.slice none 0 0] 92)).drewN m = W at L ⊢
  have la0 := L.a0
  have la1 := L.a1
  have lb0 := L.b0
  have lb1 := L.b1
  have fa0 := L.fa0
  have fa1 := L.fa1
  have fb0 := L.fb0
  have fb1 := L.fb1
  go_wp2_with fail
  have L2 := L.swap
  generalize ((((W.setCell ⟨w.heap.size, 0, none⟩ (.int .i64 y.sign)).setCell ⟨w.heap.size, 1, none⟩ (.slice xa2 n2 xc2)).setCell ⟨w.heap.size + 1, 0, none⟩ (.int .i64 x.sign)).setCell ⟨w.heap.size + 1, 1, none⟩ (.slice xa1 n1 xc1)) = W2 at L2 ⊢
  clear la0 la1 lb0 lb1 fa0 fa1 fb0 fb1 L W
  have L := L2; clear L2
  have la0 := L.a0
  have la1 := L.a1
  have lb1 := L.b1
  refine (with_any _ _ (sign_range _) (sign_range _) _).mono ?_
  rintro e w' ⟨rfl, rfl⟩
  rw [HNEG.out]
  go_wp2_with fail
  go_region_held3 (fun w' => w'.cell? ⟨w.heap.size, 0, none⟩ = some (.int .i64 y.sign) ∧ w'.cell? ⟨w.heap.size, 1, none⟩ = some (.slice xa2 n2 xc2) ∧ w'.cell? ⟨w.heap.size + 1, 1, none⟩ = some (.slice xa1 n1 xc1)) (first | exact ⟨far1 q2.1 (by omega), far1 q2.2.1 (by omega), far1 q2.2.2 (by omega)⟩ | exact q2 | exact q1 | go_keep) (first
    | (go_at_call 246; refine (takeLimbs_any _ _ _ y.natAbs x.natAbs (H2.out.mono L.below.drew) (H1.out.mono L.below.drew) (by have := HFY.out; omega) HLE.out).mono ?_; rintro e w1 ⟨⟨v1, rfl, hsm, hv1⟩, hb1⟩; have q1 := L.keep (drew_left hb1))
    | (go_at_call 187; refine (signed_any _ _ _ _ (Wh.ok_limbs _) hv1 hsm (by rw [Wh.val_limbs]; exact (sign_cases y x))).mono ?_; rintro e w2 ⟨⟨v2, rfl, hn⟩, hb2⟩; rw [HXY.out] at hn; obtain ⟨sl, rfl, hsl⟩ := hn; obtain ⟨xa, xc, rfl⟩ := hsl.len; have hbb := drew_left (hb1.trans (hb2.mono hb1.size)); have q2 := L.keep hbb; obtain ⟨k0, k1, g0, g1⟩ := L.result hbb))
  go_wp2
  have hfin := two_cells w2 (w.heap.size + 1 + 1) (.int .i64 (Int.sign (x + y))) (.slice xa (Wh.limbs (x + y).natAbs).length xc) k0 k1
  have hB : Below w.heap.size w ((w2.setCell ⟨w.heap.size + 1 + 1, 0, none⟩ (.int .i64 (Int.sign (x + y)))).setCell ⟨w.heap.size + 1 + 1, 1, none⟩ (.slice xa (Wh.limbs (x + y).natAbs).length xc)) :=
    ((L.below.trans (hbb.mono L.below.size)).setCell (by simp; omega) _).setCell (by simp; omega) _
  exact bodyPost_ret (v := .agg #[.int .i64 (Int.sign (x + y)), .slice xa (Wh.limbs (x + y).natAbs).length xc]) (by simp [results, Tryz.results169, go_sem, hfin.1, hfin.2]) rfl ⟨⟨_, rfl, _, rfl, hsl.store2 _ k0 k1 _ _⟩, hB⟩
set_option maxRecDepth 100000 in
set_option maxHeartbeats 800000 in
theorem add_sa (w : World) (x y : Int) (s1 s2 : Value) (h1 : Sl w s1 (Wh.limbs x.natAbs)) (h2 : Sl w s2 (Wh.limbs y.natAbs)) (hx : Fit x) (hy : Fit y) (hle : x.natAbs < y.natAbs) (hneg : Int.sign x * Int.sign y ≠ -1) :
    Calls Tryz.prog 169 #[.agg #[.int .i64 (Int.sign x), s1], .agg #[.int .i64 (Int.sign y), s2]] w fun e w' => (∃ v', e = .returned v' ∧ Num w' v' (x + y)) ∧ Below w.heap.size w w' := by
  obtain ⟨xa1, xc1, rfl⟩ := h1.len
  obtain ⟨xa2, xc2, rfl⟩ := h2.len
  have H1 := Lib.hid h1; clear h1
  have H2 := Lib.hid h2; clear h2
  have hfx : (Wh.limbs x.natAbs).length < 8 := hx
  have hfy : (Wh.limbs y.natAbs).length < 8 := hy
  have HFX := Lib.hid hfx; clear hfx
  have HFY := Lib.hid hfy; clear hfy
  clear hx hy
  generalize (Wh.limbs x.natAbs).length = n1 at H1 ⊢
  generalize (Wh.limbs y.natAbs).length = n2 at H2 ⊢
  have hle' : x.natAbs ≤ y.natAbs := by omega
  rw [Int.mul_comm] at hneg
  have HXY := Lib.hid ((sum_add y x hle' hneg).trans (Int.add_comm y x))
  have HCC := Lib.hid (Wh.cmpN_lt hle)
  clear hle
  have HLE := Lib.hid hle'; clear hle'
  have hz : ((Int.sign y * Int.sign x) == -1) = false := beq_eq_false_iff_ne.2 hneg
  clear hneg
  go_enter Tryz.func169, Tryz.ntmps169
  go_wp2_with fail
  refine (compareLimbs_any _ _ _ x.natAbs y.natAbs (H1.out.mono ?_) (H2.out.mono ?_) (.inl HFX.out)).mono ?_
  · exact (((Below.refl _ _).alloc (Nat.le_refl _) _).alloc (by simp) _).alloc (by simp; omega) _
  · exact (((Below.refl _ _).alloc (Nat.le_refl _) _).alloc (by simp) _).alloc (by simp; omega) _
  rintro e w' ⟨rfl, m, rfl⟩
  rw [HCC.out]
  have L := laid3 w (.int .i64 x.sign) (.slice xa1 n1 xc1) (.int .i64 y.sign) (.slice xa2 n2 xc2) (.int .i64 0) (.slice none 0 0) 92 m
  generalize (((w.alloc (Obj.cells #[Value.int IntKind.i64 x.sign, .slice xa1 n1 xc1] 92)).alloc (Obj.cells #[Value.int IntKind.i64 y.sign, .slice xa2 n2 xc2] 92)).alloc (Obj.cells #[Value.int IntKind.i64 0, Value.slice none 0 0] 92)).drewN m = W at L ⊢
  have la0 := L.a0
  have la1 := L.a1
  have lb0 := L.b0
  have lb1 := L.b1
  have fa0 := L.fa0
  have fa1 := L.fa1
  have fb0 := L.fb0
  have fb1 := L.fb1
  go_wp2_with fail
  have L2 := L.swap
  generalize ((((W.setCell ⟨w.heap.size, 0, none⟩ (.int .i64 y.sign)).setCell ⟨w.heap.size, 1, none⟩ (.slice xa2 n2 xc2)).setCell ⟨w.heap.size + 1, 0, none⟩ (.int .i64 x.sign)).setCell ⟨w.heap.size + 1, 1, none⟩ (.slice xa1 n1 xc1)) = W2 at L2 ⊢
  clear la0 la1 lb0 lb1 fa0 fa1 fb0 fb1 L W
  have L := L2; clear L2
  have la0 := L.a0
  have la1 := L.a1
  have lb1 := L.b1
  refine (with_any _ _ (sign_range _) (sign_range _) _).mono ?_
  rintro e w' ⟨rfl, rfl⟩
  generalize y.sign * x.sign = z at hz ⊢
  go_wp2_with fail
  go_region_held3 (fun w' => w'.cell? ⟨w.heap.size, 0, none⟩ = some (.int .i64 y.sign) ∧ w'.cell? ⟨w.heap.size, 1, none⟩ = some (.slice xa2 n2 xc2) ∧ w'.cell? ⟨w.heap.size + 1, 1, none⟩ = some (.slice xa1 n1 xc1)) (first | exact ⟨far1 q2.1 (by omega), far1 q2.2.1 (by omega), far1 q2.2.2 (by omega)⟩ | exact q2 | exact q1 | go_keep) (first
    | (go_at_call 247; refine (addLimbs_any _ _ _ y.natAbs x.natAbs (H2.out.mono L.below.drew) (H1.out.mono L.below.drew) (by have := HFY.out; omega) (by have := HFX.out; omega)).mono ?_; rintro e w1 ⟨⟨v1, rfl, hsm, hv1⟩, hb1⟩; have q1 := L.keep (drew_left hb1))
    | (go_at_call 187; refine (signed_any _ _ _ _ (Wh.ok_limbs _) hv1 hsm (by rw [Wh.val_limbs]; exact (sign_cases2 y x HLE.out))).mono ?_; rintro e w2 ⟨⟨v2, rfl, hn⟩, hb2⟩; rw [HXY.out] at hn; obtain ⟨sl, rfl, hsl⟩ := hn; obtain ⟨xa, xc, rfl⟩ := hsl.len; have hbb := drew_left (hb1.trans (hb2.mono hb1.size)); have q2 := L.keep hbb; obtain ⟨k0, k1, g0, g1⟩ := L.result hbb))
  go_wp2
  have hfin := two_cells w2 (w.heap.size + 1 + 1) (.int .i64 (Int.sign (x + y))) (.slice xa (Wh.limbs (x + y).natAbs).length xc) k0 k1
  have hB : Below w.heap.size w ((w2.setCell ⟨w.heap.size + 1 + 1, 0, none⟩ (.int .i64 (Int.sign (x + y)))).setCell ⟨w.heap.size + 1 + 1, 1, none⟩ (.slice xa (Wh.limbs (x + y).natAbs).length xc)) :=
    ((L.below.trans (hbb.mono L.below.size)).setCell (by simp; omega) _).setCell (by simp; omega) _
  exact bodyPost_ret (v := .agg #[.int .i64 (Int.sign (x + y)), .slice xa (Wh.limbs (x + y).natAbs).length xc]) (by simp [results, Tryz.results169, go_sem, hfin.1, hfin.2]) rfl ⟨⟨_, rfl, _, rfl, hsl.store2 _ k0 k1 _ _⟩, hB⟩
/-- add: the sum -/
theorem add_any (w : World) (x y : Int) (v1 v2 : Value) (h1 : Num w v1 x) (h2 : Num w v2 y) (hx : Fit x) (hy : Fit y) :
    Calls Tryz.prog 169 #[v1, v2] w fun e w' => (∃ v', e = .returned v' ∧ Num w' v' (x + y)) ∧ Below w.heap.size w w' := by
  obtain ⟨s1, rfl, h1⟩ := h1
  obtain ⟨s2, rfl, h2⟩ := h2
  by_cases hle : y.natAbs ≤ x.natAbs <;> by_cases hn : Int.sign x * Int.sign y = -1
  · exact add_tt w x y s1 s2 h1 h2 hx hy hle hn
  · exact add_ta w x y s1 s2 h1 h2 hx hy hle hn
  · exact add_st w x y s1 s2 h1 h2 hx hy (by omega) hn
  · exact add_sa w x y s1 s2 h1 h2 hx hy (by omega) hn
end Go.Proofs.YteggbenhffmijaaGreatDoor
