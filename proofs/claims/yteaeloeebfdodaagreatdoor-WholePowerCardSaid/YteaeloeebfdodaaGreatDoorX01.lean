/- Part 1 of the proofs that laws of package whole answer true at every input and leave the input as it was, where the library's variables start as the text lays them (the texts M1, M2, M3, A1, M4, A2, A3, A4). -/
import Derived.Test.YteaeloeebfdodaaGreatDoorProg
import Derived.Lib.Hide
import Derived.WalkKit
import Derived.WalkSpells
import Derived.WalkLawsBesides
import Derived.Deep.OwnRows
set_option linter.unusedVariables false
set_option linter.unusedSimpArgs false
/- limbs in base 10^9, the lowest first -/
namespace Wh
def R : Nat := 1000000000
theorem R_pos : 0 < R := by decide
theorem R_gt : 1 < R := by decide
theorem R_eq : R = 1000000000 := rfl
def val : List Nat → Nat
  | [] => 0
  | x :: xs => x + R * val xs
def limbs (n : Nat) : List Nat := if _h : n = 0 then [] else n % R :: limbs (n / R)
termination_by n
decreasing_by exact Nat.div_lt_self (by omega) R_gt
def Ok (l : List Nat) : Prop := ∀ x ∈ l, x < R
def trimL (l : List Nat) : List Nat := limbs (val l)
theorem limbs_zero : limbs 0 = [] := by rw [limbs]; rfl
theorem limbs_pos {n : Nat} (h : 0 < n) : limbs n = n % R :: limbs (n / R) := by
  rw [limbs]; rw [dif_neg (by omega)]
theorem val_limbs (n : Nat) : val (limbs n) = n := by
  induction n using Nat.strongRecOn with
  | ind n ih =>
    by_cases h : n = 0
    · subst h; rw [limbs_zero]; rfl
    · rw [limbs_pos (by omega), val, ih (n / R) (Nat.div_lt_self (by omega) R_gt)]
      exact Nat.mod_add_div n R
theorem ok_limbs (n : Nat) : Ok (limbs n) := by
  induction n using Nat.strongRecOn with
  | ind n ih =>
    by_cases h : n = 0
    · subst h; rw [limbs_zero]; intro x hx; cases hx
    · rw [limbs_pos (by omega)]
      intro x hx
      cases hx with
      | head => exact Nat.mod_lt _ R_pos
      | tail _ hx => exact ih _ (Nat.div_lt_self (by omega) R_gt) x hx
theorem ok_nil : Ok [] := fun _ h => by cases h
theorem ok_cons {x : Nat} {l : List Nat} : Ok (x :: l) ↔ x < R ∧ Ok l := by
  simp [Ok]
theorem ok_append {l m : List Nat} : Ok (l ++ m) ↔ Ok l ∧ Ok m := by
  simp only [Ok, List.mem_append]
  exact ⟨fun h => ⟨fun x hx => h x (.inl hx), fun x hx => h x (.inr hx)⟩, fun ⟨a, b⟩ x hx => hx.elim (a x) (b x)⟩
theorem val_lt {l : List Nat} (h : Ok l) : val l < R ^ l.length := by
  induction l with
  | nil => exact Nat.zero_lt_one
  | cons x xs ih =>
    have ⟨h1, h2⟩ := ok_cons.1 h
    have := ih h2
    rw [val, List.length_cons, Nat.pow_succ]
    calc x + R * val xs < R + R * val xs := by omega
      _ = R * (val xs + 1) := by rw [Nat.mul_add, Nat.mul_one, Nat.add_comm]
      _ ≤ R * R ^ xs.length := Nat.mul_le_mul_left _ this
      _ = R ^ xs.length * R := Nat.mul_comm _ _
theorem val_append (l m : List Nat) : val (l ++ m) = val l + R ^ l.length * val m := by
  induction l with
  | nil => simp [val]
  | cons x xs ih =>
    rw [List.cons_append, val, val, ih, List.length_cons, Nat.mul_add, Nat.pow_succ]
    rw [Nat.mul_comm (R ^ xs.length) R, Nat.mul_assoc, Nat.add_assoc]
theorem val_replicate (k : Nat) : val (List.replicate k 0) = 0 := by
  induction k with
  | zero => rfl
  | succ k ih => rw [List.replicate_succ, val, ih, Nat.mul_zero]
theorem limbs_add_mul {x : Nat} (hx : x < R) {n : Nat} (h : 0 < x + R * n) : limbs (x + R * n) = x :: limbs n := by
  rw [limbs_pos h, Nat.add_mul_mod_self_left, Nat.mod_eq_of_lt hx, Nat.add_mul_div_left _ _ R_pos, Nat.div_eq_of_lt hx, Nat.zero_add]
/-- a list of limbs whose last one is not zero is its number's -/
theorem limbs_of_last {l : List Nat} (h : Ok l) (hl : l ≠ [] → l.getLastD 0 ≠ 0) : limbs (val l) = l := by
  induction l with
  | nil => exact limbs_zero
  | cons x xs ih =>
    have ⟨h1, h2⟩ := ok_cons.1 h
    rw [val]
    cases xs with
    | nil =>
      have : x ≠ 0 := by simpa [List.getLastD] using hl (by simp)
      rw [limbs_add_mul h1 (by simp [val]; omega)]
      simp [val, limbs_zero]
    | cons y ys =>
      have e := ih h2 (fun _ => by simpa [List.getLastD] using hl (by simp))
      have hp : 0 < val (y :: ys) := by
        rcases Nat.eq_zero_or_pos (val (y :: ys)) with h0 | h0
        · rw [h0, limbs_zero] at e; cases e
        · exact h0
      have : 0 < R * val (y :: ys) := Nat.mul_pos R_pos hp
      rw [limbs_add_mul h1 (by omega), e]
/-- cutting off a zero at the high end -/
theorem trim_zero (l : List Nat) : trimL (l ++ [0]) = trimL l := by
  unfold trimL; rw [val_append]; simp [val]
theorem trim_last {l : List Nat} (h : Ok l) (hl : l ≠ [] → l.getLastD 0 ≠ 0) : trimL l = l := limbs_of_last h hl
theorem limbs_length_le {n k : Nat} (h : n < R ^ k) : (limbs n).length ≤ k := by
  induction k generalizing n with
  | zero => have : n = 0 := by simpa using h
            subst this; rw [limbs_zero]; exact Nat.le_refl _
  | succ k ih =>
    by_cases h0 : n = 0
    · subst h0; rw [limbs_zero]; exact Nat.zero_le _
    · rw [limbs_pos (by omega), List.length_cons]
      have : n / R < R ^ k := (Nat.div_lt_iff_lt_mul R_pos).2 (by rw [← Nat.pow_succ]; exact h)
      have := ih this; omega
theorem lt_pow_limbs (n : Nat) : n < R ^ (limbs n).length := by
  have := val_lt (ok_limbs n); rwa [val_limbs] at this
theorem limbs_length_mono {m n : Nat} (h : m ≤ n) : (limbs m).length ≤ (limbs n).length :=
  limbs_length_le (Nat.lt_of_le_of_lt h (lt_pow_limbs n))
theorem limbs_lt_of_length {m n : Nat} (h : (limbs m).length < (limbs n).length) : m < n := by
  rcases Nat.lt_or_ge m n with h' | h'
  · exact h'
  · have := limbs_length_mono h'; omega
theorem limbs_nil {n : Nat} : limbs n = [] ↔ n = 0 := by
  constructor
  · intro h; have := val_limbs n; rw [h] at this; exact this.symm
  · rintro rfl; exact limbs_zero
theorem limbs_last (n : Nat) : limbs n ≠ [] → (limbs n).getLastD 0 ≠ 0 := by
  induction n using Nat.strongRecOn with
  | ind n ih =>
    intro h
    have h0 : n ≠ 0 := fun e => h (by rw [e]; exact limbs_zero)
    rw [limbs_pos (by omega)]
    by_cases hq : n / R = 0
    · rw [hq, limbs_zero]
      have : n < R := by
        rcases Nat.lt_or_ge n R with h | h
        · exact h
        · have := Nat.div_pos h R_pos; omega
      simp [List.getLastD, Nat.mod_eq_of_lt this, h0]
    · have hne : limbs (n / R) ≠ [] := fun e => hq (limbs_nil.1 e)
      have := ih (n / R) (Nat.div_lt_self (by omega) R_gt) hne
      cases hl : limbs (n / R) with
      | nil => exact absurd hl hne
      | cons y ys => rw [hl] at this; simpa [List.getLastD] using this
/-- sums of limbs, by index -/
def sum (g : Nat → Nat) : Nat → Nat
  | 0 => 0
  | n + 1 => sum g n + R ^ n * g n
theorem sum_congr {f g : Nat → Nat} {n : Nat} (h : ∀ i, i < n → f i = g i) : sum f n = sum g n := by
  induction n with
  | zero => rfl
  | succ n ih => rw [sum, sum, ih (fun i hi => h i (by omega)), h n (by omega)]
theorem sum_lt {g : Nat → Nat} {n : Nat} (h : ∀ i, i < n → g i < R) : sum g n < R ^ n := by
  induction n with
  | zero => exact Nat.zero_lt_one
  | succ n ih =>
    have h1 := ih (fun i hi => h i (by omega))
    have h2 : R ^ n * g n ≤ R ^ n * (R - 1) := Nat.mul_le_mul_left _ (by have := h n (by omega); omega)
    rw [sum, Nat.pow_succ]
    have h3 : R ^ n * R = R ^ n * (R - 1) + R ^ n := by rw [← Nat.mul_succ]; rfl
    omega
theorem val_snoc (l : List Nat) (x : Nat) : val (l ++ [x]) = val l + R ^ l.length * x := by rw [val_append]; simp [val]
theorem take_snoc (l : List Nat) (n : Nat) (h : n < l.length) : l.take (n + 1) = l.take n ++ [l.getD n 0] := by
  rw [List.take_succ_eq_append_getElem h]; simp [List.getD, h]
theorem val_take (l : List Nat) (n : Nat) : val (l.take n) = sum (l.getD · 0) n := by
  induction n with
  | zero => simp [sum, val]
  | succ n ih =>
    rcases Nat.lt_or_ge n l.length with h | h
    · rw [take_snoc l n h, val_snoc, sum, ih, List.length_take, Nat.min_eq_left (by omega)]
    · rw [sum, ← ih, List.take_of_length_le (by omega), List.take_of_length_le (by omega)]
      simp [List.getD, h]
theorem val_sum (l : List Nat) : val l = sum (l.getD · 0) l.length := by
  rw [← val_take, List.take_length]
theorem val_sum_ge (l : List Nat) (n : Nat) (h : l.length ≤ n) : val l = sum (l.getD · 0) n := by
  rw [← val_take, List.take_of_length_le h]
/-- a step of a combination: the digit, and what is handed on -/
def plusN (x y c : Nat) : Nat × Nat := if R ≤ x + y + c then (x + y + c - R, 1) else (x + y + c, 0)
def minusN (x y c : Nat) : Nat × Nat := if x < y + c then (x + R - (y + c), 1) else (x - (y + c), 0)
def car (f : Nat → Nat → Nat → Nat × Nat) (x y : Nat → Nat) : Nat → Nat
  | 0 => 0
  | n + 1 => (f (x n) (y n) (car f x y n)).2
def dig (f : Nat → Nat → Nat → Nat × Nat) (x y : Nat → Nat) (n : Nat) : Nat := (f (x n) (y n) (car f x y n)).1
theorem plus_step {x y c : Nat} (hx : x < R) (hy : y < R) (hc : c ≤ 1) : (plusN x y c).1 < R ∧ (plusN x y c).2 ≤ 1 ∧ (plusN x y c).1 + R * (plusN x y c).2 = x + y + c := by
  unfold plusN; split <;> simp <;> omega
theorem minus_step {x y c : Nat} (hx : x < R) (hy : y < R) (hc : c ≤ 1) : (minusN x y c).1 < R ∧ (minusN x y c).2 ≤ 1 ∧ (minusN x y c).1 + y + c = x + R * (minusN x y c).2 := by
  unfold minusN; split <;> simp <;> omega
theorem plus_sum {x y : Nat → Nat} (hx : ∀ i, x i < R) (hy : ∀ i, y i < R) (n : Nat) :
    car plusN x y n ≤ 1 ∧ sum (dig plusN x y) n + R ^ n * car plusN x y n = sum x n + sum y n := by
  induction n with
  | zero => simp [car, sum]
  | succ n ih =>
    obtain ⟨h1, h2⟩ := ih
    obtain ⟨_, a2, a3⟩ := plus_step (hx n) (hy n) h1
    refine ⟨a2, ?_⟩
    have e : R ^ (n + 1) * car plusN x y (n + 1) = R ^ n * (R * (plusN (x n) (y n) (car plusN x y n)).2) := by rw [car, Nat.pow_succ, Nat.mul_assoc]
    have e2 : R ^ n * (dig plusN x y n) + R ^ n * (R * (plusN (x n) (y n) (car plusN x y n)).2) = R ^ n * x n + R ^ n * y n + R ^ n * car plusN x y n := by
      rw [← Nat.mul_add, ← Nat.mul_add, ← Nat.mul_add]; exact congrArg _ a3
    rw [sum, sum, sum, e]; omega
theorem minus_sum {x y : Nat → Nat} (hx : ∀ i, x i < R) (hy : ∀ i, y i < R) (n : Nat) :
    car minusN x y n ≤ 1 ∧ sum (dig minusN x y) n + sum y n = sum x n + R ^ n * car minusN x y n := by
  induction n with
  | zero => simp [car, sum]
  | succ n ih =>
    obtain ⟨h1, h2⟩ := ih
    obtain ⟨_, a2, a3⟩ := minus_step (hx n) (hy n) h1
    refine ⟨a2, ?_⟩
    have e : R ^ (n + 1) * car minusN x y (n + 1) = R ^ n * (R * (minusN (x n) (y n) (car minusN x y n)).2) := by rw [car, Nat.pow_succ, Nat.mul_assoc]
    have e2 : R ^ n * (dig minusN x y n) + R ^ n * y n + R ^ n * car minusN x y n = R ^ n * x n + R ^ n * (R * (minusN (x n) (y n) (car minusN x y n)).2) := by
      rw [← Nat.mul_add, ← Nat.mul_add, ← Nat.mul_add]; exact congrArg _ a3
    rw [sum, sum, sum, e]; omega
theorem plus_dig {x y : Nat → Nat} (hx : ∀ i, x i < R) (hy : ∀ i, y i < R) (n : Nat) : dig plusN x y n < R := (plus_step (hx n) (hy n) (plus_sum hx hy n).1).1
theorem minus_dig {x y : Nat → Nat} (hx : ∀ i, x i < R) (hy : ∀ i, y i < R) (n : Nat) : dig minusN x y n < R := (minus_step (hx n) (hy n) (minus_sum hx hy n).1).1
/-- nothing is borrowed in the end if the first number is not less -/
theorem minus_none {x y : Nat → Nat} (hx : ∀ i, x i < R) (hy : ∀ i, y i < R) (n : Nat) (h : sum y n ≤ sum x n) : car minusN x y n = 0 := by
  obtain ⟨h1, h2⟩ := minus_sum hx hy n
  have h3 := sum_lt (fun i (_ : i < n) => minus_dig hx hy i)
  rcases Nat.eq_zero_or_pos (car minusN x y n) with h0 | h0
  · exact h0
  · have : car minusN x y n = 1 := by omega
    rw [this, Nat.mul_one] at h2; omega
/-- the list of a combination -/
def comb (f : Nat → Nat → Nat → Nat × Nat) (xs ys : List Nat) : List Nat :=
  (List.range xs.length).map (dig f (xs.getD · 0) (ys.getD · 0)) ++ [car f (xs.getD · 0) (ys.getD · 0) xs.length]
theorem val_map_range (g : Nat → Nat) (n : Nat) : val ((List.range n).map g) = sum g n := by
  induction n with
  | zero => rfl
  | succ n ih => rw [List.range_succ, List.map_append, List.map_singleton, val_snoc, ih, sum]; simp
theorem getD_lt {l : List Nat} (h : Ok l) (i : Nat) : l.getD i 0 < R := by
  rcases Nat.lt_or_ge i l.length with hi | hi
  · simp only [List.getD, List.getElem?_eq_getElem hi, Option.getD_some]; exact h _ (List.getElem_mem hi)
  · simp [List.getD, hi, R_pos]
theorem comb_plus {xs ys : List Nat} (hx : Ok xs) (hy : Ok ys) (h : ys.length ≤ xs.length) : Ok (comb plusN xs ys) ∧ val (comb plusN xs ys) = val xs + val ys := by
  obtain ⟨h1, h2⟩ := plus_sum (getD_lt hx) (getD_lt hy) xs.length
  refine ⟨ok_append.2 ⟨?_, ok_cons.2 ⟨Nat.lt_of_le_of_lt h1 R_gt, ok_nil⟩⟩, ?_⟩
  · intro z hz
    obtain ⟨i, _, rfl⟩ := List.mem_map.1 hz
    exact plus_dig (getD_lt hx) (getD_lt hy) i
  · rw [comb, val_snoc, val_map_range, List.length_map, List.length_range, h2, ← val_sum, ← val_sum_ge ys _ h]
theorem comb_minus {xs ys : List Nat} (hx : Ok xs) (hy : Ok ys) (h : ys.length ≤ xs.length) (hv : val ys ≤ val xs) : Ok (comb minusN xs ys) ∧ val (comb minusN xs ys) = val xs - val ys := by
  obtain ⟨h1, h2⟩ := minus_sum (getD_lt hx) (getD_lt hy) xs.length
  have h0 := minus_none (getD_lt hx) (getD_lt hy) xs.length (by rw [← val_sum, ← val_sum_ge ys _ h]; exact hv)
  refine ⟨ok_append.2 ⟨?_, ok_cons.2 ⟨Nat.lt_of_le_of_lt h1 R_gt, ok_nil⟩⟩, ?_⟩
  · intro z hz
    obtain ⟨i, _, rfl⟩ := List.mem_map.1 hz
    exact minus_dig (getD_lt hx) (getD_lt hy) i
  · rw [comb, val_snoc, val_map_range, List.length_map, List.length_range]
    rw [h0] at h2 ⊢
    rw [← val_sum, ← val_sum_ge ys _ h] at h2
    omega
end Wh

namespace Wh
/-- setting one limb -/
theorem val_set (l : List Nat) (k v : Nat) (h : k < l.length) : val (l.set k v) + R ^ k * l.getD k 0 = val l + R ^ k * v := by
  induction l generalizing k with
  | nil => simp at h
  | cons x xs ih =>
    cases k with
    | zero => simp [val]; omega
    | succ k =>
      have := ih k (by simpa using h)
      simp only [List.set_cons_succ, val, List.getD_cons_succ]
      have e : ∀ z, R ^ (k + 1) * z = R * (R ^ k * z) := fun z => by rw [Nat.pow_succ, Nat.mul_comm (R ^ k) R, Nat.mul_assoc]
      rw [e, e]
      have := congrArg (R * ·) this
      simp only [Nat.mul_add] at this
      omega
theorem ok_set {l : List Nat} (h : Ok l) {k v : Nat} (hv : v < R) : Ok (l.set k v) := by
  intro x hx
  rcases List.mem_or_eq_of_mem_set hx with h' | h'
  · exact h x h'
  · rw [h']; exact hv
theorem ok_replicate (k : Nat) : Ok (List.replicate k 0) := fun x hx => by rw [List.eq_of_mem_replicate hx]; exact R_pos
theorem val_take_drop (l : List Nat) (n : Nat) (h : n ≤ l.length) : val l = val (l.take n) + R ^ n * val (l.drop n) := by
  have := val_append (l.take n) (l.drop n)
  rw [List.take_append_drop, List.length_take, Nat.min_eq_left h] at this
  exact this
theorem val_drop (l : List Nat) (n : Nat) (h : n < l.length) : val (l.drop n) = l.getD n 0 + R * val (l.drop (n + 1)) := by
  rw [List.drop_eq_getElem_cons h, val]; simp [List.getD, h]
/-- one step of the inner loop of a product: the cell is x y + cell + carry -/
theorem mul_step {x y c o : Nat} (hx : x < R) (hy : y < R) (hc : c < R) (ho : o < R) : (x * y + o + c) / R < R ∧ (x * y + o + c) < 18446744073709551616 := by
  have h1 : x * y ≤ (R - 1) * (R - 1) := Nat.mul_le_mul (by omega) (by omega)
  have h2 : (R - 1) * (R - 1) + (R - 1) + (R - 1) < R * R := by decide
  have h3 : x * y + o + c < R * R := by omega
  refine ⟨(Nat.div_lt_iff_lt_mul R_pos).2 h3, ?_⟩
  have : R * R = 1000000000000000000 := by decide
  omega
/-- what holds in a product behind j steps of row i: t is what the room stood for at the row's beginning -/
theorem mul_inner {r : List Nat} {i j x y c t B : Nat} (hk : i + j < r.length) (h : val r + R ^ (i + j) * c = t + R ^ i * (x * B)) :
    val (r.set (i + j) ((x * y + r.getD (i + j) 0 + c) % R)) + R ^ (i + j + 1) * ((x * y + r.getD (i + j) 0 + c) / R) = t + R ^ i * (x * (B + R ^ j * y)) := by
  have h1 := val_set r (i + j) ((x * y + r.getD (i + j) 0 + c) % R) hk
  have h2 := Nat.mod_add_div (x * y + r.getD (i + j) 0 + c) R
  have h3 := congrArg (R ^ (i + j) * ·) h2
  simp only [Nat.mul_add] at h3
  rw [← Nat.mul_assoc (R ^ (i + j)) R, ← Nat.pow_succ, Nat.succ_eq_add_one] at h3
  have e : R ^ i * (x * (B + R ^ j * y)) = R ^ i * (x * B) + R ^ (i + j) * (x * y) := by
    rw [Nat.mul_add, Nat.mul_add, Nat.pow_add, Nat.mul_assoc (R ^ i) (R ^ j)]
    congr 2
    rw [← Nat.mul_assoc, ← Nat.mul_assoc, Nat.mul_comm x]
  rw [e]; omega
/-- the end of a row: the carry is laid into a zero -/
theorem mul_row_end {r : List Nat} {i m x c t B : Nat} (hk : i + m < r.length) (hz : r.getD (i + m) 0 = 0) (h : val r + R ^ (i + m) * c = t + R ^ i * (x * B)) :
    val (r.set (i + m) c) = t + R ^ i * (x * B) := by
  have := val_set r (i + m) c hk
  rw [hz] at this; omega
end Wh

namespace Wh
/-- decimal digits, the highest first, as bytes -/
def decN (n : Nat) : List UInt8 := if _h : n < 10 then [UInt8.ofNat (48 + n)] else decN (n / 10) ++ [UInt8.ofNat (48 + n % 10)]
termination_by n
decreasing_by omega
def decI (x : Int) : List UInt8 := if x < 0 then 45 :: decN x.natAbs else decN x.natAbs
def dv (c : UInt8) : Nat := c.toNat - 48
def numOf (l : List UInt8) : Nat := l.foldl (fun a c => 10 * a + dv c) 0
def isD (c : UInt8) : Prop := 48 ≤ c.toNat ∧ c.toNat ≤ 57
theorem snocInd {α : Type} {P : List α → Prop} (h0 : P []) (h1 : ∀ l c, P l → P (l ++ [c])) (l : List α) : P l := by
  have : ∀ m : List α, P m.reverse := by
    intro m
    induction m with
    | nil => exact h0
    | cons c m ih => rw [List.reverse_cons]; exact h1 _ _ ih
  have := this l.reverse
  rwa [List.reverse_reverse] at this
theorem numOf_snoc (l : List UInt8) (c : UInt8) : numOf (l ++ [c]) = 10 * numOf l + dv c := by simp [numOf]
theorem decN_small {n : Nat} (h : n < 10) : decN n = [UInt8.ofNat (48 + n)] := by rw [decN]; simp [h]
theorem decN_big {n : Nat} (h : ¬ n < 10) : decN n = decN (n / 10) ++ [UInt8.ofNat (48 + n % 10)] := by rw [decN]; simp [h]
theorem toNat_digit {d : Nat} (h : d < 10) : (UInt8.ofNat (48 + d)).toNat = 48 + d := by
  rw [UInt8.toNat_ofNat']; omega
theorem numOf_decN (n : Nat) : numOf (decN n) = n := by
  induction n using Nat.strongRecOn with
  | ind n ih =>
    by_cases h : n < 10
    · rw [decN_small h]; simp [numOf, dv]; omega
    · rw [decN_big h, numOf_snoc, ih _ (by omega), dv, toNat_digit (by omega)]; omega
theorem decN_digits (n : Nat) : ∀ c ∈ decN n, isD c := by
  induction n using Nat.strongRecOn with
  | ind n ih =>
    by_cases h : n < 10
    · rw [decN_small h]; intro c hc; rw [List.mem_singleton.1 hc, isD, toNat_digit h]; omega
    · rw [decN_big h]
      intro c hc
      rcases List.mem_append.1 hc with hc | hc
      · exact ih _ (by omega) c hc
      · rw [List.mem_singleton.1 hc, isD, toNat_digit (by omega)]; omega
theorem decN_ne (n : Nat) : decN n ≠ [] := by
  rw [decN]; split <;> simp
theorem decN_length_pos (n : Nat) : 0 < (decN n).length := List.length_pos_iff.2 (decN_ne n)
theorem decN_head (n : Nat) (h : 0 < n) : (decN n).headD 0 ≠ 48 := by
  induction n using Nat.strongRecOn with
  | ind n ih =>
    by_cases h9 : n < 10
    · rw [decN_small h9]
      intro e
      have := congrArg UInt8.toNat e
      simp only [List.headD_cons, toNat_digit h9] at this
      have e2 : (48 : UInt8).toNat = 48 := rfl
      omega
    · rw [decN_big h9]
      have := ih (n / 10) (by omega) (by omega)
      cases hl : decN (n / 10) with
      | nil => exact absurd hl (decN_ne _)
      | cons c cs => rw [hl] at this; simpa using this
theorem decN_zero : decN 0 = [48] := by rw [decN_small (by omega)]; rfl
theorem numOf_lt {l : List UInt8} (h : ∀ c ∈ l, isD c) : numOf l < 10 ^ l.length := by
  induction l using snocInd with
  | h0 => exact Nat.one_pos
  | h1 l c ih =>
    rw [numOf_snoc, List.length_append, List.length_singleton, Nat.pow_succ]
    have h1 := ih (fun x hx => h x (List.mem_append_left _ hx))
    have h2 := h c (by simp)
    unfold isD at h2; unfold dv; omega
theorem lt_pow_decN (n : Nat) : n < 10 ^ (decN n).length := by
  have := numOf_lt (decN_digits n); rwa [numOf_decN] at this
theorem decN_length_le {n k : Nat} (hk : 0 < k) (h : n < 10 ^ k) : (decN n).length ≤ k := by
  induction k generalizing n with
  | zero => omega
  | succ k ih =>
    by_cases h9 : n < 10
    · rw [decN_small h9]; simp
    · rw [decN_big h9, List.length_append, List.length_singleton]
      have hk0 : 0 < k := by
        rcases Nat.eq_zero_or_pos k with h0 | h0
        · subst h0; simp at h; omega
        · exact h0
      have := ih (n := n / 10) hk0 (by rw [Nat.pow_succ] at h; omega)
      omega
theorem pow_le_decN {n : Nat} (h : 0 < n) : 10 ^ ((decN n).length - 1) ≤ n := by
  rcases Nat.lt_or_ge n (10 ^ ((decN n).length - 1)) with hlt | hge
  · have hp := decN_length_pos n
    rcases Nat.eq_zero_or_pos ((decN n).length - 1) with h0 | h0
    · rw [h0] at hlt; simp at hlt; omega
    · have := decN_length_le h0 hlt; omega
  · exact hge
/-- digits without a leading zero are those of their number -/
theorem decN_numOf {l : List UInt8} (hd : ∀ c ∈ l, isD c) (hne : l ≠ []) (hz : l.headD 0 ≠ 48 ∨ l.length = 1) : decN (numOf l) = l := by
  induction l using snocInd with
  | h0 => exact absurd rfl hne
  | h1 l c ih =>
    have hc := hd c (by simp)
    have hcd : UInt8.ofNat (48 + dv c) = c := by
      apply UInt8.toNat_inj.1
      rw [toNat_digit (by unfold isD at hc; unfold dv; omega)]; unfold isD at hc; unfold dv; omega
    have hdv : dv c < 10 := by unfold isD at hc; unfold dv; omega
    rw [numOf_snoc]
    by_cases hl : l = []
    · subst hl
      simp only [numOf, List.foldl_nil, Nat.mul_zero, Nat.zero_add, List.nil_append]
      rw [decN_small hdv, hcd]
    · have hh : l.headD 0 ≠ 48 := by
        cases l with
        | nil => exact absurd rfl hl
        | cons y ys =>
          rcases hz with h | h
          · simpa using h
          · simp at h
      have hi := ih (fun x hx => hd x (List.mem_append_left _ hx)) hl (.inl hh)
      have hpos : 0 < numOf l := by
        rcases Nat.eq_zero_or_pos (numOf l) with h0 | h0
        · rw [h0, decN_zero] at hi; rw [← hi] at hh; exact absurd rfl hh
        · exact h0
      rw [decN_big (by omega)]
      have e1 : (10 * numOf l + dv c) / 10 = numOf l := by omega
      have e2 : (10 * numOf l + dv c) % 10 = dv c := by omega
      rw [e1, e2, hi, hcd]
theorem numOf_append (l m : List UInt8) : numOf (l ++ m) = numOf l * 10 ^ m.length + numOf m := by
  induction m using snocInd with
  | h0 => simp [numOf]
  | h1 m c ih =>
    rw [← List.append_assoc, numOf_snoc, ih, numOf_snoc, List.length_append, List.length_singleton, Nat.pow_succ]
    rw [Nat.mul_add, ← Nat.mul_assoc (numOf l), Nat.mul_comm 10 (numOf l * _)]; omega
end Wh

/- WALKS, part 1: the leaves: digits, directions, signs, one limb plus, minus another one. -/
namespace Go.Proofs.YteaeloeebfdodaaGreatDoor
open Go.RowKit
set_option maxHeartbeats 400000 in
theorem direction_any (b : Bool) (w : World) :
    Calls Tryz.prog 176 #[.bool b] w fun e w' => e = .returned (.int .i64 (if b then -1 else 1)) ∧ w = w' := by
  cases b
  · go_enter Tryz.func176, Tryz.ntmps176
    go_wp2
    go_ret
    exact ⟨rfl, rfl⟩
  · go_enter Tryz.func176, Tryz.ntmps176
    go_wp2
    go_ret
    exact ⟨rfl, rfl⟩
set_option maxHeartbeats 400000 in
theorem demand_yes (o : Int) (w : World) :
    Calls Tryz.prog 96 #[.bool true, .int .i64 o] w fun e w' => e = .returned (.tuple #[]) ∧ w = w' := by
  go_enter Tryz.func96, Tryz.ntmps96
  go_wp2
  go_end0
  exact ⟨rfl, rfl⟩
set_option maxHeartbeats 400000 in
theorem mark_below (w : World) :
    Calls Tryz.prog 202 #[.int .i64 (-1)] w fun e w' => e = .returned (.string ⟨#[45]⟩) ∧ w = w' := by
  go_enter Tryz.func202, Tryz.ntmps202
  go_wp2
  go_ret
  exact ⟨rfl, rfl⟩
set_option maxHeartbeats 400000 in
theorem mark_other (s : Int) (h : 0 ≤ s) (w : World) :
    Calls Tryz.prog 202 #[.int .i64 s] w fun e w' => e = .returned (.string ⟨#[]⟩) ∧ w = w' := by
  go_enter Tryz.func202, Tryz.ntmps202
  go_wp2
  go_ret
  exact ⟨rfl, rfl⟩
set_option maxHeartbeats 400000 in
theorem with_any (s t : Int) (hs : -1 ≤ s ∧ s ≤ 1) (ht : -1 ≤ t ∧ t ≤ 1) (w : World) :
    Calls Tryz.prog 197 #[.int .i64 s, .int .i64 t] w fun e w' => e = .returned (.int .i64 (s * t)) ∧ w = w' := by
  have hp : -1 ≤ s * t ∧ s * t ≤ 1 := by
    obtain ⟨a, b⟩ := hs; obtain ⟨c, d⟩ := ht
    have hs : s = -1 ∨ s = 0 ∨ s = 1 := by omega
    rcases hs with rfl | rfl | rfl <;> omega
  obtain ⟨hp1, hp2⟩ := hp
  go_enter Tryz.func197, Tryz.ntmps197
  go_wp2
  go_ret
  exact ⟨rfl, rfl⟩
set_option maxHeartbeats 400000 in
theorem turned_any (s : Int) (hs : -1 ≤ s ∧ s ≤ 1) (w : World) :
    Calls Tryz.prog 307 #[.int .i64 s] w fun e w' => e = .returned (.int .i64 (-s)) ∧ w = w' := by
  obtain ⟨a, b⟩ := hs
  go_enter Tryz.func307, Tryz.ntmps307
  go_wp2
  go_ret
  exact ⟨rfl, rfl⟩
def u32 (n : Nat) : Value := .int .u32 n
def pairV (p : Nat × Nat) : Value := .tuple #[.int .u32 p.1, .int .u32 p.2]
set_option maxHeartbeats 400000 in
theorem plus_any (a b c : Nat) (ha : a < 1000000000) (hb : b < 1000000000) (hc : c ≤ 1) (w : World) :
    Calls Tryz.prog 310 #[.int .u32 a, .int .u32 b, .int .u32 c] w fun e w' => e = .returned (pairV (Wh.plusN a b c)) ∧ w = w' := by
  by_cases h : 1000000000 ≤ a + b + c
  · have hf : Wh.plusN a b c = (a + b + c - 1000000000, 1) := by unfold Wh.plusN Wh.R; rw [if_pos h]
    have H := Lib.hid hf; clear hf
    have h' : (1000000000 : Int) ≤ (a : Int) + b + c := by omega
    go_enter Tryz.func310, Tryz.ntmps310
    go_wp2
    go_ret2
    exact ⟨by rw [H.out]; simp [pairV]; omega, rfl⟩
  · have hf : Wh.plusN a b c = (a + b + c, 0) := by unfold Wh.plusN Wh.R; rw [if_neg h]
    have H := Lib.hid hf; clear hf
    have h' : ¬ (1000000000 : Int) ≤ (a : Int) + b + c := by omega
    go_enter Tryz.func310, Tryz.ntmps310
    go_wp2
    go_ret2
    exact ⟨by rw [H.out]; simp [pairV], rfl⟩
set_option maxHeartbeats 400000 in
theorem minus_any (a b c : Nat) (ha : a < 1000000000) (hb : b < 1000000000) (hc : c ≤ 1) (w : World) :
    Calls Tryz.prog 309 #[.int .u32 a, .int .u32 b, .int .u32 c] w fun e w' => e = .returned (pairV (Wh.minusN a b c)) ∧ w = w' := by
  by_cases h : a < b + c
  · have hf : Wh.minusN a b c = (a + 1000000000 - (b + c), 1) := by unfold Wh.minusN Wh.R; rw [if_pos h]
    have H := Lib.hid hf; clear hf
    have h' : (a : Int) < (b : Int) + c := by omega
    go_enter Tryz.func309, Tryz.ntmps309
    go_wp2
    go_ret2
    exact ⟨by rw [H.out]; simp [pairV]; omega, rfl⟩
  · have hf : Wh.minusN a b c = (a - (b + c), 0) := by unfold Wh.minusN Wh.R; rw [if_neg h]
    have H := Lib.hid hf; clear hf
    have h' : ¬ (a : Int) < (b : Int) + c := by omega
    go_enter Tryz.func309, Tryz.ntmps309
    go_wp2
    go_ret2
    exact ⟨by rw [H.out]; simp [pairV]; omega, rfl⟩
end Go.Proofs.YteaeloeebfdodaaGreatDoor

namespace Wh
theorem take_step {l : List Nat} {k : Nat} (h : k < l.length) (h0 : l.getD k 0 = 0) : trimL (l.take (k + 1)) = trimL (l.take k) := by
  rw [take_snoc l k h, h0, trim_zero]
theorem take_end {l : List Nat} {k : Nat} (hk : k ≤ l.length) (ho : Ok l) (h : k = 0 ∨ l.getD (k - 1) 0 ≠ 0) (e : trimL (l.take k) = trimL l) : l.take k = trimL l := by
  rw [← e]
  refine (trim_last (fun x hx => ho x (List.mem_of_mem_take hx)) ?_).symm
  intro hne
  rcases h with h | h
  · subst h; simp at hne
  · cases k with
    | zero => simp at hne
    | succ k =>
      rw [take_snoc l k (by omega)]
      rw [List.getLastD_concat]; exact h
theorem trimL_length {l : List Nat} (h : Ok l) : (trimL l).length ≤ l.length := limbs_length_le (val_lt h)
/-- what is cut off is at the high end -/
theorem trimL_prefix {l : List Nat} (h : Ok l) : ∃ k, trimL l = l.take k := by
  induction l using snocInd with
  | h0 => exact ⟨0, by simp [trimL, val, limbs_zero]⟩
  | h1 l x ih =>
    have ⟨h1, h2⟩ := ok_append.1 h
    by_cases hx : x = 0
    · subst hx
      obtain ⟨k, hk⟩ := ih h1
      refine ⟨min k l.length, ?_⟩
      rw [trim_zero, hk, List.take_append_of_le_length (by omega)]
      rw [List.take_eq_take_min]
    · refine ⟨l.length + 1, ?_⟩
      rw [trim_last h (fun _ => by rw [List.getLastD_concat]; exact hx), List.take_of_length_le (by simp)]
theorem trimL_getD {l : List Nat} (h : Ok l) {i : Nat} (hi : i < (trimL l).length) : (trimL l).getD i 0 = l.getD i 0 := by
  obtain ⟨k, hk⟩ := trimL_prefix h
  rw [hk] at hi ⊢
  simp only [List.length_take] at hi
  simp only [List.getD]
  rw [List.getElem?_take_of_lt (by omega)]
/-- the first k limbs of n, the others 0 -/
def pre (g : Nat → Nat) (k n : Nat) : List Nat := (List.range k).map g ++ List.replicate (n - k) 0
theorem pre_zero (g : Nat → Nat) (n : Nat) : pre g 0 n = List.replicate n 0 := by simp [pre]
theorem pre_length (g : Nat → Nat) {k n : Nat} (h : k ≤ n) : (pre g k n).length = n := by simp [pre]; omega
theorem set_append_zero (l : List Nat) (m v : Nat) : (l ++ List.replicate (m + 1) 0).set l.length v = l ++ [v] ++ List.replicate m 0 := by
  rw [List.set_append_right _ _ (Nat.le_refl _), Nat.sub_self, List.replicate_succ, List.set_cons_zero, List.append_assoc]; rfl
theorem pre_set_any (g : Nat → Nat) {k n : Nat} (h : k < n) (v : Nat) : (pre g k n).set k v = (List.range k).map g ++ [v] ++ List.replicate (n - (k + 1)) 0 := by
  have e : n - k = (n - (k + 1)) + 1 := by omega
  have := set_append_zero ((List.range k).map g) (n - (k + 1)) v
  rw [List.length_map, List.length_range] at this
  rw [pre, e, this]
theorem pre_set (g : Nat → Nat) {k n : Nat} (h : k < n) : (pre g k n).set k (g k) = pre g (k + 1) n := by
  rw [pre_set_any g h, pre, List.range_succ, List.map_append, List.map_singleton]
theorem comb_pre (f : Nat → Nat → Nat → Nat × Nat) (xs ys : List Nat) :
    (pre (dig f (xs.getD · 0) (ys.getD · 0)) xs.length (xs.length + 1)).set xs.length (car f (xs.getD · 0) (ys.getD · 0) xs.length) = comb f xs ys := by
  rw [pre_set_any _ (Nat.lt_succ_self _)]; simp [comb]
theorem comb_length (f : Nat → Nat → Nat → Nat × Nat) (xs ys : List Nat) : (comb f xs ys).length = xs.length + 1 := by simp [comb]
theorem getD_out {l : List Nat} {i : Nat} (h : l.length ≤ i) : l.getD i 0 = 0 := by simp [List.getD, h]
end Wh

/- WALKS, part 2: slices of limbs as lists of numbers; trim. -/
namespace Go.Proofs.YteaeloeebfdodaaGreatDoor
open Go.RowKit
/-- v is a slice of limbs that reads as l -/
def Sl (w : World) (v : Value) (l : List Nat) : Prop :=
  (l = [] ∧ v = .slice none 0 0) ∨ ∃ b off cap : Nat, v = .slice (some ⟨b, off, none⟩) l.length cap ∧ l.length ≤ cap ∧ b < w.heap.size ∧ ∀ i, i < l.length → w.cell? ⟨b, off + i, none⟩ = some (.int .u32 (l.getD i 0))
theorem Sl.mono {w w' : World} {v : Value} {l : List Nat} (h : Sl w v l) (hb : Below w.heap.size w w') : Sl w' v l := by
  rcases h with h | ⟨b, off, cap, h1, h2, h3, h4⟩
  · exact .inl h
  · exact .inr ⟨b, off, cap, h1, h2, Nat.lt_of_lt_of_le h3 hb.size, fun i hi => (hb.cell (p := ⟨b, off + i, none⟩) h3).trans (h4 i hi)⟩
set_option maxHeartbeats 400000 in
theorem trim_nil (w : World) :
    Calls Tryz.prog 258 #[.slice none 0 0] w fun e w' => e = .returned (.slice none 0 0) ∧ w = w' := by
  go_enter Tryz.func258, Tryz.ntmps258
  go_wp2
  go_loop [3] (fun k => k = .int .i64 0) (fun _ => 0)
  case atStart => rfl
  case round =>
    subst hrel
    go_wp2
    go_ret
    exact ⟨rfl, rfl⟩
set_option maxHeartbeats 400000 in
theorem trim_some (w : World) (b off cap : Nat) (l : List Nat) (ho : Wh.Ok l) (hcap : l.length ≤ cap) (hm : cap ≤ 100000) (hc : ∀ i, i < l.length → w.cell? ⟨b, off + i, none⟩ = some (.int .u32 (l.getD i 0))) :
    Calls Tryz.prog 258 #[.slice (some ⟨b, off, none⟩) l.length cap] w fun e w' => e = .returned (.slice (some ⟨b, off, none⟩) (Wh.trimL l).length cap) ∧ w = w' := by
  have HO := Lib.hid ho; clear ho
  generalize hn : l.length = n at *
  have HN := Lib.hid hn; clear hn
  have HC := Lib.hid hc; clear hc
  go_enter Tryz.func258, Tryz.ntmps258
  go_wp2
  go_loop [3] (fun k => ∃ j : Nat, j ≤ n ∧ k = .int .i64 j ∧ Hid (Wh.trimL (l.take j) = Wh.trimL l)) (fun k => (intOf k).toNat)
  case atStart => exact ⟨n, Nat.le_refl _, rfl, Lib.hid (by rw [List.take_of_length_le (by rw [HN.out]; exact Nat.le_refl _)])⟩
  case round =>
    obtain ⟨j, hj, rfl, HT⟩ := hrel
    by_cases h0 : j = 0
    · subst h0
      go_wp2
      go_ret
      have e := Wh.take_end (Nat.zero_le _) HO.out (.inl rfl) HT.out
      exact ⟨by rw [← e]; rfl, rfl⟩
    · obtain ⟨k, rfl⟩ : ∃ k, j = k + 1 := ⟨j - 1, by omega⟩
      have hc := HC.out k (by omega)
      by_cases hz : l.getD k 0 = 0
      · have HZ := Lib.hid hz
        rw [hz] at hc; clear hz
        go_wp2
        go_round
        case rel => exact ⟨k, by omega, by go_num, Lib.hid ((Wh.take_step (by rw [HN.out]; omega) HZ.out).symm.trans HT.out)⟩
        case measure => simp [intOf]
      · have HZ := Lib.hid hz
        generalize l.getD k 0 = x at hc hz
        have hx : ((x : Int) == 0) = false := by simpa using hz
        clear hz
        go_wp2
        go_ret
        have e := Wh.take_end (k := k + 1) (by rw [HN.out]; exact hj) HO.out (.inr HZ.out) HT.out
        exact ⟨by rw [← e, List.length_take, HN.out, Nat.min_eq_left hj]; rfl, rfl⟩
/-- trim: the same memory, the limbs of the number -/
theorem trim_any (w : World) (v : Value) (l : List Nat) (ho : Wh.Ok l) (h : Sl w v l) (hm : ∀ a n c, v = .slice a n c → c ≤ 100000) :
    Calls Tryz.prog 258 #[v] w fun e w' => (∃ a c, e = .returned (.slice a (Wh.trimL l).length c) ∧ c ≤ 100000 ∧ ∀ w0, Sl w0 v l → Sl w0 (.slice a (Wh.trimL l).length c) (Wh.trimL l)) ∧ w = w' := by
  rcases h with ⟨rfl, rfl⟩ | ⟨b, off, cap, rfl, h2, h3, h4⟩
  · refine (trim_nil w).mono ?_
    rintro e w' ⟨rfl, rfl⟩
    have e0 : Wh.trimL [] = [] := by simp [Wh.trimL, Wh.val, Wh.limbs_zero]
    rw [e0]
    exact ⟨⟨_, _, rfl, Nat.zero_le _, fun w0 h => h⟩, rfl⟩
  · refine (trim_some w b off cap l ho h2 (hm _ _ _ rfl) h4).mono ?_
    rintro e w' ⟨rfl, rfl⟩
    have hl := Wh.trimL_length ho
    refine ⟨⟨_, _, rfl, hm _ _ _ rfl, fun w0 h0 => ?_⟩, rfl⟩
    rcases h0 with ⟨_, h0⟩ | ⟨b', off', cap', e0, h2', h3', h4'⟩
    · cases h0
    · simp only [Value.slice.injEq, Option.some.injEq, Addr.mk.injEq] at e0
      obtain ⟨⟨rfl, rfl, _⟩, _, rfl⟩ := e0
      exact .inr ⟨b, off, cap, rfl, by omega, h3', fun i hi => by rw [h4' i (by omega), Wh.trimL_getD ho hi]⟩
/-- the same, of a slice that is written out: its address and its capacity stay -/
theorem trim_same (w : World) (a : Option Addr) (n c : Nat) (l : List Nat) (ho : Wh.Ok l) (h : Sl w (.slice a n c) l) (hc : c ≤ 100000) :
    Calls Tryz.prog 258 #[.slice a n c] w fun e w' => e = .returned (.slice a (Wh.trimL l).length c) ∧ Sl w' (.slice a (Wh.trimL l).length c) (Wh.trimL l) ∧ w = w' := by
  rcases h with ⟨rfl, h⟩ | ⟨b, off, cap, h1, h2, h3, h4⟩
  · simp only [Value.slice.injEq] at h
    obtain ⟨rfl, rfl, rfl⟩ := h
    refine (trim_nil w).mono ?_
    rintro e w' ⟨rfl, rfl⟩
    have e0 : Wh.trimL [] = [] := by simp [Wh.trimL, Wh.val, Wh.limbs_zero]
    rw [e0]
    exact ⟨rfl, .inl ⟨rfl, rfl⟩, rfl⟩
  · simp only [Value.slice.injEq] at h1
    obtain ⟨rfl, rfl, rfl⟩ := h1
    refine (trim_some w b off c l ho h2 hc h4).mono ?_
    rintro e w' ⟨rfl, rfl⟩
    have hl := Wh.trimL_length ho
    exact ⟨rfl, .inr ⟨b, off, c, rfl, by omega, h3, fun i hi => by rw [h4 i (by omega), Wh.trimL_getD ho hi]⟩, rfl⟩
end Go.Proofs.YteaeloeebfdodaaGreatDoor

/- WALKS, part 3: numbers: signed, small. -/
namespace Go.Proofs.YteaeloeebfdodaaGreatDoor
open Go.RowKit
/-- v is a number at work that stands for x -/
def Num (w : World) (v : Value) (x : Int) : Prop := ∃ sl, v = .agg #[.int .i64 (Int.sign x), sl] ∧ Sl w sl (Wh.limbs x.natAbs)
theorem Num.mono {w w' : World} {v : Value} {x : Int} (h : Num w v x) (hb : Below w.heap.size w w') : Num w' v x := by
  obtain ⟨sl, h1, h2⟩ := h; exact ⟨sl, h1, h2.mono hb⟩
theorem Sl.len {w : World} {v : Value} {l : List Nat} (h : Sl w v l) : ∃ a c, v = .slice a l.length c := by
  rcases h with ⟨rfl, rfl⟩ | ⟨b, off, cap, rfl, _⟩
  · exact ⟨_, _, rfl⟩
  · exact ⟨_, _, rfl⟩
set_option maxHeartbeats 400000 in
theorem signed_nil (s : Int) (v : Value) (l : List Nat) (w : World) (ho : Wh.Ok l) (h : Sl w v l) (hm : ∀ a n c, v = .slice a n c → c ≤ 100000) (h0 : Wh.trimL l = []) :
    Calls Tryz.prog 191 #[.int .i64 s, v] w fun e w' => e = .returned (.agg #[.int .i64 0, .slice none 0 0]) ∧ Below w.heap.size w w' := by
  have H0 := Lib.hid h0; clear h0
  go_enter Tryz.func191, Tryz.ntmps191
  go_wp2_with fail
  refine (trim_any _ v l ho (h.mono ?_) hm).mono ?_
  · exact (Below.refl _ _).alloc (Nat.le_refl _) _
  rintro e w' ⟨⟨a, c, rfl, -, -⟩, rfl⟩
  rw [H0.out]
  simp only [List.length_nil]
  go_wp2
  exact bodyPost_ret (v := .agg #[.int .i64 0, .slice none 0 0]) (by simp [results, Tryz.results191, go_sem]) rfl ⟨rfl, (Below.refl _ _).alloc (Nat.le_refl _) _⟩
set_option maxHeartbeats 400000 in
theorem signed_some (s : Int) (v : Value) (l : List Nat) (w : World) (ho : Wh.Ok l) (h : Sl w v l) (hm : ∀ a n c, v = .slice a n c → c ≤ 100000) (h0 : 0 < (Wh.trimL l).length) :
    Calls Tryz.prog 191 #[.int .i64 s, v] w fun e w' => (∃ v', e = .returned (.agg #[.int .i64 s, v']) ∧ Sl w' v' (Wh.trimL l)) ∧ Below w.heap.size w w' := by
  go_enter Tryz.func191, Tryz.ntmps191
  go_wp2_with fail
  refine (trim_any _ v l ho (h.mono ?_) hm).mono ?_
  · exact (Below.refl _ _).alloc (Nat.le_refl _) _
  rintro e w' ⟨⟨a, c, rfl, _, hv⟩, rfl⟩
  have HV := Lib.hid (hv w h); clear hv
  generalize hl : Wh.trimL l = m at *
  have HL := Lib.hid hl; clear hl
  have hne : ((m.length : Int) == 0) = false := by rw [beq_eq_false_iff_ne]; omega
  go_wp2
  exact bodyPost_ret (v := .agg #[.int .i64 s, .slice a m.length c]) (by simp [results, Tryz.results191, go_sem]) rfl ⟨⟨_, rfl, by rw [HL.out]; exact (HV.out).mono ((Below.refl _ _).alloc (Nat.le_refl _) _)⟩, (Below.refl _ _).alloc (Nat.le_refl _) _⟩
/-- a slice of limbs has as many cells as it may -/
def Small (v : Value) : Prop := ∀ a n c, v = .slice a n c → c ≤ 100000
theorem small_nil : Small (.slice none 0 0) := by rintro a n c h; cases h; exact Nat.zero_le _
/-- signed: the number s times what the limbs stand for -/
theorem signed_any (s : Int) (v : Value) (l : List Nat) (w : World) (ho : Wh.Ok l) (h : Sl w v l) (hm : Small v) (hs : s = -1 ∨ s = 1 ∨ Wh.val l = 0) :
    Calls Tryz.prog 191 #[.int .i64 s, v] w fun e w' => (∃ v', e = .returned v' ∧ Num w' v' (s * (Wh.val l : Int))) ∧ Below w.heap.size w w' := by
  by_cases h0 : Wh.val l = 0
  · refine (signed_nil s v l w ho h hm (by rw [Wh.trimL, h0, Wh.limbs_zero])).mono ?_
    rintro e w' ⟨rfl, hb⟩
    refine ⟨⟨_, rfl, ⟨.slice none 0 0, ?_, .inl ⟨?_, rfl⟩⟩⟩, hb⟩
    · rw [h0]; simp
    · rw [h0]; simp [Wh.limbs_zero]
  · have hpos : 0 < (Wh.trimL l).length := by
      rcases Nat.eq_zero_or_pos (Wh.trimL l).length with e | e
      · exact absurd (Wh.limbs_nil.1 (List.eq_nil_of_length_eq_zero e)) h0
      · exact e
    refine (signed_some s v l w ho h hm hpos).mono ?_
    rintro e w' ⟨⟨v', rfl, hv'⟩, hb⟩
    have hs' : s = -1 ∨ s = 1 := by omega
    have e1 : (s * (Wh.val l : Int)).natAbs = Wh.val l := by rcases hs' with rfl | rfl <;> omega
    have e2 : Int.sign (s * (Wh.val l : Int)) = s := by
      rw [Int.sign_mul]
      have : Int.sign (Wh.val l : Int) = 1 := Int.sign_eq_one_of_pos (by omega)
      rw [this]; rcases hs' with rfl | rfl <;> rfl
    exact ⟨⟨_, rfl, ⟨v', by rw [e2], by rw [e1]; exact hv'⟩⟩, hb⟩
end Go.Proofs.YteaeloeebfdodaaGreatDoor

/- WALKS, part 4: memory that a call makes for limbs; combine. -/
namespace Go.Proofs.YteaeloeebfdodaaGreatDoor
open Go.RowKit
def zeros (n : Nat) : Array Value := Array.replicate n (.int .u32 0)
/-- block b is the call's own, and has the limbs l -/
structure Own (w : World) (b : Nat) (l : List Nat) : Prop where
  lt : b < w.heap.size
  cell : ∀ i, i < l.length → w.cell? ⟨b, i, none⟩ = some (.int .u32 (l.getD i 0))
  free : ∀ i, i < l.length → w.frozen? ⟨b, i, none⟩ = false
theorem Own.mono {w w' : World} {b B : Nat} {l : List Nat} (h : Own w b l) (hb : Below B w w') (hB : b < B) : Own w' b l :=
  ⟨Nat.lt_of_lt_of_le h.lt hb.size, fun i hi => (hb.cell (p := ⟨b, i, none⟩) hB).trans (h.cell i hi), fun i hi => (hb.frozen (p := ⟨b, i, none⟩) hB).trans (h.free i hi)⟩
theorem Own.sl {w : World} {b : Nat} {l : List Nat} (h : Own w b l) (cap : Nat) (hc : l.length ≤ cap) : Sl w (.slice (some ⟨b, 0, none⟩) l.length cap) l :=
  .inr ⟨b, 0, cap, rfl, hc, h.lt, fun i hi => by rw [Nat.zero_add]; exact h.cell i hi⟩
theorem Own.set {w : World} {b : Nat} {l : List Nat} (h : Own w b l) {i : Nat} (hi : i < l.length) (x : Nat) : Own (w.setCell ⟨b, i, none⟩ (.int .u32 x)) b (l.set i x) := by
  refine ⟨by simpa using h.lt, fun j hj => ?_, fun j hj => ?_⟩
  · rw [List.length_set] at hj
    by_cases e : i = j
    · subst e
      rw [World.cell?_setCell_same _ _ _ (h.cell i hi)]
      simp [List.getD, hi]
    · rw [World.cell?_setCell_other _ _ _ _ (by intro e'; exact e (congrArg Addr.off e')), h.cell j hj]
      simp [List.getD, List.getElem?_set_ne e]
  · rw [List.length_set] at hj
    rw [World.frozen?_setCell]; exact h.free j hj
theorem madeCells_zero (n : Nat) : madeCells #[Value.int .u32 0] n = zeros n := by
  apply Array.toList_inj.1
  rw [toList_madeCells_one, zeros, Array.toList_replicate]
theorem own_make (w : World) (n : Nat) : Own (w.alloc (.cells (zeros n) 181)) w.heap.size (List.replicate n 0) := by
  refine ⟨by simp, fun i hi => ?_, fun i hi => ?_⟩
  · simp only [List.length_replicate] at hi
    rw [World.cell?_alloc_at (hn := rfl)]
    simp [zeros, hi, List.getD]
  · exact World.frozen?_alloc_at (hn := rfl) ..
theorem info_limb : (Tryz.prog.info? 181).map (fun i => (i.zero, i.size, i.bytes)) = some (some (.int .u32 0), 1, 4) := by kernel_rfl
theorem run_make_limbs (n : Nat) (h : n ≤ 100000) (w : World) (x : Int) (hx : x = n) :
    (Instr.makeSlice 81 (.int .i64 x) (.int .i64 x)).run Tryz.prog w = .ok (.slice (some ⟨w.heap.size, 0, none⟩) n n) (w.alloc (.cells (zeros n) 181)) := by
  subst hx
  have := run_make_row' (P := Tryz.prog) 81 181 (.int .u32 0) 4 Tryz.underlying81 info_limb rfl .i64 .i64 n (by omega) (by omega) w
  rw [madeCells_zero] at this
  exact this
end Go.Proofs.YteaeloeebfdodaaGreatDoor
