/- Part 29 of the proofs that laws of package whole answer true at every input and leave the input as it was, where the library's variables start as the text lays them (the texts W12, L4, R8, K2, K1, K3, O1, O2, O3, O5). -/
import Derived.Test.YteaeloeebfdodaaGreatDoorF28
import Derived.Test.YteaeloeebfdodaaGreatDoorF11
import Derived.Test.YteaeloeebfdodaaGreatDoorF27
import Derived.Test.YteaeloeebfdodaaGreatDoorF17
import Derived.Test.YteaeloeebfdodaaGreatDoorF06
import Derived.Test.YteaeloeebfdodaaGreatDoorF18
import Derived.Test.YteaeloeebfdodaaGreatDoorF12
import Derived.Test.YteaeloeebfdodaaGreatDoorF23
set_option linter.unusedVariables false
set_option linter.unusedSimpArgs false
/- WALKS, Root: any number under 10^30, any exponent to 20. -/
namespace Go.Proofs.YteaeloeebfdodaaGreatDoor
open Go.RowKit
theorem bd_le {k : Nat} {x : Int} (h0 : 0 ≤ x) (h : x ≤ 10 ^ k) : Bd (k + 1) x := by
  unfold Bd
  rw [Nat.pow_succ]
  have h1 : ((10 ^ k : Nat) : Int) = (10 : Int) ^ k := by simp
  have h2 : 0 < 10 ^ k := Nat.pow_pos (by decide)
  generalize 10 ^ k = T at h1 h2 ⊢
  rw [← h1] at h
  omega
theorem Bd.limbs' {k : Nat} {x : Int} (h : Bd k x) (hk : 0 < k) {j : Nat} (hj : k ≤ 9 * j) : (Wh.limbs x.natAbs).length ≤ j :=
  Wh.limbs_length_of_dec (Nat.le_trans (Wh.decN_length_le hk h) hj)
theorem int_pow_mono {a b : Int} (h0 : 0 ≤ a) (h : a ≤ b) (n : Nat) : a ^ n ≤ b ^ n := by
  induction n with
  | zero => simp
  | succ n ih =>
    rw [Int.pow_succ, Int.pow_succ]
    exact Int.mul_le_mul ih h h0 (Int.pow_nonneg (by omega))
theorem pow_le10 {r : Int} {k j : Nat} (h0 : 0 ≤ r) (h : r ≤ 10 ^ k) : r ^ j ≤ 10 ^ (k * j) := by
  rw [Int.pow_mul]
  exact int_pow_mono h0 h j
/-- what holds of every number that Root goes through -/
structure RtI (x : Int) (n k : Nat) (r : Int) : Prop where
  pos : 1 ≤ r
  le : r ≤ 10 ^ k
  up : x < (r + 1) ^ n
theorem rfit {x r : Int} {m n k : Nat} (hx0 : 0 ≤ x) (hx : Bd 30 x) (hnm : n = m + 1) (hm : m ≤ 19) (hk : k ≤ 30) (hkm : k * m ≤ 49) (h : RtI x n k r) : RootFit x m n r := by
  have hp : 0 < r ^ m := Int.pow_pos (by have := h.pos; omega)
  have hr0 : 0 ≤ r := by have := h.pos; omega
  have bq : Bd 30 (x.tdiv (r ^ m)) := Nat.lt_of_le_of_lt (by rw [show (x.tdiv (r ^ m)).natAbs = x.natAbs / (r ^ m).natAbs from Int.natAbs_tdiv ..]; exact Nat.div_le_self _ _) hx
  have hq0 : 0 ≤ x.tdiv (r ^ m) := Int.tdiv_nonneg hx0 (Int.le_of_lt hp)
  have bn : Bd 2 ((n : Int) - 1) := show _ < 100 by omega
  have br : Bd 31 r := (bd_le hr0 h.le).mono (by omega)
  have bp : Bd 33 (((n : Int) - 1) * r) := bn.mul br
  have bs : Bd 34 (((n : Int) - 1) * r + x.tdiv (r ^ m)) := bp.add (bq.mono (by decide))
  have hp0 : 0 ≤ ((n : Int) - 1) * r := Int.mul_nonneg (by omega) hr0
  have bst : Bd 34 (stepR x m n r) := Nat.lt_of_le_of_lt (by unfold stepR; rw [show ((((n : Int) - 1) * r + x.tdiv (r ^ m)).tdiv (n : Int)).natAbs = (((n : Int) - 1) * r + x.tdiv (r ^ m)).natAbs / ((n : Int)).natAbs from Int.natAbs_tdiv ..]; exact Nat.div_le_self _ _) bs
  refine ⟨hr0, Nat.le_trans (br.limbs' (by decide) (j := 4) (by decide)) (by decide), fun j hj => ?_, (bn.mono (by decide)).fit, (bp.mono (by decide)).fit, (bq.mono (by decide)).fit, Nat.le_trans (bs.limbs' (by decide) (j := 4) (by decide)) (by decide), (bst.mono (by decide)).fit, ?_⟩
  · have hj1 : r ^ j ≤ 10 ^ (k * j) := pow_le10 hr0 h.le
    have hj2 : k * j ≤ 49 := Nat.le_trans (Nat.mul_le_mul_left k hj) hkm
    exact Nat.lt_of_le_of_lt (((bd_le (Int.pow_nonneg hr0) hj1).mono (k := 50) (by omega)).limbs' (by decide) (j := 6) (by decide)) (by decide)
  · exact Int.tdiv_nonneg (by omega) (by omega)
theorem le_self_pow {a : Int} (h : 1 ≤ a) {n : Nat} (hn : 1 ≤ n) : a ≤ a ^ n := by
  obtain ⟨m, rfl⟩ : ∃ m, n = m + 1 := ⟨n - 1, by omega⟩
  rw [Int.pow_succ]
  have h1 : 1 ^ m ≤ a ^ m := int_pow_mono (by decide) h m
  rw [Int.one_pow] at h1
  have := Int.mul_le_mul_of_nonneg_right h1 (show (0 : Int) ≤ a by omega)
  omega
theorem root_only {x r s : Int} {n : Nat} (hr0 : 0 ≤ r) (hs0 : 0 ≤ s) (h1 : r ^ n ≤ x) (h2 : x < (r + 1) ^ n) (h3 : s ^ n ≤ x) (h4 : x < (s + 1) ^ n) : s = r := by
  rcases Int.lt_trichotomy s r with h | h | h
  · have := int_pow_mono (show 0 ≤ s + 1 by omega) (show s + 1 ≤ r by omega) n
    omega
  · exact h
  · have := int_pow_mono (show 0 ≤ r + 1 by omega) (show r + 1 ≤ s by omega) n
    omega
theorem ceil_facts (len n : Nat) (hl : 1 ≤ len ∧ len ≤ 30) (hn : 1 ≤ n ∧ n ≤ 20) : (len + n - 1) / n ≤ 30 ∧ (len + n - 1) / n * (n - 1) ≤ 49 ∧ len ≤ (len + n - 1) / n * n := by
  have h1 := Nat.div_add_mod (len + n - 1) n
  have h2 := Nat.mod_lt (len + n - 1) hn.1
  rw [Nat.mul_comm] at h1
  have h4 : (len + n - 1) / n * (n - 1) ≤ (len + n - 1) / n * n := Nat.mul_le_mul_left _ (by omega)
  generalize (len + n - 1) / n = q at *
  generalize (len + n - 1) % n = t at *
  refine ⟨?_, by omega, by omega⟩
  rcases Nat.lt_or_ge 30 q with h | h
  · have : 31 * n ≤ q * n := Nat.mul_le_mul_right n h
    omega
  · exact h
set_option maxRecDepth 100000 in
theorem Root_pos (w : World) (x : Int) (n : Nat) (hx : Bd 30 x) (hx0 : 0 < x) (hn : 1 ≤ n ∧ n ≤ 20) (r : Int) (hr0 : 1 ≤ r) (hr1 : r ^ n ≤ x) (hr2 : x < (r + 1) ^ n) (htab : Tab w) :
    Calls Tryz.prog 36 #[txt x, .int .i64 n] w fun e w' => e = .returned (.tuple #[txt r, .int .i64 0]) ∧ Below w.heap.size w w' := by
  have hrx : r ≤ x := Int.le_trans (le_self_pow hr0 hn.1) hr1
  have br : Bd 30 r := Nat.lt_of_le_of_lt (show r.natAbs ≤ x.natAbs by omega) hx
  refine Root_any w x n r (hx.valid (by decide) (by decide)) (by omega) hn (fun w xa xc hs ht => ?_) (br.valid (by decide) (by decide)) htab
  obtain ⟨m, hm⟩ : ∃ m, n = m + 1 := ⟨n - 1, by omega⟩
  have hl1 : 1 ≤ (Wh.decN x.natAbs).length := Wh.decN_length_pos _
  have hl2 : (Wh.decN x.natAbs).length ≤ 30 := Wh.decN_length_le (by decide) hx
  obtain ⟨c1, c2, c3⟩ := ceil_facts _ n ⟨hl1, hl2⟩ hn
  have hxl : x < 10 ^ (Wh.decN x.natAbs).length := by
    have h := Wh.lt_pow_decN x.natAbs
    have h1 : ((10 ^ (Wh.decN x.natAbs).length : Nat) : Int) = (10 : Int) ^ (Wh.decN x.natAbs).length := by simp
    rw [← h1]
    omega
  generalize hlen : (Wh.decN x.natAbs).length = len at *
  generalize hkk : (len + n - 1) / n = k at *
  have hk : ((len : Int) + (n : Int) - 1) / (n : Int) = (k : Int) := by
    rw [← hkk, show (len : Int) + (n : Int) - 1 = ((len + n - 1 : Nat) : Int) by omega]; simp
  have hkm : k * m ≤ 49 := by rw [show n - 1 = m by omega] at c2; exact c2
  have h0 : RtI x n k (10 ^ k) := by
    have hp : 1 ≤ (10 : Int) ^ k := by have := int_pow_mono (a := 1) (b := 10) (by decide) (by decide) k; rwa [Int.one_pow] at this
    refine ⟨hp, Int.le_refl _, ?_⟩
    have h1 : (10 : Int) ^ len ≤ 10 ^ (k * n) := by
      obtain ⟨d, hd⟩ : ∃ d, k * n = len + d := ⟨k * n - len, by omega⟩
      rw [hd, Int.pow_add]
      have h2 : (1 : Int) ≤ 10 ^ d := by have := int_pow_mono (a := 1) (b := 10) (by decide) (by decide) d; rwa [Int.one_pow] at this
      have h3 : (0 : Int) ≤ 10 ^ len := Int.pow_nonneg (by decide)
      have := Int.mul_le_mul_of_nonneg_left h2 h3
      omega
    rw [Int.pow_mul] at h1
    have h4 := int_pow_mono (show 0 ≤ (10 : Int) ^ k by omega) (show (10 : Int) ^ k ≤ 10 ^ k + 1 by omega) n
    omega
  have hlx : (Wh.limbs x.natAbs).length ≤ 4 := hx.limbs' (by decide) (by decide)
  refine (root_from w x m n k hm (RtI x n k) xa xc hs hx0 (by omega) (by omega) ht (Bd.valid (k := 2) (show _ < 100 by omega) (by decide) (by decide)) (Bd.fit (Bd.mono (j := 2) (show _ < 100 by omega) (by decide))) (by rw [hlen]; exact hk) (by omega) (by omega) ?_ h0 (fun r h => rfit (by omega) hx hm (by omega) c1 hkm h) ?_ ?_).mono ?_
  · intro j hj
    exact Nat.lt_of_le_of_lt (((bd_le (x := (10 : Int) ^ j) (k := j) (Int.pow_nonneg (by decide)) (Int.le_refl _)).mono (k := 50) (by omega)).limbs' (by decide) (j := 6) (by decide)) (by decide)
  · intro r h hlt
    have hst : 0 ≤ stepR x m n r := (rfit (by omega) hx hm (by omega) c1 hkm h).nn
    have hup : x < (stepR x m n r + 1) ^ n := by
      rw [hm]
      exact Wh.newton_up (r := r) (m := m) (by omega) (by have := h.pos; omega) (by rw [← hm]; exact hst) (by unfold stepR; rw [show (((m + 1 : Nat) : Int) - 1) = (m : Int) by omega, Int.natCast_succ])
    refine ⟨?_, Int.le_trans (Int.le_of_lt hlt) h.le, hup⟩
    rcases Int.lt_or_le (stepR x m n r) 1 with h1 | h1
    · rw [show stepR x m n r = 0 by omega, show (0 : Int) + 1 = 1 from rfl, Int.one_pow] at hup
      omega
    · exact h1
  · intro r h w va vb ha hb
    exact quo_gen w va vb x _ ha hb (by omega) (Int.natAbs_pos.2 (by have := h.pos; have : 0 < r ^ m := Int.pow_pos (by omega); omega))
  · rintro e w' ⟨⟨s, v', h, hle, rfl, hn'⟩, hb⟩
    have hs1 : s ^ n ≤ x := by
      rw [hm]
      refine Wh.newton_stop (by omega) (by have := h.pos; omega) ?_
      unfold stepR at hle
      rwa [hm, show (((m + 1 : Nat) : Int) - 1) = (m : Int) by omega, Int.natCast_succ] at hle
    have := root_only (r := r) (s := s) (by omega) (by have := h.pos; omega) hr1 hr2 hs1 h.up
    subst this
    exact ⟨⟨v', rfl, hn'⟩, hb⟩
end Go.Proofs.YteaeloeebfdodaaGreatDoor

/- WALKS, the number of digits in a base 4: a number's digits in a base are read back; base ten is the number itself. -/
namespace Go.Proofs.YteaeloeebfdodaaGreatDoor
open Go.RowKit Go.Proofs.Rf
def dgs (b n : Nat) : List UInt8 := ((Wh.dg b n).map charU).reverse
/-- the digits as they are written: the sign ahead -/
def inB (b : Nat) (x : Int) : List UInt8 := if x = 0 then [48] else (if x < 0 then [45] else []) ++ dgs b x.natAbs
set_option maxHeartbeats 400000 in
theorem inbase_zero (w : World) (xa : Option Addr) (xn xc b : Nat) :
    Calls Tryz.prog 119 #[.agg #[.int .i64 0, .slice xa xn xc], .int .i64 b] w fun e w' => e = .returned (.string ⟨#[48]⟩) ∧ Below w.heap.size w w' := by
  refine callsIn_wide.1 (callsIn_of_wp_marks (n := 3) Tryz.func119 rfl trivial (wpIn_wide.2 ?_) rfl)
  simp only [Tryz.ntmps119, List.size_toArray, List.length_cons, List.length_nil, Nat.reduceAdd, Nat.reduceSub, Array.replicate_succ, Array.replicate_zero, List.push_toArray, List.append_toArray, List.nil_append, List.cons_append]
  go_wp2_with fail
  exact ⟨.string ⟨#[48]⟩, by simp [results, Tryz.results119, go_sem], rfl, (Below.refl _ _).alloc (Nat.le_refl _) _⟩
theorem dgs_len {b : Nat} (hb : 2 ≤ b) (x : Int) (hx : x.natAbs < 10 ^ 30) : (dgs b x.natAbs).length ≤ 100 := by
  rw [dgs, List.length_reverse, List.length_map]
  exact Wh.dg_length (k := 100) hb _ (Nat.lt_of_lt_of_le hx (Nat.le_trans (by decide : 10 ^ 30 ≤ 2 ^ 100) (Nat.pow_le_pow_left hb 100)))
theorem valid30 (x : Int) (hx : x.natAbs < 10 ^ 30) : Valid x := Nat.le_trans (Wh.decN_length_le (k := 30) (by decide) hx) (by decide)
theorem inbase_txt (x : Int) (b : Nat) (hb : 2 ≤ b ∧ b ≤ 36) (hx : x.natAbs < 10 ^ 30) (w : World) (xa : Option Addr) (xc : Nat) (h1 : Sl w (.slice xa (Wh.limbs x.natAbs).length xc) (Wh.limbs x.natAbs)) :
    Calls Tryz.prog 119 #[.agg #[.int .i64 x.sign, .slice xa (Wh.limbs x.natAbs).length xc], .int .i64 b] w fun e w' => e = .returned (.string (str (inB b x))) ∧ Below w.heap.size w w' := by
  by_cases h0 : x = 0
  · subst h0
    exact inbase_zero w xa _ xc b
  · have := inbase_any w x b xa _ xc h1 hb h0 (Nat.le_trans (limbs_valid (valid30 x hx)) (by decide)) (by have := dgs_len hb.1 x hx; rw [dgs, List.length_reverse, List.length_map] at this; omega)
    rw [inB, if_neg h0]
    exact this
theorem Base_txt (w : World) (x : Int) (b : Nat) (hb : 2 ≤ b ∧ b ≤ 36) (hx : x.natAbs < 10 ^ 30) (htab : Tab w) :
    Calls Tryz.prog 37 #[txt x, .int .i64 b] w fun e w' => e = .returned (.tuple #[.string (str (inB b x)), .int .i64 0]) ∧ Below w.heap.size w w' :=
  Base_any w x b _ (valid30 x hx) hb (fun w xa xc h => inbase_txt x b hb hx w xa xc h) htab
end Go.Proofs.YteaeloeebfdodaaGreatDoor

/- WALKS, the rod 8: Whole, with its number of digits. -/
namespace Go.Proofs.YteaeloeebfdodaaGreatDoor
open Go.RowKit
end Go.Proofs.YteaeloeebfdodaaGreatDoor

/- WALKS: the reference's number of a text; the kit's text of a number. -/
namespace Go.Proofs.YteaeloeebfdodaaGreatDoor
open Go.RowKit Go.Proofs.Rf
structure DecL (l : List UInt8) : Prop where
  ne : l ≠ []
  dig : ∀ c ∈ l, 48 ≤ c.toNat ∧ c.toNat ≤ 57
  head : l.headD 0 ≠ 48 ∨ l.length = 1
  len : l.length ≤ 15
theorem DecL.at {l : List UInt8} (h : DecL l) {i : Nat} (hi : i < l.length) : 48 ≤ (l.getD i 0).toNat ∧ (l.getD i 0).toNat ≤ 57 := by
  rw [List.getD_eq_getElem?_getD, List.getElem?_eq_getElem hi]; exact h.dig _ (List.getElem_mem hi)
theorem DecL.pos {l : List UInt8} (h : DecL l) : 0 < l.length := List.length_pos_iff.2 h.ne
end Go.Proofs.YteaeloeebfdodaaGreatDoor

/- ARITHMETIC: what the list of the least factors is: each a prime, ascending, the product the number. -/
namespace Go.Proofs.YteaeloeebfdodaaGreatDoor
def Low (m p : Nat) : Prop := ∀ d, 2 ≤ d → d < p → m % d ≠ 0
theorem low_two (m : Nat) : Low m 2 := fun d h2 hd => by omega
/-- the state at the head of a round: i factors are read, P is their product, L the last of them, m what is left -/
structure PAt (n : Nat) (i P L m : Nat) : Prop where
  rest : (pr (n + 1) 2 n).drop i = pr (m + 1) L m
  prod : P * m = n
  low : Low m L
  last : 2 ≤ L
  pos : 1 ≤ m
  le : i ≤ (pr (n + 1) 2 n).length
theorem PAt.start (n : Nat) (hn : 1 ≤ n) : PAt n 0 1 2 n := ⟨rfl, Nat.one_mul n, low_two n, Nat.le_refl 2, hn, Nat.zero_le _⟩
theorem PAt.more {n i P L m : Nat} (h : PAt n i P L m) (hi : i < (pr (n + 1) 2 n).length) : 1 < m := by
  rcases Nat.lt_or_ge 1 m with h1 | h1
  · exact h1
  · exfalso
    have := h.rest
    have e0 : pr (m + 1) L m = [] := by rw [pr, if_pos h1]
    rw [e0] at this
    have := congrArg List.length this
    simp only [List.length_drop, List.length_nil] at this
    omega
theorem PAt.fin {n i P L m : Nat} (h : PAt n i P L m) (hi : ¬ i < (pr (n + 1) 2 n).length) : P = n := by
  have hr := h.rest
  have h0 : (pr (n + 1) 2 n).drop i = [] := List.drop_eq_nil_of_le (by omega)
  rw [h0] at hr
  have hm : m = 1 := by
    rcases Nat.lt_or_ge 1 m with h1 | h1
    · rw [pr_step h.last h1] at hr; cases hr
    · have := h.pos; omega
  have := h.prod
  rw [hm, Nat.mul_one] at this
  exact this
end Go.Proofs.YteaeloeebfdodaaGreatDoor

/- WALKS: the kit's decimal text; a prime's text as a number. -/
namespace Go.Proofs.YteaeloeebfdodaaGreatDoor
open Go.RowKit Go.Proofs.Rf
set_option maxRecDepth 100000
end Go.Proofs.YteaeloeebfdodaaGreatDoor

/- WALKS: the reference's text of a number. -/
namespace Go.Proofs.YteaeloeebfdodaaGreatDoor
open Go.RowKit Go.Proofs.Rf
set_option maxRecDepth 100000
end Go.Proofs.YteaeloeebfdodaaGreatDoor

/- WALKS: the reference's trim. -/
namespace Go.Proofs.YteaeloeebfdodaaGreatDoor
open Go.RowKit Go.Proofs.Rf
/-- the slice reads as these numbers -/
def Il (w : World) (a : Option Addr) (n : Nat) (l : List Nat) : Prop := ∀ i, i < n → ∃ b off, a = some ⟨b, off, none⟩ ∧ b < w.heap.size ∧ ∀ i, i < n → w.cell? ⟨b, off + i, none⟩ = some (.int .i64 (l.getD i 0 : Nat))
end Go.Proofs.YteaeloeebfdodaaGreatDoor

/- WALKS: the reference's limbs of a text. -/
namespace Go.Proofs.YteaeloeebfdodaaGreatDoor
open Go.RowKit Go.Proofs.Rf
/-- what limbs of four digits stand for -/
def val4 : List Nat → Nat
  | [] => 0
  | x :: r => x + 10000 * val4 r
theorem val4_snoc (l : List Nat) (x : Nat) : val4 (l ++ [x]) = val4 l + 10000 ^ l.length * x := by
  induction l with
  | nil => simp [val4]
  | cons a r ih => rw [List.cons_append, val4, ih, val4, List.length_cons, Nat.pow_succ, Nat.mul_add, ← Nat.mul_assoc, Nat.mul_comm 10000 (10000 ^ r.length), Nat.add_assoc]
theorem numOf_append (x y : List UInt8) : Wh.numOf (x ++ y) = Wh.numOf x * 10 ^ y.length + Wh.numOf y := by
  have h : ∀ (y : List UInt8) (a : Nat), y.foldl (fun a c => 10 * a + Wh.dv c) a = a * 10 ^ y.length + y.foldl (fun a c => 10 * a + Wh.dv c) 0 := by
    intro y
    induction y with
    | nil => intro a; simp
    | cons c r ih =>
      intro a
      rw [List.foldl_cons, List.foldl_cons, ih, ih (10 * 0 + Wh.dv c), List.length_cons, Nat.pow_succ, Nat.mul_zero, Nat.zero_add, Nat.add_mul, Nat.mul_assoc, Nat.mul_comm 10, Nat.mul_assoc, Nat.add_assoc]
  show (x ++ y).foldl _ 0 = _
  rw [List.foldl_append, h]
  rfl
abbrev i64s (l : List Nat) : List Value := l.map fun x : Nat => Value.int .i64 (x : Int)
structure LI (d : List UInt8) (k : Nat) (l : List Nat) : Prop where
  le : k ≤ d.length
  small : ∀ x ∈ l, x < 10000
  val : Wh.numOf d = Wh.numOf (d.take k) * 10000 ^ l.length + val4 l
  len : l.length + k ≤ d.length
theorem LI.start (d : List UInt8) : LI d d.length [] := ⟨Nat.le_refl _, fun x hx => absurd hx (by simp), by simp [val4], by simp⟩
theorem LI.next {d : List UInt8} {k : Nat} {l : List Nat} (h : LI d k l) (hd : ∀ c ∈ d, 48 ≤ c.toNat ∧ c.toNat ≤ 57) (hk : 0 < k) : LI d (k - 4) (l ++ [Wh.numOf ((d.take k).drop (k - 4))]) := by
  have hle := h.le
  have hln : ((d.take k).drop (k - 4)).length = k - (k - 4) := by rw [List.length_drop, List.length_take]; omega
  have hs : Wh.numOf ((d.take k).drop (k - 4)) < 10000 := by
    have := Wh.numOf_lt (l := (d.take k).drop (k - 4)) (fun c hc => hd c (List.mem_of_mem_take (List.mem_of_mem_drop hc)))
    rw [hln] at this
    exact Nat.lt_of_lt_of_le this (Nat.le_trans (Nat.pow_le_pow_right (by decide) (by omega)) (by decide : 10 ^ 4 ≤ 10000))
  refine ⟨by omega, fun x hx => ?_, ?_, by rw [List.length_append, List.length_singleton]; have := h.len; omega⟩
  · rcases List.mem_append.1 hx with h1 | h1
    · exact h.small x h1
    · rw [List.mem_singleton.1 h1]; exact hs
  · have e : d.take k = d.take (k - 4) ++ (d.take k).drop (k - 4) := by
      have := (List.take_append_drop (k - 4) (d.take k)).symm
      rw [List.take_take, Nat.min_eq_left (by omega)] at this
      exact this
    have hv := h.val
    rw [e, numOf_append, hln] at hv
    rw [hv, val4_snoc, List.length_append, List.length_singleton, Nat.pow_succ, Nat.add_mul]
    rcases Nat.lt_or_ge k 4 with h4 | h4
    · have : k - 4 = 0 := by omega
      rw [this]
      simp only [List.take_zero]
      have hz : Wh.numOf [] = 0 := rfl
      rw [hz, Nat.zero_mul, Nat.zero_mul, Nat.zero_mul, Nat.zero_add, Nat.zero_add, Nat.mul_comm, Nat.add_comm]
    · have : k - (k - 4) = 4 := by omega
      rw [this, Nat.mul_assoc, show (10 : Nat) ^ 4 = 10000 from rfl, Nat.mul_comm 10000 (10000 ^ l.length), Nat.mul_comm (Wh.numOf ((d.take k).drop (k - 4)))]
      omega
end Go.Proofs.YteaeloeebfdodaaGreatDoor

/- WALKS: limbs of four digits, arithmetic. -/
namespace Go.Proofs.YteaeloeebfdodaaGreatDoor
open Go.RowKit Go.Proofs.Rf
abbrev T4 : Nat := 10000
def Sm4 (l : List Nat) : Prop := ∀ x ∈ l, x < 10000
/-- the top is not 0 -/
def Top (l : List Nat) : Prop := l.length = 0 ∨ l.getD (l.length - 1) 0 ≠ 0
theorem Sm4.nil : Sm4 [] := fun _ h => by cases h
theorem Sm4.snoc {l : List Nat} {x : Nat} (h : Sm4 l) (hx : x < 10000) : Sm4 (l ++ [x]) := fun y hy => by
  rcases List.mem_append.1 hy with h1 | h1
  · exact h y h1
  · rw [List.mem_singleton.1 h1]; exact hx
theorem Sm4.getD {l : List Nat} (h : Sm4 l) (i : Nat) : l.getD i 0 < 10000 := by
  rw [List.getD_eq_getElem?_getD]
  cases e : l[i]? with
  | none => simp
  | some x => exact h x (List.mem_of_getElem? e)
theorem Sm4.take {l : List Nat} (h : Sm4 l) (i : Nat) : Sm4 (l.take i) := fun x hx => h x (List.mem_of_mem_take hx)
theorem Sm4.drop {l : List Nat} (h : Sm4 l) (i : Nat) : Sm4 (l.drop i) := fun x hx => h x (List.mem_of_mem_drop hx)
theorem Sm4.set {l : List Nat} (h : Sm4 l) (i : Nat) {v : Nat} (hv : v < 10000) : Sm4 (l.set i v) := fun x hx => by
  rcases List.mem_or_eq_of_mem_set hx with h1 | h1
  · exact h x h1
  · rw [h1]; exact hv
theorem val4_take_succ (l : List Nat) (i : Nat) : val4 (l.take (i + 1)) = val4 (l.take i) + 10000 ^ i * l.getD i 0 := by
  induction l generalizing i with
  | nil => simp [val4]
  | cons x r ih =>
    cases i with
    | zero => simp [val4]
    | succ i =>
      rw [List.take_succ_cons, List.take_succ_cons, val4, val4, ih, Nat.mul_add, Nat.pow_succ, Nat.mul_comm (10000 ^ i) 10000, Nat.mul_assoc, Nat.add_assoc]
      simp [List.getD]
theorem val4_take_all {l : List Nat} {i : Nat} (h : l.length ≤ i) : val4 (l.take i) = val4 l := by rw [List.take_of_length_le h]
theorem val4_lt {l : List Nat} (h : Sm4 l) : val4 l < 10000 ^ l.length := by
  induction l with
  | nil => simp [val4]
  | cons x r ih =>
    have h1 := ih fun y hy => h y (List.mem_cons_of_mem _ hy)
    have h2 := h x (List.mem_cons_self ..)
    rw [val4, List.length_cons, Nat.pow_succ]
    omega
theorem val4_set (l : List Nat) (k v : Nat) (h : k < l.length) : val4 (l.set k v) + 10000 ^ k * l.getD k 0 = val4 l + 10000 ^ k * v := by
  induction l generalizing k with
  | nil => simp at h
  | cons x r ih =>
    cases k with
    | zero => simp [val4]; omega
    | succ k =>
      have := ih k (by simpa using h)
      simp only [List.set_cons_succ, val4, Nat.pow_succ, List.getD_cons_succ]
      rw [Nat.mul_comm (10000 ^ k) 10000, Nat.mul_assoc, Nat.mul_assoc]
      omega
/-- a round of the sum -/
structure PLI (a b : List Nat) (i : Nat) (o : List Nat) (c : Nat) : Prop where
  len : o.length = i
  sm : Sm4 o
  c1 : c ≤ 1
  eq : val4 o + 10000 ^ i * c = val4 (a.take i) + val4 (b.take i)
theorem PLI.start (a b : List Nat) : PLI a b 0 [] 0 := ⟨rfl, Sm4.nil, by omega, by simp [val4]⟩
theorem PLI.next {a b : List Nat} {i : Nat} {o : List Nat} {c : Nat} (h : PLI a b i o c) (ha : Sm4 a) (hb : Sm4 b) : PLI a b (i + 1) (o ++ [(c + a.getD i 0 + b.getD i 0) % 10000]) ((c + a.getD i 0 + b.getD i 0) / 10000) := by
  have h1 := ha.getD i
  have h2 := hb.getD i
  have h3 := h.c1
  refine ⟨by simp [h.len], h.sm.snoc (Nat.mod_lt _ (by decide)), by omega, ?_⟩
  rw [val4_snoc, h.len, val4_take_succ, val4_take_succ, Nat.pow_succ, Nat.mul_assoc, Nat.add_assoc, ← Nat.mul_add]
  have h4 : (c + a.getD i 0 + b.getD i 0) % 10000 + 10000 * ((c + a.getD i 0 + b.getD i 0) / 10000) = c + a.getD i 0 + b.getD i 0 := Nat.mod_add_div _ _
  rw [h4, Nat.mul_add, Nat.mul_add]
  have := h.eq
  omega
theorem PLI.fin {a b : List Nat} {i : Nat} {o : List Nat} (h : PLI a b i o 0) (h1 : a.length ≤ i) (h2 : b.length ≤ i) : val4 o = val4 a + val4 b := by
  have := h.eq
  rw [val4_take_all h1, val4_take_all h2] at this
  simpa using this
/-- a round of the difference -/
structure MII (a b : List Nat) (i : Nat) (o : List Nat) (c : Nat) : Prop where
  len : o.length = i
  sm : Sm4 o
  c1 : c ≤ 1
  eq : val4 o + val4 (b.take i) = val4 (a.take i) + 10000 ^ i * c - 0 * c
  le : val4 (b.take i) ≤ val4 (a.take i) + 10000 ^ i * c
theorem MII.start (a b : List Nat) : MII a b 0 [] 0 := ⟨rfl, Sm4.nil, by omega, by simp [val4], by simp [val4]⟩
theorem MII.next {a b : List Nat} {i : Nat} {o : List Nat} {c d e : Nat} (h : MII a b i o c) (hd : d < 10000) (he : e ≤ 1) (heq : d + b.getD i 0 + c = a.getD i 0 + 10000 * e) : MII a b (i + 1) (o ++ [d]) e := by
  have hv : val4 (o ++ [d]) + val4 (b.take (i + 1)) = val4 (a.take (i + 1)) + 10000 ^ (i + 1) * e := by
    rw [val4_snoc, h.len, val4_take_succ, val4_take_succ, Nat.pow_succ, Nat.mul_assoc]
    have := h.eq
    have h5 : 10000 ^ i * d + 10000 ^ i * b.getD i 0 + 10000 ^ i * c = 10000 ^ i * a.getD i 0 + 10000 ^ i * (10000 * e) := by rw [← Nat.mul_add, ← Nat.mul_add, heq, Nat.mul_add]
    omega
  exact ⟨by simp [h.len], h.sm.snoc hd, he, by omega, by omega⟩
theorem MII.fin {a b : List Nat} {o : List Nat} {c : Nat} (h : MII a b a.length o c) (h2 : b.length ≤ a.length) (hv : val4 b ≤ val4 a) : val4 o = val4 a - val4 b := by
  have h1 := h.eq
  have h3 := val4_lt h.sm
  rw [h.len] at h3
  rw [val4_take_all (Nat.le_refl _), val4_take_all h2] at h1
  have : c = 0 := by
    have := h.c1
    rcases Nat.lt_or_ge 0 c with h4 | h4
    · have : c = 1 := by omega
      subst this
      omega
    · omega
  subst this
  omega
/-- a row of the product, within: row i, column k -/
structure TII (a b : List Nat) (i k : Nat) (o : List Nat) (c : Nat) : Prop where
  len : o.length = a.length + b.length
  sm : Sm4 o
  c1 : c < 10000
  hi : i < a.length
  hk : k ≤ b.length
  eq : val4 o + 10000 ^ (i + k) * c = val4 (a.take i) * val4 b + 10000 ^ i * (a.getD i 0 * val4 (b.take k))
  z : ∀ j, i + b.length ≤ j → o.getD j 0 = 0
/-- rows of the product -/
structure TOI (a b : List Nat) (i : Nat) (o : List Nat) : Prop where
  len : o.length = a.length + b.length
  sm : Sm4 o
  hi : i ≤ a.length
  eq : val4 o = val4 (a.take i) * val4 b
  z : ∀ j, i + b.length ≤ j → o.getD j 0 = 0
theorem sm4_zeros (n : Nat) : Sm4 (List.replicate n 0) := fun x hx => by rw [List.eq_of_mem_replicate hx]; decide
theorem val4_replicate (n : Nat) : val4 (List.replicate n 0) = 0 := by
  induction n with
  | zero => rfl
  | succ n ih => rw [List.replicate_succ, val4, ih]
theorem TOI.start (a b : List Nat) : TOI a b 0 (List.replicate (a.length + b.length) 0) :=
  ⟨by simp, sm4_zeros _, Nat.zero_le _, by rw [val4_replicate]; simp [val4], fun j _ => by simp [List.getD, List.getElem?_replicate]; split <;> simp_all⟩
theorem TOI.row {a b : List Nat} {i : Nat} {o : List Nat} (h : TOI a b i o) (hi : i < a.length) : TII a b i 0 o 0 :=
  ⟨h.len, h.sm, by decide, hi, Nat.zero_le _, by simp [h.eq, val4], h.z⟩
theorem getD_set_ne (l : List Nat) {i j : Nat} (v : Nat) (h : i ≠ j) : (l.set i v).getD j 0 = l.getD j 0 := by
  simp [List.getD, List.getElem?_set_ne h]
theorem TII.next {a b : List Nat} {i k : Nat} {o : List Nat} {c : Nat} (h : TII a b i k o c) (hk : k < b.length) :
    o.getD (i + k) 0 + a.getD i 0 * b.getD k 0 + c < 100000000 ∧ i + k < o.length ∧
    (∀ (_ : Sm4 a) (_ : Sm4 b), TII a b i (k + 1) (o.set (i + k) ((o.getD (i + k) 0 + a.getD i 0 * b.getD k 0 + c) % 10000)) ((o.getD (i + k) 0 + a.getD i 0 * b.getD k 0 + c) / 10000)) ∨ ¬ (Sm4 a ∧ Sm4 b) := by
  by_cases hs : Sm4 a ∧ Sm4 b
  · refine .inl ?_
    have ho := h.sm.getD (i + k)
    have ha := hs.1.getD i
    have hb := hs.2.getD k
    have hc := h.c1
    have hp : a.getD i 0 * b.getD k 0 ≤ 9999 * 9999 := Nat.mul_le_mul (by omega) (by omega)
    have hl : i + k < o.length := by rw [h.len]; have := h.hi; omega
    refine ⟨by omega, hl, fun _ _ => ?_⟩
    generalize hn : o.getD (i + k) 0 + a.getD i 0 * b.getD k 0 + c = n at *
    refine ⟨by rw [List.length_set]; exact h.len, h.sm.set _ (Nat.mod_lt _ (by decide)), by omega, h.hi, hk, ?_, fun j hj => by rw [getD_set_ne _ _ (by omega)]; exact h.z j hj⟩
    have h1 := val4_set o (i + k) (n % 10000) hl
    have h2 := h.eq
    have h3 : 10000 ^ (i + (k + 1)) * (n / 10000) = 10000 ^ (i + k) * (10000 * (n / 10000)) := by rw [← Nat.add_assoc, Nat.pow_succ, Nat.mul_assoc]
    have h4 : 10000 ^ (i + k) * (n % 10000) + 10000 ^ (i + k) * (10000 * (n / 10000)) = 10000 ^ (i + k) * n := by rw [← Nat.mul_add, Nat.mod_add_div]
    have h5 : 10000 ^ (i + k) * n = 10000 ^ (i + k) * o.getD (i + k) 0 + 10000 ^ (i + k) * (a.getD i 0 * b.getD k 0) + 10000 ^ (i + k) * c := by rw [← hn, Nat.mul_add, Nat.mul_add]
    have h6 : 10000 ^ i * (a.getD i 0 * val4 (b.take (k + 1))) = 10000 ^ i * (a.getD i 0 * val4 (b.take k)) + 10000 ^ (i + k) * (a.getD i 0 * b.getD k 0) := by
      rw [val4_take_succ, Nat.mul_add, Nat.mul_add, Nat.pow_add]
      congr 1
      rw [Nat.mul_assoc, Nat.mul_left_comm (a.getD i 0)]
    rw [h3, h6]
    omega
  · exact .inr hs
theorem TII.fin {a b : List Nat} {i : Nat} {o : List Nat} {c : Nat} (h : TII a b i b.length o c) :
    i + b.length < o.length ∧ o.getD (i + b.length) 0 = 0 ∧ TOI a b (i + 1) (o.set (i + b.length) (o.getD (i + b.length) 0 + c)) := by
  have hl : i + b.length < o.length := by rw [h.len]; have := h.hi; omega
  have hz := h.z (i + b.length) (Nat.le_refl _)
  refine ⟨hl, hz, by rw [List.length_set]; exact h.len, h.sm.set _ (by rw [hz]; have := h.c1; omega), h.hi, ?_, fun j hj => by rw [getD_set_ne _ _ (by omega)]; exact h.z j (by omega)⟩
  have h1 := val4_set o (i + b.length) (o.getD (i + b.length) 0 + c) hl
  have h2 := h.eq
  rw [val4_take_all (Nat.le_refl b.length)] at h2
  rw [val4_take_succ, Nat.add_mul, Nat.mul_assoc]
  rw [hz, Nat.zero_add] at h1 ⊢
  omega
theorem TOI.fin {a b : List Nat} {o : List Nat} (h : TOI a b a.length o) : val4 o = val4 a * val4 b := by
  rw [h.eq, val4_take_all (Nat.le_refl _)]
theorem quo_lt {A B : Nat} (h : A < B * 10000) : A / B ≤ 9999 := by
  have := Nat.div_lt_of_lt_mul h
  omega
theorem val4_drop (l : List Nat) (k : Nat) : val4 (l.drop k) = l.getD k 0 + 10000 * val4 (l.drop (k + 1)) := by
  by_cases h : k < l.length
  · rw [List.drop_eq_getElem_cons h, val4]
    simp [List.getD, h]
  · rw [List.drop_eq_nil_of_le (by omega), List.drop_eq_nil_of_le (by omega)]
    simp [val4, List.getD, show l.length ≤ k by omega]
/-- a round of the quotient -/
structure OVI (a b : List Nat) (i : Nat) (quo : List Nat) (rem : Nat) : Prop where
  len : quo.length = a.length
  sm : Sm4 quo
  lt : rem < val4 b
  eq : val4 (a.drop i) = val4 (quo.drop i) * val4 b + rem
theorem OVI.start (a b : List Nat) (hb : 0 < val4 b) : OVI a b a.length (List.replicate a.length 0) 0 :=
  ⟨by simp, sm4_zeros _, hb, by simp [val4]⟩
theorem OVI.next {a b quo : List Nat} {i rem : Nat} (h : OVI a b (i + 1) quo rem) (hi : i < a.length) (ha : Sm4 a) : 
    a.getD i 0 + 10000 * rem < val4 b * 10000 ∧ OVI a b i (quo.set i ((a.getD i 0 + 10000 * rem) / val4 b)) ((a.getD i 0 + 10000 * rem) % val4 b) := by
  have h1 := ha.getD i
  have h2 := h.lt
  have h3 : a.getD i 0 + 10000 * rem < val4 b * 10000 := by omega
  have h4 := quo_lt h3
  refine ⟨h3, by rw [List.length_set]; exact h.len, h.sm.set _ (by omega), Nat.mod_lt _ (by omega), ?_⟩
  rw [val4_drop a i, h.eq]
  have e : (quo.set i ((a.getD i 0 + 10000 * rem) / val4 b)).drop i = ((a.getD i 0 + 10000 * rem) / val4 b) :: quo.drop (i + 1) := by
    have hl : i < (quo.set i ((a.getD i 0 + 10000 * rem) / val4 b)).length := by rw [List.length_set, h.len]; exact hi
    rw [List.drop_eq_getElem_cons hl, List.getElem_set_self, List.drop_set_of_lt (by omega)]
  rw [e, val4, Nat.add_mul]
  have := Nat.div_add_mod (a.getD i 0 + 10000 * rem) (val4 b)
  rw [Nat.mul_comm] at this
  rw [Nat.mul_add, Nat.mul_assoc]
  omega
structure TXI (v len : Nat) (D : List UInt8) : Prop where
  len : D.length = len
  dg : ∀ c ∈ D, 48 ≤ c.toNat ∧ c.toNat ≤ 57
  val : Wh.numOf D = v
theorem TXI.nil : TXI 0 0 [] := ⟨rfl, fun _ h => absurd h (by simp), rfl⟩
theorem TXI.cons {v len : Nat} {D : List UInt8} {d : Nat} (h : TXI v len D) (hd : d < 10) : TXI (d * 10 ^ len + v) (len + 1) (UInt8.ofNat (48 + d) :: D) := by
  have hn := Wh.toNat_digit hd
  refine ⟨by simp [h.len], fun c hc => ?_, ?_⟩
  · rcases List.mem_cons.1 hc with h1 | h1
    · rw [h1, hn]; omega
    · exact h.dg c h1
  · have := numOf_append [UInt8.ofNat (48 + d)] D
    rw [List.singleton_append] at this
    rw [this, h.val, h.len]
    have e : Wh.numOf [UInt8.ofNat (48 + d)] = d := by
      show 10 * 0 + ((UInt8.ofNat (48 + d)).toNat - 48) = d
      rw [hn]; omega
    rw [e]
theorem TXI.tail {v len : Nat} {c : UInt8} {D : List UInt8} (h : TXI v (len + 1) (c :: D)) (hc : c.toNat = 48) : TXI v len D := by
  refine ⟨by have := h.len; simpa using this, fun c hc => h.dg c (List.mem_cons_of_mem _ hc), ?_⟩
  have := numOf_append [c] D
  rw [List.singleton_append] at this
  rw [h.val] at this
  have e : Wh.numOf [c] = 0 := by simp [Wh.numOf, Wh.dv, hc]
  rw [e] at this
  omega
theorem TXI.fin {v len : Nat} {c : UInt8} {D : List UInt8} (h : TXI v len (c :: D)) (hc : c.toNat ≠ 48 ∨ D = []) : c :: D = Wh.decN v := by
  rw [← h.val]
  refine (Wh.decN_numOf h.dg (by simp) ?_).symm
  rcases hc with hc | hc
  · left; intro e; apply hc; simp at e; rw [e]; rfl
  · right; rw [hc]; rfl
/-- a slice of limbs, as it can be read -/
def RL4 (w : World) (v : Value) (l : List Nat) : Prop := ∃ a c, v = .slice a l.length c ∧ Il w a l.length l ∧ l.length ≤ c
theorem Il.mono {w w' : World} {a : Option Addr} {n : Nat} {l : List Nat} (h : Il w a n l) (hb : Below w.heap.size w w') : Il w' a n l := fun i hi => by
  obtain ⟨b, off, e, hl, hc⟩ := h i hi
  exact ⟨b, off, e, Nat.lt_of_lt_of_le hl hb.size, fun j hj => (hb.cell (p := ⟨b, off + j, none⟩) hl).trans (hc j hj)⟩
theorem RL4.mono {w w' : World} {v : Value} {l : List Nat} (h : RL4 w v l) (hb : Below w.heap.size w w') : RL4 w' v l := by
  obtain ⟨a, c, e, h1, h2⟩ := h; exact ⟨a, c, e, h1.mono hb, h2⟩
theorem RL4.nil (w : World) : RL4 w (.slice none 0 0) [] := ⟨none, 0, rfl, fun i hi => absurd hi (by simp), Nat.le_refl _⟩
theorem RL4.cut {w : World} {a : Option Addr} {c : Nat} {l : List Nat} {k : Nat} (h : Il w a l.length l) (hk : k ≤ l.length) (hc : l.length ≤ c) : RL4 w (.slice a k c) (l.take k) := by
  have e : (l.take k).length = k := by rw [List.length_take, Nat.min_eq_left hk]
  refine ⟨a, c, by rw [e], ?_, by omega⟩
  rw [e]
  intro i hi
  obtain ⟨b, off, e1, hl, hcc⟩ := h i (by omega)
  refine ⟨b, off, e1, hl, fun j hj => ?_⟩
  rw [hcc j (by omega)]
  simp [List.getD, hj]
end Go.Proofs.YteaeloeebfdodaaGreatDoor
