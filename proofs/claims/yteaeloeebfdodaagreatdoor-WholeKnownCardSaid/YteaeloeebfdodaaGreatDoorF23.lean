/- Part 23 of the proofs that laws of package whole answer true at every input and leave the input as it was, where the library's variables start as the text lays them (the texts W1, L1, W2, W3, W4, W5). -/
import Derived.Test.YteaeloeebfdodaaGreatDoorF01
import Derived.Test.YteaeloeebfdodaaGreatDoorF07
import Derived.Test.YteaeloeebfdodaaGreatDoorF18
import Derived.Test.YteaeloeebfdodaaGreatDoorF05
import Derived.Test.YteaeloeebfdodaaGreatDoorF06
set_option linter.unusedVariables false
set_option linter.unusedSimpArgs false
/- long division, arithmetic -/
namespace Wh
theorem getD_set_ne (l : List Nat) {i j : Nat} (v : Nat) (h : i ≠ j) : (l.set i v).getD j 0 = l.getD j 0 := by
  simp [List.getD, List.getElem?_set_ne h]
theorem getD_set_eq (l : List Nat) {i : Nat} (v : Nat) (h : i < l.length) : (l.set i v).getD i 0 = v := by
  simp [List.getD, h]
theorem getD_replicate0 (n j : Nat) : (List.replicate n 0).getD j 0 = 0 := by
  rw [List.getD_eq_getElem?_getD, List.getElem?_replicate]
  split <;> rfl
/-- the value of n limbs from a place on -/
def win (L : List Nat) (p n : Nat) : Nat := sum (fun j => L.getD (p + j) 0) n
theorem win_succ (L : List Nat) (p n : Nat) : win L p (n + 1) = win L p n + R ^ n * L.getD (p + n) 0 := rfl
theorem win_congr {L M : List Nat} {p n : Nat} (h : ∀ j, p ≤ j → j < p + n → L.getD j 0 = M.getD j 0) : win L p n = win M p n :=
  sum_congr fun i hi => h (p + i) (by omega) (by omega)
theorem okD {l : List Nat} (h : Ok l) (i : Nat) : l.getD i 0 < R := by
  rw [List.getD_eq_getElem?_getD]
  cases e : l[i]? with
  | none => simp [R]
  | some x => exact h x (List.mem_of_getElem? e)
theorem win_lt {L : List Nat} (h : Ok L) (p n : Nat) : win L p n < R ^ n := sum_lt fun i _ => okD h (p + i)
theorem win_low (L : List Nat) (p n : Nat) : win L p (n + 1) = L.getD p 0 + R * win L (p + 1) n := by
  induction n with
  | zero => simp [win, sum]
  | succ n ih =>
    rw [win_succ, ih, win_succ, Nat.mul_add, Nat.add_assoc]
    congr 2
    rw [← Nat.mul_assoc, Nat.pow_succ, Nat.mul_comm (R ^ n) R, show p + (n + 1) = p + 1 + n by omega]
theorem win_all (L : List Nat) : win L 0 L.length = val L := by
  rw [val_sum]
  exact sum_congr fun i _ => by rw [Nat.zero_add]
theorem win_drop (L : List Nat) (p : Nat) : win L p (L.length - p) = val (L.drop p) := by
  rw [val_sum, List.length_drop]
  exact sum_congr fun i _ => by simp [List.getD, List.getElem?_drop]
theorem win_zero {L : List Nat} {p : Nat} (n k : Nat) (h : ∀ j, p + n ≤ j → L.getD j 0 = 0) : win L p (n + k) = win L p n := by
  induction k with
  | zero => rfl
  | succ k ih => rw [← Nat.add_assoc, win_succ, ih, h (p + (n + k)) (by omega), Nat.mul_zero, Nat.add_zero]
/-- rounds of takeTimes -/
structure TK (lr d : List Nat) (p q i : Nat) (L : List Nat) (on bor : Nat) : Prop where
  len : L.length = lr.length
  ok : Ok L
  on1 : on < R
  b1 : bor ≤ 1
  out : ∀ j, j < p ∨ p + i ≤ j → L.getD j 0 = lr.getD j 0
  eq : win L p i + q * sum (d.getD · 0) i = win lr p i + R ^ i * (on + bor)
theorem TK.start {lr : List Nat} (h : Ok lr) (d : List Nat) (p q : Nat) : TK lr d p q 0 lr 0 0 :=
  ⟨rfl, h, R_pos, by omega, fun _ _ => rfl, by simp [win, sum]⟩
theorem mul_carry {x q on : Nat} (hx : x < R) (hq : q < R) (ho : on < R) : (x * q + on) / R < R := by
  have : x * q ≤ (R - 1) * (R - 1) := Nat.mul_le_mul (by omega) (by omega)
  have e : (R - 1) * (R - 1) + (R - 1) < R * R := by decide
  rw [Nat.div_lt_iff_lt_mul R_pos]
  omega
theorem TK.next {lr d : List Nat} {p q i : Nat} {L : List Nat} {on bor : Nat} (h : TK lr d p q i L on bor) (hd : Ok d) (hq : q < R) (hi : p + i < lr.length) :
    TK lr d p q (i + 1) (L.set (p + i) (minusN (L.getD (p + i) 0) ((d.getD i 0 * q + on) % R) bor).1) ((d.getD i 0 * q + on) / R) (minusN (L.getD (p + i) 0) ((d.getD i 0 * q + on) % R) bor).2 := by
  have h1 := okD hd i
  have h2 := okD h.ok (p + i)
  have h3 := minus_step h2 (Nat.mod_lt (d.getD i 0 * q + on) R_pos) h.b1
  have hl : p + i < L.length := by rw [h.len]; exact hi
  have ho := h.out (p + i) (.inr (Nat.le_refl _))
  generalize (minusN (L.getD (p + i) 0) ((d.getD i 0 * q + on) % R) bor).1 = x at *
  generalize (minusN (L.getD (p + i) 0) ((d.getD i 0 * q + on) % R) bor).2 = b' at *
  refine ⟨by rw [List.length_set]; exact h.len, ok_set h.ok h3.1, mul_carry h1 hq h.on1, h3.2.1, fun j hj => by rw [getD_set_ne _ _ (by omega)]; exact h.out j (by omega), ?_⟩
  have e1 : win (L.set (p + i) x) p i = win L p i := win_congr fun j _ h5 => getD_set_ne _ _ (by omega)
  rw [win_succ, e1, getD_set_eq _ _ hl, win_succ, sum, ← ho, Nat.mul_add]
  have h4 := h.eq
  have h5 := Nat.mod_add_div (d.getD i 0 * q + on) R
  have h6 : R ^ (i + 1) * ((d.getD i 0 * q + on) / R + b') = R ^ i * (R * ((d.getD i 0 * q + on) / R)) + R ^ i * (R * b') := by
    rw [Nat.pow_succ, Nat.mul_assoc, Nat.mul_add, Nat.mul_add]
  have h7 : q * (R ^ i * d.getD i 0) = R ^ i * (d.getD i 0 * q) := by rw [Nat.mul_left_comm, Nat.mul_comm q]
  rw [h6, h7]
  have h8 : R ^ i * x + R ^ i * ((d.getD i 0 * q + on) % R) + R ^ i * bor = R ^ i * L.getD (p + i) 0 + R ^ i * (R * b') := by rw [← Nat.mul_add, ← Nat.mul_add, h3.2.2, Nat.mul_add]
  have h9 : R ^ i * ((d.getD i 0 * q + on) % R) + R ^ i * (R * ((d.getD i 0 * q + on) / R)) = R ^ i * (d.getD i 0 * q) + R ^ i * on := by rw [← Nat.mul_add, h5, Nat.mul_add]
  rw [Nat.mul_add] at h4
  omega
/-- what takeTimes and giveTimes leave -/
structure TE (lr : List Nat) (p m : Nat) (L : List Nat) : Prop where
  len : L.length = lr.length
  ok : Ok L
  out : ∀ j, j < p ∨ p + m < j → L.getD j 0 = lr.getD j 0
theorem TK.fin {lr d : List Nat} {p q : Nat} {L : List Nat} {on bor : Nat} (h : TK lr d p q d.length L on bor) (hi : p + d.length < lr.length) :
    TE lr p d.length (L.set (p + d.length) (minusN (L.getD (p + d.length) 0) on bor).1) ∧ (minusN (L.getD (p + d.length) 0) on bor).2 ≤ 1 ∧
    win (L.set (p + d.length) (minusN (L.getD (p + d.length) 0) on bor).1) p (d.length + 1) + q * val d = win lr p (d.length + 1) + R ^ (d.length + 1) * (minusN (L.getD (p + d.length) 0) on bor).2 := by
  have h2 := okD h.ok (p + d.length)
  have h3 := minus_step h2 h.on1 h.b1
  have hl : p + d.length < L.length := by rw [h.len]; exact hi
  have ho := h.out (p + d.length) (.inr (Nat.le_refl _))
  generalize (minusN (L.getD (p + d.length) 0) on bor).1 = x at *
  generalize (minusN (L.getD (p + d.length) 0) on bor).2 = b' at *
  refine ⟨⟨by rw [List.length_set]; exact h.len, ok_set h.ok h3.1, fun j hj => by rw [getD_set_ne _ _ (by omega)]; exact h.out j (by omega)⟩, h3.2.1, ?_⟩
  have e1 : win (L.set (p + d.length) x) p d.length = win L p d.length := win_congr fun j _ h5 => getD_set_ne _ _ (by omega)
  rw [win_succ, e1, getD_set_eq _ _ hl, win_succ, ← ho, val_sum, Nat.pow_succ, Nat.mul_assoc]
  have h4 := h.eq
  have h8 : R ^ d.length * x + R ^ d.length * on + R ^ d.length * bor = R ^ d.length * L.getD (p + d.length) 0 + R ^ d.length * (R * b') := by rw [← Nat.mul_add, ← Nat.mul_add, h3.2.2, Nat.mul_add]
  rw [Nat.mul_add] at h4
  omega
/-- rounds of giveTimes -/
structure GK (lr d : List Nat) (p q i : Nat) (L : List Nat) (on car : Nat) : Prop where
  len : L.length = lr.length
  ok : Ok L
  on1 : on < R
  b1 : car ≤ 1
  out : ∀ j, j < p ∨ p + i ≤ j → L.getD j 0 = lr.getD j 0
  eq : win L p i + R ^ i * (on + car) = win lr p i + q * sum (d.getD · 0) i
theorem GK.start {lr : List Nat} (h : Ok lr) (d : List Nat) (p q : Nat) : GK lr d p q 0 lr 0 0 :=
  ⟨rfl, h, R_pos, by omega, fun _ _ => rfl, by simp [win, sum]⟩
theorem GK.next {lr d : List Nat} {p q i : Nat} {L : List Nat} {on car : Nat} (h : GK lr d p q i L on car) (hd : Ok d) (hq : q < R) (hi : p + i < lr.length) :
    GK lr d p q (i + 1) (L.set (p + i) (plusN (L.getD (p + i) 0) ((d.getD i 0 * q + on) % R) car).1) ((d.getD i 0 * q + on) / R) (plusN (L.getD (p + i) 0) ((d.getD i 0 * q + on) % R) car).2 := by
  have h1 := okD hd i
  have h2 := okD h.ok (p + i)
  have h3 := plus_step h2 (Nat.mod_lt (d.getD i 0 * q + on) R_pos) h.b1
  have hl : p + i < L.length := by rw [h.len]; exact hi
  have ho := h.out (p + i) (.inr (Nat.le_refl _))
  generalize (plusN (L.getD (p + i) 0) ((d.getD i 0 * q + on) % R) car).1 = x at *
  generalize (plusN (L.getD (p + i) 0) ((d.getD i 0 * q + on) % R) car).2 = b' at *
  refine ⟨by rw [List.length_set]; exact h.len, ok_set h.ok h3.1, mul_carry h1 hq h.on1, h3.2.1, fun j hj => by rw [getD_set_ne _ _ (by omega)]; exact h.out j (by omega), ?_⟩
  have e1 : win (L.set (p + i) x) p i = win L p i := win_congr fun j _ h5 => getD_set_ne _ _ (by omega)
  rw [win_succ, e1, getD_set_eq _ _ hl, win_succ, sum, ← ho, Nat.mul_add q]
  have h4 := h.eq
  have h5 := Nat.mod_add_div (d.getD i 0 * q + on) R
  have h6 : R ^ (i + 1) * ((d.getD i 0 * q + on) / R + b') = R ^ i * (R * ((d.getD i 0 * q + on) / R)) + R ^ i * (R * b') := by
    rw [Nat.pow_succ, Nat.mul_assoc, Nat.mul_add, Nat.mul_add]
  have h7 : q * (R ^ i * d.getD i 0) = R ^ i * (d.getD i 0 * q) := by rw [Nat.mul_left_comm, Nat.mul_comm q]
  rw [h6, h7]
  have h8 : R ^ i * x + R ^ i * (R * b') = R ^ i * L.getD (p + i) 0 + R ^ i * ((d.getD i 0 * q + on) % R) + R ^ i * car := by rw [← Nat.mul_add, h3.2.2, Nat.mul_add, Nat.mul_add]
  have h9 : R ^ i * ((d.getD i 0 * q + on) % R) + R ^ i * (R * ((d.getD i 0 * q + on) / R)) = R ^ i * (d.getD i 0 * q) + R ^ i * on := by rw [← Nat.mul_add, h5, Nat.mul_add]
  rw [Nat.mul_add] at h4
  omega
theorem GK.fin {lr d : List Nat} {p q : Nat} {L : List Nat} {on car : Nat} (h : GK lr d p q d.length L on car) (hi : p + d.length < lr.length) :
    TE lr p d.length (L.set (p + d.length) (plusN (L.getD (p + d.length) 0) on car).1) ∧ (plusN (L.getD (p + d.length) 0) on car).2 ≤ 1 ∧
    win (L.set (p + d.length) (plusN (L.getD (p + d.length) 0) on car).1) p (d.length + 1) + R ^ (d.length + 1) * (plusN (L.getD (p + d.length) 0) on car).2 = win lr p (d.length + 1) + q * val d := by
  have h2 := okD h.ok (p + d.length)
  have h3 := plus_step h2 h.on1 h.b1
  have hl : p + d.length < L.length := by rw [h.len]; exact hi
  have ho := h.out (p + d.length) (.inr (Nat.le_refl _))
  generalize (plusN (L.getD (p + d.length) 0) on car).1 = x at *
  generalize (plusN (L.getD (p + d.length) 0) on car).2 = b' at *
  refine ⟨⟨by rw [List.length_set]; exact h.len, ok_set h.ok h3.1, fun j hj => by rw [getD_set_ne _ _ (by omega)]; exact h.out j (by omega)⟩, h3.2.1, ?_⟩
  have e1 : win (L.set (p + d.length) x) p d.length = win L p d.length := win_congr fun j _ h5 => getD_set_ne _ _ (by omega)
  rw [win_succ, e1, getD_set_eq _ _ hl, win_succ, ← ho, val_sum, Nat.pow_succ, Nat.mul_assoc]
  have h4 := h.eq
  have h8 : R ^ d.length * x + R ^ d.length * (R * b') = R ^ d.length * L.getD (p + d.length) 0 + R ^ d.length * on + R ^ d.length * car := by rw [← Nat.mul_add, h3.2.2, Nat.mul_add, Nat.mul_add]
  rw [Nat.mul_add] at h4
  omega
theorem TE.trans {lr L M : List Nat} {p m : Nat} (h : TE lr p m L) (k : TE L p m M) : TE lr p m M :=
  ⟨k.len.trans h.len, k.ok, fun j hj => (k.out j hj).trans (h.out j hj)⟩
/-- what taking and giving do to the window, as words of their own: the kernel then never unfolds a power of R -/
structure TkEq (lr L : List Nat) (p m q D b : Nat) : Prop where
  eq : win L p (m + 1) + q * D = win lr p (m + 1) + R ^ (m + 1) * b
structure GvEq (lr L : List Nat) (p m q D b : Nat) : Prop where
  eq : win L p (m + 1) + R ^ (m + 1) * b = win lr p (m + 1) + q * D
theorem TkEq.zero {lr L : List Nat} {p m q D : Nat} (h : TkEq lr L p m q D 0) : win L p (m + 1) + q * D = win lr p (m + 1) := by
  have := h.eq
  rwa [Nat.mul_zero, Nat.add_zero] at this
/-- a guess that is too great: given back, the window is as before -/
theorem give_back {x y w q D m b c : Nat} (hb : b ≤ 1) (_hc : c ≤ 1) (h0 : b ≠ 0) (h1 : x + q * D = w + R ^ m * b) (h2 : y + R ^ m * c = x + q * D) (hy : y < R ^ m) (hx : x < R ^ m) : y = w ∧ w / D ≤ q - 1 ∧ 0 < q := by
  have hb1 : b = 1 := by omega
  subst hb1
  have hD : w < q * D := by omega
  have hc1 : c = 1 := by
    rcases Nat.lt_or_ge c 1 with h | h
    · have : c = 0 := by omega
      subst this
      omega
    · omega
  subst hc1
  have hq : w / D < q := Nat.div_lt_of_lt_mul (by rw [Nat.mul_comm]; exact hD)
  generalize w / D = t at *
  exact ⟨by omega, by omega, by omega⟩
/-- a guess that serves -/
theorem take_right {x w q D : Nat} (h1 : x + q * D = w) (hq : w / D ≤ q) (hD : 0 < D) : q = w / D ∧ x = w % D := by
  have h2 : q ≤ w / D := (Nat.le_div_iff_mul_le hD).2 (by omega)
  have h3 : q = w / D := by omega
  have := Nat.div_add_mod w D
  rw [Nat.mul_comm, ← h3] at this
  exact ⟨h3, by omega⟩
/-- the whole division -/
structure DV (A0 : List Nat) (m D p : Nat) (L Q : List Nat) : Prop where
  len : L.length = A0.length
  ok : Ok L
  qlen : Q.length + m = A0.length
  qok : Ok Q
  qlow : ∀ j, j < p → Q.getD j 0 = 0
  low : ∀ j, j < p → L.getD j 0 = A0.getD j 0
  high : ∀ j, p + m ≤ j → L.getD j 0 = 0
  lt : win L p m < D
  eq : val (A0.drop p) = val (Q.drop p) * D + win L p m
theorem DV.start {A0 : List Nat} {m D : Nat} (hA : Ok A0) (hm : m ≤ A0.length) (hlt : win A0 (A0.length - m) m < D) : DV A0 m D (A0.length - m) A0 (List.replicate (A0.length - m) 0) := by
  refine ⟨rfl, hA, by rw [List.length_replicate]; omega, ok_replicate _, fun j _ => getD_replicate0 _ _, fun _ _ => rfl, fun j hj => by simp [List.getD, show A0.length ≤ j by omega], hlt, ?_⟩
  have := win_drop A0 (A0.length - m)
  rw [show A0.length - (A0.length - m) = m by omega] at this
  have hd : (List.replicate (A0.length - m) 0).drop (A0.length - m) = ([] : List Nat) := List.drop_eq_nil_of_le (by rw [List.length_replicate]; exact Nat.le_refl _)
  rw [this, hd]
  simp [val]
/-- the part of a round -/
theorem DV.part {A0 : List Nat} {m D p : Nat} {L Q : List Nat} (h : DV A0 m D (p + 1) L Q) : win L p (m + 1) < R * D ∧ win L p (m + 1) = A0.getD p 0 + R * win L (p + 1) m := by
  have e := win_low L p m
  have h1 := h.low p (by omega)
  have h2 := okD h.ok p
  have h3 := h.lt
  have h4 : R * (win L (p + 1) m + 1) ≤ R * D := Nat.mul_le_mul_left _ h3
  rw [Nat.mul_add, Nat.mul_one] at h4
  exact ⟨by omega, by rw [e, h1]⟩
theorem val_drop0 (l : List Nat) (n : Nat) : val (l.drop n) = l.getD n 0 + R * val (l.drop (n + 1)) := by
  rcases Nat.lt_or_ge n l.length with h | h
  · rw [List.drop_eq_getElem_cons h, val]; simp [List.getD, h]
  · rw [List.drop_eq_nil_of_le (by omega), List.drop_eq_nil_of_le (by omega)]
    simp [val, List.getD, h]
theorem DV.next {A0 : List Nat} {m D p : Nat} {L Q M : List Nat} (h : DV A0 m D (p + 1) L Q) (hp : p + m < A0.length) (hDm : D ≤ R ^ m) (hE : TE L p m M) (hv : win M p (m + 1) = win L p (m + 1) % D) :
    DV A0 m D p M (Q.set p (win L p (m + 1) / D)) := by
  obtain ⟨h1, h2⟩ := h.part
  have hD : 0 < D := by have := h.lt; omega
  have hq : win L p (m + 1) / D < R := Nat.div_lt_of_lt_mul (by rw [Nat.mul_comm]; exact h1)
  have hql : p < Q.length := by have := h.qlen; omega
  have hr : win M p (m + 1) < D := by rw [hv]; exact Nat.mod_lt _ hD
  have htop : M.getD (p + m) 0 = 0 := by
    rw [win_succ] at hr
    rcases Nat.eq_zero_or_pos (M.getD (p + m) 0) with h0 | h0
    · exact h0
    · have : R ^ m * 1 ≤ R ^ m * M.getD (p + m) 0 := Nat.mul_le_mul_left _ h0
      omega
  have hw : win M p m = win L p (m + 1) % D := by rw [← hv, win_succ, htop]; omega
  refine ⟨hE.len.trans h.len, hE.ok, by rw [List.length_set]; exact h.qlen, ok_set h.qok hq, fun j hj => by rw [getD_set_ne _ _ (by omega)]; exact h.qlow j (by omega), fun j hj => by rw [hE.out j (.inl hj)]; exact h.low j (by omega), fun j hj => ?_, by rw [hw]; exact Nat.mod_lt _ hD, ?_⟩
  · rcases Nat.lt_or_ge (p + m) j with h3 | h3
    · rw [hE.out j (.inr h3)]; exact h.high j (by omega)
    · rw [show j = p + m by omega]; exact htop
  · have e1 : (Q.set p (win L p (m + 1) / D)).drop (p + 1) = Q.drop (p + 1) := List.drop_set_of_lt (by omega)
    rw [val_drop0 A0 p, val_drop0 _ p, e1, getD_set_eq _ _ hql, h.eq, hw, Nat.add_mul]
    have h5 := Nat.div_add_mod (win L p (m + 1)) D
    rw [Nat.mul_comm] at h5
    rw [Nat.mul_add, Nat.mul_assoc]
    omega
theorem DV.fin {A0 : List Nat} {m D : Nat} {L Q : List Nat} (h : DV A0 m D 0 L Q) : val Q = val A0 / D ∧ val L = val A0 % D := by
  have h1 := h.eq
  have hl : val L = win L 0 m := by
    have e := h.qlen
    have := win_zero (L := L) (p := 0) m (L.length - m) (fun j hj => h.high j hj)
    have hl := h.len
    rw [show m + (L.length - m) = L.length by omega, win_all] at this
    exact this
  rw [← hl] at h1
  have hlt := h.lt
  rw [← hl] at hlt
  simp only [List.drop_zero] at h1
  rw [h1]
  have hD : 0 < D := by omega
  constructor
  · rw [Nat.mul_comm, Nat.mul_add_div hD, Nat.div_eq_of_lt hlt, Nat.add_zero]
  · rw [Nat.mul_comm, Nat.mul_add_mod, Nat.mod_eq_of_lt hlt]
/-- the guess: digit and rest of it -/
structure GU (P D high first digit rest : Nat) : Prop where
  eq : digit * first + rest = high
  ge : P / D ≤ digit
theorem GU.down {P D high first second p2 k digit rest : Nat} (h : GU P D high first digit rest) (hP : P < (high * R + p2 + 1) * R ^ k) (hd : (first * R + second) * R ^ k ≤ D) (hlt : P / D < R)
    (hc : R ≤ digit ∨ rest * R + p2 < digit * second) : GU P D high first (digit - 1) (rest + first) ∧ 0 < digit := by
  have h1 : P / D < digit := by
    rcases hc with hc | hc
    · omega
    · refine Nat.div_lt_of_lt_mul ?_
      have e : digit * (first * R + second) = digit * first * R + digit * second := by rw [Nat.mul_add, Nat.mul_assoc]
      have h2 : high * R + p2 + 1 ≤ digit * (first * R + second) := by rw [e, ← h.eq, Nat.add_mul]; omega
      have h3 : (high * R + p2 + 1) * R ^ k ≤ digit * ((first * R + second) * R ^ k) := by rw [← Nat.mul_assoc]; exact Nat.mul_le_mul_right _ h2
      have h4 : digit * ((first * R + second) * R ^ k) ≤ digit * D := Nat.mul_le_mul_left _ hd
      rw [Nat.mul_comm D]
      omega
  have he := h.eq
  obtain ⟨t, rfl⟩ : ∃ t, digit = t + 1 := ⟨digit - 1, by generalize P / D = z at *; omega⟩
  rw [Nat.add_mul, Nat.one_mul] at he
  rw [Nat.add_sub_cancel]
  generalize hz : P / D = z at *
  exact ⟨⟨by omega, by omega⟩, by omega⟩
theorem GU.end' {P D high first digit rest top t1 : Nat} (h : GU P D high first digit rest) (hh : high = top * R + t1) (ht : top ≤ first) (h1 : t1 < R) (hc : R ≤ rest) : digit < R := by
  rcases Nat.lt_or_ge digit R with h2 | h2
  · exact h2
  · exfalso
    have h3 : R * first ≤ digit * first := Nat.mul_le_mul_right _ h2
    have h4 : top * R ≤ first * R := Nat.mul_le_mul_right _ ht
    have := h.eq
    rw [Nat.mul_comm R first] at h3
    omega
end Wh

/- WALKS, the number of digits in a base 1: arithmetic; times; appendDigits. -/
namespace Go.Proofs.YteaeloeebfdodaaGreatDoor
open Go.RowKit Go.Proofs.Rf
def numB (b : Nat) (l : List UInt8) : Nat := l.foldl (fun a c => a * b + dval c.toNat) 0
theorem numB_snoc (b : Nat) (l : List UInt8) (c : UInt8) : numB b (l ++ [c]) = numB b l * b + dval c.toNat := by simp [numB]
theorem numB_take_succ (b : Nat) (l : List UInt8) (k : Nat) (h : k < l.length) : numB b (l.take (k + 1)) = numB b (l.take k) * b + dval (l.getD k 0).toNat := by
  rw [List.take_add_one, List.getElem?_eq_getElem h, Option.toList_some, numB_snoc]
  simp [List.getD, h]
theorem numB_lt {b : Nat} {l : List UInt8} (h : ∀ i, i < l.length → dval (l.getD i 0).toNat < b) : ∀ k, k ≤ l.length → numB b (l.take k) < b ^ k := by
  intro k
  induction k with
  | zero => intro _; simp [numB]
  | succ k ih =>
    intro hk
    rw [numB_take_succ b l k hk, Nat.pow_succ]
    have h1 := ih (by omega)
    have h2 := h k hk
    have h3 : (numB b (l.take k) + 1) * b ≤ b ^ k * b := Nat.mul_le_mul_right b h1
    rw [Nat.add_mul, Nat.one_mul] at h3
    omega
set_option maxHeartbeats 400000 in
theorem times_any (w : World) (a b c : Nat) (ha : a < 1000000000) (hb : b ≤ 1000000000) (hc : c < 1000000000) :
    Calls Tryz.prog 270 #[.int .u32 a, .int .u32 b, .int .u32 c] w fun e w' => e = .returned (.tuple #[.int .u32 ((a * b + c) % 1000000000 : Nat), .int .u32 ((a * b + c) / 1000000000 : Nat)]) ∧ w = w' := by
  have hab : a * b ≤ 999999999 * 1000000000 := Nat.mul_le_mul (by omega) hb
  have hcast : ((a * b : Nat) : Int) = (a : Int) * (b : Int) := by simp
  go_enter Tryz.func270, Tryz.ntmps270
  go_wp2
  have e1 : (((a * b + c) % 1000000000 : Nat) : Int) = ((a : Int) * (b : Int) + (c : Int)) % 1000000000 := by simp
  have e2 : (((a * b + c) / 1000000000 : Nat) : Int) = ((a : Int) * (b : Int) + (c : Int)) / 1000000000 := by simp
  rw [e1, e2]
  go_ret2
  exact ⟨rfl, rfl⟩
/-- what the second loop keeps: j limbs are done, cc is carried on -/
structure MS (u c : Nat) (l : List Nat) (j cc : Nat) (l' : List Nat) : Prop where
  len : l'.length = l.length
  ok : Wh.Ok l'
  rest : ∀ i, j ≤ i → l'.getD i 0 = l.getD i 0
  val : Wh.val (l'.take j) + Wh.R ^ j * cc = Wh.val (l.take j) * u + c
  car : cc < 1000000000
theorem MS.start {u c : Nat} {l : List Nat} (ho : Wh.Ok l) (hc : c < 1000000000) : MS u c l 0 c l := ⟨rfl, ho, fun _ _ => rfl, by simp [Wh.val], hc⟩
theorem MS.step {u c : Nat} {l : List Nat} {j cc : Nat} {l' : List Nat} (h : MS u c l j cc l') (hj : j < l.length) (hu : u ≤ 1000000000) (hx : l.getD j 0 < 1000000000) :
    MS u c l (j + 1) ((l.getD j 0 * u + cc) / 1000000000) (l'.set j ((l.getD j 0 * u + cc) % 1000000000)) := by
  have hj' : j < l'.length := by rw [h.len]; exact hj
  refine ⟨by rw [List.length_set]; exact h.len, Wh.ok_set h.ok (Nat.mod_lt _ (by decide)), fun i hi => ?_, ?_, ?_⟩
  · have := h.rest i (by omega)
    simp only [List.getD] at this ⊢
    rw [List.getElem?_set_ne (by omega)]; exact this
  · rw [Wh.take_snoc _ j (by rw [List.length_set]; exact hj'), Wh.val_snoc, Wh.take_snoc l j hj, Wh.val_snoc]
    have e1 : (l'.set j ((l.getD j 0 * u + cc) % 1000000000)).take j = l'.take j := by rw [List.take_set_of_le (Nat.le_refl j)]
    have e2 : (l'.set j ((l.getD j 0 * u + cc) % 1000000000)).getD j 0 = (l.getD j 0 * u + cc) % 1000000000 := by simp [List.getD, hj']
    rw [e1, e2, List.length_take, List.length_take, Nat.min_eq_left (by omega), Nat.min_eq_left (by omega), Nat.pow_succ]
    have hv := h.val
    have hd := Nat.div_add_mod (l.getD j 0 * u + cc) 1000000000
    have h1 : Wh.R ^ j * ((l.getD j 0 * u + cc) % 1000000000) + Wh.R ^ j * Wh.R * ((l.getD j 0 * u + cc) / 1000000000) = Wh.R ^ j * (l.getD j 0 * u + cc) := by
      rw [Nat.mul_assoc, ← Nat.mul_add, Wh.R_eq]
      congr 1
      omega
    rw [Nat.add_assoc, h1, Nat.mul_add, Nat.add_mul, Nat.mul_assoc]
    omega
  · have : l.getD j 0 * u ≤ 999999999 * 1000000000 := Nat.mul_le_mul (by omega) hu
    have := h.car
    omega
theorem MS.fin {u c : Nat} {l : List Nat} {cc : Nat} {l' : List Nat} (h : MS u c l l.length cc l') : Wh.val l' + Wh.R ^ l'.length * cc = Wh.val l * u + c := by
  have := h.val
  rw [List.take_length, ← h.len, List.take_length] at this
  exact this
abbrev u32s (l : List Nat) : List Value := l.map fun x : Nat => Value.int .u32 (x : Int)
theorem ownsRow_set {W : World} {base n k g c : Nat} {e : TypeId} {xs : List Value} (h : W.ownsRow base e 1 (.slice (some ⟨g, 0, none⟩) n c) n xs) (hk : k < n) (v : Value) :
    (W.setCell ⟨g, k, none⟩ v).ownsRow base e 1 (.slice (some ⟨g, 0, none⟩) n c) n (xs.set k v) ∧ W.frozen? ⟨g, k, none⟩ = false ∧ base ≤ g := by
  rcases h.2 with ⟨h1, _⟩ | ⟨g', cap, cur, h1, h2, h3, h4, h5, h6, h7⟩
  · cases h1
  · cases h1
    have hkc : k < cur.size := by omega
    refine ⟨⟨by rw [List.length_set]; exact h.1, .inr ⟨g, c, cur.setIfInBounds k v, rfl, h2, ?_, h4, h5, by simpa using h6, ?_⟩⟩, ?_, h2⟩
    · simp [World.setCell, Array.getElem?_modify, h3]
    · rw [← h7]
      simp [List.take_set]
    · simp [World.frozen?, h3]
theorem own_sl {W : World} {base n size : Nat} {e : TypeId} {v : Value} {xs : List Value} (h : W.ownsRow base e size v n xs) : ∃ a c, v = .slice a n c := by
  rcases h.2 with ⟨rfl, rfl⟩ | ⟨g, cap, cur, rfl, _⟩
  · exact ⟨_, _, rfl⟩
  · exact ⟨_, _, rfl⟩
theorem infoL : ∃ i, Tryz.prog.info? 181 = some i ∧ i.zero = some (.int .u32 0) ∧ i.size = 1 ∧ i.bytes = 4 := by
  have h : (Tryz.prog.info? 181).map (fun i => (i.zero, i.size, i.bytes)) = some (some (.int .u32 0), 1, 4) := by kernel_rfl
  cases hi : Tryz.prog.info? 181 with
  | none => rw [hi] at h; cases h
  | some i => rw [hi] at h; simp at h; exact ⟨i, rfl, h.1, h.2.1, h.2.2⟩
set_option maxRecDepth 100000 in
set_option maxHeartbeats 1000000 in
theorem appendDigits_any (w : World) (B b : Nat) (v : Value) (l : List Nat) (p : List UInt8) (hown : w.ownsRow B 181 1 v l.length (u32s l)) (hok : Wh.Ok l) (hl : l.length ≤ 10000) (hb : 2 ≤ b ∧ b ≤ 36) (hp : Digs b p) (hpl : p.length ≤ togN b) (hB : B ≤ w.heap.size) :
    Calls Tryz.prog 206 #[v, .string (str p), .int .u32 b] w fun e w' => (∃ v' l', e = .returned v' ∧ w'.ownsRow B 181 1 v' l'.length (u32s l') ∧ Wh.Ok l' ∧ Wh.val l' = Wh.val l * b ^ p.length + numB b p ∧ l'.length ≤ l.length + 1) ∧ Below B w w' := by
  have hdg : ∀ i, i < p.length → dval (p.getD i 0).toNat < b := fun i hi => (hp.at hi).2
  have hlim : ∀ k, k ≤ p.length → numB b (p.take k) < b ^ k ∧ b ^ k ≤ 1000000000 := fun k hk => ⟨numB_lt hdg k hk, Nat.le_trans (Nat.pow_le_pow_right (by omega) (by omega)) (pow_tog b hb.2)⟩
  have HLIM := Lib.hid hlim; clear hlim hdg
  have HP := Lib.hid hp; clear hp
  have HOWN := Lib.hid hown; clear hown
  have HOK := Lib.hid hok; clear hok
  have hsz : (str p).size = p.length := rfl
  have HSZ := Lib.hid hsz; clear hsz
  have hsm : (str p).size ≤ 9 := Nat.le_trans hpl (tog_le b)
  clear hpl
  obtain ⟨sa, sc, rfl⟩ := own_sl HOWN.out
  go_enter Tryz.func206, Tryz.ntmps206
  go_wp2_with fail
  go_loopw [7, 8] (fun u o wr => ∃ pos : Nat, pos ≤ (str p).size ∧ u = .int .u32 (b ^ pos : Nat) ∧ o = .int .u32 (numB b (p.take pos) : Nat) ∧ wr = w.iter (str p) pos) (fun _ _ wr => (str p).size - wr.iterPos w.heap.size)
  case atStart => exact ⟨0, Nat.zero_le _, rfl, rfl, rfl⟩
  case round =>
    obtain ⟨pos, hpos, rfl, rfl, rfl⟩ := hrel
    by_cases hlt : pos < (str p).size
    · obtain ⟨hc1, hc2⟩ := HP.out.at (i := pos) (by rw [← HSZ.out]; exact hlt)
      have hdec := decode_at p pos (by rw [← HSZ.out]; exact hlt) hc1
      have hnx : ∀ ty, (Instr.next (.pointer (some ⟨w.heap.size, 0, none⟩)) true ty).run Tryz.prog (w.iter (str p) pos) = .ok (.tuple #[.bool true, .int .i64 pos, .int .i32 ((p.getD pos 0).toNat : Nat)]) (w.iter (str p) (pos + 1)) := fun ty => by
        rw [run_next_any w (str p) pos ty hlt, hdec]
      clear hdec
      have e1 := numB_take_succ b p pos (by rw [← HSZ.out]; exact hlt)
      have e2 := HLIM.out (pos + 1) (by rw [← HSZ.out]; exact hlt)
      have e3 : b ^ (pos + 1) = b ^ pos * b := Nat.pow_succ ..
      rw [e1, e3] at e2
      have HE1 := Lib.hid e1; have HE3 := Lib.hid e3
      clear e1 e3
      generalize (p.getD pos 0).toNat = c at *
      generalize b ^ pos = U at *
      generalize numB b (p.take pos) = V at *
      have hcu : ((U * b : Nat) : Int) = (U : Int) * (b : Int) := by simp
      have hcv : ((V * b : Nat) : Int) = (V : Int) * (b : Int) := by simp
      have HE2 := Lib.hid e2; clear e2
      go_wp2_with fail
      refine (digitOf_any c hc1 _).mono ?_
      rintro e w' ⟨rfl, rfl⟩
      go_wp2_with fail
      go_roundw
      case rel =>
        have h2 := HE2.out
        exact ⟨pos + 1, by omega, by rw [HE3.out]; congr 1; omega, by rw [HE1.out]; congr 1; omega, rfl⟩
      case measure => simp; omega
    · have hnx : ∀ ty, (Instr.next (.pointer (some ⟨w.heap.size, 0, none⟩)) true ty).run Tryz.prog (w.iter (str p) pos) = _ := fun ty => run_next_end w (str p) pos ty hlt
      have hpe : pos = p.length := by rw [← HSZ.out]; omega
      subst hpe
      have hpw := HLIM.out p.length (Nat.le_refl _)
      rw [List.take_length] at hpw ⊢
      have hB1 : Below w.heap.size w (w.iter (str p) p.length) := (Below.refl _ _).alloc (Nat.le_refl _) _
      have hO1 : (w.iter (str p) p.length).ownsRow B 181 1 (.slice sa l.length sc) l.length (u32s l) := ownsRow_onlyS HOWN.out (OnlyS.of_below (S := fun _ => False) hB1) (fun _ _ h => h)
      have hu : b ^ p.length ≤ 1000000000 := hpw.2
      have hc0 : numB b p < 1000000000 := Nat.lt_of_lt_of_le hpw.1 hpw.2
      clear hpw HLIM HP HOWN
      generalize hUU : b ^ p.length = U at *
      generalize hCC : numB b p = c0 at *
      have HUU := Lib.hid hUU; clear hUU
      have HCC := Lib.hid hCC; clear hCC
      have HM := Lib.hid (MS.start (u := U) HOK.out hc0)
      generalize hn : l.length = n at *
      have HLN := Lib.hid hn; clear hn
      have HO1 := Lib.hid hO1; have HB1 := Lib.hid (hB1.mono hB); clear hO1 hB1
      go_wp2_with fail
      go_loopw [8, 30] (fun cv i wr => ∃ j cc : Nat, ∃ l' : List Nat, j ≤ n ∧ cv = .int .u32 cc ∧ i = .int .i64 j ∧ Hid (MS U c0 l j cc l' ∧ wr.ownsRow B 181 1 (.slice sa n sc) n (u32s l') ∧ Below B w wr)) (fun _ i _ => n - (intOf i).toNat)
      case atStart => exact ⟨0, c0, l, Nat.zero_le _, rfl, rfl, Lib.hid ⟨HM.out, HO1.out, HB1.out⟩⟩
      case round =>
        obtain ⟨j, cc, l', hj, rfl, rfl, HI⟩ := hrel
        by_cases hlt2 : j < n
        · have hd : decide ((j : Int) < (n : Nat)) = true := by rw [decide_eq_true_iff]; omega
          obtain ⟨g, c2, hsl, hgl, hcell⟩ := own_cells HI.out.2.1 (by omega)
          simp only [Value.slice.injEq] at hsl
          obtain ⟨rfl, _, rfl⟩ := hsl
          have hlen : l'.length = n := by rw [HI.out.1.len, HLN.out]
          have hx := hcell j hlt2
          rw [List.getElem?_map, List.getElem?_eq_getElem (by omega)] at hx
          have hgd : l'[j]'(by omega) = l.getD j 0 := by rw [← HI.out.1.rest j (Nat.le_refl j)]; simp [List.getD, show j < l'.length by omega]
          rw [hgd] at hx
          have hx' : wr.cell? ⟨g, j, none⟩ = some (.int .u32 (l.getD j 0 : Nat)) := hx
          clear hx hcell hgd
          have hlx := Wh.getD_lt HOK.out j
          rw [Wh.R_eq] at hlx
          have HST := Lib.hid (HI.out.1.step (by rw [HLN.out]; exact hlt2) hu hlx)
          obtain ⟨ho2, hfz, hBg⟩ := ownsRow_set HI.out.2.1 hlt2 (.int .u32 ((l.getD j 0 * U + cc) % 1000000000 : Nat))
          have HO2 := Lib.hid ho2; clear ho2
          have hcc := HI.out.1.car
          have HT := Lib.hid fun w => times_any w (l.getD j 0) U cc hlx hu hcc
          generalize l.getD j 0 = x at *
          go_wp2_with fail
          refine (HT.out _).mono ?_
          rintro e w5 ⟨rfl, rfl⟩
          go_wp2_with fail
          have e1 : (((x * U + cc) % 1000000000 : Nat) : Int) = ((x : Int) * (U : Int) + (cc : Int)) % 1000000000 := by simp
          have e2 : (((x * U + cc) / 1000000000 : Nat) : Int) = ((x : Int) * (U : Int) + (cc : Int)) / 1000000000 := by simp
          rw [← e1, ← e2]
          go_roundw
          case rel => exact ⟨j + 1, _, _, by omega, rfl, by simp, Lib.hid ⟨HST.out, by rw [u32s, List.map_set]; exact HO2.out, HI.out.2.2.setCell hBg _⟩⟩
          case measure => simp [intOf]; omega
        · have hd : decide ((j : Int) < (n : Nat)) = false := by rw [decide_eq_false_iff_not]; omega
          have hjn : j = l.length := by rw [HLN.out]; omega
          obtain ⟨hm, ho, hbw⟩ := HI.out
          rw [hjn] at hm
          have hcc := hm.car
          have hv := hm.fin
          have hlen : l'.length = n := by rw [hm.len, HLN.out]
          have hok' := hm.ok
          have HR := Lib.hid (And.intro ho (And.intro hbw (And.intro hv (And.intro hlen hok'))))
          clear hm ho hbw hv hok' HI HM HO1 HB1
          by_cases h0 : cc = 0
          · subst h0
            go_wp2
            go_ret
            obtain ⟨ho, hbw, hv, _, hok'⟩ := HR.out
            exact ⟨⟨_, l', rfl, by rw [hlen]; exact ho, hok', by rw [HUU.out, HCC.out, ← hv, Nat.mul_zero, Nat.add_zero], by omega⟩, hbw⟩
          · have hz : ((cc : Int) == 0) = false := by rw [beq_eq_false_iff_ne]; omega
            have hal : Below wr.heap.size wr (wr.alloc (Obj.cells #[.int .u32 cc] 181)) := (Below.refl _ _).alloc (Nat.le_refl _) _
            have hownA : (wr.alloc (Obj.cells #[.int .u32 cc] 181)).ownsRow B 181 1 (.slice sa n sc) n (u32s l') := ownsRow_onlyS HR.out.1 (OnlyS.of_below (S := fun _ => False) hal) (fun _ _ h => h)
            obtain ⟨inf, i1, i2, i3, i4⟩ := infoL
            have hcellA : ∀ (j : Nat) (u : Value), [Value.int .u32 (cc : Int)][j]? = some u → (wr.alloc (Obj.cells #[.int .u32 cc] 181)).cell? ((⟨wr.heap.size, 0, none⟩ : Addr).add j) = some u := by
              intro j u hj
              cases j with
              | zero => cases hj; show (wr.alloc (Obj.cells #[.int .u32 cc] 181)).cell? ⟨wr.heap.size, 0, none⟩ = _; go_simp
              | succ j => cases j <;> cases hj
            have hzA : B ≤ (wr.alloc (Obj.cells #[.int .u32 cc] 181)).heap.size := Nat.le_trans (Nat.le_trans hB HR.out.2.1.size) hal.size
            have hone : ∀ u ∈ [Value.int .u32 (cc : Int)], u.oneCell' = true := by intro u hu; rw [List.mem_singleton.1 hu]; rfl
            have hmx : n + 1 ≤ maxLen := by simp only [maxLen]; omega
            have hbt : (n + 1) * 4 ≤ 140737488355328 := by omega
            go_wp2_with (at_builtin; refine wpList_append_own _ rfl _ _ 81 rfl B 181 inf (.int .u32 0) 1 4 Tryz.underlying81 i1 i2 i3 i4 rfl (by decide) (.slice sa n sc) n _ rfl hownA ⟨wr.heap.size, 0, none⟩ 1 1 [Value.int .u32 (cc : Int)] rfl rfl hcellA hone hmx hbt hzA ?_)
            intro v' W3 ho3 hg3 hnil
            clear hnil hone hmx hbt
            have hgo := grownBy_onlyS hg3
            have hb3 : Below B w W3 := (HR.out.2.1.trans (hal.mono (Nat.le_trans hB HR.out.2.1.size))).trans (hgo.below (B := B) (fun k hk => ownBlock_ge hownA hk) hzA)
            have HP3 : Hid (W3.ownsRow B 181 1 v' (n + 1) (u32s (l' ++ [cc])) ∧ Below B w W3) := Lib.hid ⟨by rw [u32s, List.map_append]; exact ho3, hb3⟩
            clear hal hownA hcellA hzA hgo hg3 ho3 hb3 i1 i2 i3 i4
            go_wp2
            go_ret
            obtain ⟨_, _, hv, _, hok'⟩ := HR.out
            refine ⟨⟨_, l' ++ [cc], rfl, by rw [List.length_append, List.length_singleton, hlen]; exact HP3.out.1, fun y hy => ?_, by rw [HUU.out, HCC.out, Wh.val_snoc, ← hv], by rw [List.length_append, List.length_singleton]; omega⟩, HP3.out.2⟩
            rcases List.mem_append.1 hy with h | h
            · exact hok' y h
            · rw [List.mem_singleton.1 h, Wh.R_eq]; exact hcc
end Go.Proofs.YteaeloeebfdodaaGreatDoor

/- WALKS, long division: takeTimes. -/
namespace Go.Proofs.YteaeloeebfdodaaGreatDoor
open Go.RowKit Go.Proofs.Rf
theorem minusN_lt {a b c : Nat} (ha : a < 1000000000) (hb : b < 1000000000) (hc : c ≤ 1) : (Wh.minusN a b c).1 < 1000000000 ∧ (Wh.minusN a b c).2 ≤ 1 :=
  ⟨(Wh.minus_step ha hb hc).1, (Wh.minus_step ha hb hc).2.1⟩
theorem plusN_lt {a b c : Nat} (ha : a < 1000000000) (hb : b < 1000000000) (hc : c ≤ 1) : (Wh.plusN a b c).1 < 1000000000 ∧ (Wh.plusN a b c).2 ≤ 1 :=
  ⟨(Wh.plus_step ha hb hc).1, (Wh.plus_step ha hb hc).2.1⟩
set_option maxRecDepth 100000 in
set_option maxHeartbeats 1000000 in
theorem takeTimes_any (w : World) (rb p pc : Nat) (lr : List Nat) (hr : Own w rb lr) (hok : Wh.Ok lr) (vd : Value) (d : List Nat) (hd : Sl w vd d) (ha : Apart rb vd) (hod : Wh.Ok d) (q : Nat) (hq : q < 1000000000) (hp : p + d.length < lr.length) (hpc : d.length + 1 ≤ pc) (hm : lr.length ≤ 100000) :
    Calls Tryz.prog 303 #[.slice (some ⟨rb, p, none⟩) (d.length + 1 : Nat) pc, vd, .int .u32 q] w fun e w' => (∃ (L : List Nat) (b : Nat), e = .returned (.bool (b == 0)) ∧ b ≤ 1 ∧ Own w' rb L ∧ Wh.TE lr p d.length L ∧ Wh.TkEq lr L p d.length q (Wh.val d) b) ∧ Only rb w w' := by
  obtain ⟨a, c, rfl, hc⟩ := hd.addr2 ha
  clear hd ha
  have HC := Lib.hid hc; clear hc
  have HOD := Lib.hid hod; clear hod
  have HI0 : Hid (Wh.TK lr d p q 0 lr 0 0 ∧ Own w rb lr ∧ Only rb w w) := Lib.hid ⟨Wh.TK.start hok d p q, hr, Only.refl _ _⟩
  clear hok hr
  have HFIN : Hid (∀ L on bor, Wh.TK lr d p q d.length L on bor → _) := Lib.hid (fun L on bor h => Wh.TK.fin (lr := lr) (d := d) (p := p) (q := q) (L := L) (on := on) (bor := bor) h hp)
  generalize hn : d.length = n at *
  have HN := Lib.hid hn; clear hn
  have HPL := Lib.hid hp; clear hp
  generalize hz : lr.length = z at *
  have HZ := Lib.hid hz; clear hz
  go_enter Tryz.func303, Tryz.ntmps303
  go_wp2_with fail
  go_loopw [8, 9, 15] (fun ov bv iv wr => ∃ (i on bor : Nat) (L : List Nat), i ≤ n ∧ ov = .int .u32 on ∧ bv = .int .u32 bor ∧ iv = .int .i64 i ∧ Hid (Wh.TK lr d p q i L on bor ∧ Own wr rb L ∧ Only rb w wr)) (fun _ _ iv _ => n - (intOf iv).toNat)
  case atStart => exact ⟨0, 0, 0, lr, Nat.zero_le _, rfl, rfl, rfl, HI0⟩
  case round =>
    clear HI0
    obtain ⟨i, on, bor, L, hi, rfl, rfl, rfl, HI⟩ := hrel
    have hon : on < 1000000000 := HI.out.1.on1
    have hbor := HI.out.1.b1
    by_cases hin : i < n
    · have hd1 : decide ((i : Int) < (n : Int)) = true := by rw [decide_eq_true_iff]; omega
      obtain ⟨b1, off1, rfl, hne, hbl1, hcell1⟩ := HC.out i hin
      have hx := (HI.out.2.2.cell (p := ⟨b1, off1 + i, none⟩) hne hbl1).trans (hcell1 i hin)
      have hpi : p + i < L.length := by rw [HI.out.1.len, HZ.out]; have := HPL.out; omega
      have hy := HI.out.2.1.cell (p + i) hpi
      have hf := HI.out.2.1.free (p + i) hpi
      have hxl : d.getD i 0 < 1000000000 := Wh.okD HOD.out i
      have hyl : L.getD (p + i) 0 < 1000000000 := Wh.okD HI.out.1.ok (p + i)
      have HNX := Lib.hid (HI.out.1.next HOD.out (show q < Wh.R from hq) (by rw [HZ.out]; have := HPL.out; omega))
      have HOW := Lib.hid (fun v => HI.out.2.1.set hpi v)
      have HON := Lib.hid (fun v => HI.out.2.2.setCell (p + i) v)
      clear hcell1
      generalize d.getD i 0 = x at *
      generalize L.getD (p + i) 0 = y at *
      have hib : i < 200000 := by have := HPL.out; omega
      have hmlt := Nat.mod_lt (x * q + on) (show 1000000000 > 0 by decide)
      have hdlt : (x * q + on) / 1000000000 < 1000000000 := Wh.mul_carry hxl hq hon
      have HTA := Lib.hid (fun W => times_any W x q on hxl (by omega) hon)
      change Hid (Wh.TK lr d p q (i + 1) (L.set (p + i) (Wh.minusN y ((x * q + on) % 1000000000) bor).1) ((x * q + on) / 1000000000) (Wh.minusN y ((x * q + on) % 1000000000) bor).2) at HNX
      generalize (x * q + on) % 1000000000 = lo at *
      generalize (x * q + on) / 1000000000 = hi' at *
      have hmn := minusN_lt hyl hmlt hbor
      have HMA := Lib.hid (fun W => minus_any y lo bor hyl hmlt hbor W)
      unfold pairV at HMA
      generalize (Wh.minusN y lo bor).1 = u at *
      generalize (Wh.minusN y lo bor).2 = b' at *
      go_wp2_with fail
      refine (HTA.out _).mono ?_
      rintro e w' ⟨rfl, rfl⟩
      go_wp2_with fail
      refine (HMA.out _).mono ?_
      rintro e w' ⟨rfl, rfl⟩
      go_wp2_with fail
      go_roundw
      case rel => exact ⟨i + 1, hi', b', _, by omega, rfl, rfl, by congr 1, Lib.hid ⟨HNX.out, HOW.out u, HON.out _⟩⟩
      case measure => simp [intOf]; omega
    · obtain rfl : i = n := by omega
      have hd1 : decide ((i : Int) < (i : Int)) = false := by rw [decide_eq_false_iff_not]; omega
      have hpi : p + i < L.length := by rw [HI.out.1.len, HZ.out]; exact HPL.out
      have hy := HI.out.2.1.cell (p + i) hpi
      have hf := HI.out.2.1.free (p + i) hpi
      have hyl : L.getD (p + i) 0 < 1000000000 := Wh.okD HI.out.1.ok (p + i)
      have HFX := Lib.hid (HFIN.out L on bor HI.out.1)
      have HOW := Lib.hid (fun v => HI.out.2.1.set hpi v)
      have HON := Lib.hid (fun v => HI.out.2.2.setCell (p + i) v)
      generalize L.getD (p + i) 0 = y at *
      have hmn := minusN_lt hyl hon hbor
      have HMA := Lib.hid (fun W => minus_any y on bor hyl hon hbor W)
      unfold pairV at HMA
      generalize (Wh.minusN y on bor).1 = u at *
      generalize (Wh.minusN y on bor).2 = b' at *
      go_wp2_with fail
      refine (HMA.out _).mono ?_
      rintro e w' ⟨rfl, rfl⟩
      go_wp2_with fail
      have hb0 : ((b' : Int) == 0) = (b' == 0) := by
        have : b' = 0 ∨ b' = 1 := by omega
        rcases this with h | h <;> subst h <;> rfl
      rw [hb0]
      go_ret
      exact ⟨⟨_, b', rfl, HFX.out.2.1, HOW.out u, HFX.out.1, ⟨HFX.out.2.2⟩⟩, HON.out _⟩
end Go.Proofs.YteaeloeebfdodaaGreatDoor

/- WALKS, long division: giveTimes. -/
namespace Go.Proofs.YteaeloeebfdodaaGreatDoor
open Go.RowKit Go.Proofs.Rf
set_option maxRecDepth 100000 in
set_option maxHeartbeats 1000000 in
theorem giveTimes_any (w : World) (rb p pc : Nat) (lr : List Nat) (hr : Own w rb lr) (hok : Wh.Ok lr) (vd : Value) (d : List Nat) (hd : Sl w vd d) (ha : Apart rb vd) (hod : Wh.Ok d) (q : Nat) (hq : q < 1000000000) (hp : p + d.length < lr.length) (hpc : d.length + 1 ≤ pc) (hm : lr.length ≤ 100000) :
    Calls Tryz.prog 304 #[.slice (some ⟨rb, p, none⟩) (d.length + 1 : Nat) pc, vd, .int .u32 q] w fun e w' => (∃ (L : List Nat) (b : Nat), e = .returned (.tuple #[]) ∧ b ≤ 1 ∧ Own w' rb L ∧ Wh.TE lr p d.length L ∧ Wh.GvEq lr L p d.length q (Wh.val d) b) ∧ Only rb w w' := by
  obtain ⟨a, c, rfl, hc⟩ := hd.addr2 ha
  clear hd ha
  have HC := Lib.hid hc; clear hc
  have HOD := Lib.hid hod; clear hod
  have HI0 : Hid (Wh.GK lr d p q 0 lr 0 0 ∧ Own w rb lr ∧ Only rb w w) := Lib.hid ⟨Wh.GK.start hok d p q, hr, Only.refl _ _⟩
  clear hok hr
  have HFIN : Hid (∀ L on car, Wh.GK lr d p q d.length L on car → _) := Lib.hid (fun L on car h => Wh.GK.fin (lr := lr) (d := d) (p := p) (q := q) (L := L) (on := on) (car := car) h hp)
  generalize hn : d.length = n at *
  have HN := Lib.hid hn; clear hn
  have HPL := Lib.hid hp; clear hp
  generalize hz : lr.length = z at *
  have HZ := Lib.hid hz; clear hz
  go_enter Tryz.func304, Tryz.ntmps304
  go_wp2_with fail
  go_loopw [7, 8, 14] (fun ov bv iv wr => ∃ (i on bor : Nat) (L : List Nat), i ≤ n ∧ ov = .int .u32 on ∧ bv = .int .u32 bor ∧ iv = .int .i64 i ∧ Hid (Wh.GK lr d p q i L on bor ∧ Own wr rb L ∧ Only rb w wr)) (fun _ _ iv _ => n - (intOf iv).toNat)
  case atStart => exact ⟨0, 0, 0, lr, Nat.zero_le _, rfl, rfl, rfl, HI0⟩
  case round =>
    clear HI0
    obtain ⟨i, on, bor, L, hi, rfl, rfl, rfl, HI⟩ := hrel
    have hon : on < 1000000000 := HI.out.1.on1
    have hbor := HI.out.1.b1
    by_cases hin : i < n
    · have hd1 : decide ((i : Int) < (n : Int)) = true := by rw [decide_eq_true_iff]; omega
      obtain ⟨b1, off1, rfl, hne, hbl1, hcell1⟩ := HC.out i hin
      have hx := (HI.out.2.2.cell (p := ⟨b1, off1 + i, none⟩) hne hbl1).trans (hcell1 i hin)
      have hpi : p + i < L.length := by rw [HI.out.1.len, HZ.out]; have := HPL.out; omega
      have hy := HI.out.2.1.cell (p + i) hpi
      have hf := HI.out.2.1.free (p + i) hpi
      have hxl : d.getD i 0 < 1000000000 := Wh.okD HOD.out i
      have hyl : L.getD (p + i) 0 < 1000000000 := Wh.okD HI.out.1.ok (p + i)
      have HNX := Lib.hid (HI.out.1.next HOD.out (show q < Wh.R from hq) (by rw [HZ.out]; have := HPL.out; omega))
      have HOW := Lib.hid (fun v => HI.out.2.1.set hpi v)
      have HON := Lib.hid (fun v => HI.out.2.2.setCell (p + i) v)
      clear hcell1
      generalize d.getD i 0 = x at *
      generalize L.getD (p + i) 0 = y at *
      have hib : i < 200000 := by have := HPL.out; omega
      have hmlt := Nat.mod_lt (x * q + on) (show 1000000000 > 0 by decide)
      have hdlt : (x * q + on) / 1000000000 < 1000000000 := Wh.mul_carry hxl hq hon
      have HTA := Lib.hid (fun W => times_any W x q on hxl (by omega) hon)
      change Hid (Wh.GK lr d p q (i + 1) (L.set (p + i) (Wh.plusN y ((x * q + on) % 1000000000) bor).1) ((x * q + on) / 1000000000) (Wh.plusN y ((x * q + on) % 1000000000) bor).2) at HNX
      generalize (x * q + on) % 1000000000 = lo at *
      generalize (x * q + on) / 1000000000 = hi' at *
      have hmn := plusN_lt hyl hmlt hbor
      have HMA := Lib.hid (fun W => plus_any y lo bor hyl hmlt hbor W)
      unfold pairV at HMA
      generalize (Wh.plusN y lo bor).1 = u at *
      generalize (Wh.plusN y lo bor).2 = b' at *
      go_wp2_with fail
      refine (HTA.out _).mono ?_
      rintro e w' ⟨rfl, rfl⟩
      go_wp2_with fail
      refine (HMA.out _).mono ?_
      rintro e w' ⟨rfl, rfl⟩
      go_wp2_with fail
      go_roundw
      case rel => exact ⟨i + 1, hi', b', _, by omega, rfl, rfl, by congr 1, Lib.hid ⟨HNX.out, HOW.out u, HON.out _⟩⟩
      case measure => simp [intOf]; omega
    · obtain rfl : i = n := by omega
      have hd1 : decide ((i : Int) < (i : Int)) = false := by rw [decide_eq_false_iff_not]; omega
      have hpi : p + i < L.length := by rw [HI.out.1.len, HZ.out]; exact HPL.out
      have hy := HI.out.2.1.cell (p + i) hpi
      have hf := HI.out.2.1.free (p + i) hpi
      have hyl : L.getD (p + i) 0 < 1000000000 := Wh.okD HI.out.1.ok (p + i)
      have HFX := Lib.hid (HFIN.out L on bor HI.out.1)
      have HOW := Lib.hid (fun v => HI.out.2.1.set hpi v)
      have HON := Lib.hid (fun v => HI.out.2.2.setCell (p + i) v)
      generalize L.getD (p + i) 0 = y at *
      have hmn := plusN_lt hyl hon hbor
      have HMA := Lib.hid (fun W => plus_any y on bor hyl hon hbor W)
      unfold pairV at HMA
      generalize (Wh.plusN y on bor).1 = u at *
      generalize (Wh.plusN y on bor).2 = b' at *
      go_wp2_with fail
      refine (HMA.out _).mono ?_
      rintro e w' ⟨rfl, rfl⟩
      go_wp2_with fail
      go_end0
      exact ⟨⟨_, b', rfl, HFX.out.2.1, HOW.out u, HFX.out.1, ⟨HFX.out.2.2⟩⟩, HON.out _⟩
end Go.Proofs.YteaeloeebfdodaaGreatDoor

/- WALKS, long division: scaled. -/
namespace Go.Proofs.YteaeloeebfdodaaGreatDoor
open Go.RowKit Go.Proofs.Rf
/-- rounds of scaled -/
structure SK (l : List Nat) (f i : Nat) (L : List Nat) (on : Nat) : Prop where
  len : L.length = l.length + 1
  ok : Wh.Ok L
  on1 : on < Wh.R
  out : ∀ j, i ≤ j → L.getD j 0 = 0
  eq : Wh.win L 0 i + Wh.R ^ i * on = f * Wh.sum (l.getD · 0) i
theorem SK.start (l : List Nat) (f : Nat) : SK l f 0 (List.replicate (l.length + 1) 0) 0 :=
  ⟨by simp, Wh.ok_replicate _, Wh.R_pos, fun j _ => Wh.getD_replicate0 _ _, by simp [Wh.win, Wh.sum]⟩
theorem SK.next {l : List Nat} {f i : Nat} {L : List Nat} {on : Nat} (h : SK l f i L on) (hl : Wh.Ok l) (hf : f ≤ Wh.R) (hi : i < l.length) :
    SK l f (i + 1) (L.set i ((l.getD i 0 * f + on) % Wh.R)) ((l.getD i 0 * f + on) / Wh.R) := by
  have h1 := Wh.okD hl i
  have hil : i < L.length := by rw [h.len]; omega
  refine ⟨by rw [List.length_set]; exact h.len, Wh.ok_set h.ok (Nat.mod_lt _ Wh.R_pos), ?_, fun j hj => by rw [Wh.getD_set_ne _ _ (by omega)]; exact h.out j (by omega), ?_⟩
  · have : l.getD i 0 * f ≤ (Wh.R - 1) * Wh.R := Nat.mul_le_mul (by omega) hf
    have e : (Wh.R - 1) * Wh.R + Wh.R = Wh.R * Wh.R := by decide
    have := h.on1
    rw [Nat.div_lt_iff_lt_mul Wh.R_pos]
    omega
  · have e1 : Wh.win (L.set i ((l.getD i 0 * f + on) % Wh.R)) 0 i = Wh.win L 0 i := Wh.win_congr fun j _ h5 => Wh.getD_set_ne _ _ (by omega)
    rw [Wh.win_succ, e1, Nat.zero_add, Wh.getD_set_eq _ _ hil, Wh.sum, Nat.mul_add]
    have h5 := Nat.mod_add_div (l.getD i 0 * f + on) Wh.R
    have h6 : Wh.R ^ i * ((l.getD i 0 * f + on) % Wh.R) + Wh.R ^ (i + 1) * ((l.getD i 0 * f + on) / Wh.R) = Wh.R ^ i * (l.getD i 0 * f) + Wh.R ^ i * on := by
      rw [Nat.pow_succ, Nat.mul_assoc, ← Nat.mul_add, h5, Nat.mul_add]
    have h7 : f * (Wh.R ^ i * l.getD i 0) = Wh.R ^ i * (l.getD i 0 * f) := by rw [Nat.mul_left_comm, Nat.mul_comm f]
    have := h.eq
    rw [h7]
    omega
theorem SK.fin {l : List Nat} {f : Nat} {L : List Nat} {on : Nat} (h : SK l f l.length L on) : Wh.Ok (L.set l.length on) ∧ (L.set l.length on).length = l.length + 1 ∧ Wh.val (L.set l.length on) = f * Wh.val l := by
  have hil : l.length < L.length := by rw [h.len]; omega
  refine ⟨Wh.ok_set h.ok h.on1, by rw [List.length_set]; exact h.len, ?_⟩
  have e1 : Wh.win (L.set l.length on) 0 l.length = Wh.win L 0 l.length := Wh.win_congr fun j _ h5 => Wh.getD_set_ne _ _ (by omega)
  have := Wh.win_all (L.set l.length on)
  rw [List.length_set, h.len, Wh.win_succ, e1, Nat.zero_add, Wh.getD_set_eq _ _ hil] at this
  rw [← this, h.eq, ← Wh.val_sum]
set_option maxRecDepth 100000 in
set_option maxHeartbeats 1000000 in
theorem scaled_any (w : World) (v : Value) (l : List Nat) (h : Sl w v l) (hok : Wh.Ok l) (f : Nat) (hf : f ≤ 1000000000) (hm : l.length ≤ 5000) :
    Calls Tryz.prog 301 #[v, .int .u32 f] w fun e w' => (∃ (L : List Nat) (g : Nat), e = .returned (.slice (some ⟨g, 0, none⟩) (l.length + 1 : Nat) (l.length + 1 : Nat)) ∧ w.heap.size ≤ g ∧ Own w' g L ∧ Wh.Ok L ∧ L.length = l.length + 1 ∧ Wh.val L = f * Wh.val l) ∧ Below w.heap.size w w' := by
  obtain ⟨a, c, rfl, hc⟩ := h.addr2 (rb := w.heap.size) (apart_of_sl h (Nat.le_refl _))
  clear h
  have HC := Lib.hid hc; clear hc
  have HOD := Lib.hid hok; clear hok
  have hmk := run_make_limbs (l.length + 1) (by omega) w ((l.length : Int) + 1) (by simp)
  have hW : Below w.heap.size w (w.alloc (.cells (zeros (l.length + 1)) 181)) := (Below.refl _ _).alloc (Nat.le_refl _) _
  have HI0 : Hid (SK l f 0 (List.replicate (l.length + 1) 0) 0 ∧ Own (w.alloc (.cells (zeros (l.length + 1)) 181)) w.heap.size (List.replicate (l.length + 1) 0) ∧ Only w.heap.size w (w.alloc (.cells (zeros (l.length + 1)) 181))) :=
    Lib.hid ⟨SK.start l f, own_make w _, Only.of_below hW⟩
  clear hW
  generalize hn : l.length = n at *
  have HN := Lib.hid hn; clear hn
  generalize w.alloc (.cells (zeros (n + 1)) 181) = W0 at *
  go_enter Tryz.func301, Tryz.ntmps301
  go_wp2_with fail
  go_loopw [6, 15] (fun ov iv wr => ∃ (i on : Nat) (L : List Nat), i ≤ n ∧ ov = .int .u32 on ∧ iv = .int .i64 i ∧ Hid (SK l f i L on ∧ Own wr w.heap.size L ∧ Only w.heap.size w wr)) (fun _ iv _ => n - (intOf iv).toNat)
  case atStart => exact ⟨0, 0, _, Nat.zero_le _, rfl, rfl, HI0⟩
  case round =>
    clear HI0
    obtain ⟨i, on, L, hi, rfl, rfl, HI⟩ := hrel
    have hon : on < 1000000000 := HI.out.1.on1
    by_cases hin : i < n
    · have hd1 : decide ((i : Int) < (n : Int)) = true := by rw [decide_eq_true_iff]; omega
      obtain ⟨b1, off1, rfl, hne, hbl1, hcell1⟩ := HC.out i hin
      have hx := (HI.out.2.2.cell (p := ⟨b1, off1 + i, none⟩) hne hbl1).trans (hcell1 i hin)
      have hpi : i < L.length := by rw [HI.out.1.len, HN.out]; omega
      have hy := HI.out.2.1.cell i hpi
      have hf := HI.out.2.1.free i hpi
      have hxl : l.getD i 0 < 1000000000 := Wh.okD HOD.out i
      have HNX := Lib.hid (HI.out.1.next HOD.out (show f ≤ Wh.R by assumption) (by rw [HN.out]; exact hin))
      have HOW := Lib.hid (fun v => HI.out.2.1.set hpi v)
      have HON := Lib.hid (fun v => HI.out.2.2.setCell i v)
      clear hcell1
      generalize l.getD i 0 = x at *
      generalize L.getD i 0 = y at *
      have hib : i < 200000 := by omega
      have hmlt := Nat.mod_lt (x * f + on) (show 1000000000 > 0 by decide)
      have HTA := Lib.hid (fun W => times_any W x f on hxl (by assumption) hon)
      change Hid (SK l f (i + 1) (L.set i ((x * f + on) % 1000000000)) ((x * f + on) / 1000000000)) at HNX
      have hdlt : (x * f + on) / 1000000000 < 1000000000 := HNX.out.on1
      generalize (x * f + on) % 1000000000 = lo at *
      generalize (x * f + on) / 1000000000 = hi' at *
      go_wp2_with fail
      refine (HTA.out _).mono ?_
      rintro e w' ⟨rfl, rfl⟩
      go_wp2_with fail
      go_roundw
      case rel => exact ⟨i + 1, hi', _, by omega, rfl, by congr 1, Lib.hid ⟨HNX.out, HOW.out lo, HON.out _⟩⟩
      case measure => simp [intOf]; omega
    · obtain rfl : i = n := by omega
      have hd1 : decide ((i : Int) < (i : Int)) = false := by rw [decide_eq_false_iff_not]; omega
      have hpi : i < L.length := by rw [HI.out.1.len, HN.out]; omega
      have hy := HI.out.2.1.cell i hpi
      have hf := HI.out.2.1.free i hpi
      have hK := HI.out.1
      rw [← HN.out] at hK
      have HFX := Lib.hid hK.fin; clear hK
      rw [HN.out] at HFX
      have HOW := Lib.hid (fun v => HI.out.2.1.set hpi v)
      have HON := Lib.hid (fun v => HI.out.2.2.setCell i v)
      generalize L.getD i 0 = y at *
      go_wp2_with fail
      go_ret
      exact ⟨⟨_, _, rfl, Nat.le_refl _, HOW.out on, HFX.out⟩, (HON.out _).below (Nat.le_refl _) (Nat.le_refl _)⟩
end Go.Proofs.YteaeloeebfdodaaGreatDoor

/- WALKS, long division: the guess. -/
namespace Go.Proofs.YteaeloeebfdodaaGreatDoor
open Go.RowKit Go.Proofs.Rf
/-- what the first limbs tell of the window and the divisor -/
theorem guess_facts {lr d : List Nat} {p m : Nat} (hd : Wh.Ok d) (hok : Wh.Ok lr) (hm : d.length = m + 2) (hP : Wh.win lr p (m + 3) < Wh.R * Wh.val d) (hf : 0 < d.getD (m + 1) 0) :
    lr.getD (p + (m + 2)) 0 ≤ d.getD (m + 1) 0 ∧ Wh.win lr p (m + 3) < ((lr.getD (p + (m + 2)) 0 * Wh.R + lr.getD (p + (m + 1)) 0) * Wh.R + lr.getD (p + m) 0 + 1) * Wh.R ^ m ∧ (d.getD (m + 1) 0 * Wh.R + d.getD m 0) * Wh.R ^ m ≤ Wh.val d ∧ Wh.win lr p (m + 3) / Wh.val d < Wh.R ∧
    Wh.win lr p (m + 3) / Wh.val d ≤ (lr.getD (p + (m + 2)) 0 * Wh.R + lr.getD (p + (m + 1)) 0) / d.getD (m + 1) 0 := by
  have e1 : Wh.win lr p (m + 3) = Wh.win lr p m + Wh.R ^ m * (lr.getD (p + m) 0 + Wh.R * (lr.getD (p + (m + 1)) 0 + Wh.R * lr.getD (p + (m + 2)) 0)) := by
    rw [Wh.win_succ, Wh.win_succ, Wh.win_succ]
    simp only [Nat.pow_succ, Nat.mul_add, Nat.mul_assoc, Nat.add_assoc, Nat.mul_left_comm, Nat.mul_comm]
  have e2 : Wh.val d = Wh.sum (d.getD · 0) m + Wh.R ^ m * (d.getD m 0 + Wh.R * d.getD (m + 1) 0) := by
    rw [Wh.val_sum, hm, Wh.sum, Wh.sum, Nat.pow_succ, Nat.mul_add]
    simp only [Nat.mul_assoc, Nat.add_assoc, Nat.mul_left_comm, Nat.mul_comm]
  have h1 : Wh.win lr p m < Wh.R ^ m := Wh.win_lt hok p m
  have h2 : Wh.sum (d.getD · 0) m < Wh.R ^ m := Wh.sum_lt fun i _ => Wh.okD hd i
  have hpos : 0 < Wh.R ^ m := Nat.pow_pos Wh.R_pos
  have k1 := Wh.okD hok (p + (m + 1))
  have k2 := Wh.okD hok (p + m)
  have k3 := Wh.okD hd m
  generalize Wh.win lr p m = A at *
  generalize Wh.sum (d.getD · 0) m = B at *
  generalize lr.getD (p + (m + 2)) 0 = t at *
  generalize lr.getD (p + (m + 1)) 0 = t1 at *
  generalize lr.getD (p + m) 0 = t2 at *
  generalize d.getD (m + 1) 0 = f at *
  generalize d.getD m 0 = s at *
  generalize Wh.win lr p (m + 3) = P at *
  generalize Wh.val d = D at *
  generalize Wh.R ^ m = X at *
  have hD : D < X * (Wh.R * (f + 1)) := by
    have : X * (s + Wh.R * f) + X ≤ X * (Wh.R * (f + 1)) := by
      rw [← Nat.mul_succ]
      refine Nat.mul_le_mul_left _ ?_
      rw [Nat.mul_add]
      omega
    omega
  have hX : X * (f * Wh.R + s) ≤ D := by rw [e2, Nat.mul_comm f, Nat.add_comm (Wh.R * f)]; omega
  have ht : t ≤ f := by
    rcases Nat.lt_or_ge f t with h | h
    · exfalso
      have h3 : X * (Wh.R * (Wh.R * (f + 1))) ≤ X * (Wh.R * (Wh.R * t)) := Nat.mul_le_mul_left _ (Nat.mul_le_mul_left _ (Nat.mul_le_mul_left _ h))
      have h4 : X * (Wh.R * (Wh.R * t)) ≤ X * (t2 + Wh.R * (t1 + Wh.R * t)) := Nat.mul_le_mul_left _ (by rw [Nat.mul_add]; omega)
      have h5 : Wh.R * D < Wh.R * (X * (Wh.R * (f + 1))) := Nat.mul_lt_mul_of_pos_left hD Wh.R_pos
      have h6 : Wh.R * (X * (Wh.R * (f + 1))) = X * (Wh.R * (Wh.R * (f + 1))) := Nat.mul_left_comm ..
      omega
    · exact h
  have hR : P / D < Wh.R := Nat.div_lt_of_lt_mul (by rw [Nat.mul_comm]; exact hP)
  have e3 : (t * Wh.R + t1) * Wh.R + t2 = t2 + Wh.R * (t1 + Wh.R * t) := by rw [Nat.mul_comm _ Wh.R, Nat.mul_comm t, Nat.add_comm, Nat.add_comm (Wh.R * t)]
  refine ⟨ht, ?_, by rw [Nat.mul_comm]; exact hX, hR, ?_⟩
  · rw [e3, Nat.mul_comm, Nat.mul_add, Nat.mul_one, e1]
    omega
  · rw [Nat.le_div_iff_mul_le hf]
    have h7 : P / D * D ≤ P := Nat.div_mul_le_self P D
    generalize P / D = q at *
    -- q f R X <= q D <= P < (t R + t1 + 1) R X
    have h8 : q * f * (Wh.R * X) ≤ q * D := by
      rw [Nat.mul_assoc]
      refine Nat.mul_le_mul_left _ (Nat.le_trans ?_ hX)
      rw [Nat.mul_comm X, Nat.add_mul, ← Nat.mul_assoc]
      omega
    have h9 : P < (t * Wh.R + t1 + 1) * (Wh.R * X) := by
      have : X * (t2 + Wh.R * (t1 + Wh.R * t)) + X ≤ X * (Wh.R * (t1 + Wh.R * t + 1)) := by
        rw [← Nat.mul_succ]
        refine Nat.mul_le_mul_left _ ?_
        rw [Nat.mul_add Wh.R (t1 + Wh.R * t) 1]
        omega
      have e4 : (t * Wh.R + t1 + 1) * (Wh.R * X) = X * (Wh.R * (t1 + Wh.R * t + 1)) := by
        rw [Nat.mul_comm t, Nat.add_comm (Wh.R * t), Nat.mul_comm _ (Wh.R * X), Nat.mul_comm Wh.R X, Nat.mul_assoc]
      omega
    have h10 : q * f * (Wh.R * X) < (t * Wh.R + t1 + 1) * (Wh.R * X) := by omega
    have := Nat.lt_of_mul_lt_mul_right h10
    omega
theorem R_pow {P t0 t1 t2 X hi : Nat} (h : P < ((t0 * 1000000000 + t1) * 1000000000 + t2 + 1) * X) (hh : hi = t0 * 1000000000 + t1) : P < (hi * 1000000000 + t2 + 1) * X := by rw [hh]; exact h
set_option maxRecDepth 100000 in
set_option maxHeartbeats 2000000 in
theorem guess_any (w : World) (rb p pc : Nat) (lr : List Nat) (hr : Own w rb lr) (hok : Wh.Ok lr) (vd : Value) (d : List Nat) (hd : Sl w vd d) (hod : Wh.Ok d) (m : Nat) (hdl : d.length = m + 2) (hp : p + (m + 2) < lr.length) (hpc : m + 3 ≤ pc) (hm : lr.length ≤ 100000)
    (hP : Wh.win lr p (m + 3) < Wh.R * Wh.val d) (hf : 0 < d.getD (m + 1) 0) :
    Calls Tryz.prog 302 #[.slice (some ⟨rb, p, none⟩) (m + 3 : Nat) pc, vd] w fun e w' => (∃ g : Nat, e = .returned (.int .u32 g) ∧ Wh.win lr p (m + 3) / Wh.val d ≤ g ∧ g < 1000000000) ∧ ∃ n, w' = w.drewN n := by
  obtain ⟨a, c, rfl, hc⟩ := hd.addr
  have HG := Lib.hid (guess_facts hod hok hdl hP hf)
  obtain ⟨b1, off1, rfl, hbl1, hcell1⟩ := hc 0 (by omega)
  rw [hdl] at hcell1 ⊢
  have hd1 := hcell1 (m + 1) (by omega)
  have hd2 := hcell1 m (by omega)
  have hr0 := hr.cell (p + (m + 2)) (by omega)
  have hr1 := hr.cell (p + (m + 1)) (by omega)
  have hr2 := hr.cell (p + m) (by omega)
  have l1 : d.getD (m + 1) 0 < 1000000000 := Wh.okD hod _
  have l2 : d.getD m 0 < 1000000000 := Wh.okD hod _
  have l3 : lr.getD (p + (m + 2)) 0 < 1000000000 := Wh.okD hok _
  have l4 : lr.getD (p + (m + 1)) 0 < 1000000000 := Wh.okD hok _
  have l5 : lr.getD (p + m) 0 < 1000000000 := Wh.okD hok _
  have htop : lr.getD (p + (m + 2)) 0 ≤ d.getD (m + 1) 0 := HG.out.1
  have hR : Wh.R = 1000000000 := rfl
  clear hc hcell1 hr hP
  have HRX : Hid (Wh.R = 1000000000) := Lib.hid rfl
  generalize Wh.win lr p (m + 3) = P at *
  generalize Wh.val d = D at *
  generalize d.getD (m + 1) 0 = first at *
  generalize d.getD m 0 = second at *
  generalize lr.getD (p + (m + 2)) 0 = t0 at *
  generalize lr.getD (p + (m + 1)) 0 = t1 at *
  generalize lr.getD (p + m) 0 = t2 at *
  rw [hR] at HG
  obtain ⟨hi, hhi⟩ : ∃ hi : Nat, hi = t0 * 1000000000 + t1 := ⟨_, rfl⟩
  have hhl : hi < 1000000000000000000 := by omega
  have hq0 : hi / first ≤ 2000000000 := by
    refine Nat.le_of_lt_succ (Nat.div_lt_of_lt_mul ?_)
    have h1 : t0 * 1000000000 ≤ first * 1000000000 := Nat.mul_le_mul_right _ htop
    omega
  have hr0' : hi % first < first := Nat.mod_lt _ hf
  have HU : Hid (Wh.GU P D hi first (hi / first) (hi % first)) := Lib.hid ⟨by rw [Nat.mul_comm]; exact Nat.div_add_mod hi first, by rw [hhi]; exact HG.out.2.2.2.2⟩
  have hci : ((t0 : Int) * 1000000000 + (t1 : Int)) = (hi : Int) := by omega
  have hdi : (hi : Int).tdiv (first : Int) = ((hi / first : Nat) : Int) := by rw [Int.tdiv_eq_ediv_of_nonneg (by omega)]; simp
  have hmi : (hi : Int).tmod (first : Int) = ((hi % first : Nat) : Int) := by rw [Int.tmod_eq_emod_of_nonneg (by omega)]; simp
  have hne : ((first : Int) == 0) = false := by rw [beq_eq_false_iff_ne]; omega
  have HHI := Lib.hid hhi; clear hhi
  generalize hi / first = q0 at *
  generalize hi % first = r0 at *
  go_enter Tryz.func302, Tryz.ntmps302
  go_wp2_with fail
  go_quiet (fail)
  go_wp2_with fail
  go_quiet (fail)
  go_wp2_with fail
  go_quiet (fail)
  go_wp2_with fail
  go_loopw [9, 10] (fun dv rv wr => ∃ dg rs n : Nat, dv = .int .u64 dg ∧ rv = .int .u64 rs ∧ wr = w.drewN n ∧ dg ≤ 2000000000 ∧ rs ≤ 2000000000 ∧ Hid (Wh.GU P D hi first dg rs)) (fun _ rv _ => 3000000000 - (intOf rv).toNat)
  case atStart =>
    obtain ⟨k, hk⟩ := drew3 w _ _ _
    exact ⟨q0, r0, k, rfl, rfl, hk, hq0, by omega, HU⟩
  case round =>
    obtain ⟨dg, rs, n, rfl, rfl, rfl, hdg, hrs, HI⟩ := hrel
    have hx2 : (w.drewN n).cell? ⟨rb, p + m, none⟩ = some (.int .u32 t2) := by rw [World.cell?_drewN]; exact hr2
    have hfin : ∀ (_ : dg < 1000000000), (∃ g : Nat, Ending.returned (Value.int .u32 (dg : Int)) = .returned (.int .u32 (g : Int)) ∧ P / D ≤ g ∧ g < 1000000000) ∧ ∃ k, w.drewN n = w.drewN k := fun hlt => ⟨⟨dg, rfl, HI.out.ge, hlt⟩, n, rfl⟩
    have HF := Lib.hid hfin; clear hfin
    by_cases hA : rs < 1000000000
    · have h1 : decide ((rs : Int) < 1000000000) = true := by rw [decide_eq_true_iff]; omega
      have HDN : Hid (∀ (_ : 1000000000 ≤ dg ∨ rs * 1000000000 + t2 < dg * second), Wh.GU P D hi first (dg - 1) (rs + first) ∧ 0 < dg) := Lib.hid fun hc => HI.out.down (R_pow HG.out.2.1 HHI.out) HG.out.2.2.1 HG.out.2.2.2.1 hc
      by_cases hB : 1000000000 ≤ dg
      · have h2 : decide ((1000000000 : Int) ≤ (dg : Int)) = true := by rw [decide_eq_true_iff]; omega
        have hN := Lib.hid (HDN.out (.inl hB))
        go_wp2_with fail
        have hpos := hN.out.2
        exact ⟨⟨dg - 1, rs + first, n, by rw [show ((dg - 1 : Nat) : Int) = (dg : Int) - 1 from by omega], by rw [show ((rs + first : Nat) : Int) = (rs : Int) + (first : Int) from by omega], rfl, by omega, by omega, Lib.hid hN.out.1⟩, by simp [intOf]; omega⟩
      · have h2 : decide ((1000000000 : Int) ≤ (dg : Int)) = false := by rw [decide_eq_false_iff_not]; omega
        have hb1 : (0 : Int) ≤ (dg : Int) * (second : Int) ∧ (dg : Int) * (second : Int) ≤ 999999998000000001 := prod_bound (by omega) l2
        have hcast : ((dg * second : Nat) : Int) = (dg : Int) * (second : Int) := by simp
        by_cases hC : rs * 1000000000 + t2 < dg * second
        · have h3 : decide ((rs : Int) * 1000000000 + (t2 : Int) < (dg : Int) * (second : Int)) = true := by rw [decide_eq_true_iff]; omega
          have hN := Lib.hid (HDN.out (.inr hC))
          have hpos := hN.out.2
          go_wp2_with fail
          exact ⟨⟨dg - 1, rs + first, n, by rw [show ((dg - 1 : Nat) : Int) = (dg : Int) - 1 from by omega], by rw [show ((rs + first : Nat) : Int) = (rs : Int) + (first : Int) from by omega], rfl, by omega, by omega, Lib.hid hN.out.1⟩, by simp [intOf]; omega⟩
        · have h3 : decide ((rs : Int) * 1000000000 + (t2 : Int) < (dg : Int) * (second : Int)) = false := by rw [decide_eq_false_iff_not]; omega
          go_wp2_with fail
          go_ret
          exact HF.out (by omega)
    · have h1 : decide ((rs : Int) < 1000000000) = false := by rw [decide_eq_false_iff_not]; omega
      have hlt : dg < 1000000000 := HI.out.end' HHI.out htop l4 (by show Wh.R ≤ rs; omega)
      go_wp2_with fail
      go_ret
      exact HF.out hlt
end Go.Proofs.YteaeloeebfdodaaGreatDoor
