/- Part 26 of the proofs that laws of package whole answer true at every input and leave the input as it was, where the library's variables start as the text lays them (the texts W4, W5, W6, W7, W8). -/
import Derived.Test.YteggbenhffmijaaGreatDoorZ25
import Derived.Test.YteggbenhffmijaaGreatDoorZ07
set_option linter.unusedVariables false
set_option linter.unusedSimpArgs false
/- WALKS, long division: scaled. -/
namespace Go.Proofs.YteggbenhffmijaaGreatDoor
open Go.RowKit Go.Proofs.Rf
/-- rounds of scaled -/
structure SK (l : List Nat) (f i : Nat) (L : List Nat) (on : Nat) : Prop where
  len : L.length = l.length + 1
  ok : Wh.Ok L
  on1 : on < Wh.R
  out : ∀ j, i ≤ j → L.getD j 0 = 0
  eq : Wh.win L 0 i + Wh.R ^ i * on = f * Wh.sum (l.getD · 0) i
theorem SK.start (l : List Nat) (f : Nat) : SK l f 0 (List.replicate (l.length + 1) 0) 0 :=
  ⟨by simp, Wh.ok_replicate _, Wh.R_pos, fun j _ => Wh.getD_replicate0 _ _, by simp [Wh.win, Wh.sum]⟩
theorem SK.next {l : List Nat} {f i : Nat} {L : List Nat} {on : Nat} (h : SK l f i L on) (hl : Wh.Ok l) (hf : f ≤ Wh.R) (hi : i < l.length) :
    SK l f (i + 1) (L.set i ((l.getD i 0 * f + on) % Wh.R)) ((l.getD i 0 * f + on) / Wh.R) := by
  have h1 := Wh.okD hl i
  have hil : i < L.length := by rw [h.len]; omega
  refine ⟨by rw [List.length_set]; exact h.len, Wh.ok_set h.ok (Nat.mod_lt _ Wh.R_pos), ?_, fun j hj => by rw [Wh.getD_set_ne _ _ (by omega)]; exact h.out j (by omega), ?_⟩
  · have : l.getD i 0 * f ≤ (Wh.R - 1) * Wh.R := Nat.mul_le_mul (by omega) hf
    have e : (Wh.R - 1) * Wh.R + Wh.R = Wh.R * Wh.R := by decide
    have := h.on1
    rw [Nat.div_lt_iff_lt_mul Wh.R_pos]
    omega
  · have e1 : Wh.win (L.set i ((l.getD i 0 * f + on) % Wh.R)) 0 i = Wh.win L 0 i := Wh.win_congr fun j _ h5 => Wh.getD_set_ne _ _ (by omega)
    rw [Wh.win_succ, e1, Nat.zero_add, Wh.getD_set_eq _ _ hil, Wh.sum, Nat.mul_add]
    have h5 := Nat.mod_add_div (l.getD i 0 * f + on) Wh.R
    have h6 : Wh.R ^ i * ((l.getD i 0 * f + on) % Wh.R) + Wh.R ^ (i + 1) * ((l.getD i 0 * f + on) / Wh.R) = Wh.R ^ i * (l.getD i 0 * f) + Wh.R ^ i * on := by
      rw [Nat.pow_succ, Nat.mul_assoc, ← Nat.mul_add, h5, Nat.mul_add]
    have h7 : f * (Wh.R ^ i * l.getD i 0) = Wh.R ^ i * (l.getD i 0 * f) := by rw [Nat.mul_left_comm, Nat.mul_comm f]
    have := h.eq
    rw [h7]
    omega
theorem SK.fin {l : List Nat} {f : Nat} {L : List Nat} {on : Nat} (h : SK l f l.length L on) : Wh.Ok (L.set l.length on) ∧ (L.set l.length on).length = l.length + 1 ∧ Wh.val (L.set l.length on) = f * Wh.val l := by
  have hil : l.length < L.length := by rw [h.len]; omega
  refine ⟨Wh.ok_set h.ok h.on1, by rw [List.length_set]; exact h.len, ?_⟩
  have e1 : Wh.win (L.set l.length on) 0 l.length = Wh.win L 0 l.length := Wh.win_congr fun j _ h5 => Wh.getD_set_ne _ _ (by omega)
  have := Wh.win_all (L.set l.length on)
  rw [List.length_set, h.len, Wh.win_succ, e1, Nat.zero_add, Wh.getD_set_eq _ _ hil] at this
  rw [← this, h.eq, ← Wh.val_sum]
end Go.Proofs.YteggbenhffmijaaGreatDoor

/- WALKS, long division: the guess. -/
namespace Go.Proofs.YteggbenhffmijaaGreatDoor
open Go.RowKit Go.Proofs.Rf
end Go.Proofs.YteggbenhffmijaaGreatDoor

/- WALKS, long division: divideLong. -/
namespace Go.Proofs.YteggbenhffmijaaGreatDoor
open Go.RowKit Go.Proofs.Rf
theorem Own.apart {w w' : World} {b b' : Nat} {l : List Nat} (h : Own w b l) (ho : Only b' w w') (hne : b ≠ b') : Own w' b l :=
  ⟨Nat.lt_of_lt_of_le h.lt ho.size, fun i hi => (ho.cell (p := ⟨b, i, none⟩) hne h.lt).trans (h.cell i hi), fun i hi => (ho.frozen (p := ⟨b, i, none⟩) hne h.lt).trans (h.free i hi)⟩
/-- the state of the division -/
structure DLI (w wr : World) (g1 g2 : Nat) (vd : Value) (d A0 : List Nat) (p : Nat) (L Q : List Nat) : Prop where
  dv : Wh.DV A0 d.length (Wh.val d) p L Q
  o1 : Own wr g1 L
  o2 : Own wr g2 Q
  sd : Sl wr vd d
  below : Below w.heap.size w wr
/-- within a round -/
structure DLR (w wr : World) (g1 g2 : Nat) (vd : Value) (d : List Nat) (p P : Nat) (L L' Q : List Nat) (g : Nat) : Prop where
  ge : P / Wh.val d ≤ g
  lt : g < 1000000000
  te : Wh.TE L p d.length L'
  win : Wh.win L' p (d.length + 1) = P
  o1 : Own wr g1 L'
  o2 : Own wr g2 Q
  sd : Sl wr vd d
  below : Below w.heap.size w wr
theorem set_zero {Q : List Nat} {q : Nat} (h : Q.getD q 0 = 0) : Q.set q 0 = Q := by
  apply List.ext_getElem
  · simp
  · intro i h1 h2
    rw [List.getElem_set]
    split
    · next e => subst e; simpa [List.getD, h2] using h.symm
    · rfl
theorem DLR.zero {w wr : World} {g1 g2 : Nat} {vd : Value} {d A0 L L' Q : List Nat} {q : Nat} (h : DLR w wr g1 g2 vd d q (Wh.win L q (d.length + 1)) L L' Q 0) (hv : Wh.DV A0 d.length (Wh.val d) (q + 1) L Q) (hq : q + d.length < A0.length) (hD : Wh.val d ≤ Wh.R ^ d.length) : DLI w wr g1 g2 vd d A0 q L' Q := by
  have hpos : 0 < Wh.val d := by have := hv.lt; omega
  have h0 : Wh.win L q (d.length + 1) / Wh.val d = 0 := Nat.le_zero.1 h.ge
  have hlt : Wh.win L q (d.length + 1) < Wh.val d := by
    rcases Nat.lt_or_ge (Wh.win L q (d.length + 1)) (Wh.val d) with h1 | h1
    · exact h1
    · have := Nat.div_pos h1 hpos; omega
  have := hv.next hq hD h.te (by rw [h.win, Nat.mod_eq_of_lt hlt])
  rw [h0, set_zero (hv.qlow q (by omega))] at this
  exact ⟨this, h.o1, h.o2, h.sd, h.below⟩
theorem DLR.hit {w wr w2 : World} {g1 g2 : Nat} {vd : Value} {d A0 L L' L2 Q : List Nat} {q g : Nat} (h : DLR w wr g1 g2 vd d q (Wh.win L q (d.length + 1)) L L' Q g) (hv : Wh.DV A0 d.length (Wh.val d) (q + 1) L Q) (hq : q + d.length < A0.length) (hD : Wh.val d ≤ Wh.R ^ d.length)
    (ho : Only g1 wr w2) (hne : g2 ≠ g1) (ha : Apart g1 vd) (hg1 : w.heap.size ≤ g1) (hg2 : w.heap.size ≤ g2) (hav : Apart g2 vd) (o1 : Own w2 g1 L2) (hte : Wh.TE L' q d.length L2) (he0 : Wh.TkEq L' L2 q d.length g (Wh.val d) 0) :
    q < Q.length ∧ w2.cell? ⟨g2, q, none⟩ = some (.int .u32 (Q.getD q 0 : Nat)) ∧ w2.frozen? ⟨g2, q, none⟩ = false ∧ DLI w (w2.setCell ⟨g2, q, none⟩ (.int .u32 g)) g1 g2 vd d A0 q L2 (Q.set q g) := by
  have hpos : 0 < Wh.val d := by have := hv.lt; omega
  have he := he0.zero
  rw [h.win] at he
  obtain ⟨e1, e2⟩ := Wh.take_right he h.ge hpos
  have hql : q < Q.length := by have := hv.qlen; omega
  have o2 := h.o2.apart ho hne
  have hn := hv.next hq hD (h.te.trans hte) e2
  rw [← e1] at hn
  have hb2 : Below w.heap.size w w2 := h.below.trans (ho.below hg1 h.below.size)
  have hon2 : Only g2 w2 (w2.setCell ⟨g2, q, none⟩ (.int .u32 g)) := (Only.refl _ _).setCell q _
  exact ⟨hql, o2.cell q hql, o2.free q hql, hn, o1.apart hon2 (Ne.symm hne), o2.set hql g, (h.sd.only ho ha).only hon2 hav, hb2.trans (hon2.below hg2 hb2.size)⟩
end Go.Proofs.YteggbenhffmijaaGreatDoor

/- WALKS, division by any number: divideLimbs, Quo. -/
namespace Go.Proofs.YteggbenhffmijaaGreatDoor
open Go.RowKit Go.Proofs.Rf
end Go.Proofs.YteggbenhffmijaaGreatDoor

/- WALKS, division by any number: divideLimbs, Quo, whole. -/
namespace Go.Proofs.YteggbenhffmijaaGreatDoor
open Go.RowKit Go.Proofs.Rf
end Go.Proofs.YteggbenhffmijaaGreatDoor
