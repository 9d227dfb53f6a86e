/- Part 28 of the proofs that laws of package whole answer true at every input and leave the input as it was, where the library's variables start as the text lays them (the texts W5, W6, W7, W8). -/
import Derived.Test.YteaeloeebfdodaaGreatDoorZ27
import Derived.Test.YteaeloeebfdodaaGreatDoorZ07
set_option linter.unusedVariables false
set_option linter.unusedSimpArgs false
namespace Go.Proofs.YteaeloeebfdodaaGreatDoor
open Go.RowKit Go.Proofs.Rf
end Go.Proofs.YteaeloeebfdodaaGreatDoor

namespace Go.Proofs.YteaeloeebfdodaaGreatDoor
open Go.RowKit Go.Proofs.Rf
theorem Own.apart {w w' : World} {b b' : Nat} {l : List Nat} (h : Own w b l) (ho : Only b' w w') (hne : b ≠ b') : Own w' b l :=
  ⟨Nat.lt_of_lt_of_le h.lt ho.size, fun i hi => (ho.cell (p := ⟨b, i, none⟩) hne h.lt).trans (h.cell i hi), fun i hi => (ho.frozen (p := ⟨b, i, none⟩) hne h.lt).trans (h.free i hi)⟩
structure DLI (w wr : World) (g1 g2 : Nat) (vd : Value) (d A0 : List Nat) (p : Nat) (L Q : List Nat) : Prop where
  dv : Wh.DV A0 d.length (Wh.val d) p L Q
  o1 : Own wr g1 L
  o2 : Own wr g2 Q
  sd : Sl wr vd d
  below : Below w.heap.size w wr
structure DLR (w wr : World) (g1 g2 : Nat) (vd : Value) (d : List Nat) (p P : Nat) (L L' Q : List Nat) (g : Nat) : Prop where
  ge : P / Wh.val d ≤ g
  lt : g < 1000000000
  te : Wh.TE L p d.length L'
  win : Wh.win L' p (d.length + 1) = P
  o1 : Own wr g1 L'
  o2 : Own wr g2 Q
  sd : Sl wr vd d
  below : Below w.heap.size w wr
theorem set_zero {Q : List Nat} {q : Nat} (h : Q.getD q 0 = 0) : Q.set q 0 = Q := by
  apply List.ext_getElem
  · simp
  · intro i h1 h2
    rw [List.getElem_set]
    split
    · next e => subst e; simpa [List.getD, h2] using h.symm
    · rfl
theorem DLR.zero {w wr : World} {g1 g2 : Nat} {vd : Value} {d A0 L L' Q : List Nat} {q : Nat} (h : DLR w wr g1 g2 vd d q (Wh.win L q (d.length + 1)) L L' Q 0) (hv : Wh.DV A0 d.length (Wh.val d) (q + 1) L Q) (hq : q + d.length < A0.length) (hD : Wh.val d ≤ Wh.R ^ d.length) : DLI w wr g1 g2 vd d A0 q L' Q := by
  have hpos : 0 < Wh.val d := by have := hv.lt; omega
  have h0 : Wh.win L q (d.length + 1) / Wh.val d = 0 := Nat.le_zero.1 h.ge
  have hlt : Wh.win L q (d.length + 1) < Wh.val d := by
    rcases Nat.lt_or_ge (Wh.win L q (d.length + 1)) (Wh.val d) with h1 | h1
    · exact h1
    · have := Nat.div_pos h1 hpos; omega
  have := hv.next hq hD h.te (by rw [h.win, Nat.mod_eq_of_lt hlt])
  rw [h0, set_zero (hv.qlow q (by omega))] at this
  exact ⟨this, h.o1, h.o2, h.sd, h.below⟩
theorem DLR.hit {w wr w2 : World} {g1 g2 : Nat} {vd : Value} {d A0 L L' L2 Q : List Nat} {q g : Nat} (h : DLR w wr g1 g2 vd d q (Wh.win L q (d.length + 1)) L L' Q g) (hv : Wh.DV A0 d.length (Wh.val d) (q + 1) L Q) (hq : q + d.length < A0.length) (hD : Wh.val d ≤ Wh.R ^ d.length)
    (ho : Only g1 wr w2) (hne : g2 ≠ g1) (ha : Apart g1 vd) (hg1 : w.heap.size ≤ g1) (hg2 : w.heap.size ≤ g2) (hav : Apart g2 vd) (o1 : Own w2 g1 L2) (hte : Wh.TE L' q d.length L2) (he0 : Wh.TkEq L' L2 q d.length g (Wh.val d) 0) :
    q < Q.length ∧ w2.cell? ⟨g2, q, none⟩ = some (.int .u32 (Q.getD q 0 : Nat)) ∧ w2.frozen? ⟨g2, q, none⟩ = false ∧ DLI w (w2.setCell ⟨g2, q, none⟩ (.int .u32 g)) g1 g2 vd d A0 q L2 (Q.set q g) := by
  have hpos : 0 < Wh.val d := by have := hv.lt; omega
  have he := he0.zero
  rw [h.win] at he
  obtain ⟨e1, e2⟩ := Wh.take_right he h.ge hpos
  have hql : q < Q.length := by have := hv.qlen; omega
  have o2 := h.o2.apart ho hne
  have hn := hv.next hq hD (h.te.trans hte) e2
  rw [← e1] at hn
  have hb2 : Below w.heap.size w w2 := h.below.trans (ho.below hg1 h.below.size)
  have hon2 : Only g2 w2 (w2.setCell ⟨g2, q, none⟩ (.int .u32 g)) := (Only.refl _ _).setCell q _
  exact ⟨hql, o2.cell q hql, o2.free q hql, hn, o1.apart hon2 (Ne.symm hne), o2.set hql g, (h.sd.only ho ha).only hon2 hav, hb2.trans (hon2.below hg2 hb2.size)⟩
end Go.Proofs.YteaeloeebfdodaaGreatDoor

namespace Go.Proofs.YteaeloeebfdodaaGreatDoor
open Go.RowKit Go.Proofs.Rf
end Go.Proofs.YteaeloeebfdodaaGreatDoor

namespace Go.Proofs.YteaeloeebfdodaaGreatDoor
open Go.RowKit Go.Proofs.Rf
end Go.Proofs.YteaeloeebfdodaaGreatDoor
