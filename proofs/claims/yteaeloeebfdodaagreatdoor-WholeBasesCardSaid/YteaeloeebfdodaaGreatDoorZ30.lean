/- Part 30 of the proofs that laws of package whole answer true at every input and leave the input as it was, where the library's variables start as the text lays them (the texts Y1). -/
import Derived.Test.YteaeloeebfdodaaGreatDoorZ24
import Derived.Test.YteaeloeebfdodaaGreatDoorZ18
set_option linter.unusedVariables false
set_option linter.unusedSimpArgs false
namespace Go.Proofs.YteaeloeebfdodaaGreatDoor
open Go.RowKit
theorem decI_inj {x y : Int} (h : Wh.decI x = Wh.decI y) : x = y := by
  have hn : ∀ {a b : Nat}, Wh.decN a = Wh.decN b → a = b := fun {a b} e => by rw [← Wh.numOf_decN a, e, Wh.numOf_decN]
  by_cases hx : x < 0
  · by_cases hy : y < 0
    · rw [decI_neg hx, decI_neg hy] at h
      injection h with _ h
      have := hn h; omega
    · rw [decI_neg hx, decI_pos hy] at h
      have := Wh.decN_digits y.natAbs 45 (by rw [← h]; simp)
      exact absurd this.1 (by decide)
  · by_cases hy : y < 0
    · rw [decI_pos hx, decI_neg hy] at h
      have := Wh.decN_digits x.natAbs 45 (by rw [h]; simp)
      exact absurd this.1 (by decide)
    · rw [decI_pos hx, decI_pos hy] at h
      have := hn h; omega
end Go.Proofs.YteaeloeebfdodaaGreatDoor
