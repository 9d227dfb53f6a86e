/- Part 35 of the proofs that laws of package whole answer true at every input and leave the input as it was, where the library's variables start as the text lays them (the texts YH3). -/
import Derived.Test.YteggbenhffmijaaGreatDoorZ33
import Derived.Test.YteggbenhffmijaaGreatDoorZ34
set_option linter.unusedVariables false
set_option linter.unusedSimpArgs false
/- WholeFactors: the row is said. -/
namespace Go.Proofs.YteggbenhffmijaaGreatDoor
open Go.ChangeShapes Go.WideShapes Go.ChangeAt Go.RowKit
set_option maxRecDepth 100000
theorem factors_row : Rows.WholeFactorsSaid :=
  OpenClaim.holds_of_wide_leaving 12 Tryz.f12 rfl rfl rfl rfl rfl rfl rfl ⟨rfl, rfl, rfl, rfl, rfl⟩ rfl rfl rfl rfl rfl (by kernel_rfl) Tryz.func12 factors_joined
    (of_decide_eq_true (by kernel_rfl)) (by unfold Func.isWrapper; first | (rw [if_pos (by decide +kernel)]; kernel_rfl) | (rw [if_neg (by decide +kernel)]; exact ⟨rfl, rfl⟩))
    (fun os started H enc _ => factors_leaving_of_handed (factors_lifted os started H enc))
end Go.Proofs.YteggbenhffmijaaGreatDoor
