/- Part 48 of the proofs that laws of package whole answer true at every input and leave the input as it was, where the library's variables start as the text lays them (the texts YC3). -/
import Derived.Test.YteaeloeebfdodaaGreatDoorX46
import Derived.Test.YteaeloeebfdodaaGreatDoorX47
set_option linter.unusedVariables false
set_option linter.unusedSimpArgs false
/- WholePower: the row is said. -/
namespace Go.Proofs.YteaeloeebfdodaaGreatDoor
open Go.ChangeShapes Go.WideShapes Go.ChangeAt Go.RowKit
set_option maxRecDepth 100000
theorem power_row : Rows.WholePowerSaid :=
  OpenClaim.holds_of_wide_leaving 4 Tryz.f4 rfl rfl rfl rfl rfl rfl rfl ⟨rfl, rfl, rfl, rfl, rfl⟩ rfl rfl rfl rfl rfl (by kernel_rfl) Tryz.func4 power_joined
    (of_decide_eq_true (by kernel_rfl)) (by unfold Func.isWrapper; first | (rw [if_pos (by decide +kernel)]; kernel_rfl) | (rw [if_neg (by decide +kernel)]; exact ⟨rfl, rfl⟩))
    (fun os started H enc _ => power_leaving_of_handed (power_lifted os started H enc))
end Go.Proofs.YteaeloeebfdodaaGreatDoor
