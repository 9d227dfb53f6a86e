/- Part 56 of the proofs that laws of package whole answer true at every input and leave the input as it was, where the library's variables start as the text lays them (the texts YB3). -/
import Derived.Test.YteaeloeebfdodaaGreatDoorZ54
import Derived.Test.YteaeloeebfdodaaGreatDoorZ55
set_option linter.unusedVariables false
set_option linter.unusedSimpArgs false
/- WholeDivision: the row is said. -/
namespace Go.Proofs.YteaeloeebfdodaaGreatDoor
open Go.ChangeShapes Go.WideShapes Go.ChangeAt Go.RowKit
set_option maxRecDepth 100000
theorem division_row : Rows.WholeDivisionSaid :=
  OpenClaim.holds_of_wide_leaving 6 Tryz.f6 rfl rfl rfl rfl rfl rfl rfl ⟨rfl, rfl, rfl, rfl, rfl⟩ rfl rfl rfl rfl rfl (by kernel_rfl) Tryz.func6 division_joined
    (of_decide_eq_true (by kernel_rfl)) (by unfold Func.isWrapper; first | (rw [if_pos (by decide +kernel)]; kernel_rfl) | (rw [if_neg (by decide +kernel)]; exact ⟨rfl, rfl⟩))
    (fun os started H enc _ => division_leaving_of_handed (division_lifted os started H enc))
end Go.Proofs.YteaeloeebfdodaaGreatDoor
