/- Part 35 of the proofs that laws of package whole answer true at every input and leave the input as it was, where the library's variables start as the text lays them (the texts YE3). -/
import Derived.Test.YteaeloeebfdodaaGreatDoorE33
import Derived.Test.YteaeloeebfdodaaGreatDoorE34
set_option linter.unusedVariables false
set_option linter.unusedSimpArgs false
/- WholeDivisor: the row is said. -/
namespace Go.Proofs.YteaeloeebfdodaaGreatDoor
open Go.ChangeShapes Go.WideShapes Go.ChangeAt Go.RowKit
set_option maxRecDepth 100000
theorem divisor_row : Rows.WholeDivisorSaid :=
  OpenClaim.holds_of_wide_leaving 8 Tryz.f8 rfl rfl rfl rfl rfl rfl rfl ⟨rfl, rfl, rfl, rfl, rfl⟩ rfl rfl rfl rfl rfl (by kernel_rfl) Tryz.func8 divisor_joined
    (of_decide_eq_true (by kernel_rfl)) (by unfold Func.isWrapper; first | (rw [if_pos (by decide +kernel)]; kernel_rfl) | (rw [if_neg (by decide +kernel)]; exact ⟨rfl, rfl⟩))
    (fun os started H enc _ => divisor_leaving_of_handed (divisor_lifted os started H enc))
end Go.Proofs.YteaeloeebfdodaaGreatDoor
