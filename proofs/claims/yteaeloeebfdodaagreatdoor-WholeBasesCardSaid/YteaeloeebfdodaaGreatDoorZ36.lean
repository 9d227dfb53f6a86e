/- Part 36 of the proofs that laws of package whole answer true at every input and leave the input as it was, where the library's variables start as the text lays them (the texts YG3). -/
import Derived.Test.YteaeloeebfdodaaGreatDoorZ34
import Derived.Test.YteaeloeebfdodaaGreatDoorZ35
set_option linter.unusedVariables false
set_option linter.unusedSimpArgs false
namespace Go.Proofs.YteaeloeebfdodaaGreatDoor
open Go.ChangeShapes Go.WideShapes Go.ChangeAt Go.RowKit
set_option maxRecDepth 100000
theorem bases_row : Rows.WholeBasesSaid :=
  OpenClaim.holds_of_wide_leaving 9 Tryz.f9 rfl rfl rfl rfl rfl rfl rfl ⟨rfl, rfl, rfl, rfl, rfl⟩ rfl rfl rfl rfl rfl (by kernel_rfl) Tryz.func9 bases_joined
    (of_decide_eq_true (by kernel_rfl)) (by unfold Func.isWrapper; first | (rw [if_pos (by decide +kernel)]; kernel_rfl) | (rw [if_neg (by decide +kernel)]; exact ⟨rfl, rfl⟩))
    (fun os started H enc _ => bases_leaving_of_handed (bases_lifted os started H enc))
end Go.Proofs.YteaeloeebfdodaaGreatDoor
