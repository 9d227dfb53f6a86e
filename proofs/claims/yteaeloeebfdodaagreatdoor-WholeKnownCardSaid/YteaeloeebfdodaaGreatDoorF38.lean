/- Part 38 of the proofs that laws of package whole answer true at every input and leave the input as it was, where the library's variables start as the text lays them (the texts YF3). -/
import Derived.Test.YteaeloeebfdodaaGreatDoorF36
import Derived.Test.YteaeloeebfdodaaGreatDoorF37
set_option linter.unusedVariables false
set_option linter.unusedSimpArgs false
/- WholeKnown: the row is said. -/
namespace Go.Proofs.YteaeloeebfdodaaGreatDoor
open Go.ChangeShapes Go.WideShapes Go.ChangeAt Go.RowKit
set_option maxRecDepth 100000
theorem known_row : Rows.WholeKnownSaid :=
  OpenClaim.holds_of_wide_leaving 5 Tryz.f5 rfl rfl rfl rfl rfl rfl rfl ⟨rfl, rfl, rfl, rfl, rfl⟩ rfl rfl rfl rfl rfl (by kernel_rfl) Tryz.func5 known_joined
    (of_decide_eq_true (by kernel_rfl)) (by unfold Func.isWrapper; first | (rw [if_pos (by decide +kernel)]; kernel_rfl) | (rw [if_neg (by decide +kernel)]; exact ⟨rfl, rfl⟩))
    (fun os started H enc _ => known_leaving_of_handed (known_lifted os started H enc))
end Go.Proofs.YteaeloeebfdodaaGreatDoor
