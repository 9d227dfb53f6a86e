/- Part 50 of the proofs that laws of package whole answer true at every input and leave the input as it was, where the library's variables start as the text lays them (the texts L8). -/
import Derived.Test.YtmdfjnmakppknaaGreatDoorZ48
import Derived.Test.YtmdfjnmakppknaaGreatDoorZ49
set_option linter.unusedVariables false
set_option linter.unusedSimpArgs false
/- WholeDigits: the row is said. -/
namespace Go.Proofs.YtmdfjnmakppknaaGreatDoor
open Go.ChangeShapes Go.WideShapes Go.ChangeAt Go.RowKit
set_option maxRecDepth 100000
theorem digits_row : Rows.WholeDigitsSaid :=
  OpenClaim.holds_of_wide_leaving 10 Tryz.f10 rfl rfl rfl rfl rfl rfl rfl ⟨rfl, rfl, rfl, rfl, rfl⟩ rfl rfl rfl rfl rfl (by kernel_rfl) Tryz.func10 digits_joined
    (of_decide_eq_true (by kernel_rfl)) (by unfold Func.isWrapper; first | (rw [if_pos (by decide +kernel)]; kernel_rfl) | (rw [if_neg (by decide +kernel)]; exact ⟨rfl, rfl⟩))
    (fun os started H enc _ => digits_leaving_of_handed (digits_lifted os started H enc))
end Go.Proofs.YtmdfjnmakppknaaGreatDoor
