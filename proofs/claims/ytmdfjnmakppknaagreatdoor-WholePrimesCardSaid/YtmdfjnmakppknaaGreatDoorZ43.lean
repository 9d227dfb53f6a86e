/- Part 43 of the proofs that laws of package whole answer true at every input and leave the input as it was, where the library's variables start as the text lays them (the texts K8). -/
import Derived.Test.YtmdfjnmakppknaaGreatDoorZ41
import Derived.Test.YtmdfjnmakppknaaGreatDoorZ42
set_option linter.unusedVariables false
set_option linter.unusedSimpArgs false
/- WholePrimes: the row is said. -/
namespace Go.Proofs.YtmdfjnmakppknaaGreatDoor
open Go.ChangeShapes Go.WideShapes Go.ChangeAt Go.RowKit
set_option maxRecDepth 100000
theorem primes_row : Rows.WholePrimesSaid :=
  OpenClaim.holds_of_wide_leaving 11 Tryz.f11 rfl rfl rfl rfl rfl rfl rfl ⟨rfl, rfl, rfl, rfl, rfl⟩ rfl rfl rfl rfl rfl (by kernel_rfl) Tryz.func11 primes_joined
    (of_decide_eq_true (by kernel_rfl)) (by unfold Func.isWrapper; first | (rw [if_pos (by decide +kernel)]; kernel_rfl) | (rw [if_neg (by decide +kernel)]; exact ⟨rfl, rfl⟩))
    (fun os started H enc _ => primes_leaving_of_handed (primes_lifted os started H enc))
end Go.Proofs.YtmdfjnmakppknaaGreatDoor
