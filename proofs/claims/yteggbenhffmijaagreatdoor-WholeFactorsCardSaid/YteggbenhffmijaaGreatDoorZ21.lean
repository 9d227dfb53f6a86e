/- Part 21 of the proofs that laws of package whole answer true at every input and leave the input as it was, where the library's variables start as the text lays them (the texts I1e). -/
import Derived.Test.YteggbenhffmijaaGreatDoorZ18
import Derived.Test.YteggbenhffmijaaGreatDoorZ20
import Derived.LaidLaws
import Derived.LaidHandle
set_option linter.unusedVariables false
set_option linter.unusedSimpArgs false
/- the handle of the type error, out of the row's own list -/
namespace Go.Proofs.YteggbenhffmijaaGreatDoor
open Go.ChangeShapes Go.WideShapes Go.ChangeAt Go.RowKit
theorem rt_type : (Tryz.prog.cutTypes.find? (·.1 == "internal/reflectlite.rtype")).map (·.2) = some 355 := by kernel_rfl
theorem types_size : Tryz.prog.types.size + 100 = 526 := by kernel_rfl
theorem error_row : ((List.range (526 - 100)).filter fun t => Tryz.prog.rowNamed t [101, 114, 114, 111, 114]) = [142] := by kernel_rfl
theorem error_global : Tryz.prog.globalNamed "errors.errorType" = some 0 := by kernel_rfl
theorem errt_of {l : List (String × DataW Unit)} {W : World} (e : (l.filter fun x => x.2.handleName?.isSome)[0]? = some ("errors.errorType", Rows.laid_errors_errorType))
    (h : laidMetH Tryz.prog l W) : ErrT W := by
  have hm := (laidMetH_iff.1 h).2 _ (List.mem_of_getElem? e)
  obtain ⟨name, u, ty, e1, e2, e3, e4, e5⟩ := hm
  have en : name = [101, 114, 114, 111, 114] := (Option.some.inj e1).symm
  subst en
  obtain rfl := Option.some.inj (rt_type.symm.trans e2)
  have hm : ty ∈ (List.range (526 - 100)).filter fun t => Tryz.prog.rowNamed t [101, 114, 114, 111, 114] := List.mem_filter.2 ⟨List.mem_range.2 (by have := types_size; omega), e4⟩
  rw [error_row] at hm
  obtain rfl := List.mem_singleton.1 hm
  have hh : typeHandle Tryz.prog 142 = .pointer (some ⟨9, 142, none⟩) := by kernel_rfl
  rw [hh] at e5
  simpa [ErrT] using World.var?_cell error_global e5 0
end Go.Proofs.YteggbenhffmijaaGreatDoor
