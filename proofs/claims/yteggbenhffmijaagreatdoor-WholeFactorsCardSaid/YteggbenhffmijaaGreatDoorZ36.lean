/- Part 36 of the proofs that laws of package whole answer true at every input and leave the input as it was, where the library's variables start as the text lays them (the texts YH4). -/
import Derived.Test.YteggbenhffmijaaGreatDoorRows
import Derived.SevenTiedAt
set_option linter.unusedVariables false
set_option linter.unusedSimpArgs false
/- WholeFactors: what its card asks of the program besides. -/
namespace Go.Proofs.YteggbenhffmijaaGreatDoor
set_option maxRecDepth 100000
theorem factors_tied_plain_goes (Lk : Looks) {p : Pinned} {s : OpenSpec} {c : OpenClaim} (kinds : List LaidKind) (tests : Bool) (har : Bool × String) (lk goes : Bool)
    (hc : c.holds p s) (hw : c.wfByText s = true) (htie : c.laidByTextAt Lk p kinds tests)
    (hst : c.start = .entering) (hnb : c.noBlocks = false ∧ c.again = false) (hm : p.checked.prog.mainIs = some (har.1, har.2.toList)) (hn : (!har.1 && har.2.isEmpty && !lk) = false)
    (hl : ∀ f fn, p.checked.prog.funcNamed c.func = some f → p.checked.prog.funcs[f]? = some fn → lk = p.checked.prog.looks [] ∧ ∀ (j : Nat) t, fn.params[j]? = some t → p.checked.prog.wantsStandIn t = false)
    (hg : goes = c.goesBy p.checked.prog) :
    Claim7.holds p (.plain s) { stood := { row := c, standIns := [], harness := har, looks := lk }, kinds := [], alts := [], goes := goes, laidByText := true, laidKinds := kinds, laidTests := tests, laidLooks := Lk } := by
  have h6 : ∀ r : OpenClaim, Claim7.isSixth { stood := { row := r, standIns := [], harness := har, looks := lk }, kinds := [] } = false := fun r => by simpa [Claim7.isSixth] using hn
  exact ⟨Claim7.tied_new_at Lk kinds tests (Claim7.new_of_sixth hc har lk hst hnb hm (h6 c) hl) hw, (fun D hD => by cases hD), htie, (fun h => by cases h), hg⟩
theorem factors_main_looks {c : String} (hf : Tryz.pinned.checked.prog.funcNamed c = some 12) : ∀ f fn, Tryz.pinned.checked.prog.funcNamed c = some f → Tryz.pinned.checked.prog.funcs[f]? = some fn → true = Tryz.pinned.checked.prog.looks [] ∧ ∀ (j : Nat) t, fn.params[j]? = some t → Tryz.pinned.checked.prog.wantsStandIn t = false := by
  intro f fn h1 h2
  obtain rfl := Option.some.inj (hf.symm.trans h1)
  obtain rfl := Option.some.inj ((show Tryz.pinned.checked.prog.funcs[12]? = some Tryz.f12 from Tryz.func12).symm.trans h2)
  refine ⟨by kernel_rfl, fun j t ht => ?_⟩
  have hp : (Tryz.f12.params.toList.all fun t => !Tryz.pinned.checked.prog.wantsStandIn t) = true := by kernel_rfl
  have := List.all_eq_true.1 hp t (List.mem_of_getElem? (by simpa using ht))
  simpa using this
theorem factors_goes : true = Rows.wholeFactorsRow.goesBy Tryz.pinned.checked.prog := by kernel_rfl
end Go.Proofs.YteggbenhffmijaaGreatDoor
