/- Part 39 of the proofs that laws of package whole answer true at every input and leave the input as it was, where the library's variables start as the text lays them (the texts YF4). -/
import Derived.Test.YteaeloeebfdodaaGreatDoorRows
import Derived.SevenTiedAt
set_option linter.unusedVariables false
set_option linter.unusedSimpArgs false
/- WholeKnown: what its card asks of the program besides. -/
namespace Go.Proofs.YteaeloeebfdodaaGreatDoor
set_option maxRecDepth 100000
theorem known_tied_plain_goes (Lk : Looks) {p : Pinned} {s : OpenSpec} {c : OpenClaim} (kinds : List LaidKind) (tests : Bool) (har : Bool × String) (lk goes : Bool)
    (hc : c.holds p s) (hw : c.wfByText s = true) (htie : c.laidByTextAt Lk p kinds tests)
    (hst : c.start = .entering) (hnb : c.noBlocks = false ∧ c.again = false) (hm : p.checked.prog.mainIs = some (har.1, har.2.toList)) (hn : (!har.1 && har.2.isEmpty && !lk) = false)
    (hl : ∀ f fn, p.checked.prog.funcNamed c.func = some f → p.checked.prog.funcs[f]? = some fn → lk = p.checked.prog.looks [] ∧ ∀ (j : Nat) t, fn.params[j]? = some t → p.checked.prog.wantsStandIn t = false)
    (hg : goes = c.goesBy p.checked.prog) :
    Claim7.holds p (.plain s) { stood := { row := c, standIns := [], harness := har, looks := lk }, kinds := [], alts := [], goes := goes, laidByText := true, laidKinds := kinds, laidTests := tests, laidLooks := Lk } := by
  have h6 : ∀ r : OpenClaim, Claim7.isSixth { stood := { row := r, standIns := [], harness := har, looks := lk }, kinds := [] } = false := fun r => by simpa [Claim7.isSixth] using hn
  exact ⟨Claim7.tied_new_at Lk kinds tests (Claim7.new_of_sixth hc har lk hst hnb hm (h6 c) hl) hw, (fun D hD => by cases hD), htie, (fun h => by cases h), hg⟩
theorem known_main_looks {c : String} (hf : Tryz.pinned.checked.prog.funcNamed c = some 5) : ∀ f fn, Tryz.pinned.checked.prog.funcNamed c = some f → Tryz.pinned.checked.prog.funcs[f]? = some fn → true = Tryz.pinned.checked.prog.looks [] ∧ ∀ (j : Nat) t, fn.params[j]? = some t → Tryz.pinned.checked.prog.wantsStandIn t = false := by
  intro f fn h1 h2
  obtain rfl := Option.some.inj (hf.symm.trans h1)
  obtain rfl := Option.some.inj ((show Tryz.pinned.checked.prog.funcs[5]? = some Tryz.f5 from Tryz.func5).symm.trans h2)
  refine ⟨by kernel_rfl, fun j t ht => ?_⟩
  have hp0 : Tryz.f5.params.toList = [] := by kernel_rfl
  have ht' : Tryz.f5.params.toList[j]? = some t := by rw [Array.getElem?_toList]; exact ht
  rw [hp0] at ht'
  cases ht'
theorem known_goes : true = Rows.wholeKnownRow.goesBy Tryz.pinned.checked.prog := by kernel_rfl
end Go.Proofs.YteaeloeebfdodaaGreatDoor
