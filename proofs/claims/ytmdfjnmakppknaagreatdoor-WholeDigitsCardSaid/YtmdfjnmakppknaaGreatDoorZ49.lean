/- Part 49 of the proofs that laws of package whole answer true at every input and leave the input as it was, where the library's variables start as the text lays them (the texts L7). -/
import Derived.Test.YtmdfjnmakppknaaGreatDoorRows
import Derived.Conc.Holds
set_option linter.unusedVariables false
set_option linter.unusedSimpArgs false
/- WholeDigits: the closed facts that the row asks of the program. -/
namespace Go.Proofs.YtmdfjnmakppknaaGreatDoor
set_option maxRecDepth 100000
theorem digits_and2 {a b : Bool} (h1 : a = true) (h2 : b = true) : (a && b) = true := by rw [h1, h2]; rfl
theorem digits_rj0 : (Rows.wholeDigitsRow.wf (OpenSpec.ofChange Rows.wholeDigitsSpec)) = true := by kernel_rfl
theorem digits_rj1 : (laidOutB Tryz.pinned.checked.prog) = true := by kernel_rfl
theorem digits_rj2 : (mapsRowed Tryz.pinned.checked.prog) = true := by kernel_rfl
theorem digits_rj3 : (Tryz.f10.params.all (Tryz.pinned.checked.prog.readableRec ·)) = true := by kernel_rfl
theorem digits_rj4 : (namedTie Tryz.pinned.checked.prog Rows.wholeDigitsRow.named Rows.wholeDigitsSpec.vars) = true := by kernel_rfl
theorem digits_rj5 : ((Rows.wholeDigitsRow.stops == [])) = true := by kernel_rfl
theorem digits_rj6 : ((Tryz.pinned.checked.prog.stops == [])) = true := by kernel_rfl
theorem digits_rj7 : ((Rows.wholeDigitsRow.knobs == [])) = true := by kernel_rfl
theorem digits_rj8 : ((Tryz.pinned.checked.prog.stopKnobs == [])) = true := by kernel_rfl
theorem digits_rj9 : ((Rows.wholeDigitsRow.inPlace == Tryz.pinned.checked.prog.inPlace 10)) = true := by kernel_rfl
theorem digits_rj10 : ((Rows.wholeDigitsRow.unfollowed == Tryz.pinned.checked.prog.unfollowed 10)) = true := by kernel_rfl
theorem digits_rj11 : ((Rows.wholeDigitsRow.recurses == Tryz.pinned.checked.prog.recurses 10)) = true := by kernel_rfl
theorem digits_rj12 : ((Rows.wholeDigitsRow.named == Tryz.pinned.checked.prog.varsNamed 10)) = true := by kernel_rfl
theorem digits_rj13 : ((Rows.wholeDigitsRow.maps == (Tryz.f10.params.toList ++ Rows.wholeDigitsSpec.plain.varTypes Tryz.pinned.checked.prog).any (Tryz.pinned.checked.prog.mapsRec ·))) = true := by kernel_rfl
theorem digits_rj14 : ((Rows.wholeDigitsRow.ifaces == (Tryz.f10.params.toList ++ Rows.wholeDigitsSpec.plain.varTypes Tryz.pinned.checked.prog).any (Tryz.pinned.checked.prog.ifacesRec ·))) = true := by kernel_rfl
theorem digits_rj15 : ((Rows.wholeDigitsRow.mapsOut == Tryz.pinned.checked.prog.mapsAmong Tryz.f10.resultTypes.toList)) = true := by kernel_rfl
theorem digits_rj16 : ((Rows.wholeDigitsRow.loops == (Tryz.f10.params.toList ++ Rows.wholeDigitsSpec.plain.varTypes Tryz.pinned.checked.prog).any (Tryz.pinned.checked.prog.loopsFrom ·))) = true := by kernel_rfl
theorem digits_rj17 : ((Rows.wholeDigitsRow.wideKeys == (Tryz.f10.params.toList ++ Rows.wholeDigitsSpec.plain.varTypes Tryz.pinned.checked.prog ++ Tryz.f10.resultTypes.toList).any (Tryz.pinned.checked.prog.wideKeysFrom ·))) = true := by kernel_rfl
theorem digits_rj18 : (Rows.wholeDigitsSpec.vars.all (Tryz.pinned.checked.prog.varReadable ·)) = true := by kernel_rfl
theorem digits_rj19 : (Tryz.f10.resultTypes.all (fun t => Tryz.pinned.checked.prog.readableRec t && decide (t < Tryz.pinned.checked.prog.types.size))) = true := by kernel_rfl
theorem digits_rj20 : ((Rows.wholeDigitsRow.ifacesOut == Tryz.f10.resultTypes.toList.any (Tryz.pinned.checked.prog.ifacesRec ·))) = true := by kernel_rfl
theorem digits_rj21 : ((Rows.wholeDigitsRow.loopsOut == Tryz.f10.resultTypes.toList.any (Tryz.pinned.checked.prog.loopsFrom ·))) = true := by kernel_rfl
theorem digits_rj22 : ((Rows.wholeDigitsRow.plainKeys == Tryz.pinned.checked.prog.plainKeys)) = true := by kernel_rfl
theorem digits_rj23 : (Rows.wholeDigitsRow.shortTexts.isNone) = true := by kernel_rfl
theorem digits_rj24 : (Tryz.pinned.checked.prog.stopsHeard) = true := by kernel_rfl
theorem digits_rj25 : (Tryz.pinned.checked.prog.mayEnter) = true := by kernel_rfl
theorem digits_rj26 : ((Rows.wholeDigitsRow.lifted == Tryz.pinned.checked.prog.liftsFinal)) = true := by kernel_rfl
theorem digits_rj27 : ((Tryz.pinned.checked.prog.make == some Rows.wholeDigitsRow.make)) = true := by kernel_rfl
theorem digits_rj28 : ((Rows.wholeDigitsRow.kinds == (if Rows.wholeDigitsRow.domain.isEmpty then [] else Tryz.f10.params.toList.map fun t => match Tryz.pinned.checked.prog.underlying t with | some (.int k) => some k | _ => none))) = true := by kernel_rfl
theorem digits_rj29 : ((Rows.wholeDigitsRow.pinned == Rows.wholeDigitsRow.pinnedBy)) = true := by kernel_rfl
theorem digits_rj30 : ((Rows.wholeDigitsRow.veiled == (Tryz.f10.params.toList ++ Rows.wholeDigitsSpec.plain.varTypes Tryz.pinned.checked.prog ++ Tryz.f10.resultTypes.toList).any (Tryz.pinned.checked.prog.veiledRec ·))) = true := by kernel_rfl
theorem digits_rj31 : (Rows.wholeDigitsRow.veiledFits Tryz.pinned.checked.prog Tryz.f10.params.toList (Tryz.f10.params.toList ++ Rows.wholeDigitsSpec.plain.varTypes Tryz.pinned.checked.prog ++ Tryz.f10.resultTypes.toList)) = true := by kernel_rfl
theorem digits_joined : joinedFacts Tryz.pinned.checked.prog 10 Tryz.f10 Rows.wholeDigitsSpec Rows.wholeDigitsRow = true := by
  unfold joinedFacts
  refine digits_and2 ?_ digits_rj31
  refine digits_and2 ?_ digits_rj30
  refine digits_and2 ?_ digits_rj29
  refine digits_and2 ?_ digits_rj28
  refine digits_and2 ?_ digits_rj27
  refine digits_and2 ?_ digits_rj26
  refine digits_and2 ?_ digits_rj25
  refine digits_and2 ?_ digits_rj24
  refine digits_and2 ?_ digits_rj23
  refine digits_and2 ?_ digits_rj22
  refine digits_and2 ?_ digits_rj21
  refine digits_and2 ?_ digits_rj20
  refine digits_and2 ?_ digits_rj19
  refine digits_and2 ?_ digits_rj18
  refine digits_and2 ?_ digits_rj17
  refine digits_and2 ?_ digits_rj16
  refine digits_and2 ?_ digits_rj15
  refine digits_and2 ?_ digits_rj14
  refine digits_and2 ?_ digits_rj13
  refine digits_and2 ?_ digits_rj12
  refine digits_and2 ?_ digits_rj11
  refine digits_and2 ?_ digits_rj10
  refine digits_and2 ?_ digits_rj9
  refine digits_and2 ?_ digits_rj8
  refine digits_and2 ?_ digits_rj7
  refine digits_and2 ?_ digits_rj6
  refine digits_and2 ?_ digits_rj5
  refine digits_and2 ?_ digits_rj4
  refine digits_and2 ?_ digits_rj3
  refine digits_and2 ?_ digits_rj2
  refine digits_and2 ?_ digits_rj1
  exact digits_rj0
theorem digits_leaving_of_handed {a : Assume} {C : Checked} {os : Os} {f : FuncId} {r : Reach} {Pre : World → Array Value → Prop} {Post : World → Array Value → Value → World → Prop}
    (h : ReturnsInHanded a C os f r Pre Post) : ReturnsInLeavingWide a C os f r Pre Post := fun enter =>
  ReturnsInOpen.mono (fun _ _ _ x => ⟨x.2.1, onlyLeaving_of_quiet x.1, x.2.2⟩) (fun _ x => x) (h enter)
end Go.Proofs.YtmdfjnmakppknaaGreatDoor
