/- Part 34 of the proofs that laws of package whole answer true at every input and leave the input as it was, where the library's variables start as the text lays them (the texts YH2). -/
import Derived.Test.YteggbenhffmijaaGreatDoorRows
import Derived.Conc.Holds
set_option linter.unusedVariables false
set_option linter.unusedSimpArgs false
/- WholeFactors: the closed facts that the row asks of the program. -/
namespace Go.Proofs.YteggbenhffmijaaGreatDoor
set_option maxRecDepth 100000
theorem factors_and2 {a b : Bool} (h1 : a = true) (h2 : b = true) : (a && b) = true := by rw [h1, h2]; rfl
theorem factors_rj0 : (Rows.wholeFactorsRow.wf (OpenSpec.ofChange Rows.wholeFactorsSpec)) = true := by kernel_rfl
theorem factors_rj1 : (laidOutB Tryz.pinned.checked.prog) = true := by kernel_rfl
theorem factors_rj2 : (mapsRowed Tryz.pinned.checked.prog) = true := by kernel_rfl
theorem factors_rj3 : (Tryz.f12.params.all (Tryz.pinned.checked.prog.readableRec ·)) = true := by kernel_rfl
theorem factors_rj4 : (namedTie Tryz.pinned.checked.prog Rows.wholeFactorsRow.named Rows.wholeFactorsSpec.vars) = true := by kernel_rfl
theorem factors_rj5 : ((Rows.wholeFactorsRow.stops == [])) = true := by kernel_rfl
theorem factors_rj6 : ((Tryz.pinned.checked.prog.stops == [])) = true := by kernel_rfl
theorem factors_rj7 : ((Rows.wholeFactorsRow.knobs == [])) = true := by kernel_rfl
theorem factors_rj8 : ((Tryz.pinned.checked.prog.stopKnobs == [])) = true := by kernel_rfl
theorem factors_rj9 : ((Rows.wholeFactorsRow.inPlace == Tryz.pinned.checked.prog.inPlace 12)) = true := by kernel_rfl
theorem factors_rj10 : ((Rows.wholeFactorsRow.unfollowed == Tryz.pinned.checked.prog.unfollowed 12)) = true := by kernel_rfl
theorem factors_rj11 : ((Rows.wholeFactorsRow.recurses == Tryz.pinned.checked.prog.recurses 12)) = true := by kernel_rfl
theorem factors_rj12 : ((Rows.wholeFactorsRow.named == Tryz.pinned.checked.prog.varsNamed 12)) = true := by kernel_rfl
theorem factors_rj13 : ((Rows.wholeFactorsRow.maps == (Tryz.f12.params.toList ++ Rows.wholeFactorsSpec.plain.varTypes Tryz.pinned.checked.prog).any (Tryz.pinned.checked.prog.mapsRec ·))) = true := by kernel_rfl
theorem factors_rj14 : ((Rows.wholeFactorsRow.ifaces == (Tryz.f12.params.toList ++ Rows.wholeFactorsSpec.plain.varTypes Tryz.pinned.checked.prog).any (Tryz.pinned.checked.prog.ifacesRec ·))) = true := by kernel_rfl
theorem factors_rj15 : ((Rows.wholeFactorsRow.mapsOut == Tryz.pinned.checked.prog.mapsAmong Tryz.f12.resultTypes.toList)) = true := by kernel_rfl
theorem factors_rj16 : ((Rows.wholeFactorsRow.loops == (Tryz.f12.params.toList ++ Rows.wholeFactorsSpec.plain.varTypes Tryz.pinned.checked.prog).any (Tryz.pinned.checked.prog.loopsFrom ·))) = true := by kernel_rfl
theorem factors_rj17 : ((Rows.wholeFactorsRow.wideKeys == (Tryz.f12.params.toList ++ Rows.wholeFactorsSpec.plain.varTypes Tryz.pinned.checked.prog ++ Tryz.f12.resultTypes.toList).any (Tryz.pinned.checked.prog.wideKeysFrom ·))) = true := by kernel_rfl
theorem factors_rj18 : (Rows.wholeFactorsSpec.vars.all (Tryz.pinned.checked.prog.varReadable ·)) = true := by kernel_rfl
theorem factors_rj19 : (Tryz.f12.resultTypes.all (fun t => Tryz.pinned.checked.prog.readableRec t && decide (t < Tryz.pinned.checked.prog.types.size))) = true := by kernel_rfl
theorem factors_rj20 : ((Rows.wholeFactorsRow.ifacesOut == Tryz.f12.resultTypes.toList.any (Tryz.pinned.checked.prog.ifacesRec ·))) = true := by kernel_rfl
theorem factors_rj21 : ((Rows.wholeFactorsRow.loopsOut == Tryz.f12.resultTypes.toList.any (Tryz.pinned.checked.prog.loopsFrom ·))) = true := by kernel_rfl
theorem factors_rj22 : ((Rows.wholeFactorsRow.plainKeys == Tryz.pinned.checked.prog.plainKeys)) = true := by kernel_rfl
theorem factors_rj23 : (Rows.wholeFactorsRow.shortTexts.isNone) = true := by kernel_rfl
theorem factors_rj24 : (Tryz.pinned.checked.prog.stopsHeard) = true := by kernel_rfl
theorem factors_rj25 : (Tryz.pinned.checked.prog.mayEnter) = true := by kernel_rfl
theorem factors_rj26 : ((Rows.wholeFactorsRow.lifted == Tryz.pinned.checked.prog.liftsFinal)) = true := by kernel_rfl
theorem factors_rj27 : ((Tryz.pinned.checked.prog.make == some Rows.wholeFactorsRow.make)) = true := by kernel_rfl
theorem factors_rj28 : ((Rows.wholeFactorsRow.kinds == (if Rows.wholeFactorsRow.domain.isEmpty then [] else Tryz.f12.params.toList.map fun t => match Tryz.pinned.checked.prog.underlying t with | some (.int k) => some k | _ => none))) = true := by kernel_rfl
theorem factors_rj29 : ((Rows.wholeFactorsRow.pinned == Rows.wholeFactorsRow.pinnedBy)) = true := by kernel_rfl
theorem factors_rj30 : ((Rows.wholeFactorsRow.veiled == (Tryz.f12.params.toList ++ Rows.wholeFactorsSpec.plain.varTypes Tryz.pinned.checked.prog ++ Tryz.f12.resultTypes.toList).any (Tryz.pinned.checked.prog.veiledRec ·))) = true := by kernel_rfl
theorem factors_rj31 : (Rows.wholeFactorsRow.veiledFits Tryz.pinned.checked.prog Tryz.f12.params.toList (Tryz.f12.params.toList ++ Rows.wholeFactorsSpec.plain.varTypes Tryz.pinned.checked.prog ++ Tryz.f12.resultTypes.toList)) = true := by kernel_rfl
theorem factors_joined : joinedFacts Tryz.pinned.checked.prog 12 Tryz.f12 Rows.wholeFactorsSpec Rows.wholeFactorsRow = true := by
  unfold joinedFacts
  refine factors_and2 ?_ factors_rj31
  refine factors_and2 ?_ factors_rj30
  refine factors_and2 ?_ factors_rj29
  refine factors_and2 ?_ factors_rj28
  refine factors_and2 ?_ factors_rj27
  refine factors_and2 ?_ factors_rj26
  refine factors_and2 ?_ factors_rj25
  refine factors_and2 ?_ factors_rj24
  refine factors_and2 ?_ factors_rj23
  refine factors_and2 ?_ factors_rj22
  refine factors_and2 ?_ factors_rj21
  refine factors_and2 ?_ factors_rj20
  refine factors_and2 ?_ factors_rj19
  refine factors_and2 ?_ factors_rj18
  refine factors_and2 ?_ factors_rj17
  refine factors_and2 ?_ factors_rj16
  refine factors_and2 ?_ factors_rj15
  refine factors_and2 ?_ factors_rj14
  refine factors_and2 ?_ factors_rj13
  refine factors_and2 ?_ factors_rj12
  refine factors_and2 ?_ factors_rj11
  refine factors_and2 ?_ factors_rj10
  refine factors_and2 ?_ factors_rj9
  refine factors_and2 ?_ factors_rj8
  refine factors_and2 ?_ factors_rj7
  refine factors_and2 ?_ factors_rj6
  refine factors_and2 ?_ factors_rj5
  refine factors_and2 ?_ factors_rj4
  refine factors_and2 ?_ factors_rj3
  refine factors_and2 ?_ factors_rj2
  refine factors_and2 ?_ factors_rj1
  exact factors_rj0
theorem factors_leaving_of_handed {a : Assume} {C : Checked} {os : Os} {f : FuncId} {r : Reach} {Pre : World → Array Value → Prop} {Post : World → Array Value → Value → World → Prop}
    (h : ReturnsInHanded a C os f r Pre Post) : ReturnsInLeavingWide a C os f r Pre Post := fun enter =>
  ReturnsInOpen.mono (fun _ _ _ x => ⟨x.2.1, onlyLeaving_of_quiet x.1, x.2.2⟩) (fun _ x => x) (h enter)
end Go.Proofs.YteggbenhffmijaaGreatDoor
