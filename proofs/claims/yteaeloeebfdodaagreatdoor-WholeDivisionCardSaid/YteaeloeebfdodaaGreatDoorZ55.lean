/- Part 55 of the proofs that laws of package whole answer true at every input and leave the input as it was, where the library's variables start as the text lays them (the texts YB2). -/
import Derived.Test.YteaeloeebfdodaaGreatDoorRows
import Derived.Conc.Holds
set_option linter.unusedVariables false
set_option linter.unusedSimpArgs false
/- WholeDivision: the closed facts that the row asks of the program. -/
namespace Go.Proofs.YteaeloeebfdodaaGreatDoor
set_option maxRecDepth 100000
theorem division_and2 {a b : Bool} (h1 : a = true) (h2 : b = true) : (a && b) = true := by rw [h1, h2]; rfl
theorem division_rj0 : (Rows.wholeDivisionRow.wf (OpenSpec.ofChange Rows.wholeDivisionSpec)) = true := by kernel_rfl
theorem division_rj1 : (laidOutB Tryz.pinned.checked.prog) = true := by kernel_rfl
theorem division_rj2 : (mapsRowed Tryz.pinned.checked.prog) = true := by kernel_rfl
theorem division_rj3 : (Tryz.f6.params.all (Tryz.pinned.checked.prog.readableRec ·)) = true := by kernel_rfl
theorem division_rj4 : (namedTie Tryz.pinned.checked.prog Rows.wholeDivisionRow.named Rows.wholeDivisionSpec.vars) = true := by kernel_rfl
theorem division_rj5 : ((Rows.wholeDivisionRow.stops == [])) = true := by kernel_rfl
theorem division_rj6 : ((Tryz.pinned.checked.prog.stops == [])) = true := by kernel_rfl
theorem division_rj7 : ((Rows.wholeDivisionRow.knobs == [])) = true := by kernel_rfl
theorem division_rj8 : ((Tryz.pinned.checked.prog.stopKnobs == [])) = true := by kernel_rfl
theorem division_rj9 : ((Rows.wholeDivisionRow.inPlace == Tryz.pinned.checked.prog.inPlace 6)) = true := by kernel_rfl
theorem division_rj10 : ((Rows.wholeDivisionRow.unfollowed == Tryz.pinned.checked.prog.unfollowed 6)) = true := by kernel_rfl
theorem division_rj11 : ((Rows.wholeDivisionRow.recurses == Tryz.pinned.checked.prog.recurses 6)) = true := by kernel_rfl
theorem division_rj12 : ((Rows.wholeDivisionRow.named == Tryz.pinned.checked.prog.varsNamed 6)) = true := by kernel_rfl
theorem division_rj13 : ((Rows.wholeDivisionRow.maps == (Tryz.f6.params.toList ++ Rows.wholeDivisionSpec.plain.varTypes Tryz.pinned.checked.prog).any (Tryz.pinned.checked.prog.mapsRec ·))) = true := by kernel_rfl
theorem division_rj14 : ((Rows.wholeDivisionRow.ifaces == (Tryz.f6.params.toList ++ Rows.wholeDivisionSpec.plain.varTypes Tryz.pinned.checked.prog).any (Tryz.pinned.checked.prog.ifacesRec ·))) = true := by kernel_rfl
theorem division_rj15 : ((Rows.wholeDivisionRow.mapsOut == Tryz.pinned.checked.prog.mapsAmong Tryz.f6.resultTypes.toList)) = true := by kernel_rfl
theorem division_rj16 : ((Rows.wholeDivisionRow.loops == (Tryz.f6.params.toList ++ Rows.wholeDivisionSpec.plain.varTypes Tryz.pinned.checked.prog).any (Tryz.pinned.checked.prog.loopsFrom ·))) = true := by kernel_rfl
theorem division_rj17 : ((Rows.wholeDivisionRow.wideKeys == (Tryz.f6.params.toList ++ Rows.wholeDivisionSpec.plain.varTypes Tryz.pinned.checked.prog ++ Tryz.f6.resultTypes.toList).any (Tryz.pinned.checked.prog.wideKeysFrom ·))) = true := by kernel_rfl
theorem division_rj18 : (Rows.wholeDivisionSpec.vars.all (Tryz.pinned.checked.prog.varReadable ·)) = true := by kernel_rfl
theorem division_rj19 : (Tryz.f6.resultTypes.all (fun t => Tryz.pinned.checked.prog.readableRec t && decide (t < Tryz.pinned.checked.prog.types.size))) = true := by kernel_rfl
theorem division_rj20 : ((Rows.wholeDivisionRow.ifacesOut == Tryz.f6.resultTypes.toList.any (Tryz.pinned.checked.prog.ifacesRec ·))) = true := by kernel_rfl
theorem division_rj21 : ((Rows.wholeDivisionRow.loopsOut == Tryz.f6.resultTypes.toList.any (Tryz.pinned.checked.prog.loopsFrom ·))) = true := by kernel_rfl
theorem division_rj22 : ((Rows.wholeDivisionRow.plainKeys == Tryz.pinned.checked.prog.plainKeys)) = true := by kernel_rfl
theorem division_rj23 : (Rows.wholeDivisionRow.shortTexts.isNone) = true := by kernel_rfl
theorem division_rj24 : (Tryz.pinned.checked.prog.stopsHeard) = true := by kernel_rfl
theorem division_rj25 : (Tryz.pinned.checked.prog.mayEnter) = true := by kernel_rfl
theorem division_rj26 : ((Rows.wholeDivisionRow.lifted == Tryz.pinned.checked.prog.liftsFinal)) = true := by kernel_rfl
theorem division_rj27 : ((Tryz.pinned.checked.prog.make == some Rows.wholeDivisionRow.make)) = true := by kernel_rfl
theorem division_rj28 : ((Rows.wholeDivisionRow.kinds == (if Rows.wholeDivisionRow.domain.isEmpty then [] else Tryz.f6.params.toList.map fun t => match Tryz.pinned.checked.prog.underlying t with | some (.int k) => some k | _ => none))) = true := by kernel_rfl
theorem division_rj29 : ((Rows.wholeDivisionRow.pinned == Rows.wholeDivisionRow.pinnedBy)) = true := by kernel_rfl
theorem division_rj30 : ((Rows.wholeDivisionRow.veiled == (Tryz.f6.params.toList ++ Rows.wholeDivisionSpec.plain.varTypes Tryz.pinned.checked.prog ++ Tryz.f6.resultTypes.toList).any (Tryz.pinned.checked.prog.veiledRec ·))) = true := by kernel_rfl
theorem division_rj31 : (Rows.wholeDivisionRow.veiledFits Tryz.pinned.checked.prog Tryz.f6.params.toList (Tryz.f6.params.toList ++ Rows.wholeDivisionSpec.plain.varTypes Tryz.pinned.checked.prog ++ Tryz.f6.resultTypes.toList)) = true := by kernel_rfl
theorem division_joined : joinedFacts Tryz.pinned.checked.prog 6 Tryz.f6 Rows.wholeDivisionSpec Rows.wholeDivisionRow = true := by
  unfold joinedFacts
  refine division_and2 ?_ division_rj31
  refine division_and2 ?_ division_rj30
  refine division_and2 ?_ division_rj29
  refine division_and2 ?_ division_rj28
  refine division_and2 ?_ division_rj27
  refine division_and2 ?_ division_rj26
  refine division_and2 ?_ division_rj25
  refine division_and2 ?_ division_rj24
  refine division_and2 ?_ division_rj23
  refine division_and2 ?_ division_rj22
  refine division_and2 ?_ division_rj21
  refine division_and2 ?_ division_rj20
  refine division_and2 ?_ division_rj19
  refine division_and2 ?_ division_rj18
  refine division_and2 ?_ division_rj17
  refine division_and2 ?_ division_rj16
  refine division_and2 ?_ division_rj15
  refine division_and2 ?_ division_rj14
  refine division_and2 ?_ division_rj13
  refine division_and2 ?_ division_rj12
  refine division_and2 ?_ division_rj11
  refine division_and2 ?_ division_rj10
  refine division_and2 ?_ division_rj9
  refine division_and2 ?_ division_rj8
  refine division_and2 ?_ division_rj7
  refine division_and2 ?_ division_rj6
  refine division_and2 ?_ division_rj5
  refine division_and2 ?_ division_rj4
  refine division_and2 ?_ division_rj3
  refine division_and2 ?_ division_rj2
  refine division_and2 ?_ division_rj1
  exact division_rj0
theorem division_leaving_of_handed {a : Assume} {C : Checked} {os : Os} {f : FuncId} {r : Reach} {Pre : World → Array Value → Prop} {Post : World → Array Value → Value → World → Prop}
    (h : ReturnsInHanded a C os f r Pre Post) : ReturnsInLeavingWide a C os f r Pre Post := fun enter =>
  ReturnsInOpen.mono (fun _ _ _ x => ⟨x.2.1, onlyLeaving_of_quiet x.1, x.2.2⟩) (fun _ x => x) (h enter)
end Go.Proofs.YteaeloeebfdodaaGreatDoor
