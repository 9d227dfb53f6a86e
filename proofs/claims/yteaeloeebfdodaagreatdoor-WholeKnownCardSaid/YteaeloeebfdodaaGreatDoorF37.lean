/- Part 37 of the proofs that laws of package whole answer true at every input and leave the input as it was, where the library's variables start as the text lays them (the texts YF2). -/
import Derived.Test.YteaeloeebfdodaaGreatDoorRows
import Derived.Conc.Holds
set_option linter.unusedVariables false
set_option linter.unusedSimpArgs false
/- WholeKnown: the closed facts that the row asks of the program. -/
namespace Go.Proofs.YteaeloeebfdodaaGreatDoor
set_option maxRecDepth 100000
theorem known_and2 {a b : Bool} (h1 : a = true) (h2 : b = true) : (a && b) = true := by rw [h1, h2]; rfl
theorem known_rj0 : (Rows.wholeKnownRow.wf (OpenSpec.ofChange Rows.wholeKnownSpec)) = true := by kernel_rfl
theorem known_rj1 : (laidOutB Tryz.pinned.checked.prog) = true := by kernel_rfl
theorem known_rj2 : (mapsRowed Tryz.pinned.checked.prog) = true := by kernel_rfl
theorem known_rj3 : (Tryz.f5.params.all (Tryz.pinned.checked.prog.readableRec ·)) = true := by kernel_rfl
theorem known_rj4 : (namedTie Tryz.pinned.checked.prog Rows.wholeKnownRow.named Rows.wholeKnownSpec.vars) = true := by kernel_rfl
theorem known_rj5 : ((Rows.wholeKnownRow.stops == [])) = true := by kernel_rfl
theorem known_rj6 : ((Tryz.pinned.checked.prog.stops == [])) = true := by kernel_rfl
theorem known_rj7 : ((Rows.wholeKnownRow.knobs == [])) = true := by kernel_rfl
theorem known_rj8 : ((Tryz.pinned.checked.prog.stopKnobs == [])) = true := by kernel_rfl
theorem known_rj9 : ((Rows.wholeKnownRow.inPlace == Tryz.pinned.checked.prog.inPlace 5)) = true := by kernel_rfl
theorem known_rj10 : ((Rows.wholeKnownRow.unfollowed == Tryz.pinned.checked.prog.unfollowed 5)) = true := by kernel_rfl
theorem known_rj11 : ((Rows.wholeKnownRow.recurses == Tryz.pinned.checked.prog.recurses 5)) = true := by kernel_rfl
theorem known_rj12 : ((Rows.wholeKnownRow.named == Tryz.pinned.checked.prog.varsNamed 5)) = true := by kernel_rfl
theorem known_rj13 : ((Rows.wholeKnownRow.maps == (Tryz.f5.params.toList ++ Rows.wholeKnownSpec.plain.varTypes Tryz.pinned.checked.prog).any (Tryz.pinned.checked.prog.mapsRec ·))) = true := by kernel_rfl
theorem known_rj14 : ((Rows.wholeKnownRow.ifaces == (Tryz.f5.params.toList ++ Rows.wholeKnownSpec.plain.varTypes Tryz.pinned.checked.prog).any (Tryz.pinned.checked.prog.ifacesRec ·))) = true := by kernel_rfl
theorem known_rj15 : ((Rows.wholeKnownRow.mapsOut == Tryz.pinned.checked.prog.mapsAmong Tryz.f5.resultTypes.toList)) = true := by kernel_rfl
theorem known_rj16 : ((Rows.wholeKnownRow.loops == (Tryz.f5.params.toList ++ Rows.wholeKnownSpec.plain.varTypes Tryz.pinned.checked.prog).any (Tryz.pinned.checked.prog.loopsFrom ·))) = true := by kernel_rfl
theorem known_rj17 : ((Rows.wholeKnownRow.wideKeys == (Tryz.f5.params.toList ++ Rows.wholeKnownSpec.plain.varTypes Tryz.pinned.checked.prog ++ Tryz.f5.resultTypes.toList).any (Tryz.pinned.checked.prog.wideKeysFrom ·))) = true := by kernel_rfl
theorem known_rj18 : (Rows.wholeKnownSpec.vars.all (Tryz.pinned.checked.prog.varReadable ·)) = true := by kernel_rfl
theorem known_rj19 : (Tryz.f5.resultTypes.all (fun t => Tryz.pinned.checked.prog.readableRec t && decide (t < Tryz.pinned.checked.prog.types.size))) = true := by kernel_rfl
theorem known_rj20 : ((Rows.wholeKnownRow.ifacesOut == Tryz.f5.resultTypes.toList.any (Tryz.pinned.checked.prog.ifacesRec ·))) = true := by kernel_rfl
theorem known_rj21 : ((Rows.wholeKnownRow.loopsOut == Tryz.f5.resultTypes.toList.any (Tryz.pinned.checked.prog.loopsFrom ·))) = true := by kernel_rfl
theorem known_rj22 : ((Rows.wholeKnownRow.plainKeys == Tryz.pinned.checked.prog.plainKeys)) = true := by kernel_rfl
theorem known_rj23 : (Rows.wholeKnownRow.shortTexts.isNone) = true := by kernel_rfl
theorem known_rj24 : (Tryz.pinned.checked.prog.stopsHeard) = true := by kernel_rfl
theorem known_rj25 : (Tryz.pinned.checked.prog.mayEnter) = true := by kernel_rfl
theorem known_rj26 : ((Rows.wholeKnownRow.lifted == Tryz.pinned.checked.prog.liftsFinal)) = true := by kernel_rfl
theorem known_rj27 : ((Tryz.pinned.checked.prog.make == some Rows.wholeKnownRow.make)) = true := by kernel_rfl
theorem known_rj28 : ((Rows.wholeKnownRow.kinds == (if Rows.wholeKnownRow.domain.isEmpty then [] else Tryz.f5.params.toList.map fun t => match Tryz.pinned.checked.prog.underlying t with | some (.int k) => some k | _ => none))) = true := by kernel_rfl
theorem known_rj29 : ((Rows.wholeKnownRow.pinned == Rows.wholeKnownRow.pinnedBy)) = true := by kernel_rfl
theorem known_rj30 : ((Rows.wholeKnownRow.veiled == (Tryz.f5.params.toList ++ Rows.wholeKnownSpec.plain.varTypes Tryz.pinned.checked.prog ++ Tryz.f5.resultTypes.toList).any (Tryz.pinned.checked.prog.veiledRec ·))) = true := by kernel_rfl
theorem known_rj31 : (Rows.wholeKnownRow.veiledFits Tryz.pinned.checked.prog Tryz.f5.params.toList (Tryz.f5.params.toList ++ Rows.wholeKnownSpec.plain.varTypes Tryz.pinned.checked.prog ++ Tryz.f5.resultTypes.toList)) = true := by kernel_rfl
theorem known_joined : joinedFacts Tryz.pinned.checked.prog 5 Tryz.f5 Rows.wholeKnownSpec Rows.wholeKnownRow = true := by
  unfold joinedFacts
  refine known_and2 ?_ known_rj31
  refine known_and2 ?_ known_rj30
  refine known_and2 ?_ known_rj29
  refine known_and2 ?_ known_rj28
  refine known_and2 ?_ known_rj27
  refine known_and2 ?_ known_rj26
  refine known_and2 ?_ known_rj25
  refine known_and2 ?_ known_rj24
  refine known_and2 ?_ known_rj23
  refine known_and2 ?_ known_rj22
  refine known_and2 ?_ known_rj21
  refine known_and2 ?_ known_rj20
  refine known_and2 ?_ known_rj19
  refine known_and2 ?_ known_rj18
  refine known_and2 ?_ known_rj17
  refine known_and2 ?_ known_rj16
  refine known_and2 ?_ known_rj15
  refine known_and2 ?_ known_rj14
  refine known_and2 ?_ known_rj13
  refine known_and2 ?_ known_rj12
  refine known_and2 ?_ known_rj11
  refine known_and2 ?_ known_rj10
  refine known_and2 ?_ known_rj9
  refine known_and2 ?_ known_rj8
  refine known_and2 ?_ known_rj7
  refine known_and2 ?_ known_rj6
  refine known_and2 ?_ known_rj5
  refine known_and2 ?_ known_rj4
  refine known_and2 ?_ known_rj3
  refine known_and2 ?_ known_rj2
  refine known_and2 ?_ known_rj1
  exact known_rj0
theorem known_leaving_of_handed {a : Assume} {C : Checked} {os : Os} {f : FuncId} {r : Reach} {Pre : World → Array Value → Prop} {Post : World → Array Value → Value → World → Prop}
    (h : ReturnsInHanded a C os f r Pre Post) : ReturnsInLeavingWide a C os f r Pre Post := fun enter =>
  ReturnsInOpen.mono (fun _ _ _ x => ⟨x.2.1, onlyLeaving_of_quiet x.1, x.2.2⟩) (fun _ x => x) (h enter)
end Go.Proofs.YteaeloeebfdodaaGreatDoor
