/- Part 57 of the proofs that laws of package whole answer true at every input and leave the input as it was, where the library's variables start as the text lays them (the texts YD2). -/
import Derived.Test.YteaeloeebfdodaaGreatDoorRows
import Derived.Conc.Holds
set_option linter.unusedVariables false
set_option linter.unusedSimpArgs false
/- WholeRooted: the closed facts that the row asks of the program. -/
namespace Go.Proofs.YteaeloeebfdodaaGreatDoor
set_option maxRecDepth 100000
theorem rooted_and2 {a b : Bool} (h1 : a = true) (h2 : b = true) : (a && b) = true := by rw [h1, h2]; rfl
theorem rooted_rj0 : (Rows.wholeRootedRow.wf (OpenSpec.ofChange Rows.wholeRootedSpec)) = true := by kernel_rfl
theorem rooted_rj1 : (laidOutB Tryz.pinned.checked.prog) = true := by kernel_rfl
theorem rooted_rj2 : (mapsRowed Tryz.pinned.checked.prog) = true := by kernel_rfl
theorem rooted_rj3 : (Tryz.f7.params.all (Tryz.pinned.checked.prog.readableRec ·)) = true := by kernel_rfl
theorem rooted_rj4 : (namedTie Tryz.pinned.checked.prog Rows.wholeRootedRow.named Rows.wholeRootedSpec.vars) = true := by kernel_rfl
theorem rooted_rj5 : ((Rows.wholeRootedRow.stops == [])) = true := by kernel_rfl
theorem rooted_rj6 : ((Tryz.pinned.checked.prog.stops == [])) = true := by kernel_rfl
theorem rooted_rj7 : ((Rows.wholeRootedRow.knobs == [])) = true := by kernel_rfl
theorem rooted_rj8 : ((Tryz.pinned.checked.prog.stopKnobs == [])) = true := by kernel_rfl
theorem rooted_rj9 : ((Rows.wholeRootedRow.inPlace == Tryz.pinned.checked.prog.inPlace 7)) = true := by kernel_rfl
theorem rooted_rj10 : ((Rows.wholeRootedRow.unfollowed == Tryz.pinned.checked.prog.unfollowed 7)) = true := by kernel_rfl
theorem rooted_rj11 : ((Rows.wholeRootedRow.recurses == Tryz.pinned.checked.prog.recurses 7)) = true := by kernel_rfl
theorem rooted_rj12 : ((Rows.wholeRootedRow.named == Tryz.pinned.checked.prog.varsNamed 7)) = true := by kernel_rfl
theorem rooted_rj13 : ((Rows.wholeRootedRow.maps == (Tryz.f7.params.toList ++ Rows.wholeRootedSpec.plain.varTypes Tryz.pinned.checked.prog).any (Tryz.pinned.checked.prog.mapsRec ·))) = true := by kernel_rfl
theorem rooted_rj14 : ((Rows.wholeRootedRow.ifaces == (Tryz.f7.params.toList ++ Rows.wholeRootedSpec.plain.varTypes Tryz.pinned.checked.prog).any (Tryz.pinned.checked.prog.ifacesRec ·))) = true := by kernel_rfl
theorem rooted_rj15 : ((Rows.wholeRootedRow.mapsOut == Tryz.pinned.checked.prog.mapsAmong Tryz.f7.resultTypes.toList)) = true := by kernel_rfl
theorem rooted_rj16 : ((Rows.wholeRootedRow.loops == (Tryz.f7.params.toList ++ Rows.wholeRootedSpec.plain.varTypes Tryz.pinned.checked.prog).any (Tryz.pinned.checked.prog.loopsFrom ·))) = true := by kernel_rfl
theorem rooted_rj17 : ((Rows.wholeRootedRow.wideKeys == (Tryz.f7.params.toList ++ Rows.wholeRootedSpec.plain.varTypes Tryz.pinned.checked.prog ++ Tryz.f7.resultTypes.toList).any (Tryz.pinned.checked.prog.wideKeysFrom ·))) = true := by kernel_rfl
theorem rooted_rj18 : (Rows.wholeRootedSpec.vars.all (Tryz.pinned.checked.prog.varReadable ·)) = true := by kernel_rfl
theorem rooted_rj19 : (Tryz.f7.resultTypes.all (fun t => Tryz.pinned.checked.prog.readableRec t && decide (t < Tryz.pinned.checked.prog.types.size))) = true := by kernel_rfl
theorem rooted_rj20 : ((Rows.wholeRootedRow.ifacesOut == Tryz.f7.resultTypes.toList.any (Tryz.pinned.checked.prog.ifacesRec ·))) = true := by kernel_rfl
theorem rooted_rj21 : ((Rows.wholeRootedRow.loopsOut == Tryz.f7.resultTypes.toList.any (Tryz.pinned.checked.prog.loopsFrom ·))) = true := by kernel_rfl
theorem rooted_rj22 : ((Rows.wholeRootedRow.plainKeys == Tryz.pinned.checked.prog.plainKeys)) = true := by kernel_rfl
theorem rooted_rj23 : (Rows.wholeRootedRow.shortTexts.isNone) = true := by kernel_rfl
theorem rooted_rj24 : (Tryz.pinned.checked.prog.stopsHeard) = true := by kernel_rfl
theorem rooted_rj25 : (Tryz.pinned.checked.prog.mayEnter) = true := by kernel_rfl
theorem rooted_rj26 : ((Rows.wholeRootedRow.lifted == Tryz.pinned.checked.prog.liftsFinal)) = true := by kernel_rfl
theorem rooted_rj27 : ((Tryz.pinned.checked.prog.make == some Rows.wholeRootedRow.make)) = true := by kernel_rfl
theorem rooted_rj28 : ((Rows.wholeRootedRow.kinds == (if Rows.wholeRootedRow.domain.isEmpty then [] else Tryz.f7.params.toList.map fun t => match Tryz.pinned.checked.prog.underlying t with | some (.int k) => some k | _ => none))) = true := by kernel_rfl
theorem rooted_rj29 : ((Rows.wholeRootedRow.pinned == Rows.wholeRootedRow.pinnedBy)) = true := by kernel_rfl
theorem rooted_rj30 : ((Rows.wholeRootedRow.veiled == (Tryz.f7.params.toList ++ Rows.wholeRootedSpec.plain.varTypes Tryz.pinned.checked.prog ++ Tryz.f7.resultTypes.toList).any (Tryz.pinned.checked.prog.veiledRec ·))) = true := by kernel_rfl
theorem rooted_rj31 : (Rows.wholeRootedRow.veiledFits Tryz.pinned.checked.prog Tryz.f7.params.toList (Tryz.f7.params.toList ++ Rows.wholeRootedSpec.plain.varTypes Tryz.pinned.checked.prog ++ Tryz.f7.resultTypes.toList)) = true := by kernel_rfl
theorem rooted_joined : joinedFacts Tryz.pinned.checked.prog 7 Tryz.f7 Rows.wholeRootedSpec Rows.wholeRootedRow = true := by
  unfold joinedFacts
  refine rooted_and2 ?_ rooted_rj31
  refine rooted_and2 ?_ rooted_rj30
  refine rooted_and2 ?_ rooted_rj29
  refine rooted_and2 ?_ rooted_rj28
  refine rooted_and2 ?_ rooted_rj27
  refine rooted_and2 ?_ rooted_rj26
  refine rooted_and2 ?_ rooted_rj25
  refine rooted_and2 ?_ rooted_rj24
  refine rooted_and2 ?_ rooted_rj23
  refine rooted_and2 ?_ rooted_rj22
  refine rooted_and2 ?_ rooted_rj21
  refine rooted_and2 ?_ rooted_rj20
  refine rooted_and2 ?_ rooted_rj19
  refine rooted_and2 ?_ rooted_rj18
  refine rooted_and2 ?_ rooted_rj17
  refine rooted_and2 ?_ rooted_rj16
  refine rooted_and2 ?_ rooted_rj15
  refine rooted_and2 ?_ rooted_rj14
  refine rooted_and2 ?_ rooted_rj13
  refine rooted_and2 ?_ rooted_rj12
  refine rooted_and2 ?_ rooted_rj11
  refine rooted_and2 ?_ rooted_rj10
  refine rooted_and2 ?_ rooted_rj9
  refine rooted_and2 ?_ rooted_rj8
  refine rooted_and2 ?_ rooted_rj7
  refine rooted_and2 ?_ rooted_rj6
  refine rooted_and2 ?_ rooted_rj5
  refine rooted_and2 ?_ rooted_rj4
  refine rooted_and2 ?_ rooted_rj3
  refine rooted_and2 ?_ rooted_rj2
  refine rooted_and2 ?_ rooted_rj1
  exact rooted_rj0
theorem rooted_leaving_of_handed {a : Assume} {C : Checked} {os : Os} {f : FuncId} {r : Reach} {Pre : World → Array Value → Prop} {Post : World → Array Value → Value → World → Prop}
    (h : ReturnsInHanded a C os f r Pre Post) : ReturnsInLeavingWide a C os f r Pre Post := fun enter =>
  ReturnsInOpen.mono (fun _ _ _ x => ⟨x.2.1, onlyLeaving_of_quiet x.1, x.2.2⟩) (fun _ x => x) (h enter)
end Go.Proofs.YteaeloeebfdodaaGreatDoor
