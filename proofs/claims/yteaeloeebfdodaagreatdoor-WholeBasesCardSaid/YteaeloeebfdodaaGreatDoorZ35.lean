/- Part 35 of the proofs that laws of package whole answer true at every input and leave the input as it was, where the library's variables start as the text lays them (the texts YG2). -/
import Derived.Test.YteaeloeebfdodaaGreatDoorRows
import Derived.Conc.Holds
set_option linter.unusedVariables false
set_option linter.unusedSimpArgs false
namespace Go.Proofs.YteaeloeebfdodaaGreatDoor
set_option maxRecDepth 100000
theorem bases_and2 {a b : Bool} (h1 : a = true) (h2 : b = true) : (a && b) = true := by rw [h1, h2]; rfl
theorem bases_rj0 : (Rows.wholeBasesRow.wf (OpenSpec.ofChange Rows.wholeBasesSpec)) = true := by kernel_rfl
theorem bases_rj1 : (laidOutB Tryz.pinned.checked.prog) = true := by kernel_rfl
theorem bases_rj2 : (mapsRowed Tryz.pinned.checked.prog) = true := by kernel_rfl
theorem bases_rj3 : (Tryz.f9.params.all (Tryz.pinned.checked.prog.readableRec ·)) = true := by kernel_rfl
theorem bases_rj4 : (namedTie Tryz.pinned.checked.prog Rows.wholeBasesRow.named Rows.wholeBasesSpec.vars) = true := by kernel_rfl
theorem bases_rj5 : ((Rows.wholeBasesRow.stops == [])) = true := by kernel_rfl
theorem bases_rj6 : ((Tryz.pinned.checked.prog.stops == [])) = true := by kernel_rfl
theorem bases_rj7 : ((Rows.wholeBasesRow.knobs == [])) = true := by kernel_rfl
theorem bases_rj8 : ((Tryz.pinned.checked.prog.stopKnobs == [])) = true := by kernel_rfl
theorem bases_rj9 : ((Rows.wholeBasesRow.inPlace == Tryz.pinned.checked.prog.inPlace 9)) = true := by kernel_rfl
theorem bases_rj10 : ((Rows.wholeBasesRow.unfollowed == Tryz.pinned.checked.prog.unfollowed 9)) = true := by kernel_rfl
theorem bases_rj11 : ((Rows.wholeBasesRow.recurses == Tryz.pinned.checked.prog.recurses 9)) = true := by kernel_rfl
theorem bases_rj12 : ((Rows.wholeBasesRow.named == Tryz.pinned.checked.prog.varsNamed 9)) = true := by kernel_rfl
theorem bases_rj13 : ((Rows.wholeBasesRow.maps == (Tryz.f9.params.toList ++ Rows.wholeBasesSpec.plain.varTypes Tryz.pinned.checked.prog).any (Tryz.pinned.checked.prog.mapsRec ·))) = true := by kernel_rfl
theorem bases_rj14 : ((Rows.wholeBasesRow.ifaces == (Tryz.f9.params.toList ++ Rows.wholeBasesSpec.plain.varTypes Tryz.pinned.checked.prog).any (Tryz.pinned.checked.prog.ifacesRec ·))) = true := by kernel_rfl
theorem bases_rj15 : ((Rows.wholeBasesRow.mapsOut == Tryz.pinned.checked.prog.mapsAmong Tryz.f9.resultTypes.toList)) = true := by kernel_rfl
theorem bases_rj16 : ((Rows.wholeBasesRow.loops == (Tryz.f9.params.toList ++ Rows.wholeBasesSpec.plain.varTypes Tryz.pinned.checked.prog).any (Tryz.pinned.checked.prog.loopsFrom ·))) = true := by kernel_rfl
theorem bases_rj17 : ((Rows.wholeBasesRow.wideKeys == (Tryz.f9.params.toList ++ Rows.wholeBasesSpec.plain.varTypes Tryz.pinned.checked.prog ++ Tryz.f9.resultTypes.toList).any (Tryz.pinned.checked.prog.wideKeysFrom ·))) = true := by kernel_rfl
theorem bases_rj18 : (Rows.wholeBasesSpec.vars.all (Tryz.pinned.checked.prog.varReadable ·)) = true := by kernel_rfl
theorem bases_rj19 : (Tryz.f9.resultTypes.all (fun t => Tryz.pinned.checked.prog.readableRec t && decide (t < Tryz.pinned.checked.prog.types.size))) = true := by kernel_rfl
theorem bases_rj20 : ((Rows.wholeBasesRow.ifacesOut == Tryz.f9.resultTypes.toList.any (Tryz.pinned.checked.prog.ifacesRec ·))) = true := by kernel_rfl
theorem bases_rj21 : ((Rows.wholeBasesRow.loopsOut == Tryz.f9.resultTypes.toList.any (Tryz.pinned.checked.prog.loopsFrom ·))) = true := by kernel_rfl
theorem bases_rj22 : ((Rows.wholeBasesRow.plainKeys == Tryz.pinned.checked.prog.plainKeys)) = true := by kernel_rfl
theorem bases_rj23 : (Rows.wholeBasesRow.shortTexts.isNone) = true := by kernel_rfl
theorem bases_rj24 : (Tryz.pinned.checked.prog.stopsHeard) = true := by kernel_rfl
theorem bases_rj25 : (Tryz.pinned.checked.prog.mayEnter) = true := by kernel_rfl
theorem bases_rj26 : ((Rows.wholeBasesRow.lifted == Tryz.pinned.checked.prog.liftsFinal)) = true := by kernel_rfl
theorem bases_rj27 : ((Tryz.pinned.checked.prog.make == some Rows.wholeBasesRow.make)) = true := by kernel_rfl
theorem bases_rj28 : ((Rows.wholeBasesRow.kinds == (if Rows.wholeBasesRow.domain.isEmpty then [] else Tryz.f9.params.toList.map fun t => match Tryz.pinned.checked.prog.underlying t with | some (.int k) => some k | _ => none))) = true := by kernel_rfl
theorem bases_rj29 : ((Rows.wholeBasesRow.pinned == Rows.wholeBasesRow.pinnedBy)) = true := by kernel_rfl
theorem bases_rj30 : ((Rows.wholeBasesRow.veiled == (Tryz.f9.params.toList ++ Rows.wholeBasesSpec.plain.varTypes Tryz.pinned.checked.prog ++ Tryz.f9.resultTypes.toList).any (Tryz.pinned.checked.prog.veiledRec ·))) = true := by kernel_rfl
theorem bases_rj31 : (Rows.wholeBasesRow.veiledFits Tryz.pinned.checked.prog Tryz.f9.params.toList (Tryz.f9.params.toList ++ Rows.wholeBasesSpec.plain.varTypes Tryz.pinned.checked.prog ++ Tryz.f9.resultTypes.toList)) = true := by kernel_rfl
theorem bases_joined : joinedFacts Tryz.pinned.checked.prog 9 Tryz.f9 Rows.wholeBasesSpec Rows.wholeBasesRow = true := by
  unfold joinedFacts
  refine bases_and2 ?_ bases_rj31
  refine bases_and2 ?_ bases_rj30
  refine bases_and2 ?_ bases_rj29
  refine bases_and2 ?_ bases_rj28
  refine bases_and2 ?_ bases_rj27
  refine bases_and2 ?_ bases_rj26
  refine bases_and2 ?_ bases_rj25
  refine bases_and2 ?_ bases_rj24
  refine bases_and2 ?_ bases_rj23
  refine bases_and2 ?_ bases_rj22
  refine bases_and2 ?_ bases_rj21
  refine bases_and2 ?_ bases_rj20
  refine bases_and2 ?_ bases_rj19
  refine bases_and2 ?_ bases_rj18
  refine bases_and2 ?_ bases_rj17
  refine bases_and2 ?_ bases_rj16
  refine bases_and2 ?_ bases_rj15
  refine bases_and2 ?_ bases_rj14
  refine bases_and2 ?_ bases_rj13
  refine bases_and2 ?_ bases_rj12
  refine bases_and2 ?_ bases_rj11
  refine bases_and2 ?_ bases_rj10
  refine bases_and2 ?_ bases_rj9
  refine bases_and2 ?_ bases_rj8
  refine bases_and2 ?_ bases_rj7
  refine bases_and2 ?_ bases_rj6
  refine bases_and2 ?_ bases_rj5
  refine bases_and2 ?_ bases_rj4
  refine bases_and2 ?_ bases_rj3
  refine bases_and2 ?_ bases_rj2
  refine bases_and2 ?_ bases_rj1
  exact bases_rj0
theorem bases_leaving_of_handed {a : Assume} {C : Checked} {os : Os} {f : FuncId} {r : Reach} {Pre : World → Array Value → Prop} {Post : World → Array Value → Value → World → Prop}
    (h : ReturnsInHanded a C os f r Pre Post) : ReturnsInLeavingWide a C os f r Pre Post := fun enter =>
  ReturnsInOpen.mono (fun _ _ _ x => ⟨x.2.1, onlyLeaving_of_quiet x.1, x.2.2⟩) (fun _ x => x) (h enter)
end Go.Proofs.YteaeloeebfdodaaGreatDoor
