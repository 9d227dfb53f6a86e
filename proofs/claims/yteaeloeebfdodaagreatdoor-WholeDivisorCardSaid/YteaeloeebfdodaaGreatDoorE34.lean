/- Part 34 of the proofs that laws of package whole answer true at every input and leave the input as it was, where the library's variables start as the text lays them (the texts YE2). -/
import Derived.Test.YteaeloeebfdodaaGreatDoorRows
import Derived.Conc.Holds
set_option linter.unusedVariables false
set_option linter.unusedSimpArgs false
/- WholeDivisor: the closed facts that the row asks of the program. -/
namespace Go.Proofs.YteaeloeebfdodaaGreatDoor
set_option maxRecDepth 100000
theorem divisor_and2 {a b : Bool} (h1 : a = true) (h2 : b = true) : (a && b) = true := by rw [h1, h2]; rfl
theorem divisor_rj0 : (Rows.wholeDivisorRow.wf (OpenSpec.ofChange Rows.wholeDivisorSpec)) = true := by kernel_rfl
theorem divisor_rj1 : (laidOutB Tryz.pinned.checked.prog) = true := by kernel_rfl
theorem divisor_rj2 : (mapsRowed Tryz.pinned.checked.prog) = true := by kernel_rfl
theorem divisor_rj3 : (Tryz.f8.params.all (Tryz.pinned.checked.prog.readableRec ·)) = true := by kernel_rfl
theorem divisor_rj4 : (namedTie Tryz.pinned.checked.prog Rows.wholeDivisorRow.named Rows.wholeDivisorSpec.vars) = true := by kernel_rfl
theorem divisor_rj5 : ((Rows.wholeDivisorRow.stops == [])) = true := by kernel_rfl
theorem divisor_rj6 : ((Tryz.pinned.checked.prog.stops == [])) = true := by kernel_rfl
theorem divisor_rj7 : ((Rows.wholeDivisorRow.knobs == [])) = true := by kernel_rfl
theorem divisor_rj8 : ((Tryz.pinned.checked.prog.stopKnobs == [])) = true := by kernel_rfl
theorem divisor_rj9 : ((Rows.wholeDivisorRow.inPlace == Tryz.pinned.checked.prog.inPlace 8)) = true := by kernel_rfl
theorem divisor_rj10 : ((Rows.wholeDivisorRow.unfollowed == Tryz.pinned.checked.prog.unfollowed 8)) = true := by kernel_rfl
theorem divisor_rj11 : ((Rows.wholeDivisorRow.recurses == Tryz.pinned.checked.prog.recurses 8)) = true := by kernel_rfl
theorem divisor_rj12 : ((Rows.wholeDivisorRow.named == Tryz.pinned.checked.prog.varsNamed 8)) = true := by kernel_rfl
theorem divisor_rj13 : ((Rows.wholeDivisorRow.maps == (Tryz.f8.params.toList ++ Rows.wholeDivisorSpec.plain.varTypes Tryz.pinned.checked.prog).any (Tryz.pinned.checked.prog.mapsRec ·))) = true := by kernel_rfl
theorem divisor_rj14 : ((Rows.wholeDivisorRow.ifaces == (Tryz.f8.params.toList ++ Rows.wholeDivisorSpec.plain.varTypes Tryz.pinned.checked.prog).any (Tryz.pinned.checked.prog.ifacesRec ·))) = true := by kernel_rfl
theorem divisor_rj15 : ((Rows.wholeDivisorRow.mapsOut == Tryz.pinned.checked.prog.mapsAmong Tryz.f8.resultTypes.toList)) = true := by kernel_rfl
theorem divisor_rj16 : ((Rows.wholeDivisorRow.loops == (Tryz.f8.params.toList ++ Rows.wholeDivisorSpec.plain.varTypes Tryz.pinned.checked.prog).any (Tryz.pinned.checked.prog.loopsFrom ·))) = true := by kernel_rfl
theorem divisor_rj17 : ((Rows.wholeDivisorRow.wideKeys == (Tryz.f8.params.toList ++ Rows.wholeDivisorSpec.plain.varTypes Tryz.pinned.checked.prog ++ Tryz.f8.resultTypes.toList).any (Tryz.pinned.checked.prog.wideKeysFrom ·))) = true := by kernel_rfl
theorem divisor_rj18 : (Rows.wholeDivisorSpec.vars.all (Tryz.pinned.checked.prog.varReadable ·)) = true := by kernel_rfl
theorem divisor_rj19 : (Tryz.f8.resultTypes.all (fun t => Tryz.pinned.checked.prog.readableRec t && decide (t < Tryz.pinned.checked.prog.types.size))) = true := by kernel_rfl
theorem divisor_rj20 : ((Rows.wholeDivisorRow.ifacesOut == Tryz.f8.resultTypes.toList.any (Tryz.pinned.checked.prog.ifacesRec ·))) = true := by kernel_rfl
theorem divisor_rj21 : ((Rows.wholeDivisorRow.loopsOut == Tryz.f8.resultTypes.toList.any (Tryz.pinned.checked.prog.loopsFrom ·))) = true := by kernel_rfl
theorem divisor_rj22 : ((Rows.wholeDivisorRow.plainKeys == Tryz.pinned.checked.prog.plainKeys)) = true := by kernel_rfl
theorem divisor_rj23 : (Rows.wholeDivisorRow.shortTexts.isNone) = true := by kernel_rfl
theorem divisor_rj24 : (Tryz.pinned.checked.prog.stopsHeard) = true := by kernel_rfl
theorem divisor_rj25 : (Tryz.pinned.checked.prog.mayEnter) = true := by kernel_rfl
theorem divisor_rj26 : ((Rows.wholeDivisorRow.lifted == Tryz.pinned.checked.prog.liftsFinal)) = true := by kernel_rfl
theorem divisor_rj27 : ((Tryz.pinned.checked.prog.make == some Rows.wholeDivisorRow.make)) = true := by kernel_rfl
theorem divisor_rj28 : ((Rows.wholeDivisorRow.kinds == (if Rows.wholeDivisorRow.domain.isEmpty then [] else Tryz.f8.params.toList.map fun t => match Tryz.pinned.checked.prog.underlying t with | some (.int k) => some k | _ => none))) = true := by kernel_rfl
theorem divisor_rj29 : ((Rows.wholeDivisorRow.pinned == Rows.wholeDivisorRow.pinnedBy)) = true := by kernel_rfl
theorem divisor_rj30 : ((Rows.wholeDivisorRow.veiled == (Tryz.f8.params.toList ++ Rows.wholeDivisorSpec.plain.varTypes Tryz.pinned.checked.prog ++ Tryz.f8.resultTypes.toList).any (Tryz.pinned.checked.prog.veiledRec ·))) = true := by kernel_rfl
theorem divisor_rj31 : (Rows.wholeDivisorRow.veiledFits Tryz.pinned.checked.prog Tryz.f8.params.toList (Tryz.f8.params.toList ++ Rows.wholeDivisorSpec.plain.varTypes Tryz.pinned.checked.prog ++ Tryz.f8.resultTypes.toList)) = true := by kernel_rfl
theorem divisor_joined : joinedFacts Tryz.pinned.checked.prog 8 Tryz.f8 Rows.wholeDivisorSpec Rows.wholeDivisorRow = true := by
  unfold joinedFacts
  refine divisor_and2 ?_ divisor_rj31
  refine divisor_and2 ?_ divisor_rj30
  refine divisor_and2 ?_ divisor_rj29
  refine divisor_and2 ?_ divisor_rj28
  refine divisor_and2 ?_ divisor_rj27
  refine divisor_and2 ?_ divisor_rj26
  refine divisor_and2 ?_ divisor_rj25
  refine divisor_and2 ?_ divisor_rj24
  refine divisor_and2 ?_ divisor_rj23
  refine divisor_and2 ?_ divisor_rj22
  refine divisor_and2 ?_ divisor_rj21
  refine divisor_and2 ?_ divisor_rj20
  refine divisor_and2 ?_ divisor_rj19
  refine divisor_and2 ?_ divisor_rj18
  refine divisor_and2 ?_ divisor_rj17
  refine divisor_and2 ?_ divisor_rj16
  refine divisor_and2 ?_ divisor_rj15
  refine divisor_and2 ?_ divisor_rj14
  refine divisor_and2 ?_ divisor_rj13
  refine divisor_and2 ?_ divisor_rj12
  refine divisor_and2 ?_ divisor_rj11
  refine divisor_and2 ?_ divisor_rj10
  refine divisor_and2 ?_ divisor_rj9
  refine divisor_and2 ?_ divisor_rj8
  refine divisor_and2 ?_ divisor_rj7
  refine divisor_and2 ?_ divisor_rj6
  refine divisor_and2 ?_ divisor_rj5
  refine divisor_and2 ?_ divisor_rj4
  refine divisor_and2 ?_ divisor_rj3
  refine divisor_and2 ?_ divisor_rj2
  refine divisor_and2 ?_ divisor_rj1
  exact divisor_rj0
theorem divisor_leaving_of_handed {a : Assume} {C : Checked} {os : Os} {f : FuncId} {r : Reach} {Pre : World → Array Value → Prop} {Post : World → Array Value → Value → World → Prop}
    (h : ReturnsInHanded a C os f r Pre Post) : ReturnsInLeavingWide a C os f r Pre Post := fun enter =>
  ReturnsInOpen.mono (fun _ _ _ x => ⟨x.2.1, onlyLeaving_of_quiet x.1, x.2.2⟩) (fun _ x => x) (h enter)
end Go.Proofs.YteaeloeebfdodaaGreatDoor
