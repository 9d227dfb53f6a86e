/- Part 47 of the proofs that laws of package whole answer true at every input and leave the input as it was, where the library's variables start as the text lays them (the texts YC2). -/
import Derived.Test.YteaeloeebfdodaaGreatDoorRows
import Derived.Conc.Holds
set_option linter.unusedVariables false
set_option linter.unusedSimpArgs false
/- WholePower: the closed facts that the row asks of the program. -/
namespace Go.Proofs.YteaeloeebfdodaaGreatDoor
set_option maxRecDepth 100000
theorem power_and2 {a b : Bool} (h1 : a = true) (h2 : b = true) : (a && b) = true := by rw [h1, h2]; rfl
theorem power_rj0 : (Rows.wholePowerRow.wf (OpenSpec.ofChange Rows.wholePowerSpec)) = true := by kernel_rfl
theorem power_rj1 : (laidOutB Tryz.pinned.checked.prog) = true := by kernel_rfl
theorem power_rj2 : (mapsRowed Tryz.pinned.checked.prog) = true := by kernel_rfl
theorem power_rj3 : (Tryz.f4.params.all (Tryz.pinned.checked.prog.readableRec ·)) = true := by kernel_rfl
theorem power_rj4 : (namedTie Tryz.pinned.checked.prog Rows.wholePowerRow.named Rows.wholePowerSpec.vars) = true := by kernel_rfl
theorem power_rj5 : ((Rows.wholePowerRow.stops == [])) = true := by kernel_rfl
theorem power_rj6 : ((Tryz.pinned.checked.prog.stops == [])) = true := by kernel_rfl
theorem power_rj7 : ((Rows.wholePowerRow.knobs == [])) = true := by kernel_rfl
theorem power_rj8 : ((Tryz.pinned.checked.prog.stopKnobs == [])) = true := by kernel_rfl
theorem power_rj9 : ((Rows.wholePowerRow.inPlace == Tryz.pinned.checked.prog.inPlace 4)) = true := by kernel_rfl
theorem power_rj10 : ((Rows.wholePowerRow.unfollowed == Tryz.pinned.checked.prog.unfollowed 4)) = true := by kernel_rfl
theorem power_rj11 : ((Rows.wholePowerRow.recurses == Tryz.pinned.checked.prog.recurses 4)) = true := by kernel_rfl
theorem power_rj12 : ((Rows.wholePowerRow.named == Tryz.pinned.checked.prog.varsNamed 4)) = true := by kernel_rfl
theorem power_rj13 : ((Rows.wholePowerRow.maps == (Tryz.f4.params.toList ++ Rows.wholePowerSpec.plain.varTypes Tryz.pinned.checked.prog).any (Tryz.pinned.checked.prog.mapsRec ·))) = true := by kernel_rfl
theorem power_rj14 : ((Rows.wholePowerRow.ifaces == (Tryz.f4.params.toList ++ Rows.wholePowerSpec.plain.varTypes Tryz.pinned.checked.prog).any (Tryz.pinned.checked.prog.ifacesRec ·))) = true := by kernel_rfl
theorem power_rj15 : ((Rows.wholePowerRow.mapsOut == Tryz.pinned.checked.prog.mapsAmong Tryz.f4.resultTypes.toList)) = true := by kernel_rfl
theorem power_rj16 : ((Rows.wholePowerRow.loops == (Tryz.f4.params.toList ++ Rows.wholePowerSpec.plain.varTypes Tryz.pinned.checked.prog).any (Tryz.pinned.checked.prog.loopsFrom ·))) = true := by kernel_rfl
theorem power_rj17 : ((Rows.wholePowerRow.wideKeys == (Tryz.f4.params.toList ++ Rows.wholePowerSpec.plain.varTypes Tryz.pinned.checked.prog ++ Tryz.f4.resultTypes.toList).any (Tryz.pinned.checked.prog.wideKeysFrom ·))) = true := by kernel_rfl
theorem power_rj18 : (Rows.wholePowerSpec.vars.all (Tryz.pinned.checked.prog.varReadable ·)) = true := by kernel_rfl
theorem power_rj19 : (Tryz.f4.resultTypes.all (fun t => Tryz.pinned.checked.prog.readableRec t && decide (t < Tryz.pinned.checked.prog.types.size))) = true := by kernel_rfl
theorem power_rj20 : ((Rows.wholePowerRow.ifacesOut == Tryz.f4.resultTypes.toList.any (Tryz.pinned.checked.prog.ifacesRec ·))) = true := by kernel_rfl
theorem power_rj21 : ((Rows.wholePowerRow.loopsOut == Tryz.f4.resultTypes.toList.any (Tryz.pinned.checked.prog.loopsFrom ·))) = true := by kernel_rfl
theorem power_rj22 : ((Rows.wholePowerRow.plainKeys == Tryz.pinned.checked.prog.plainKeys)) = true := by kernel_rfl
theorem power_rj23 : (Rows.wholePowerRow.shortTexts.isNone) = true := by kernel_rfl
theorem power_rj24 : (Tryz.pinned.checked.prog.stopsHeard) = true := by kernel_rfl
theorem power_rj25 : (Tryz.pinned.checked.prog.mayEnter) = true := by kernel_rfl
theorem power_rj26 : ((Rows.wholePowerRow.lifted == Tryz.pinned.checked.prog.liftsFinal)) = true := by kernel_rfl
theorem power_rj27 : ((Tryz.pinned.checked.prog.make == some Rows.wholePowerRow.make)) = true := by kernel_rfl
theorem power_rj28 : ((Rows.wholePowerRow.kinds == (if Rows.wholePowerRow.domain.isEmpty then [] else Tryz.f4.params.toList.map fun t => match Tryz.pinned.checked.prog.underlying t with | some (.int k) => some k | _ => none))) = true := by kernel_rfl
theorem power_rj29 : ((Rows.wholePowerRow.pinned == Rows.wholePowerRow.pinnedBy)) = true := by kernel_rfl
theorem power_rj30 : ((Rows.wholePowerRow.veiled == (Tryz.f4.params.toList ++ Rows.wholePowerSpec.plain.varTypes Tryz.pinned.checked.prog ++ Tryz.f4.resultTypes.toList).any (Tryz.pinned.checked.prog.veiledRec ·))) = true := by kernel_rfl
theorem power_rj31 : (Rows.wholePowerRow.veiledFits Tryz.pinned.checked.prog Tryz.f4.params.toList (Tryz.f4.params.toList ++ Rows.wholePowerSpec.plain.varTypes Tryz.pinned.checked.prog ++ Tryz.f4.resultTypes.toList)) = true := by kernel_rfl
theorem power_joined : joinedFacts Tryz.pinned.checked.prog 4 Tryz.f4 Rows.wholePowerSpec Rows.wholePowerRow = true := by
  unfold joinedFacts
  refine power_and2 ?_ power_rj31
  refine power_and2 ?_ power_rj30
  refine power_and2 ?_ power_rj29
  refine power_and2 ?_ power_rj28
  refine power_and2 ?_ power_rj27
  refine power_and2 ?_ power_rj26
  refine power_and2 ?_ power_rj25
  refine power_and2 ?_ power_rj24
  refine power_and2 ?_ power_rj23
  refine power_and2 ?_ power_rj22
  refine power_and2 ?_ power_rj21
  refine power_and2 ?_ power_rj20
  refine power_and2 ?_ power_rj19
  refine power_and2 ?_ power_rj18
  refine power_and2 ?_ power_rj17
  refine power_and2 ?_ power_rj16
  refine power_and2 ?_ power_rj15
  refine power_and2 ?_ power_rj14
  refine power_and2 ?_ power_rj13
  refine power_and2 ?_ power_rj12
  refine power_and2 ?_ power_rj11
  refine power_and2 ?_ power_rj10
  refine power_and2 ?_ power_rj9
  refine power_and2 ?_ power_rj8
  refine power_and2 ?_ power_rj7
  refine power_and2 ?_ power_rj6
  refine power_and2 ?_ power_rj5
  refine power_and2 ?_ power_rj4
  refine power_and2 ?_ power_rj3
  refine power_and2 ?_ power_rj2
  refine power_and2 ?_ power_rj1
  exact power_rj0
theorem power_leaving_of_handed {a : Assume} {C : Checked} {os : Os} {f : FuncId} {r : Reach} {Pre : World → Array Value → Prop} {Post : World → Array Value → Value → World → Prop}
    (h : ReturnsInHanded a C os f r Pre Post) : ReturnsInLeavingWide a C os f r Pre Post := fun enter =>
  ReturnsInOpen.mono (fun _ _ _ x => ⟨x.2.1, onlyLeaving_of_quiet x.1, x.2.2⟩) (fun _ x => x) (h enter)
end Go.Proofs.YteaeloeebfdodaaGreatDoor
