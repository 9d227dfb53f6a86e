/- Part 42 of the proofs that laws of package whole answer true at every input and leave the input as it was, where the library's variables start as the text lays them (the texts YA2). -/
import Derived.Test.YteaeloeebfdodaaGreatDoorRows
import Derived.Conc.Holds
set_option linter.unusedVariables false
set_option linter.unusedSimpArgs false
/- WholeOrder: the closed facts that the row asks of the program. -/
namespace Go.Proofs.YteaeloeebfdodaaGreatDoor
set_option maxRecDepth 100000
theorem order_and2 {a b : Bool} (h1 : a = true) (h2 : b = true) : (a && b) = true := by rw [h1, h2]; rfl
theorem order_rj0 : (Rows.wholeOrderRow.wf (OpenSpec.ofChange Rows.wholeOrderSpec)) = true := by kernel_rfl
theorem order_rj1 : (laidOutB Tryz.pinned.checked.prog) = true := by kernel_rfl
theorem order_rj2 : (mapsRowed Tryz.pinned.checked.prog) = true := by kernel_rfl
theorem order_rj3 : (Tryz.f3.params.all (Tryz.pinned.checked.prog.readableRec ·)) = true := by kernel_rfl
theorem order_rj4 : (namedTie Tryz.pinned.checked.prog Rows.wholeOrderRow.named Rows.wholeOrderSpec.vars) = true := by kernel_rfl
theorem order_rj5 : ((Rows.wholeOrderRow.stops == [])) = true := by kernel_rfl
theorem order_rj6 : ((Tryz.pinned.checked.prog.stops == [])) = true := by kernel_rfl
theorem order_rj7 : ((Rows.wholeOrderRow.knobs == [])) = true := by kernel_rfl
theorem order_rj8 : ((Tryz.pinned.checked.prog.stopKnobs == [])) = true := by kernel_rfl
theorem order_rj9 : ((Rows.wholeOrderRow.inPlace == Tryz.pinned.checked.prog.inPlace 3)) = true := by kernel_rfl
theorem order_rj10 : ((Rows.wholeOrderRow.unfollowed == Tryz.pinned.checked.prog.unfollowed 3)) = true := by kernel_rfl
theorem order_rj11 : ((Rows.wholeOrderRow.recurses == Tryz.pinned.checked.prog.recurses 3)) = true := by kernel_rfl
theorem order_rj12 : ((Rows.wholeOrderRow.named == Tryz.pinned.checked.prog.varsNamed 3)) = true := by kernel_rfl
theorem order_rj13 : ((Rows.wholeOrderRow.maps == (Tryz.f3.params.toList ++ Rows.wholeOrderSpec.plain.varTypes Tryz.pinned.checked.prog).any (Tryz.pinned.checked.prog.mapsRec ·))) = true := by kernel_rfl
theorem order_rj14 : ((Rows.wholeOrderRow.ifaces == (Tryz.f3.params.toList ++ Rows.wholeOrderSpec.plain.varTypes Tryz.pinned.checked.prog).any (Tryz.pinned.checked.prog.ifacesRec ·))) = true := by kernel_rfl
theorem order_rj15 : ((Rows.wholeOrderRow.mapsOut == Tryz.pinned.checked.prog.mapsAmong Tryz.f3.resultTypes.toList)) = true := by kernel_rfl
theorem order_rj16 : ((Rows.wholeOrderRow.loops == (Tryz.f3.params.toList ++ Rows.wholeOrderSpec.plain.varTypes Tryz.pinned.checked.prog).any (Tryz.pinned.checked.prog.loopsFrom ·))) = true := by kernel_rfl
theorem order_rj17 : ((Rows.wholeOrderRow.wideKeys == (Tryz.f3.params.toList ++ Rows.wholeOrderSpec.plain.varTypes Tryz.pinned.checked.prog ++ Tryz.f3.resultTypes.toList).any (Tryz.pinned.checked.prog.wideKeysFrom ·))) = true := by kernel_rfl
theorem order_rj18 : (Rows.wholeOrderSpec.vars.all (Tryz.pinned.checked.prog.varReadable ·)) = true := by kernel_rfl
theorem order_rj19 : (Tryz.f3.resultTypes.all (fun t => Tryz.pinned.checked.prog.readableRec t && decide (t < Tryz.pinned.checked.prog.types.size))) = true := by kernel_rfl
theorem order_rj20 : ((Rows.wholeOrderRow.ifacesOut == Tryz.f3.resultTypes.toList.any (Tryz.pinned.checked.prog.ifacesRec ·))) = true := by kernel_rfl
theorem order_rj21 : ((Rows.wholeOrderRow.loopsOut == Tryz.f3.resultTypes.toList.any (Tryz.pinned.checked.prog.loopsFrom ·))) = true := by kernel_rfl
theorem order_rj22 : ((Rows.wholeOrderRow.plainKeys == Tryz.pinned.checked.prog.plainKeys)) = true := by kernel_rfl
theorem order_rj23 : (Rows.wholeOrderRow.shortTexts.isNone) = true := by kernel_rfl
theorem order_rj24 : (Tryz.pinned.checked.prog.stopsHeard) = true := by kernel_rfl
theorem order_rj25 : (Tryz.pinned.checked.prog.mayEnter) = true := by kernel_rfl
theorem order_rj26 : ((Rows.wholeOrderRow.lifted == Tryz.pinned.checked.prog.liftsFinal)) = true := by kernel_rfl
theorem order_rj27 : ((Tryz.pinned.checked.prog.make == some Rows.wholeOrderRow.make)) = true := by kernel_rfl
theorem order_rj28 : ((Rows.wholeOrderRow.kinds == (if Rows.wholeOrderRow.domain.isEmpty then [] else Tryz.f3.params.toList.map fun t => match Tryz.pinned.checked.prog.underlying t with | some (.int k) => some k | _ => none))) = true := by kernel_rfl
theorem order_rj29 : ((Rows.wholeOrderRow.pinned == Rows.wholeOrderRow.pinnedBy)) = true := by kernel_rfl
theorem order_rj30 : ((Rows.wholeOrderRow.veiled == (Tryz.f3.params.toList ++ Rows.wholeOrderSpec.plain.varTypes Tryz.pinned.checked.prog ++ Tryz.f3.resultTypes.toList).any (Tryz.pinned.checked.prog.veiledRec ·))) = true := by kernel_rfl
theorem order_rj31 : (Rows.wholeOrderRow.veiledFits Tryz.pinned.checked.prog Tryz.f3.params.toList (Tryz.f3.params.toList ++ Rows.wholeOrderSpec.plain.varTypes Tryz.pinned.checked.prog ++ Tryz.f3.resultTypes.toList)) = true := by kernel_rfl
theorem order_joined : joinedFacts Tryz.pinned.checked.prog 3 Tryz.f3 Rows.wholeOrderSpec Rows.wholeOrderRow = true := by
  unfold joinedFacts
  refine order_and2 ?_ order_rj31
  refine order_and2 ?_ order_rj30
  refine order_and2 ?_ order_rj29
  refine order_and2 ?_ order_rj28
  refine order_and2 ?_ order_rj27
  refine order_and2 ?_ order_rj26
  refine order_and2 ?_ order_rj25
  refine order_and2 ?_ order_rj24
  refine order_and2 ?_ order_rj23
  refine order_and2 ?_ order_rj22
  refine order_and2 ?_ order_rj21
  refine order_and2 ?_ order_rj20
  refine order_and2 ?_ order_rj19
  refine order_and2 ?_ order_rj18
  refine order_and2 ?_ order_rj17
  refine order_and2 ?_ order_rj16
  refine order_and2 ?_ order_rj15
  refine order_and2 ?_ order_rj14
  refine order_and2 ?_ order_rj13
  refine order_and2 ?_ order_rj12
  refine order_and2 ?_ order_rj11
  refine order_and2 ?_ order_rj10
  refine order_and2 ?_ order_rj9
  refine order_and2 ?_ order_rj8
  refine order_and2 ?_ order_rj7
  refine order_and2 ?_ order_rj6
  refine order_and2 ?_ order_rj5
  refine order_and2 ?_ order_rj4
  refine order_and2 ?_ order_rj3
  refine order_and2 ?_ order_rj2
  refine order_and2 ?_ order_rj1
  exact order_rj0
theorem order_leaving_of_handed {a : Assume} {C : Checked} {os : Os} {f : FuncId} {r : Reach} {Pre : World → Array Value → Prop} {Post : World → Array Value → Value → World → Prop}
    (h : ReturnsInHanded a C os f r Pre Post) : ReturnsInLeavingWide a C os f r Pre Post := fun enter =>
  ReturnsInOpen.mono (fun _ _ _ x => ⟨x.2.1, onlyLeaving_of_quiet x.1, x.2.2⟩) (fun _ x => x) (h enter)
end Go.Proofs.YteaeloeebfdodaaGreatDoor
