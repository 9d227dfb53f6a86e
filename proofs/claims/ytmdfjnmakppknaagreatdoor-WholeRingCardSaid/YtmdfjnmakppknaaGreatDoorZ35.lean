/- Part 35 of the proofs that laws of package whole answer true at every input and leave the input as it was, where the library's variables start as the text lays them (the texts I4). -/
import Derived.Test.YtmdfjnmakppknaaGreatDoorRows
import Derived.Conc.Holds
set_option linter.unusedVariables false
set_option linter.unusedSimpArgs false
/- WholeRing: the closed facts that the row asks of the program. -/
namespace Go.Proofs.YtmdfjnmakppknaaGreatDoor
set_option maxRecDepth 100000
theorem and2 {a b : Bool} (h1 : a = true) (h2 : b = true) : (a && b) = true := by rw [h1, h2]; rfl
theorem rj0 : (Rows.wholeRingRow.wf (OpenSpec.ofChange Rows.wholeRingSpec)) = true := by kernel_rfl
theorem rj1 : (laidOutB Tryz.pinned.checked.prog) = true := by kernel_rfl
theorem rj2 : (mapsRowed Tryz.pinned.checked.prog) = true := by kernel_rfl
theorem rj3 : (Tryz.f3.params.all (Tryz.pinned.checked.prog.readableRec ·)) = true := by kernel_rfl
theorem rj4 : (namedTie Tryz.pinned.checked.prog Rows.wholeRingRow.named Rows.wholeRingSpec.vars) = true := by kernel_rfl
theorem rj5 : ((Rows.wholeRingRow.stops == [])) = true := by kernel_rfl
theorem rj6 : ((Tryz.pinned.checked.prog.stops == [])) = true := by kernel_rfl
theorem rj7 : ((Rows.wholeRingRow.knobs == [])) = true := by kernel_rfl
theorem rj8 : ((Tryz.pinned.checked.prog.stopKnobs == [])) = true := by kernel_rfl
theorem rj9 : ((Rows.wholeRingRow.inPlace == Tryz.pinned.checked.prog.inPlace 3)) = true := by kernel_rfl
theorem rj10 : ((Rows.wholeRingRow.unfollowed == Tryz.pinned.checked.prog.unfollowed 3)) = true := by kernel_rfl
theorem rj11 : ((Rows.wholeRingRow.recurses == Tryz.pinned.checked.prog.recurses 3)) = true := by kernel_rfl
theorem rj12 : ((Rows.wholeRingRow.named == Tryz.pinned.checked.prog.varsNamed 3)) = true := by kernel_rfl
theorem rj13 : ((Rows.wholeRingRow.maps == (Tryz.f3.params.toList ++ Rows.wholeRingSpec.plain.varTypes Tryz.pinned.checked.prog).any (Tryz.pinned.checked.prog.mapsRec ·))) = true := by kernel_rfl
theorem rj14 : ((Rows.wholeRingRow.ifaces == (Tryz.f3.params.toList ++ Rows.wholeRingSpec.plain.varTypes Tryz.pinned.checked.prog).any (Tryz.pinned.checked.prog.ifacesRec ·))) = true := by kernel_rfl
theorem rj15 : ((Rows.wholeRingRow.mapsOut == Tryz.pinned.checked.prog.mapsAmong Tryz.f3.resultTypes.toList)) = true := by kernel_rfl
theorem rj16 : ((Rows.wholeRingRow.loops == (Tryz.f3.params.toList ++ Rows.wholeRingSpec.plain.varTypes Tryz.pinned.checked.prog).any (Tryz.pinned.checked.prog.loopsFrom ·))) = true := by kernel_rfl
theorem rj17 : ((Rows.wholeRingRow.wideKeys == (Tryz.f3.params.toList ++ Rows.wholeRingSpec.plain.varTypes Tryz.pinned.checked.prog ++ Tryz.f3.resultTypes.toList).any (Tryz.pinned.checked.prog.wideKeysFrom ·))) = true := by kernel_rfl
theorem rj18 : (Rows.wholeRingSpec.vars.all (Tryz.pinned.checked.prog.varReadable ·)) = true := by kernel_rfl
theorem rj19 : (Tryz.f3.resultTypes.all (fun t => Tryz.pinned.checked.prog.readableRec t && decide (t < Tryz.pinned.checked.prog.types.size))) = true := by kernel_rfl
theorem rj20 : ((Rows.wholeRingRow.ifacesOut == Tryz.f3.resultTypes.toList.any (Tryz.pinned.checked.prog.ifacesRec ·))) = true := by kernel_rfl
theorem rj21 : ((Rows.wholeRingRow.loopsOut == Tryz.f3.resultTypes.toList.any (Tryz.pinned.checked.prog.loopsFrom ·))) = true := by kernel_rfl
theorem rj22 : ((Rows.wholeRingRow.plainKeys == Tryz.pinned.checked.prog.plainKeys)) = true := by kernel_rfl
theorem rj23 : (Rows.wholeRingRow.shortTexts.isNone) = true := by kernel_rfl
theorem rj24 : (Tryz.pinned.checked.prog.stopsHeard) = true := by kernel_rfl
theorem rj25 : (Tryz.pinned.checked.prog.mayEnter) = true := by kernel_rfl
theorem rj26 : ((Rows.wholeRingRow.lifted == Tryz.pinned.checked.prog.liftsFinal)) = true := by kernel_rfl
theorem rj27 : ((Tryz.pinned.checked.prog.make == some Rows.wholeRingRow.make)) = true := by kernel_rfl
theorem rj28 : ((Rows.wholeRingRow.kinds == (if Rows.wholeRingRow.domain.isEmpty then [] else Tryz.f3.params.toList.map fun t => match Tryz.pinned.checked.prog.underlying t with | some (.int k) => some k | _ => none))) = true := by kernel_rfl
theorem rj29 : ((Rows.wholeRingRow.pinned == Rows.wholeRingRow.pinnedBy)) = true := by kernel_rfl
theorem rj30 : ((Rows.wholeRingRow.veiled == (Tryz.f3.params.toList ++ Rows.wholeRingSpec.plain.varTypes Tryz.pinned.checked.prog ++ Tryz.f3.resultTypes.toList).any (Tryz.pinned.checked.prog.veiledRec ·))) = true := by kernel_rfl
theorem rj31 : (Rows.wholeRingRow.veiledFits Tryz.pinned.checked.prog Tryz.f3.params.toList (Tryz.f3.params.toList ++ Rows.wholeRingSpec.plain.varTypes Tryz.pinned.checked.prog ++ Tryz.f3.resultTypes.toList)) = true := by kernel_rfl
theorem ring_joined : joinedFacts Tryz.pinned.checked.prog 3 Tryz.f3 Rows.wholeRingSpec Rows.wholeRingRow = true := by
  unfold joinedFacts
  refine and2 ?_ rj31
  refine and2 ?_ rj30
  refine and2 ?_ rj29
  refine and2 ?_ rj28
  refine and2 ?_ rj27
  refine and2 ?_ rj26
  refine and2 ?_ rj25
  refine and2 ?_ rj24
  refine and2 ?_ rj23
  refine and2 ?_ rj22
  refine and2 ?_ rj21
  refine and2 ?_ rj20
  refine and2 ?_ rj19
  refine and2 ?_ rj18
  refine and2 ?_ rj17
  refine and2 ?_ rj16
  refine and2 ?_ rj15
  refine and2 ?_ rj14
  refine and2 ?_ rj13
  refine and2 ?_ rj12
  refine and2 ?_ rj11
  refine and2 ?_ rj10
  refine and2 ?_ rj9
  refine and2 ?_ rj8
  refine and2 ?_ rj7
  refine and2 ?_ rj6
  refine and2 ?_ rj5
  refine and2 ?_ rj4
  refine and2 ?_ rj3
  refine and2 ?_ rj2
  refine and2 ?_ rj1
  exact rj0
theorem leaving_of_handed {a : Assume} {C : Checked} {os : Os} {f : FuncId} {r : Reach} {Pre : World → Array Value → Prop} {Post : World → Array Value → Value → World → Prop}
    (h : ReturnsInHanded a C os f r Pre Post) : ReturnsInLeavingWide a C os f r Pre Post := fun enter =>
  ReturnsInOpen.mono (fun _ _ _ x => ⟨x.2.1, onlyLeaving_of_quiet x.1, x.2.2⟩) (fun _ x => x) (h enter)
end Go.Proofs.YtmdfjnmakppknaaGreatDoor
