/- Part 42 of the proofs that laws of package whole answer true at every input and leave the input as it was, where the library's variables start as the text lays them (the texts K7). -/
import Derived.Test.YtmdfjnmakppknaaGreatDoorRows
import Derived.Conc.Holds
set_option linter.unusedVariables false
set_option linter.unusedSimpArgs false
/- WholePrimes: the closed facts that the row asks of the program. -/
namespace Go.Proofs.YtmdfjnmakppknaaGreatDoor
set_option maxRecDepth 100000
theorem primes_and2 {a b : Bool} (h1 : a = true) (h2 : b = true) : (a && b) = true := by rw [h1, h2]; rfl
theorem primes_rj0 : (Rows.wholePrimesRow.wf (OpenSpec.ofChange Rows.wholePrimesSpec)) = true := by kernel_rfl
theorem primes_rj1 : (laidOutB Tryz.pinned.checked.prog) = true := by kernel_rfl
theorem primes_rj2 : (mapsRowed Tryz.pinned.checked.prog) = true := by kernel_rfl
theorem primes_rj3 : (Tryz.f11.params.all (Tryz.pinned.checked.prog.readableRec ·)) = true := by kernel_rfl
theorem primes_rj4 : (namedTie Tryz.pinned.checked.prog Rows.wholePrimesRow.named Rows.wholePrimesSpec.vars) = true := by kernel_rfl
theorem primes_rj5 : ((Rows.wholePrimesRow.stops == [])) = true := by kernel_rfl
theorem primes_rj6 : ((Tryz.pinned.checked.prog.stops == [])) = true := by kernel_rfl
theorem primes_rj7 : ((Rows.wholePrimesRow.knobs == [])) = true := by kernel_rfl
theorem primes_rj8 : ((Tryz.pinned.checked.prog.stopKnobs == [])) = true := by kernel_rfl
theorem primes_rj9 : ((Rows.wholePrimesRow.inPlace == Tryz.pinned.checked.prog.inPlace 11)) = true := by kernel_rfl
theorem primes_rj10 : ((Rows.wholePrimesRow.unfollowed == Tryz.pinned.checked.prog.unfollowed 11)) = true := by kernel_rfl
theorem primes_rj11 : ((Rows.wholePrimesRow.recurses == Tryz.pinned.checked.prog.recurses 11)) = true := by kernel_rfl
theorem primes_rj12 : ((Rows.wholePrimesRow.named == Tryz.pinned.checked.prog.varsNamed 11)) = true := by kernel_rfl
theorem primes_rj13 : ((Rows.wholePrimesRow.maps == (Tryz.f11.params.toList ++ Rows.wholePrimesSpec.plain.varTypes Tryz.pinned.checked.prog).any (Tryz.pinned.checked.prog.mapsRec ·))) = true := by kernel_rfl
theorem primes_rj14 : ((Rows.wholePrimesRow.ifaces == (Tryz.f11.params.toList ++ Rows.wholePrimesSpec.plain.varTypes Tryz.pinned.checked.prog).any (Tryz.pinned.checked.prog.ifacesRec ·))) = true := by kernel_rfl
theorem primes_rj15 : ((Rows.wholePrimesRow.mapsOut == Tryz.pinned.checked.prog.mapsAmong Tryz.f11.resultTypes.toList)) = true := by kernel_rfl
theorem primes_rj16 : ((Rows.wholePrimesRow.loops == (Tryz.f11.params.toList ++ Rows.wholePrimesSpec.plain.varTypes Tryz.pinned.checked.prog).any (Tryz.pinned.checked.prog.loopsFrom ·))) = true := by kernel_rfl
theorem primes_rj17 : ((Rows.wholePrimesRow.wideKeys == (Tryz.f11.params.toList ++ Rows.wholePrimesSpec.plain.varTypes Tryz.pinned.checked.prog ++ Tryz.f11.resultTypes.toList).any (Tryz.pinned.checked.prog.wideKeysFrom ·))) = true := by kernel_rfl
theorem primes_rj18 : (Rows.wholePrimesSpec.vars.all (Tryz.pinned.checked.prog.varReadable ·)) = true := by kernel_rfl
theorem primes_rj19 : (Tryz.f11.resultTypes.all (fun t => Tryz.pinned.checked.prog.readableRec t && decide (t < Tryz.pinned.checked.prog.types.size))) = true := by kernel_rfl
theorem primes_rj20 : ((Rows.wholePrimesRow.ifacesOut == Tryz.f11.resultTypes.toList.any (Tryz.pinned.checked.prog.ifacesRec ·))) = true := by kernel_rfl
theorem primes_rj21 : ((Rows.wholePrimesRow.loopsOut == Tryz.f11.resultTypes.toList.any (Tryz.pinned.checked.prog.loopsFrom ·))) = true := by kernel_rfl
theorem primes_rj22 : ((Rows.wholePrimesRow.plainKeys == Tryz.pinned.checked.prog.plainKeys)) = true := by kernel_rfl
theorem primes_rj23 : (Rows.wholePrimesRow.shortTexts.isNone) = true := by kernel_rfl
theorem primes_rj24 : (Tryz.pinned.checked.prog.stopsHeard) = true := by kernel_rfl
theorem primes_rj25 : (Tryz.pinned.checked.prog.mayEnter) = true := by kernel_rfl
theorem primes_rj26 : ((Rows.wholePrimesRow.lifted == Tryz.pinned.checked.prog.liftsFinal)) = true := by kernel_rfl
theorem primes_rj27 : ((Tryz.pinned.checked.prog.make == some Rows.wholePrimesRow.make)) = true := by kernel_rfl
theorem primes_rj28 : ((Rows.wholePrimesRow.kinds == (if Rows.wholePrimesRow.domain.isEmpty then [] else Tryz.f11.params.toList.map fun t => match Tryz.pinned.checked.prog.underlying t with | some (.int k) => some k | _ => none))) = true := by kernel_rfl
theorem primes_rj29 : ((Rows.wholePrimesRow.pinned == Rows.wholePrimesRow.pinnedBy)) = true := by kernel_rfl
theorem primes_rj30 : ((Rows.wholePrimesRow.veiled == (Tryz.f11.params.toList ++ Rows.wholePrimesSpec.plain.varTypes Tryz.pinned.checked.prog ++ Tryz.f11.resultTypes.toList).any (Tryz.pinned.checked.prog.veiledRec ·))) = true := by kernel_rfl
theorem primes_rj31 : (Rows.wholePrimesRow.veiledFits Tryz.pinned.checked.prog Tryz.f11.params.toList (Tryz.f11.params.toList ++ Rows.wholePrimesSpec.plain.varTypes Tryz.pinned.checked.prog ++ Tryz.f11.resultTypes.toList)) = true := by kernel_rfl
theorem primes_joined : joinedFacts Tryz.pinned.checked.prog 11 Tryz.f11 Rows.wholePrimesSpec Rows.wholePrimesRow = true := by
  unfold joinedFacts
  refine primes_and2 ?_ primes_rj31
  refine primes_and2 ?_ primes_rj30
  refine primes_and2 ?_ primes_rj29
  refine primes_and2 ?_ primes_rj28
  refine primes_and2 ?_ primes_rj27
  refine primes_and2 ?_ primes_rj26
  refine primes_and2 ?_ primes_rj25
  refine primes_and2 ?_ primes_rj24
  refine primes_and2 ?_ primes_rj23
  refine primes_and2 ?_ primes_rj22
  refine primes_and2 ?_ primes_rj21
  refine primes_and2 ?_ primes_rj20
  refine primes_and2 ?_ primes_rj19
  refine primes_and2 ?_ primes_rj18
  refine primes_and2 ?_ primes_rj17
  refine primes_and2 ?_ primes_rj16
  refine primes_and2 ?_ primes_rj15
  refine primes_and2 ?_ primes_rj14
  refine primes_and2 ?_ primes_rj13
  refine primes_and2 ?_ primes_rj12
  refine primes_and2 ?_ primes_rj11
  refine primes_and2 ?_ primes_rj10
  refine primes_and2 ?_ primes_rj9
  refine primes_and2 ?_ primes_rj8
  refine primes_and2 ?_ primes_rj7
  refine primes_and2 ?_ primes_rj6
  refine primes_and2 ?_ primes_rj5
  refine primes_and2 ?_ primes_rj4
  refine primes_and2 ?_ primes_rj3
  refine primes_and2 ?_ primes_rj2
  refine primes_and2 ?_ primes_rj1
  exact primes_rj0
theorem primes_leaving_of_handed {a : Assume} {C : Checked} {os : Os} {f : FuncId} {r : Reach} {Pre : World → Array Value → Prop} {Post : World → Array Value → Value → World → Prop}
    (h : ReturnsInHanded a C os f r Pre Post) : ReturnsInLeavingWide a C os f r Pre Post := fun enter =>
  ReturnsInOpen.mono (fun _ _ _ x => ⟨x.2.1, onlyLeaving_of_quiet x.1, x.2.2⟩) (fun _ x => x) (h enter)
end Go.Proofs.YtmdfjnmakppknaaGreatDoor
