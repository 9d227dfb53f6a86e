/- Part 33 of the proofs that laws of package whole answer true at every input and leave the input as it was, where the library's variables start as the text lays them (the texts YH1). -/
import Derived.Test.YteggbenhffmijaaGreatDoorZ19
import Derived.Test.YteggbenhffmijaaGreatDoorZ21
import Derived.Test.YteggbenhffmijaaGreatDoorCards
import Derived.Test.YteggbenhffmijaaGreatDoorTie
import Derived.Test.YteggbenhffmijaaGreatDoorZ32
set_option linter.unusedVariables false
set_option linter.unusedSimpArgs false
/- WholeFactors: the row's contract and the row. -/
namespace Go.Proofs.YteggbenhffmijaaGreatDoor
open Go.ChangeShapes Go.WideShapes Go.ChangeAt Go.RowKit
set_option maxRecDepth 100000
theorem factors_door_met (os : Os) (args : Array Value) : laidMetH Tryz.prog Rows.wholeFactorsRow.laid ((World.doorLaid Tryz.prog 79 os).forCall (fun _ _ => 0) ⟨#[], args, []⟩).memory :=
  laidMetH_of_parts3 (fuel := 8) (laidMet_of_run' 8 (by kernel_rfl) (by kernel_rfl)) (by kernel_rfl) (by kernel_rfl)
theorem factors_door_shaped (os : Os) (args : Array Value) : ((World.doorLaid Tryz.prog 79 os).forCall (fun _ _ => 0) ⟨#[], args, []⟩).Shaped Tryz.prog := World.shaped_of_RefB (by kernel_rfl) (by kernel_rfl)
theorem factors_params : Tryz.f12.params.toList = [9, 22] := by kernel_rfl
theorem und_string6 : Tryz.prog.underlying 9 = some .string := by kernel_rfl
set_option maxRecDepth 100000 in
theorem factors_lifted (os : Os) (started : os.Started) (H : Type) (enc : TypeId × Value → H) :
    ReturnsInHanded {} Tryz.checked os 12 .any (fun w args => (Rows.wholeFactorsSpec.pre enc Tryz.prog Tryz.f12 [] false w args ∧ laidMetH Tryz.prog Rows.wholeFactorsRow.laid w) ∧ sizedMet enc Tryz.prog Tryz.f12 (OpenSpec.ofChange Rows.wholeFactorsSpec) false w args)
      (Rows.wholeFactorsSpec.post enc Tryz.prog Tryz.f12 false true false false) := by
  refine returnsInHanded_of_change_and (C := Tryz.checked) (X := fun w _ => laidMetH Tryz.prog Rows.wholeFactorsRow.laid w) (fun _ _ _ hh h => h.of_heap hh) ownKnob_none started (by kernel_rfl) Tryz.func12
    (ChangeSpec.witness_shaped (enc := enc) (C := Tryz.checked) (os := os) (X := fun w _ => laidMetH Tryz.prog Rows.wholeFactorsRow.laid w) false (World.doorLaid Tryz.prog 79 os) #[.string ⟨#[]⟩, .slice none 0 0] 8 rfl (factors_door_shaped os _) (by kernel_rfl) (by kernel_rfl) (by kernel_rfl) (factors_door_met os _)) ?_
  intro W base args ds gs before hval0 hW _ _ hL _
  have hval : ∀ (j : Nat) t v, Tryz.f12.params[j]? = some t → args[j]? = some v → Value.okWide Tryz.prog W .any base t v := hval0
  have hW' := hW
  obtain ⟨p, q, hA0, hV, rfl, hfz, hnd⟩ := hW
  have hA : DataW.TrodAll enc Tryz.prog W 0 (fun _ => true) true Tryz.f12.params.toList args.toList ds p := hA0
  rw [factors_params] at hA
  obtain ⟨v0, vs0, d0, ds0, p0, q0, ea0, rfl, rfl, h0, hA⟩ := trodAll_cons hA
  obtain ⟨v1, vs1, d1, ds1, p1, q1, rfl, rfl, rfl, h1, hA⟩ := trodAll_cons hA
  obtain ⟨rfl, rfl, rfl⟩ := trodAll_nil hA
  have ea : args = #[v0, v1] := by cases args; simp_all
  subst ea
  obtain ⟨rfl, rfl⟩ := trodVars_none hV
  obtain ⟨s0, rfl⟩ := okWide_string und_string6 (hval 0 9 v0 rfl rfl)
  obtain ⟨a0, len, cap, rfl⟩ := okWide_slice und_ints (hval 1 22 v1 rfl rfl)
  have h5k := h1
  obtain ⟨fuel, hf⟩ := h1
  clear hA0 hval0 hA
  simp only [List.append_nil] at hW'
  have hlt : ∀ x ∈ p0 ++ p1, x.block < W.heap.size := fun x hx => by simpa using hW'.lt x (by simpa using hx)
  have hb0 : ∀ x ∈ p0, x.block < W.heap.size := fun x hx => hlt x (by simp [hx])
  have hb1 : ∀ x ∈ p1, x.block < W.heap.size := fun x hx => hlt x (by simp [hx])
  have hargs : ∀ (W' : World), Below W.heap.size W W' → DataW.TrodAll enc Tryz.prog W' 0 (fun b => decide (b < W.heap.size)) true [9, 22] [.string s0, .slice a0 len cap] [d0, d1] (p0 ++ (p1 ++ [])) :=
    fun W' hn => trodAll_cons_mk (Below.trod laid_out (by kernel_rfl) (of_decide_eq_true (by kernel_rfl)) h0 hn hb0) (trodAll_cons_mk (Below.trod laid_out (by kernel_rfl) (of_decide_eq_true (by kernel_rfl)) h5k hn hb1) trodAll_mk0)
  have close : Nums W a0 len → Calls Tryz.checked.prog 12 #[.string s0, .slice a0 len cap] W fun e W' => ∃ v, e = .returned v ∧ Rows.wholeFactorsSpec.post enc Tryz.checked.prog Tryz.f12 false true false false W #[.string s0, .slice a0 len cap] v W' := by
    intro hn
    have hs0 : s0 = str s0.data.toList := eq_str rfl
    have hb := factors_true W s0.data.toList a0 len cap hn (tab_of (by kernel_rfl) hL) (errt_of (by kernel_rfl) hL)
    rw [← hs0] at hb
    refine hb.mono fun e W' he => ?_
    obtain ⟨he, hb⟩ := he
    subst he
    refine ⟨_, rfl, _, _, _, [], p0 ++ (p1 ++ []), [], hW', ?_, ?_, rfl, hb.frame _, fun h => by cases h⟩
    · exact trodAll_mk1 (shut_bool und_bool _)
    · exact hargs _ hb
  rcases open_ints und_ints und_int cells_int hf with ⟨hcs, hx⟩ | ⟨a, len', cap', zs, hcs, _, hl, hm, hz, hx, hcell, hwz⟩
  · simp [Value.cells] at hcs
    obtain ⟨rfl, rfl, rfl⟩ := hcs
    exact close (nums_nil W)
  · simp [Value.cells] at hcs
    obtain ⟨rfl, rfl, rfl⟩ := hcs
    simp only [Prod.mk.injEq] at hx
    obtain ⟨rfl, rfl⟩ := hx
    simp only [if_true] at hz
    refine close (nums_of (by omega) (fun hpos => ?_) hcell)
    obtain ⟨b, off, spot⟩ := a
    exact hb1 (.cell b off) (MemPlace.mem_row.2 ⟨0, by omega, by simp⟩)
end Go.Proofs.YteggbenhffmijaaGreatDoor
