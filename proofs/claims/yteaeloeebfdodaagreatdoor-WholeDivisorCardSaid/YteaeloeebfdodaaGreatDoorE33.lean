/- Part 33 of the proofs that laws of package whole answer true at every input and leave the input as it was, where the library's variables start as the text lays them (the texts YE1). -/
import Derived.Test.YteaeloeebfdodaaGreatDoorE19
import Derived.Test.YteaeloeebfdodaaGreatDoorCards
import Derived.Test.YteaeloeebfdodaaGreatDoorTie
import Derived.Test.YteaeloeebfdodaaGreatDoorE32
set_option linter.unusedVariables false
set_option linter.unusedSimpArgs false
/- WholeDivisor: the row's contract and the row. -/
namespace Go.Proofs.YteaeloeebfdodaaGreatDoor
open Go.ChangeShapes Go.WideShapes Go.ChangeAt Go.RowKit
set_option maxRecDepth 100000
theorem divisor_door_met (os : Os) (args : Array Value) : laidMetH Tryz.prog Rows.wholeDivisorRow.laid ((World.doorLaid Tryz.prog 79 os).forCall (fun _ _ => 0) ⟨#[], args, []⟩).memory :=
  laidMetH_of_parts3 (fuel := 8) (laidMet_of_run' 8 (by kernel_rfl) (by kernel_rfl)) (by kernel_rfl) (by kernel_rfl)
theorem divisor_door_shaped (os : Os) (args : Array Value) : ((World.doorLaid Tryz.prog 79 os).forCall (fun _ _ => 0) ⟨#[], args, []⟩).Shaped Tryz.prog := World.shaped_of_RefB (by kernel_rfl) (by kernel_rfl)
theorem divisor_params : Tryz.f8.params.toList = [22] := by kernel_rfl
set_option maxRecDepth 100000 in
theorem divisor_lifted (os : Os) (started : os.Started) (H : Type) (enc : TypeId × Value → H) :
    ReturnsInHanded {} Tryz.checked os 8 .any (fun w args => (Rows.wholeDivisorSpec.pre enc Tryz.prog Tryz.f8 [] false w args ∧ laidMetH Tryz.prog Rows.wholeDivisorRow.laid w) ∧ sizedMet enc Tryz.prog Tryz.f8 (OpenSpec.ofChange Rows.wholeDivisorSpec) false w args)
      (Rows.wholeDivisorSpec.post enc Tryz.prog Tryz.f8 false true false false) := by
  refine returnsInHanded_of_change_and (C := Tryz.checked) (X := fun w _ => laidMetH Tryz.prog Rows.wholeDivisorRow.laid w) (fun _ _ _ hh h => h.of_heap hh) ownKnob_none started (by kernel_rfl) Tryz.func8
    (ChangeSpec.witness_shaped (enc := enc) (C := Tryz.checked) (os := os) (X := fun w _ => laidMetH Tryz.prog Rows.wholeDivisorRow.laid w) false (World.doorLaid Tryz.prog 79 os) #[.slice none 0 0] 8 rfl (divisor_door_shaped os _) (by kernel_rfl) (by kernel_rfl) (by kernel_rfl) (divisor_door_met os _)) ?_
  intro W base args ds gs before hval0 hW _ _ hL _
  have hval : ∀ (j : Nat) t v, Tryz.f8.params[j]? = some t → args[j]? = some v → Value.okWide Tryz.prog W .any base t v := hval0
  have hW' := hW
  obtain ⟨p, q, hA0, hV, rfl, hfz, hnd⟩ := hW
  have hA : DataW.TrodAll enc Tryz.prog W 0 (fun _ => true) true Tryz.f8.params.toList args.toList ds p := hA0
  rw [divisor_params] at hA
  obtain ⟨v0, d0, e0, rfl, h0⟩ := trodAll_one hA
  have ea : args = #[v0] := by simpa using e0
  subst ea
  obtain ⟨rfl, rfl⟩ := trodVars_none hV
  obtain ⟨a0, len, cap, rfl⟩ := okWide_slice und_ints (hval 0 22 v0 rfl rfl)
  have h0k := h0
  obtain ⟨fuel, hf⟩ := h0
  clear hA0 hval0 hA
  simp only [List.append_nil] at hW'
  have hlt : ∀ x ∈ p, x.block < W.heap.size := fun x hx => by simpa using hW'.lt x hx
  have hargs : ∀ (W' : World), Below W.heap.size W W' → DataW.Trod enc Tryz.prog W' 0 (fun b => decide (b < W.heap.size)) true 22 (.slice a0 len cap) d0 p :=
    fun W' hn => Below.trod laid_out (by kernel_rfl) (of_decide_eq_true (by kernel_rfl)) h0k hn hlt
  have close : Nums W a0 len → Calls Tryz.checked.prog 8 #[.slice a0 len cap] W fun e W' => ∃ v, e = .returned v ∧ Rows.wholeDivisorSpec.post enc Tryz.checked.prog Tryz.f8 false true false false W #[.slice a0 len cap] v W' := by
    intro hn
    refine (divisor_true W a0 len cap hn (tab_of (by kernel_rfl) hL)).mono fun e W' he => ?_
    obtain ⟨he, hb⟩ := he
    subst he
    refine ⟨_, rfl, _, _, _, [], p, [], hW', ?_, ?_, rfl, hb.frame _, fun h => by cases h⟩
    · exact trodAll_mk1 (shut_bool und_bool _)
    · exact trodAll_mk1 (hargs _ hb)
  rcases open_ints und_ints und_int cells_int hf with ⟨hcs, hx⟩ | ⟨a, len', cap', zs, hcs, _, hl, hm, hz, hx, hcell, hwz⟩
  · simp [Value.cells] at hcs
    obtain ⟨rfl, rfl, rfl⟩ := hcs
    exact close (nums_nil W)
  · simp [Value.cells] at hcs
    obtain ⟨rfl, rfl, rfl⟩ := hcs
    simp only [Prod.mk.injEq] at hx
    obtain ⟨rfl, rfl⟩ := hx
    simp only [if_true] at hz
    refine close (nums_of (by omega) (fun hpos => ?_) hcell)
    obtain ⟨b, off, spot⟩ := a
    exact hlt (.cell b off) (MemPlace.mem_row.2 ⟨0, by omega, by simp⟩)
end Go.Proofs.YteaeloeebfdodaaGreatDoor
