/- Part 34 of the proofs that laws of package whole answer true at every input and leave the input as it was, where the library's variables start as the text lays them (the texts YG1). -/
import Derived.Test.YteaeloeebfdodaaGreatDoorZ19
import Derived.Test.YteaeloeebfdodaaGreatDoorZ21
import Derived.Test.YteaeloeebfdodaaGreatDoorCards
import Derived.Test.YteaeloeebfdodaaGreatDoorTie
import Derived.Test.YteaeloeebfdodaaGreatDoorZ33
set_option linter.unusedVariables false
set_option linter.unusedSimpArgs false
namespace Go.Proofs.YteaeloeebfdodaaGreatDoor
open Go.ChangeShapes Go.WideShapes Go.ChangeAt Go.RowKit
set_option maxRecDepth 100000
theorem okWide_byte {P : Program} {W : World} {r : Reach} {base : Nat} {t : TypeId} {z : Int} (ht : P.underlying t = some (.int .u8)) (h : Value.okWide P W r base t (.int .u8 z)) : 0 ≤ z ∧ z < 256 := by
  simp only [Value.okWide, ht, Cell.okWide] at h
  simp only [Cell.ok, ht] at h
  obtain ⟨_, h⟩ := h
  have h' : (IntKind.u8.min ≤ z ∧ z ≤ IntKind.u8.max) := h
  have e1 : IntKind.u8.min = 0 := by decide
  have e2 : IntKind.u8.max = 255 := by decide
  omega
theorem bases_door_met (os : Os) (args : Array Value) : laidMetH Tryz.prog Rows.wholeBasesRow.laid ((World.doorLaid Tryz.prog 79 os).forCall (fun _ _ => 0) ⟨#[], args, []⟩).memory :=
  laidMetH_of_parts3 (fuel := 8) (laidMet_of_run' 8 (by kernel_rfl) (by kernel_rfl)) (by kernel_rfl) (by kernel_rfl)
theorem bases_door_shaped (os : Os) (args : Array Value) : ((World.doorLaid Tryz.prog 79 os).forCall (fun _ _ => 0) ⟨#[], args, []⟩).Shaped Tryz.prog := World.shaped_of_RefB (by kernel_rfl) (by kernel_rfl)
theorem bases_params : Tryz.f9.params.toList = [9, 3, 3, 3, 5, 22] := by kernel_rfl
theorem und_string6 : Tryz.prog.underlying 9 = some .string := by kernel_rfl
theorem und_u8 : Tryz.prog.underlying 5 = some (.int .u8) := by kernel_rfl
set_option maxRecDepth 100000 in
theorem bases_lifted (os : Os) (started : os.Started) (H : Type) (enc : TypeId × Value → H) :
    ReturnsInHanded {} Tryz.checked os 9 .any (fun w args => (Rows.wholeBasesSpec.pre enc Tryz.prog Tryz.f9 [] false w args ∧ laidMetH Tryz.prog Rows.wholeBasesRow.laid w) ∧ sizedMet enc Tryz.prog Tryz.f9 (OpenSpec.ofChange Rows.wholeBasesSpec) false w args)
      (Rows.wholeBasesSpec.post enc Tryz.prog Tryz.f9 false true false false) := by
  refine returnsInHanded_of_change_and (C := Tryz.checked) (X := fun w _ => laidMetH Tryz.prog Rows.wholeBasesRow.laid w) (fun _ _ _ hh h => h.of_heap hh) ownKnob_none started (by kernel_rfl) Tryz.func9
    (ChangeSpec.witness_shaped (enc := enc) (C := Tryz.checked) (os := os) (X := fun w _ => laidMetH Tryz.prog Rows.wholeBasesRow.laid w) false (World.doorLaid Tryz.prog 79 os) #[.string ⟨#[]⟩, .int .i64 0, .int .i64 0, .int .i64 0, .int .u8 0, .slice none 0 0] 8 rfl (bases_door_shaped os _) (by kernel_rfl) (by kernel_rfl) (by kernel_rfl) (bases_door_met os _)) ?_
  intro W base args ds gs before hval0 hW _ _ hL _
  have hval : ∀ (j : Nat) t v, Tryz.f9.params[j]? = some t → args[j]? = some v → Value.okWide Tryz.prog W .any base t v := hval0
  have hW' := hW
  obtain ⟨p, q, hA0, hV, rfl, hfz, hnd⟩ := hW
  have hA : DataW.TrodAll enc Tryz.prog W 0 (fun _ => true) true Tryz.f9.params.toList args.toList ds p := hA0
  rw [bases_params] at hA
  obtain ⟨v0, vs0, d0, ds0, p0, q0, ea0, rfl, rfl, h0, hA⟩ := trodAll_cons hA
  obtain ⟨v1, vs1, d1, ds1, p1, q1, rfl, rfl, rfl, h1, hA⟩ := trodAll_cons hA
  obtain ⟨v2, vs2, d2, ds2, p2, q2, rfl, rfl, rfl, h2, hA⟩ := trodAll_cons hA
  obtain ⟨v3, vs3, d3, ds3, p3, q3, rfl, rfl, rfl, h3, hA⟩ := trodAll_cons hA
  obtain ⟨v4, vs4, d4, ds4, p4, q4, rfl, rfl, rfl, h4, hA⟩ := trodAll_cons hA
  obtain ⟨v5, vs5, d5, ds5, p5, q5, rfl, rfl, rfl, h5, hA⟩ := trodAll_cons hA
  obtain ⟨rfl, rfl, rfl⟩ := trodAll_nil hA
  have ea : args = #[v0, v1, v2, v3, v4, v5] := by cases args; simp_all
  subst ea
  obtain ⟨rfl, rfl⟩ := trodVars_none hV
  obtain ⟨s0, rfl⟩ := okWide_string und_string6 (hval 0 9 v0 rfl rfl)
  obtain ⟨z1, rfl⟩ := okWide_int und_int (hval 1 3 v1 rfl rfl)
  obtain ⟨z2, rfl⟩ := okWide_int und_int (hval 2 3 v2 rfl rfl)
  obtain ⟨z3, rfl⟩ := okWide_int und_int (hval 3 3 v3 rfl rfl)
  have hval4 := hval 4 5 v4 rfl rfl
  obtain ⟨z4, rfl⟩ := okWide_int und_u8 hval4
  obtain ⟨a0, len, cap, rfl⟩ := okWide_slice und_ints (hval 5 22 v5 rfl rfl)
  have hz4 : 0 ≤ z4 ∧ z4 < 256 := okWide_byte und_u8 hval4
  obtain ⟨c4, hc4, rfl⟩ : ∃ c : Nat, c < 256 ∧ z4 = (c : Int) := ⟨z4.toNat, by omega, by omega⟩
  have h5k := h5
  obtain ⟨fuel, hf⟩ := h5
  clear hA0 hval0 hA hval4 hz4
  simp only [List.append_nil] at hW'
  have hlt : ∀ x ∈ p0 ++ (p1 ++ (p2 ++ (p3 ++ (p4 ++ p5)))), x.block < W.heap.size := fun x hx => by simpa using hW'.lt x (by simpa using hx)
  have hb0 : ∀ x ∈ p0, x.block < W.heap.size := fun x hx => hlt x (by simp [hx])
  have hb1 : ∀ x ∈ p1, x.block < W.heap.size := fun x hx => hlt x (by simp [hx])
  have hb2 : ∀ x ∈ p2, x.block < W.heap.size := fun x hx => hlt x (by simp [hx])
  have hb3 : ∀ x ∈ p3, x.block < W.heap.size := fun x hx => hlt x (by simp [hx])
  have hb4 : ∀ x ∈ p4, x.block < W.heap.size := fun x hx => hlt x (by simp [hx])
  have hb5 : ∀ x ∈ p5, x.block < W.heap.size := fun x hx => hlt x (by simp [hx])
  have hargs : ∀ (W' : World), Below W.heap.size W W' → DataW.TrodAll enc Tryz.prog W' 0 (fun b => decide (b < W.heap.size)) true [9, 3, 3, 3, 5, 22] [.string s0, .int .i64 z1, .int .i64 z2, .int .i64 z3, .int .u8 (c4 : Int), .slice a0 len cap] [d0, d1, d2, d3, d4, d5] (p0 ++ (p1 ++ (p2 ++ (p3 ++ (p4 ++ (p5 ++ [])))))) :=
    fun W' hn => trodAll_cons_mk (Below.trod laid_out (by kernel_rfl) (of_decide_eq_true (by kernel_rfl)) h0 hn hb0) (trodAll_cons_mk (Below.trod laid_out (by kernel_rfl) (of_decide_eq_true (by kernel_rfl)) h1 hn hb1) (trodAll_cons_mk (Below.trod laid_out (by kernel_rfl) (of_decide_eq_true (by kernel_rfl)) h2 hn hb2) (trodAll_cons_mk (Below.trod laid_out (by kernel_rfl) (of_decide_eq_true (by kernel_rfl)) h3 hn hb3) (trodAll_cons_mk (Below.trod laid_out (by kernel_rfl) (of_decide_eq_true (by kernel_rfl)) h4 hn hb4) (trodAll_cons_mk (Below.trod laid_out (by kernel_rfl) (of_decide_eq_true (by kernel_rfl)) h5k hn hb5) trodAll_mk0)))))
  have close : Nums W a0 len → Calls Tryz.checked.prog 9 #[.string s0, .int .i64 z1, .int .i64 z2, .int .i64 z3, .int .u8 (c4 : Int), .slice a0 len cap] W fun e W' => ∃ v, e = .returned v ∧ Rows.wholeBasesSpec.post enc Tryz.checked.prog Tryz.f9 false true false false W #[.string s0, .int .i64 z1, .int .i64 z2, .int .i64 z3, .int .u8 (c4 : Int), .slice a0 len cap] v W' := by
    intro hn
    have hs0 : s0 = str s0.data.toList := eq_str rfl
    have hb := bases_true W s0.data.toList z1 z2 z3 c4 hc4 a0 len cap hn (tab_of (by kernel_rfl) hL) (errt_of (by kernel_rfl) hL)
    rw [← hs0] at hb
    refine hb.mono fun e W' he => ?_
    obtain ⟨he, hb⟩ := he
    subst he
    refine ⟨_, rfl, _, _, _, [], p0 ++ (p1 ++ (p2 ++ (p3 ++ (p4 ++ (p5 ++ []))))), [], hW', ?_, ?_, rfl, hb.frame _, fun h => by cases h⟩
    · exact trodAll_mk1 (shut_bool und_bool _)
    · exact hargs _ hb
  rcases open_ints und_ints und_int cells_int hf with ⟨hcs, hx⟩ | ⟨a, len', cap', zs, hcs, _, hl, hm, hz, hx, hcell, hwz⟩
  · simp [Value.cells] at hcs
    obtain ⟨rfl, rfl, rfl⟩ := hcs
    exact close (nums_nil W)
  · simp [Value.cells] at hcs
    obtain ⟨rfl, rfl, rfl⟩ := hcs
    simp only [Prod.mk.injEq] at hx
    obtain ⟨rfl, rfl⟩ := hx
    simp only [if_true] at hz
    refine close (nums_of (by omega) (fun hpos => ?_) hcell)
    obtain ⟨b, off, spot⟩ := a
    exact hb5 (.cell b off) (MemPlace.mem_row.2 ⟨0, by omega, by simp⟩)
end Go.Proofs.YteaeloeebfdodaaGreatDoor
