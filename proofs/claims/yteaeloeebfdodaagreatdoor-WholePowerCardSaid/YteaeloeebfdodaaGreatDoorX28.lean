/- Part 28 of the proofs that laws of package whole answer true at every input and leave the input as it was, where the library's variables start as the text lays them (the texts G4). -/
import Derived.Test.YteaeloeebfdodaaGreatDoorX27
set_option linter.unusedVariables false
set_option linter.unusedSimpArgs false
/- WALKS, the divisor 6: Euclid's algorithm at 12 and 18. -/
namespace Go.Proofs.YteaeloeebfdodaaGreatDoor
open Go.RowKit
theorem limbs9 (n : Nat) (h : n < 1000000000) : (Wh.limbs n).length ≤ 1 := Wh.limbs_length_le (k := 1) (by rw [Wh.R_one]; exact h)
theorem look_a {T A : Nat} {odd : Bool} (w : World) (wb : Nat) (h : WK w wb 12 18 T A odd) :
    Calls Tryz.prog 263 #[.pointer (some ⟨wb, 0, none⟩)] w fun e w' => e = .returned (.agg #[.int .i64 1, .int .i64 0, .int .i64 0, .int .i64 1, .bool false]) ∧ Below w.heap.size w w' := by
  refine (look_short w wb 12 18 h.r h.n h.lt (by decide) (by decide) (fun h l a b c d o => h = 12 ∧ l = 18 ∧ a = 1 ∧ b = 0 ∧ c = 0 ∧ d = 1 ∧ o = false) ⟨rfl, rfl, rfl, rfl, rfl, rfl, rfl⟩ ?_ ?_).mono ?_
  · rintro _ _ _ _ _ _ _ ⟨rfl, rfl, rfl, rfl, rfl, rfl, rfl⟩; decide
  · rintro _ _ _ _ _ _ _ ⟨rfl, rfl, rfl, rfl, rfl, rfl, rfl⟩ _ h; omega
  · rintro e w' ⟨⟨_, _, _, _, _, _, _, ⟨rfl, rfl, rfl, rfl, rfl, rfl, rfl⟩, _, rfl⟩, hb⟩
    exact ⟨rfl, hb⟩
theorem look_b {T A : Nat} {odd : Bool} (w : World) (wb : Nat) (h : WK w wb 18 12 T A odd) :
    Calls Tryz.prog 263 #[.pointer (some ⟨wb, 0, none⟩)] w fun e w' => e = .returned (.agg #[.int .i64 1, .int .i64 1, .int .i64 2, .int .i64 3, .bool false]) ∧ Below w.heap.size w w' := by
  refine (look_short w wb 18 12 h.r h.n h.lt (by decide) (by decide) (fun h l a b c d o => (h = 18 ∧ l = 12 ∧ a = 1 ∧ b = 0 ∧ c = 0 ∧ d = 1 ∧ o = false) ∨ (h = 12 ∧ l = 6 ∧ a = 0 ∧ b = 1 ∧ c = 1 ∧ d = 1 ∧ o = true) ∨ (h = 6 ∧ l = 0 ∧ a = 1 ∧ b = 1 ∧ c = 2 ∧ d = 3 ∧ o = false)) (.inl ⟨rfl, rfl, rfl, rfl, rfl, rfl, rfl⟩) ?_ ?_).mono ?_
  · rintro _ _ _ _ _ _ _ (⟨rfl, rfl, rfl, rfl, rfl, rfl, rfl⟩ | ⟨rfl, rfl, rfl, rfl, rfl, rfl, rfl⟩ | ⟨rfl, rfl, rfl, rfl, rfl, rfl, rfl⟩) <;> decide
  · rintro _ _ _ _ _ _ _ (⟨rfl, rfl, rfl, rfl, rfl, rfl, rfl⟩ | ⟨rfl, rfl, rfl, rfl, rfl, rfl, rfl⟩ | ⟨rfl, rfl, rfl, rfl, rfl, rfl, rfl⟩) h1 h2
    · exact ⟨by decide, .inr (.inl ⟨rfl, rfl, rfl, rfl, rfl, rfl, rfl⟩)⟩
    · exact ⟨by decide, .inr (.inr ⟨rfl, rfl, rfl, rfl, rfl, rfl, rfl⟩)⟩
    · omega
  · rintro e w' ⟨⟨_, _, _, _, _, _, _, (⟨rfl, rfl, rfl, rfl, rfl, rfl, rfl⟩ | ⟨rfl, rfl, rfl, rfl, rfl, rfl, rfl⟩ | ⟨rfl, rfl, rfl, rfl, rfl, rfl, rfl⟩), hn, rfl⟩, hb⟩
    · exact absurd ⟨by decide, by decide⟩ hn
    · exact absurd ⟨by decide, by decide⟩ hn
    · exact ⟨rfl, hb⟩
set_option maxRecDepth 100000 in
set_option maxHeartbeats 1000000 in
theorem finish_12_18 (w : World) (wb : Nat) (h : WK w wb 12 18 1 0 false) :
    Calls Tryz.prog 195 #[.pointer (some ⟨wb, 0, none⟩)] w fun e w' => e = .returned (.tuple #[]) ∧ WK w' wb 6 0 1 3 true ∧ Below wb w w' := by
  have H := Lib.hid h; clear h
  go_enter Tryz.func195, Tryz.ntmps195
  go_wp2_with fail
  go_loopw [2] (fun _ wr => (WK wr wb 12 18 1 0 false ∨ WK wr wb 18 12 0 1 true ∨ WK wr wb 6 0 1 3 true) ∧ Hid (Below wb w wr)) (fun _ wr => match wr.cell? ⟨wb, 4, none⟩ with | some (.bool false) => 2 | _ => match wr.cell? ⟨wb, 1, none⟩ with | some (.slice _ n _) => n | _ => 0)
  case atStart => exact ⟨.inl H.out, Lib.hid (Below.refl _ _)⟩
  case round =>
    clear H
    obtain ⟨hk, HBR⟩ := hrel
    rcases hk with hk | hk | hk
    · have HM := Lib.hid hk; clear hk
      obtain ⟨na, nc, n0, ns⟩ := HM.out.n
      rw [limbs_one_of (n := 18) (by decide)] at n0
      have n0 : wr.cell? ⟨wb, 1, none⟩ = some (.slice na 1 nc) := n0
      have HO := Lib.hid HM.out.o
      have HLK := Lib.hid (look_a wr wb HM.out)
      clear ns
      go_wp2_with fail
      refine HLK.out.mono ?_
      rintro e W1 ⟨rfl, hb1⟩
      have hM1 := HM.out.mono hb1
      have hal : Below W1.heap.size W1 (W1.alloc (Obj.cells #[.int .i64 1, .int .i64 0, .int .i64 0, .int .i64 1, .bool false] 260)) := (Below.refl _ _).alloc (Nat.le_refl _) _
      have hM2 := Lib.hid (hM1.mono hal)
      have hS2 : SM (W1.alloc (Obj.cells #[.int .i64 1, .int .i64 0, .int .i64 0, .int .i64 1, .bool false] 260)) W1.heap.size 1 0 0 1 false := ⟨by go_simp; try rfl, by go_simp; try rfl, by go_simp; try rfl, by go_simp; try rfl, by go_simp; try rfl, fun i hi => by rcases (by omega : i = 0 ∨ i = 1 ∨ i = 2 ∨ i = 3 ∨ i = 4) with rfl | rfl | rfl | rfl | rfl <;> go_simp⟩
      have HB2 : Hid (Below wb w (W1.alloc (Obj.cells #[.int .i64 1, .int .i64 0, .int .i64 0, .int .i64 1, .bool false] 260))) := Lib.hid ((HBR.out.trans (hb1.mono (Nat.le_of_lt HM.out.lt))).trans (hal.mono (Nat.le_of_lt hM1.lt)))
      have HS2 := Lib.hid hS2
      have hl2 : W1.heap.size < (W1.alloc (Obj.cells #[.int .i64 1, .int .i64 0, .int .i64 0, .int .i64 1, .bool false] 260)).heap.size := by simp
      clear hM1 hal hS2 hb1 HM HBR n0 HLK
      go_wp2_with fail
      generalize (W1.alloc (Obj.cells #[.int .i64 1, .int .i64 0, .int .i64 0, .int .i64 1, .bool false] 260)) = V at *
      obtain ⟨B, hB⟩ : ∃ B, B = W1.heap.size := ⟨_, rfl⟩
      rw [← hB] at HS2 hl2 ⊢
      clear hB
      refine (empty_any V 1 0 0 1 _).mono ?_
      rintro e W2 ⟨rfl, hb2⟩
      have HM3 := Lib.hid (hM2.out.mono hb2)
      have HS3 := Lib.hid (HS2.out.mono hb2 hl2)
      have HB3 := Lib.hid (HB2.out.trans (hb2.mono (Nat.le_of_lt hM2.out.lt)))
      clear hM2 HS2 HB2 hb2 hl2
      go_wp2_with fail
      refine (step_any W2 wb 12 18 1 0 false HM3.out (by decide) (Nat.le_trans (limbs9 _ (by decide)) (by decide)) (Nat.le_trans (limbs9 _ (by decide)) (by decide)) (Nat.lt_of_le_of_lt (limbs9 _ (by decide)) (by decide)) (Nat.le_trans (limbs9 _ (by decide)) (by decide)) (Nat.le_trans (limbs9 _ (by decide)) (by decide))).mono ?_
      rintro e W3 ⟨rfl, hM4, hb4⟩
      have HM4 : Hid (WK W3 wb 18 12 0 1 true) := Lib.hid hM4
      have HB4 := Lib.hid (HB3.out.trans hb4)
      have o4 := hM4.o
      obtain ⟨qa, qc, q0, _⟩ := HM4.out.n
      rw [limbs_one_of (n := 12) (by decide)] at q0
      clear hM4 hb4 HM3 HB3 HS3
      go_wp2
      refine ⟨⟨.inr (.inl HM4.out), HB4⟩, ?_⟩
      rw [o4, q0, HO.out]
      show (1 : Nat) < 2
      decide
    · have HM := Lib.hid hk; clear hk
      obtain ⟨na, nc, n0, ns⟩ := HM.out.n
      rw [limbs_one_of (n := 12) (by decide)] at n0
      have n0 : wr.cell? ⟨wb, 1, none⟩ = some (.slice na 1 nc) := n0
      have HO := Lib.hid (And.intro HM.out.o n0)
      have HLK := Lib.hid (look_b wr wb HM.out)
      clear ns
      go_wp2_with fail
      refine HLK.out.mono ?_
      rintro e W1 ⟨rfl, hb1⟩
      have hM1 := HM.out.mono hb1
      have hal : Below W1.heap.size W1 (W1.alloc (Obj.cells #[.int .i64 1, .int .i64 1, .int .i64 2, .int .i64 3, .bool false] 260)) := (Below.refl _ _).alloc (Nat.le_refl _) _
      have hM2 := Lib.hid (hM1.mono hal)
      have hS2 : SM (W1.alloc (Obj.cells #[.int .i64 1, .int .i64 1, .int .i64 2, .int .i64 3, .bool false] 260)) W1.heap.size 1 1 2 3 false := ⟨by go_simp; try rfl, by go_simp; try rfl, by go_simp; try rfl, by go_simp; try rfl, by go_simp; try rfl, fun i hi => by rcases (by omega : i = 0 ∨ i = 1 ∨ i = 2 ∨ i = 3 ∨ i = 4) with rfl | rfl | rfl | rfl | rfl <;> go_simp⟩
      have HB2 : Hid (Below wb w (W1.alloc (Obj.cells #[.int .i64 1, .int .i64 1, .int .i64 2, .int .i64 3, .bool false] 260))) := Lib.hid ((HBR.out.trans (hb1.mono (Nat.le_of_lt HM.out.lt))).trans (hal.mono (Nat.le_of_lt hM1.lt)))
      have HS2 := Lib.hid hS2
      have hl2 : W1.heap.size < (W1.alloc (Obj.cells #[.int .i64 1, .int .i64 1, .int .i64 2, .int .i64 3, .bool false] 260)).heap.size := by simp
      clear hM1 hal hS2 hb1 HM HBR n0 HLK
      go_wp2_with fail
      generalize (W1.alloc (Obj.cells #[.int .i64 1, .int .i64 1, .int .i64 2, .int .i64 3, .bool false] 260)) = V at *
      obtain ⟨B, hB⟩ : ∃ B, B = W1.heap.size := ⟨_, rfl⟩
      rw [← hB] at HS2 hl2 ⊢
      clear hB
      refine (empty_any V 1 1 2 3 _).mono ?_
      rintro e W2 ⟨rfl, hb2⟩
      have HM3 := Lib.hid (hM2.out.mono hb2)
      have HS3 := Lib.hid (HS2.out.mono hb2 hl2)
      have HB3 := Lib.hid (HB2.out.trans (hb2.mono (Nat.le_of_lt hM2.out.lt)))
      clear hM2 HS2 HB2 hb2 hl2
      have s0 := HS3.out.c0; have s1 := HS3.out.c1; have s2 := HS3.out.c2; have s3 := HS3.out.c3; have s4 := HS3.out.c4
      go_wp2_with fail
      refine (jump_any W2 wb 18 12 0 1 6 0 1 3 1 1 2 3 true HM3.out (by decide) (by decide) (by decide) (by decide) (Nat.le_trans (limbs9 _ (by decide)) (by decide)) (Nat.le_trans (limbs9 _ (by decide)) (by decide)) (Nat.le_trans (limbs9 _ (by decide)) (by decide)) (Nat.le_trans (limbs9 _ (by decide)) (by decide)) (by decide) (by decide) (by decide) (by decide)).mono ?_
      rintro e W3 ⟨rfl, hM4, hb4⟩
      have HM4 : Hid (WK W3 wb 6 0 1 3 true) := Lib.hid hM4
      have HB4 := Lib.hid (HB3.out.trans hb4)
      have o4 := hM4.o
      obtain ⟨qa, qc, q0, _⟩ := HM4.out.n
      rw [Wh.limbs_zero] at q0
      clear hM4 hb4 HM3 HB3 HS3 s0 s1 s2 s3 s4
      go_wp2
      refine ⟨⟨.inr (.inr HM4.out), HB4⟩, ?_⟩
      rw [o4, q0, HO.out.1, HO.out.2]
      show (0 : Nat) < 1
      decide
    · have HM := Lib.hid hk; clear hk
      obtain ⟨na, nc, n0, ns⟩ := HM.out.n
      rw [Wh.limbs_zero] at n0
      have n0 : wr.cell? ⟨wb, 1, none⟩ = some (.slice na 0 nc) := n0
      clear ns
      go_wp2
      go_end0
      exact ⟨rfl, HM.out, HBR.out⟩
end Go.Proofs.YteaeloeebfdodaaGreatDoor
