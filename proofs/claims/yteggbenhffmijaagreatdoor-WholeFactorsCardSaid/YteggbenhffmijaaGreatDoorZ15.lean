/- Part 15 of the proofs that laws of package whole answer true at every input and leave the input as it was, where the library's variables start as the text lays them (the texts G3, G4). -/
import Derived.Test.YteggbenhffmijaaGreatDoorZ14
set_option linter.unusedVariables false
set_option linter.unusedSimpArgs false
/- WALKS, the divisor 5: the steps that look found. -/
namespace Go.Proofs.YteggbenhffmijaaGreatDoor
open Go.RowKit
theorem SM.far1 {w : World} {b x y c d : Nat} {o : Bool} (h : SM w b x y c d o) {q : Addr} (hne : q.block ≠ b) (z : Value) : SM (w.setCell q z) b x y c d o := by
  have ne : ∀ j, q ≠ ⟨b, j, none⟩ := fun j e => hne (congrArg Addr.block e)
  refine ⟨?_, ?_, ?_, ?_, ?_, fun i hi => by rw [World.frozen?_setCell]; exact h.f i hi⟩
  · rw [World.cell?_setCell_other _ _ _ _ (ne _)]; exact h.c0
  · rw [World.cell?_setCell_other _ _ _ _ (ne _)]; exact h.c1
  · rw [World.cell?_setCell_other _ _ _ _ (ne _)]; exact h.c2
  · rw [World.cell?_setCell_other _ _ _ _ (ne _)]; exact h.c3
  · rw [World.cell?_setCell_other _ _ _ _ (ne _)]; exact h.c4
theorem wrap_neg (b : Nat) (h : b < 1000000000) : IntKind.i64.wrap (-(b : Int)) = -(b : Int) := wrap_i64 _ (by omega) (by omega)

def J1 (wb B T A T' A' a b c d : Nat) : Nat → Value → World → Prop
  | 0, v, _ => v = .pointer (some ⟨wb, 0, none⟩)
  | 1, v, _ => v = .pointer (some ⟨wb, 0, none⟩)
  | 2, v, _ => v = .pointer (some ⟨wb, 0, none⟩)
  | 3, v, _ => v = .pointer (some ⟨wb, 0, none⟩)
  | 4, v, _ => v = .pointer (some ⟨wb, 2, none⟩)
  | 5, v, w => SlV w v T
  | 6, v, _ => v = .pointer (some ⟨wb, 0, none⟩)
  | 7, v, _ => v = .pointer (some ⟨wb, 0, none⟩)
  | 8, v, _ => v = .pointer (some ⟨wb, 3, none⟩)
  | 9, v, w => SlV w v A
  | 10, v, _ => v = .pointer (some ⟨B, 0, none⟩)
  | 11, v, _ => v = .int .i64 ((a : Nat))
  | 12, v, _ => v = .pointer (some ⟨B, 1, none⟩)
  | 13, v, _ => v = .int .i64 ((b : Nat))
  | 14, v, w => SlV w v T'
  | 15, v, _ => v = .pointer (some ⟨wb, 0, none⟩)
  | 16, v, _ => v = .pointer (some ⟨wb, 0, none⟩)
  | 17, v, _ => v = .pointer (some ⟨wb, 2, none⟩)
  | 18, v, w => SlV w v T
  | 19, v, _ => v = .pointer (some ⟨wb, 0, none⟩)
  | 20, v, _ => v = .pointer (some ⟨wb, 0, none⟩)
  | 21, v, _ => v = .pointer (some ⟨wb, 3, none⟩)
  | 22, v, w => SlV w v A
  | 23, v, _ => v = .pointer (some ⟨B, 2, none⟩)
  | 24, v, _ => v = .int .i64 ((c : Nat))
  | 25, v, _ => v = .pointer (some ⟨B, 3, none⟩)
  | 26, v, _ => v = .int .i64 ((d : Nat))
  | 27, v, w => SlV w v A'
  | 28, v, _ => v = .pointer (some ⟨wb, 0, none⟩)
  | 29, v, _ => v = .pointer (some ⟨wb, 2, none⟩)
  | _, _, _ => True
theorem J1_stays (wb B T A T' A' a b c d : Nat) : ∀ i v w w', J1 wb B T A T' A' a b c d i v w → Below w.heap.size w w' → J1 wb B T A T' A' a b c d i v w' := by
  intro i v w w' h hb
  match i, h with
  | 0, h => exact h
  | 1, h => exact h
  | 2, h => exact h
  | 3, h => exact h
  | 4, h => exact h
  | 5, h => exact SlV.mono h hb
  | 6, h => exact h
  | 7, h => exact h
  | 8, h => exact h
  | 9, h => exact SlV.mono h hb
  | 10, h => exact h
  | 11, h => exact h
  | 12, h => exact h
  | 13, h => exact h
  | 14, h => exact SlV.mono h hb
  | 15, h => exact h
  | 16, h => exact h
  | 17, h => exact h
  | 18, h => exact SlV.mono h hb
  | 19, h => exact h
  | 20, h => exact h
  | 21, h => exact h
  | 22, h => exact SlV.mono h hb
  | 23, h => exact h
  | 24, h => exact h
  | 25, h => exact h
  | 26, h => exact h
  | 27, h => exact SlV.mono h hb
  | 28, h => exact h
  | 29, h => exact h
  | 30, _ => trivial
  | 31, _ => trivial
  | 32, _ => trivial
  | 33, _ => trivial
  | _ + 34, h => trivial

def J4 (wb B R N R' N' a b c d : Nat) : Nat → Value → World → Prop
  | 0, v, _ => v = .pointer (some ⟨wb, 0, none⟩)
  | 1, v, _ => v = .pointer (some ⟨wb, 0, none⟩)
  | 2, v, _ => v = .pointer (some ⟨wb, 0, none⟩)
  | 3, v, _ => v = .pointer (some ⟨wb, 0, none⟩)
  | 4, v, _ => v = .pointer (some ⟨wb, 0, none⟩)
  | 5, v, w => SlV w v R
  | 6, v, _ => v = .pointer (some ⟨wb, 0, none⟩)
  | 7, v, _ => v = .pointer (some ⟨wb, 0, none⟩)
  | 8, v, _ => v = .pointer (some ⟨wb, 1, none⟩)
  | 9, v, w => SlV w v N
  | 10, v, _ => v = .pointer (some ⟨B, 0, none⟩)
  | 11, v, _ => v = .int .i64 ((a : Nat))
  | 12, v, _ => v = .pointer (some ⟨B, 1, none⟩)
  | 13, v, _ => v = .int .i64 ((b : Nat))
  | 14, v, _ => v = .int .i64 (-(b : Nat))
  | 15, v, w => SlV w v R'
  | 16, v, _ => v = .pointer (some ⟨wb, 0, none⟩)
  | 17, v, _ => v = .pointer (some ⟨wb, 0, none⟩)
  | 18, v, _ => v = .pointer (some ⟨wb, 0, none⟩)
  | 19, v, w => SlV w v R
  | 20, v, _ => v = .pointer (some ⟨wb, 0, none⟩)
  | 21, v, _ => v = .pointer (some ⟨wb, 0, none⟩)
  | 22, v, _ => v = .pointer (some ⟨wb, 1, none⟩)
  | 23, v, w => SlV w v N
  | 24, v, _ => v = .pointer (some ⟨B, 2, none⟩)
  | 25, v, _ => v = .int .i64 ((c : Nat))
  | 26, v, _ => v = .int .i64 (-(c : Nat))
  | 27, v, _ => v = .pointer (some ⟨B, 3, none⟩)
  | 28, v, _ => v = .int .i64 ((d : Nat))
  | 29, v, w => SlV w v N'
  | 30, v, _ => v = .pointer (some ⟨wb, 0, none⟩)
  | 31, v, _ => v = .pointer (some ⟨wb, 0, none⟩)
  | _, _, _ => True
theorem J4_stays (wb B R N R' N' a b c d : Nat) : ∀ i v w w', J4 wb B R N R' N' a b c d i v w → Below w.heap.size w w' → J4 wb B R N R' N' a b c d i v w' := by
  intro i v w w' h hb
  match i, h with
  | 0, h => exact h
  | 1, h => exact h
  | 2, h => exact h
  | 3, h => exact h
  | 4, h => exact h
  | 5, h => exact SlV.mono h hb
  | 6, h => exact h
  | 7, h => exact h
  | 8, h => exact h
  | 9, h => exact SlV.mono h hb
  | 10, h => exact h
  | 11, h => exact h
  | 12, h => exact h
  | 13, h => exact h
  | 14, h => exact h
  | 15, h => exact SlV.mono h hb
  | 16, h => exact h
  | 17, h => exact h
  | 18, h => exact h
  | 19, h => exact SlV.mono h hb
  | 20, h => exact h
  | 21, h => exact h
  | 22, h => exact h
  | 23, h => exact SlV.mono h hb
  | 24, h => exact h
  | 25, h => exact h
  | 26, h => exact h
  | 27, h => exact h
  | 28, h => exact h
  | 29, h => exact SlV.mono h hb
  | 30, h => exact h
  | 31, h => exact h
  | 32, _ => trivial
  | 33, _ => trivial
  | 34, _ => trivial
  | 35, _ => trivial
  | _ + 36, h => trivial

def J5 (wb B : Nat) (odd : Bool) : Nat → Value → World → Prop
  | 0, v, _ => v = .pointer (some ⟨wb, 0, none⟩)
  | 1, v, _ => v = .pointer (some ⟨wb, 0, none⟩)
  | 2, v, _ => v = .pointer (some ⟨wb, 0, none⟩)
  | 3, v, _ => v = .pointer (some ⟨wb, 4, none⟩)
  | 4, v, _ => v = .bool odd
  | 5, v, _ => v = .pointer (some ⟨B, 4, none⟩)
  | 6, v, _ => v = .bool false
  | 7, v, _ => v = .bool odd
  | 8, v, _ => v = .pointer (some ⟨wb, 0, none⟩)
  | 9, v, _ => v = .pointer (some ⟨wb, 4, none⟩)
  | _, _, _ => True
theorem J5_stays (wb B : Nat) (odd : Bool) : ∀ i v w w', J5 wb B odd i v w → Below w.heap.size w w' → J5 wb B odd i v w' := by
  intro i v w w' h hb
  match i, h with
  | 0, h => exact h
  | 1, h => exact h
  | 2, h => exact h
  | 3, h => exact h
  | 4, h => exact h
  | 5, h => exact h
  | 6, h => exact h
  | 7, h => exact h
  | 8, h => exact h
  | 9, h => exact h
  | 10, _ => trivial
  | _ + 11, h => trivial

set_option maxRecDepth 100000 in
set_option maxHeartbeats 2000000 in
theorem jump_any (w : World) (wb R N T A R' N' T' A' a b c d : Nat) (odd : Bool) (h : WK w wb R N T A odd) (ha9 : a < 1000000000) (hb9 : b < 1000000000) (hc9 : c < 1000000000) (hd9 : d < 1000000000)
    (hR : (Wh.limbs R).length ≤ 5000) (hN : (Wh.limbs N).length ≤ 5000) (hT : (Wh.limbs T).length ≤ 5000) (hA : (Wh.limbs A).length ≤ 5000)
    (e1 : (a : Int) * T + (b : Int) * A = T') (e2 : (c : Int) * T + (d : Int) * A = A') (e3 : (a : Int) * R + -(b : Int) * N = R') (e4 : -(c : Int) * R + (d : Int) * N = N') :
    Calls Tryz.prog 282 #[.pointer (some ⟨wb, 0, none⟩), .agg #[.int .i64 (a : Nat), .int .i64 (b : Nat), .int .i64 (c : Nat), .int .i64 (d : Nat), .bool false]] w fun e w' => e = .returned (.tuple #[]) ∧ WK w' wb R' N' T' A' odd ∧ Below wb w w' := by
  have HE1 := Lib.hid (And.intro e1 e2); have HE2 := Lib.hid (And.intro e3 e4); clear e1 e2 e3 e4
  have HTT := Lib.hid hT; have HAA := Lib.hid hA; have HRR := Lib.hid hR; have HNN := Lib.hid hN; clear hT hA hR hN
  have HLT := Lib.hid h.lt
  go_enter Tryz.func282, Tryz.ntmps282
  go_wp2_with fail
  have hal : Below w.heap.size w (w.alloc (Obj.cells #[.int .i64 (a : Nat), .int .i64 (b : Nat), .int .i64 (c : Nat), .int .i64 (d : Nat), .bool false] 277)) := (Below.refl _ _).alloc (Nat.le_refl _) _
  have hS0 : SM (w.alloc (Obj.cells #[.int .i64 (a : Nat), .int .i64 (b : Nat), .int .i64 (c : Nat), .int .i64 (d : Nat), .bool false] 277)) w.heap.size a b c d false := ⟨by go_simp, by go_simp, by go_simp, by go_simp, by go_simp, fun i hi => by rcases (by omega : i = 0 ∨ i = 1 ∨ i = 2 ∨ i = 3 ∨ i = 4) with rfl | rfl | rfl | rfl | rfl <;> go_simp⟩
  have HW := Lib.hid (h.mono hal)
  have HS := Lib.hid hS0
  have HSL : Hid (w.heap.size < (w.alloc (Obj.cells #[.int .i64 (a : Nat), .int .i64 (b : Nat), .int .i64 (c : Nat), .int .i64 (d : Nat), .bool false] 277)).heap.size) := Lib.hid (by simp)
  have HB0 : Hid (Below wb w (w.alloc (Obj.cells #[.int .i64 (a : Nat), .int .i64 (b : Nat), .int .i64 (c : Nat), .int .i64 (d : Nat), .bool false] 277))) := Lib.hid (hal.mono (Nat.le_of_lt h.lt))
  have HNE : Hid (wb ≠ w.heap.size) := Lib.hid (Nat.ne_of_lt h.lt)
  clear hal hS0 h
  generalize (w.alloc (Obj.cells #[.int .i64 (a : Nat), .int .i64 (b : Nat), .int .i64 (c : Nat), .int .i64 (d : Nat), .bool false] 277)) = V at *
  obtain ⟨B, hB⟩ : ∃ B, B = w.heap.size := ⟨_, rfl⟩
  rw [← hB] at HS HSL HNE ⊢
  clear hB
  have HT := HTT; have HA := HAA; have HE := HE1
  refine wp_mono (Q := fun e a' W' => e = .normal ∧ (∃ vals : Nat → Value, a' = { tmps := #[.pointer (some ⟨wb, 0, none⟩), .agg #[.int .i64 (a : Nat), .int .i64 (b : Nat), .int .i64 (c : Nat), .int .i64 (d : Nat), .bool false], undef, .pointer (some ⟨B, 0, none⟩), vals 0, .pointer (some ⟨wb, 0, none⟩), vals 2, vals 3, vals 4, vals 5, vals 6, vals 7, vals 8, vals 9, vals 10, vals 11, vals 12, vals 13, vals 14, vals 15, vals 16, vals 17, vals 18, vals 19, vals 20, vals 21, vals 22, vals 23, vals 24, vals 25, vals 26, vals 27, vals 28, .pointer (some ⟨wb, 2, none⟩), .pointer (some ⟨wb, 0, none⟩), .pointer (some ⟨wb, 3, none⟩), undef, undef, undef, undef, undef, undef, undef, undef, undef, undef, undef, undef, undef, undef, undef, undef, undef, undef, undef, undef, undef, undef, undef, undef, undef, undef, undef, undef, undef, undef, undef, undef, undef, undef, undef, undef, undef, undef, undef, undef, undef, undef, undef, undef, undef, undef, undef, undef, undef, undef, undef, undef, undef, undef, undef, undef, undef, undef, undef, undef, undef, undef], defers := [] }) ∧ WK W' wb R N T' A' odd ∧ SM W' B a b c d false ∧ Below wb V W' ∧ B < W'.heap.size) ?_ ?_
  refine Rt.wp_region_grow (n0 := 4) [30, 31, 32, 33] [1] 98 (fun vals => { tmps := #[.pointer (some ⟨wb, 0, none⟩), .agg #[.int .i64 (a : Nat), .int .i64 (b : Nat), .int .i64 (c : Nat), .int .i64 (d : Nat), .bool false], undef, .pointer (some ⟨B, 0, none⟩), vals 0, vals 1, vals 2, vals 3, vals 4, vals 5, vals 6, vals 7, vals 8, vals 9, vals 10, vals 11, vals 12, vals 13, vals 14, vals 15, vals 16, vals 17, vals 18, vals 19, vals 20, vals 21, vals 22, vals 23, vals 24, vals 25, vals 26, vals 27, vals 28, vals 29, undef, undef, undef, undef, undef, undef, undef, undef, undef, undef, undef, undef, undef, undef, undef, undef, undef, undef, undef, undef, undef, undef, undef, undef, undef, undef, undef, undef, undef, undef, undef, undef, undef, undef, undef, undef, undef, undef, undef, undef, undef, undef, undef, undef, undef, undef, undef, undef, undef, undef, undef, undef, undef, undef, undef, undef, undef, undef, undef, undef, undef, undef, undef, undef], defers := [] }) (J1 wb B T A T' A' a b c d) (by kernel_rfl) (by kernel_rfl) (by kernel_rfl) (by kernel_rfl) (fun _ _ _ _ _ h => absurd h.1 (by simp)) (by kernel_rfl) rfl (fun _ => by kernel_rfl) (by kernel_rfl) (by kernel_rfl) (J1_stays _ _ _ _ _ _ _ _ _ _) ?_ ?_ ?_
  · intro i o d hi hT hW hd vals w' hb hf
    have hlt : i < 34 := (Array.getElem?_eq_some_iff.1 hi).1
    rcases i with _ | _ | _ | _ | _ | _ | _ | _ | _ | _ | _ | _ | _ | _ | _ | _ | _ | _ | _ | _ | _ | _ | _ | _ | _ | _ | _ | _ | _ | _ | _ | _ | _ | _ | i
    · obtain rfl := Option.some.inj hi
      obtain rfl := Option.some.inj hd
      dsimp only
      go_simp
      exact ⟨rfl, Below.refl _ _⟩
    · cases hW
    · obtain rfl := Option.some.inj hi
      obtain rfl := Option.some.inj hd
      dsimp only
      go_simp
      exact ⟨rfl, Below.refl _ _⟩
    · obtain rfl := Option.some.inj hi
      obtain rfl := Option.some.inj hd
      have e2 : vals 2 = _ := hf 2 (by kernel_rfl)
      dsimp only
      rw [e2]
      go_simp
      exact ⟨rfl, Below.refl _ _⟩
    · obtain rfl := Option.some.inj hi
      obtain rfl := Option.some.inj hd
      have e3 : vals 3 = _ := hf 3 (by kernel_rfl)
      dsimp only
      rw [e3]
      go_simp
      exact ⟨rfl, Below.refl _ _⟩
    · obtain rfl := Option.some.inj hi
      obtain rfl := Option.some.inj hd
      have e4 : vals 4 = _ := hf 4 (by kernel_rfl)
      obtain ⟨v0, z0, zs⟩ := HW.out.t.see HW.out.lt hb
      have ZS := Lib.hid zs; clear zs
      dsimp only
      rw [e4]
      go_simp
      exact ⟨ZS.out, Below.refl _ _⟩
    · obtain rfl := Option.some.inj hi
      obtain rfl := Option.some.inj hd
      dsimp only
      go_simp
      exact ⟨rfl, Below.refl _ _⟩
    · obtain rfl := Option.some.inj hi
      obtain rfl := Option.some.inj hd
      have e6 : vals 6 = _ := hf 6 (by kernel_rfl)
      dsimp only
      rw [e6]
      go_simp
      exact ⟨rfl, Below.refl _ _⟩
    · obtain rfl := Option.some.inj hi
      obtain rfl := Option.some.inj hd
      have e7 : vals 7 = _ := hf 7 (by kernel_rfl)
      dsimp only
      rw [e7]
      go_simp
      exact ⟨rfl, Below.refl _ _⟩
    · obtain rfl := Option.some.inj hi
      obtain rfl := Option.some.inj hd
      have e8 : vals 8 = _ := hf 8 (by kernel_rfl)
      obtain ⟨v0, z0, zs⟩ := HW.out.a.see HW.out.lt hb
      have ZS := Lib.hid zs; clear zs
      dsimp only
      rw [e8]
      go_simp
      exact ⟨ZS.out, Below.refl _ _⟩
    · obtain rfl := Option.some.inj hi
      obtain rfl := Option.some.inj hd
      dsimp only
      go_simp
      exact ⟨rfl, Below.refl _ _⟩
    · obtain rfl := Option.some.inj hi
      obtain rfl := Option.some.inj hd
      have e10 : vals 10 = _ := hf 10 (by kernel_rfl)
      have z0 := (hb.cell (p := ⟨B, 0, none⟩) HSL.out).trans HS.out.c0
      dsimp only
      rw [e10]
      go_simp
      exact ⟨rfl, Below.refl _ _⟩
    · obtain rfl := Option.some.inj hi
      obtain rfl := Option.some.inj hd
      dsimp only
      go_simp
      exact ⟨rfl, Below.refl _ _⟩
    · obtain rfl := Option.some.inj hi
      obtain rfl := Option.some.inj hd
      have e12 : vals 12 = _ := hf 12 (by kernel_rfl)
      have z0 := (hb.cell (p := ⟨B, 1, none⟩) HSL.out).trans HS.out.c1
      dsimp only
      rw [e12]
      go_simp
      exact ⟨rfl, Below.refl _ _⟩
    · obtain rfl := Option.some.inj hi
      obtain rfl := Option.some.inj hd
      have h0 : SlV w' (vals 5) _ := hf 5 (by kernel_rfl)
      have h4 : SlV w' (vals 9) _ := hf 9 (by kernel_rfl)
      have e11 : vals 11 = _ := hf 11 (by kernel_rfl)
      have e13 : vals 13 = _ := hf 13 (by kernel_rfl)
      have HP := Lib.hid (blend_sl w' _ _ T A ((a : Nat)) ((b : Nat)) T' h0 h4 HT.out HA.out ⟨by omega, by omega⟩ ⟨by omega, by omega⟩ HE.out.1)
      obtain ⟨a5, c5, e5, -⟩ := h0
      obtain ⟨a9, c9, e9, -⟩ := h4
      rw [e5, e9] at HP
      dsimp only
      rw [e5, e9, e11, e13]
      go_simp
      refine HP.out.mono ?_
      rintro e w5 ⟨⟨v5, rfl, hn5⟩, hb5⟩
      exact ⟨hn5, hb5⟩
    · obtain rfl := Option.some.inj hi
      obtain rfl := Option.some.inj hd
      dsimp only
      go_simp
      exact ⟨rfl, Below.refl _ _⟩
    · obtain rfl := Option.some.inj hi
      obtain rfl := Option.some.inj hd
      have e15 : vals 15 = _ := hf 15 (by kernel_rfl)
      dsimp only
      rw [e15]
      go_simp
      exact ⟨rfl, Below.refl _ _⟩
    · obtain rfl := Option.some.inj hi
      obtain rfl := Option.some.inj hd
      have e16 : vals 16 = _ := hf 16 (by kernel_rfl)
      dsimp only
      rw [e16]
      go_simp
      exact ⟨rfl, Below.refl _ _⟩
    · obtain rfl := Option.some.inj hi
      obtain rfl := Option.some.inj hd
      have e17 : vals 17 = _ := hf 17 (by kernel_rfl)
      obtain ⟨v0, z0, zs⟩ := HW.out.t.see HW.out.lt hb
      have ZS := Lib.hid zs; clear zs
      dsimp only
      rw [e17]
      go_simp
      exact ⟨ZS.out, Below.refl _ _⟩
    · obtain rfl := Option.some.inj hi
      obtain rfl := Option.some.inj hd
      dsimp only
      go_simp
      exact ⟨rfl, Below.refl _ _⟩
    · obtain rfl := Option.some.inj hi
      obtain rfl := Option.some.inj hd
      have e19 : vals 19 = _ := hf 19 (by kernel_rfl)
      dsimp only
      rw [e19]
      go_simp
      exact ⟨rfl, Below.refl _ _⟩
    · obtain rfl := Option.some.inj hi
      obtain rfl := Option.some.inj hd
      have e20 : vals 20 = _ := hf 20 (by kernel_rfl)
      dsimp only
      rw [e20]
      go_simp
      exact ⟨rfl, Below.refl _ _⟩
    · obtain rfl := Option.some.inj hi
      obtain rfl := Option.some.inj hd
      have e21 : vals 21 = _ := hf 21 (by kernel_rfl)
      obtain ⟨v0, z0, zs⟩ := HW.out.a.see HW.out.lt hb
      have ZS := Lib.hid zs; clear zs
      dsimp only
      rw [e21]
      go_simp
      exact ⟨ZS.out, Below.refl _ _⟩
    · obtain rfl := Option.some.inj hi
      obtain rfl := Option.some.inj hd
      dsimp only
      go_simp
      exact ⟨rfl, Below.refl _ _⟩
    · obtain rfl := Option.some.inj hi
      obtain rfl := Option.some.inj hd
      have e23 : vals 23 = _ := hf 23 (by kernel_rfl)
      have z0 := (hb.cell (p := ⟨B, 2, none⟩) HSL.out).trans HS.out.c2
      dsimp only
      rw [e23]
      go_simp
      exact ⟨rfl, Below.refl _ _⟩
    · obtain rfl := Option.some.inj hi
      obtain rfl := Option.some.inj hd
      dsimp only
      go_simp
      exact ⟨rfl, Below.refl _ _⟩
    · obtain rfl := Option.some.inj hi
      obtain rfl := Option.some.inj hd
      have e25 : vals 25 = _ := hf 25 (by kernel_rfl)
      have z0 := (hb.cell (p := ⟨B, 3, none⟩) HSL.out).trans HS.out.c3
      dsimp only
      rw [e25]
      go_simp
      exact ⟨rfl, Below.refl _ _⟩
    · obtain rfl := Option.some.inj hi
      obtain rfl := Option.some.inj hd
      have h0 : SlV w' (vals 18) _ := hf 18 (by kernel_rfl)
      have h4 : SlV w' (vals 22) _ := hf 22 (by kernel_rfl)
      have e24 : vals 24 = _ := hf 24 (by kernel_rfl)
      have e26 : vals 26 = _ := hf 26 (by kernel_rfl)
      have HP := Lib.hid (blend_sl w' _ _ T A ((c : Nat)) ((d : Nat)) A' h0 h4 HT.out HA.out ⟨by omega, by omega⟩ ⟨by omega, by omega⟩ HE.out.2)
      obtain ⟨a18, c18, e18, -⟩ := h0
      obtain ⟨a22, c22, e22, -⟩ := h4
      rw [e18, e22] at HP
      dsimp only
      rw [e18, e22, e24, e26]
      go_simp
      refine HP.out.mono ?_
      rintro e w5 ⟨⟨v5, rfl, hn5⟩, hb5⟩
      exact ⟨hn5, hb5⟩
    · obtain rfl := Option.some.inj hi
      obtain rfl := Option.some.inj hd
      have e0 : vals 0 = _ := hf 0 (by kernel_rfl)
      dsimp only
      rw [e0]
      go_simp
      exact ⟨rfl, Below.refl _ _⟩
    · obtain rfl := Option.some.inj hi
      obtain rfl := Option.some.inj hd
      have e28 : vals 28 = _ := hf 28 (by kernel_rfl)
      dsimp only
      rw [e28]
      go_simp
      exact ⟨rfl, Below.refl _ _⟩
    · cases hT
    · cases hT
    · cases hT
    · cases hT
    · omega
  · intro p o d hi hW hd vals w' hb hf
    have hlt : p < 34 := (Array.getElem?_eq_some_iff.1 hi).1
    rcases p with _ | _ | _ | _ | _ | _ | _ | _ | _ | _ | _ | _ | _ | _ | _ | _ | _ | _ | _ | _ | _ | _ | _ | _ | _ | _ | _ | _ | _ | _ | _ | _ | _ | _ | p
    · cases hW
    · obtain rfl := Option.some.inj hi
      obtain rfl := Option.some.inj hd
      exact ⟨_, fun w'' => by dsimp only; go_simp, rfl⟩
    · cases hW
    · cases hW
    · cases hW
    · cases hW
    · cases hW
    · cases hW
    · cases hW
    · cases hW
    · cases hW
    · cases hW
    · cases hW
    · cases hW
    · cases hW
    · cases hW
    · cases hW
    · cases hW
    · cases hW
    · cases hW
    · cases hW
    · cases hW
    · cases hW
    · cases hW
    · cases hW
    · cases hW
    · cases hW
    · cases hW
    · cases hW
    · cases hW
    · cases hW
    · cases hW
    · cases hW
    · cases hW
    · omega
  · intro vals w' hb hf
    have e1 : vals 1 = _ := hf 1 (by decide) rfl
    obtain ⟨a5, c5, e5, k5⟩ := hf 14 (by decide) rfl
    obtain ⟨a16, c16, e16, k16⟩ := hf 27 (by decide) rfl
    have e18 : vals 29 = _ := hf 29 (by decide) rfl
    have HV := Lib.hid (HW.out.mono hb)
    have HSV := Lib.hid (HS.out.mono hb HSL.out)
    have HBY := Lib.hid (hb.mono (Nat.le_of_lt HW.out.lt))
    have hszV := Lib.hid (Nat.lt_of_lt_of_le HSL.out hb.size)
    have K5 := Lib.hid k5; have K16 := Lib.hid k16; clear k5 k16 hb hf
    obtain ⟨ta, tc, t0, _⟩ := HV.out.t
    have ft := HV.out.f 2 (by decide)
    rw [e1, e5, e16, e18]
    refine Rt.wpAny_step (i := 30) (by kernel_rfl) rfl (by rfl) (fun K hK => ?_)
    have HK := Lib.hid hK; clear hK
    go_simp
    refine HK.out _ _ ?_
    clear HK
    have HV2 := Lib.hid (HV.out.set2 K5.out)
    have HSV2 : Hid (SM (w'.setCell ⟨wb, 2, none⟩ (.slice a5 (Wh.limbs T').length c5)) B a b c d false) := Lib.hid (HSV.out.far1 HNE.out _)
    have K162 := Lib.hid (K16.out.store _ t0 (nl_slice _ _ _) (.slice a5 (Wh.limbs T').length c5))
    have HB2 : Hid (Below wb V (w'.setCell ⟨wb, 2, none⟩ (.slice a5 (Wh.limbs T').length c5))) := Lib.hid (HBY.out.setCell (p := ⟨wb, 2, none⟩) (Nat.le_refl wb) _)
    have hszU : Hid (B < (w'.setCell ⟨wb, 2, none⟩ (.slice a5 (Wh.limbs T').length c5)).heap.size) := Lib.hid (by simpa using hszV.out)
    clear t0 ft HV K16 K5 HBY HSV hszV
    generalize w'.setCell ⟨wb, 2, none⟩ (.slice a5 (Wh.limbs T').length c5) = U at *
    refine Rt.wpAny_step (i := 31) (by kernel_rfl) rfl (by rfl) (fun K hK => ?_)
    have HK := Lib.hid hK; clear hK
    go_simp
    refine HK.out _ _ ?_
    clear HK
    refine Rt.wpAny_step (i := 32) (by kernel_rfl) rfl (by rfl) (fun K hK => ?_)
    have HK := Lib.hid hK; clear hK
    go_simp
    refine HK.out _ _ ?_
    clear HK
    obtain ⟨ua, uc, u0, _⟩ := HV2.out.a
    have fu := HV2.out.f 3 (by decide)
    refine Rt.wpAny_step (i := 33) (by kernel_rfl) rfl (by rfl) (fun K hK => ?_)
    have HK := Lib.hid hK; clear hK
    go_simp
    refine HK.out _ _ ?_
    clear HK
    exact Rt.wpAny_end (by kernel_rfl) ⟨rfl, ⟨vals, by rw [e5, e16]⟩, HV2.out.set3 K162.out, HSV2.out.far1 HNE.out _, HB2.out.setCell (p := ⟨wb, 3, none⟩) (Nat.le_refl wb) _, by simpa using hszU.out⟩
  rintro e a' W ⟨rfl, ⟨va, rfl⟩, hW1, hS1, hb1, hl1⟩
  clear HW HS HSL HT HA HE
  have HW := Lib.hid hW1; have HS := Lib.hid hS1; have HSL := Lib.hid hl1
  have HB1 := Lib.hid (HB0.out.trans hb1)
  have s4 := hS1.c4
  clear hW1 hS1 hb1 hl1 HB0
  go_wp2_with fail
  clear s4
  generalize W = V at *
  have HT := HRR; have HA := HNN; have HE := HE2
  refine wp_mono (Q := fun e a' W' => e = .normal ∧ (∃ vals : Nat → Value, a' = { tmps := #[.pointer (some ⟨wb, 0, none⟩), .agg #[.int .i64 (a : Nat), .int .i64 (b : Nat), .int .i64 (c : Nat), .int .i64 (d : Nat), .bool false], undef, .pointer (some ⟨B, 0, none⟩), va 0, .pointer (some ⟨wb, 0, none⟩), va 2, va 3, va 4, va 5, va 6, va 7, va 8, va 9, va 10, va 11, va 12, va 13, va 14, va 15, va 16, va 17, va 18, va 19, va 20, va 21, va 22, va 23, va 24, va 25, va 26, va 27, va 28, .pointer (some ⟨wb, 2, none⟩), .pointer (some ⟨wb, 0, none⟩), .pointer (some ⟨wb, 3, none⟩), .pointer (some ⟨B, 4, none⟩), .bool false, undef, undef, undef, undef, undef, undef, undef, undef, undef, undef, undef, undef, undef, undef, undef, undef, vals 0, .pointer (some ⟨wb, 0, none⟩), vals 2, vals 3, vals 4, vals 5, vals 6, vals 7, vals 8, vals 9, vals 10, vals 11, vals 12, vals 13, vals 14, vals 15, vals 16, vals 17, vals 18, vals 19, vals 20, vals 21, vals 22, vals 23, vals 24, vals 25, vals 26, vals 27, vals 28, vals 29, vals 30, .pointer (some ⟨wb, 0, none⟩), .pointer (some ⟨wb, 0, none⟩), .pointer (some ⟨wb, 1, none⟩), undef, undef, undef, undef, undef, undef, undef, undef, undef, undef], defers := [] }) ∧ WK W' wb R' N' T' A' odd ∧ SM W' B a b c d false ∧ Below wb V W' ∧ B < W'.heap.size) ?_ ?_
  refine Rt.wp_region_grow (n0 := 4) [32, 33, 34, 35] [1] 98 (fun vals => { tmps := #[.pointer (some ⟨wb, 0, none⟩), .agg #[.int .i64 (a : Nat), .int .i64 (b : Nat), .int .i64 (c : Nat), .int .i64 (d : Nat), .bool false], undef, .pointer (some ⟨B, 0, none⟩), va 0, .pointer (some ⟨wb, 0, none⟩), va 2, va 3, va 4, va 5, va 6, va 7, va 8, va 9, va 10, va 11, va 12, va 13, va 14, va 15, va 16, va 17, va 18, va 19, va 20, va 21, va 22, va 23, va 24, va 25, va 26, va 27, va 28, .pointer (some ⟨wb, 2, none⟩), .pointer (some ⟨wb, 0, none⟩), .pointer (some ⟨wb, 3, none⟩), .pointer (some ⟨B, 4, none⟩), .bool false, undef, undef, undef, undef, undef, undef, undef, undef, undef, undef, undef, undef, undef, undef, undef, undef, vals 0, vals 1, vals 2, vals 3, vals 4, vals 5, vals 6, vals 7, vals 8, vals 9, vals 10, vals 11, vals 12, vals 13, vals 14, vals 15, vals 16, vals 17, vals 18, vals 19, vals 20, vals 21, vals 22, vals 23, vals 24, vals 25, vals 26, vals 27, vals 28, vals 29, vals 30, vals 31, undef, undef, undef, undef, undef, undef, undef, undef, undef, undef, undef, undef], defers := [] }) (J4 wb B R N R' N' a b c d) (by kernel_rfl) (by kernel_rfl) (by kernel_rfl) (by kernel_rfl) (fun _ _ _ _ _ h => absurd h.1 (by simp)) (by kernel_rfl) rfl (fun _ => by kernel_rfl) (by kernel_rfl) (by kernel_rfl) (J4_stays _ _ _ _ _ _ _ _ _ _) ?_ ?_ ?_
  · intro i o d hi hT hW hd vals w' hb hf
    have hlt : i < 36 := (Array.getElem?_eq_some_iff.1 hi).1
    rcases i with _ | _ | _ | _ | _ | _ | _ | _ | _ | _ | _ | _ | _ | _ | _ | _ | _ | _ | _ | _ | _ | _ | _ | _ | _ | _ | _ | _ | _ | _ | _ | _ | _ | _ | _ | _ | i
    · obtain rfl := Option.some.inj hi
      obtain rfl := Option.some.inj hd
      dsimp only
      go_simp
      exact ⟨rfl, Below.refl _ _⟩
    · cases hW
    · obtain rfl := Option.some.inj hi
      obtain rfl := Option.some.inj hd
      dsimp only
      go_simp
      exact ⟨rfl, Below.refl _ _⟩
    · obtain rfl := Option.some.inj hi
      obtain rfl := Option.some.inj hd
      have e2 : vals 2 = _ := hf 2 (by kernel_rfl)
      dsimp only
      rw [e2]
      go_simp
      exact ⟨rfl, Below.refl _ _⟩
    · obtain rfl := Option.some.inj hi
      obtain rfl := Option.some.inj hd
      have e3 : vals 3 = _ := hf 3 (by kernel_rfl)
      dsimp only
      rw [e3]
      go_simp
      exact ⟨rfl, Below.refl _ _⟩
    · obtain rfl := Option.some.inj hi
      obtain rfl := Option.some.inj hd
      have e4 : vals 4 = _ := hf 4 (by kernel_rfl)
      obtain ⟨v0, z0, zs⟩ := HW.out.r.see HW.out.lt hb
      have ZS := Lib.hid zs; clear zs
      dsimp only
      rw [e4]
      go_simp
      exact ⟨ZS.out, Below.refl _ _⟩
    · obtain rfl := Option.some.inj hi
      obtain rfl := Option.some.inj hd
      dsimp only
      go_simp
      exact ⟨rfl, Below.refl _ _⟩
    · obtain rfl := Option.some.inj hi
      obtain rfl := Option.some.inj hd
      have e6 : vals 6 = _ := hf 6 (by kernel_rfl)
      dsimp only
      rw [e6]
      go_simp
      exact ⟨rfl, Below.refl _ _⟩
    · obtain rfl := Option.some.inj hi
      obtain rfl := Option.some.inj hd
      have e7 : vals 7 = _ := hf 7 (by kernel_rfl)
      dsimp only
      rw [e7]
      go_simp
      exact ⟨rfl, Below.refl _ _⟩
    · obtain rfl := Option.some.inj hi
      obtain rfl := Option.some.inj hd
      have e8 : vals 8 = _ := hf 8 (by kernel_rfl)
      obtain ⟨v0, z0, zs⟩ := HW.out.n.see HW.out.lt hb
      have ZS := Lib.hid zs; clear zs
      dsimp only
      rw [e8]
      go_simp
      exact ⟨ZS.out, Below.refl _ _⟩
    · obtain rfl := Option.some.inj hi
      obtain rfl := Option.some.inj hd
      dsimp only
      go_simp
      exact ⟨rfl, Below.refl _ _⟩
    · obtain rfl := Option.some.inj hi
      obtain rfl := Option.some.inj hd
      have e10 : vals 10 = _ := hf 10 (by kernel_rfl)
      have z0 := (hb.cell (p := ⟨B, 0, none⟩) HSL.out).trans HS.out.c0
      dsimp only
      rw [e10]
      go_simp
      exact ⟨rfl, Below.refl _ _⟩
    · obtain rfl := Option.some.inj hi
      obtain rfl := Option.some.inj hd
      dsimp only
      go_simp
      exact ⟨rfl, Below.refl _ _⟩
    · obtain rfl := Option.some.inj hi
      obtain rfl := Option.some.inj hd
      have e12 : vals 12 = _ := hf 12 (by kernel_rfl)
      have z0 := (hb.cell (p := ⟨B, 1, none⟩) HSL.out).trans HS.out.c1
      dsimp only
      rw [e12]
      go_simp
      exact ⟨rfl, Below.refl _ _⟩
    · obtain rfl := Option.some.inj hi
      obtain rfl := Option.some.inj hd
      have e13 : vals 13 = _ := hf 13 (by kernel_rfl)
      dsimp only
      rw [e13]
      have W1 := Lib.hid (wrap_neg b hb9)
      go_simp
      exact ⟨by first | rfl | exact congrArg (Value.int .i64) W1.out, Below.refl _ _⟩
    · obtain rfl := Option.some.inj hi
      obtain rfl := Option.some.inj hd
      have h0 : SlV w' (vals 5) _ := hf 5 (by kernel_rfl)
      have h4 : SlV w' (vals 9) _ := hf 9 (by kernel_rfl)
      have e11 : vals 11 = _ := hf 11 (by kernel_rfl)
      have e14 : vals 14 = _ := hf 14 (by kernel_rfl)
      have HP := Lib.hid (blend_sl w' _ _ R N ((a : Nat)) (-(b : Nat)) R' h0 h4 HT.out HA.out ⟨by omega, by omega⟩ ⟨by omega, by omega⟩ HE.out.1)
      obtain ⟨a5, c5, e5, -⟩ := h0
      obtain ⟨a9, c9, e9, -⟩ := h4
      rw [e5, e9] at HP
      dsimp only
      rw [e5, e9, e11, e14]
      go_simp
      refine HP.out.mono ?_
      rintro e w5 ⟨⟨v5, rfl, hn5⟩, hb5⟩
      exact ⟨hn5, hb5⟩
    · obtain rfl := Option.some.inj hi
      obtain rfl := Option.some.inj hd
      dsimp only
      go_simp
      exact ⟨rfl, Below.refl _ _⟩
    · obtain rfl := Option.some.inj hi
      obtain rfl := Option.some.inj hd
      have e16 : vals 16 = _ := hf 16 (by kernel_rfl)
      dsimp only
      rw [e16]
      go_simp
      exact ⟨rfl, Below.refl _ _⟩
    · obtain rfl := Option.some.inj hi
      obtain rfl := Option.some.inj hd
      have e17 : vals 17 = _ := hf 17 (by kernel_rfl)
      dsimp only
      rw [e17]
      go_simp
      exact ⟨rfl, Below.refl _ _⟩
    · obtain rfl := Option.some.inj hi
      obtain rfl := Option.some.inj hd
      have e18 : vals 18 = _ := hf 18 (by kernel_rfl)
      obtain ⟨v0, z0, zs⟩ := HW.out.r.see HW.out.lt hb
      have ZS := Lib.hid zs; clear zs
      dsimp only
      rw [e18]
      go_simp
      exact ⟨ZS.out, Below.refl _ _⟩
    · obtain rfl := Option.some.inj hi
      obtain rfl := Option.some.inj hd
      dsimp only
      go_simp
      exact ⟨rfl, Below.refl _ _⟩
    · obtain rfl := Option.some.inj hi
      obtain rfl := Option.some.inj hd
      have e20 : vals 20 = _ := hf 20 (by kernel_rfl)
      dsimp only
      rw [e20]
      go_simp
      exact ⟨rfl, Below.refl _ _⟩
    · obtain rfl := Option.some.inj hi
      obtain rfl := Option.some.inj hd
      have e21 : vals 21 = _ := hf 21 (by kernel_rfl)
      dsimp only
      rw [e21]
      go_simp
      exact ⟨rfl, Below.refl _ _⟩
    · obtain rfl := Option.some.inj hi
      obtain rfl := Option.some.inj hd
      have e22 : vals 22 = _ := hf 22 (by kernel_rfl)
      obtain ⟨v0, z0, zs⟩ := HW.out.n.see HW.out.lt hb
      have ZS := Lib.hid zs; clear zs
      dsimp only
      rw [e22]
      go_simp
      exact ⟨ZS.out, Below.refl _ _⟩
    · obtain rfl := Option.some.inj hi
      obtain rfl := Option.some.inj hd
      dsimp only
      go_simp
      exact ⟨rfl, Below.refl _ _⟩
    · obtain rfl := Option.some.inj hi
      obtain rfl := Option.some.inj hd
      have e24 : vals 24 = _ := hf 24 (by kernel_rfl)
      have z0 := (hb.cell (p := ⟨B, 2, none⟩) HSL.out).trans HS.out.c2
      dsimp only
      rw [e24]
      go_simp
      exact ⟨rfl, Below.refl _ _⟩
    · obtain rfl := Option.some.inj hi
      obtain rfl := Option.some.inj hd
      have e25 : vals 25 = _ := hf 25 (by kernel_rfl)
      dsimp only
      rw [e25]
      have W1 := Lib.hid (wrap_neg c hc9)
      go_simp
      exact ⟨by first | rfl | exact congrArg (Value.int .i64) W1.out, Below.refl _ _⟩
    · obtain rfl := Option.some.inj hi
      obtain rfl := Option.some.inj hd
      dsimp only
      go_simp
      exact ⟨rfl, Below.refl _ _⟩
    · obtain rfl := Option.some.inj hi
      obtain rfl := Option.some.inj hd
      have e27 : vals 27 = _ := hf 27 (by kernel_rfl)
      have z0 := (hb.cell (p := ⟨B, 3, none⟩) HSL.out).trans HS.out.c3
      dsimp only
      rw [e27]
      go_simp
      exact ⟨rfl, Below.refl _ _⟩
    · obtain rfl := Option.some.inj hi
      obtain rfl := Option.some.inj hd
      have h0 : SlV w' (vals 19) _ := hf 19 (by kernel_rfl)
      have h4 : SlV w' (vals 23) _ := hf 23 (by kernel_rfl)
      have e26 : vals 26 = _ := hf 26 (by kernel_rfl)
      have e28 : vals 28 = _ := hf 28 (by kernel_rfl)
      have HP := Lib.hid (blend_sl w' _ _ R N (-(c : Nat)) ((d : Nat)) N' h0 h4 HT.out HA.out ⟨by omega, by omega⟩ ⟨by omega, by omega⟩ HE.out.2)
      obtain ⟨a19, c19, e19, -⟩ := h0
      obtain ⟨a23, c23, e23, -⟩ := h4
      rw [e19, e23] at HP
      dsimp only
      rw [e19, e23, e26, e28]
      go_simp
      refine HP.out.mono ?_
      rintro e w5 ⟨⟨v5, rfl, hn5⟩, hb5⟩
      exact ⟨hn5, hb5⟩
    · obtain rfl := Option.some.inj hi
      obtain rfl := Option.some.inj hd
      have e0 : vals 0 = _ := hf 0 (by kernel_rfl)
      dsimp only
      rw [e0]
      go_simp
      exact ⟨rfl, Below.refl _ _⟩
    · obtain rfl := Option.some.inj hi
      obtain rfl := Option.some.inj hd
      have e30 : vals 30 = _ := hf 30 (by kernel_rfl)
      dsimp only
      rw [e30]
      go_simp
      exact ⟨rfl, Below.refl _ _⟩
    · cases hT
    · cases hT
    · cases hT
    · cases hT
    · omega
  · intro p o d hi hW hd vals w' hb hf
    have hlt : p < 36 := (Array.getElem?_eq_some_iff.1 hi).1
    rcases p with _ | _ | _ | _ | _ | _ | _ | _ | _ | _ | _ | _ | _ | _ | _ | _ | _ | _ | _ | _ | _ | _ | _ | _ | _ | _ | _ | _ | _ | _ | _ | _ | _ | _ | _ | _ | p
    · cases hW
    · obtain rfl := Option.some.inj hi
      obtain rfl := Option.some.inj hd
      exact ⟨_, fun w'' => by dsimp only; go_simp, rfl⟩
    · cases hW
    · cases hW
    · cases hW
    · cases hW
    · cases hW
    · cases hW
    · cases hW
    · cases hW
    · cases hW
    · cases hW
    · cases hW
    · cases hW
    · cases hW
    · cases hW
    · cases hW
    · cases hW
    · cases hW
    · cases hW
    · cases hW
    · cases hW
    · cases hW
    · cases hW
    · cases hW
    · cases hW
    · cases hW
    · cases hW
    · cases hW
    · cases hW
    · cases hW
    · cases hW
    · cases hW
    · cases hW
    · cases hW
    · cases hW
    · omega
  · intro vals w' hb hf
    have e1 : vals 1 = _ := hf 1 (by decide) rfl
    obtain ⟨a5, c5, e5, k5⟩ := hf 15 (by decide) rfl
    obtain ⟨a16, c16, e16, k16⟩ := hf 29 (by decide) rfl
    have e18 : vals 31 = _ := hf 31 (by decide) rfl
    have HV := Lib.hid (HW.out.mono hb)
    have HSV := Lib.hid (HS.out.mono hb HSL.out)
    have HBY := Lib.hid (hb.mono (Nat.le_of_lt HW.out.lt))
    have hszV := Lib.hid (Nat.lt_of_lt_of_le HSL.out hb.size)
    have K5 := Lib.hid k5; have K16 := Lib.hid k16; clear k5 k16 hb hf
    obtain ⟨ta, tc, t0, _⟩ := HV.out.r
    have ft := HV.out.f 0 (by decide)
    rw [e1, e5, e16, e18]
    refine Rt.wpAny_step (i := 32) (by kernel_rfl) rfl (by rfl) (fun K hK => ?_)
    have HK := Lib.hid hK; clear hK
    go_simp
    refine HK.out _ _ ?_
    clear HK
    have HV2 := Lib.hid (HV.out.set0 K5.out)
    have HSV2 : Hid (SM (w'.setCell ⟨wb, 0, none⟩ (.slice a5 (Wh.limbs R').length c5)) B a b c d false) := Lib.hid (HSV.out.far1 HNE.out _)
    have K162 := Lib.hid (K16.out.store _ t0 (nl_slice _ _ _) (.slice a5 (Wh.limbs R').length c5))
    have HB2 : Hid (Below wb V (w'.setCell ⟨wb, 0, none⟩ (.slice a5 (Wh.limbs R').length c5))) := Lib.hid (HBY.out.setCell (p := ⟨wb, 0, none⟩) (Nat.le_refl wb) _)
    have hszU : Hid (B < (w'.setCell ⟨wb, 0, none⟩ (.slice a5 (Wh.limbs R').length c5)).heap.size) := Lib.hid (by simpa using hszV.out)
    clear t0 ft HV K16 K5 HBY HSV hszV
    generalize w'.setCell ⟨wb, 0, none⟩ (.slice a5 (Wh.limbs R').length c5) = U at *
    refine Rt.wpAny_step (i := 33) (by kernel_rfl) rfl (by rfl) (fun K hK => ?_)
    have HK := Lib.hid hK; clear hK
    go_simp
    refine HK.out _ _ ?_
    clear HK
    refine Rt.wpAny_step (i := 34) (by kernel_rfl) rfl (by rfl) (fun K hK => ?_)
    have HK := Lib.hid hK; clear hK
    go_simp
    refine HK.out _ _ ?_
    clear HK
    obtain ⟨ua, uc, u0, _⟩ := HV2.out.n
    have fu := HV2.out.f 1 (by decide)
    refine Rt.wpAny_step (i := 35) (by kernel_rfl) rfl (by rfl) (fun K hK => ?_)
    have HK := Lib.hid hK; clear hK
    go_simp
    refine HK.out _ _ ?_
    clear HK
    exact Rt.wpAny_end (by kernel_rfl) ⟨rfl, ⟨vals, by rw [e5, e16]⟩, HV2.out.set1 K162.out, HSV2.out.far1 HNE.out _, HB2.out.setCell (p := ⟨wb, 1, none⟩) (Nat.le_refl wb) _, by simpa using hszU.out⟩
  rintro e a' W4 ⟨rfl, ⟨vb, rfl⟩, hW1, hS1, hb1, hl1⟩
  clear HW HS HSL HT HA HE
  have HW := Lib.hid hW1; have HS := Lib.hid hS1; have HSL := Lib.hid hl1
  have HB2 := Lib.hid (HB1.out.trans hb1)
  clear hW1 hS1 hb1 hl1 HB1
  go_wp2_with fail
  generalize W4 = V at *
  refine wp_mono (Q := fun e a' W' => e = .normal ∧ (∃ vals : Nat → Value, a' = { tmps := #[.pointer (some ⟨wb, 0, none⟩), .agg #[.int .i64 (a : Nat), .int .i64 (b : Nat), .int .i64 (c : Nat), .int .i64 (d : Nat), .bool false], undef, .pointer (some ⟨B, 0, none⟩), va 0, .pointer (some ⟨wb, 0, none⟩), va 2, va 3, va 4, va 5, va 6, va 7, va 8, va 9, va 10, va 11, va 12, va 13, va 14, va 15, va 16, va 17, va 18, va 19, va 20, va 21, va 22, va 23, va 24, va 25, va 26, va 27, va 28, .pointer (some ⟨wb, 2, none⟩), .pointer (some ⟨wb, 0, none⟩), .pointer (some ⟨wb, 3, none⟩), .pointer (some ⟨B, 4, none⟩), .bool false, undef, undef, undef, undef, undef, undef, undef, undef, undef, undef, undef, undef, undef, undef, undef, undef, vb 0, .pointer (some ⟨wb, 0, none⟩), vb 2, vb 3, vb 4, vb 5, vb 6, vb 7, vb 8, vb 9, vb 10, vb 11, vb 12, vb 13, vb 14, vb 15, vb 16, vb 17, vb 18, vb 19, vb 20, vb 21, vb 22, vb 23, vb 24, vb 25, vb 26, vb 27, vb 28, vb 29, vb 30, .pointer (some ⟨wb, 0, none⟩), .pointer (some ⟨wb, 0, none⟩), .pointer (some ⟨wb, 1, none⟩), vals 0, vals 1, vals 2, vals 3, vals 4, vals 5, vals 6, vals 7, vals 8, .pointer (some ⟨wb, 4, none⟩)], defers := [] }) ∧ WK W' wb R' N' T' A' odd ∧ Below wb V W') ?_ ?_
  refine Rt.wp_region_grow (n0 := 1) [10] [] 98 (fun vals => { tmps := #[.pointer (some ⟨wb, 0, none⟩), .agg #[.int .i64 (a : Nat), .int .i64 (b : Nat), .int .i64 (c : Nat), .int .i64 (d : Nat), .bool false], undef, .pointer (some ⟨B, 0, none⟩), va 0, .pointer (some ⟨wb, 0, none⟩), va 2, va 3, va 4, va 5, va 6, va 7, va 8, va 9, va 10, va 11, va 12, va 13, va 14, va 15, va 16, va 17, va 18, va 19, va 20, va 21, va 22, va 23, va 24, va 25, va 26, va 27, va 28, .pointer (some ⟨wb, 2, none⟩), .pointer (some ⟨wb, 0, none⟩), .pointer (some ⟨wb, 3, none⟩), .pointer (some ⟨B, 4, none⟩), .bool false, undef, undef, undef, undef, undef, undef, undef, undef, undef, undef, undef, undef, undef, undef, undef, undef, vb 0, .pointer (some ⟨wb, 0, none⟩), vb 2, vb 3, vb 4, vb 5, vb 6, vb 7, vb 8, vb 9, vb 10, vb 11, vb 12, vb 13, vb 14, vb 15, vb 16, vb 17, vb 18, vb 19, vb 20, vb 21, vb 22, vb 23, vb 24, vb 25, vb 26, vb 27, vb 28, vb 29, vb 30, .pointer (some ⟨wb, 0, none⟩), .pointer (some ⟨wb, 0, none⟩), .pointer (some ⟨wb, 1, none⟩), vals 0, vals 1, vals 2, vals 3, vals 4, vals 5, vals 6, vals 7, vals 8, vals 9], defers := [] }) (J5 wb B odd) (by kernel_rfl) (by kernel_rfl) (by kernel_rfl) (by kernel_rfl) (fun _ _ _ _ _ h => absurd h.1 (by simp)) (by kernel_rfl) rfl (fun _ => by kernel_rfl) (by kernel_rfl) (by kernel_rfl) (J5_stays _ _ _) ?_ ?_ ?_
  · intro i o d hi hT hW hd vals w' hb hf
    have hlt : i < 11 := (Array.getElem?_eq_some_iff.1 hi).1
    rcases i with _ | _ | _ | _ | _ | _ | _ | _ | _ | _ | _ | i
    · obtain rfl := Option.some.inj hi
      obtain rfl := Option.some.inj hd
      dsimp only
      go_simp
      exact ⟨rfl, Below.refl _ _⟩
    · obtain rfl := Option.some.inj hi
      obtain rfl := Option.some.inj hd
      dsimp only
      go_simp
      exact ⟨rfl, Below.refl _ _⟩
    · obtain rfl := Option.some.inj hi
      obtain rfl := Option.some.inj hd
      have e1 : vals 1 = _ := hf 1 (by kernel_rfl)
      dsimp only
      rw [e1]
      go_simp
      exact ⟨rfl, Below.refl _ _⟩
    · obtain rfl := Option.some.inj hi
      obtain rfl := Option.some.inj hd
      have e2 : vals 2 = _ := hf 2 (by kernel_rfl)
      dsimp only
      rw [e2]
      go_simp
      exact ⟨rfl, Below.refl _ _⟩
    · obtain rfl := Option.some.inj hi
      obtain rfl := Option.some.inj hd
      have e3 : vals 3 = _ := hf 3 (by kernel_rfl)
      have z0 := (hb.cell (p := ⟨wb, 4, none⟩) HW.out.lt).trans HW.out.o
      dsimp only
      rw [e3]
      go_simp
      exact ⟨rfl, Below.refl _ _⟩
    · obtain rfl := Option.some.inj hi
      obtain rfl := Option.some.inj hd
      dsimp only
      go_simp
      exact ⟨rfl, Below.refl _ _⟩
    · obtain rfl := Option.some.inj hi
      obtain rfl := Option.some.inj hd
      have e5 : vals 5 = _ := hf 5 (by kernel_rfl)
      have z0 := (hb.cell (p := ⟨B, 4, none⟩) HSL.out).trans HS.out.c4
      dsimp only
      rw [e5]
      go_simp
      exact ⟨rfl, Below.refl _ _⟩
    · obtain rfl := Option.some.inj hi
      obtain rfl := Option.some.inj hd
      have e4 : vals 4 = _ := hf 4 (by kernel_rfl)
      have e6 : vals 6 = _ := hf 6 (by kernel_rfl)
      dsimp only
      rw [e4, e6]
      go_simp
      exact ⟨by first | rfl | (cases odd <;> rfl), Below.refl _ _⟩
    · obtain rfl := Option.some.inj hi
      obtain rfl := Option.some.inj hd
      have e0 : vals 0 = _ := hf 0 (by kernel_rfl)
      dsimp only
      rw [e0]
      go_simp
      exact ⟨rfl, Below.refl _ _⟩
    · obtain rfl := Option.some.inj hi
      obtain rfl := Option.some.inj hd
      have e8 : vals 8 = _ := hf 8 (by kernel_rfl)
      dsimp only
      rw [e8]
      go_simp
      exact ⟨rfl, Below.refl _ _⟩
    · cases hT
    · omega
  · intro p o d hi hW hd vals w' hb hf
    cases hW
  · intro vals w' hb hf
    have e7 : vals 7 = _ := hf 7 (by decide) rfl
    have e9 : vals 9 = _ := hf 9 (by decide) rfl
    have HV := Lib.hid (HW.out.mono hb)
    have HBY := Lib.hid (hb.mono (Nat.le_of_lt HW.out.lt))
    clear hb hf
    have t0 := HV.out.o
    have ft := HV.out.f 4 (by decide)
    rw [e7, e9]
    refine Rt.wpAny_step (i := 10) (by kernel_rfl) rfl (by rfl) (fun K hK => ?_)
    have HK := Lib.hid hK; clear hK
    go_simp
    refine HK.out _ _ ?_
    clear HK
    exact Rt.wpAny_end (by kernel_rfl) ⟨rfl, ⟨vals, by rw [e7]⟩, HV.out.set4 odd, HBY.out.setCell (p := ⟨wb, 4, none⟩) (Nat.le_refl wb) _⟩
  rintro e a' W5 ⟨rfl, ⟨vc, rfl⟩, hW1, hb1⟩
  have HF := Lib.hid (And.intro hW1 (HB2.out.trans hb1))
  clear hW1 hb1
  go_wp2
  go_end0
  exact ⟨rfl, HF.out⟩
end Go.Proofs.YteggbenhffmijaaGreatDoor

/- WALKS, the divisor 6: Euclid's algorithm at 12 and 18. -/
namespace Go.Proofs.YteggbenhffmijaaGreatDoor
open Go.RowKit
theorem limbs9 (n : Nat) (h : n < 1000000000) : (Wh.limbs n).length ≤ 1 := Wh.limbs_length_le (k := 1) (by rw [Wh.R_one]; exact h)
theorem look_a {T A : Nat} {odd : Bool} (w : World) (wb : Nat) (h : WK w wb 12 18 T A odd) :
    Calls Tryz.prog 279 #[.pointer (some ⟨wb, 0, none⟩)] w fun e w' => e = .returned (.agg #[.int .i64 1, .int .i64 0, .int .i64 0, .int .i64 1, .bool false]) ∧ Below w.heap.size w w' := by
  refine (look_short w wb 12 18 h.r h.n h.lt (by decide) (by decide) (fun h l a b c d o => h = 12 ∧ l = 18 ∧ a = 1 ∧ b = 0 ∧ c = 0 ∧ d = 1 ∧ o = false) ⟨rfl, rfl, rfl, rfl, rfl, rfl, rfl⟩ ?_ ?_).mono ?_
  · rintro _ _ _ _ _ _ _ ⟨rfl, rfl, rfl, rfl, rfl, rfl, rfl⟩; decide
  · rintro _ _ _ _ _ _ _ ⟨rfl, rfl, rfl, rfl, rfl, rfl, rfl⟩ _ h; omega
  · rintro e w' ⟨⟨_, _, _, _, _, _, _, ⟨rfl, rfl, rfl, rfl, rfl, rfl, rfl⟩, _, rfl⟩, hb⟩
    exact ⟨rfl, hb⟩
theorem look_b {T A : Nat} {odd : Bool} (w : World) (wb : Nat) (h : WK w wb 18 12 T A odd) :
    Calls Tryz.prog 279 #[.pointer (some ⟨wb, 0, none⟩)] w fun e w' => e = .returned (.agg #[.int .i64 1, .int .i64 1, .int .i64 2, .int .i64 3, .bool false]) ∧ Below w.heap.size w w' := by
  refine (look_short w wb 18 12 h.r h.n h.lt (by decide) (by decide) (fun h l a b c d o => (h = 18 ∧ l = 12 ∧ a = 1 ∧ b = 0 ∧ c = 0 ∧ d = 1 ∧ o = false) ∨ (h = 12 ∧ l = 6 ∧ a = 0 ∧ b = 1 ∧ c = 1 ∧ d = 1 ∧ o = true) ∨ (h = 6 ∧ l = 0 ∧ a = 1 ∧ b = 1 ∧ c = 2 ∧ d = 3 ∧ o = false)) (.inl ⟨rfl, rfl, rfl, rfl, rfl, rfl, rfl⟩) ?_ ?_).mono ?_
  · rintro _ _ _ _ _ _ _ (⟨rfl, rfl, rfl, rfl, rfl, rfl, rfl⟩ | ⟨rfl, rfl, rfl, rfl, rfl, rfl, rfl⟩ | ⟨rfl, rfl, rfl, rfl, rfl, rfl, rfl⟩) <;> decide
  · rintro _ _ _ _ _ _ _ (⟨rfl, rfl, rfl, rfl, rfl, rfl, rfl⟩ | ⟨rfl, rfl, rfl, rfl, rfl, rfl, rfl⟩ | ⟨rfl, rfl, rfl, rfl, rfl, rfl, rfl⟩) h1 h2
    · exact ⟨by decide, .inr (.inl ⟨rfl, rfl, rfl, rfl, rfl, rfl, rfl⟩)⟩
    · exact ⟨by decide, .inr (.inr ⟨rfl, rfl, rfl, rfl, rfl, rfl, rfl⟩)⟩
    · omega
  · rintro e w' ⟨⟨_, _, _, _, _, _, _, (⟨rfl, rfl, rfl, rfl, rfl, rfl, rfl⟩ | ⟨rfl, rfl, rfl, rfl, rfl, rfl, rfl⟩ | ⟨rfl, rfl, rfl, rfl, rfl, rfl, rfl⟩), hn, rfl⟩, hb⟩
    · exact absurd ⟨by decide, by decide⟩ hn
    · exact absurd ⟨by decide, by decide⟩ hn
    · exact ⟨rfl, hb⟩
set_option maxRecDepth 100000 in
set_option maxHeartbeats 1000000 in
theorem finish_12_18 (w : World) (wb : Nat) (h : WK w wb 12 18 1 0 false) :
    Calls Tryz.prog 240 #[.pointer (some ⟨wb, 0, none⟩)] w fun e w' => e = .returned (.tuple #[]) ∧ WK w' wb 6 0 1 3 true ∧ Below wb w w' := by
  have H := Lib.hid h; clear h
  go_enter Tryz.func240, Tryz.ntmps240
  go_wp2_with fail
  go_loopw [2] (fun _ wr => (WK wr wb 12 18 1 0 false ∨ WK wr wb 18 12 0 1 true ∨ WK wr wb 6 0 1 3 true) ∧ Hid (Below wb w wr)) (fun _ wr => match wr.cell? ⟨wb, 4, none⟩ with | some (.bool false) => 2 | _ => match wr.cell? ⟨wb, 1, none⟩ with | some (.slice _ n _) => n | _ => 0)
  case atStart => exact ⟨.inl H.out, Lib.hid (Below.refl _ _)⟩
  case round =>
    clear H
    obtain ⟨hk, HBR⟩ := hrel
    rcases hk with hk | hk | hk
    · have HM := Lib.hid hk; clear hk
      obtain ⟨na, nc, n0, ns⟩ := HM.out.n
      rw [limbs_one_of (n := 18) (by decide)] at n0
      have n0 : wr.cell? ⟨wb, 1, none⟩ = some (.slice na 1 nc) := n0
      have HO := Lib.hid HM.out.o
      have HLK := Lib.hid (look_a wr wb HM.out)
      clear ns
      go_wp2_with fail
      refine HLK.out.mono ?_
      rintro e W1 ⟨rfl, hb1⟩
      have hM1 := HM.out.mono hb1
      have hal : Below W1.heap.size W1 (W1.alloc (Obj.cells #[.int .i64 1, .int .i64 0, .int .i64 0, .int .i64 1, .bool false] 277)) := (Below.refl _ _).alloc (Nat.le_refl _) _
      have hM2 := Lib.hid (hM1.mono hal)
      have hS2 : SM (W1.alloc (Obj.cells #[.int .i64 1, .int .i64 0, .int .i64 0, .int .i64 1, .bool false] 277)) W1.heap.size 1 0 0 1 false := ⟨by go_simp; try rfl, by go_simp; try rfl, by go_simp; try rfl, by go_simp; try rfl, by go_simp; try rfl, fun i hi => by rcases (by omega : i = 0 ∨ i = 1 ∨ i = 2 ∨ i = 3 ∨ i = 4) with rfl | rfl | rfl | rfl | rfl <;> go_simp⟩
      have HB2 : Hid (Below wb w (W1.alloc (Obj.cells #[.int .i64 1, .int .i64 0, .int .i64 0, .int .i64 1, .bool false] 277))) := Lib.hid ((HBR.out.trans (hb1.mono (Nat.le_of_lt HM.out.lt))).trans (hal.mono (Nat.le_of_lt hM1.lt)))
      have HS2 := Lib.hid hS2
      have hl2 : W1.heap.size < (W1.alloc (Obj.cells #[.int .i64 1, .int .i64 0, .int .i64 0, .int .i64 1, .bool false] 277)).heap.size := by simp
      clear hM1 hal hS2 hb1 HM HBR n0 HLK
      go_wp2_with fail
      generalize (W1.alloc (Obj.cells #[.int .i64 1, .int .i64 0, .int .i64 0, .int .i64 1, .bool false] 277)) = V at *
      obtain ⟨B, hB⟩ : ∃ B, B = W1.heap.size := ⟨_, rfl⟩
      rw [← hB] at HS2 hl2 ⊢
      clear hB
      refine (empty_any V 1 0 0 1 _).mono ?_
      rintro e W2 ⟨rfl, hb2⟩
      have HM3 := Lib.hid (hM2.out.mono hb2)
      have HS3 := Lib.hid (HS2.out.mono hb2 hl2)
      have HB3 := Lib.hid (HB2.out.trans (hb2.mono (Nat.le_of_lt hM2.out.lt)))
      clear hM2 HS2 HB2 hb2 hl2
      go_wp2_with fail
      refine (step_any W2 wb 12 18 1 0 false HM3.out (by decide) (Nat.le_trans (limbs9 _ (by decide)) (by decide)) (Nat.le_trans (limbs9 _ (by decide)) (by decide)) (Nat.lt_of_le_of_lt (limbs9 _ (by decide)) (by decide)) (Nat.le_trans (limbs9 _ (by decide)) (by decide)) (Nat.le_trans (limbs9 _ (by decide)) (by decide))).mono ?_
      rintro e W3 ⟨rfl, hM4, hb4⟩
      have HM4 : Hid (WK W3 wb 18 12 0 1 true) := Lib.hid hM4
      have HB4 := Lib.hid (HB3.out.trans hb4)
      have o4 := hM4.o
      obtain ⟨qa, qc, q0, _⟩ := HM4.out.n
      rw [limbs_one_of (n := 12) (by decide)] at q0
      clear hM4 hb4 HM3 HB3 HS3
      go_wp2
      refine ⟨⟨.inr (.inl HM4.out), HB4⟩, ?_⟩
      rw [o4, q0, HO.out]
      show (1 : Nat) < 2
      decide
    · have HM := Lib.hid hk; clear hk
      obtain ⟨na, nc, n0, ns⟩ := HM.out.n
      rw [limbs_one_of (n := 12) (by decide)] at n0
      have n0 : wr.cell? ⟨wb, 1, none⟩ = some (.slice na 1 nc) := n0
      have HO := Lib.hid (And.intro HM.out.o n0)
      have HLK := Lib.hid (look_b wr wb HM.out)
      clear ns
      go_wp2_with fail
      refine HLK.out.mono ?_
      rintro e W1 ⟨rfl, hb1⟩
      have hM1 := HM.out.mono hb1
      have hal : Below W1.heap.size W1 (W1.alloc (Obj.cells #[.int .i64 1, .int .i64 1, .int .i64 2, .int .i64 3, .bool false] 277)) := (Below.refl _ _).alloc (Nat.le_refl _) _
      have hM2 := Lib.hid (hM1.mono hal)
      have hS2 : SM (W1.alloc (Obj.cells #[.int .i64 1, .int .i64 1, .int .i64 2, .int .i64 3, .bool false] 277)) W1.heap.size 1 1 2 3 false := ⟨by go_simp; try rfl, by go_simp; try rfl, by go_simp; try rfl, by go_simp; try rfl, by go_simp; try rfl, fun i hi => by rcases (by omega : i = 0 ∨ i = 1 ∨ i = 2 ∨ i = 3 ∨ i = 4) with rfl | rfl | rfl | rfl | rfl <;> go_simp⟩
      have HB2 : Hid (Below wb w (W1.alloc (Obj.cells #[.int .i64 1, .int .i64 1, .int .i64 2, .int .i64 3, .bool false] 277))) := Lib.hid ((HBR.out.trans (hb1.mono (Nat.le_of_lt HM.out.lt))).trans (hal.mono (Nat.le_of_lt hM1.lt)))
      have HS2 := Lib.hid hS2
      have hl2 : W1.heap.size < (W1.alloc (Obj.cells #[.int .i64 1, .int .i64 1, .int .i64 2, .int .i64 3, .bool false] 277)).heap.size := by simp
      clear hM1 hal hS2 hb1 HM HBR n0 HLK
      go_wp2_with fail
      generalize (W1.alloc (Obj.cells #[.int .i64 1, .int .i64 1, .int .i64 2, .int .i64 3, .bool false] 277)) = V at *
      obtain ⟨B, hB⟩ : ∃ B, B = W1.heap.size := ⟨_, rfl⟩
      rw [← hB] at HS2 hl2 ⊢
      clear hB
      refine (empty_any V 1 1 2 3 _).mono ?_
      rintro e W2 ⟨rfl, hb2⟩
      have HM3 := Lib.hid (hM2.out.mono hb2)
      have HS3 := Lib.hid (HS2.out.mono hb2 hl2)
      have HB3 := Lib.hid (HB2.out.trans (hb2.mono (Nat.le_of_lt hM2.out.lt)))
      clear hM2 HS2 HB2 hb2 hl2
      have s0 := HS3.out.c0; have s1 := HS3.out.c1; have s2 := HS3.out.c2; have s3 := HS3.out.c3; have s4 := HS3.out.c4
      go_wp2_with fail
      refine (jump_any W2 wb 18 12 0 1 6 0 1 3 1 1 2 3 true HM3.out (by decide) (by decide) (by decide) (by decide) (Nat.le_trans (limbs9 _ (by decide)) (by decide)) (Nat.le_trans (limbs9 _ (by decide)) (by decide)) (Nat.le_trans (limbs9 _ (by decide)) (by decide)) (Nat.le_trans (limbs9 _ (by decide)) (by decide)) (by decide) (by decide) (by decide) (by decide)).mono ?_
      rintro e W3 ⟨rfl, hM4, hb4⟩
      have HM4 : Hid (WK W3 wb 6 0 1 3 true) := Lib.hid hM4
      have HB4 := Lib.hid (HB3.out.trans hb4)
      have o4 := hM4.o
      obtain ⟨qa, qc, q0, _⟩ := HM4.out.n
      rw [Wh.limbs_zero] at q0
      clear hM4 hb4 HM3 HB3 HS3 s0 s1 s2 s3 s4
      go_wp2
      refine ⟨⟨.inr (.inr HM4.out), HB4⟩, ?_⟩
      rw [o4, q0, HO.out.1, HO.out.2]
      show (0 : Nat) < 1
      decide
    · have HM := Lib.hid hk; clear hk
      obtain ⟨na, nc, n0, ns⟩ := HM.out.n
      rw [Wh.limbs_zero] at n0
      have n0 : wr.cell? ⟨wb, 1, none⟩ = some (.slice na 0 nc) := n0
      clear ns
      go_wp2
      go_end0
      exact ⟨rfl, HM.out, HBR.out⟩
end Go.Proofs.YteggbenhffmijaaGreatDoor
