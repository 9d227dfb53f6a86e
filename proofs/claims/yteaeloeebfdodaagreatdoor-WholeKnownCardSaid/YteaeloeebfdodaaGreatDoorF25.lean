/- Part 25 of the proofs that laws of package whole answer true at every input and leave the input as it was, where the library's variables start as the text lays them (the texts G10, M15). -/
import Derived.Test.YteaeloeebfdodaaGreatDoorF15
import Derived.Test.YteaeloeebfdodaaGreatDoorF22
set_option linter.unusedVariables false
set_option linter.unusedSimpArgs false
/- WALKS, the divisor 10: a jump of an odd number of steps. -/
namespace Go.Proofs.YteaeloeebfdodaaGreatDoor
open Go.RowKit
theorem wrap_negneg (b : Nat) (h : b < 1000000000) : IntKind.i64.wrap (b : Int) = (b : Int) := wrap_i64 _ (by omega) (by omega)
/-- the stride's variable, with any signs -/
structure SMI (wr : World) (b : Nat) (x y c d : Int) (o : Bool) : Prop where
  c0 : wr.cell? ⟨b, 0, none⟩ = some (.int .i64 x)
  c1 : wr.cell? ⟨b, 1, none⟩ = some (.int .i64 y)
  c2 : wr.cell? ⟨b, 2, none⟩ = some (.int .i64 c)
  c3 : wr.cell? ⟨b, 3, none⟩ = some (.int .i64 d)
  c4 : wr.cell? ⟨b, 4, none⟩ = some (.bool o)
  f : ∀ i, i < 5 → wr.frozen? ⟨b, i, none⟩ = false
theorem SMI.mono {w w' : World} {b : Nat} {x y c d : Int} {o : Bool} (h : SMI w b x y c d o) (hb : Below w.heap.size w w') (hl : b < w.heap.size) : SMI w' b x y c d o :=
  ⟨(hb.cell (p := ⟨b, 0, none⟩) hl).trans h.c0, (hb.cell (p := ⟨b, 1, none⟩) hl).trans h.c1, (hb.cell (p := ⟨b, 2, none⟩) hl).trans h.c2, (hb.cell (p := ⟨b, 3, none⟩) hl).trans h.c3, (hb.cell (p := ⟨b, 4, none⟩) hl).trans h.c4, fun i hi => (hb.frozen (p := ⟨b, i, none⟩) hl).trans (h.f i hi)⟩
theorem SMI.far1 {w : World} {b : Nat} {x y c d : Int} {o : Bool} (h : SMI w b x y c d o) {q : Addr} (hne : q.block ≠ b) (z : Value) : SMI (w.setCell q z) b x y c d o := by
  have ne : ∀ j, q ≠ ⟨b, j, none⟩ := fun j e => hne (congrArg Addr.block e)
  refine ⟨?_, ?_, ?_, ?_, ?_, fun i hi => by rw [World.frozen?_setCell]; exact h.f i hi⟩
  · rw [World.cell?_setCell_other _ _ _ _ (ne _)]; exact h.c0
  · rw [World.cell?_setCell_other _ _ _ _ (ne _)]; exact h.c1
  · rw [World.cell?_setCell_other _ _ _ _ (ne _)]; exact h.c2
  · rw [World.cell?_setCell_other _ _ _ _ (ne _)]; exact h.c3
  · rw [World.cell?_setCell_other _ _ _ _ (ne _)]; exact h.c4
theorem nl_i64 (z : Int) : NoLimb (.int .i64 z) := by intro n e; cases e
theorem WK.farI {w : World} {wb R N T A : Nat} {odd : Bool} (h : WK w wb R N T A odd) {p : Addr} {u : Value} (hu : w.cell? p = some u) (hn : NoLimb u) (hne : p.block ≠ wb) (z : Value) : WK (w.setCell p z) wb R N T A odd := by
  have ne : ∀ j, p ≠ ⟨wb, j, none⟩ := fun j e => hne (congrArg Addr.block e)
  exact ⟨h.r.far hu hn (ne _) z, h.n.far hu hn (ne _) z, h.t.far hu hn (ne _) z, h.a.far hu hn (ne _) z, by rw [World.cell?_setCell_other _ _ _ _ (ne _)]; exact h.o, fun i hi => by rw [World.frozen?_setCell]; exact h.f i hi, by simpa using h.lt⟩
theorem sm_neg {w : World} {b wb R N T A x y c d : Nat} {o odd : Bool} (h : SM w b x y c d o) (k : WK w wb R N T A odd) (hne : b ≠ wb) :
    SMI ((((w.setCell ⟨b, 0, none⟩ (.int .i64 (-(x : Nat)))).setCell ⟨b, 1, none⟩ (.int .i64 (-(y : Nat)))).setCell ⟨b, 2, none⟩ (.int .i64 (-(c : Nat)))).setCell ⟨b, 3, none⟩ (.int .i64 (-(d : Nat)))) b (-(x : Int)) (-(y : Int)) (-(c : Int)) (-(d : Int)) o ∧
    WK ((((w.setCell ⟨b, 0, none⟩ (.int .i64 (-(x : Nat)))).setCell ⟨b, 1, none⟩ (.int .i64 (-(y : Nat)))).setCell ⟨b, 2, none⟩ (.int .i64 (-(c : Nat)))).setCell ⟨b, 3, none⟩ (.int .i64 (-(d : Nat)))) wb R N T A odd := by
  have h0 := h.c0; have h1 := h.c1; have h2 := h.c2; have h3 := h.c3; have h4 := h.c4
  refine ⟨⟨by go_simp, by go_simp, by go_simp, by go_simp, by go_simp, fun i hi => by simp only [World.frozen?_setCell]; exact h.f i hi⟩, ?_⟩
  refine (((k.farI h0 (nl_i64 _) hne _).farI (u := .int .i64 (y : Nat)) (by go_simp) (nl_i64 _) hne _).farI (u := .int .i64 (c : Nat)) (by go_simp) (nl_i64 _) hne _).farI (u := .int .i64 (d : Nat)) (by go_simp) (nl_i64 _) hne _
def JO (wb B R N R' N' a b c d : Nat) : Nat → Value → World → Prop
  | 0, v, _ => v = .pointer (some ⟨wb, 0, none⟩)
  | 1, v, _ => v = .pointer (some ⟨wb, 0, none⟩)
  | 2, v, _ => v = .pointer (some ⟨wb, 0, none⟩)
  | 3, v, _ => v = .pointer (some ⟨wb, 0, none⟩)
  | 4, v, _ => v = .pointer (some ⟨wb, 0, none⟩)
  | 5, v, w => SlV w v R
  | 6, v, _ => v = .pointer (some ⟨wb, 0, none⟩)
  | 7, v, _ => v = .pointer (some ⟨wb, 0, none⟩)
  | 8, v, _ => v = .pointer (some ⟨wb, 1, none⟩)
  | 9, v, w => SlV w v N
  | 10, v, _ => v = .pointer (some ⟨B, 0, none⟩)
  | 11, v, _ => v = .int .i64 (-(a : Nat))
  | 12, v, _ => v = .pointer (some ⟨B, 1, none⟩)
  | 13, v, _ => v = .int .i64 (-(b : Nat))
  | 14, v, _ => v = .int .i64 ((b : Nat))
  | 15, v, w => SlV w v R'
  | 16, v, _ => v = .pointer (some ⟨wb, 0, none⟩)
  | 17, v, _ => v = .pointer (some ⟨wb, 0, none⟩)
  | 18, v, _ => v = .pointer (some ⟨wb, 0, none⟩)
  | 19, v, w => SlV w v R
  | 20, v, _ => v = .pointer (some ⟨wb, 0, none⟩)
  | 21, v, _ => v = .pointer (some ⟨wb, 0, none⟩)
  | 22, v, _ => v = .pointer (some ⟨wb, 1, none⟩)
  | 23, v, w => SlV w v N
  | 24, v, _ => v = .pointer (some ⟨B, 2, none⟩)
  | 25, v, _ => v = .int .i64 (-(c : Nat))
  | 26, v, _ => v = .int .i64 ((c : Nat))
  | 27, v, _ => v = .pointer (some ⟨B, 3, none⟩)
  | 28, v, _ => v = .int .i64 (-(d : Nat))
  | 29, v, w => SlV w v N'
  | 30, v, _ => v = .pointer (some ⟨wb, 0, none⟩)
  | 31, v, _ => v = .pointer (some ⟨wb, 0, none⟩)
  | _, _, _ => True
theorem JO_stays (wb B R N R' N' a b c d : Nat) : ∀ i v w w', JO wb B R N R' N' a b c d i v w → Below w.heap.size w w' → JO wb B R N R' N' a b c d i v w' := by
  intro i v w w' h hb
  match i, h with
  | 0, h => exact h
  | 1, h => exact h
  | 2, h => exact h
  | 3, h => exact h
  | 4, h => exact h
  | 5, h => exact SlV.mono h hb
  | 6, h => exact h
  | 7, h => exact h
  | 8, h => exact h
  | 9, h => exact SlV.mono h hb
  | 10, h => exact h
  | 11, h => exact h
  | 12, h => exact h
  | 13, h => exact h
  | 14, h => exact h
  | 15, h => exact SlV.mono h hb
  | 16, h => exact h
  | 17, h => exact h
  | 18, h => exact h
  | 19, h => exact SlV.mono h hb
  | 20, h => exact h
  | 21, h => exact h
  | 22, h => exact h
  | 23, h => exact SlV.mono h hb
  | 24, h => exact h
  | 25, h => exact h
  | 26, h => exact h
  | 27, h => exact h
  | 28, h => exact h
  | 29, h => exact SlV.mono h hb
  | 30, h => exact h
  | 31, h => exact h
  | 32, _ => trivial
  | 33, _ => trivial
  | 34, _ => trivial
  | 35, _ => trivial
  | _ + 36, h => trivial

def JP (wb B : Nat) (odd : Bool) : Nat → Value → World → Prop
  | 0, v, _ => v = .pointer (some ⟨wb, 0, none⟩)
  | 1, v, _ => v = .pointer (some ⟨wb, 0, none⟩)
  | 2, v, _ => v = .pointer (some ⟨wb, 0, none⟩)
  | 3, v, _ => v = .pointer (some ⟨wb, 4, none⟩)
  | 4, v, _ => v = .bool odd
  | 5, v, _ => v = .pointer (some ⟨B, 4, none⟩)
  | 6, v, _ => v = .bool true
  | 7, v, _ => v = .bool (!odd)
  | 8, v, _ => v = .pointer (some ⟨wb, 0, none⟩)
  | 9, v, _ => v = .pointer (some ⟨wb, 4, none⟩)
  | _, _, _ => True
theorem JP_stays (wb B : Nat) (odd : Bool) : ∀ i v w w', JP wb B odd i v w → Below w.heap.size w w' → JP wb B odd i v w' := by
  intro i v w w' h hb
  match i, h with
  | 0, h => exact h
  | 1, h => exact h
  | 2, h => exact h
  | 3, h => exact h
  | 4, h => exact h
  | 5, h => exact h
  | 6, h => exact h
  | 7, h => exact h
  | 8, h => exact h
  | 9, h => exact h
  | 10, _ => trivial
  | _ + 11, h => trivial

set_option maxRecDepth 100000 in
set_option maxHeartbeats 2000000 in
theorem jump_odd (w : World) (wb R N T A R' N' T' A' a b c d : Nat) (odd : Bool) (h : WK w wb R N T A odd) (ha9 : a < 1000000000) (hb9 : b < 1000000000) (hc9 : c < 1000000000) (hd9 : d < 1000000000)
    (hR : (Wh.limbs R).length ≤ 5000) (hN : (Wh.limbs N).length ≤ 5000) (hT : (Wh.limbs T).length ≤ 5000) (hA : (Wh.limbs A).length ≤ 5000)
    (e1 : (a : Int) * T + (b : Int) * A = T') (e2 : (c : Int) * T + (d : Int) * A = A') (e3 : -(a : Int) * R + (b : Int) * N = R') (e4 : (c : Int) * R + -(d : Int) * N = N') :
    Calls Tryz.prog 266 #[.pointer (some ⟨wb, 0, none⟩), .agg #[.int .i64 (a : Nat), .int .i64 (b : Nat), .int .i64 (c : Nat), .int .i64 (d : Nat), .bool true]] w fun e w' => e = .returned (.tuple #[]) ∧ WK w' wb R' N' T' A' (!odd) ∧ Below wb w w' := by
  have HE1 := Lib.hid (And.intro e1 e2); have HE2 := Lib.hid (And.intro e3 e4); clear e1 e2 e3 e4
  have HTT := Lib.hid hT; have HAA := Lib.hid hA; have HRR := Lib.hid hR; have HNN := Lib.hid hN; clear hT hA hR hN
  have HLT := Lib.hid h.lt
  go_enter Tryz.func266, Tryz.ntmps266
  go_wp2_with fail
  have hal : Below w.heap.size w (w.alloc (Obj.cells #[.int .i64 (a : Nat), .int .i64 (b : Nat), .int .i64 (c : Nat), .int .i64 (d : Nat), .bool true] 260)) := (Below.refl _ _).alloc (Nat.le_refl _) _
  have hS0 : SM (w.alloc (Obj.cells #[.int .i64 (a : Nat), .int .i64 (b : Nat), .int .i64 (c : Nat), .int .i64 (d : Nat), .bool true] 260)) w.heap.size a b c d true := ⟨by go_simp, by go_simp, by go_simp, by go_simp, by go_simp, fun i hi => by rcases (by omega : i = 0 ∨ i = 1 ∨ i = 2 ∨ i = 3 ∨ i = 4) with rfl | rfl | rfl | rfl | rfl <;> go_simp⟩
  have HW := Lib.hid (h.mono hal)
  have HS := Lib.hid hS0
  have HSL : Hid (w.heap.size < (w.alloc (Obj.cells #[.int .i64 (a : Nat), .int .i64 (b : Nat), .int .i64 (c : Nat), .int .i64 (d : Nat), .bool true] 260)).heap.size) := Lib.hid (by simp)
  have HB0 : Hid (Below wb w (w.alloc (Obj.cells #[.int .i64 (a : Nat), .int .i64 (b : Nat), .int .i64 (c : Nat), .int .i64 (d : Nat), .bool true] 260))) := Lib.hid (hal.mono (Nat.le_of_lt h.lt))
  have HNE : Hid (wb ≠ w.heap.size) := Lib.hid (Nat.ne_of_lt h.lt)
  have HWB : Hid (wb ≤ w.heap.size) := Lib.hid (Nat.le_of_lt h.lt)
  clear hal hS0 h
  generalize (w.alloc (Obj.cells #[.int .i64 (a : Nat), .int .i64 (b : Nat), .int .i64 (c : Nat), .int .i64 (d : Nat), .bool true] 260)) = V at *
  obtain ⟨B, hB⟩ : ∃ B, B = w.heap.size := ⟨_, rfl⟩
  rw [← hB] at HS HSL HNE HWB ⊢
  clear hB
  have HT := HTT; have HA := HAA; have HE := HE1
  refine wp_mono (Q := fun e a' W' => e = .normal ∧ (∃ vals : Nat → Value, a' = { tmps := #[.pointer (some ⟨wb, 0, none⟩), .agg #[.int .i64 (a : Nat), .int .i64 (b : Nat), .int .i64 (c : Nat), .int .i64 (d : Nat), .bool true], undef, .pointer (some ⟨B, 0, none⟩), vals 0, .pointer (some ⟨wb, 0, none⟩), vals 2, vals 3, vals 4, vals 5, vals 6, vals 7, vals 8, vals 9, vals 10, vals 11, vals 12, vals 13, vals 14, vals 15, vals 16, vals 17, vals 18, vals 19, vals 20, vals 21, vals 22, vals 23, vals 24, vals 25, vals 26, vals 27, vals 28, .pointer (some ⟨wb, 2, none⟩), .pointer (some ⟨wb, 0, none⟩), .pointer (some ⟨wb, 3, none⟩), undef, undef, undef, undef, undef, undef, undef, undef, undef, undef, undef, undef, undef, undef, undef, undef, undef, undef, undef, undef, undef, undef, undef, undef, undef, undef, undef, undef, undef, undef, undef, undef, undef, undef, undef, undef, undef, undef, undef, undef, undef, undef, undef, undef, undef, undef, undef, undef, undef, undef, undef, undef, undef, undef, undef, undef, undef, undef, undef, undef, undef, undef], defers := [] }) ∧ WK W' wb R N T' A' odd ∧ SM W' B a b c d true ∧ Below wb V W' ∧ B < W'.heap.size) ?_ ?_
  refine Rt.wp_region_grow (n0 := 4) [30, 31, 32, 33] [1] 98 (fun vals => { tmps := #[.pointer (some ⟨wb, 0, none⟩), .agg #[.int .i64 (a : Nat), .int .i64 (b : Nat), .int .i64 (c : Nat), .int .i64 (d : Nat), .bool true], undef, .pointer (some ⟨B, 0, none⟩), vals 0, vals 1, vals 2, vals 3, vals 4, vals 5, vals 6, vals 7, vals 8, vals 9, vals 10, vals 11, vals 12, vals 13, vals 14, vals 15, vals 16, vals 17, vals 18, vals 19, vals 20, vals 21, vals 22, vals 23, vals 24, vals 25, vals 26, vals 27, vals 28, vals 29, undef, undef, undef, undef, undef, undef, undef, undef, undef, undef, undef, undef, undef, undef, undef, undef, undef, undef, undef, undef, undef, undef, undef, undef, undef, undef, undef, undef, undef, undef, undef, undef, undef, undef, undef, undef, undef, undef, undef, undef, undef, undef, undef, undef, undef, undef, undef, undef, undef, undef, undef, undef, undef, undef, undef, undef, undef, undef, undef, undef, undef, undef, undef, undef], defers := [] }) (J1 wb B T A T' A' a b c d) (by kernel_rfl) (by kernel_rfl) (by kernel_rfl) (by kernel_rfl) (fun _ _ _ _ _ h => absurd h.1 (by simp)) (by kernel_rfl) rfl (fun _ => by kernel_rfl) (by kernel_rfl) (by kernel_rfl) (J1_stays _ _ _ _ _ _ _ _ _ _) ?_ ?_ ?_
  · intro i o d hi hT hW hd vals w' hb hf
    have hlt : i < 34 := (Array.getElem?_eq_some_iff.1 hi).1
    rcases i with _ | _ | _ | _ | _ | _ | _ | _ | _ | _ | _ | _ | _ | _ | _ | _ | _ | _ | _ | _ | _ | _ | _ | _ | _ | _ | _ | _ | _ | _ | _ | _ | _ | _ | i
    · obtain rfl := Option.some.inj hi
      obtain rfl := Option.some.inj hd
      dsimp only
      go_simp
      exact ⟨rfl, Below.refl _ _⟩
    · cases hW
    · obtain rfl := Option.some.inj hi
      obtain rfl := Option.some.inj hd
      dsimp only
      go_simp
      exact ⟨rfl, Below.refl _ _⟩
    · obtain rfl := Option.some.inj hi
      obtain rfl := Option.some.inj hd
      have e2 : vals 2 = _ := hf 2 (by kernel_rfl)
      dsimp only
      rw [e2]
      go_simp
      exact ⟨rfl, Below.refl _ _⟩
    · obtain rfl := Option.some.inj hi
      obtain rfl := Option.some.inj hd
      have e3 : vals 3 = _ := hf 3 (by kernel_rfl)
      dsimp only
      rw [e3]
      go_simp
      exact ⟨rfl, Below.refl _ _⟩
    · obtain rfl := Option.some.inj hi
      obtain rfl := Option.some.inj hd
      have e4 : vals 4 = _ := hf 4 (by kernel_rfl)
      obtain ⟨v0, z0, zs⟩ := HW.out.t.see HW.out.lt hb
      have ZS := Lib.hid zs; clear zs
      dsimp only
      rw [e4]
      go_simp
      exact ⟨ZS.out, Below.refl _ _⟩
    · obtain rfl := Option.some.inj hi
      obtain rfl := Option.some.inj hd
      dsimp only
      go_simp
      exact ⟨rfl, Below.refl _ _⟩
    · obtain rfl := Option.some.inj hi
      obtain rfl := Option.some.inj hd
      have e6 : vals 6 = _ := hf 6 (by kernel_rfl)
      dsimp only
      rw [e6]
      go_simp
      exact ⟨rfl, Below.refl _ _⟩
    · obtain rfl := Option.some.inj hi
      obtain rfl := Option.some.inj hd
      have e7 : vals 7 = _ := hf 7 (by kernel_rfl)
      dsimp only
      rw [e7]
      go_simp
      exact ⟨rfl, Below.refl _ _⟩
    · obtain rfl := Option.some.inj hi
      obtain rfl := Option.some.inj hd
      have e8 : vals 8 = _ := hf 8 (by kernel_rfl)
      obtain ⟨v0, z0, zs⟩ := HW.out.a.see HW.out.lt hb
      have ZS := Lib.hid zs; clear zs
      dsimp only
      rw [e8]
      go_simp
      exact ⟨ZS.out, Below.refl _ _⟩
    · obtain rfl := Option.some.inj hi
      obtain rfl := Option.some.inj hd
      dsimp only
      go_simp
      exact ⟨rfl, Below.refl _ _⟩
    · obtain rfl := Option.some.inj hi
      obtain rfl := Option.some.inj hd
      have e10 : vals 10 = _ := hf 10 (by kernel_rfl)
      have z0 := (hb.cell (p := ⟨B, 0, none⟩) HSL.out).trans HS.out.c0
      dsimp only
      rw [e10]
      go_simp
      exact ⟨rfl, Below.refl _ _⟩
    · obtain rfl := Option.some.inj hi
      obtain rfl := Option.some.inj hd
      dsimp only
      go_simp
      exact ⟨rfl, Below.refl _ _⟩
    · obtain rfl := Option.some.inj hi
      obtain rfl := Option.some.inj hd
      have e12 : vals 12 = _ := hf 12 (by kernel_rfl)
      have z0 := (hb.cell (p := ⟨B, 1, none⟩) HSL.out).trans HS.out.c1
      dsimp only
      rw [e12]
      go_simp
      exact ⟨rfl, Below.refl _ _⟩
    · obtain rfl := Option.some.inj hi
      obtain rfl := Option.some.inj hd
      have h0 : SlV w' (vals 5) _ := hf 5 (by kernel_rfl)
      have h4 : SlV w' (vals 9) _ := hf 9 (by kernel_rfl)
      have e11 : vals 11 = _ := hf 11 (by kernel_rfl)
      have e13 : vals 13 = _ := hf 13 (by kernel_rfl)
      have HP := Lib.hid (blend_sl w' _ _ T A ((a : Nat)) ((b : Nat)) T' h0 h4 HT.out HA.out ⟨by omega, by omega⟩ ⟨by omega, by omega⟩ HE.out.1)
      obtain ⟨a5, c5, e5, -⟩ := h0
      obtain ⟨a9, c9, e9, -⟩ := h4
      rw [e5, e9] at HP
      dsimp only
      rw [e5, e9, e11, e13]
      go_simp
      refine HP.out.mono ?_
      rintro e w5 ⟨⟨v5, rfl, hn5⟩, hb5⟩
      exact ⟨hn5, hb5⟩
    · obtain rfl := Option.some.inj hi
      obtain rfl := Option.some.inj hd
      dsimp only
      go_simp
      exact ⟨rfl, Below.refl _ _⟩
    · obtain rfl := Option.some.inj hi
      obtain rfl := Option.some.inj hd
      have e15 : vals 15 = _ := hf 15 (by kernel_rfl)
      dsimp only
      rw [e15]
      go_simp
      exact ⟨rfl, Below.refl _ _⟩
    · obtain rfl := Option.some.inj hi
      obtain rfl := Option.some.inj hd
      have e16 : vals 16 = _ := hf 16 (by kernel_rfl)
      dsimp only
      rw [e16]
      go_simp
      exact ⟨rfl, Below.refl _ _⟩
    · obtain rfl := Option.some.inj hi
      obtain rfl := Option.some.inj hd
      have e17 : vals 17 = _ := hf 17 (by kernel_rfl)
      obtain ⟨v0, z0, zs⟩ := HW.out.t.see HW.out.lt hb
      have ZS := Lib.hid zs; clear zs
      dsimp only
      rw [e17]
      go_simp
      exact ⟨ZS.out, Below.refl _ _⟩
    · obtain rfl := Option.some.inj hi
      obtain rfl := Option.some.inj hd
      dsimp only
      go_simp
      exact ⟨rfl, Below.refl _ _⟩
    · obtain rfl := Option.some.inj hi
      obtain rfl := Option.some.inj hd
      have e19 : vals 19 = _ := hf 19 (by kernel_rfl)
      dsimp only
      rw [e19]
      go_simp
      exact ⟨rfl, Below.refl _ _⟩
    · obtain rfl := Option.some.inj hi
      obtain rfl := Option.some.inj hd
      have e20 : vals 20 = _ := hf 20 (by kernel_rfl)
      dsimp only
      rw [e20]
      go_simp
      exact ⟨rfl, Below.refl _ _⟩
    · obtain rfl := Option.some.inj hi
      obtain rfl := Option.some.inj hd
      have e21 : vals 21 = _ := hf 21 (by kernel_rfl)
      obtain ⟨v0, z0, zs⟩ := HW.out.a.see HW.out.lt hb
      have ZS := Lib.hid zs; clear zs
      dsimp only
      rw [e21]
      go_simp
      exact ⟨ZS.out, Below.refl _ _⟩
    · obtain rfl := Option.some.inj hi
      obtain rfl := Option.some.inj hd
      dsimp only
      go_simp
      exact ⟨rfl, Below.refl _ _⟩
    · obtain rfl := Option.some.inj hi
      obtain rfl := Option.some.inj hd
      have e23 : vals 23 = _ := hf 23 (by kernel_rfl)
      have z0 := (hb.cell (p := ⟨B, 2, none⟩) HSL.out).trans HS.out.c2
      dsimp only
      rw [e23]
      go_simp
      exact ⟨rfl, Below.refl _ _⟩
    · obtain rfl := Option.some.inj hi
      obtain rfl := Option.some.inj hd
      dsimp only
      go_simp
      exact ⟨rfl, Below.refl _ _⟩
    · obtain rfl := Option.some.inj hi
      obtain rfl := Option.some.inj hd
      have e25 : vals 25 = _ := hf 25 (by kernel_rfl)
      have z0 := (hb.cell (p := ⟨B, 3, none⟩) HSL.out).trans HS.out.c3
      dsimp only
      rw [e25]
      go_simp
      exact ⟨rfl, Below.refl _ _⟩
    · obtain rfl := Option.some.inj hi
      obtain rfl := Option.some.inj hd
      have h0 : SlV w' (vals 18) _ := hf 18 (by kernel_rfl)
      have h4 : SlV w' (vals 22) _ := hf 22 (by kernel_rfl)
      have e24 : vals 24 = _ := hf 24 (by kernel_rfl)
      have e26 : vals 26 = _ := hf 26 (by kernel_rfl)
      have HP := Lib.hid (blend_sl w' _ _ T A ((c : Nat)) ((d : Nat)) A' h0 h4 HT.out HA.out ⟨by omega, by omega⟩ ⟨by omega, by omega⟩ HE.out.2)
      obtain ⟨a18, c18, e18, -⟩ := h0
      obtain ⟨a22, c22, e22, -⟩ := h4
      rw [e18, e22] at HP
      dsimp only
      rw [e18, e22, e24, e26]
      go_simp
      refine HP.out.mono ?_
      rintro e w5 ⟨⟨v5, rfl, hn5⟩, hb5⟩
      exact ⟨hn5, hb5⟩
    · obtain rfl := Option.some.inj hi
      obtain rfl := Option.some.inj hd
      have e0 : vals 0 = _ := hf 0 (by kernel_rfl)
      dsimp only
      rw [e0]
      go_simp
      exact ⟨rfl, Below.refl _ _⟩
    · obtain rfl := Option.some.inj hi
      obtain rfl := Option.some.inj hd
      have e28 : vals 28 = _ := hf 28 (by kernel_rfl)
      dsimp only
      rw [e28]
      go_simp
      exact ⟨rfl, Below.refl _ _⟩
    · cases hT
    · cases hT
    · cases hT
    · cases hT
    · omega
  · intro p o d hi hW hd vals w' hb hf
    have hlt : p < 34 := (Array.getElem?_eq_some_iff.1 hi).1
    rcases p with _ | _ | _ | _ | _ | _ | _ | _ | _ | _ | _ | _ | _ | _ | _ | _ | _ | _ | _ | _ | _ | _ | _ | _ | _ | _ | _ | _ | _ | _ | _ | _ | _ | _ | p
    · cases hW
    · obtain rfl := Option.some.inj hi
      obtain rfl := Option.some.inj hd
      exact ⟨_, fun w'' => by dsimp only; go_simp, rfl⟩
    · cases hW
    · cases hW
    · cases hW
    · cases hW
    · cases hW
    · cases hW
    · cases hW
    · cases hW
    · cases hW
    · cases hW
    · cases hW
    · cases hW
    · cases hW
    · cases hW
    · cases hW
    · cases hW
    · cases hW
    · cases hW
    · cases hW
    · cases hW
    · cases hW
    · cases hW
    · cases hW
    · cases hW
    · cases hW
    · cases hW
    · cases hW
    · cases hW
    · cases hW
    · cases hW
    · cases hW
    · cases hW
    · omega
  · intro vals w' hb hf
    have e1 : vals 1 = _ := hf 1 (by decide) rfl
    obtain ⟨a5, c5, e5, k5⟩ := hf 14 (by decide) rfl
    obtain ⟨a16, c16, e16, k16⟩ := hf 27 (by decide) rfl
    have e18 : vals 29 = _ := hf 29 (by decide) rfl
    have HV := Lib.hid (HW.out.mono hb)
    have HSV := Lib.hid (HS.out.mono hb HSL.out)
    have HBY := Lib.hid (hb.mono (Nat.le_of_lt HW.out.lt))
    have hszV := Lib.hid (Nat.lt_of_lt_of_le HSL.out hb.size)
    have K5 := Lib.hid k5; have K16 := Lib.hid k16; clear k5 k16 hb hf
    obtain ⟨ta, tc, t0, _⟩ := HV.out.t
    have ft := HV.out.f 2 (by decide)
    rw [e1, e5, e16, e18]
    refine Rt.wpAny_step (i := 30) (by kernel_rfl) rfl (by rfl) (fun K hK => ?_)
    have HK := Lib.hid hK; clear hK
    go_simp
    refine HK.out _ _ ?_
    clear HK
    have HV2 := Lib.hid (HV.out.set2 K5.out)
    have HSV2 : Hid (SM (w'.setCell ⟨wb, 2, none⟩ (.slice a5 (Wh.limbs T').length c5)) B a b c d true) := Lib.hid (HSV.out.far1 HNE.out _)
    have K162 := Lib.hid (K16.out.store _ t0 (nl_slice _ _ _) (.slice a5 (Wh.limbs T').length c5))
    have HB2 : Hid (Below wb V (w'.setCell ⟨wb, 2, none⟩ (.slice a5 (Wh.limbs T').length c5))) := Lib.hid (HBY.out.setCell (p := ⟨wb, 2, none⟩) (Nat.le_refl wb) _)
    have hszU : Hid (B < (w'.setCell ⟨wb, 2, none⟩ (.slice a5 (Wh.limbs T').length c5)).heap.size) := Lib.hid (by simpa using hszV.out)
    clear t0 ft HV K16 K5 HBY HSV hszV
    generalize w'.setCell ⟨wb, 2, none⟩ (.slice a5 (Wh.limbs T').length c5) = U at *
    refine Rt.wpAny_step (i := 31) (by kernel_rfl) rfl (by rfl) (fun K hK => ?_)
    have HK := Lib.hid hK; clear hK
    go_simp
    refine HK.out _ _ ?_
    clear HK
    refine Rt.wpAny_step (i := 32) (by kernel_rfl) rfl (by rfl) (fun K hK => ?_)
    have HK := Lib.hid hK; clear hK
    go_simp
    refine HK.out _ _ ?_
    clear HK
    obtain ⟨ua, uc, u0, _⟩ := HV2.out.a
    have fu := HV2.out.f 3 (by decide)
    refine Rt.wpAny_step (i := 33) (by kernel_rfl) rfl (by rfl) (fun K hK => ?_)
    have HK := Lib.hid hK; clear hK
    go_simp
    refine HK.out _ _ ?_
    clear HK
    exact Rt.wpAny_end (by kernel_rfl) ⟨rfl, ⟨vals, by rw [e5, e16]⟩, HV2.out.set3 K162.out, HSV2.out.far1 HNE.out _, HB2.out.setCell (p := ⟨wb, 3, none⟩) (Nat.le_refl wb) _, by simpa using hszU.out⟩
  rintro e a' W ⟨rfl, ⟨va, rfl⟩, hW1, hS1, hb1, hl1⟩
  clear HW HS HSL HT HA HE
  have HW := Lib.hid hW1; have HS := Lib.hid hS1; have HSL := Lib.hid hl1
  have HB1 := Lib.hid (HB0.out.trans hb1)
  clear hW1 hS1 hb1 hl1 HB0
  have s0 := HS.out.c0; have s1 := HS.out.c1; have s2 := HS.out.c2; have s3 := HS.out.c3; have s4 := HS.out.c4
  have f0 := HS.out.f 0 (by decide); have f1 := HS.out.f 1 (by decide); have f2 := HS.out.f 2 (by decide); have f3 := HS.out.f 3 (by decide)
  have w0 := wrap_neg a ha9; have w1 := wrap_neg b hb9; have w2 := wrap_neg c hc9; have w3 := wrap_neg d hd9
  have HNG := Lib.hid (sm_neg HS.out HW.out (fun e => HNE.out e.symm))
  have HLN : Hid (B < ((((W.setCell ⟨B, 0, none⟩ (.int .i64 (-(a : Nat)))).setCell ⟨B, 1, none⟩ (.int .i64 (-(b : Nat)))).setCell ⟨B, 2, none⟩ (.int .i64 (-(c : Nat)))).setCell ⟨B, 3, none⟩ (.int .i64 (-(d : Nat)))).heap.size) := Lib.hid (by simpa using HSL.out)
  have HBN : Hid (Below wb w ((((W.setCell ⟨B, 0, none⟩ (.int .i64 (-(a : Nat)))).setCell ⟨B, 1, none⟩ (.int .i64 (-(b : Nat)))).setCell ⟨B, 2, none⟩ (.int .i64 (-(c : Nat)))).setCell ⟨B, 3, none⟩ (.int .i64 (-(d : Nat))))) := Lib.hid ((((HB1.out.setCell (p := ⟨B, 0, none⟩) HWB.out _).setCell (p := ⟨B, 1, none⟩) HWB.out _).setCell (p := ⟨B, 2, none⟩) HWB.out _).setCell (p := ⟨B, 3, none⟩) HWB.out _)
  go_wp2_with fail
  clear s0 s1 s2 s3 s4 f0 f1 f2 f3 w0 w1 w2 w3 HW HS HB1 HSL
  have HW := Lib.hid HNG.out.2; have HS := Lib.hid HNG.out.1; have HB1 := HBN; have HSL := HLN
  clear HNG HBN HLN
  generalize ((((W.setCell ⟨B, 0, none⟩ (.int .i64 (-(a : Nat)))).setCell ⟨B, 1, none⟩ (.int .i64 (-(b : Nat)))).setCell ⟨B, 2, none⟩ (.int .i64 (-(c : Nat)))).setCell ⟨B, 3, none⟩ (.int .i64 (-(d : Nat)))) = V at *
  have HT := HRR; have HA := HNN; have HE := HE2
  refine wp_mono (Q := fun e a' W' => e = .normal ∧ (∃ vals : Nat → Value, a' = { tmps := #[.pointer (some ⟨wb, 0, none⟩), .agg #[.int .i64 (a : Nat), .int .i64 (b : Nat), .int .i64 (c : Nat), .int .i64 (d : Nat), .bool true], undef, .pointer (some ⟨B, 0, none⟩), va 0, .pointer (some ⟨wb, 0, none⟩), va 2, va 3, va 4, va 5, va 6, va 7, va 8, va 9, va 10, va 11, va 12, va 13, va 14, va 15, va 16, va 17, va 18, va 19, va 20, va 21, va 22, va 23, va 24, va 25, va 26, va 27, va 28, .pointer (some ⟨wb, 2, none⟩), .pointer (some ⟨wb, 0, none⟩), .pointer (some ⟨wb, 3, none⟩), .pointer (some ⟨B, 4, none⟩), .bool true, .pointer (some ⟨B, 0, none⟩), .int .i64 (a : Nat), .int .i64 (-(a : Nat)), .pointer (some ⟨B, 1, none⟩), .int .i64 (b : Nat), .int .i64 (-(b : Nat)), .pointer (some ⟨B, 2, none⟩), .int .i64 (c : Nat), .int .i64 (-(c : Nat)), .pointer (some ⟨B, 3, none⟩), .int .i64 (d : Nat), .int .i64 (-(d : Nat)), .pointer (some ⟨B, 0, none⟩), .pointer (some ⟨B, 1, none⟩), .pointer (some ⟨B, 2, none⟩), .pointer (some ⟨B, 3, none⟩), vals 0, .pointer (some ⟨wb, 0, none⟩), vals 2, vals 3, vals 4, vals 5, vals 6, vals 7, vals 8, vals 9, vals 10, vals 11, vals 12, vals 13, vals 14, vals 15, vals 16, vals 17, vals 18, vals 19, vals 20, vals 21, vals 22, vals 23, vals 24, vals 25, vals 26, vals 27, vals 28, vals 29, vals 30, .pointer (some ⟨wb, 0, none⟩), .pointer (some ⟨wb, 0, none⟩), .pointer (some ⟨wb, 1, none⟩), undef, undef, undef, undef, undef, undef, undef, undef, undef, undef], defers := [] }) ∧ WK W' wb R' N' T' A' odd ∧ SMI W' B (-(a : Int)) (-(b : Int)) (-(c : Int)) (-(d : Int)) true ∧ Below wb V W' ∧ B < W'.heap.size) ?_ ?_
  refine Rt.wp_region_grow (n0 := 4) [32, 33, 34, 35] [1] 98 (fun vals => { tmps := #[.pointer (some ⟨wb, 0, none⟩), .agg #[.int .i64 (a : Nat), .int .i64 (b : Nat), .int .i64 (c : Nat), .int .i64 (d : Nat), .bool true], undef, .pointer (some ⟨B, 0, none⟩), va 0, .pointer (some ⟨wb, 0, none⟩), va 2, va 3, va 4, va 5, va 6, va 7, va 8, va 9, va 10, va 11, va 12, va 13, va 14, va 15, va 16, va 17, va 18, va 19, va 20, va 21, va 22, va 23, va 24, va 25, va 26, va 27, va 28, .pointer (some ⟨wb, 2, none⟩), .pointer (some ⟨wb, 0, none⟩), .pointer (some ⟨wb, 3, none⟩), .pointer (some ⟨B, 4, none⟩), .bool true, .pointer (some ⟨B, 0, none⟩), .int .i64 (a : Nat), .int .i64 (-(a : Nat)), .pointer (some ⟨B, 1, none⟩), .int .i64 (b : Nat), .int .i64 (-(b : Nat)), .pointer (some ⟨B, 2, none⟩), .int .i64 (c : Nat), .int .i64 (-(c : Nat)), .pointer (some ⟨B, 3, none⟩), .int .i64 (d : Nat), .int .i64 (-(d : Nat)), .pointer (some ⟨B, 0, none⟩), .pointer (some ⟨B, 1, none⟩), .pointer (some ⟨B, 2, none⟩), .pointer (some ⟨B, 3, none⟩), vals 0, vals 1, vals 2, vals 3, vals 4, vals 5, vals 6, vals 7, vals 8, vals 9, vals 10, vals 11, vals 12, vals 13, vals 14, vals 15, vals 16, vals 17, vals 18, vals 19, vals 20, vals 21, vals 22, vals 23, vals 24, vals 25, vals 26, vals 27, vals 28, vals 29, vals 30, vals 31, undef, undef, undef, undef, undef, undef, undef, undef, undef, undef, undef, undef], defers := [] }) (JO wb B R N R' N' a b c d) (by kernel_rfl) (by kernel_rfl) (by kernel_rfl) (by kernel_rfl) (fun _ _ _ _ _ h => absurd h.1 (by simp)) (by kernel_rfl) rfl (fun _ => by kernel_rfl) (by kernel_rfl) (by kernel_rfl) (JO_stays _ _ _ _ _ _ _ _ _ _) ?_ ?_ ?_
  · intro i o d hi hT hW hd vals w' hb hf
    have hlt : i < 36 := (Array.getElem?_eq_some_iff.1 hi).1
    rcases i with _ | _ | _ | _ | _ | _ | _ | _ | _ | _ | _ | _ | _ | _ | _ | _ | _ | _ | _ | _ | _ | _ | _ | _ | _ | _ | _ | _ | _ | _ | _ | _ | _ | _ | _ | _ | i
    · obtain rfl := Option.some.inj hi
      obtain rfl := Option.some.inj hd
      dsimp only
      go_simp
      exact ⟨rfl, Below.refl _ _⟩
    · cases hW
    · obtain rfl := Option.some.inj hi
      obtain rfl := Option.some.inj hd
      dsimp only
      go_simp
      exact ⟨rfl, Below.refl _ _⟩
    · obtain rfl := Option.some.inj hi
      obtain rfl := Option.some.inj hd
      have e2 : vals 2 = _ := hf 2 (by kernel_rfl)
      dsimp only
      rw [e2]
      go_simp
      exact ⟨rfl, Below.refl _ _⟩
    · obtain rfl := Option.some.inj hi
      obtain rfl := Option.some.inj hd
      have e3 : vals 3 = _ := hf 3 (by kernel_rfl)
      dsimp only
      rw [e3]
      go_simp
      exact ⟨rfl, Below.refl _ _⟩
    · obtain rfl := Option.some.inj hi
      obtain rfl := Option.some.inj hd
      have e4 : vals 4 = _ := hf 4 (by kernel_rfl)
      obtain ⟨v0, z0, zs⟩ := HW.out.r.see HW.out.lt hb
      have ZS := Lib.hid zs; clear zs
      dsimp only
      rw [e4]
      go_simp
      exact ⟨ZS.out, Below.refl _ _⟩
    · obtain rfl := Option.some.inj hi
      obtain rfl := Option.some.inj hd
      dsimp only
      go_simp
      exact ⟨rfl, Below.refl _ _⟩
    · obtain rfl := Option.some.inj hi
      obtain rfl := Option.some.inj hd
      have e6 : vals 6 = _ := hf 6 (by kernel_rfl)
      dsimp only
      rw [e6]
      go_simp
      exact ⟨rfl, Below.refl _ _⟩
    · obtain rfl := Option.some.inj hi
      obtain rfl := Option.some.inj hd
      have e7 : vals 7 = _ := hf 7 (by kernel_rfl)
      dsimp only
      rw [e7]
      go_simp
      exact ⟨rfl, Below.refl _ _⟩
    · obtain rfl := Option.some.inj hi
      obtain rfl := Option.some.inj hd
      have e8 : vals 8 = _ := hf 8 (by kernel_rfl)
      obtain ⟨v0, z0, zs⟩ := HW.out.n.see HW.out.lt hb
      have ZS := Lib.hid zs; clear zs
      dsimp only
      rw [e8]
      go_simp
      exact ⟨ZS.out, Below.refl _ _⟩
    · obtain rfl := Option.some.inj hi
      obtain rfl := Option.some.inj hd
      dsimp only
      go_simp
      exact ⟨rfl, Below.refl _ _⟩
    · obtain rfl := Option.some.inj hi
      obtain rfl := Option.some.inj hd
      have e10 : vals 10 = _ := hf 10 (by kernel_rfl)
      have z0 := (hb.cell (p := ⟨B, 0, none⟩) HSL.out).trans HS.out.c0
      dsimp only
      rw [e10]
      go_simp
      exact ⟨rfl, Below.refl _ _⟩
    · obtain rfl := Option.some.inj hi
      obtain rfl := Option.some.inj hd
      dsimp only
      go_simp
      exact ⟨rfl, Below.refl _ _⟩
    · obtain rfl := Option.some.inj hi
      obtain rfl := Option.some.inj hd
      have e12 : vals 12 = _ := hf 12 (by kernel_rfl)
      have z0 := (hb.cell (p := ⟨B, 1, none⟩) HSL.out).trans HS.out.c1
      dsimp only
      rw [e12]
      go_simp
      exact ⟨rfl, Below.refl _ _⟩
    · obtain rfl := Option.some.inj hi
      obtain rfl := Option.some.inj hd
      have e13 : vals 13 = _ := hf 13 (by kernel_rfl)
      dsimp only
      rw [e13]
      have W1 := Lib.hid (wrap_negneg b hb9)
      go_simp
      exact ⟨by first | rfl | exact congrArg (Value.int .i64) W1.out, Below.refl _ _⟩
    · obtain rfl := Option.some.inj hi
      obtain rfl := Option.some.inj hd
      have h0 : SlV w' (vals 5) _ := hf 5 (by kernel_rfl)
      have h4 : SlV w' (vals 9) _ := hf 9 (by kernel_rfl)
      have e11 : vals 11 = _ := hf 11 (by kernel_rfl)
      have e14 : vals 14 = _ := hf 14 (by kernel_rfl)
      have HP := Lib.hid (blend_sl w' _ _ R N (-(a : Nat)) ((b : Nat)) R' h0 h4 HT.out HA.out ⟨by omega, by omega⟩ ⟨by omega, by omega⟩ HE.out.1)
      obtain ⟨a5, c5, e5, -⟩ := h0
      obtain ⟨a9, c9, e9, -⟩ := h4
      rw [e5, e9] at HP
      dsimp only
      rw [e5, e9, e11, e14]
      go_simp
      refine HP.out.mono ?_
      rintro e w5 ⟨⟨v5, rfl, hn5⟩, hb5⟩
      exact ⟨hn5, hb5⟩
    · obtain rfl := Option.some.inj hi
      obtain rfl := Option.some.inj hd
      dsimp only
      go_simp
      exact ⟨rfl, Below.refl _ _⟩
    · obtain rfl := Option.some.inj hi
      obtain rfl := Option.some.inj hd
      have e16 : vals 16 = _ := hf 16 (by kernel_rfl)
      dsimp only
      rw [e16]
      go_simp
      exact ⟨rfl, Below.refl _ _⟩
    · obtain rfl := Option.some.inj hi
      obtain rfl := Option.some.inj hd
      have e17 : vals 17 = _ := hf 17 (by kernel_rfl)
      dsimp only
      rw [e17]
      go_simp
      exact ⟨rfl, Below.refl _ _⟩
    · obtain rfl := Option.some.inj hi
      obtain rfl := Option.some.inj hd
      have e18 : vals 18 = _ := hf 18 (by kernel_rfl)
      obtain ⟨v0, z0, zs⟩ := HW.out.r.see HW.out.lt hb
      have ZS := Lib.hid zs; clear zs
      dsimp only
      rw [e18]
      go_simp
      exact ⟨ZS.out, Below.refl _ _⟩
    · obtain rfl := Option.some.inj hi
      obtain rfl := Option.some.inj hd
      dsimp only
      go_simp
      exact ⟨rfl, Below.refl _ _⟩
    · obtain rfl := Option.some.inj hi
      obtain rfl := Option.some.inj hd
      have e20 : vals 20 = _ := hf 20 (by kernel_rfl)
      dsimp only
      rw [e20]
      go_simp
      exact ⟨rfl, Below.refl _ _⟩
    · obtain rfl := Option.some.inj hi
      obtain rfl := Option.some.inj hd
      have e21 : vals 21 = _ := hf 21 (by kernel_rfl)
      dsimp only
      rw [e21]
      go_simp
      exact ⟨rfl, Below.refl _ _⟩
    · obtain rfl := Option.some.inj hi
      obtain rfl := Option.some.inj hd
      have e22 : vals 22 = _ := hf 22 (by kernel_rfl)
      obtain ⟨v0, z0, zs⟩ := HW.out.n.see HW.out.lt hb
      have ZS := Lib.hid zs; clear zs
      dsimp only
      rw [e22]
      go_simp
      exact ⟨ZS.out, Below.refl _ _⟩
    · obtain rfl := Option.some.inj hi
      obtain rfl := Option.some.inj hd
      dsimp only
      go_simp
      exact ⟨rfl, Below.refl _ _⟩
    · obtain rfl := Option.some.inj hi
      obtain rfl := Option.some.inj hd
      have e24 : vals 24 = _ := hf 24 (by kernel_rfl)
      have z0 := (hb.cell (p := ⟨B, 2, none⟩) HSL.out).trans HS.out.c2
      dsimp only
      rw [e24]
      go_simp
      exact ⟨rfl, Below.refl _ _⟩
    · obtain rfl := Option.some.inj hi
      obtain rfl := Option.some.inj hd
      have e25 : vals 25 = _ := hf 25 (by kernel_rfl)
      dsimp only
      rw [e25]
      have W1 := Lib.hid (wrap_negneg c hc9)
      go_simp
      exact ⟨by first | rfl | exact congrArg (Value.int .i64) W1.out, Below.refl _ _⟩
    · obtain rfl := Option.some.inj hi
      obtain rfl := Option.some.inj hd
      dsimp only
      go_simp
      exact ⟨rfl, Below.refl _ _⟩
    · obtain rfl := Option.some.inj hi
      obtain rfl := Option.some.inj hd
      have e27 : vals 27 = _ := hf 27 (by kernel_rfl)
      have z0 := (hb.cell (p := ⟨B, 3, none⟩) HSL.out).trans HS.out.c3
      dsimp only
      rw [e27]
      go_simp
      exact ⟨rfl, Below.refl _ _⟩
    · obtain rfl := Option.some.inj hi
      obtain rfl := Option.some.inj hd
      have h0 : SlV w' (vals 19) _ := hf 19 (by kernel_rfl)
      have h4 : SlV w' (vals 23) _ := hf 23 (by kernel_rfl)
      have e26 : vals 26 = _ := hf 26 (by kernel_rfl)
      have e28 : vals 28 = _ := hf 28 (by kernel_rfl)
      have HP := Lib.hid (blend_sl w' _ _ R N ((c : Nat)) (-(d : Nat)) N' h0 h4 HT.out HA.out ⟨by omega, by omega⟩ ⟨by omega, by omega⟩ HE.out.2)
      obtain ⟨a19, c19, e19, -⟩ := h0
      obtain ⟨a23, c23, e23, -⟩ := h4
      rw [e19, e23] at HP
      dsimp only
      rw [e19, e23, e26, e28]
      go_simp
      refine HP.out.mono ?_
      rintro e w5 ⟨⟨v5, rfl, hn5⟩, hb5⟩
      exact ⟨hn5, hb5⟩
    · obtain rfl := Option.some.inj hi
      obtain rfl := Option.some.inj hd
      have e0 : vals 0 = _ := hf 0 (by kernel_rfl)
      dsimp only
      rw [e0]
      go_simp
      exact ⟨rfl, Below.refl _ _⟩
    · obtain rfl := Option.some.inj hi
      obtain rfl := Option.some.inj hd
      have e30 : vals 30 = _ := hf 30 (by kernel_rfl)
      dsimp only
      rw [e30]
      go_simp
      exact ⟨rfl, Below.refl _ _⟩
    · cases hT
    · cases hT
    · cases hT
    · cases hT
    · omega
  · intro p o d hi hW hd vals w' hb hf
    have hlt : p < 36 := (Array.getElem?_eq_some_iff.1 hi).1
    rcases p with _ | _ | _ | _ | _ | _ | _ | _ | _ | _ | _ | _ | _ | _ | _ | _ | _ | _ | _ | _ | _ | _ | _ | _ | _ | _ | _ | _ | _ | _ | _ | _ | _ | _ | _ | _ | p
    · cases hW
    · obtain rfl := Option.some.inj hi
      obtain rfl := Option.some.inj hd
      exact ⟨_, fun w'' => by dsimp only; go_simp, rfl⟩
    · cases hW
    · cases hW
    · cases hW
    · cases hW
    · cases hW
    · cases hW
    · cases hW
    · cases hW
    · cases hW
    · cases hW
    · cases hW
    · cases hW
    · cases hW
    · cases hW
    · cases hW
    · cases hW
    · cases hW
    · cases hW
    · cases hW
    · cases hW
    · cases hW
    · cases hW
    · cases hW
    · cases hW
    · cases hW
    · cases hW
    · cases hW
    · cases hW
    · cases hW
    · cases hW
    · cases hW
    · cases hW
    · cases hW
    · cases hW
    · omega
  · intro vals w' hb hf
    have e1 : vals 1 = _ := hf 1 (by decide) rfl
    obtain ⟨a5, c5, e5, k5⟩ := hf 15 (by decide) rfl
    obtain ⟨a16, c16, e16, k16⟩ := hf 29 (by decide) rfl
    have e18 : vals 31 = _ := hf 31 (by decide) rfl
    have HV := Lib.hid (HW.out.mono hb)
    have HSV := Lib.hid (HS.out.mono hb HSL.out)
    have HBY := Lib.hid (hb.mono (Nat.le_of_lt HW.out.lt))
    have hszV := Lib.hid (Nat.lt_of_lt_of_le HSL.out hb.size)
    have K5 := Lib.hid k5; have K16 := Lib.hid k16; clear k5 k16 hb hf
    obtain ⟨ta, tc, t0, _⟩ := HV.out.r
    have ft := HV.out.f 0 (by decide)
    rw [e1, e5, e16, e18]
    refine Rt.wpAny_step (i := 32) (by kernel_rfl) rfl (by rfl) (fun K hK => ?_)
    have HK := Lib.hid hK; clear hK
    go_simp
    refine HK.out _ _ ?_
    clear HK
    have HV2 := Lib.hid (HV.out.set0 K5.out)
    have HSV2 : Hid (SMI (w'.setCell ⟨wb, 0, none⟩ (.slice a5 (Wh.limbs R').length c5)) B (-(a : Int)) (-(b : Int)) (-(c : Int)) (-(d : Int)) true) := Lib.hid (HSV.out.far1 HNE.out _)
    have K162 := Lib.hid (K16.out.store _ t0 (nl_slice _ _ _) (.slice a5 (Wh.limbs R').length c5))
    have HB2 : Hid (Below wb V (w'.setCell ⟨wb, 0, none⟩ (.slice a5 (Wh.limbs R').length c5))) := Lib.hid (HBY.out.setCell (p := ⟨wb, 0, none⟩) (Nat.le_refl wb) _)
    have hszU : Hid (B < (w'.setCell ⟨wb, 0, none⟩ (.slice a5 (Wh.limbs R').length c5)).heap.size) := Lib.hid (by simpa using hszV.out)
    clear t0 ft HV K16 K5 HBY HSV hszV
    generalize w'.setCell ⟨wb, 0, none⟩ (.slice a5 (Wh.limbs R').length c5) = U at *
    refine Rt.wpAny_step (i := 33) (by kernel_rfl) rfl (by rfl) (fun K hK => ?_)
    have HK := Lib.hid hK; clear hK
    go_simp
    refine HK.out _ _ ?_
    clear HK
    refine Rt.wpAny_step (i := 34) (by kernel_rfl) rfl (by rfl) (fun K hK => ?_)
    have HK := Lib.hid hK; clear hK
    go_simp
    refine HK.out _ _ ?_
    clear HK
    obtain ⟨ua, uc, u0, _⟩ := HV2.out.n
    have fu := HV2.out.f 1 (by decide)
    refine Rt.wpAny_step (i := 35) (by kernel_rfl) rfl (by rfl) (fun K hK => ?_)
    have HK := Lib.hid hK; clear hK
    go_simp
    refine HK.out _ _ ?_
    clear HK
    exact Rt.wpAny_end (by kernel_rfl) ⟨rfl, ⟨vals, by rw [e5, e16]⟩, HV2.out.set1 K162.out, HSV2.out.far1 HNE.out _, HB2.out.setCell (p := ⟨wb, 1, none⟩) (Nat.le_refl wb) _, by simpa using hszU.out⟩
  rintro e a' W4 ⟨rfl, ⟨vb, rfl⟩, hW1, hS1, hb1, hl1⟩
  clear HW HS HSL HT HA HE
  have HW := Lib.hid hW1; have HS := Lib.hid hS1; have HSL := Lib.hid hl1
  have HB2 := Lib.hid (HB1.out.trans hb1)
  clear hW1 hS1 hb1 hl1 HB1
  go_wp2_with fail
  generalize W4 = V at *
  refine wp_mono (Q := fun e a' W' => e = .normal ∧ (∃ vals : Nat → Value, a' = { tmps := #[.pointer (some ⟨wb, 0, none⟩), .agg #[.int .i64 (a : Nat), .int .i64 (b : Nat), .int .i64 (c : Nat), .int .i64 (d : Nat), .bool true], undef, .pointer (some ⟨B, 0, none⟩), va 0, .pointer (some ⟨wb, 0, none⟩), va 2, va 3, va 4, va 5, va 6, va 7, va 8, va 9, va 10, va 11, va 12, va 13, va 14, va 15, va 16, va 17, va 18, va 19, va 20, va 21, va 22, va 23, va 24, va 25, va 26, va 27, va 28, .pointer (some ⟨wb, 2, none⟩), .pointer (some ⟨wb, 0, none⟩), .pointer (some ⟨wb, 3, none⟩), .pointer (some ⟨B, 4, none⟩), .bool true, .pointer (some ⟨B, 0, none⟩), .int .i64 (a : Nat), .int .i64 (-(a : Nat)), .pointer (some ⟨B, 1, none⟩), .int .i64 (b : Nat), .int .i64 (-(b : Nat)), .pointer (some ⟨B, 2, none⟩), .int .i64 (c : Nat), .int .i64 (-(c : Nat)), .pointer (some ⟨B, 3, none⟩), .int .i64 (d : Nat), .int .i64 (-(d : Nat)), .pointer (some ⟨B, 0, none⟩), .pointer (some ⟨B, 1, none⟩), .pointer (some ⟨B, 2, none⟩), .pointer (some ⟨B, 3, none⟩), vb 0, .pointer (some ⟨wb, 0, none⟩), vb 2, vb 3, vb 4, vb 5, vb 6, vb 7, vb 8, vb 9, vb 10, vb 11, vb 12, vb 13, vb 14, vb 15, vb 16, vb 17, vb 18, vb 19, vb 20, vb 21, vb 22, vb 23, vb 24, vb 25, vb 26, vb 27, vb 28, vb 29, vb 30, .pointer (some ⟨wb, 0, none⟩), .pointer (some ⟨wb, 0, none⟩), .pointer (some ⟨wb, 1, none⟩), vals 0, vals 1, vals 2, vals 3, vals 4, vals 5, vals 6, vals 7, vals 8, .pointer (some ⟨wb, 4, none⟩)], defers := [] }) ∧ WK W' wb R' N' T' A' (!odd) ∧ Below wb V W') ?_ ?_
  refine Rt.wp_region_grow (n0 := 1) [10] [] 98 (fun vals => { tmps := #[.pointer (some ⟨wb, 0, none⟩), .agg #[.int .i64 (a : Nat), .int .i64 (b : Nat), .int .i64 (c : Nat), .int .i64 (d : Nat), .bool true], undef, .pointer (some ⟨B, 0, none⟩), va 0, .pointer (some ⟨wb, 0, none⟩), va 2, va 3, va 4, va 5, va 6, va 7, va 8, va 9, va 10, va 11, va 12, va 13, va 14, va 15, va 16, va 17, va 18, va 19, va 20, va 21, va 22, va 23, va 24, va 25, va 26, va 27, va 28, .pointer (some ⟨wb, 2, none⟩), .pointer (some ⟨wb, 0, none⟩), .pointer (some ⟨wb, 3, none⟩), .pointer (some ⟨B, 4, none⟩), .bool true, .pointer (some ⟨B, 0, none⟩), .int .i64 (a : Nat), .int .i64 (-(a : Nat)), .pointer (some ⟨B, 1, none⟩), .int .i64 (b : Nat), .int .i64 (-(b : Nat)), .pointer (some ⟨B, 2, none⟩), .int .i64 (c : Nat), .int .i64 (-(c : Nat)), .pointer (some ⟨B, 3, none⟩), .int .i64 (d : Nat), .int .i64 (-(d : Nat)), .pointer (some ⟨B, 0, none⟩), .pointer (some ⟨B, 1, none⟩), .pointer (some ⟨B, 2, none⟩), .pointer (some ⟨B, 3, none⟩), vb 0, .pointer (some ⟨wb, 0, none⟩), vb 2, vb 3, vb 4, vb 5, vb 6, vb 7, vb 8, vb 9, vb 10, vb 11, vb 12, vb 13, vb 14, vb 15, vb 16, vb 17, vb 18, vb 19, vb 20, vb 21, vb 22, vb 23, vb 24, vb 25, vb 26, vb 27, vb 28, vb 29, vb 30, .pointer (some ⟨wb, 0, none⟩), .pointer (some ⟨wb, 0, none⟩), .pointer (some ⟨wb, 1, none⟩), vals 0, vals 1, vals 2, vals 3, vals 4, vals 5, vals 6, vals 7, vals 8, vals 9], defers := [] }) (JP wb B odd) (by kernel_rfl) (by kernel_rfl) (by kernel_rfl) (by kernel_rfl) (fun _ _ _ _ _ h => absurd h.1 (by simp)) (by kernel_rfl) rfl (fun _ => by kernel_rfl) (by kernel_rfl) (by kernel_rfl) (JP_stays _ _ _) ?_ ?_ ?_
  · intro i o d hi hT hW hd vals w' hb hf
    have hlt : i < 11 := (Array.getElem?_eq_some_iff.1 hi).1
    rcases i with _ | _ | _ | _ | _ | _ | _ | _ | _ | _ | _ | i
    · obtain rfl := Option.some.inj hi
      obtain rfl := Option.some.inj hd
      dsimp only
      go_simp
      exact ⟨rfl, Below.refl _ _⟩
    · obtain rfl := Option.some.inj hi
      obtain rfl := Option.some.inj hd
      dsimp only
      go_simp
      exact ⟨rfl, Below.refl _ _⟩
    · obtain rfl := Option.some.inj hi
      obtain rfl := Option.some.inj hd
      have e1 : vals 1 = _ := hf 1 (by kernel_rfl)
      dsimp only
      rw [e1]
      go_simp
      exact ⟨rfl, Below.refl _ _⟩
    · obtain rfl := Option.some.inj hi
      obtain rfl := Option.some.inj hd
      have e2 : vals 2 = _ := hf 2 (by kernel_rfl)
      dsimp only
      rw [e2]
      go_simp
      exact ⟨rfl, Below.refl _ _⟩
    · obtain rfl := Option.some.inj hi
      obtain rfl := Option.some.inj hd
      have e3 : vals 3 = _ := hf 3 (by kernel_rfl)
      have z0 := (hb.cell (p := ⟨wb, 4, none⟩) HW.out.lt).trans HW.out.o
      dsimp only
      rw [e3]
      go_simp
      exact ⟨rfl, Below.refl _ _⟩
    · obtain rfl := Option.some.inj hi
      obtain rfl := Option.some.inj hd
      dsimp only
      go_simp
      exact ⟨rfl, Below.refl _ _⟩
    · obtain rfl := Option.some.inj hi
      obtain rfl := Option.some.inj hd
      have e5 : vals 5 = _ := hf 5 (by kernel_rfl)
      have z0 := (hb.cell (p := ⟨B, 4, none⟩) HSL.out).trans HS.out.c4
      dsimp only
      rw [e5]
      go_simp
      exact ⟨rfl, Below.refl _ _⟩
    · obtain rfl := Option.some.inj hi
      obtain rfl := Option.some.inj hd
      have e4 : vals 4 = _ := hf 4 (by kernel_rfl)
      have e6 : vals 6 = _ := hf 6 (by kernel_rfl)
      dsimp only
      rw [e4, e6]
      go_simp
      exact ⟨by first | rfl | (cases odd <;> rfl), Below.refl _ _⟩
    · obtain rfl := Option.some.inj hi
      obtain rfl := Option.some.inj hd
      have e0 : vals 0 = _ := hf 0 (by kernel_rfl)
      dsimp only
      rw [e0]
      go_simp
      exact ⟨rfl, Below.refl _ _⟩
    · obtain rfl := Option.some.inj hi
      obtain rfl := Option.some.inj hd
      have e8 : vals 8 = _ := hf 8 (by kernel_rfl)
      dsimp only
      rw [e8]
      go_simp
      exact ⟨rfl, Below.refl _ _⟩
    · cases hT
    · omega
  · intro p o d hi hW hd vals w' hb hf
    cases hW
  · intro vals w' hb hf
    have e7 : vals 7 = _ := hf 7 (by decide) rfl
    have e9 : vals 9 = _ := hf 9 (by decide) rfl
    have HV := Lib.hid (HW.out.mono hb)
    have HBY := Lib.hid (hb.mono (Nat.le_of_lt HW.out.lt))
    clear hb hf
    have t0 := HV.out.o
    have ft := HV.out.f 4 (by decide)
    rw [e7, e9]
    refine Rt.wpAny_step (i := 10) (by kernel_rfl) rfl (by rfl) (fun K hK => ?_)
    have HK := Lib.hid hK; clear hK
    go_simp
    refine HK.out _ _ ?_
    clear HK
    exact Rt.wpAny_end (by kernel_rfl) ⟨rfl, ⟨vals, by rw [e7]⟩, HV.out.set4 (!odd), HBY.out.setCell (p := ⟨wb, 4, none⟩) (Nat.le_refl wb) _⟩
  rintro e a' W5 ⟨rfl, ⟨vc, rfl⟩, hW1, hb1⟩
  have HF := Lib.hid (And.intro hW1 (HB2.out.trans hb1))
  clear hW1 hb1
  go_wp2
  go_end0
  exact ⟨rfl, HF.out⟩
end Go.Proofs.YteaeloeebfdodaaGreatDoor

/- MATH 15: what Euclid's algorithm keeps. -/
namespace Wh
/-- how the present pair R, N makes the first one; T and A are how many times the first number each of them is -/
structure EuI (a0 b0 M : Nat) (R N T A u v : Nat) (odd : Bool) : Prop where
  e1 : a0 = v * R + u * N
  e2 : b0 = A * R + T * N
  det : (odd = false ∧ T * v = u * A + 1) ∨ (odd = true ∧ u * A = T * v + 1)
  mR : R ≤ M
  mN : N ≤ M
  mT : T ≤ M
  mA : A ≤ M
  z : a0 = 0 → (R = 0 ∧ A = 0) ∨ (N = 0 ∧ T = 0)
theorem EuI.start {a0 b0 M : Nat} (h1 : a0 ≤ M) (h2 : b0 ≤ M) (h3 : 1 ≤ M) : EuI a0 b0 M a0 b0 1 0 0 1 false :=
  ⟨by omega, by omega, .inl ⟨rfl, by omega⟩, h1, h2, h3, by omega, fun h => .inl ⟨h, rfl⟩⟩
theorem EuI.step {a0 b0 M R N T A u v : Nat} {odd : Bool} (k : EuI a0 b0 M R N T A u v odd) (hb : b0 ≤ M) (hN : 0 < N) : R / N * A ≤ M ∧ EuI a0 b0 M N (R % N) A (T + R / N * A) v (u + R / N * v) (!odd) := by
  have hdm := Nat.div_add_mod R N
  have hr := Nat.mod_lt R hN
  have e1 := k.e1
  have e2 := k.e2
  have mR := k.mR
  have mN := k.mN
  have hz : a0 = 0 → R % N = 0 ∧ A = 0 := fun h => by
    rcases k.z h with ⟨h1, h2⟩ | ⟨h1, _⟩
    · exact ⟨by rw [h1, Nat.zero_mod], h2⟩
    · omega
  generalize R / N = q at *
  generalize R % N = r at *
  have x1 : a0 = (u + q * v) * N + v * r := by rw [e1, ← hdm]; grind
  have x2 : b0 = (T + q * A) * N + A * r := by rw [e2, ← hdm]; grind
  have x3 : (T + q * A) * 1 ≤ (T + q * A) * N := Nat.mul_le_mul_left _ hN
  generalize hX : (T + q * A) * N = X at *
  refine ⟨by omega, x1, by rw [hX]; exact x2, ?_, mN, by omega, k.mA, by omega, fun h => .inr (hz h)⟩
  rcases k.det with ⟨rfl, hd⟩ | ⟨rfl, hd⟩
  · exact .inr ⟨rfl, by
      have y1 : v * (T + q * A) = T * v + q * (v * A) := by grind
      have y2 : A * (u + q * v) = u * A + q * (v * A) := by grind
      omega⟩
  · exact .inl ⟨rfl, by
      have y1 : v * (T + q * A) = T * v + q * (v * A) := by grind
      have y2 : A * (u + q * v) = u * A + q * (v * A) := by grind
      omega⟩
theorem EuI.jump {a0 b0 M R N T A u v a b c d R' N' : Nat} {odd o : Bool} (k : EuI a0 b0 M R N T A u v odd) (hb : b0 ≤ M) (hR : R = d * R' + b * N') (hN : N = c * R' + a * N') (hlt : N' < R')
    (hdet : (o = false ∧ a * d = b * c + 1) ∨ (o = true ∧ b * c = a * d + 1)) (hb1 : 1 ≤ b) (hc1 : 1 ≤ c) (hac : a ≤ c) (hbd : b ≤ d) :
    N' < N ∧ R' ≤ M ∧ EuI a0 b0 M R' N' (a * T + b * A) (c * T + d * A) (b * v + a * u) (d * v + c * u) (odd != o) := by
  have e1 := k.e1
  have e2 := k.e2
  have mR := k.mR
  have x1 : a0 = (d * v + c * u) * R' + (b * v + a * u) * N' := by rw [e1, hR, hN]; grind
  have x2 : b0 = (c * T + d * A) * R' + (a * T + b * A) * N' := by rw [e2, hR, hN]; grind
  have y1 : 1 * R' ≤ c * R' := Nat.mul_le_mul_right R' hc1
  have y2 : 1 * R' ≤ d * R' := Nat.mul_le_mul_right R' (Nat.le_trans hb1 hbd)
  have y3 : (c * T + d * A) * 1 ≤ (c * T + d * A) * R' := Nat.mul_le_mul_left _ (by omega)
  have y4 : a * T ≤ c * T := Nat.mul_le_mul_right T hac
  have y5 : b * A ≤ d * A := Nat.mul_le_mul_right A hbd
  have hRM : R' ≤ M := by omega
  have hA : c * T + d * A ≤ M := by
    generalize (c * T + d * A) * R' = X at *
    omega
  have hz : a0 = 0 → False := fun h => by
    rcases k.z h with ⟨h1, _⟩ | ⟨h1, _⟩
    · omega
    · omega
  refine ⟨by omega, hRM, x1, x2, ?_, hRM, by omega, by omega, hA, fun h => (hz h).elim⟩
  have z1 : (a * T + b * A) * (d * v + c * u) = (a * d) * (T * v) + (b * c) * (u * A) + (a * c) * (T * u) + (b * d) * (A * v) := by grind
  have z2 : (b * v + a * u) * (c * T + d * A) = (b * c) * (T * v) + (a * d) * (u * A) + (a * c) * (T * u) + (b * d) * (A * v) := by grind
  rw [z1, z2]
  generalize (a * c) * (T * u) = p1
  generalize (b * d) * (A * v) = p2
  rcases k.det with ⟨rfl, hd⟩ | ⟨rfl, hd⟩ <;> rcases hdet with ⟨rfl, he⟩ | ⟨rfl, he⟩ <;> rw [hd, he]
  · exact .inl ⟨rfl, by grind⟩
  · exact .inr ⟨rfl, by grind⟩
  · exact .inr ⟨rfl, by grind⟩
  · exact .inl ⟨rfl, by grind⟩
theorem even_pair {R N R' N' a b c d : Nat} (hR : R = d * R' + b * N') (hN : N = c * R' + a * N') (h : a * d = b * c + 1) : (a : Int) * R + -(b : Int) * N = R' ∧ -(c : Int) * R + (d : Int) * N = N' := by
  have h' : (a : Int) * d = (b : Int) * c + 1 := by rw [← Int.natCast_mul, h]; simp
  subst hR hN
  simp only [Int.natCast_add, Int.natCast_mul]
  constructor <;> grind
theorem odd_pair {R N R' N' a b c d : Nat} (hR : R = d * R' + b * N') (hN : N = c * R' + a * N') (h : b * c = a * d + 1) : -(a : Int) * R + (b : Int) * N = R' ∧ (c : Int) * R + -(d : Int) * N = N' := by
  have h' : (b : Int) * c = (a : Int) * d + 1 := by rw [← Int.natCast_mul, h]; simp
  subst hR hN
  simp only [Int.natCast_add, Int.natCast_mul]
  constructor <;> grind
end Wh
