/- Part 3 of the proofs that laws of package whole answer true at every input and leave the input as it was, where the library's variables start as the text lays them (the texts A9, A10, A11, A12, A13). -/
import Derived.Test.YteaeloeebfdodaaGreatDoorX02
import Derived.StillTailTactics
import Derived.Deep.LoopGhost
set_option linter.unusedVariables false
set_option linter.unusedSimpArgs false
/- WALKS, part 9: add (made by tools/gen_add.py). -/
namespace Go.Proofs.YteaeloeebfdodaaGreatDoor
open Go.RowKit
set_option maxRecDepth 100000 in
set_option maxHeartbeats 800000 in
theorem add_tt (w : World) (x y : Int) (s1 s2 : Value) (h1 : Sl w s1 (Wh.limbs x.natAbs)) (h2 : Sl w s2 (Wh.limbs y.natAbs)) (hx : Fit x) (hy : Fit y) (hle : y.natAbs ≤ x.natAbs) (hneg : Int.sign x * Int.sign y = -1) :
    Calls Tryz.prog 200 #[.agg #[.int .i64 (Int.sign x), s1], .agg #[.int .i64 (Int.sign y), s2]] w fun e w' => (∃ v', e = .returned v' ∧ Num w' v' (x + y)) ∧ Below w.heap.size w w' := by
  obtain ⟨xa1, xc1, rfl⟩ := h1.len
  obtain ⟨xa2, xc2, rfl⟩ := h2.len
  have H1 := Lib.hid h1; clear h1
  have H2 := Lib.hid h2; clear h2
  have hfx : (Wh.limbs x.natAbs).length < 8 := hx
  have hfy : (Wh.limbs y.natAbs).length < 8 := hy
  have HFX := Lib.hid hfx; clear hfx
  have HFY := Lib.hid hfy; clear hfy
  clear hx hy
  generalize (Wh.limbs x.natAbs).length = n1 at H1 ⊢
  generalize (Wh.limbs y.natAbs).length = n2 at H2 ⊢
  have hle' := hle
  have HXY := Lib.hid (sum_take x y hle hneg)
  have hcc0 : 0 ≤ Wh.cmpN x.natAbs y.natAbs := by
    unfold Wh.cmpN; split
    · omega
    · split <;> omega
  clear hle
  have HLE := Lib.hid hle'; clear hle'
  have HNEG := Lib.hid hneg; clear hneg
  go_enter Tryz.func200, Tryz.ntmps200
  go_wp2_with fail
  refine (compareLimbs_any _ _ _ x.natAbs y.natAbs (H1.out.mono ?_) (H2.out.mono ?_) (.inl HFX.out)).mono ?_
  · exact (((Below.refl _ _).alloc (Nat.le_refl _) _).alloc (by simp) _).alloc (by simp; omega) _
  · exact (((Below.refl _ _).alloc (Nat.le_refl _) _).alloc (by simp) _).alloc (by simp; omega) _
  rintro e w' ⟨rfl, m, rfl⟩
  generalize Wh.cmpN x.natAbs y.natAbs = cc at hcc0 ⊢
  have L := laid3 w (.int .i64 x.sign) (.slice xa1 n1 xc1) (.int .i64 y.sign) (.slice xa2 n2 xc2) (.int .i64 0) (.slice none 0 0) 83 m
  generalize (((w.alloc (Obj.cells #[Value.int IntKind.i64 x.sign, .slice xa1 n1 xc1] 83)).alloc (Obj.cells #[Value.int IntKind.i64 y.sign, .slice xa2 n2 xc2] 83)).alloc (Obj.cells #[Value.int IntKind.i64 0, Value.slice none 0 0] 83)).drewN m = W at L ⊢
  have la0 := L.a0
  have la1 := L.a1
  have lb0 := L.b0
  have lb1 := L.b1
  have fa0 := L.fa0
  have fa1 := L.fa1
  have fb0 := L.fb0
  have fb1 := L.fb1
  go_wp2_with fail
  refine (with_any _ _ (sign_range _) (sign_range _) _).mono ?_
  rintro e w' ⟨rfl, rfl⟩
  rw [HNEG.out]
  go_wp2_with fail
  go_region_held3 (fun w' => w'.cell? ⟨w.heap.size, 0, none⟩ = some (.int .i64 x.sign) ∧ w'.cell? ⟨w.heap.size, 1, none⟩ = some (.slice xa1 n1 xc1) ∧ w'.cell? ⟨w.heap.size + 1, 1, none⟩ = some (.slice xa2 n2 xc2)) (first | exact ⟨far1 q2.1 (by omega), far1 q2.2.1 (by omega), far1 q2.2.2 (by omega)⟩ | exact q2 | exact q1 | go_keep) (first
    | (go_at_call 268; refine (takeLimbs_any _ _ _ x.natAbs y.natAbs (H1.out.mono L.below.drew) (H2.out.mono L.below.drew) (by have := HFX.out; omega) HLE.out).mono ?_; rintro e w1 ⟨⟨v1, rfl, hsm, hv1⟩, hb1⟩; have q1 := L.keep (drew_left hb1))
    | (go_at_call 191; refine (signed_any _ _ _ _ (Wh.ok_limbs _) hv1 hsm (by rw [Wh.val_limbs]; exact (sign_cases x y))).mono ?_; rintro e w2 ⟨⟨v2, rfl, hn⟩, hb2⟩; rw [HXY.out] at hn; obtain ⟨sl, rfl, hsl⟩ := hn; obtain ⟨xa, xc, rfl⟩ := hsl.len; have hbb := drew_left (hb1.trans (hb2.mono hb1.size)); have q2 := L.keep hbb; obtain ⟨k0, k1, g0, g1⟩ := L.result hbb))
  go_wp2
  have hfin := two_cells w2 (w.heap.size + 1 + 1) (.int .i64 (Int.sign (x + y))) (.slice xa (Wh.limbs (x + y).natAbs).length xc) k0 k1
  have hB : Below w.heap.size w ((w2.setCell ⟨w.heap.size + 1 + 1, 0, none⟩ (.int .i64 (Int.sign (x + y)))).setCell ⟨w.heap.size + 1 + 1, 1, none⟩ (.slice xa (Wh.limbs (x + y).natAbs).length xc)) :=
    ((L.below.trans (hbb.mono L.below.size)).setCell (by simp; omega) _).setCell (by simp; omega) _
  exact bodyPost_ret (v := .agg #[.int .i64 (Int.sign (x + y)), .slice xa (Wh.limbs (x + y).natAbs).length xc]) (by simp [results, Tryz.results200, go_sem, hfin.1, hfin.2]) rfl ⟨⟨_, rfl, _, rfl, hsl.store2 _ k0 k1 _ _⟩, hB⟩
set_option maxRecDepth 100000 in
set_option maxHeartbeats 800000 in
theorem add_ta (w : World) (x y : Int) (s1 s2 : Value) (h1 : Sl w s1 (Wh.limbs x.natAbs)) (h2 : Sl w s2 (Wh.limbs y.natAbs)) (hx : Fit x) (hy : Fit y) (hle : y.natAbs ≤ x.natAbs) (hneg : Int.sign x * Int.sign y ≠ -1) :
    Calls Tryz.prog 200 #[.agg #[.int .i64 (Int.sign x), s1], .agg #[.int .i64 (Int.sign y), s2]] w fun e w' => (∃ v', e = .returned v' ∧ Num w' v' (x + y)) ∧ Below w.heap.size w w' := by
  obtain ⟨xa1, xc1, rfl⟩ := h1.len
  obtain ⟨xa2, xc2, rfl⟩ := h2.len
  have H1 := Lib.hid h1; clear h1
  have H2 := Lib.hid h2; clear h2
  have hfx : (Wh.limbs x.natAbs).length < 8 := hx
  have hfy : (Wh.limbs y.natAbs).length < 8 := hy
  have HFX := Lib.hid hfx; clear hfx
  have HFY := Lib.hid hfy; clear hfy
  clear hx hy
  generalize (Wh.limbs x.natAbs).length = n1 at H1 ⊢
  generalize (Wh.limbs y.natAbs).length = n2 at H2 ⊢
  have hle' := hle
  have HXY := Lib.hid (sum_add x y hle hneg)
  have hcc0 : 0 ≤ Wh.cmpN x.natAbs y.natAbs := by
    unfold Wh.cmpN; split
    · omega
    · split <;> omega
  clear hle
  have HLE := Lib.hid hle'; clear hle'
  have hz : ((Int.sign x * Int.sign y) == -1) = false := beq_eq_false_iff_ne.2 hneg
  clear hneg
  go_enter Tryz.func200, Tryz.ntmps200
  go_wp2_with fail
  refine (compareLimbs_any _ _ _ x.natAbs y.natAbs (H1.out.mono ?_) (H2.out.mono ?_) (.inl HFX.out)).mono ?_
  · exact (((Below.refl _ _).alloc (Nat.le_refl _) _).alloc (by simp) _).alloc (by simp; omega) _
  · exact (((Below.refl _ _).alloc (Nat.le_refl _) _).alloc (by simp) _).alloc (by simp; omega) _
  rintro e w' ⟨rfl, m, rfl⟩
  generalize Wh.cmpN x.natAbs y.natAbs = cc at hcc0 ⊢
  have L := laid3 w (.int .i64 x.sign) (.slice xa1 n1 xc1) (.int .i64 y.sign) (.slice xa2 n2 xc2) (.int .i64 0) (.slice none 0 0) 83 m
  generalize (((w.alloc (Obj.cells #[Value.int IntKind.i64 x.sign, .slice xa1 n1 xc1] 83)).alloc (Obj.cells #[Value.int IntKind.i64 y.sign, .slice xa2 n2 xc2] 83)).alloc (Obj.cells #[Value.int IntKind.i64 0, Value.slice none 0 0] 83)).drewN m = W at L ⊢
  have la0 := L.a0
  have la1 := L.a1
  have lb0 := L.b0
  have lb1 := L.b1
  have fa0 := L.fa0
  have fa1 := L.fa1
  have fb0 := L.fb0
  have fb1 := L.fb1
  go_wp2_with fail
  refine (with_any _ _ (sign_range _) (sign_range _) _).mono ?_
  rintro e w' ⟨rfl, rfl⟩
  generalize x.sign * y.sign = z at hz ⊢
  go_wp2_with fail
  go_region_held3 (fun w' => w'.cell? ⟨w.heap.size, 0, none⟩ = some (.int .i64 x.sign) ∧ w'.cell? ⟨w.heap.size, 1, none⟩ = some (.slice xa1 n1 xc1) ∧ w'.cell? ⟨w.heap.size + 1, 1, none⟩ = some (.slice xa2 n2 xc2)) (first | exact ⟨far1 q2.1 (by omega), far1 q2.2.1 (by omega), far1 q2.2.2 (by omega)⟩ | exact q2 | exact q1 | go_keep) (first
    | (go_at_call 269; refine (addLimbs_any _ _ _ x.natAbs y.natAbs (H1.out.mono L.below.drew) (H2.out.mono L.below.drew) (by have := HFX.out; omega) (by have := HFY.out; omega)).mono ?_; rintro e w1 ⟨⟨v1, rfl, hsm, hv1⟩, hb1⟩; have q1 := L.keep (drew_left hb1))
    | (go_at_call 191; refine (signed_any _ _ _ _ (Wh.ok_limbs _) hv1 hsm (by rw [Wh.val_limbs]; exact (sign_cases2 x y HLE.out))).mono ?_; rintro e w2 ⟨⟨v2, rfl, hn⟩, hb2⟩; rw [HXY.out] at hn; obtain ⟨sl, rfl, hsl⟩ := hn; obtain ⟨xa, xc, rfl⟩ := hsl.len; have hbb := drew_left (hb1.trans (hb2.mono hb1.size)); have q2 := L.keep hbb; obtain ⟨k0, k1, g0, g1⟩ := L.result hbb))
  go_wp2
  have hfin := two_cells w2 (w.heap.size + 1 + 1) (.int .i64 (Int.sign (x + y))) (.slice xa (Wh.limbs (x + y).natAbs).length xc) k0 k1
  have hB : Below w.heap.size w ((w2.setCell ⟨w.heap.size + 1 + 1, 0, none⟩ (.int .i64 (Int.sign (x + y)))).setCell ⟨w.heap.size + 1 + 1, 1, none⟩ (.slice xa (Wh.limbs (x + y).natAbs).length xc)) :=
    ((L.below.trans (hbb.mono L.below.size)).setCell (by simp; omega) _).setCell (by simp; omega) _
  exact bodyPost_ret (v := .agg #[.int .i64 (Int.sign (x + y)), .slice xa (Wh.limbs (x + y).natAbs).length xc]) (by simp [results, Tryz.results200, go_sem, hfin.1, hfin.2]) rfl ⟨⟨_, rfl, _, rfl, hsl.store2 _ k0 k1 _ _⟩, hB⟩
set_option maxRecDepth 100000 in
set_option maxHeartbeats 800000 in
theorem add_st (w : World) (x y : Int) (s1 s2 : Value) (h1 : Sl w s1 (Wh.limbs x.natAbs)) (h2 : Sl w s2 (Wh.limbs y.natAbs)) (hx : Fit x) (hy : Fit y) (hle : x.natAbs < y.natAbs) (hneg : Int.sign x * Int.sign y = -1) :
    Calls Tryz.prog 200 #[.agg #[.int .i64 (Int.sign x), s1], .agg #[.int .i64 (Int.sign y), s2]] w fun e w' => (∃ v', e = .returned v' ∧ Num w' v' (x + y)) ∧ Below w.heap.size w w' := by
  obtain ⟨xa1, xc1, rfl⟩ := h1.len
  obtain ⟨xa2, xc2, rfl⟩ := h2.len
  have H1 := Lib.hid h1; clear h1
  have H2 := Lib.hid h2; clear h2
  have hfx : (Wh.limbs x.natAbs).length < 8 := hx
  have hfy : (Wh.limbs y.natAbs).length < 8 := hy
  have HFX := Lib.hid hfx; clear hfx
  have HFY := Lib.hid hfy; clear hfy
  clear hx hy
  generalize (Wh.limbs x.natAbs).length = n1 at H1 ⊢
  generalize (Wh.limbs y.natAbs).length = n2 at H2 ⊢
  have hle' : x.natAbs ≤ y.natAbs := by omega
  rw [Int.mul_comm] at hneg
  have HXY := Lib.hid ((sum_take y x hle' hneg).trans (Int.add_comm y x))
  have HCC := Lib.hid (Wh.cmpN_lt hle)
  clear hle
  have HLE := Lib.hid hle'; clear hle'
  have HNEG := Lib.hid hneg; clear hneg
  go_enter Tryz.func200, Tryz.ntmps200
  go_wp2_with fail
  refine (compareLimbs_any _ _ _ x.natAbs y.natAbs (H1.out.mono ?_) (H2.out.mono ?_) (.inl HFX.out)).mono ?_
  · exact (((Below.refl _ _).alloc (Nat.le_refl _) _).alloc (by simp) _).alloc (by simp; omega) _
  · exact (((Below.refl _ _).alloc (Nat.le_refl _) _).alloc (by simp) _).alloc (by simp; omega) _
  rintro e w' ⟨rfl, m, rfl⟩
  rw [HCC.out]
  have L := laid3 w (.int .i64 x.sign) (.slice xa1 n1 xc1) (.int .i64 y.sign) (.slice xa2 n2 xc2) (.int .i64 0) (.slice none 0 0) 83 m
  generalize (((w.alloc (Obj.cells #[Value.int IntKind.i64 x.sign, .slice xa1 n1 xc1] 83)).alloc (Obj.cells #[Value.int IntKind.i64 y.sign, .slice xa2 n2 xc2] 83)).alloc (Obj.cells #[Value.int IntKind.i64 0, Value.slice none 0 0] 83)).drewN m = W at L ⊢
  have la0 := L.a0
  have la1 := L.a1
  have lb0 := L.b0
  have lb1 := L.b1
  have fa0 := L.fa0
  have fa1 := L.fa1
  have fb0 := L.fb0
  have fb1 := L.fb1
  go_wp2_with fail
  have L2 := L.swap
  generalize ((((W.setCell ⟨w.heap.size, 0, none⟩ (.int .i64 y.sign)).setCell ⟨w.heap.size, 1, none⟩ (.slice xa2 n2 xc2)).setCell ⟨w.heap.size + 1, 0, none⟩ (.int .i64 x.sign)).setCell ⟨w.heap.size + 1, 1, none⟩ (.slice xa1 n1 xc1)) = W2 at L2 ⊢
  clear la0 la1 lb0 lb1 fa0 fa1 fb0 fb1 L W
  have L := L2; clear L2
  have la0 := L.a0
  have la1 := L.a1
  have lb1 := L.b1
  refine (with_any _ _ (sign_range _) (sign_range _) _).mono ?_
  rintro e w' ⟨rfl, rfl⟩
  rw [HNEG.out]
  go_wp2_with fail
  go_region_held3 (fun w' => w'.cell? ⟨w.heap.size, 0, none⟩ = some (.int .i64 y.sign) ∧ w'.cell? ⟨w.heap.size, 1, none⟩ = some (.slice xa2 n2 xc2) ∧ w'.cell? ⟨w.heap.size + 1, 1, none⟩ = some (.slice xa1 n1 xc1)) (first | exact ⟨far1 q2.1 (by omega), far1 q2.2.1 (by omega), far1 q2.2.2 (by omega)⟩ | exact q2 | exact q1 | go_keep) (first
    | (go_at_call 268; refine (takeLimbs_any _ _ _ y.natAbs x.natAbs (H2.out.mono L.below.drew) (H1.out.mono L.below.drew) (by have := HFY.out; omega) HLE.out).mono ?_; rintro e w1 ⟨⟨v1, rfl, hsm, hv1⟩, hb1⟩; have q1 := L.keep (drew_left hb1))
    | (go_at_call 191; refine (signed_any _ _ _ _ (Wh.ok_limbs _) hv1 hsm (by rw [Wh.val_limbs]; exact (sign_cases y x))).mono ?_; rintro e w2 ⟨⟨v2, rfl, hn⟩, hb2⟩; rw [HXY.out] at hn; obtain ⟨sl, rfl, hsl⟩ := hn; obtain ⟨xa, xc, rfl⟩ := hsl.len; have hbb := drew_left (hb1.trans (hb2.mono hb1.size)); have q2 := L.keep hbb; obtain ⟨k0, k1, g0, g1⟩ := L.result hbb))
  go_wp2
  have hfin := two_cells w2 (w.heap.size + 1 + 1) (.int .i64 (Int.sign (x + y))) (.slice xa (Wh.limbs (x + y).natAbs).length xc) k0 k1
  have hB : Below w.heap.size w ((w2.setCell ⟨w.heap.size + 1 + 1, 0, none⟩ (.int .i64 (Int.sign (x + y)))).setCell ⟨w.heap.size + 1 + 1, 1, none⟩ (.slice xa (Wh.limbs (x + y).natAbs).length xc)) :=
    ((L.below.trans (hbb.mono L.below.size)).setCell (by simp; omega) _).setCell (by simp; omega) _
  exact bodyPost_ret (v := .agg #[.int .i64 (Int.sign (x + y)), .slice xa (Wh.limbs (x + y).natAbs).length xc]) (by simp [results, Tryz.results200, go_sem, hfin.1, hfin.2]) rfl ⟨⟨_, rfl, _, rfl, hsl.store2 _ k0 k1 _ _⟩, hB⟩
set_option maxRecDepth 100000 in
set_option maxHeartbeats 800000 in
theorem add_sa (w : World) (x y : Int) (s1 s2 : Value) (h1 : Sl w s1 (Wh.limbs x.natAbs)) (h2 : Sl w s2 (Wh.limbs y.natAbs)) (hx : Fit x) (hy : Fit y) (hle : x.natAbs < y.natAbs) (hneg : Int.sign x * Int.sign y ≠ -1) :
    Calls Tryz.prog 200 #[.agg #[.int .i64 (Int.sign x), s1], .agg #[.int .i64 (Int.sign y), s2]] w fun e w' => (∃ v', e = .returned v' ∧ Num w' v' (x + y)) ∧ Below w.heap.size w w' := by
  obtain ⟨xa1, xc1, rfl⟩ := h1.len
  obtain ⟨xa2, xc2, rfl⟩ := h2.len
  have H1 := Lib.hid h1; clear h1
  have H2 := Lib.hid h2; clear h2
  have hfx : (Wh.limbs x.natAbs).length < 8 := hx
  have hfy : (Wh.limbs y.natAbs).length < 8 := hy
  have HFX := Lib.hid hfx; clear hfx
  have HFY := Lib.hid hfy; clear hfy
  clear hx hy
  generalize (Wh.limbs x.natAbs).length = n1 at H1 ⊢
  generalize (Wh.limbs y.natAbs).length = n2 at H2 ⊢
  have hle' : x.natAbs ≤ y.natAbs := by omega
  rw [Int.mul_comm] at hneg
  have HXY := Lib.hid ((sum_add y x hle' hneg).trans (Int.add_comm y x))
  have HCC := Lib.hid (Wh.cmpN_lt hle)
  clear hle
  have HLE := Lib.hid hle'; clear hle'
  have hz : ((Int.sign y * Int.sign x) == -1) = false := beq_eq_false_iff_ne.2 hneg
  clear hneg
  go_enter Tryz.func200, Tryz.ntmps200
  go_wp2_with fail
  refine (compareLimbs_any _ _ _ x.natAbs y.natAbs (H1.out.mono ?_) (H2.out.mono ?_) (.inl HFX.out)).mono ?_
  · exact (((Below.refl _ _).alloc (Nat.le_refl _) _).alloc (by simp) _).alloc (by simp; omega) _
  · exact (((Below.refl _ _).alloc (Nat.le_refl _) _).alloc (by simp) _).alloc (by simp; omega) _
  rintro e w' ⟨rfl, m, rfl⟩
  rw [HCC.out]
  have L := laid3 w (.int .i64 x.sign) (.slice xa1 n1 xc1) (.int .i64 y.sign) (.slice xa2 n2 xc2) (.int .i64 0) (.slice none 0 0) 83 m
  generalize (((w.alloc (Obj.cells #[Value.int IntKind.i64 x.sign, .slice xa1 n1 xc1] 83)).alloc (Obj.cells #[Value.int IntKind.i64 y.sign, .slice xa2 n2 xc2] 83)).alloc (Obj.cells #[Value.int IntKind.i64 0, Value.slice none 0 0] 83)).drewN m = W at L ⊢
  have la0 := L.a0
  have la1 := L.a1
  have lb0 := L.b0
  have lb1 := L.b1
  have fa0 := L.fa0
  have fa1 := L.fa1
  have fb0 := L.fb0
  have fb1 := L.fb1
  go_wp2_with fail
  have L2 := L.swap
  generalize ((((W.setCell ⟨w.heap.size, 0, none⟩ (.int .i64 y.sign)).setCell ⟨w.heap.size, 1, none⟩ (.slice xa2 n2 xc2)).setCell ⟨w.heap.size + 1, 0, none⟩ (.int .i64 x.sign)).setCell ⟨w.heap.size + 1, 1, none⟩ (.slice xa1 n1 xc1)) = W2 at L2 ⊢
  clear la0 la1 lb0 lb1 fa0 fa1 fb0 fb1 L W
  have L := L2; clear L2
  have la0 := L.a0
  have la1 := L.a1
  have lb1 := L.b1
  refine (with_any _ _ (sign_range _) (sign_range _) _).mono ?_
  rintro e w' ⟨rfl, rfl⟩
  generalize y.sign * x.sign = z at hz ⊢
  go_wp2_with fail
  go_region_held3 (fun w' => w'.cell? ⟨w.heap.size, 0, none⟩ = some (.int .i64 y.sign) ∧ w'.cell? ⟨w.heap.size, 1, none⟩ = some (.slice xa2 n2 xc2) ∧ w'.cell? ⟨w.heap.size + 1, 1, none⟩ = some (.slice xa1 n1 xc1)) (first | exact ⟨far1 q2.1 (by omega), far1 q2.2.1 (by omega), far1 q2.2.2 (by omega)⟩ | exact q2 | exact q1 | go_keep) (first
    | (go_at_call 269; refine (addLimbs_any _ _ _ y.natAbs x.natAbs (H2.out.mono L.below.drew) (H1.out.mono L.below.drew) (by have := HFY.out; omega) (by have := HFX.out; omega)).mono ?_; rintro e w1 ⟨⟨v1, rfl, hsm, hv1⟩, hb1⟩; have q1 := L.keep (drew_left hb1))
    | (go_at_call 191; refine (signed_any _ _ _ _ (Wh.ok_limbs _) hv1 hsm (by rw [Wh.val_limbs]; exact (sign_cases2 y x HLE.out))).mono ?_; rintro e w2 ⟨⟨v2, rfl, hn⟩, hb2⟩; rw [HXY.out] at hn; obtain ⟨sl, rfl, hsl⟩ := hn; obtain ⟨xa, xc, rfl⟩ := hsl.len; have hbb := drew_left (hb1.trans (hb2.mono hb1.size)); have q2 := L.keep hbb; obtain ⟨k0, k1, g0, g1⟩ := L.result hbb))
  go_wp2
  have hfin := two_cells w2 (w.heap.size + 1 + 1) (.int .i64 (Int.sign (x + y))) (.slice xa (Wh.limbs (x + y).natAbs).length xc) k0 k1
  have hB : Below w.heap.size w ((w2.setCell ⟨w.heap.size + 1 + 1, 0, none⟩ (.int .i64 (Int.sign (x + y)))).setCell ⟨w.heap.size + 1 + 1, 1, none⟩ (.slice xa (Wh.limbs (x + y).natAbs).length xc)) :=
    ((L.below.trans (hbb.mono L.below.size)).setCell (by simp; omega) _).setCell (by simp; omega) _
  exact bodyPost_ret (v := .agg #[.int .i64 (Int.sign (x + y)), .slice xa (Wh.limbs (x + y).natAbs).length xc]) (by simp [results, Tryz.results200, go_sem, hfin.1, hfin.2]) rfl ⟨⟨_, rfl, _, rfl, hsl.store2 _ k0 k1 _ _⟩, hB⟩
/-- add: the sum -/
theorem add_any (w : World) (x y : Int) (v1 v2 : Value) (h1 : Num w v1 x) (h2 : Num w v2 y) (hx : Fit x) (hy : Fit y) :
    Calls Tryz.prog 200 #[v1, v2] w fun e w' => (∃ v', e = .returned v' ∧ Num w' v' (x + y)) ∧ Below w.heap.size w w' := by
  obtain ⟨s1, rfl, h1⟩ := h1
  obtain ⟨s2, rfl, h2⟩ := h2
  by_cases hle : y.natAbs ≤ x.natAbs <;> by_cases hn : Int.sign x * Int.sign y = -1
  · exact add_tt w x y s1 s2 h1 h2 hx hy hle hn
  · exact add_ta w x y s1 s2 h1 h2 hx hy hle hn
  · exact add_st w x y s1 s2 h1 h2 hx hy (by omega) hn
  · exact add_sa w x y s1 s2 h1 h2 hx hy (by omega) hn
end Go.Proofs.YteaeloeebfdodaaGreatDoor

/- WALKS, part 10: sub, small. -/
namespace Go.Proofs.YteaeloeebfdodaaGreatDoor
open Go.RowKit
theorem Num.mk' {w : World} {sl : Value} {x : Int} {s : Int} (h : Sl w sl (Wh.limbs x.natAbs)) (hs : s = Int.sign x) : Num w (.agg #[.int .i64 s, sl]) x := ⟨sl, by rw [hs], h⟩
theorem Laid3.keep4 {w W w' : World} {a0 a1 b0 b1 c0 c1 : Value} (L : Laid3 w W a0 a1 b0 b1 c0 c1) (h : Below W.heap.size W w') :
    w'.cell? ⟨w.heap.size, 0, none⟩ = some a0 ∧ w'.cell? ⟨w.heap.size, 1, none⟩ = some a1 ∧ w'.cell? ⟨w.heap.size + 1, 0, none⟩ = some b0 ∧ w'.cell? ⟨w.heap.size + 1, 1, none⟩ = some b1 :=
  ⟨(L.keep h).1, (L.keep h).2.1, (h.cell (p := ⟨_, _, none⟩) (by rw [L.size]; show w.heap.size + 1 < _; omega)).trans L.b0, (L.keep h).2.2⟩
theorem fit_neg {x : Int} (h : Fit x) : Fit (-x) := by unfold Fit at *; rw [Int.natAbs_neg]; exact h
theorem turned_still (s : Int) (hs : -1 ≤ s ∧ s ≤ 1) (w : World) :
    Calls Tryz.prog 307 #[.int .i64 s] w fun e w' => e = .returned (.int .i64 (-s)) ∧ w' = w :=
  (turned_any s hs w).mono fun _ _ h => ⟨h.1, h.2.symm⟩
theorem result_keep {w w2 : World} {a b : Value} {B : Nat} (hB : B = w.heap.size + 2) (h : Below B ((w.alloc (.cells #[a, b] 83)).alloc (.cells #[.int .i64 0, .slice none 0 0] 83)) w2) :
    w2.cell? ⟨w.heap.size + 1, 0, none⟩ = some (.int .i64 0) ∧ w2.cell? ⟨w.heap.size + 1, 1, none⟩ = some (.slice none 0 0) ∧ w2.frozen? ⟨w.heap.size + 1, 0, none⟩ = false ∧ w2.frozen? ⟨w.heap.size + 1, 1, none⟩ = false := by
  subst hB
  refine ⟨(h.cell (p := ⟨_, _, none⟩) (Nat.lt_succ_self _)).trans (by go_simp), (h.cell (p := ⟨_, _, none⟩) (Nat.lt_succ_self _)).trans (by go_simp), (h.frozen (p := ⟨_, _, none⟩) (Nat.lt_succ_self _)).trans (by go_simp), (h.frozen (p := ⟨_, _, none⟩) (Nat.lt_succ_self _)).trans (by go_simp)⟩
set_option maxRecDepth 100000 in
set_option maxHeartbeats 400000 in
theorem neg_agg (w : World) (s : Int) (hs : -1 ≤ s ∧ s ≤ 1) (a : Option Addr) (n c : Nat) :
    Calls Tryz.prog 267 #[.agg #[.int .i64 s, .slice a n c]] w fun e w' => e = .returned (.agg #[.int .i64 (-s), .slice a n c]) ∧ Below w.heap.size w w' := by
  have hres := result_keep (w := w) (a := .int .i64 s) (b := .slice a n c) rfl (Below.refl _ _).drew
  have hbb : Below w.heap.size w (((w.alloc (Obj.cells #[.int .i64 s, .slice a n c] 83)).alloc (Obj.cells #[.int .i64 0, .slice none 0 0] 83)).drew) := (((Below.refl _ _).alloc (Nat.le_refl _) _).alloc (by simp) _).drew
  have c0 : ((w.alloc (Obj.cells #[.int .i64 s, .slice a n c] 83)).alloc (Obj.cells #[.int .i64 0, .slice none 0 0] 83)).cell? ⟨w.heap.size, 0, none⟩ = some (.int .i64 s) := by go_simp
  have c1 : ((w.alloc (Obj.cells #[.int .i64 s, .slice a n c] 83)).alloc (Obj.cells #[.int .i64 0, .slice none 0 0] 83)).cell? ⟨w.heap.size, 1, none⟩ = some (.slice a n c) := by go_simp
  go_enter Tryz.func267, Tryz.ntmps267
  go_wp2_with fail
  generalize (w.alloc (Obj.cells #[.int .i64 s, .slice a n c] 83)).alloc (Obj.cells #[.int .i64 0, .slice none 0 0] 83) = W at *
  obtain ⟨k0, k1, g0, g1⟩ := hres
  refine wp_region_still_tail 6 (by kernel_rfl) (by kernel_rfl) ?_
  simp only [List.take_succ_cons, List.take_zero, List.drop_succ_cons, List.drop_zero]
  repeat still_step
  still_call (turned_still _ hs _)
  repeat still_step
  refine wpStill_nil ?_
  change wpList _ _ _ _ _ W.drew
  clear c0 c1
  generalize W.drew = V at *
  go_wp2
  have hfin := two_cells V (w.heap.size + 1) (.int .i64 (-s)) (.slice a n c) k0 k1
  exact bodyPost_ret (v := .agg #[.int .i64 (-s), .slice a n c]) (by simp [results, Tryz.results267, go_sem, hfin.1, hfin.2]) rfl ⟨rfl, (hbb.setCell (Nat.le_succ _) _).setCell (Nat.le_succ _) _⟩
set_option maxRecDepth 100000 in
set_option maxHeartbeats 800000 in
theorem sub_any (w : World) (x y : Int) (v1 v2 : Value) (h1 : Num w v1 x) (h2 : Num w v2 y) (hx : Fit x) (hy : Fit y) :
    Calls Tryz.prog 199 #[v1, v2] w fun e w' => (∃ v', e = .returned v' ∧ Num w' v' (x - y)) ∧ Below w.heap.size w w' := by
  obtain ⟨s1, rfl, h1⟩ := h1
  obtain ⟨s2, rfl, h2⟩ := h2
  obtain ⟨xa1, xc1, rfl⟩ := h1.len
  obtain ⟨xa2, xc2, rfl⟩ := h2.len
  have H1 := Lib.hid h1; clear h1
  have H2 := Lib.hid h2; clear h2
  have HFX := Lib.hid hx; clear hx
  have HFY := Lib.hid (fit_neg hy); clear hy
  have HD := Lib.hid (show x + -y = x - y by omega)
  generalize (Wh.limbs x.natAbs).length = n1 at H1 ⊢
  generalize (Wh.limbs y.natAbs).length = n2 at H2 ⊢
  have L := laid3 w (.int .i64 x.sign) (.slice xa1 n1 xc1) (.int .i64 y.sign) (.slice xa2 n2 xc2) (.int .i64 0) (.slice none 0 0) 83 0
  go_enter Tryz.func199, Tryz.ntmps199
  go_wp2_with fail
  rw [World.drewN_zero] at L
  generalize ((w.alloc (Obj.cells #[Value.int IntKind.i64 x.sign, .slice xa1 n1 xc1] 83)).alloc (Obj.cells #[Value.int IntKind.i64 y.sign, .slice xa2 n2 xc2] 83)).alloc (Obj.cells #[Value.int IntKind.i64 0, Value.slice none 0 0] 83) = W at L ⊢
  have la0 := L.a0
  have la1 := L.a1
  have lb0 := L.b0
  have lb1 := L.b1
  go_region_held3 (fun w' => w'.cell? ⟨w.heap.size, 0, none⟩ = some (.int .i64 x.sign) ∧ w'.cell? ⟨w.heap.size, 1, none⟩ = some (.slice xa1 n1 xc1) ∧ w'.cell? ⟨w.heap.size + 1, 0, none⟩ = some (.int .i64 y.sign) ∧ w'.cell? ⟨w.heap.size + 1, 1, none⟩ = some (.slice xa2 n2 xc2)) (first | exact q1 | exact ⟨far1 q2.1 (by omega), far1 q2.2.1 (by omega), far1 q2.2.2.1 (by omega), far1 q2.2.2.2 (by omega)⟩ | exact q2 | go_keep) (first
    | (go_at_call 267; refine (neg_agg _ _ (sign_range _) _ _ _).mono ?_; rintro e w1 ⟨rfl, hb1⟩; have hb1 := drew_left hb1; have q1 := L.keep4 hb1; have hs1 := Lib.hid hb1; clear hb1)
    | (go_at_call 200; refine (add_any _ x (-y) _ _ (Num.mk' (H1.out.mono (L.below.trans (hs1.out.mono L.below.size))) rfl) (Num.mk' (by rw [Int.natAbs_neg]; exact H2.out.mono (L.below.trans (hs1.out.mono L.below.size))) (by rw [Int.sign_neg])) HFX.out HFY.out).mono ?_; rintro e w2 ⟨⟨v2, rfl, hn⟩, hb2⟩; rw [HD.out] at hn; obtain ⟨sl, rfl, hsl⟩ := hn; obtain ⟨xa, xc, rfl⟩ := hsl.len; have hbb := hs1.out.trans (hb2.mono hs1.out.size); have q2 := L.keep4 hbb; obtain ⟨k0, k1, g0, g1⟩ := L.result hbb))
  go_wp2
  have hfin := two_cells w2 (w.heap.size + 1 + 1) (.int .i64 (Int.sign (x - y))) (.slice xa (Wh.limbs (x - y).natAbs).length xc) k0 k1
  have hB : Below w.heap.size w ((w2.setCell ⟨w.heap.size + 1 + 1, 0, none⟩ (.int .i64 (Int.sign (x - y)))).setCell ⟨w.heap.size + 1 + 1, 1, none⟩ (.slice xa (Wh.limbs (x - y).natAbs).length xc)) :=
    ((L.below.trans (hbb.mono L.below.size)).setCell (by simp; omega) _).setCell (by simp; omega) _
  exact bodyPost_ret (v := .agg #[.int .i64 (Int.sign (x - y)), .slice xa (Wh.limbs (x - y).natAbs).length xc]) (by simp [results, Tryz.results199, go_sem, hfin.1, hfin.2]) rfl ⟨⟨_, rfl, _, rfl, hsl.store2 _ k0 k1 _ _⟩, hB⟩
end Go.Proofs.YteaeloeebfdodaaGreatDoor

/- WALKS, part 11: small; a product of limbs, addProduct's loops. -/
namespace Go.Proofs.YteaeloeebfdodaaGreatDoor
open Go.RowKit
theorem sl_one (w : World) (n : Nat) (t : TypeId) : Sl (w.alloc (.cells #[.int .u32 n] t)) (.slice (some ⟨w.heap.size, 0, none⟩) 1 1) [n] := by
  refine .inr ⟨w.heap.size, 0, 1, rfl, Nat.le_refl _, by simp, fun i hi => ?_⟩
  obtain rfl : i = 0 := by simpa using hi
  rw [World.cell?_alloc_at (hn := rfl)]; rfl
theorem res_keep {w w2 : World} {B : Nat} (hB : B = w.heap.size + 1) (h : Below B (w.alloc (.cells #[.int .i64 0, .slice none 0 0] 83)) w2) :
    w2.cell? ⟨w.heap.size, 0, none⟩ = some (.int .i64 0) ∧ w2.cell? ⟨w.heap.size, 1, none⟩ = some (.slice none 0 0) ∧ w2.frozen? ⟨w.heap.size, 0, none⟩ = false ∧ w2.frozen? ⟨w.heap.size, 1, none⟩ = false := by
  subst hB
  refine ⟨(h.cell (p := ⟨_, _, none⟩) (Nat.lt_succ_self _)).trans (by go_simp), (h.cell (p := ⟨_, _, none⟩) (Nat.lt_succ_self _)).trans (by go_simp), (h.frozen (p := ⟨_, _, none⟩) (Nat.lt_succ_self _)).trans (by go_simp), (h.frozen (p := ⟨_, _, none⟩) (Nat.lt_succ_self _)).trans (by go_simp)⟩
set_option maxHeartbeats 400000 in
theorem small_any (w : World) (n : Nat) (hn : n < 1000000000) :
    Calls Tryz.prog 184 #[.int .u32 n] w fun e w' => (∃ v', e = .returned v' ∧ Num w' v' n) ∧ Below w.heap.size w w' := by
  have hv : Wh.val [n] = n := by simp [Wh.val]
  have HV := Lib.hid hv; clear hv
  go_enter Tryz.func184, Tryz.ntmps184
  go_wp2_with fail
  have hsl := sl_one (w.alloc (Obj.cells #[Value.int IntKind.i64 0, Value.slice none 0 0] 83)) n 181
  rw [World.size_alloc] at hsl
  refine (signed_any 1 _ [n] _ (Wh.ok_cons.2 ⟨hn, Wh.ok_nil⟩) hsl (by intro a n c h; cases h; decide) (.inr (.inl rfl))).mono ?_
  rintro e w2 ⟨⟨v', rfl, hnum⟩, hb⟩
  obtain ⟨x, hx⟩ : ∃ x : Int, x = n := ⟨_, rfl⟩
  rw [HV.out, Int.one_mul, ← hx] at hnum
  have HX := Lib.hid hx; clear hx
  obtain ⟨sl, rfl, hsl⟩ := hnum
  obtain ⟨xa, xc, rfl⟩ := hsl.len
  have hbW : Below (w.heap.size + 1) (w.alloc (Obj.cells #[Value.int IntKind.i64 0, Value.slice none 0 0] 83)) w2 :=
    ((Below.refl _ _).alloc (by simp) _).trans (hb.mono (by simp))
  obtain ⟨k0, k1, g0, g1⟩ := res_keep rfl hbW
  have hbb : Below w.heap.size w w2 := ((Below.refl _ _).alloc (Nat.le_refl _) _).trans (hbW.mono (Nat.le_succ _))
  clear hb hbW
  go_wp2
  have hfin := two_cells w2 w.heap.size (.int .i64 (Int.sign x)) (.slice xa (Wh.limbs x.natAbs).length xc) k0 k1
  exact bodyPost_ret (v := .agg #[.int .i64 (Int.sign x), .slice xa (Wh.limbs x.natAbs).length xc]) (by simp [results, Tryz.results184, go_sem, hfin.1, hfin.2]) rfl ⟨⟨_, rfl, by rw [← HX.out]; exact ⟨_, rfl, hsl.store2 _ k0 k1 _ _⟩⟩, (hbb.setCell (Nat.le_refl _) _).setCell (Nat.le_refl _) _⟩
end Go.Proofs.YteaeloeebfdodaaGreatDoor

/- Worlds that differ in one block. -/
namespace Go.Proofs.YteaeloeebfdodaaGreatDoor
open Go.RowKit
/-- but for block b, and new blocks, w' is as w was -/
structure Only (b : Nat) (w w' : World) : Prop where
  os : w'.os = w.os
  tape : w'.tape = w.tape
  output : w'.output = w.output
  size : w.heap.size ≤ w'.heap.size
  block : ∀ k, k ≠ b → k < w.heap.size → w'.heap[k]? = w.heap[k]?
theorem Only.refl (b : Nat) (w : World) : Only b w w := ⟨rfl, rfl, rfl, Nat.le_refl _, fun _ _ _ => rfl⟩
theorem Only.trans {b : Nat} {w w' w'' : World} (h : Only b w w') (k : Only b w' w'') : Only b w w'' :=
  ⟨k.os.trans h.os, k.tape.trans h.tape, k.output.trans h.output, Nat.le_trans h.size k.size, fun i h1 h2 => (k.block i h1 (Nat.lt_of_lt_of_le h2 h.size)).trans (h.block i h1 h2)⟩
theorem Only.setCell {b : Nat} {w w' : World} (h : Only b w w') (i : Nat) (v : Value) : Only b w (w'.setCell ⟨b, i, none⟩ v) :=
  ⟨h.os, h.tape, h.output, by simpa using h.size, fun k h1 h2 => (Below.heap_setCell w' ⟨b, i, none⟩ v k h1).trans (h.block k h1 h2)⟩
theorem Only.of_below {b : Nat} {w w' : World} (h : Below w.heap.size w w') : Only b w w' := ⟨h.os, h.tape, h.output, h.size, fun k _ h2 => h.block k h2⟩
theorem Only.drew {b : Nat} {w w' : World} (h : Only b w w') : Only b w w'.drew := ⟨h.os, h.tape, h.output, h.size, h.block⟩
theorem Only.below {b B : Nat} {w w' : World} (h : Only b w w') (hB : B ≤ b) (hw : B ≤ w.heap.size) : Below B w w' := ⟨h.os, h.tape, h.output, h.size, fun k hk => h.block k (by omega) (by omega)⟩
theorem Only.cell {b : Nat} {w w' : World} (h : Only b w w') {p : Addr} (h1 : p.block ≠ b) (h2 : p.block < w.heap.size) : w'.cell? p = w.cell? p := World.cell?_of_block (w := w) (h.block p.block h1 h2)
theorem Only.frozen {b : Nat} {w w' : World} (h : Only b w w') {p : Addr} (h1 : p.block ≠ b) (h2 : p.block < w.heap.size) : w'.frozen? p = w.frozen? p := World.frozen?_of_block (w := w) (h.block p.block h1 h2)
/-- the slice v does not lie in block b -/
def Apart (b : Nat) (v : Value) : Prop := ∀ p n c, v = .slice (some p) n c → p.block ≠ b
theorem Sl.only {w w' : World} {b : Nat} {v : Value} {l : List Nat} (h : Sl w v l) (ho : Only b w w') (ha : Apart b v) : Sl w' v l := by
  rcases h with h | ⟨b', off, cap, rfl, h2, h3, h4⟩
  · exact .inl h
  · have hne : b' ≠ b := ha _ _ _ rfl
    exact .inr ⟨b', off, cap, rfl, h2, Nat.lt_of_lt_of_le h3 ho.size, fun i hi => (ho.cell (p := ⟨b', off + i, none⟩) hne h3).trans (h4 i hi)⟩
theorem apart_of_sl {w : World} {v : Value} {l : List Nat} {b : Nat} (h : Sl w v l) (hb : w.heap.size ≤ b) : Apart b v := by
  intro p n c e
  rcases h with ⟨_, h⟩ | ⟨b', off, cap, h1, h2, h3, h4⟩
  · rw [h] at e; cases e
  · rw [h1] at e; cases e; simp; omega
/-- a slice's cells, under the name of its address -/
theorem Sl.addr2 {w : World} {v : Value} {l : List Nat} {rb : Nat} (h : Sl w v l) (ha : Apart rb v) : ∃ a c, v = .slice a l.length c ∧ ∀ k, k < l.length → ∃ b off, a = some ⟨b, off, none⟩ ∧ b ≠ rb ∧ b < w.heap.size ∧ ∀ i, i < l.length → w.cell? ⟨b, off + i, none⟩ = some (.int .u32 (l.getD i 0)) := by
  rcases h with ⟨rfl, rfl⟩ | ⟨b, off, cap, rfl, h2, h3, h4⟩
  · exact ⟨_, _, rfl, fun k hk => absurd hk (by simp)⟩
  · exact ⟨_, _, rfl, fun k hk => ⟨b, off, rfl, ha _ _ _ rfl, h3, h4⟩⟩
end Go.Proofs.YteaeloeebfdodaaGreatDoor

/- WALKS, part 13: addProduct. -/
namespace Go.Proofs.YteaeloeebfdodaaGreatDoor
open Go.RowKit
/-- in block b, from cell n on, w' is as w was -/
def Rest (b n : Nat) (w w' : World) : Prop := ∀ i, n ≤ i → w'.cell? ⟨b, i, none⟩ = w.cell? ⟨b, i, none⟩ ∧ w'.frozen? ⟨b, i, none⟩ = w.frozen? ⟨b, i, none⟩
theorem Rest.refl (b n : Nat) (w : World) : Rest b n w w := fun _ _ => ⟨rfl, rfl⟩
theorem Rest.setCell {b n : Nat} {w w' : World} (h : Rest b n w w') {i : Nat} (hi : i < n) (v : Value) : Rest b n w (w'.setCell ⟨b, i, none⟩ v) := fun j hj =>
  ⟨by rw [World.cell?_setCell_other _ _ _ _ (by intro e; have := congrArg Addr.off e; simp at this; omega)]; exact (h j hj).1, by rw [World.frozen?_setCell]; exact (h j hj).2⟩
/-- what holds of the room at the head of row k -/
structure Rows1 (w wr : World) (rb : Nat) (l1 l2 : List Nat) (k : Nat) (l : List Nat) : Prop where
  len : l.length = l1.length + l2.length
  ok : Wh.Ok l
  own : Own wr rb l
  val : Wh.val l = Wh.val (l1.take k) * Wh.val l2
  zero : ∀ j, k + l2.length ≤ j → l.getD j 0 = 0
  only : Only rb w wr
  rest : Rest rb (l1.length + l2.length) w wr
/-- .. and in row k behind j steps, x its factor, c what is carried on -/
structure Rows2 (w wr : World) (rb : Nat) (l1 l2 : List Nat) (k x j c : Nat) (l : List Nat) : Prop where
  len : l.length = l1.length + l2.length
  ok : Wh.Ok l
  own : Own wr rb l
  val : Wh.val l + Wh.R ^ (k + j) * c = Wh.val (l1.take k) * Wh.val l2 + Wh.R ^ k * (x * Wh.val (l2.take j))
  zero : ∀ j, k + l2.length ≤ j → l.getD j 0 = 0
  only : Only rb w wr
  rest : Rest rb (l1.length + l2.length) w wr
  car : c < 1000000000
theorem Rows1.begin {w : World} {rb : Nat} {l1 l2 : List Nat} (h : Own w rb (List.replicate (l1.length + l2.length) 0)) : Rows1 w w rb l1 l2 0 (List.replicate (l1.length + l2.length) 0) :=
  ⟨by simp, Wh.ok_replicate _, h, by rw [Wh.val_replicate]; simp [Wh.val], fun j _ => by simp only [List.getD]; rw [List.getElem?_replicate]; split <;> rfl, Only.refl _ _, Rest.refl _ _ _⟩
theorem Rows1.row {w wr : World} {rb : Nat} {l1 l2 : List Nat} {k : Nat} {l : List Nat} (h : Rows1 w wr rb l1 l2 k l) (x : Nat) : Rows2 w wr rb l1 l2 k x 0 0 l :=
  ⟨h.len, h.ok, h.own, by rw [h.val]; simp [Wh.val], h.zero, h.only, h.rest, by decide⟩
theorem Rows2.step {w wr : World} {rb : Nat} {l1 l2 : List Nat} {k x j c : Nat} {l : List Nat} (h : Rows2 w wr rb l1 l2 k x j c l) (hk : k < l1.length) (hj : j < l2.length) (hx : x < 1000000000) (hy : l2.getD j 0 < 1000000000) :
    Rows2 w (wr.setCell ⟨rb, k + j, none⟩ (.int .u32 ((x * l2.getD j 0 + l.getD (k + j) 0 + c) % 1000000000 : Nat))) rb l1 l2 k x (j + 1) ((x * l2.getD j 0 + l.getD (k + j) 0 + c) / 1000000000) (l.set (k + j) ((x * l2.getD j 0 + l.getD (k + j) 0 + c) % 1000000000)) := by
  have hi : k + j < l.length := by rw [h.len]; omega
  refine ⟨by rw [List.length_set]; exact h.len, Wh.ok_set h.ok (Nat.mod_lt _ (by decide)), h.own.set hi _, ?_, ?_, h.only.setCell _ _, h.rest.setCell (by rw [← h.len]; exact hi) _, ?_⟩
  · have := Wh.mul_inner (y := l2.getD j 0) hi h.val
    rw [Wh.R_eq] at this ⊢
    rw [Wh.take_snoc l2 j hj, Wh.val_snoc, List.length_take, Nat.min_eq_left (by omega), Wh.R_eq]
    exact this
  · intro i hi'
    have hne : k + j ≠ i := by omega
    have := h.zero i hi'
    simp only [List.getD] at this ⊢
    rw [List.getElem?_set_ne hne]; exact this
  · exact (Wh.mul_step (x := x) (y := l2.getD j 0) (c := c) (o := l.getD (k + j) 0) hx hy h.car (Wh.getD_lt h.ok _)).1
theorem Rows2.last {w wr : World} {rb : Nat} {l1 l2 : List Nat} {k x c : Nat} {l : List Nat} (h : Rows2 w wr rb l1 l2 k x l2.length c l) (hk : k < l1.length) (hx : x = l1.getD k 0) :
    Rows1 w (wr.setCell ⟨rb, k + l2.length, none⟩ (.int .u32 c)) rb l1 l2 (k + 1) (l.set (k + l2.length) c) := by
  have hi : k + l2.length < l.length := by rw [h.len]; omega
  refine ⟨by rw [List.length_set]; exact h.len, Wh.ok_set h.ok h.car, h.own.set hi _, ?_, ?_, h.only.setCell _ _, h.rest.setCell (by rw [← h.len]; exact hi) _⟩
  · have hv := h.val
    rw [List.take_length] at hv
    rw [Wh.mul_row_end hi (h.zero _ (Nat.le_refl _)) hv, Wh.take_snoc l1 k hk, Wh.val_snoc, List.length_take, Nat.min_eq_left (by omega), Nat.add_mul, ← hx, Nat.mul_assoc]
  · intro i hi'
    have hne : k + l2.length ≠ i := by omega
    have := h.zero i (by omega)
    simp only [List.getD] at this ⊢
    rw [List.getElem?_set_ne hne]; exact this
end Go.Proofs.YteaeloeebfdodaaGreatDoor
