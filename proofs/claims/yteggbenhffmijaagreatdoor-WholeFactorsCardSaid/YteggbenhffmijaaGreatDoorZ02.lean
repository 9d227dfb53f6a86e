/- Part 2 of the proofs that laws of package whole answer true at every input and leave the input as it was, where the library's variables start as the text lays them (the texts A10, A11, A12, A13, A14, A15, A16, A17, A18, S1, S2, M6). -/
import Derived.Test.YteggbenhffmijaaGreatDoorZ01
import Derived.StillTailTactics
import Derived.Deep.LoopGhost
import Derived.Lib.SliceRun
import Derived.Lib.Strings
import Derived.Lib.IndexBytes
set_option linter.unusedVariables false
set_option linter.unusedSimpArgs false
/- WALKS, part 10: sub, small. -/
namespace Go.Proofs.YteggbenhffmijaaGreatDoor
open Go.RowKit
theorem Num.mk' {w : World} {sl : Value} {x : Int} {s : Int} (h : Sl w sl (Wh.limbs x.natAbs)) (hs : s = Int.sign x) : Num w (.agg #[.int .i64 s, sl]) x := ⟨sl, by rw [hs], h⟩
theorem Laid3.keep4 {w W w' : World} {a0 a1 b0 b1 c0 c1 : Value} (L : Laid3 w W a0 a1 b0 b1 c0 c1) (h : Below W.heap.size W w') :
    w'.cell? ⟨w.heap.size, 0, none⟩ = some a0 ∧ w'.cell? ⟨w.heap.size, 1, none⟩ = some a1 ∧ w'.cell? ⟨w.heap.size + 1, 0, none⟩ = some b0 ∧ w'.cell? ⟨w.heap.size + 1, 1, none⟩ = some b1 :=
  ⟨(L.keep h).1, (L.keep h).2.1, (h.cell (p := ⟨_, _, none⟩) (by rw [L.size]; show w.heap.size + 1 < _; omega)).trans L.b0, (L.keep h).2.2⟩
theorem fit_neg {x : Int} (h : Fit x) : Fit (-x) := by unfold Fit at *; rw [Int.natAbs_neg]; exact h
theorem turned_still (s : Int) (hs : -1 ≤ s ∧ s ≤ 1) (w : World) :
    Calls Tryz.prog 309 #[.int .i64 s] w fun e w' => e = .returned (.int .i64 (-s)) ∧ w' = w :=
  (turned_any s hs w).mono fun _ _ h => ⟨h.1, h.2.symm⟩
theorem result_keep {w w2 : World} {a b : Value} {B : Nat} (hB : B = w.heap.size + 2) (h : Below B ((w.alloc (.cells #[a, b] 92)).alloc (.cells #[.int .i64 0, .slice none 0 0] 92)) w2) :
    w2.cell? ⟨w.heap.size + 1, 0, none⟩ = some (.int .i64 0) ∧ w2.cell? ⟨w.heap.size + 1, 1, none⟩ = some (.slice none 0 0) ∧ w2.frozen? ⟨w.heap.size + 1, 0, none⟩ = false ∧ w2.frozen? ⟨w.heap.size + 1, 1, none⟩ = false := by
  subst hB
  refine ⟨(h.cell (p := ⟨_, _, none⟩) (Nat.lt_succ_self _)).trans (by go_simp), (h.cell (p := ⟨_, _, none⟩) (Nat.lt_succ_self _)).trans (by go_simp), (h.frozen (p := ⟨_, _, none⟩) (Nat.lt_succ_self _)).trans (by go_simp), (h.frozen (p := ⟨_, _, none⟩) (Nat.lt_succ_self _)).trans (by go_simp)⟩
set_option maxRecDepth 100000 in
set_option maxHeartbeats 400000 in
theorem neg_agg (w : World) (s : Int) (hs : -1 ≤ s ∧ s ≤ 1) (a : Option Addr) (n c : Nat) :
    Calls Tryz.prog 265 #[.agg #[.int .i64 s, .slice a n c]] w fun e w' => e = .returned (.agg #[.int .i64 (-s), .slice a n c]) ∧ Below w.heap.size w w' := by
  have hres := result_keep (w := w) (a := .int .i64 s) (b := .slice a n c) rfl (Below.refl _ _).drew
  have hbb : Below w.heap.size w (((w.alloc (Obj.cells #[.int .i64 s, .slice a n c] 92)).alloc (Obj.cells #[.int .i64 0, .slice none 0 0] 92)).drew) := (((Below.refl _ _).alloc (Nat.le_refl _) _).alloc (by simp) _).drew
  have c0 : ((w.alloc (Obj.cells #[.int .i64 s, .slice a n c] 92)).alloc (Obj.cells #[.int .i64 0, .slice none 0 0] 92)).cell? ⟨w.heap.size, 0, none⟩ = some (.int .i64 s) := by go_simp
  have c1 : ((w.alloc (Obj.cells #[.int .i64 s, .slice a n c] 92)).alloc (Obj.cells #[.int .i64 0, .slice none 0 0] 92)).cell? ⟨w.heap.size, 1, none⟩ = some (.slice a n c) := by go_simp
  go_enter Tryz.func265, Tryz.ntmps265
  go_wp2_with fail
  generalize (w.alloc (Obj.cells #[.int .i64 s, .slice a n c] 92)).alloc (Obj.cells #[.int .i64 0, .slice none 0 0] 92) = W at *
  obtain ⟨k0, k1, g0, g1⟩ := hres
  refine wp_region_still_tail 6 (by kernel_rfl) (by kernel_rfl) ?_
  simp only [List.take_succ_cons, List.take_zero, List.drop_succ_cons, List.drop_zero]
  repeat still_step
  still_call (turned_still _ hs _)
  repeat still_step
  refine wpStill_nil ?_
  change wpList _ _ _ _ _ W.drew
  clear c0 c1
  generalize W.drew = V at *
  go_wp2
  have hfin := two_cells V (w.heap.size + 1) (.int .i64 (-s)) (.slice a n c) k0 k1
  exact bodyPost_ret (v := .agg #[.int .i64 (-s), .slice a n c]) (by simp [results, Tryz.results265, go_sem, hfin.1, hfin.2]) rfl ⟨rfl, (hbb.setCell (Nat.le_succ _) _).setCell (Nat.le_succ _) _⟩
set_option maxRecDepth 100000 in
set_option maxHeartbeats 800000 in
theorem sub_any (w : World) (x y : Int) (v1 v2 : Value) (h1 : Num w v1 x) (h2 : Num w v2 y) (hx : Fit x) (hy : Fit y) :
    Calls Tryz.prog 212 #[v1, v2] w fun e w' => (∃ v', e = .returned v' ∧ Num w' v' (x - y)) ∧ Below w.heap.size w w' := by
  obtain ⟨s1, rfl, h1⟩ := h1
  obtain ⟨s2, rfl, h2⟩ := h2
  obtain ⟨xa1, xc1, rfl⟩ := h1.len
  obtain ⟨xa2, xc2, rfl⟩ := h2.len
  have H1 := Lib.hid h1; clear h1
  have H2 := Lib.hid h2; clear h2
  have HFX := Lib.hid hx; clear hx
  have HFY := Lib.hid (fit_neg hy); clear hy
  have HD := Lib.hid (show x + -y = x - y by omega)
  generalize (Wh.limbs x.natAbs).length = n1 at H1 ⊢
  generalize (Wh.limbs y.natAbs).length = n2 at H2 ⊢
  have L := laid3 w (.int .i64 x.sign) (.slice xa1 n1 xc1) (.int .i64 y.sign) (.slice xa2 n2 xc2) (.int .i64 0) (.slice none 0 0) 92 0
  go_enter Tryz.func212, Tryz.ntmps212
  go_wp2_with fail
  rw [World.drewN_zero] at L
  generalize ((w.alloc (Obj.cells #[Value.int IntKind.i64 x.sign, .slice xa1 n1 xc1] 92)).alloc (Obj.cells #[Value.int IntKind.i64 y.sign, .slice xa2 n2 xc2] 92)).alloc (Obj.cells #[Value.int IntKind.i64 0, Value.slice none 0 0] 92) = W at L ⊢
  have la0 := L.a0
  have la1 := L.a1
  have lb0 := L.b0
  have lb1 := L.b1
  go_region_held3 (fun w' => w'.cell? ⟨w.heap.size, 0, none⟩ = some (.int .i64 x.sign) ∧ w'.cell? ⟨w.heap.size, 1, none⟩ = some (.slice xa1 n1 xc1) ∧ w'.cell? ⟨w.heap.size + 1, 0, none⟩ = some (.int .i64 y.sign) ∧ w'.cell? ⟨w.heap.size + 1, 1, none⟩ = some (.slice xa2 n2 xc2)) (first | exact q1 | exact ⟨far1 q2.1 (by omega), far1 q2.2.1 (by omega), far1 q2.2.2.1 (by omega), far1 q2.2.2.2 (by omega)⟩ | exact q2 | go_keep) (first
    | (go_at_call 265; refine (neg_agg _ _ (sign_range _) _ _ _).mono ?_; rintro e w1 ⟨rfl, hb1⟩; have hb1 := drew_left hb1; have q1 := L.keep4 hb1; have hs1 := Lib.hid hb1; clear hb1)
    | (go_at_call 169; refine (add_any _ x (-y) _ _ (Num.mk' (H1.out.mono (L.below.trans (hs1.out.mono L.below.size))) rfl) (Num.mk' (by rw [Int.natAbs_neg]; exact H2.out.mono (L.below.trans (hs1.out.mono L.below.size))) (by rw [Int.sign_neg])) HFX.out HFY.out).mono ?_; rintro e w2 ⟨⟨v2, rfl, hn⟩, hb2⟩; rw [HD.out] at hn; obtain ⟨sl, rfl, hsl⟩ := hn; obtain ⟨xa, xc, rfl⟩ := hsl.len; have hbb := hs1.out.trans (hb2.mono hs1.out.size); have q2 := L.keep4 hbb; obtain ⟨k0, k1, g0, g1⟩ := L.result hbb))
  go_wp2
  have hfin := two_cells w2 (w.heap.size + 1 + 1) (.int .i64 (Int.sign (x - y))) (.slice xa (Wh.limbs (x - y).natAbs).length xc) k0 k1
  have hB : Below w.heap.size w ((w2.setCell ⟨w.heap.size + 1 + 1, 0, none⟩ (.int .i64 (Int.sign (x - y)))).setCell ⟨w.heap.size + 1 + 1, 1, none⟩ (.slice xa (Wh.limbs (x - y).natAbs).length xc)) :=
    ((L.below.trans (hbb.mono L.below.size)).setCell (by simp; omega) _).setCell (by simp; omega) _
  exact bodyPost_ret (v := .agg #[.int .i64 (Int.sign (x - y)), .slice xa (Wh.limbs (x - y).natAbs).length xc]) (by simp [results, Tryz.results212, go_sem, hfin.1, hfin.2]) rfl ⟨⟨_, rfl, _, rfl, hsl.store2 _ k0 k1 _ _⟩, hB⟩
end Go.Proofs.YteggbenhffmijaaGreatDoor

/- WALKS, part 11: small; a product of limbs, addProduct's loops. -/
namespace Go.Proofs.YteggbenhffmijaaGreatDoor
open Go.RowKit
theorem sl_one (w : World) (n : Nat) (t : TypeId) : Sl (w.alloc (.cells #[.int .u32 n] t)) (.slice (some ⟨w.heap.size, 0, none⟩) 1 1) [n] := by
  refine .inr ⟨w.heap.size, 0, 1, rfl, Nat.le_refl _, by simp, fun i hi => ?_⟩
  obtain rfl : i = 0 := by simpa using hi
  rw [World.cell?_alloc_at (hn := rfl)]; rfl
theorem res_keep {w w2 : World} {B : Nat} (hB : B = w.heap.size + 1) (h : Below B (w.alloc (.cells #[.int .i64 0, .slice none 0 0] 92)) w2) :
    w2.cell? ⟨w.heap.size, 0, none⟩ = some (.int .i64 0) ∧ w2.cell? ⟨w.heap.size, 1, none⟩ = some (.slice none 0 0) ∧ w2.frozen? ⟨w.heap.size, 0, none⟩ = false ∧ w2.frozen? ⟨w.heap.size, 1, none⟩ = false := by
  subst hB
  refine ⟨(h.cell (p := ⟨_, _, none⟩) (Nat.lt_succ_self _)).trans (by go_simp), (h.cell (p := ⟨_, _, none⟩) (Nat.lt_succ_self _)).trans (by go_simp), (h.frozen (p := ⟨_, _, none⟩) (Nat.lt_succ_self _)).trans (by go_simp), (h.frozen (p := ⟨_, _, none⟩) (Nat.lt_succ_self _)).trans (by go_simp)⟩
set_option maxHeartbeats 400000 in
theorem small_any (w : World) (n : Nat) (hn : n < 1000000000) :
    Calls Tryz.prog 182 #[.int .u32 n] w fun e w' => (∃ v', e = .returned v' ∧ Num w' v' n) ∧ Below w.heap.size w w' := by
  have hv : Wh.val [n] = n := by simp [Wh.val]
  have HV := Lib.hid hv; clear hv
  go_enter Tryz.func182, Tryz.ntmps182
  go_wp2_with fail
  have hsl := sl_one (w.alloc (Obj.cells #[Value.int IntKind.i64 0, Value.slice none 0 0] 92)) n 181
  rw [World.size_alloc] at hsl
  refine (signed_any 1 _ [n] _ (Wh.ok_cons.2 ⟨hn, Wh.ok_nil⟩) hsl (by intro a n c h; cases h; decide) (.inr (.inl rfl))).mono ?_
  rintro e w2 ⟨⟨v', rfl, hnum⟩, hb⟩
  obtain ⟨x, hx⟩ : ∃ x : Int, x = n := ⟨_, rfl⟩
  rw [HV.out, Int.one_mul, ← hx] at hnum
  have HX := Lib.hid hx; clear hx
  obtain ⟨sl, rfl, hsl⟩ := hnum
  obtain ⟨xa, xc, rfl⟩ := hsl.len
  have hbW : Below (w.heap.size + 1) (w.alloc (Obj.cells #[Value.int IntKind.i64 0, Value.slice none 0 0] 92)) w2 :=
    ((Below.refl _ _).alloc (by simp) _).trans (hb.mono (by simp))
  obtain ⟨k0, k1, g0, g1⟩ := res_keep rfl hbW
  have hbb : Below w.heap.size w w2 := ((Below.refl _ _).alloc (Nat.le_refl _) _).trans (hbW.mono (Nat.le_succ _))
  clear hb hbW
  go_wp2
  have hfin := two_cells w2 w.heap.size (.int .i64 (Int.sign x)) (.slice xa (Wh.limbs x.natAbs).length xc) k0 k1
  exact bodyPost_ret (v := .agg #[.int .i64 (Int.sign x), .slice xa (Wh.limbs x.natAbs).length xc]) (by simp [results, Tryz.results182, go_sem, hfin.1, hfin.2]) rfl ⟨⟨_, rfl, by rw [← HX.out]; exact ⟨_, rfl, hsl.store2 _ k0 k1 _ _⟩⟩, (hbb.setCell (Nat.le_refl _) _).setCell (Nat.le_refl _) _⟩
end Go.Proofs.YteggbenhffmijaaGreatDoor

/- Worlds that differ in one block. -/
namespace Go.Proofs.YteggbenhffmijaaGreatDoor
open Go.RowKit
/-- but for block b, and new blocks, w' is as w was -/
structure Only (b : Nat) (w w' : World) : Prop where
  os : w'.os = w.os
  tape : w'.tape = w.tape
  output : w'.output = w.output
  size : w.heap.size ≤ w'.heap.size
  block : ∀ k, k ≠ b → k < w.heap.size → w'.heap[k]? = w.heap[k]?
theorem Only.refl (b : Nat) (w : World) : Only b w w := ⟨rfl, rfl, rfl, Nat.le_refl _, fun _ _ _ => rfl⟩
theorem Only.trans {b : Nat} {w w' w'' : World} (h : Only b w w') (k : Only b w' w'') : Only b w w'' :=
  ⟨k.os.trans h.os, k.tape.trans h.tape, k.output.trans h.output, Nat.le_trans h.size k.size, fun i h1 h2 => (k.block i h1 (Nat.lt_of_lt_of_le h2 h.size)).trans (h.block i h1 h2)⟩
theorem Only.setCell {b : Nat} {w w' : World} (h : Only b w w') (i : Nat) (v : Value) : Only b w (w'.setCell ⟨b, i, none⟩ v) :=
  ⟨h.os, h.tape, h.output, by simpa using h.size, fun k h1 h2 => (Below.heap_setCell w' ⟨b, i, none⟩ v k h1).trans (h.block k h1 h2)⟩
theorem Only.of_below {b : Nat} {w w' : World} (h : Below w.heap.size w w') : Only b w w' := ⟨h.os, h.tape, h.output, h.size, fun k _ h2 => h.block k h2⟩
theorem Only.drew {b : Nat} {w w' : World} (h : Only b w w') : Only b w w'.drew := ⟨h.os, h.tape, h.output, h.size, h.block⟩
theorem Only.below {b B : Nat} {w w' : World} (h : Only b w w') (hB : B ≤ b) (hw : B ≤ w.heap.size) : Below B w w' := ⟨h.os, h.tape, h.output, h.size, fun k hk => h.block k (by omega) (by omega)⟩
theorem Only.cell {b : Nat} {w w' : World} (h : Only b w w') {p : Addr} (h1 : p.block ≠ b) (h2 : p.block < w.heap.size) : w'.cell? p = w.cell? p := World.cell?_of_block (w := w) (h.block p.block h1 h2)
theorem Only.frozen {b : Nat} {w w' : World} (h : Only b w w') {p : Addr} (h1 : p.block ≠ b) (h2 : p.block < w.heap.size) : w'.frozen? p = w.frozen? p := World.frozen?_of_block (w := w) (h.block p.block h1 h2)
/-- the slice v does not lie in block b -/
def Apart (b : Nat) (v : Value) : Prop := ∀ p n c, v = .slice (some p) n c → p.block ≠ b
theorem Sl.only {w w' : World} {b : Nat} {v : Value} {l : List Nat} (h : Sl w v l) (ho : Only b w w') (ha : Apart b v) : Sl w' v l := by
  rcases h with h | ⟨b', off, cap, rfl, h2, h3, h4⟩
  · exact .inl h
  · have hne : b' ≠ b := ha _ _ _ rfl
    exact .inr ⟨b', off, cap, rfl, h2, Nat.lt_of_lt_of_le h3 ho.size, fun i hi => (ho.cell (p := ⟨b', off + i, none⟩) hne h3).trans (h4 i hi)⟩
theorem apart_of_sl {w : World} {v : Value} {l : List Nat} {b : Nat} (h : Sl w v l) (hb : w.heap.size ≤ b) : Apart b v := by
  intro p n c e
  rcases h with ⟨_, h⟩ | ⟨b', off, cap, h1, h2, h3, h4⟩
  · rw [h] at e; cases e
  · rw [h1] at e; cases e; simp; omega
/-- a slice's cells, under the name of its address -/
theorem Sl.addr2 {w : World} {v : Value} {l : List Nat} {rb : Nat} (h : Sl w v l) (ha : Apart rb v) : ∃ a c, v = .slice a l.length c ∧ ∀ k, k < l.length → ∃ b off, a = some ⟨b, off, none⟩ ∧ b ≠ rb ∧ b < w.heap.size ∧ ∀ i, i < l.length → w.cell? ⟨b, off + i, none⟩ = some (.int .u32 (l.getD i 0)) := by
  rcases h with ⟨rfl, rfl⟩ | ⟨b, off, cap, rfl, h2, h3, h4⟩
  · exact ⟨_, _, rfl, fun k hk => absurd hk (by simp)⟩
  · exact ⟨_, _, rfl, fun k hk => ⟨b, off, rfl, ha _ _ _ rfl, h3, h4⟩⟩
end Go.Proofs.YteggbenhffmijaaGreatDoor

/- WALKS, part 13: addProduct. -/
namespace Go.Proofs.YteggbenhffmijaaGreatDoor
open Go.RowKit
/-- in block b, from cell n on, w' is as w was -/
def Rest (b n : Nat) (w w' : World) : Prop := ∀ i, n ≤ i → w'.cell? ⟨b, i, none⟩ = w.cell? ⟨b, i, none⟩ ∧ w'.frozen? ⟨b, i, none⟩ = w.frozen? ⟨b, i, none⟩
theorem Rest.refl (b n : Nat) (w : World) : Rest b n w w := fun _ _ => ⟨rfl, rfl⟩
theorem Rest.setCell {b n : Nat} {w w' : World} (h : Rest b n w w') {i : Nat} (hi : i < n) (v : Value) : Rest b n w (w'.setCell ⟨b, i, none⟩ v) := fun j hj =>
  ⟨by rw [World.cell?_setCell_other _ _ _ _ (by intro e; have := congrArg Addr.off e; simp at this; omega)]; exact (h j hj).1, by rw [World.frozen?_setCell]; exact (h j hj).2⟩
/-- what holds of the room at the head of row k -/
structure Rows1 (w wr : World) (rb : Nat) (l1 l2 : List Nat) (k : Nat) (l : List Nat) : Prop where
  len : l.length = l1.length + l2.length
  ok : Wh.Ok l
  own : Own wr rb l
  val : Wh.val l = Wh.val (l1.take k) * Wh.val l2
  zero : ∀ j, k + l2.length ≤ j → l.getD j 0 = 0
  only : Only rb w wr
  rest : Rest rb (l1.length + l2.length) w wr
/-- .. and in row k behind j steps, x its factor, c what is carried on -/
structure Rows2 (w wr : World) (rb : Nat) (l1 l2 : List Nat) (k x j c : Nat) (l : List Nat) : Prop where
  len : l.length = l1.length + l2.length
  ok : Wh.Ok l
  own : Own wr rb l
  val : Wh.val l + Wh.R ^ (k + j) * c = Wh.val (l1.take k) * Wh.val l2 + Wh.R ^ k * (x * Wh.val (l2.take j))
  zero : ∀ j, k + l2.length ≤ j → l.getD j 0 = 0
  only : Only rb w wr
  rest : Rest rb (l1.length + l2.length) w wr
  car : c < 1000000000
theorem Rows1.begin {w : World} {rb : Nat} {l1 l2 : List Nat} (h : Own w rb (List.replicate (l1.length + l2.length) 0)) : Rows1 w w rb l1 l2 0 (List.replicate (l1.length + l2.length) 0) :=
  ⟨by simp, Wh.ok_replicate _, h, by rw [Wh.val_replicate]; simp [Wh.val], fun j _ => by simp only [List.getD]; rw [List.getElem?_replicate]; split <;> rfl, Only.refl _ _, Rest.refl _ _ _⟩
theorem Rows1.row {w wr : World} {rb : Nat} {l1 l2 : List Nat} {k : Nat} {l : List Nat} (h : Rows1 w wr rb l1 l2 k l) (x : Nat) : Rows2 w wr rb l1 l2 k x 0 0 l :=
  ⟨h.len, h.ok, h.own, by rw [h.val]; simp [Wh.val], h.zero, h.only, h.rest, by decide⟩
theorem Rows2.step {w wr : World} {rb : Nat} {l1 l2 : List Nat} {k x j c : Nat} {l : List Nat} (h : Rows2 w wr rb l1 l2 k x j c l) (hk : k < l1.length) (hj : j < l2.length) (hx : x < 1000000000) (hy : l2.getD j 0 < 1000000000) :
    Rows2 w (wr.setCell ⟨rb, k + j, none⟩ (.int .u32 ((x * l2.getD j 0 + l.getD (k + j) 0 + c) % 1000000000 : Nat))) rb l1 l2 k x (j + 1) ((x * l2.getD j 0 + l.getD (k + j) 0 + c) / 1000000000) (l.set (k + j) ((x * l2.getD j 0 + l.getD (k + j) 0 + c) % 1000000000)) := by
  have hi : k + j < l.length := by rw [h.len]; omega
  refine ⟨by rw [List.length_set]; exact h.len, Wh.ok_set h.ok (Nat.mod_lt _ (by decide)), h.own.set hi _, ?_, ?_, h.only.setCell _ _, h.rest.setCell (by rw [← h.len]; exact hi) _, ?_⟩
  · have := Wh.mul_inner (y := l2.getD j 0) hi h.val
    rw [Wh.R_eq] at this ⊢
    rw [Wh.take_snoc l2 j hj, Wh.val_snoc, List.length_take, Nat.min_eq_left (by omega), Wh.R_eq]
    exact this
  · intro i hi'
    have hne : k + j ≠ i := by omega
    have := h.zero i hi'
    simp only [List.getD] at this ⊢
    rw [List.getElem?_set_ne hne]; exact this
  · exact (Wh.mul_step (x := x) (y := l2.getD j 0) (c := c) (o := l.getD (k + j) 0) hx hy h.car (Wh.getD_lt h.ok _)).1
theorem Rows2.last {w wr : World} {rb : Nat} {l1 l2 : List Nat} {k x c : Nat} {l : List Nat} (h : Rows2 w wr rb l1 l2 k x l2.length c l) (hk : k < l1.length) (hx : x = l1.getD k 0) :
    Rows1 w (wr.setCell ⟨rb, k + l2.length, none⟩ (.int .u32 c)) rb l1 l2 (k + 1) (l.set (k + l2.length) c) := by
  have hi : k + l2.length < l.length := by rw [h.len]; omega
  refine ⟨by rw [List.length_set]; exact h.len, Wh.ok_set h.ok h.car, h.own.set hi _, ?_, ?_, h.only.setCell _ _, h.rest.setCell (by rw [← h.len]; exact hi) _⟩
  · have hv := h.val
    rw [List.take_length] at hv
    rw [Wh.mul_row_end hi (h.zero _ (Nat.le_refl _)) hv, Wh.take_snoc l1 k hk, Wh.val_snoc, List.length_take, Nat.min_eq_left (by omega), Nat.add_mul, ← hx, Nat.mul_assoc]
  · intro i hi'
    have hne : k + l2.length ≠ i := by omega
    have := h.zero i (by omega)
    simp only [List.getD] at this ⊢
    rw [List.getElem?_set_ne hne]; exact this
end Go.Proofs.YteggbenhffmijaaGreatDoor

/- WALKS, part 14: addProduct, the walk. -/
namespace Go.Proofs.YteggbenhffmijaaGreatDoor
open Go.RowKit
theorem prod_bound {x y : Nat} (hx : x < 1000000000) (hy : y < 1000000000) : 0 ≤ (x : Int) * (y : Int) ∧ (x : Int) * (y : Int) ≤ 999999998000000001 := by
  have : x * y ≤ 999999999 * 999999999 := Nat.mul_le_mul (by omega) (by omega)
  rw [← Int.natCast_mul]; omega
theorem cast_div (x y o c : Nat) : ((x : Int) * (y : Int) + (o : Int) + (c : Int)) / 1000000000 = (((x * y + o + c) / 1000000000 : Nat) : Int) := by
  rw [← Int.natCast_mul, ← Int.natCast_add, ← Int.natCast_add]; rfl
theorem cast_mod (x y o c : Nat) : ((x : Int) * (y : Int) + (o : Int) + (c : Int)) % 1000000000 = (((x * y + o + c) % 1000000000 : Nat) : Int) := by
  rw [← Int.natCast_mul, ← Int.natCast_add, ← Int.natCast_add]; rfl
set_option maxRecDepth 100000 in
set_option maxHeartbeats 1000000 in
theorem addProduct_any (w : World) (rb cap : Nat) (v1 v2 : Value) (l1 l2 : List Nat) (h1 : Sl w v1 l1) (h2 : Sl w v2 l2) (ha1 : Apart rb v1) (ha2 : Apart rb v2) (ho1 : Wh.Ok l1) (ho2 : Wh.Ok l2)
    (hown : Own w rb (List.replicate (l1.length + l2.length) 0)) (hcap : l1.length + l2.length ≤ cap) (hm : cap ≤ 100000) :
    Calls Tryz.prog 284 #[.slice (some ⟨rb, 0, none⟩) (l1.length + l2.length) cap, v1, v2] w fun e w' => e = .returned (.tuple #[]) ∧ ∃ l, Rows1 w w' rb l1 l2 l1.length l := by
  obtain ⟨a1, c1, rfl, hc1⟩ := h1.addr2 ha1
  obtain ⟨a2, c2, rfl, hc2⟩ := h2.addr2 ha2
  clear h1 h2 ha1 ha2
  have HC1 := Lib.hid hc1; clear hc1
  have HC2 := Lib.hid hc2; clear hc2
  have HO1 := Lib.hid ho1; clear ho1
  have HO2 := Lib.hid ho2; clear ho2
  have HR := Lib.hid (Rows1.begin hown); clear hown
  generalize hn1 : l1.length = n1 at *
  generalize hn2 : l2.length = n2 at *
  have HN1 := Lib.hid hn1; clear hn1
  have HN2 := Lib.hid hn2; clear hn2
  go_enter Tryz.func284, Tryz.ntmps284
  go_wp2_with fail
  go_loopw [15] (fun i wr => ∃ k : Nat, ∃ l : List Nat, k ≤ n1 ∧ i = .int .i64 k ∧ Hid (Rows1 w wr rb l1 l2 k l)) (fun i _ => n1 - (intOf i).toNat)
  case atStart => exact ⟨0, _, Nat.zero_le _, rfl, HR⟩
  case round =>
    obtain ⟨k, l, hk, rfl, HL⟩ := hrel
    by_cases hlt : k < n1
    · obtain ⟨b1, off1, rfl, hne1, hbl1, hcell1⟩ := HC1.out k hlt
      have hcx := (HL.out.only.cell (p := ⟨b1, off1 + k, none⟩) hne1 hbl1).trans (hcell1 k hlt)
      clear hcell1
      have hx := Wh.getD_lt HO1.out k
      rw [Wh.R_eq] at hx
      generalize hxx : l1.getD k 0 = x at *
      have HX := Lib.hid hxx; clear hxx
      go_wp2_with fail
      rw [show k + n2 + 1 - k = n2 + 1 from by omega]
      have HB := Lib.hid (HL.out.row x)
      obtain ⟨wo, hwo⟩ : ∃ wo : World, wo = wr := ⟨_, rfl⟩
      subst hwo
      go_loopw [9, 35] (fun c i wi => ∃ j cc : Nat, ∃ l' : List Nat, j ≤ n2 ∧ i = .int .i64 j ∧ c = .int .u64 cc ∧ cc < 1000000000 ∧ Hid (Rows2 w wi rb l1 l2 k x j cc l')) (fun _ i _ => n2 - (intOf i).toNat)
      case atStart => exact ⟨0, 0, _, Nat.zero_le _, rfl, rfl, by decide, HB⟩
      case round =>
        obtain ⟨j, cc, l', hj, rfl, rfl, hcc, HI⟩ := hrel
        by_cases hlt2 : j < n2
        · obtain ⟨b2, off2, rfl, hne2, hbl2, hcell2⟩ := HC2.out j hlt2
          have hcy := (HI.out.only.cell (p := ⟨b2, off2 + j, none⟩) hne2 hbl2).trans (hcell2 j hlt2)
          clear hcell2
          have hlen := HI.out.len
          rw [HN1.out, HN2.out] at hlen
          have hro := HI.out.own.cell (k + j) (by omega)
          have hrf := HI.out.own.free (k + j) (by omega)
          have hy := Wh.getD_lt HO2.out j
          have ho := Wh.getD_lt HI.out.ok (k + j)
          rw [Wh.R_eq] at hy ho
          have HS := Lib.hid (HI.out.step (by rw [HN1.out]; exact hlt) (by rw [HN2.out]; exact hlt2) hx hy)
          have hdv : (x * l2.getD j 0 + l'.getD (k + j) 0 + cc) / 1000000000 < 1000000000 := HS.out.car
          generalize l2.getD j 0 = y at *
          generalize l'.getD (k + j) 0 = o at *
          obtain ⟨hp0, hp1⟩ := prod_bound hx hy
          have HDV := Lib.hid hdv; clear hdv hlen
          go_wp2
          go_roundw
          case rel => exact ⟨j + 1, _, _, by omega, by go_num, by rw [cast_div], HDV.out, by rw [cast_mod]; exact HS⟩
          case measure => simp [intOf]; omega
        · obtain rfl : j = n2 := by omega
          have hlen := HI.out.len
          rw [HN1.out, HN2.out] at hlen
          have hro := HI.out.own.cell (k + j) (by omega)
          have hrf := HI.out.own.free (k + j) (by omega)
          have HI2 : Rows2 w wr rb l1 l2 k x l2.length cc l' := by rw [HN2.out]; exact HI.out
          have hlast := HI2.last (by rw [HN1.out]; exact hlt) HX.out.symm
          rw [HN2.out] at hlast
          have HS := Lib.hid hlast; clear hlast HI2
          generalize l'.getD (k + j) 0 = o at *
          clear hlen
          go_wp2
          go_roundw
          case rel => exact ⟨k + 1, _, by omega, by go_num, HS⟩
          case measure => simp [intOf]; omega
    · obtain rfl : k = n1 := by omega
      go_wp2
      go_end0
      exact ⟨rfl, l, HL.out⟩
end Go.Proofs.YteggbenhffmijaaGreatDoor

/- WALKS, part 15: multiply. -/
namespace Go.Proofs.YteggbenhffmijaaGreatDoor
open Go.RowKit
/-- a slice whose memory may be used again: none, or a block of its own from the head on -/
def Room (w : World) (v : Value) : Prop := v = .slice none 0 0 ∨ ∃ rb n : Nat, ∃ l : List Nat, v = .slice (some ⟨rb, 0, none⟩) n l.length ∧ n ≤ l.length ∧ l.length ≤ 100000 ∧ Own w rb l
theorem only_setCells (b : Nat) : ∀ (vs : List Value) (o : Nat) (w : World), Only b w (w.setCells b o vs)
  | [], _, w => Only.refl b w
  | v :: r, o, w => by rw [World.setCells]; exact (((Only.refl b w).setCell o v)).trans (only_setCells b r (o + 1) _)
theorem own_cleared {w : World} {b : Nat} {l : List Nat} (h : Own w b l) {n : Nat} (hn : n ≤ l.length) : Own (w.setCells b 0 (List.replicate n (.int .u32 0))) b (List.replicate n 0) := by
  have hin := World.cell?_setCells_in b (List.replicate n (.int .u32 0)) 0 w (fun j hj => by
    rw [List.length_replicate] at hj
    rw [Nat.zero_add, h.cell j (by omega)]; rfl)
  refine ⟨Nat.lt_of_lt_of_le h.lt (only_setCells b _ _ _).size, fun i hi => ?_, fun i hi => ?_⟩
  · rw [List.length_replicate] at hi
    have := hin i (by simpa using hi)
    rw [Nat.zero_add] at this
    rw [this]; simp [List.getD, hi]
  · rw [List.length_replicate] at hi
    rw [World.frozen?_setCells]; exact h.free i (by omega)
theorem zero_limb (w : World) : (zeroValue 181).run Tryz.prog w = .ok (.int .u32 0) w := by kernel_rfl
theorem run_clear_own {w : World} {b : Nat} {l : List Nat} (h : Own w b l) (n c : Nat) (hn : n ≤ l.length) (ty : TypeId) :
    (Builtin.clear_ #[90] ty #[.slice (some ⟨b, 0, none⟩) n c]).run Tryz.prog w = .ok (.tuple #[]) (w.setCells b 0 (List.replicate n (.int .u32 0))) := by
  rcases Nat.eq_zero_or_pos n with rfl | h0
  · kernel_rfl
  · exact Lib.run_clear_slice (P := Tryz.prog) w 90 181 ty (.int .u32 0) Tryz.underlying90 zero_limb rfl rfl b 0 n c h0 (fun j hj => by rw [Nat.zero_add, h.cell j (by omega)]; rfl) (fun j hj => by rw [Nat.zero_add]; exact h.free j (by omega))
set_option maxRecDepth 100000 in
set_option maxHeartbeats 1000000 in
theorem multiply_make (w : World) (a0 : Option Addr) (n0 c0 : Nat) (v1 v2 : Value) (l1 l2 : List Nat) (h1 : Sl w v1 l1) (h2 : Sl w v2 l2) (ho1 : Wh.Ok l1) (ho2 : Wh.Ok l2)
    (hsz : c0 < l1.length + l2.length) (hm : l1.length + l2.length ≤ 100000) (hmin : l1.length < 32 ∨ l2.length < 32) :
    Calls Tryz.prog 245 #[.slice a0 n0 c0, v1, v2] w fun e w' => (∃ v', e = .returned v' ∧ Sl w' v' (Wh.limbs (Wh.val l1 * Wh.val l2)) ∧ Small v' ∧ Room w' v') ∧ Below w.heap.size w w' := by
  obtain ⟨a1, c1, rfl⟩ := h1.len
  obtain ⟨a2, c2, rfl⟩ := h2.len
  have H1 := Lib.hid h1; clear h1
  have H2 := Lib.hid h2; clear h2
  have HO1 := Lib.hid ho1; clear ho1
  have HO2 := Lib.hid ho2; clear ho2
  generalize hn1 : l1.length = n1 at *
  generalize hn2 : l2.length = n2 at *
  have HN1 := Lib.hid hn1; clear hn1
  have HN2 := Lib.hid hn2; clear hn2
  have hmk := run_make_limbs (n1 + n2) hm w ((n1 : Int) + n2) (by omega)
  have hclr := run_clear_own (own_make w (n1 + n2)) (n1 + n2) (n1 + n2) (by simp)
  have hcl : Own ((w.alloc (.cells (zeros (n1 + n2)) 181)).setCells w.heap.size 0 (List.replicate (n1 + n2) (.int .u32 0))) w.heap.size (List.replicate (n1 + n2) 0) := own_cleared (own_make w (n1 + n2)) (by simp)
  have HCL := Lib.hid hcl; clear hcl
  have hbw : Below w.heap.size w ((w.alloc (.cells (zeros (n1 + n2)) 181)).setCells w.heap.size 0 (List.replicate (n1 + n2) (.int .u32 0))) := ((Below.refl _ _).alloc (Nat.le_refl _) _).trans ((only_setCells _ _ _ _).below (Nat.le_refl _) (by simp))
  have HBW := Lib.hid hbw; clear hbw
  by_cases hmm : n2 < n1
  all_goals
    go_enter Tryz.func245, Tryz.ntmps245
    go_wp2_with fail
    generalize (w.alloc (Obj.cells (zeros (n1 + n2)) 181)).setCells w.heap.size 0 (List.replicate (n1 + n2) (Value.int IntKind.u32 0)) = W at HCL HBW ⊢
    have hap := addProduct_any W w.heap.size (n1 + n2) _ _ l1 l2 (H1.out.mono HBW.out) (H2.out.mono HBW.out) (apart_of_sl H1.out (Nat.le_refl _)) (apart_of_sl H2.out (Nat.le_refl _)) HO1.out HO2.out (by rw [HN1.out, HN2.out]; exact HCL.out) (by rw [HN1.out, HN2.out]; exact Nat.le_refl _) hm
    rw [HN1.out, HN2.out] at hap
    refine hap.mono ?_
    rintro e w1 ⟨rfl, l, HL⟩
    clear hap hclr hmk
    have hb1 : Below w.heap.size w w1 := HBW.out.trans (HL.only.below (Nat.le_refl _) HBW.out.size)
    have hlen := HL.len
    rw [HN1.out, HN2.out] at hlen
    have hval := HL.val
    rw [← HN1.out, List.take_length] at hval
    have hok := HL.ok
    have hown := HL.own
    clear HL
    have hsl := hown.sl (n1 + n2) (by omega)
    rw [hlen] at hsl
    have HVAL := Lib.hid hval; clear hval
    have HLEN := Lib.hid hlen; clear hlen
    have HOWN := Lib.hid hown; clear hown
    go_wp2_with fail
    refine (trim_same _ _ _ _ l hok hsl hm).mono ?_
    rintro e w' ⟨rfl, hv, rfl⟩
    have htl : (Wh.trimL l).length ≤ l.length := Wh.trimL_length hok
    have hroom : Room w1 (.slice (some ⟨w.heap.size, 0, none⟩) (Wh.trimL l).length (n1 + n2)) := .inr ⟨_, _, l, by rw [HLEN.out], htl, by rw [HLEN.out]; exact hm, HOWN.out⟩
    have hT : Wh.trimL l = Wh.limbs (Wh.val l1 * Wh.val l2) := by unfold Wh.trimL; rw [HVAL.out]
    rw [hT] at hv hroom ⊢
    clear hT
    have HV := Lib.hid hv; clear hv hsl
    have HROOM := Lib.hid hroom; clear hroom htl
    go_wp2
    go_ret
    exact ⟨⟨_, rfl, HV.out, by intro a n c h; cases h; exact hm, HROOM.out⟩, hb1⟩
end Go.Proofs.YteggbenhffmijaaGreatDoor

/- WALKS, part 16: multiply in memory that is used again (made by tools/gen_mul.py), and of nothing. -/
namespace Go.Proofs.YteggbenhffmijaaGreatDoor
open Go.RowKit
theorem rest_setCells (b n : Nat) (w : World) : Rest b n w (w.setCells b 0 (List.replicate n (.int .u32 0))) := fun i hi =>
  ⟨World.cell?_setCells_out b _ 0 w ⟨b, i, none⟩ (fun _ _ => .inr (by simpa using hi)), World.frozen?_setCells b _ 0 w _⟩
theorem own_join {w W w1 : World} {rb n : Nat} {l lr : List Nat} (h : Own w1 rb l) (hl : l.length = n) (hr : Rest rb n W w1) (hW : Rest rb n w W) (ho : Own w rb lr) : Own w1 rb (l ++ lr.drop n) := by
  refine ⟨h.lt, fun i hi => ?_, fun i hi => ?_⟩
  · rw [List.length_append, List.length_drop] at hi
    by_cases hin : i < n
    · rw [h.cell i (by omega)]
      simp [List.getD, List.getElem?_append, hl, hin]
    · rw [(hr i (by omega)).1, (hW i (by omega)).1, ho.cell i (by omega)]
      have e : n + (i - n) = i := by omega
      simp [List.getD, List.getElem?_append, hl, hin, List.getElem?_drop, e]
  · rw [List.length_append, List.length_drop] at hi
    by_cases hin : i < n
    · exact h.free i (by omega)
    · rw [(hr i (by omega)).2, (hW i (by omega)).2]; exact ho.free i (by omega)
end Go.Proofs.YteggbenhffmijaaGreatDoor

/- WALKS, part 17: multiply of nothing; multiply in all ways. -/
namespace Go.Proofs.YteggbenhffmijaaGreatDoor
open Go.RowKit
set_option maxHeartbeats 400000 in
theorem addProduct_nil (w : World) (a1 : Option Addr) (c1 : Nat) (v2 : Value) :
    Calls Tryz.prog 284 #[.slice none 0 0, .slice a1 0 c1, v2] w fun e w' => e = .returned (.tuple #[]) ∧ w = w' := by
  go_enter Tryz.func284, Tryz.ntmps284
  go_wp2_with fail
  go_loop [15] (fun i => i = .int .i64 0) (fun _ => 0)
  case atStart => rfl
  case round =>
    subst hrel
    go_wp2
    go_end0
    exact ⟨rfl, rfl⟩
theorem clear_nil (w : World) (ty : TypeId) (c : Nat) : (Builtin.clear_ #[90] ty #[.slice none 0 c]).run Tryz.prog w = .ok (.tuple #[]) w := by kernel_rfl
set_option maxHeartbeats 400000 in
theorem multiply_nil (w : World) (a1 a2 : Option Addr) (c1 c2 : Nat) :
    Calls Tryz.prog 245 #[.slice none 0 0, .slice a1 0 c1, .slice a2 0 c2] w fun e w' => e = .returned (.slice none 0 0) ∧ w = w' := by
  have hclr := clear_nil
  go_enter Tryz.func245, Tryz.ntmps245
  go_wp2_with fail
  refine (addProduct_nil _ _ _ _).mono ?_
  rintro e w' ⟨rfl, rfl⟩
  go_wp2_with fail
  refine (trim_nil _).mono ?_
  rintro e w' ⟨rfl, rfl⟩
  go_wp2
  go_ret
  exact ⟨rfl, rfl⟩
/-- multiply in new memory -/
theorem multiply_new (w : World) (v1 v2 : Value) (a b : Nat) (h1 : Sl w v1 (Wh.limbs a)) (h2 : Sl w v2 (Wh.limbs b))
    (hm : (Wh.limbs a).length + (Wh.limbs b).length ≤ 100000) (hmin : (Wh.limbs a).length < 32 ∨ (Wh.limbs b).length < 32) :
    Calls Tryz.prog 245 #[.slice none 0 0, v1, v2] w fun e w' => (∃ v', e = .returned v' ∧ Sl w' v' (Wh.limbs (a * b)) ∧ Small v' ∧ Room w' v') ∧ Below w.heap.size w w' := by
  by_cases h0 : 0 < (Wh.limbs a).length + (Wh.limbs b).length
  · have := multiply_make w none 0 0 v1 v2 _ _ h1 h2 (Wh.ok_limbs a) (Wh.ok_limbs b) h0 hm hmin
    rw [Wh.val_limbs, Wh.val_limbs] at this
    exact this
  · have ha : Wh.limbs a = [] := List.eq_nil_of_length_eq_zero (by omega)
    have hb : Wh.limbs b = [] := List.eq_nil_of_length_eq_zero (by omega)
    obtain ⟨a1, c1, rfl⟩ := h1.len
    obtain ⟨a2, c2, rfl⟩ := h2.len
    rw [ha, hb]
    refine (multiply_nil w a1 a2 c1 c2).mono ?_
    rintro e w' ⟨rfl, rfl⟩
    rw [Wh.limbs_nil.1 ha, Nat.zero_mul, Wh.limbs_zero]
    exact ⟨⟨_, rfl, .inl ⟨rfl, rfl⟩, small_nil, .inl rfl⟩, Below.refl _ _⟩
end Go.Proofs.YteggbenhffmijaaGreatDoor

/- WALKS, part 18: product of two numbers. -/
namespace Go.Proofs.YteggbenhffmijaaGreatDoor
open Go.RowKit
/-- two cells that hold a number at work -/
structure Holds (w : World) (b o : Nat) (s : Int) (a : Option Addr) (n c : Nat) (x : Int) : Prop where
  c0 : w.cell? ⟨b, o, none⟩ = some (.int .i64 s)
  c1 : w.cell? ⟨b, o + 1, none⟩ = some (.slice a n c)
  sg : s = Int.sign x
  sl : Sl w (.slice a n c) (Wh.limbs x.natAbs)
theorem Holds.mono {w w' : World} {b o : Nat} {s : Int} {a : Option Addr} {n c : Nat} {x : Int} (h : Holds w b o s a n c x) (hb : b < w.heap.size) (hw : Below w.heap.size w w') : Holds w' b o s a n c x :=
  ⟨(hw.cell (p := ⟨b, o, none⟩) hb).trans h.c0, (hw.cell (p := ⟨b, o + 1, none⟩) hb).trans h.c1, h.sg, h.sl.mono hw⟩
def part (x y : Int) : Nat → Int
  | 0 => x
  | _ => x * y
theorem part_step (x y : Int) {k : Nat} (h : k < 1) : part x y (k + 1) = part x y k * y := by
  obtain rfl : k = 0 := by omega
  simp [part]
/-- what holds at the head of round k of Times: block R holds the product so far, the next one is the result's -/
structure PInv (w wr : World) (R : Nat) (x y : Int) (k : Nat) : Prop where
  held : ∃ a n c, Holds wr R 0 (Int.sign (part x y k)) a n c (part x y k)
  f0 : wr.frozen? ⟨R, 0, none⟩ = false
  f1 : wr.frozen? ⟨R, 1, none⟩ = false
  r0 : wr.cell? ⟨R + 1, 0, none⟩ = some (.int .i64 0)
  r1 : wr.cell? ⟨R + 1, 1, none⟩ = some (.slice none 0 0)
  g0 : wr.frozen? ⟨R + 1, 0, none⟩ = false
  g1 : wr.frozen? ⟨R + 1, 1, none⟩ = false
  below : Below w.heap.size w wr
  lt : R + 1 < wr.heap.size
  ge : w.heap.size ≤ R
theorem PInv.begin {w : World} {x y : Int} {xa : Option Addr} {n xc : Nat} (h : Sl w (.slice xa n xc) (Wh.limbs x.natAbs)) :
    PInv w ((w.alloc (.cells #[.int .i64 (Int.sign x), .slice xa n xc] 92)).alloc (.cells #[.int .i64 0, .slice none 0 0] 92)) w.heap.size x y 0 := by
  have al : Below w.heap.size w ((w.alloc (.cells #[.int .i64 (Int.sign x), .slice xa n xc] 92)).alloc (.cells #[.int .i64 0, .slice none 0 0] 92)) := ((Below.refl _ _).alloc (Nat.le_refl _) _).alloc (by simp) _
  exact ⟨⟨xa, n, xc, by go_simp; rfl, by go_simp, rfl, h.mono al⟩, by go_simp, by go_simp, by go_simp, by go_simp, by go_simp, by go_simp, al, by simp, Nat.le_refl _⟩
/-- the world in a round: block R has the product so far, block F the factor -/
structure PReg (w W : World) (R F : Nat) (a0 a1 b0 b1 : Value) : Prop where
  a0 : W.cell? ⟨R, 0, none⟩ = some a0
  a1 : W.cell? ⟨R, 1, none⟩ = some a1
  b0 : W.cell? ⟨F, 0, none⟩ = some b0
  b1 : W.cell? ⟨F, 1, none⟩ = some b1
  f0 : W.frozen? ⟨R, 0, none⟩ = false
  f1 : W.frozen? ⟨R, 1, none⟩ = false
  r0 : W.cell? ⟨R + 1, 0, none⟩ = some (.int .i64 0)
  r1 : W.cell? ⟨R + 1, 1, none⟩ = some (.slice none 0 0)
  g0 : W.frozen? ⟨R + 1, 0, none⟩ = false
  g1 : W.frozen? ⟨R + 1, 1, none⟩ = false
  below : Below w.heap.size w W
  ge : w.heap.size ≤ R
  lt : R + 1 < F
  lf : F < W.heap.size
theorem PReg.mono {w W W' : World} {R F : Nat} {a0 a1 b0 b1 : Value} (h : PReg w W R F a0 a1 b0 b1) (hb : Below W.heap.size W W') : PReg w W' R F a0 a1 b0 b1 := by
  have h1 := h.ge; have h2 := h.lt; have h3 := h.lf
  exact ⟨(hb.cell (p := ⟨R, 0, none⟩) (by show R < _; omega)).trans h.a0, (hb.cell (p := ⟨R, 1, none⟩) (by show R < _; omega)).trans h.a1, (hb.cell (p := ⟨F, 0, none⟩) h.lf).trans h.b0, (hb.cell (p := ⟨F, 1, none⟩) h.lf).trans h.b1,
    (hb.frozen (p := ⟨R, 0, none⟩) (by show R < _; omega)).trans h.f0, (hb.frozen (p := ⟨R, 1, none⟩) (by show R < _; omega)).trans h.f1, (hb.cell (p := ⟨R + 1, 0, none⟩) (by show R + 1 < _; omega)).trans h.r0, (hb.cell (p := ⟨R + 1, 1, none⟩) (by show R + 1 < _; omega)).trans h.r1,
    (hb.frozen (p := ⟨R + 1, 0, none⟩) (by show R + 1 < _; omega)).trans h.g0, (hb.frozen (p := ⟨R + 1, 1, none⟩) (by show R + 1 < _; omega)).trans h.g1, h.below.trans (hb.mono h.below.size), h.ge, h.lt, Nat.lt_of_lt_of_le h.lf hb.size⟩
theorem PReg.keep {w W : World} {R F : Nat} {a0 a1 b0 b1 : Value} (h : PReg w W R F a0 a1 b0 b1) : W.cell? ⟨R, 0, none⟩ = some a0 ∧ W.cell? ⟨R, 1, none⟩ = some a1 ∧ W.cell? ⟨F, 0, none⟩ = some b0 ∧ W.cell? ⟨F, 1, none⟩ = some b1 := ⟨h.a0, h.a1, h.b0, h.b1⟩
theorem PInv.reg {w wr : World} {R k : Nat} {x y : Int} {a : Option Addr} {n c : Nat} {es : Int} {ea : Option Addr} {en ec : Nat} (h : PInv w wr R x y k) (hh : Holds wr R 0 (Int.sign (part x y k)) a n c (part x y k)) :
    PReg w (wr.alloc (.cells #[.int .i64 es, .slice ea en ec] 92)) R wr.heap.size (.int .i64 (Int.sign (part x y k))) (.slice a n c) (.int .i64 es) (.slice ea en ec) := by
  have al : Below wr.heap.size wr (wr.alloc (.cells #[.int .i64 es, .slice ea en ec] 92)) := (Below.refl _ _).alloc (Nat.le_refl _) _
  have h1 := h.ge; have h2 := h.lt
  exact ⟨(al.cell (p := ⟨R, 0, none⟩) (by show R < _; omega)).trans hh.c0, (al.cell (p := ⟨R, 1, none⟩) (by show R < _; omega)).trans hh.c1, by go_simp, by go_simp, (al.frozen (p := ⟨R, 0, none⟩) (by show R < _; omega)).trans h.f0, (al.frozen (p := ⟨R, 1, none⟩) (by show R < _; omega)).trans h.f1,
    (al.cell (p := ⟨R + 1, 0, none⟩) h.lt).trans h.r0, (al.cell (p := ⟨R + 1, 1, none⟩) h.lt).trans h.r1, (al.frozen (p := ⟨R + 1, 0, none⟩) h.lt).trans h.g0, (al.frozen (p := ⟨R + 1, 1, none⟩) h.lt).trans h.g1,
    h.below.trans (al.mono (by omega)), h.ge, h.lt, by simp⟩
/-- the store of the new product -/
theorem PReg.store {w W : World} {R F k : Nat} {a1 b0 b1 : Value} {x y : Int} {s0 : Int} (h : PReg w W R F (.int .i64 s0) a1 b0 b1) (ha : ∃ p n c, a1 = .slice p n c) {p : Option Addr} {n c : Nat} (hs : Sl W (.slice p n c) (Wh.limbs (part x y k).natAbs)) :
    PInv w ((W.setCell ⟨R, 0, none⟩ (.int .i64 (Int.sign (part x y k)))).setCell ⟨R, 1, none⟩ (.slice p n c)) R x y k := by
  obtain ⟨t0, t1⟩ := two_cells W R (.int .i64 (Int.sign (part x y k))) (.slice p n c) h.a0 h.a1
  have hg := h.ge
  obtain ⟨p', n', c', ha⟩ := ha
  refine ⟨⟨p, n, c, t0, t1, rfl, ?_⟩, ?_, ?_, far1 h.r0 (by omega), far1 h.r1 (by omega), ?_, ?_, (h.below.setCell (by show w.heap.size ≤ R; omega) _).setCell (by show w.heap.size ≤ R; omega) _, ?_, h.ge⟩
  · exact (hs.store _ h.a0 (by intro n e; cases e) _).store _ (u := a1) (by rw [World.cell?_setCell_other _ _ _ _ (by intro e; have := congrArg Addr.off e; simp at this)]; exact h.a1) (by rw [ha]; intro n e; cases e) _
  · rw [World.frozen?_setCell, World.frozen?_setCell]; exact h.f0
  · rw [World.frozen?_setCell, World.frozen?_setCell]; exact h.f1
  · rw [World.frozen?_setCell, World.frozen?_setCell]; exact h.g0
  · rw [World.frozen?_setCell, World.frozen?_setCell]; exact h.g1
  · have := h.lt; have := h.lf; simp; omega
theorem limbs_one : (Wh.limbs 1).length = 1 := by
  have : Wh.limbs 1 = [1] := by rw [Wh.limbs_pos (by decide)]; simp [Wh.R, Wh.limbs_zero]
  rw [this]; rfl
theorem sign_prod (a b : Int) (s : Int) (hs : s = Int.sign b) : Int.sign a * s * ((Wh.val (Wh.limbs (a.natAbs * b.natAbs)) : Nat) : Int) = a * b := by
  rw [Wh.val_limbs, hs, Int.natCast_mul]
  have h1 := Int.sign_mul_natAbs a
  have h2 := Int.sign_mul_natAbs b
  calc Int.sign a * Int.sign b * ((a.natAbs : Int) * (b.natAbs : Int)) = (Int.sign a * (a.natAbs : Int)) * (Int.sign b * (b.natAbs : Int)) := by
        rw [Int.mul_assoc, Int.mul_assoc, ← Int.mul_assoc (Int.sign b), Int.mul_comm (Int.sign b) (a.natAbs : Int), Int.mul_assoc]
    _ = a * b := by rw [h1, h2]
theorem sign_cases3 (a b : Int) (s : Int) (hs : s = Int.sign b) : Int.sign a * s = -1 ∨ Int.sign a * s = 1 ∨ a.natAbs * b.natAbs = 0 := by
  subst hs
  rcases sign_lt a with ⟨h, e⟩ | ⟨h, e⟩ | ⟨h, e⟩
  · rcases sign_lt b with ⟨k, f⟩ | ⟨k, f⟩ | ⟨k, f⟩
    · exact .inr (.inl (by rw [e, f]; rfl))
    · exact .inr (.inr (by rw [k]; simp))
    · exact .inl (by rw [e, f]; rfl)
  · exact .inr (.inr (by rw [h]; simp))
  · rcases sign_lt b with ⟨k, f⟩ | ⟨k, f⟩ | ⟨k, f⟩
    · exact .inl (by rw [e, f]; rfl)
    · exact .inr (.inr (by rw [k]; simp))
    · exact .inr (.inl (by rw [e, f]; rfl))
theorem with_still (s t : Int) (hs : -1 ≤ s ∧ s ≤ 1) (ht : -1 ≤ t ∧ t ≤ 1) (w : World) :
    Calls Tryz.prog 242 #[.int .i64 s, .int .i64 t] w fun e w' => e = .returned (.int .i64 (s * t)) ∧ w' = w :=
  (with_any s t hs ht w).mono fun _ _ h => ⟨h.1, h.2.symm⟩
set_option maxRecDepth 100000 in
set_option maxHeartbeats 1000000 in
theorem product_any (w : World) (ab : Nat) (x y : Int) (hab : ab < w.heap.size) (v1 : Value) (hv : Num w v1 x) (es : Int) (ea : Option Addr) (en ec : Nat) (h : Holds w ab 0 es ea en ec y)
    (hx : (Wh.limbs x.natAbs).length ≤ 2000) (hy : (Wh.limbs y.natAbs).length ≤ 2000) (hmin : (Wh.limbs x.natAbs).length < 32 ∨ (Wh.limbs y.natAbs).length < 32) :
    Calls Tryz.prog 168 #[v1, .slice (some ⟨ab, 0, none⟩) 1 1] w fun e w' => (∃ v', e = .returned v' ∧ Num w' v' (x * y)) ∧ Below w.heap.size w w' := by
  have H := Lib.hid h; clear h
  obtain ⟨sl0, rfl, hsl0⟩ := hv
  obtain ⟨xa0, xc0, rfl⟩ := hsl0.len
  have HP := Lib.hid (PInv.begin (x := x) (y := y) hsl0)
  have hzz : (Wh.limbs x.natAbs).length + (Wh.limbs y.natAbs).length ≤ 100000 := by omega
  clear hx hy
  generalize (Wh.limbs x.natAbs).length = xn0 at HP ⊢
  have HZ := Lib.hid (And.intro hzz hmin); clear hzz hmin
  go_enter Tryz.func168, Tryz.ntmps168
  go_wp2_with fail
  go_loopw [9] (fun i wr => ∃ k : Nat, k ≤ 1 ∧ i = .int .i64 k ∧ Hid (PInv w wr w.heap.size x y k)) (fun i _ => 1 - (intOf i).toNat)
  case atStart => exact ⟨0, by omega, rfl, HP⟩
  case round =>
    clear HP hsl0
    obtain ⟨R, hR⟩ : ∃ R, R = w.heap.size := ⟨_, rfl⟩
    rw [← hR] at hrel ⊢
    have HRR := Lib.hid hR
    have hRle : w.heap.size ≤ R := by omega
    clear hR
    obtain ⟨k, hk, rfl, HI⟩ := hrel
    by_cases hlt : k < 1
    · have he := H.out.mono hab HI.out.below
      obtain ⟨pa, pn, pc, hp⟩ := HI.out.held
      have ec0 := he.c0
      have ec1 := he.c1
      have hreg := HI.out.reg (es := es) (ea := ea) (en := en) (ec := ec) hp
      obtain ⟨hz1, hz2⟩ := HZ.out
      have hps := part_step x y hlt
      have hk0 : part x y k = x := by obtain rfl : k = 0 := by omega
                                      rfl
      rw [← hk0] at hz1 hz2
      clear hk0
      have hsl1 := hp.sl
      have hsl2 := he.sl
      have hsg := he.sg
      have hes : -1 ≤ es ∧ es ≤ 1 := by rw [hsg]; exact sign_range _
      have HX := Lib.hid ((sign_prod (part x y k) y es hsg).trans hps.symm)
      have HSC := Lib.hid (sign_cases3 (part x y k) y es hsg)
      have HSG := Lib.hid hsg
      have al : Below wr.heap.size wr (wr.alloc (.cells #[.int .i64 es, .slice ea en ec] 92)) := (Below.refl _ _).alloc (Nat.le_refl _) _
      have HS1 := Lib.hid (hsl1.mono al)
      have HS2 := Lib.hid (hsl2.mono al)
      clear hsg hps hsl1 hsl2 hp he HI
      generalize hpk : part x y k = pk at *
      have HPK := Lib.hid hpk; clear hpk
      obtain rfl : k = 0 := by omega
      go_wp2_with fail
      clear ec0 ec1 al
      generalize wr.alloc (Obj.cells #[Value.int IntKind.i64 es, Value.slice ea en ec] 92) = W at HS1 HS2 hreg ⊢
      generalize wr.heap.size = F at hreg ⊢
      have la0 := hreg.a0
      have la1 := hreg.a1
      have lb0 := hreg.b0
      have lb1 := hreg.b1
      have hRF := hreg.lt
      refine wp_region_still_tail 9 (by kernel_rfl) (by kernel_rfl) ?_
      simp only [List.take_succ_cons, List.take_zero, List.drop_succ_cons, List.drop_zero]
      repeat still_step
      still_call (with_still _ _ (sign_range _) hes _)
      repeat still_step
      refine wpStill_nil ?_
      change wpList _ _ _ _ _ W.drew
      go_wp2_with fail
      have hreg2 := hreg.mono (drew_left (Below.refl W.drew.heap.size W.drew))
      refine (multiply_new _ _ _ pk.natAbs y.natAbs (HS1.out.mono (Below.refl _ _).drew) (HS2.out.mono (Below.refl _ _).drew) hz1 hz2).mono ?_
      rintro e w2 ⟨⟨v2, rfl, hm2, hsm2, -⟩, hb2⟩
      go_wp2_with fail
      refine (signed_any _ _ _ _ (Wh.ok_limbs _) hm2 hsm2 (by rw [Wh.val_limbs]; exact HSC.out)).mono ?_
      rintro e w3 ⟨⟨v3, rfl, hn3⟩, hb3⟩
      rw [HX.out] at hn3
      obtain ⟨sl3, rfl, hsl3⟩ := hn3
      obtain ⟨xa3, xc3, rfl⟩ := hsl3.len
      have hr3 := hreg2.mono (hb2.trans (hb3.mono hb2.size))
      have HF := Lib.hid (hr3.store ⟨_, _, _, rfl⟩ hsl3)
      obtain ⟨k0, k1, kb0, kb1⟩ := hr3.keep
      have g0 := hr3.f0
      have g1 := hr3.f1
      clear hreg hreg2 hr3 hb2 hb3 hm2 hsm2 hsl3 la0 la1 lb0 lb1 kb0 kb1
      go_wp2
      go_roundw
      case rel => exact ⟨1, by omega, by go_num, HF⟩
      case measure => simp [intOf]
    · obtain rfl : k = 1 := by omega
      obtain ⟨pa, pn, pc, hp⟩ := HI.out.held
      have hr0 := HI.out.r0
      have hr1 := HI.out.r1
      have hg0 := HI.out.g0
      have hg1 := HI.out.g1
      have hc0 := hp.c0
      have hc1 := hp.c1
      have hbl := HI.out.below
      have hsl := hp.sl
      obtain ⟨t, ht⟩ : ∃ t : Int, t = x * y := ⟨_, rfl⟩
      have ept : part x y 1 = t := ht.symm
      rw [ept] at hc0 hsl
      have HT := Lib.hid ht
      clear ht ept hp HI
      go_wp2
      obtain ⟨t0, t1⟩ := two_cells wr (R + 1) (.int .i64 (Int.sign t)) (.slice pa pn pc) hr0 hr1
      exact bodyPost_ret (v := .agg #[.int .i64 (Int.sign t), .slice pa pn pc]) (by simp [results, Tryz.results168, go_sem, t0, t1]) rfl ⟨⟨_, rfl, by rw [← HT.out]; exact ⟨_, rfl, hsl.store2 _ hr0 hr1 _ _⟩⟩, (hbl.setCell (by show w.heap.size ≤ R + 1; omega) _).setCell (by show w.heap.size ≤ R + 1; omega) _⟩
end Go.Proofs.YteggbenhffmijaaGreatDoor

/- WALKS, strings 1: HasPrefix, CutPrefix at a minus sign. -/
namespace Go.Proofs.YteggbenhffmijaaGreatDoor
open Go.RowKit
/-- a list of bytes as a string -/
def str (l : List UInt8) : ByteArray := ⟨l.toArray⟩
theorem str_data (l : List UInt8) : (str l).data.toList = l := rfl
theorem str_size (l : List UInt8) : (str l).size = l.length := rfl
theorem eq_str {s : ByteArray} {l : List UInt8} (h : s.data.toList = l) : s = str l := by rw [← h, str, Lib.mk_data]
theorem str_tail (c : UInt8) (r : List UInt8) : (str (c :: r)).extract 1 (str (c :: r)).size = str r := eq_str (by rw [Lib.extract_to_end, str_data]; rfl)
set_option maxHeartbeats 400000 in
theorem hasPrefix_short (s : ByteArray) (h : s.size = 0) (w : World) :
    Calls Tryz.prog 179 #[.string s, .string ⟨#[45]⟩] w fun e w' => e = .returned (.bool false) ∧ w = w' := by
  have h' : s.size ≤ 0 := by omega
  clear h
  go_enter Tryz.func179, Tryz.ntmps179
  go_wp2
  go_ret
  exact ⟨rfl, rfl⟩
set_option maxHeartbeats 400000 in
theorem hasPrefix_some (s : ByteArray) (h : 1 ≤ s.size) (hm : s.size ≤ 100000) (w : World) :
    Calls Tryz.prog 179 #[.string s, .string ⟨#[45]⟩] w fun e w' => e = .returned (.bool ((s.extract 0 1).toList == [45])) ∧ w = w' := by
  go_enter Tryz.func179, Tryz.ntmps179
  go_wp2
  go_ret
  exact ⟨rfl, rfl⟩
theorem hasPrefix_list (l : List UInt8) (hm : l.length ≤ 100000) (w : World) :
    Calls Tryz.prog 179 #[.string (str l), .string ⟨#[45]⟩] w fun e w' => e = .returned (.bool (l.head? == some 45)) ∧ w = w' := by
  cases l with
  | nil => exact hasPrefix_short _ rfl w
  | cons c r =>
    have := hasPrefix_some (str (c :: r)) (by simp [str_size]) (by rw [str_size]; exact hm) w
    rw [Lib.extract_toList, str_data] at this
    simpa using this
set_option maxHeartbeats 400000 in
theorem cut_yes0 (r : List UInt8) (hm : r.length ≤ 90000) (w : World) :
    Calls Tryz.prog 254 #[.string (str (45 :: r)), .string ⟨#[45]⟩] w fun e w' => e = .returned (.tuple #[.string (str r), .bool true]) ∧ w = w' := by
  have hp := hasPrefix_list (45 :: r) (by simp; omega) w
  have ht := str_tail 45 r
  have hz1 : 1 ≤ (str (45 :: r)).size := by simp [str_size]
  have hz2 : (str (45 :: r)).size ≤ 100000 := by simp [str_size]; omega
  simp only [List.head?_cons, beq_self_eq_true] at hp
  generalize str (45 :: r) = s at *
  have HP := Lib.hid hp; clear hp
  have HT := Lib.hid ht; clear ht
  go_enter Tryz.func254, Tryz.ntmps254
  go_wp2_with fail
  refine HP.out.mono ?_
  rintro e w' ⟨rfl, rfl⟩
  go_wp2
  go_ret2
  exact ⟨by rw [← HT.out]; rfl, rfl⟩
set_option maxHeartbeats 400000 in
theorem cut_no0 (l : List UInt8) (hm : l.length ≤ 90000) (hh : l.head? ≠ some 45) (w : World) :
    Calls Tryz.prog 254 #[.string (str l), .string ⟨#[45]⟩] w fun e w' => e = .returned (.tuple #[.string (str l), .bool false]) ∧ w = w' := by
  have hp := hasPrefix_list l (by omega) w
  rw [show (l.head? == some 45) = false from beq_eq_false_iff_ne.2 hh] at hp
  have HP := Lib.hid hp; clear hp hh
  go_enter Tryz.func254, Tryz.ntmps254
  go_wp2_with fail
  refine HP.out.mono ?_
  rintro e w' ⟨rfl, rfl⟩
  go_wp2
  go_ret2
  exact ⟨rfl, rfl⟩
set_option maxHeartbeats 400000 in
theorem cut_yes (r : List UInt8) (hm : r.length ≤ 90000) (w : World) :
    Calls Tryz.prog 199 #[.string (str (45 :: r)), .string ⟨#[45]⟩] w fun e w' => e = .returned (.tuple #[.string (str r), .bool true]) ∧ w = w' := by
  have HP := Lib.hid (cut_yes0 r hm w)
  generalize str (45 :: r) = s at *
  go_enter Tryz.func199, Tryz.ntmps199
  go_wp2_with fail
  refine HP.out.mono ?_
  rintro e w' ⟨rfl, rfl⟩
  go_wp2
  go_ret2
  exact ⟨rfl, rfl⟩
set_option maxHeartbeats 400000 in
theorem cut_no (l : List UInt8) (hm : l.length ≤ 90000) (hh : l.head? ≠ some 45) (w : World) :
    Calls Tryz.prog 199 #[.string (str l), .string ⟨#[45]⟩] w fun e w' => e = .returned (.tuple #[.string (str l), .bool false]) ∧ w = w' := by
  have HP := Lib.hid (cut_no0 l hm hh w)
  clear hh
  go_enter Tryz.func199, Tryz.ntmps199
  go_wp2_with fail
  refine HP.out.mono ?_
  rintro e w' ⟨rfl, rfl⟩
  go_wp2
  go_ret2
  exact ⟨rfl, rfl⟩
end Go.Proofs.YteggbenhffmijaaGreatDoor

/- WALKS, strings 2: what a character is as a digit; split. -/
namespace Go.Proofs.YteggbenhffmijaaGreatDoor
open Go.RowKit
/-- what an ASCII character is as a digit -/
def dval (c : Nat) : Nat := if 48 ≤ c ∧ c ≤ 57 then c - 48 else if 97 ≤ c ∧ c ≤ 122 then c - 87 else 36
set_option maxHeartbeats 400000 in
theorem digitOf_any (c : Nat) (h : c < 128) (w : World) :
    Calls Tryz.prog 186 #[.int .i32 c] w fun e w' => e = .returned (.int .i64 (dval c)) ∧ w = w' := by
  by_cases h1 : 48 ≤ c ∧ c ≤ 57
  · have e : dval c = c - 48 := by rw [dval, if_pos h1]
    obtain ⟨a, b⟩ := h1
    have E := Lib.hid e; clear e
    go_enter Tryz.func186, Tryz.ntmps186
    go_wp2
    go_ret
    exact ⟨by rw [E.out, Int.ofNat_sub a]; rfl, rfl⟩
  · by_cases h2 : 97 ≤ c ∧ c ≤ 122
    · have e : dval c = c - 87 := by rw [dval, if_neg h1, if_pos h2]
      obtain ⟨a, b⟩ := h2
      have E := Lib.hid e; clear e
      have h3 : 57 < c := by omega
      clear h1
      go_enter Tryz.func186, Tryz.ntmps186
      go_wp2
      go_ret
      exact ⟨by rw [E.out]; simp; omega, rfl⟩
    · have e : dval c = 36 := by rw [dval, if_neg h1, if_neg h2]
      have E := Lib.hid e; clear e
      rcases Nat.lt_or_ge c 48 with h3 | h3
      · clear h1 h2
        go_enter Tryz.func186, Tryz.ntmps186
        go_wp2
        go_ret
        exact ⟨by rw [E.out]; rfl, rfl⟩
      · have h4 : 57 < c := by omega
        clear h1
        rcases Nat.lt_or_ge c 97 with h5 | h5
        · clear h2
          go_enter Tryz.func186, Tryz.ntmps186
          go_wp2
          go_ret
          exact ⟨by rw [E.out]; rfl, rfl⟩
        · have h6 : 122 < c := by omega
          clear h2
          go_enter Tryz.func186, Tryz.ntmps186
          go_wp2
          go_ret
          exact ⟨by rw [E.out]; rfl, rfl⟩
theorem str_get (d : List UInt8) (pos : Nat) (h : pos < (str d).size) : (str d)[pos]'h = d.getD pos 0 := by
  have h' : pos < d.length := h
  rw [List.getD_eq_getElem?_getD, List.getElem?_eq_getElem h']; rfl
theorem decode_at (d : List UInt8) (pos : Nat) (h : pos < d.length) (ha : (d.getD pos 0).toNat < 128) : Utf8.decode (str d) pos = ((d.getD pos 0).toNat, 1) := by
  have h' : pos < (str d).size := h
  rw [decode_ascii (str d) pos h' (by rw [str_get]; exact ha), str_get]
/-- the digits of a text in a base -/
def Digs (base : Nat) (d : List UInt8) : Prop := ∀ c ∈ d, c.toNat < 128 ∧ dval c.toNat < base
theorem Digs.at {base : Nat} {d : List UInt8} (h : Digs base d) {i : Nat} (hi : i < d.length) : (d.getD i 0).toNat < 128 ∧ dval (d.getD i 0).toNat < base := by
  rw [List.getD_eq_getElem?_getD, List.getElem?_eq_getElem hi]; exact h _ (List.getElem_mem hi)
set_option maxRecDepth 100000 in
set_option maxHeartbeats 400000 in
theorem split_pos (d : List UInt8) (base : Nat) (hd : Digs base d) (hne : d ≠ []) (hm : d.length ≤ 80000) (hh : d.head? ≠ some 45) (hz : d.head? ≠ some 48 ∨ d = [48]) (w : World) :
    Calls Tryz.prog 185 #[.string (str d), .int .i64 base] w fun e w' => e = .returned (.tuple #[.int .i64 1, .string (str d)]) ∧ Below w.heap.size w w' := by
  have hcut := cut_no d (by omega) hh w
  have HCUT := Lib.hid hcut; clear hcut
  have HD := Lib.hid hd; clear hd
  have hs0 : 0 < (str d).size := by rw [str_size]; exact List.length_pos_iff.2 hne
  have hsz : (str d).size = d.length := rfl
  have hsm : (str d).size ≤ 80000 := hm
  have HSZ := Lib.hid hsz; clear hsz hm
  have HNE := Lib.hid hne; clear hne
  have HH := Lib.hid hh; clear hh
  have HZ := Lib.hid hz; clear hz
  go_enter Tryz.func185, Tryz.ntmps185
  go_wp2_with fail
  refine (mark_below _).mono ?_
  rintro e w' ⟨rfl, rfl⟩
  go_wp2_with fail
  refine HCUT.out.mono ?_
  rintro e w' ⟨rfl, rfl⟩
  go_wp2_with fail
  rw [show (!(str d).toList.isEmpty) = true from by rw [Lib.toList_data, str_data]; have := HNE.out; cases d <;> simp_all]
  refine (demand_yes _ _).mono ?_
  rintro e w' ⟨rfl, rfl⟩
  go_wp2_with fail
  go_loopw [] (fun wr => ∃ pos : Nat, pos ≤ (str d).size ∧ wr = w.iter (str d) pos) (fun wr => (str d).size - wr.iterPos w.heap.size)
  case atStart => exact ⟨0, Nat.zero_le _, rfl⟩
  case round =>
    obtain ⟨pos, hp, rfl⟩ := hrel
    by_cases hlt : pos < (str d).size
    · obtain ⟨hc1, hc2⟩ := HD.out.at (i := pos) (by rw [← HSZ.out]; exact hlt)
      have hdec := decode_at d pos (by rw [← HSZ.out]; exact hlt) hc1
      have hnx : ∀ ty, (Instr.next (.pointer (some ⟨w.heap.size, 0, none⟩)) true ty).run Tryz.prog (w.iter (str d) pos) = .ok (.tuple #[.bool true, .int .i64 pos, .int .i32 ((d.getD pos 0).toNat : Nat)]) (w.iter (str d) (pos + 1)) := fun ty => by
        rw [run_next_any w (str d) pos ty hlt, hdec]
      clear hdec
      generalize (d.getD pos 0).toNat = c at *
      have hdv : decide (dval c < base) = true := by simpa using hc2
      go_wp2_with fail
      refine (digitOf_any c hc1 _).mono ?_
      rintro e w' ⟨rfl, rfl⟩
      go_wp2_with fail
      refine (demand_yes _ _).mono ?_
      rintro e w' ⟨rfl, rfl⟩
      go_wp2
      go_roundw
      case rel => exact ⟨pos + 1, by omega, rfl⟩
      case measure => simp; omega
    · have hnx : ∀ ty, (Instr.next (.pointer (some ⟨w.heap.size, 0, none⟩)) true ty).run Tryz.prog (w.iter (str d) pos) = _ := fun ty => run_next_end w (str d) pos ty hlt
      rcases HZ.out with hz | hz
      · have h48 : ¬ (((str d)[0]'hs0).toNat : Int) = 48 := by
          rw [str_get d 0 hs0]
          intro e
          apply hz
          have e1 : (d.getD 0 0).toNat = 48 := by omega
          have e2 : d.getD 0 0 = 48 := UInt8.toNat_inj.1 e1
          have := HNE.out
          cases d with
          | nil => exact absurd rfl this
          | cons c r => simpa using e2
        clear hz
        go_wp2_with fail
        refine (demand_yes _ _).mono ?_
        rintro e w' ⟨rfl, rfl⟩
        go_wp2
        go_ret2
        exact ⟨rfl, (Below.refl _ _).alloc (Nat.le_refl _) _⟩
      · have h48 : (((str d)[0]'hs0).toNat : Int) = 48 := by rw [str_get d 0 hs0, hz]; rfl
        have htl : ((str d).toList == [48]) = true := by rw [Lib.toList_data, str_data, hz]; rfl
        clear hz
        go_wp2_with fail
        refine (demand_yes _ _).mono ?_
        rintro e w' ⟨rfl, rfl⟩
        go_wp2
        go_ret2
        exact ⟨rfl, (Below.refl _ _).alloc (Nat.le_refl _) _⟩
set_option maxRecDepth 100000 in
set_option maxHeartbeats 400000 in
theorem split_neg (d : List UInt8) (base : Nat) (hd : Digs base d) (hne : d ≠ []) (hm : d.length ≤ 80000) (hz : d.head? ≠ some 48) (w : World) :
    Calls Tryz.prog 185 #[.string (str (45 :: d)), .int .i64 base] w fun e w' => e = .returned (.tuple #[.int .i64 (-1), .string (str d)]) ∧ Below w.heap.size w w' := by
  have hcut := cut_yes d (by omega) w
  have HCUT := Lib.hid hcut; clear hcut
  have HD := Lib.hid hd; clear hd
  have hs0 : 0 < (str d).size := by rw [str_size]; exact List.length_pos_iff.2 hne
  have hsz : (str d).size = d.length := rfl
  have hsm : (str d).size ≤ 80000 := hm
  have HSZ := Lib.hid hsz; clear hsz hm
  have HNE := Lib.hid hne; clear hne
  generalize str (45 :: d) = full at *
  have HZ := Lib.hid hz; clear hz
  go_enter Tryz.func185, Tryz.ntmps185
  go_wp2_with fail
  refine (mark_below _).mono ?_
  rintro e w' ⟨rfl, rfl⟩
  go_wp2_with fail
  refine HCUT.out.mono ?_
  rintro e w' ⟨rfl, rfl⟩
  go_wp2_with fail
  rw [show (!(str d).toList.isEmpty) = true from by rw [Lib.toList_data, str_data]; have := HNE.out; cases d <;> simp_all]
  refine (demand_yes _ _).mono ?_
  rintro e w' ⟨rfl, rfl⟩
  go_wp2_with fail
  go_loopw [] (fun wr => ∃ pos : Nat, pos ≤ (str d).size ∧ wr = w.iter (str d) pos) (fun wr => (str d).size - wr.iterPos w.heap.size)
  case atStart => exact ⟨0, Nat.zero_le _, rfl⟩
  case round =>
    obtain ⟨pos, hp, rfl⟩ := hrel
    by_cases hlt : pos < (str d).size
    · obtain ⟨hc1, hc2⟩ := HD.out.at (i := pos) (by rw [← HSZ.out]; exact hlt)
      have hdec := decode_at d pos (by rw [← HSZ.out]; exact hlt) hc1
      have hnx : ∀ ty, (Instr.next (.pointer (some ⟨w.heap.size, 0, none⟩)) true ty).run Tryz.prog (w.iter (str d) pos) = .ok (.tuple #[.bool true, .int .i64 pos, .int .i32 ((d.getD pos 0).toNat : Nat)]) (w.iter (str d) (pos + 1)) := fun ty => by
        rw [run_next_any w (str d) pos ty hlt, hdec]
      clear hdec
      generalize (d.getD pos 0).toNat = c at *
      have hdv : decide (dval c < base) = true := by simpa using hc2
      go_wp2_with fail
      refine (digitOf_any c hc1 _).mono ?_
      rintro e w' ⟨rfl, rfl⟩
      go_wp2_with fail
      refine (demand_yes _ _).mono ?_
      rintro e w' ⟨rfl, rfl⟩
      go_wp2
      go_roundw
      case rel => exact ⟨pos + 1, by omega, rfl⟩
      case measure => simp; omega
    · have hnx : ∀ ty, (Instr.next (.pointer (some ⟨w.heap.size, 0, none⟩)) true ty).run Tryz.prog (w.iter (str d) pos) = _ := fun ty => run_next_end w (str d) pos ty hlt
      have hz := HZ.out
      have h48 : ¬ (((str d)[0]'hs0).toNat : Int) = 48 := by
        rw [str_get d 0 hs0]
        intro e
        apply hz
        have e1 : (d.getD 0 0).toNat = 48 := by omega
        have e2 : d.getD 0 0 = 48 := UInt8.toNat_inj.1 e1
        have := HNE.out
        cases d with
        | nil => exact absurd rfl this
        | cons c r => simpa using e2
      clear hz
      go_wp2_with fail
      refine (demand_yes _ _).mono ?_
      rintro e w' ⟨rfl, rfl⟩
      go_wp2
      go_ret2
      exact ⟨rfl, (Below.refl _ _).alloc (Nat.le_refl _) _⟩
end Go.Proofs.YteggbenhffmijaaGreatDoor

namespace Wh
/-- the i-th nine digits from the end -/
def chunk (d : List UInt8) (i : Nat) : List UInt8 := (d.drop (d.length - 9 * i - 9)).take (d.length - 9 * i - (d.length - 9 * i - 9))
theorem chunk_length (d : List UInt8) (i : Nat) : (chunk d i).length ≤ 9 := by simp [chunk]; omega
theorem chunk_digits {d : List UInt8} (h : ∀ c ∈ d, isD c) (i : Nat) : ∀ c ∈ chunk d i, isD c := fun c hc => h c (List.mem_of_mem_drop (List.mem_of_mem_take hc))
theorem numOf_small {l : List UInt8} (h : ∀ c ∈ l, isD c) (hl : l.length ≤ 9) : numOf l < R := by
  have := numOf_lt h
  have h2 : 10 ^ l.length ≤ 10 ^ 9 := Nat.pow_le_pow_right (by decide) hl
  have : R = 10 ^ 9 := by decide
  omega
theorem drop_chunk (d : List UInt8) (i : Nat) (h : 9 * i ≤ d.length) : d.drop (d.length - 9 * (i + 1)) = chunk d i ++ d.drop (d.length - 9 * i) := by
  have e : d.length - 9 * (i + 1) = d.length - 9 * i - 9 := by omega
  rw [e, chunk]
  have := (List.take_append_drop (d.length - 9 * i - (d.length - 9 * i - 9)) (d.drop (d.length - 9 * i - 9))).symm
  rw [List.drop_drop] at this
  have e2 : d.length - 9 * i - 9 + (d.length - 9 * i - (d.length - 9 * i - 9)) = d.length - 9 * i := by omega
  rw [e2] at this
  exact this
theorem pow9 (k : Nat) : 10 ^ (9 * k) = R ^ k := by rw [Nat.pow_mul]; rfl
theorem sum_chunks (d : List UInt8) (k : Nat) (h : 9 * k ≤ d.length + 8) : sum (fun i => numOf (chunk d i)) k = numOf (d.drop (d.length - 9 * k)) := by
  induction k with
  | zero => simp [sum, numOf]
  | succ k ih =>
    rw [sum, ih (by omega), drop_chunk d k (by omega), numOf_append, List.length_drop]
    have e : d.length - (d.length - 9 * k) = 9 * k := by omega
    rw [e, pow9, Nat.mul_comm (numOf _), Nat.add_comm]
theorem sum_all (d : List UInt8) : sum (fun i => numOf (chunk d i)) ((d.length + 8) / 9) = numOf d := by
  rw [sum_chunks d _ (by omega)]
  have : d.length - 9 * ((d.length + 8) / 9) = 0 := by omega
  rw [this, List.drop_zero]
theorem pre_ok {g : Nat → Nat} (h : ∀ i, g i < R) (k n : Nat) : Ok (pre g k n) := by
  rw [pre, ok_append]
  refine ⟨fun x hx => ?_, ok_replicate _⟩
  obtain ⟨i, _, rfl⟩ := List.mem_map.1 hx
  exact h i
theorem pre_full (g : Nat → Nat) (n : Nat) : pre g n n = (List.range n).map g := by simp [pre]
theorem numOf_take_succ (l : List UInt8) (p : Nat) (h : p < l.length) : numOf (l.take (p + 1)) = 10 * numOf (l.take p) + dv (l.getD p 0) := by
  rw [List.take_succ_eq_append_getElem h, numOf_snoc]; simp [List.getD, h]
end Wh
