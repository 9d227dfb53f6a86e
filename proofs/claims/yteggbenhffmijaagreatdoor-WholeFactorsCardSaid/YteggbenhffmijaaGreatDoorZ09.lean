/- Part 9 of the proofs that laws of package whole answer true at every input and leave the input as it was, where the library's variables start as the text lays them (the texts Q2, P3, Q7, V4, V10). -/
import Derived.Test.YteggbenhffmijaaGreatDoorZ08
import Derived.Test.YteggbenhffmijaaGreatDoorZ06
set_option linter.unusedVariables false
set_option linter.unusedSimpArgs false
/- WALKS, PowerModulo by one limb. -/
namespace Go.Proofs.YteggbenhffmijaaGreatDoor
open Go.RowKit Go.Proofs.Rf
attribute [local go_sem] Oper.semAt_some
theorem Wh.R_one : Wh.R ^ 1 = 1000000000 := by decide
theorem Wh.R_two : Wh.R ^ 2 = 1000000000 * 1000000000 := by decide
/-- a new variable for a number at work, not written yet -/
def Fresh (n : Nat) (w : World) (v : Value) : Prop := ∃ b, v = .pointer (some ⟨b, 0, none⟩) ∧ n ≤ b ∧ b < w.heap.size ∧ w.cell? ⟨b, 0, none⟩ = some (.int .i64 0) ∧ w.cell? ⟨b, 1, none⟩ = some (.slice none 0 0) ∧ w.frozen? ⟨b, 0, none⟩ = false ∧ w.frozen? ⟨b, 1, none⟩ = false
theorem Fresh.mono {n : Nat} {w w' : World} {v : Value} (h : Fresh n w v) (hb : Below w.heap.size w w') : Fresh n w' v := by
  obtain ⟨b, e, hn, hl, h0, h1, f0, f1⟩ := h
  exact ⟨b, e, hn, Nat.lt_of_lt_of_le hl hb.size, (hb.cell (p := ⟨b, 0, none⟩) hl).trans h0, (hb.cell (p := ⟨b, 1, none⟩) hl).trans h1, (hb.frozen (p := ⟨b, 0, none⟩) hl).trans f0, (hb.frozen (p := ⟨b, 1, none⟩) hl).trans f1⟩
/-- what each operation of PowerModulo's second region yields -/
def PM2 (n : Nat) (m : Int) (a3 : Option Addr) (n3 c3 : Nat) : Nat → Value → World → Prop
  | 0, v, w => ∃ a c, v = .agg #[.int .i64 1, .slice a 1 c] ∧ Sl w (.slice a 1 c) [1]
  | 1, v, _ => v = .agg #[.int .i64 m.sign, .slice a3 n3 c3]
  | 2, v, w | 3, v, w => ∃ vq vr, v = .tuple #[vq, vr] ∧ Num w vq ((1 : Int).fdiv m) ∧ Num w vr ((1 : Int).fmod m)
  | 4, v, w => Num w v ((1 : Int).fdiv m)
  | 5, v, w => Num w v ((1 : Int).fmod m)
  | 6, v, w | 7, v, w => Fresh n w v
  | _, _, _ => True
theorem pm2_stays (n : Nat) (m : Int) (a3 : Option Addr) (n3 c3 : Nat) : ∀ i v w w', PM2 n m a3 n3 c3 i v w → Below w.heap.size w w' → PM2 n m a3 n3 c3 i v w' := by
  intro i v w w' h hb
  match i, h with
  | 0, h => obtain ⟨a, c, e, hs⟩ := h; exact ⟨a, c, e, hs.mono hb⟩
  | 1, h => exact h
  | 2, h => obtain ⟨p, q, e, h1, h2⟩ := h; exact ⟨p, q, e, h1.mono hb, h2.mono hb⟩
  | 3, h => obtain ⟨p, q, e, h1, h2⟩ := h; exact ⟨p, q, e, h1.mono hb, h2.mono hb⟩
  | 4, h => exact Num.mono h hb
  | 5, h => exact Num.mono h hb
  | 6, h => exact Fresh.mono h hb
  | 7, h => exact Fresh.mono h hb
  | _ + 8, _ => trivial
theorem wrote_more {n b1 b2 b3 k : Nat} (h : Wrote (n + 3) b1 b2 b3 k) : Wrote n b1 b2 b3 k := by rcases h with h | h | h | h <;> unfold Wrote <;> omega
theorem Sl.putDef {w : World} {v : Value} {l : List Nat} {D : Nat} {o : Option (List Deferred)} {o' : Option (List Deferred)} (h : Sl w v l) (hD : w.heap[D]? = some (.deferred o)) : Sl (w.putObj D (.deferred o')) v l := by
  rcases h with h | ⟨b', off, cap, rfl, h2, h3, h4⟩
  · exact .inl h
  · exact .inr ⟨b', off, cap, rfl, h2, by simpa [World.putObj] using h3, fun i hi => cell_kept (h4 i hi) (grownBy_putObj' _ D _) (fun r e => by cases e; exact ⟨_, hD, rfl⟩)⟩
theorem box4_new (w : World) (a0 a1 b0 b1 m0 m1 : Value) (t : TypeId) :
    Laid4 w ((((w.alloc (.cells #[a0, a1] t)).alloc (.cells #[b0, b1] t)).alloc (.cells #[m0, m1] t)).alloc (.cells #[.int .i64 0, .slice none 0 0] t)) a0 a1 b0 b1 m0 m1 (.int .i64 0) (.slice none 0 0) := laid4_new w a0 a1 b0 b1 m0 m1 (.int .i64 0) (.slice none 0 0) t
set_option maxRecDepth 100000 in
set_option maxHeartbeats 4000000 in
theorem powmod_any (w : World) (x y m : Int) (a1 a2 a3 : Option Addr) (n1 n2 n3 c1 c2 c3 : Nat) (h1 : Sl w (.slice a1 n1 c1) (Wh.limbs x.natAbs)) (h2 : Sl w (.slice a2 n2 c2) (Wh.limbs y.natAbs)) (h3 : Sl w (.slice a3 n3 c3) (Wh.limbs m.natAbs))
    (hx : Fit x) (hy : (Wh.limbs y.natAbs).length ≤ 1000) (hm : 0 < m ∧ m < 1000000000) :
    Calls Tryz.prog 226 #[.agg #[.int .i64 x.sign, .slice a1 n1 c1], .agg #[.int .i64 y.sign, .slice a2 n2 c2], .agg #[.int .i64 m.sign, .slice a3 n3 c3]] w fun e w' => (∃ v', e = .returned v' ∧ Num w' v' ((x ^ y.natAbs).fmod m)) ∧ Below w.heap.size w w' := by
  have HL := box4_new w (.int .i64 x.sign) (.slice a1 n1 c1) (.int .i64 y.sign) (.slice a2 n2 c2) (.int .i64 m.sign) (.slice a3 n3 c3) 92
  have HFL := Lib.hid (fun (W : World) (vb : Value) (z : Int) (va : Value) (ha : Num W va z) (hz : Fit z) (hb : Num W vb m) => floor_short W va vb z m ha hb hz (by omega))
  have H1 := Lib.hid h1; have H2 := Lib.hid h2; have H3 := Lib.hid h3; clear h1 h2 h3
  have HX := Lib.hid hx; clear hx
  refine callsIn_wide.1 (callsIn_of_wp_marks (n := 3) Tryz.func226 rfl trivial (wpIn_wide.2 ?_) rfl)
  simp only [Tryz.ntmps226, List.size_toArray, List.length_cons, List.length_nil, Nat.reduceAdd, Nat.reduceSub, Array.replicate_succ, Array.replicate_zero, List.push_toArray, List.append_toArray, List.nil_append, List.cons_append]
  go_wp2_with fail
  generalize (((w.alloc (Obj.cells #[Value.int IntKind.i64 x.sign, Value.slice a1 n1 c1] 92)).alloc (Obj.cells #[Value.int IntKind.i64 y.sign, Value.slice a2 n2 c2] 92)).alloc (Obj.cells #[Value.int IntKind.i64 m.sign, Value.slice a3 n3 c3] 92)).alloc (Obj.cells #[Value.int IntKind.i64 0, Value.slice none 0 0] 92) = W at *
  refine (HFL.out W _ x _ ⟨_, rfl, H1.out.mono HL.below⟩ HX.out ⟨_, rfl, H3.out.mono HL.below⟩).mono ?_
  rintro e w1 ⟨⟨vq, vr, rfl, hnq, hnr⟩, hb1⟩
  obtain ⟨slq, rfl, hsq⟩ := hnq
  obtain ⟨qa, qc, rfl⟩ := hsq.len
  obtain ⟨slr, rfl, hsr⟩ := hnr
  obtain ⟨ra, rc, rfl⟩ := hsr.len
  have L1 := HL.mono hb1
  clear HL hsq
  generalize x.tdiv m = junk
  have HR1 := Lib.hid hsr; clear hsr
  have HL1 := Lib.hid L1
  have d0 := L1.q0
  have d1 := L1.q1
  have hs0 : w.heap.size + 4 ≤ w1.heap.size := L1.size
  clear L1
  go_wp2_with fail
  have hV : Below w1.heap.size w1 ((w1.alloc (Obj.cells #[Value.int IntKind.i64 (x.fdiv m).sign, Value.slice qa (Wh.limbs (x.fdiv m).natAbs).length qc] 92)).alloc (Obj.cells #[Value.int IntKind.i64 (x.fmod m).sign, Value.slice ra (Wh.limbs (x.fmod m).natAbs).length rc] 92)) := ((Below.refl _ _).alloc (Nat.le_refl _) _).alloc (by simp) _
  have hVs : ((w1.alloc (Obj.cells #[Value.int IntKind.i64 (x.fdiv m).sign, Value.slice qa (Wh.limbs (x.fdiv m).natAbs).length qc] 92)).alloc (Obj.cells #[Value.int IntKind.i64 (x.fmod m).sign, Value.slice ra (Wh.limbs (x.fmod m).natAbs).length rc] 92)).heap.size = w1.heap.size + 2 := by simp
  have hVc : ((w1.alloc (Obj.cells #[Value.int IntKind.i64 (x.fdiv m).sign, Value.slice qa (Wh.limbs (x.fdiv m).natAbs).length qc] 92)).alloc (Obj.cells #[Value.int IntKind.i64 (x.fmod m).sign, Value.slice ra (Wh.limbs (x.fmod m).natAbs).length rc] 92)).cell? ⟨w1.heap.size + 1, 1, none⟩ = some (.slice ra (Wh.limbs (x.fmod m).natAbs).length rc) := by go_simp
  have HRV := Lib.hid (HR1.out.mono hV)
  have HLV := Lib.hid (HL1.out.mono hV)
  generalize (w1.alloc (Obj.cells #[Value.int IntKind.i64 (x.fdiv m).sign, Value.slice qa (Wh.limbs (x.fdiv m).natAbs).length qc] 92)).alloc (Obj.cells #[Value.int IntKind.i64 (x.fmod m).sign, Value.slice ra (Wh.limbs (x.fmod m).natAbs).length rc] 92) = V at *
  clear d0 d1
  have HHV := Lib.hid hV; have HVS := Lib.hid hVs; have HVC := Lib.hid hVc; clear hV hVs hVc
  have hm3 := H3.out.mono HLV.out.below
  have HM3 := Lib.hid hm3; clear hm3
  refine wp_mono (Q := fun e a W' => e = .normal ∧ ∃ vals : Nat → Value, a = { tmps := #[Value.agg #[Value.int IntKind.i64 x.sign, Value.slice a1 n1 c1], Value.agg #[Value.int IntKind.i64 y.sign, Value.slice a2 n2 c2], Value.agg #[Value.int IntKind.i64 m.sign, Value.slice a3 n3 c3], Value.pointer (some ⟨w.heap.size, 0, none⟩), Value.pointer (some ⟨w.heap.size + 1, 0, none⟩), Value.pointer (some ⟨w.heap.size + 1 + 1, 0, none⟩), Value.pointer (some ⟨w.heap.size + 1 + 1 + 1, 0, none⟩), Value.pointer (some ⟨w1.heap.size, 0, none⟩), Value.pointer (some ⟨w1.heap.size + 1, 0, none⟩), vals 6, vals 7, undef, undef, undef, undef, Value.tuple #[Value.agg #[Value.int IntKind.i64 (x.fdiv m).sign, Value.slice qa (Wh.limbs (x.fdiv m).natAbs).length qc], Value.agg #[Value.int IntKind.i64 (x.fmod m).sign, Value.slice ra (Wh.limbs (x.fmod m).natAbs).length rc]], Value.agg #[Value.int IntKind.i64 x.sign, Value.slice a1 n1 c1], Value.agg #[Value.int IntKind.i64 m.sign, Value.slice a3 n3 c3], Value.tuple #[Value.agg #[Value.int IntKind.i64 (x.fdiv m).sign, Value.slice qa (Wh.limbs (x.fdiv m).natAbs).length qc], Value.agg #[Value.int IntKind.i64 (x.fmod m).sign, Value.slice ra (Wh.limbs (x.fmod m).natAbs).length rc]], Value.agg #[Value.int IntKind.i64 (x.fdiv m).sign, Value.slice qa (Wh.limbs (x.fdiv m).natAbs).length qc], Value.agg #[Value.int IntKind.i64 (x.fmod m).sign, Value.slice ra (Wh.limbs (x.fmod m).natAbs).length rc], vals 3, vals 0, vals 1, vals 2, vals 4, vals 5, undef, undef, undef, undef, undef, undef, undef, undef, undef, undef, undef, undef, undef, undef, undef, undef, undef, undef, undef, undef, undef, undef, undef, undef, undef, undef, undef, undef, undef, undef, undef, undef, undef, undef], defers := [] } ∧ Below V.heap.size V W' ∧ ∃ b10 sa sc, vals 7 = .pointer (some ⟨b10, 0, none⟩) ∧ b10 < W'.heap.size ∧ W'.cell? ⟨b10, 1, none⟩ = some (.slice sa (Wh.limbs ((1 : Int).fmod m).natAbs).length sc) ∧ Sl W' (.slice sa (Wh.limbs ((1 : Int).fmod m).natAbs).length sc) (Wh.limbs ((1 : Int).fmod m).natAbs)) ?_ ?_
  refine Rt.wp_region_grow (n0 := 2) [8, 9] [3, 4, 5] 61 (fun vals => { tmps := #[Value.agg #[Value.int IntKind.i64 x.sign, Value.slice a1 n1 c1], Value.agg #[Value.int IntKind.i64 y.sign, Value.slice a2 n2 c2], Value.agg #[Value.int IntKind.i64 m.sign, Value.slice a3 n3 c3], Value.pointer (some ⟨w.heap.size, 0, none⟩), Value.pointer (some ⟨w.heap.size + 1, 0, none⟩), Value.pointer (some ⟨w.heap.size + 1 + 1, 0, none⟩), Value.pointer (some ⟨w.heap.size + 1 + 1 + 1, 0, none⟩), Value.pointer (some ⟨w1.heap.size, 0, none⟩), Value.pointer (some ⟨w1.heap.size + 1, 0, none⟩), vals 6, vals 7, undef, undef, undef, undef, Value.tuple #[Value.agg #[Value.int IntKind.i64 (x.fdiv m).sign, Value.slice qa (Wh.limbs (x.fdiv m).natAbs).length qc], Value.agg #[Value.int IntKind.i64 (x.fmod m).sign, Value.slice ra (Wh.limbs (x.fmod m).natAbs).length rc]], Value.agg #[Value.int IntKind.i64 x.sign, Value.slice a1 n1 c1], Value.agg #[Value.int IntKind.i64 m.sign, Value.slice a3 n3 c3], Value.tuple #[Value.agg #[Value.int IntKind.i64 (x.fdiv m).sign, Value.slice qa (Wh.limbs (x.fdiv m).natAbs).length qc], Value.agg #[Value.int IntKind.i64 (x.fmod m).sign, Value.slice ra (Wh.limbs (x.fmod m).natAbs).length rc]], Value.agg #[Value.int IntKind.i64 (x.fdiv m).sign, Value.slice qa (Wh.limbs (x.fdiv m).natAbs).length qc], Value.agg #[Value.int IntKind.i64 (x.fmod m).sign, Value.slice ra (Wh.limbs (x.fmod m).natAbs).length rc], vals 3, vals 0, vals 1, vals 2, vals 4, vals 5, undef, undef, undef, undef, undef, undef, undef, undef, undef, undef, undef, undef, undef, undef, undef, undef, undef, undef, undef, undef, undef, undef, undef, undef, undef, undef, undef, undef, undef, undef, undef, undef, undef, undef], defers := [] }) (PM2 V.heap.size m a3 n3 c3) (by kernel_rfl) (by kernel_rfl) (by kernel_rfl) (by kernel_rfl) (fun _ _ _ _ _ h => absurd h.1 (by simp)) (by kernel_rfl) rfl (fun _ => by kernel_rfl) (by kernel_rfl) (by kernel_rfl) (pm2_stays _ _ _ _ _) ?_ ?_ ?_
  · intro i o d hi hT hW hd vals w' hb hf
    have hlt : i < 10 := (Array.getElem?_eq_some_iff.1 hi).1
    rcases i with _ | _ | _ | _ | _ | _ | _ | _ | _ | _ | i
    · obtain rfl := Option.some.inj hi
      obtain rfl := Option.some.inj hd
      dsimp only
      go_simp
      refine (one_any _).mono ?_
      rintro e w5 ⟨⟨xa5, xc5, rfl, hs5⟩, hb5⟩
      exact ⟨⟨xa5, xc5, rfl, hs5⟩, hb5⟩
    · obtain rfl := Option.some.inj hi
      obtain rfl := Option.some.inj hd
      have L := HLV.out.mono hb
      have d0 := L.q0
      have d1 := L.q1
      clear L
      dsimp only
      go_simp
      exact ⟨rfl, Below.refl _ _⟩
    · obtain rfl := Option.some.inj hi
      obtain rfl := Option.some.inj hd
      obtain ⟨xa5, xc5, e0, hs5⟩ := hf 0 (by kernel_rfl)
      have e1 : vals 1 = _ := hf 1 (by kernel_rfl)
      dsimp only
      rw [e0, e1]
      go_simp
      refine (HFL.out _ _ 1 _ (num_one hs5) fit_one ⟨_, rfl, HM3.out.mono hb⟩).mono ?_
      rintro e w6 ⟨⟨vq6, vr6, rfl, h6, h7⟩, hb6⟩
      exact ⟨⟨vq6, vr6, rfl, h6, h7⟩, hb6⟩
    · cases hW
    · cases hW
    · cases hW
    · obtain rfl := Option.some.inj hi
      obtain rfl := Option.some.inj hd
      dsimp only
      go_simp
      exact ⟨⟨w'.heap.size, rfl, hb.size, by simp, by go_simp, by go_simp, by go_simp, by go_simp⟩, (Below.refl _ _).alloc (Nat.le_refl _) _⟩
    · obtain rfl := Option.some.inj hi
      obtain rfl := Option.some.inj hd
      dsimp only
      go_simp
      exact ⟨⟨w'.heap.size, rfl, hb.size, by simp, by go_simp, by go_simp, by go_simp, by go_simp⟩, (Below.refl _ _).alloc (Nat.le_refl _) _⟩
    · cases hT
    · cases hT
    · omega
  · intro p o d hi hW hd vals w' hb hf
    have hlt : p < 10 := (Array.getElem?_eq_some_iff.1 hi).1
    rcases p with _ | _ | _ | _ | _ | _ | p
    · cases hW
    · cases hW
    · cases hW
    · obtain rfl := Option.some.inj hi
      obtain rfl := Option.some.inj hd
      have f2 := hf 2 (by kernel_rfl)
      exact ⟨vals 2, fun w'' => by dsimp only; go_simp, f2⟩
    · obtain rfl := Option.some.inj hi
      obtain rfl := Option.some.inj hd
      obtain ⟨vq, vr, e3, h1, h2⟩ := hf 3 (by kernel_rfl)
      exact ⟨vq, fun w'' => by dsimp only; rw [e3]; go_simp, h1⟩
    · obtain rfl := Option.some.inj hi
      obtain rfl := Option.some.inj hd
      obtain ⟨vq, vr, e3, h1, h2⟩ := hf 3 (by kernel_rfl)
      exact ⟨vr, fun w'' => by dsimp only; rw [e3]; go_simp, h2⟩
    · have : p + 6 = 6 ∨ p + 6 = 7 ∨ p + 6 = 8 ∨ p + 6 = 9 := by omega
      rcases this with h | h | h | h <;> rw [h] at hW <;> cases hW
  · intro vals w' hb hf
    obtain ⟨s4, e4, h4⟩ := hf 4 (by decide) rfl
    obtain ⟨s5, e5, h5⟩ := hf 5 (by decide) rfl
    obtain ⟨b9, e6, hn9, hl9, x0, x1, f0, f1⟩ := hf 6 (by decide) rfl
    obtain ⟨b10, e7, hn10, hl10, y0, y1, g0, g1⟩ := hf 7 (by decide) rfl
    obtain ⟨p4, c4, rfl⟩ := h4.len
    obtain ⟨p5, c5, rfl⟩ := h5.len
    dsimp only
    rw [e4, e5, e6, e7]
    have HB := Lib.hid hb; have HH5 := Lib.hid h5
    have HX := Lib.hid (And.intro x0 x1); have HY := Lib.hid (And.intro y0 y1)
    clear h4
    refine Rt.wpAny_step (i := 8) (by kernel_rfl) rfl (by rfl) (fun K hK => ?_)
    have HK := Lib.hid hK; clear hK
    go_simp
    refine HK.out _ _ ?_
    clear HK
    have z : ((w'.setCell ⟨b9, 0, none⟩ (.int .i64 ((1 : Int).fdiv m).sign)).setCell ⟨b9, 1, none⟩ (.slice p4 (Wh.limbs ((1 : Int).fdiv m).natAbs).length c4)).cell? ⟨b10, 0, none⟩ = some (.int .i64 (if b9 = b10 then ((1 : Int).fdiv m).sign else 0)) ∧ (∃ a n c, ((w'.setCell ⟨b9, 0, none⟩ (.int .i64 ((1 : Int).fdiv m).sign)).setCell ⟨b9, 1, none⟩ (.slice p4 (Wh.limbs ((1 : Int).fdiv m).natAbs).length c4)).cell? ⟨b10, 1, none⟩ = some (.slice a n c)) ∧ ((w'.setCell ⟨b9, 0, none⟩ (.int .i64 ((1 : Int).fdiv m).sign)).setCell ⟨b9, 1, none⟩ (.slice p4 (Wh.limbs ((1 : Int).fdiv m).natAbs).length c4)).frozen? ⟨b10, 0, none⟩ = false ∧ ((w'.setCell ⟨b9, 0, none⟩ (.int .i64 ((1 : Int).fdiv m).sign)).setCell ⟨b9, 1, none⟩ (.slice p4 (Wh.limbs ((1 : Int).fdiv m).natAbs).length c4)).frozen? ⟨b10, 1, none⟩ = false ∧ b10 < ((w'.setCell ⟨b9, 0, none⟩ (.int .i64 ((1 : Int).fdiv m).sign)).setCell ⟨b9, 1, none⟩ (.slice p4 (Wh.limbs ((1 : Int).fdiv m).natAbs).length c4)).heap.size ∧ Below V.heap.size V ((w'.setCell ⟨b9, 0, none⟩ (.int .i64 ((1 : Int).fdiv m).sign)).setCell ⟨b9, 1, none⟩ (.slice p4 (Wh.limbs ((1 : Int).fdiv m).natAbs).length c4)) ∧ Sl ((w'.setCell ⟨b9, 0, none⟩ (.int .i64 ((1 : Int).fdiv m).sign)).setCell ⟨b9, 1, none⟩ (.slice p4 (Wh.limbs ((1 : Int).fdiv m).natAbs).length c4)) (.slice p5 (Wh.limbs ((1 : Int).fmod m).natAbs).length c5) (Wh.limbs ((1 : Int).fmod m).natAbs) := by
      obtain ⟨t0, t1⟩ := two_cells w' b9 (.int .i64 ((1 : Int).fdiv m).sign) (.slice p4 (Wh.limbs ((1 : Int).fdiv m).natAbs).length c4) HX.out.1 HX.out.2
      refine ⟨?_, ?_, by simp only [World.frozen?_setCell]; exact g0, by simp only [World.frozen?_setCell]; exact g1, by simpa using hl10, (HB.out.setCell hn9 _).setCell hn9 _, HH5.out.store2 _ HX.out.1 HX.out.2 _ _⟩
      · by_cases hbb : b9 = b10
        · subst hbb; rw [if_pos rfl]; exact t0
        · rw [if_neg hbb]; exact far1 HY.out.1 hbb
      · by_cases hbb : b9 = b10
        · subst hbb; exact ⟨_, _, _, t1⟩
        · exact ⟨_, _, _, far1 HY.out.2 hbb⟩
    generalize ((w'.setCell ⟨b9, 0, none⟩ (.int .i64 ((1 : Int).fdiv m).sign)).setCell ⟨b9, 1, none⟩ (.slice p4 (Wh.limbs ((1 : Int).fdiv m).natAbs).length c4)) = U at z ⊢
    obtain ⟨z0, ⟨za, zn, zc, z1⟩, zf0, zf1, zl, zb, zs⟩ := z
    generalize (if b9 = b10 then ((1 : Int).fdiv m).sign else 0) = zz at z0
    clear x0 x1 y0 y1 f0 f1 g0 g1
    refine Rt.wpAny_step (i := 9) (by kernel_rfl) rfl (by rfl) (fun K hK => ?_)
    have HK := Lib.hid hK; clear hK
    go_simp
    refine HK.out _ _ ?_
    clear HK
    obtain ⟨t0, t1⟩ := two_cells U b10 (.int .i64 ((1 : Int).fmod m).sign) (.slice p5 (Wh.limbs ((1 : Int).fmod m).natAbs).length c5) z0 z1
    exact Rt.wpAny_end (by kernel_rfl) ⟨rfl, vals, by rw [e4, e5, e6, e7], (zb.setCell hn10 _).setCell hn10 _, b10, p5, c5, e7, by simpa using zl, t1, zs.two _ z0 z1 (nl_int _) (nl_slice _ _ _) _ _⟩
  · rintro e a W2 ⟨rfl, vals, rfl, hB2, b10, sa, sc, e7, hl10, hc10, hs10⟩
    rw [e7]
    have hc8 : W2.cell? ⟨w1.heap.size + 1, 1, none⟩ = some (.slice ra (Wh.limbs (x.fmod m).natAbs).length rc) := (hB2.cell (p := ⟨w1.heap.size + 1, 1, none⟩) (by have := HVS.out; show w1.heap.size + 1 < _; omega)).trans HVC.out
    have HB2 := Lib.hid hB2; have HS10 := Lib.hid hs10; clear hB2 hs10
    have hV2 : w1.heap.size + 1 < W2.heap.size := by have := HB2.out.size; have := HVS.out; omega
    generalize vals 6 = v6; generalize vals 3 = v3; generalize vals 0 = v0; generalize vals 1 = v1; generalize vals 2 = v2; generalize vals 4 = v4; generalize vals 5 = v5
    go_wp2_with fail
    refine wp_mono (Q := fun e a W' => e = .normal ∧ ∃ b11 b12 u27 u28 u29 u30, a = { tmps := #[Value.agg #[Value.int IntKind.i64 x.sign, Value.slice a1 n1 c1], Value.agg #[Value.int IntKind.i64 y.sign, Value.slice a2 n2 c2], Value.agg #[Value.int IntKind.i64 m.sign, Value.slice a3 n3 c3], Value.pointer (some ⟨w.heap.size, 0, none⟩), Value.pointer (some ⟨w.heap.size + 1, 0, none⟩), Value.pointer (some ⟨w.heap.size + 1 + 1, 0, none⟩), Value.pointer (some ⟨w.heap.size + 1 + 1 + 1, 0, none⟩), Value.pointer (some ⟨w1.heap.size, 0, none⟩), Value.pointer (some ⟨w1.heap.size + 1, 0, none⟩), v6, Value.pointer (some ⟨b10, 0, none⟩), Value.pointer (some ⟨b11, 0, none⟩), Value.pointer (some ⟨b12, 0, none⟩), undef, undef, Value.tuple #[Value.agg #[Value.int IntKind.i64 (x.fdiv m).sign, Value.slice qa (Wh.limbs (x.fdiv m).natAbs).length qc], Value.agg #[Value.int IntKind.i64 (x.fmod m).sign, Value.slice ra (Wh.limbs (x.fmod m).natAbs).length rc]], Value.agg #[Value.int IntKind.i64 x.sign, Value.slice a1 n1 c1], Value.agg #[Value.int IntKind.i64 m.sign, Value.slice a3 n3 c3], Value.tuple #[Value.agg #[Value.int IntKind.i64 (x.fdiv m).sign, Value.slice qa (Wh.limbs (x.fdiv m).natAbs).length qc], Value.agg #[Value.int IntKind.i64 (x.fmod m).sign, Value.slice ra (Wh.limbs (x.fmod m).natAbs).length rc]], Value.agg #[Value.int IntKind.i64 (x.fdiv m).sign, Value.slice qa (Wh.limbs (x.fdiv m).natAbs).length qc], Value.agg #[Value.int IntKind.i64 (x.fmod m).sign, Value.slice ra (Wh.limbs (x.fmod m).natAbs).length rc], v3, v0, v1, v2, v4, v5, u27, u28, u29, u30, undef, undef, undef, undef, undef, undef, undef, undef, undef, undef, undef, undef, undef, undef, undef, undef, undef, undef, undef, undef, undef, undef, undef, undef, undef, undef, undef, undef, undef, undef], defers := [] } ∧ Below W2.heap.size W2 W' ∧ W2.heap.size ≤ b11 ∧ W2.heap.size ≤ b12 ∧ b11 ≠ b12 ∧ b11 < W'.heap.size ∧ b12 < W'.heap.size ∧ W'.cell? ⟨b11, 0, none⟩ = some (.slice ra (Wh.limbs (x.fmod m).natAbs).length rc) ∧ W'.cell? ⟨b12, 0, none⟩ = some (.slice sa (Wh.limbs ((1 : Int).fmod m).natAbs).length sc) ∧ W'.frozen? ⟨b11, 0, none⟩ = false ∧ W'.frozen? ⟨b12, 0, none⟩ = false) ?_ ?_
    · have n8 := World.new_ne W2 _ hc8
      have n10 := World.new_ne W2 _ hc10
      go_region_held3 (fun w' => w'.cell? ⟨w1.heap.size + 1, 1, none⟩ = some (.slice ra (Wh.limbs (x.fmod m).natAbs).length rc) ∧ w'.cell? ⟨b10, 1, none⟩ = some (.slice sa (Wh.limbs ((1 : Int).fmod m).natAbs).length sc)) (go_keep) (fail)
      · exact ⟨rfl, W2.heap.size, W2.heap.size + 1, _, _, _, _, rfl, ((((Below.refl _ _).alloc (Nat.le_refl _) _).alloc (by simp) _).drew), Nat.le_refl _, Nat.le_succ _, by omega, by simp <;> omega, by simp <;> omega, by go_simp, by go_simp, by go_simp, by go_simp⟩
      · exact ⟨rfl, W2.heap.size + 1, W2.heap.size, _, _, _, _, rfl, ((((Below.refl _ _).alloc (Nat.le_refl _) _).alloc (by simp) _).drew), Nat.le_succ _, Nat.le_refl _, by omega, by simp <;> omega, by simp <;> omega, by go_simp, by go_simp, by go_simp, by go_simp⟩
    · rintro e a W3 ⟨rfl, b11, b12, u27, u28, u29, u30, rfl, hB3, h11, h12, hne, hl11, hl12, c11, c12, f11, f12⟩
      have hL3 := (HLV.out.mono HB2.out).mono hB3
      have k5 := hL3.b1
      have hsz3 := hL3.size
      have HL3 := Lib.hid hL3; clear hL3
      have hBA := HL3.out.below
      have hB3A : Below w1.heap.size w1 W3 := HHV.out.trans ((HB2.out.mono (by have := HVS.out; omega)).trans (hB3.mono (by have := HB2.out.size; have := HVS.out; omega)))
      have HNL := Lib.hid (H2.out.mono hBA)
      have HML := Lib.hid (H3.out.mono hBA)
      have HRL := Lib.hid ((HRV.out.mono HB2.out).mono hB3)
      have HSL := Lib.hid (HS10.out.mono hB3)
      have HB3A := Lib.hid hB3A
      clear hB3A hBA hc8 hc10 hB3
      have al : Below W3.heap.size W3 (W3.alloc (Obj.cells #[Value.slice none 0 0] 90)) := (Below.refl _ _).alloc (Nat.le_refl _) _
      have k6 : (W3.alloc (Obj.cells #[Value.slice none 0 0] 90)).cell? ⟨w.heap.size + 1, 1, none⟩ = some (.slice a2 n2 c2) := (al.cell (p := ⟨w.heap.size + 1, 1, none⟩) (by show w.heap.size + 1 < _; omega)).trans k5
      have HAL := Lib.hid al; clear al k5
      go_wp2_with fail
      refine (digits_any _ a2 n2 c2 2 (by decide)).mono ?_
      rintro e W5 ⟨rfl, hD5, hb5⟩
      go_wp2_with fail
      rw [World.size_alloc] at hD5 hb5
      have hn5 : W3.heap.size + 5 ≤ W5.heap.size := by have := hD5.size; omega
      have hB5 : Below W3.heap.size W3 W5 := HAL.out.trans (hb5.mono (Nat.le_succ _))
      have hL5 := HL3.out.mono hB5
      have r0 := hL5.r0; have r1 := hL5.r1; have g0 := hL5.g0; have g1 := hL5.g1; have m1 := hL5.q1
      have hB50 := hL5.below
      have k13 : W5.cell? ⟨W3.heap.size, 0, none⟩ = some (.slice none 0 0) := (hb5.cell (p := ⟨W3.heap.size, 0, none⟩) (Nat.lt_succ_self _)).trans (by go_simp)
      have l13 : W5.frozen? ⟨W3.heap.size, 0, none⟩ = false := (hb5.frozen (p := ⟨W3.heap.size, 0, none⟩) (Nat.lt_succ_self _)).trans (by go_simp)
      have hP0 : PMS W5 W5.heap.size b11 b12 W3.heap.size m.natAbs (x.fmod m).natAbs ((1 : Int).fmod m).natAbs (Value.slice ra (Wh.limbs (x.fmod m).natAbs).length rc) (Value.slice sa (Wh.limbs ((1 : Int).fmod m).natAbs).length sc) (.slice none 0 0) :=
        ⟨(hB5.cell (p := ⟨b11, 0, none⟩) hl11).trans c11, (hB5.cell (p := ⟨b12, 0, none⟩) hl12).trans c12, k13, (hB5.frozen (p := ⟨b11, 0, none⟩) hl11).trans f11, (hB5.frozen (p := ⟨b12, 0, none⟩) hl12).trans f12, l13,
          HRL.out.mono hB5, HSL.out.mono hB5, Wh.fmod_natAbs_lt x m hm.1, Wh.fmod_natAbs_lt 1 m hm.1, fun k h _ => apart_of_sl (HRL.out.mono hB5) h, fun k h _ => apart_of_sl (HSL.out.mono hB5) h, .inl rfl⟩
      have hI0 : PMI W5 b11 b12 W3.heap.size m.natAbs y.natAbs ((x ^ y.natAbs).fmod m).natAbs [] W5 :=
        ⟨y.natAbs, _, _, _, _, _, rfl, Wh.pow_rests x m y.natAbs hm.1, hP0, OnlyS.refl _ _⟩
      have hbs : b11 < W5.heap.size ∧ b12 < W5.heap.size ∧ W3.heap.size < W5.heap.size := ⟨by omega, by omega, by omega⟩
      have hw2 : w.heap.size + 4 ≤ W2.heap.size := by omega
      have hMC : ∀ W, OnlyS (Wrote W5.heap.size b11 b12 W3.heap.size) W5 W → W.cell? ⟨w.heap.size + 1 + 1, 1, none⟩ = some (.slice a3 n3 c3) := fun W ho =>
        (ho.cell (p := ⟨w.heap.size + 1 + 1, 1, none⟩) (by rintro (h | h | h | h) <;> simp only at h <;> omega) (by show w.heap.size + 1 + 1 < _; omega)).trans m1
      have hMS : ∀ W, OnlyS (Wrote W5.heap.size b11 b12 W3.heap.size) W5 W → Sl W (.slice a3 n3 c3) (Wh.limbs m.natAbs) := fun W ho =>
        (HML.out.mono hB5).onlyS ho (fun k hk => apart_of_sl H3.out (by rcases hk with h | h | h | h <;> omega))
      have hRC : ∀ W, OnlyS (Wrote W5.heap.size b11 b12 W3.heap.size) W5 W → W.cell? ⟨w.heap.size + 1 + 1 + 1, 0, none⟩ = some (.int .i64 0) ∧ W.cell? ⟨w.heap.size + 1 + 1 + 1, 1, none⟩ = some (.slice none 0 0) ∧ W.frozen? ⟨w.heap.size + 1 + 1 + 1, 0, none⟩ = false ∧ W.frozen? ⟨w.heap.size + 1 + 1 + 1, 1, none⟩ = false ∧ Below w.heap.size w W := fun W ho => by
        have no : ¬ Wrote W5.heap.size b11 b12 W3.heap.size (w.heap.size + 1 + 1 + 1) := by rintro (h | h | h | h) <;> omega
        have lt : w.heap.size + 1 + 1 + 1 < W5.heap.size := by omega
        exact ⟨(ho.cell (p := ⟨w.heap.size + 1 + 1 + 1, 0, none⟩) no lt).trans r0, (ho.cell (p := ⟨w.heap.size + 1 + 1 + 1, 1, none⟩) no lt).trans r1, (ho.frozen (p := ⟨w.heap.size + 1 + 1 + 1, 0, none⟩) no lt).trans g0, (ho.frozen (p := ⟨w.heap.size + 1 + 1 + 1, 1, none⟩) no lt).trans g1,
          hB50.trans (ho.below (fun k hk => by rcases hk with h | h | h | h <;> omega) (by omega))⟩
      have HNL5 := HNL.out.mono hB5
      have HMC := Lib.hid hMC; have HMS := Lib.hid hMS; have HRC := Lib.hid hRC; have HI0 := Lib.hid hI0
      clear hMC hMS hRC hI0 hP0 k13 l13 r0 r1 g0 g1 m1 hL5 hB50 c11 c12 f11 f12 k6 hb5 HAL HFL HB3A HVC HL1 HLV HR1 HRV HM3 HS10 HHV HB2 hb1 HX
      generalize hM : m.natAbs = M at *
      have hM2 : 0 < M ∧ M < 1000000000 := by omega
      generalize hTg : ((x ^ y.natAbs).fmod m).natAbs = Tg at *
      generalize hNN : y.natAbs = NN at *
      generalize hB13 : W3.heap.size = B13 at *
      generalize Wh.limbs (x.fmod m).natAbs = L1 at *
      generalize Wh.limbs ((1 : Int).fmod m).natAbs = L2 at *
      refine wpIn_wide.1 (rangeFunc_mine (F := Fence.wide) (n := 3) rfl (by decide) (gf := 311) (lb := #[.pointer (some ⟨B13 + 1, 0, none⟩), .pointer (some ⟨B13 + 1 + 1 + 1 + 1, 0, none⟩), .pointer (some ⟨B13 + 1 + 1, 0, none⟩), .pointer (some ⟨B13 + 1 + 1 + 1, 0, none⟩)]) rfl trivial (enters_of Tryz.func311 (by kernel_rfl) rfl)
        (encs := fun d : Nat => #[.int .u32 d]) (Wh.dg 2 NN) (fun k => k = W5.heap.size + 2 ∨ (B13 + 1 ≤ k ∧ k ≤ B13 + 1 + 3)) (fun k hk => by omega) ?seq (fun _ => rfl)
        (PMI W5 b11 b12 B13 M NN Tg) (fun s A B h ho => h.mine hbs ho) HI0.out ?a1 ?assign ?body ?done)
      case seq =>
        intro l J W hB hs hJ hY h0
        refine (iter_any NN 2 (B13 + 1) l (W5.heap.size + 2) 2 J ⟨by decide, by decide⟩ (by decide) (.slice a2 n2 c2) W hs (by omega) (hD5.mono hB (by omega)) (HNL5.mono hB) hy hJ hY h0)
      case a1 => exact fun d => { tmps := #[Value.agg #[Value.int IntKind.i64 x.sign, Value.slice a1 n1 c1], Value.agg #[Value.int IntKind.i64 y.sign, Value.slice a2 n2 c2], Value.agg #[Value.int IntKind.i64 m.sign, Value.slice a3 n3 c3], Value.pointer (some ⟨w.heap.size, 0, none⟩), Value.pointer (some ⟨w.heap.size + 1, 0, none⟩), Value.pointer (some ⟨w.heap.size + 1 + 1, 0, none⟩), Value.pointer (some ⟨w.heap.size + 1 + 1 + 1, 0, none⟩), Value.pointer (some ⟨w1.heap.size, 0, none⟩), Value.pointer (some ⟨w1.heap.size + 1, 0, none⟩), v6, Value.pointer (some ⟨b10, 0, none⟩), Value.pointer (some ⟨b11, 0, none⟩), Value.pointer (some ⟨b12, 0, none⟩), Value.pointer (some ⟨B13, 0, none⟩), Value.int .u32 d, Value.tuple #[Value.agg #[Value.int IntKind.i64 (x.fdiv m).sign, Value.slice qa (Wh.limbs (x.fdiv m).natAbs).length qc], Value.agg #[Value.int IntKind.i64 (x.fmod m).sign, Value.slice ra L1.length rc]], Value.agg #[Value.int IntKind.i64 x.sign, Value.slice a1 n1 c1], Value.agg #[Value.int IntKind.i64 m.sign, Value.slice a3 n3 c3], Value.tuple #[Value.agg #[Value.int IntKind.i64 (x.fdiv m).sign, Value.slice qa (Wh.limbs (x.fdiv m).natAbs).length qc], Value.agg #[Value.int IntKind.i64 (x.fmod m).sign, Value.slice ra L1.length rc]], Value.agg #[Value.int IntKind.i64 (x.fdiv m).sign, Value.slice qa (Wh.limbs (x.fdiv m).natAbs).length qc], Value.agg #[Value.int IntKind.i64 (x.fmod m).sign, Value.slice ra L1.length rc], v3, v0, v1, v2, v4, v5, u27, u28, u29, u30, Value.pointer (some ⟨w.heap.size + 1, 1, none⟩), Value.slice a2 n2 c2, iterF (B13 + 1), Value.int .u32 d, undef, undef, undef, undef, undef, undef, undef, undef, undef, undef, undef, undef, undef, undef, undef, undef, undef, undef, undef, undef, undef, undef, undef, undef, undef, undef], defers := [] }
      case assign =>
        intro l d W C hC
        gi_wp2
        exact hC
      case body =>
        rintro l pre d W ⟨V0, s, t, u1, u2, u3, he, hpw, hS, hO⟩ hbig hpre
        obtain ⟨hV, hd, hnext⟩ := Wh.dg_next he hpre
        have hpw2 := Wh.pow_step hV hpw
        have l1 := hS.l1; have l2 := hS.l2
        have ls : (Wh.limbs s).length ≤ 1 := Wh.limbs_length_le (k := 1) (by rw [Wh.R_one]; omega)
        have lt : (Wh.limbs t).length ≤ 1 := Wh.limbs_length_le (k := 1) (by rw [Wh.R_one]; omega)
        have g1 := hS.c1; have g2 := hS.c2; have g3 := hS.c3
        have HS := Lib.hid hS; have HO := Lib.hid hO; have HN := Lib.hid hnext; have HP := Lib.hid hpw2
        clear hS hO hnext hpw2 he hpre hpw
        have hzA : W5.heap.size + 3 ≤ W.heap.size := hbig
        have hend : ∀ k, ((k = W5.heap.size + 2 ∨ (B13 + 1 ≤ k ∧ k ≤ B13 + 1 + 3)) ∨ (W5.heap.size ≤ k ∧ k ≤ W5.heap.size + 1)) → ¬ Wrote (W5.heap.size + 3) b11 b12 B13 k := by
          rintro k hk (h | h | h | h) <;> omega
        have HE := Lib.hid hend; clear hend
        by_cases hb : V0 % 2 = 1
        · rw [hb] at hd
          rw [if_pos hb] at HP
          subst hd
          gi_wp2

          have hrmA : u3 = Value.slice none 0 0 ∨ ∃ rb, W5.heap.size + 3 ≤ rb ∧ RoomAt W rb u3 ∧ Apart rb u2 ∧ Apart rb u1 := by
            rcases HS.out.room with h | ⟨rb, h1, h2, h3, h4⟩
            · exact .inl h
            · exact .inr ⟨rb, h1, h2, ⟨h4, h3⟩⟩
          refine ⟨trivial, ?_⟩
          refine (CallsIn.inRound l (callsIn_wide.2 (mul_room W W5.heap.size u3 u2 u1 t s hzA hrmA HS.out.s2 HS.out.s1 lt ls))).mono ?_
          rintro e Wa ⟨⟨pA, kA, cA, rfl, hsA, hrA⟩, hoA⟩
          have hkA := HS.out.kept hbs.2.2 hzA hoA
          have hRA := HS.out.mul hbs ⟨by omega, by omega⟩ hzA hsA hrA hoA
          have hOA : OnlyS (Wrote (W5.heap.size + 3) b11 b12 B13) W (Wa.setCell ⟨B13, 0, none⟩ (.slice pA kA cA)) := OnlyS.setCell (hoA.mono (fun k _ h => .inr (.inr (.inr h.1)))) (.inr (.inr (.inl rfl))) _
          have hOOA := (OnlyS.refl _ W).trans hOA
          have hWA := HO.out.trans (hOOA.mono (fun k _ h => wrote_more h))
          have mA := HMC.out _ hWA
          have msA := Lib.hid (HMS.out _ hWA)
          have crA := hRA.c3
          have hyA : W5.heap.size + 3 ≤ (Wa.setCell ⟨B13, 0, none⟩ (.slice pA kA cA)).heap.size := Nat.le_trans hzA hOA.size
          obtain ⟨kcA, kfA⟩ := hkA
          have HRA := Lib.hid hRA; have HOOA := Lib.hid hOOA; clear hRA hOA hWA hsA hrA hoA hrmA hOOA
          gi_wp2
          clear kcA kfA crA mA
          generalize Wa.setCell ⟨B13, 0, none⟩ (.slice pA kA cA) = XA at *
          refine ⟨trivial, ?_⟩
          refine (CallsIn.inRound l (callsIn_wide.2 (div_room _ _ _ (t * s) M HRA.out.s3 (Nat.le_trans (Wh.limbs_length_le (k := 2) (by rw [Wh.R_two]; exact Nat.mul_lt_mul'' (by omega) (by omega))) (by decide)) msA.out hM2))).mono ?_
          rintro e Wb ⟨⟨qA, qkA, qdA, ppA, kkA, ccA, rfl, hfA, hsA⟩, hBA⟩
          have hgA := HRA.out.mono hbs hyA hBA
          have gcA := hgA.c2
          have gfA := hgA.f2
          have hSnA := HRA.out.rest2 hbs ⟨by omega, by omega⟩ hyA hBA hM2.1 hsA hfA
          have hOnA : OnlyS (Wrote (W5.heap.size + 3) b11 b12 B13) W (Wb.setCell ⟨b12, 0, none⟩ (.slice ppA kkA ccA)) := HOOA.out.trans (OnlyS.setCell (OnlyS.of_below hBA) (.inr (.inl rfl)) _)
          have e1A := hSnA.c1
          have e3A := hSnA.c3
          have hxA : W5.heap.size + 3 ≤ (Wb.setCell ⟨b12, 0, none⟩ (.slice ppA kkA ccA)).heap.size := Nat.le_trans (by omega) hOnA.size
          have HSA := Lib.hid hSnA; have HOA := Lib.hid hOnA; clear hSnA hOnA hgA hsA hfA HOOA HRA msA hBA hyA

          clear g1 g2 g3
          gi_wp2
          clear gcA gfA e1A e3A
          generalize Wb.setCell ⟨b12, 0, none⟩ (.slice ppA kkA ccA) = Y at *
          have hzB : W5.heap.size + 3 ≤ Y.heap.size := hxA

          have hrmB : (Value.slice pA kA cA) = Value.slice none 0 0 ∨ ∃ rb, W5.heap.size + 3 ≤ rb ∧ RoomAt Y rb (Value.slice pA kA cA) ∧ Apart rb u1 ∧ Apart rb u1 := by
            rcases HSA.out.room with h | ⟨rb, h1, h2, h3, h4⟩
            · exact .inl h
            · exact .inr ⟨rb, h1, h2, ⟨h3, h3⟩⟩
          refine ⟨trivial, ?_⟩
          refine (CallsIn.inRound l (callsIn_wide.2 (mul_room Y W5.heap.size (Value.slice pA kA cA) u1 u1 s s hzB hrmB HSA.out.s1 HSA.out.s1 ls ls))).mono ?_
          rintro e Wc ⟨⟨pB, kB, cB, rfl, hsB, hrB⟩, hoB⟩
          have hkB := HSA.out.kept hbs.2.2 hzB hoB
          have hRB := HSA.out.mul hbs ⟨by omega, by omega⟩ hzB hsB hrB hoB
          have hOB : OnlyS (Wrote (W5.heap.size + 3) b11 b12 B13) Y (Wc.setCell ⟨B13, 0, none⟩ (.slice pB kB cB)) := OnlyS.setCell (hoB.mono (fun k _ h => .inr (.inr (.inr h.1)))) (.inr (.inr (.inl rfl))) _
          have hOOB := HOA.out.trans hOB
          have hWB := HO.out.trans (hOOB.mono (fun k _ h => wrote_more h))
          have mB := HMC.out _ hWB
          have msB := Lib.hid (HMS.out _ hWB)
          have crB := hRB.c3
          have hyB : W5.heap.size + 3 ≤ (Wc.setCell ⟨B13, 0, none⟩ (.slice pB kB cB)).heap.size := Nat.le_trans hzB hOB.size
          obtain ⟨kcB, kfB⟩ := hkB
          have HRB := Lib.hid hRB; have HOOB := Lib.hid hOOB; clear hRB hOB hWB hsB hrB hoB hrmB hOOB
          gi_wp2
          clear kcB kfB crB mB
          generalize Wc.setCell ⟨B13, 0, none⟩ (.slice pB kB cB) = XB at *
          refine ⟨trivial, ?_⟩
          refine (CallsIn.inRound l (callsIn_wide.2 (div_room _ _ _ (s * s) M HRB.out.s3 (Nat.le_trans (Wh.limbs_length_le (k := 2) (by rw [Wh.R_two]; exact Nat.mul_lt_mul'' (by omega) (by omega))) (by decide)) msB.out hM2))).mono ?_
          rintro e Wd ⟨⟨qB, qkB, qdB, ppB, kkB, ccB, rfl, hfB, hsB⟩, hBB⟩
          have hgB := HRB.out.mono hbs hyB hBB
          have gcB := hgB.c1
          have gfB := hgB.f1
          have hSnB := HRB.out.rest1 hbs ⟨by omega, by omega⟩ hyB hBB hM2.1 hsB hfB
          have hOnB : OnlyS (Wrote (W5.heap.size + 3) b11 b12 B13) W (Wd.setCell ⟨b11, 0, none⟩ (.slice ppB kkB ccB)) := HOOB.out.trans (OnlyS.setCell (OnlyS.of_below hBB) (.inl rfl) _)
          have e1B := hSnB.c1
          have e3B := hSnB.c3
          have hxB : W5.heap.size + 3 ≤ (Wd.setCell ⟨b11, 0, none⟩ (.slice ppB kkB ccB)).heap.size := Nat.le_trans (by omega) hOnB.size
          have HSB := Lib.hid hSnB; have HOB := Lib.hid hOnB; clear hSnB hOnB hgB hsB hfB HOOB HRB msB hBB hyB

          gi_wp2
          exact ⟨fun k hk hl => HOB.out.block k (HE.out k hk) hl, HOB.out.size, ⟨V0 / 2, _, _, _, _, _, HN.out, HP.out, HSB.out, HO.out.trans (HOB.out.mono (fun k _ h => wrote_more h))⟩⟩
        · rw [show V0 % 2 = 0 by omega] at hd
          rw [if_neg hb] at HP
          subst hd
          gi_wp2
          have hzB : W5.heap.size + 3 ≤ W.heap.size := hzA

          have hrmB : u3 = Value.slice none 0 0 ∨ ∃ rb, W5.heap.size + 3 ≤ rb ∧ RoomAt W rb u3 ∧ Apart rb u1 ∧ Apart rb u1 := by
            rcases HS.out.room with h | ⟨rb, h1, h2, h3, h4⟩
            · exact .inl h
            · exact .inr ⟨rb, h1, h2, ⟨h3, h3⟩⟩
          refine ⟨trivial, ?_⟩
          refine (CallsIn.inRound l (callsIn_wide.2 (mul_room W W5.heap.size u3 u1 u1 s s hzB hrmB HS.out.s1 HS.out.s1 ls ls))).mono ?_
          rintro e Wc ⟨⟨pB, kB, cB, rfl, hsB, hrB⟩, hoB⟩
          have hkB := HS.out.kept hbs.2.2 hzB hoB
          have hRB := HS.out.mul hbs ⟨by omega, by omega⟩ hzB hsB hrB hoB
          have hOB : OnlyS (Wrote (W5.heap.size + 3) b11 b12 B13) W (Wc.setCell ⟨B13, 0, none⟩ (.slice pB kB cB)) := OnlyS.setCell (hoB.mono (fun k _ h => .inr (.inr (.inr h.1)))) (.inr (.inr (.inl rfl))) _
          have hOOB := (OnlyS.refl _ W).trans hOB
          have hWB := HO.out.trans (hOOB.mono (fun k _ h => wrote_more h))
          have mB := HMC.out _ hWB
          have msB := Lib.hid (HMS.out _ hWB)
          have crB := hRB.c3
          have hyB : W5.heap.size + 3 ≤ (Wc.setCell ⟨B13, 0, none⟩ (.slice pB kB cB)).heap.size := Nat.le_trans hzB hOB.size
          obtain ⟨kcB, kfB⟩ := hkB
          have HRB := Lib.hid hRB; have HOOB := Lib.hid hOOB; clear hRB hOB hWB hsB hrB hoB hrmB hOOB
          gi_wp2
          clear kcB kfB crB mB
          generalize Wc.setCell ⟨B13, 0, none⟩ (.slice pB kB cB) = XB at *
          refine ⟨trivial, ?_⟩
          refine (CallsIn.inRound l (callsIn_wide.2 (div_room _ _ _ (s * s) M HRB.out.s3 (Nat.le_trans (Wh.limbs_length_le (k := 2) (by rw [Wh.R_two]; exact Nat.mul_lt_mul'' (by omega) (by omega))) (by decide)) msB.out hM2))).mono ?_
          rintro e Wd ⟨⟨qB, qkB, qdB, ppB, kkB, ccB, rfl, hfB, hsB⟩, hBB⟩
          have hgB := HRB.out.mono hbs hyB hBB
          have gcB := hgB.c1
          have gfB := hgB.f1
          have hSnB := HRB.out.rest1 hbs ⟨by omega, by omega⟩ hyB hBB hM2.1 hsB hfB
          have hOnB : OnlyS (Wrote (W5.heap.size + 3) b11 b12 B13) W (Wd.setCell ⟨b11, 0, none⟩ (.slice ppB kkB ccB)) := HOOB.out.trans (OnlyS.setCell (OnlyS.of_below hBB) (.inl rfl) _)
          have e1B := hSnB.c1
          have e3B := hSnB.c3
          have hxB : W5.heap.size + 3 ≤ (Wd.setCell ⟨b11, 0, none⟩ (.slice ppB kkB ccB)).heap.size := Nat.le_trans (by omega) hOnB.size
          have HSB := Lib.hid hSnB; have HOB := Lib.hid hOnB; clear hSnB hOnB hgB hsB hfB HOOB HRB msB hBB hyB

          gi_wp2
          exact ⟨fun k hk hl => HOB.out.block k (HE.out k hk) hl, HOB.out.size, ⟨V0 / 2, _, _, _, _, _, HN.out, HP.out, HSB.out, HO.out.trans (HOB.out.mono (fun k _ h => wrote_more h))⟩⟩
      case done =>
        rintro D W hD ⟨V0, s, t, u1, u2, u3, he, hpw, hS, hO⟩ hDD
        have hV0 : V0 = 0 := by
          have h := List.append_right_eq_self.1 he
          rcases Nat.eq_zero_or_pos V0 with e | e
          · exact e
          · rw [Wh.dg_pos (by decide) e] at h; cases h
        subst hV0
        rw [Wh.pow_last hS.l2] at hpw
        have q2 := hS.c2
        have lt : (Wh.limbs t).length ≤ 1 := Wh.limbs_length_le (k := 1) (by rw [Wh.R_one]; have := hS.l2; omega)
        have HS2 := Lib.hid hS.s2
        have hRR := HRC.out W hO
        have hDl : D < W.heap.size := (Array.getElem?_eq_some_iff.1 hDD).1
        have HRR := Lib.hid hRR; clear hRR hS hO he
        have HDD := Lib.hid hDD; clear hDD
        have HPW := Lib.hid hpw; clear hpw
        go_wp2_with fail
        refine (signed_len 1 _ _ W (Wh.ok_limbs t) HS2.out (by omega) (.inr (.inl rfl))).mono ?_
        rintro e W6 ⟨⟨v', rfl, hN⟩, hB6⟩
        rw [Wh.val_limbs, HPW.out, Int.one_mul] at hN
        obtain ⟨sl, rfl, hsl⟩ := hN
        obtain ⟨pa, ca, rfl⟩ := hsl.len
        obtain ⟨R0, R1, G0, G1, hBW⟩ := HRR.out
        have lr : w.heap.size + 1 + 1 + 1 < W.heap.size := by have := hDl; omega
        have R0' := (hB6.cell (p := ⟨w.heap.size + 1 + 1 + 1, 0, none⟩) lr).trans R0
        have R1' := (hB6.cell (p := ⟨w.heap.size + 1 + 1 + 1, 1, none⟩) lr).trans R1
        have G0' := (hB6.frozen (p := ⟨w.heap.size + 1 + 1 + 1, 0, none⟩) lr).trans G0
        have G1' := (hB6.frozen (p := ⟨w.heap.size + 1 + 1 + 1, 1, none⟩) lr).trans G1
        have HSL6 := Lib.hid hsl; clear hsl
        generalize hLT : (Wh.limbs ((Tg : Int)).natAbs) = LT at *
        clear R0 R1 G0 G1
        go_wp2_with fail
        have hK6 : W6.heap[D]? = some (.deferred (some [])) := (hB6.block D hDl).trans HDD.out
        have hne : D ≠ w.heap.size + 1 + 1 + 1 := by omega
        have hK7 := (Below.heap_setCell _ ⟨w.heap.size + 1 + 1 + 1, 1, none⟩ (Value.slice pa LT.length ca) D (by exact hne)).trans ((Below.heap_setCell W6 ⟨w.heap.size + 1 + 1 + 1, 0, none⟩ (Value.int IntKind.i64 (Tg : Int).sign) D (by exact hne)).trans hK6)
        have hDge : w.heap.size ≤ D := by omega
        have hB7 : Below w.heap.size w ((W6.setCell ⟨w.heap.size + 1 + 1 + 1, 0, none⟩ (Value.int IntKind.i64 (Tg : Int).sign)).setCell ⟨w.heap.size + 1 + 1 + 1, 1, none⟩ (Value.slice pa LT.length ca)) := ((hBW.trans (hB6.mono (by omega))).setCell (by show w.heap.size ≤ w.heap.size + 1 + 1 + 1; omega) _).setCell (by show w.heap.size ≤ w.heap.size + 1 + 1 + 1; omega) _
        obtain ⟨t0, t1⟩ := two_cells W6 (w.heap.size + 1 + 1 + 1) (.int .i64 (Tg : Int).sign) (.slice pa LT.length ca) R0' R1'
        have hSL7 := HSL6.out.two _ R0' R1' (nl_int _) (nl_slice _ _ _) (.int .i64 (Tg : Int).sign) (.slice pa LT.length ca)
        have hTI : (Tg : Int) = (x ^ y.natAbs).fmod m := by
          have := Int.fmod_nonneg_of_pos (x ^ NN) hm.1
          rw [hNN]; omega
        rw [hD] at hK7 hDge
        refine ⟨by simp, .inl ⟨_, _, rfl, run_takeDeferred hK7, ?_⟩⟩
        generalize (W6.setCell ⟨w.heap.size + 1 + 1 + 1, 0, none⟩ (Value.int IntKind.i64 (Tg : Int).sign)).setCell ⟨w.heap.size + 1 + 1 + 1, 1, none⟩ (Value.slice pa LT.length ca) = W7 at *
        have hc0 := cell_kept t0 (grownBy_putObj' _ W5.heap.size (.deferred none)) (fun r e => by cases e; exact ⟨_, hK7, rfl⟩)
        have hc1 := cell_kept t1 (grownBy_putObj' _ W5.heap.size (.deferred none)) (fun r e => by cases e; exact ⟨_, hK7, rfl⟩)
        have hSL8 : Sl (W7.putObj W5.heap.size (.deferred none)) _ _ := hSL7.putDef hK7
        have hB8 := hB7.trans (belowK_b (w := w) (Nat.le_refl _) W7 W5.heap.size _ (.deferred none) hDge hK7 rfl rfl)
        clear t0 t1 hK7 hSL7 hB7 HSL6 R0' R1' G0' G1' HRR HDD HPW hn5 hw2 hbs
        refine ⟨.agg #[.int .i64 (Tg : Int).sign, .slice pa LT.length ca], ?_, ⟨_, rfl, ?_⟩, hB8⟩
        · simp [results, Tryz.results226, go_sem, hc0, hc1]
        · rw [← hTI, ← hLT] at *
          exact ⟨_, rfl, hSL8⟩
end Go.Proofs.YteggbenhffmijaaGreatDoor

/- The law of P2 once more, with what holds of any two of the values (so: that new variables are not the same). -/
namespace Go.Proofs.Rt
open Go Go.RowKit
variable {P : Program} {ops : Array Oper} {Q : Exit → Act → World → Prop} {md : Region.Mode} {T : List Nat}
structure GrownP (md : Region.Mode) (ops : Array Oper) (T : List Nat) (V : World) (a0 : Act) (Φ : Nat → Value → World → Prop) (D : Value → Value → Prop) (vals : Nat → Value) (listed : Array Bool) (a : Act) (w : World) : Prop where
  defers : a.defers = a0.defers
  size : a.tmps.size = a0.tmps.size
  rest : ∀ t, (∀ i o, ops[i]? = some o → listed.getD i false = true → o.dst ≠ some t) → a.tmps[t]? = a0.tmps[t]?
  has : ∀ i o d, ops[i]? = some o → listed.getD i false = true → o.dst = some d → a.tmps[d]? = some (vals i)
  below : Below V.heap.size V w
  fact : ∀ i, listed.getD i false = true → Φ i (vals i) w
  closed : Closed md ops listed
  lsize : listed.size = ops.size
  tail : ∀ j, T.contains j = true → listed.getD j false = false
  pair : ∀ i j, listed.getD i false = true → listed.getD j false = true → i ≠ j → D (vals i) (vals j)
theorem wpAny_pairs {n0 m : Nat} {W : List Nat} {V : World} {a0 : Act} {A : (Nat → Value) → Act} {Φ : Nat → Value → World → Prop} {D : Value → Value → Prop} (hB : plainB md ops T = true) (hTl : tailB md ops T W = true) (hF : freeB md ops W = true) (hQ : ∀ (c : List PanicEntry) (a : Act) (d : Option Tmp) (v : Value) (w : World), Q (.panic c) (a.put d v) w → Q (.panic c) a w) (hsz : dstLtB ops m = true) (hms : a0.tmps.size = m)
    (hA : ∀ vals, A vals = fillAll ops T vals a0) (hsel : Region.noSelect ops = true) (hTc : (listedT ops T).toList.count true + n0 = ops.size)
    (hst : ∀ i v w w', Φ i v w → Below w.heap.size w w' → Φ i v w')
    (hop : ∀ i o d, ops[i]? = some o → T.contains i = false → W.contains i = false → o.dst = some d → ∀ vals w, Below V.heap.size V w → (∀ j, (o.after.any fun e => Region.binds md e && e.on == j) = true → Φ j (vals j) w) →
      o.wp P (A vals) w (fun a' w' => a'.defers = (A vals).defers ∧ Φ i (a'.eval (.tmp d)) w' ∧ Below w.heap.size w w' ∧ ∀ j u, j ≠ i → Φ j u w → D (a'.eval (.tmp d)) u ∧ D u (a'.eval (.tmp d))) (fun _ _ _ => False))
    (hpure : ∀ p o d, ops[p]? = some o → W.contains p = true → o.dst = some d → ∀ vals w, Below V.heap.size V w → (∀ j, (o.after.any fun e => Region.binds md e && e.on == j) = true → Φ j (vals j) w) →
      ∃ v, (∀ w', (execOp (A vals).eval o).run P w' = .ok (.value v) w') ∧ Φ p v w ∧ ∀ j u, j ≠ p → Φ j u w → D v u ∧ D u v)
    (hfin : ∀ vals w, Below V.heap.size V w → (∀ i, i < ops.size → T.contains i = false → Φ i (vals i) w) → (∀ i j, i < ops.size → j < ops.size → T.contains i = false → T.contains j = false → i ≠ j → D (vals i) (vals j)) → wpAny P md ops Q n0 (listedT ops T) (A vals) w) :
    ∀ (fuel : Nat) (vals : Nat → Value) (listed : Array Bool) (a : Act) (w : World), listed.toList.count true + fuel = ops.size → GrownP md ops T V a0 Φ D vals listed a w → wpAny P md ops Q fuel listed a w := by
  have hopx : ∀ (i : Nat) (o : Oper), ops[i]? = some o → (ops[i]?).bind (·.dst) = o.dst := fun i o h => by rw [h]; rfl
  -- all but the tail are listed
  have full : ∀ (fuel : Nat) (vals : Nat → Value) (listed : Array Bool) (a : Act) (w : World), listed.toList.count true + fuel = ops.size → GrownP md ops T V a0 Φ D vals listed a w →
      (∀ i, i < ops.size → T.contains i = false → listed.getD i false = true) → wpAny P md ops Q fuel listed a w := by
    intro fuel vals listed a w hc g hall
    have hl : listed = listedT ops T := by
      apply Array.ext
      · rw [g.lsize]; simp [listedT]
      · intro i h1 h2
        have hi : i < ops.size := by rw [← g.lsize]; exact h1
        have e2 : (listedT ops T)[i] = !(T.contains i) := by simp [listedT]
        rw [e2]
        cases hT : T.contains i with
        | true => have := g.tail i hT; simpa [h1] using this
        | false => have := hall i hi hT; simpa [h1] using this
    have ha : a = A vals := by
      rw [hA]
      have hs : a.tmps.size = (fillAll ops T vals a0).tmps.size := by rw [g.size, fillAll, fillL_size]
      have hd : a.defers = (fillAll ops T vals a0).defers := by rw [g.defers, fillAll, fillL_defers]
      have ht : a.tmps = (fillAll ops T vals a0).tmps := by
        apply Array.ext_getElem?
        intro t
        by_cases hx : ∃ i o, ops[i]? = some o ∧ T.contains i = false ∧ o.dst = some t
        · obtain ⟨i, o, hi, hT, hd⟩ := hx
          have hlt : i < ops.size := (Array.getElem?_eq_some_iff.1 hi).1
          rw [g.has i o t hi (hall i hlt hT) hd]
          refine (fillL_has hT (by rw [hopx i o hi]; exact hd) (fun j hj => ?_) _ _ (List.mem_range.2 hlt) (by rw [hms]; exact dstLt hsz hi hd)).symm
          cases hj2 : ops[j]? with
          | none => simp
          | some oj => intro e; exact (plain_at hB hi hT).own j oj hj2 hj t (by simpa using e) hd
        · have hnt : ∀ i, listed.getD i false = true → T.contains i = false := fun i hli => by
            cases hT : T.contains i with
            | false => rfl
            | true => rw [g.tail i hT] at hli; cases hli
          rw [g.rest t fun i o hi hli hd => hx ⟨i, o, hi, hnt i hli, hd⟩]
          refine (fillL_rest _ _ fun i hi hT e => ?_).symm
          cases hi2 : ops[i]? with
          | none => rw [hi2] at e; cases e
          | some o => rw [hopx i o hi2] at e; exact hx ⟨i, o, hi2, hT, e⟩
      cases a; cases h : fillAll ops T vals a0; rw [h] at hd ht; simp only at hd ht; rw [hd, ht]
    rw [ha]
    rw [hl] at hc ⊢
    obtain rfl : fuel = n0 := by omega
    exact hfin vals w g.below (fun i hi hT => g.fact i (hall i hi hT)) fun i j hi hj hTi hTj hij => g.pair i j (hall i hi hTi) (hall j hj hTj) hij
  intro fuel
  induction fuel with
  | zero =>
    intro vals listed a w hc g
    refine full 0 vals listed a w hc g fun i hi hT => ?_
    have : listed.toList.count true = listed.toList.length := by rw [Array.length_toList, g.lsize]; omega
    have h2 := List.count_eq_length.1 this
    have hi' : i < listed.size := by rw [g.lsize]; exact hi
    have := h2 listed[i] (by simp)
    simp [hi', ← this]
  | succ fuel ih =>
    intro vals listed a w hc g
    by_cases hall : ∀ i, i < ops.size → T.contains i = false → listed.getD i false = true
    · exact full (fuel + 1) vals listed a w hc g hall
    · obtain ⟨i0, hi0, hT0, hn0⟩ : ∃ i, i < ops.size ∧ T.contains i = false ∧ listed.getD i false = false := by
        refine Classical.byContradiction fun h => hall fun i hi hT => ?_
        cases hx : listed.getD i false with
        | true => rfl
        | false => exact absurd ⟨i, hi, hT, hx⟩ h
      obtain ⟨i1, hi1, hT1, hr1⟩ : ∃ i, i < ops.size ∧ T.contains i = false ∧ i ∈ Region.ready md ops listed := by
        refine Classical.byContradiction fun hnone => ?_
        have hno : ∀ i, i < ops.size → T.contains i = false → i ∉ Region.ready md ops listed := fun i h1 h2 h3 => hnone ⟨i, h1, h2, h3⟩
        -- the least that is not listed may come up
        have : ∀ k, ∀ i, i ≤ k → i < ops.size → T.contains i = false → listed.getD i false = true := by
          intro k
          induction k with
          | zero =>
            intro i hik hi hT
            obtain ⟨o, ho⟩ : ∃ o, ops[i]? = some o := ⟨ops[i], by simp [hi]⟩
            cases hx : listed.getD i false with
            | true => rfl
            | false =>
              have hm : i ∈ Region.ready md ops listed := mem_ready.2 ⟨by
                have hi' : i < listed.size := by rw [g.lsize]; exact hi
                simpa [hi'] using hx, o, ho, fun e he hb => by have := (plain_at hB ho hT).before e he hb; omega⟩
              exact absurd hm (hno i hi hT)
          | succ k ihk =>
            intro i hik hi hT
            obtain ⟨o, ho⟩ : ∃ o, ops[i]? = some o := ⟨ops[i], by simp [hi]⟩
            cases hx : listed.getD i false with
            | true => rfl
            | false =>
              have hm : i ∈ Region.ready md ops listed := mem_ready.2 ⟨by
                have hi' : i < listed.size := by rw [g.lsize]; exact hi
                simpa [hi'] using hx, o, ho, fun e he hb => by
                  have h1 := (plain_at hB ho hT).before e he hb
                  have hel : e.on < ops.size := by omega
                  refine ihk e.on (by omega) hel ?_
                  cases hy : T.contains e.on with
                  | false => rfl
                  | true => rw [(plain_at hB ho hT).noT e he hb] at hy; cases hy⟩
              exact absurd hm (hno i hi hT)
        rw [this i0 i0 (Nat.le_refl _) hi0 hT0] at hn0
        cases hn0
      -- what the state gives of one that may come up
      have evalEq : ∀ i, i ∈ Region.ready md ops listed → T.contains i = false → ∀ o, ops[i]? = some o → execOp a.eval o = execOp (A vals).eval o := by
        intro i hi hTi o0 ho0
        obtain ⟨hun, o, ho, hdeps⟩ := mem_ready.1 hi
        have hpl := plain_at hB ho hTi
        obtain ⟨d, hd⟩ := hpl.dst
        have hlt : i < ops.size := (Array.getElem?_eq_some_iff.1 ho).1
        have hlt' : i < listed.size := by rw [g.lsize]; exact hlt
        have hif : listed.getD i false = false := by simpa [hlt'] using hun
        rw [ho0] at ho
        obtain rfl := Option.some.inj ho
        have ho := ho0
        have hev : execOp a.eval o0 = execOp (A vals).eval o0 := by
          refine execOp_congr o0 (fun cs b => Region.noSelect_spec hsel i o0 cs b ho) fun x hx => eval_of_get fun t ht => ?_
          subst ht
          have hlk : t ∈ o0.looksAt ops := List.mem_append_left _ (List.mem_filterMap.2 ⟨.tmp t, by simpa using hx, rfl⟩)
          rw [hA]
          by_cases hex : ∃ j oj, ops[j]? = some oj ∧ T.contains j = false ∧ oj.dst = some t
          · obtain ⟨j, oj, hj, hTj, hdj⟩ := hex
            have hjl : j < ops.size := (Array.getElem?_eq_some_iff.1 hj).1
            have hlj : listed.getD j false = true := by
              by_cases hji : j = i
              · subst hji
                rw [ho] at hj
                obtain rfl := Option.some.inj hj
                exact absurd hlk (hpl.self t hdj)
              · obtain ⟨e, he, hb, heq⟩ := hpl.looks j oj hj hji hTj t hdj hlk
                rw [← heq]; exact hdeps e he hb
            rw [g.has j oj t hj hlj hdj]
            refine (fillL_has hTj (by rw [hopx j oj hj]; exact hdj) (fun k hk => ?_) _ _ (List.mem_range.2 hjl) (by rw [hms]; exact dstLt hsz hj hdj)).symm
            cases hk2 : ops[k]? with
            | none => simp
            | some ok => intro e; exact (plain_at hB hj hTj).own k ok hk2 hk t (by simpa using e) hdj
          · have hnt : ∀ i, listed.getD i false = true → T.contains i = false := fun i hli => by
              cases hT : T.contains i with
              | false => rfl
              | true => rw [g.tail i hT] at hli; cases hli
            rw [g.rest t fun j oj hj hlj hdj => hex ⟨j, oj, hj, hnt j hlj, hdj⟩]
            refine (fillL_rest _ _ fun j hj hT e => ?_).symm
            cases hj2 : ops[j]? with
            | none => rw [hj2] at e; cases e
            | some oj => rw [hopx j oj hj2] at e; exact hex ⟨j, oj, hj2, hT, e⟩
        exact hev
      have upd : ∀ i, i ∈ Region.ready md ops listed → T.contains i = false → ∀ o, ops[i]? = some o → ∀ v w', Φ i v w' → Below w.heap.size w w' → (∀ j u, j ≠ i → Φ j u w → D v u ∧ D u v) →
          (listed.setIfInBounds i true).toList.count true = listed.toList.count true + 1 ∧ GrownP md ops T V a0 Φ D (fun k => if k = i then v else vals k) (listed.setIfInBounds i true) (a.put o.dst v) w' := by
        intro i hi hTi o0 ho0 v w' hΦ hbw hpr
        obtain ⟨hun, o, ho, hdeps⟩ := mem_ready.1 hi
        rw [ho0] at ho
        obtain rfl := Option.some.inj ho
        have ho := ho0
        have hpl := plain_at hB ho hTi
        obtain ⟨d, hd⟩ := hpl.dst
        have hlt : i < ops.size := (Array.getElem?_eq_some_iff.1 ho).1
        have hlt' : i < listed.size := by rw [g.lsize]; exact hlt
        have hif : listed.getD i false = false := by simpa [hlt'] using hun
        refine ⟨count_set hlt' hif, ?_⟩
        have hlset : ∀ k, (listed.setIfInBounds i true).getD k false = true → k = i ∨ listed.getD k false = true := fun k hk => by
          by_cases hki : k = i
          · exact .inl hki
          · rw [getD_set_ne false (Ne.symm hki)] at hk; exact .inr hk
        refine ⟨by rw [put_defers]; exact g.defers, by rw [put_size]; exact g.size, fun t ht => ?_, fun k ok dk hk hlk hdk => ?_, g.below.trans (hbw.mono g.below.size), fun k hk => ?_, closed_set g.closed hi, by simpa using g.lsize, fun j hj => ?_, fun j k hj hk hjk => ?_⟩
        · rw [put_get_ne (ht i o0 ho (by simp [hlt']))]
          exact g.rest t fun k ok hk hlk => ht k ok hk (getD_set_true hlk)
        · rcases hlset k hlk with rfl | hlk'
          · rw [ho] at hk
            obtain rfl := Option.some.inj hk
            simp only [if_true]
            rw [hdk]
            exact put_get (by rw [g.size, hms]; exact dstLt hsz ho hdk)
          · have hki : k ≠ i := fun e => by rw [e, hif] at hlk'; cases hlk'
            simp only [if_neg hki]
            rw [put_get_ne (hpl.own k ok hk hki dk hdk)]
            exact g.has k ok dk hk hlk' hdk
        · rcases hlset k hk with rfl | hk'
          · simp only [if_true]; exact hΦ
          · have hki : k ≠ i := fun e => by rw [e, hif] at hk'; cases hk'
            simp only [if_neg hki]
            exact hst _ _ _ _ (g.fact k hk') hbw
        · have hji : i ≠ j := fun e => by rw [e, hj] at hTi; cases hTi
          rw [getD_set_ne false hji]; exact g.tail j hj
        · show D (if j = i then v else vals j) (if k = i then v else vals k)
          rcases hlset j hj with rfl | hj'
          · have hki : k ≠ j := fun e => hjk e.symm
            rw [if_pos rfl, if_neg hki]
            rcases hlset k hk with e | hk'
            · exact absurd e hki
            · exact (hpr k _ hki (g.fact k hk')).1
          · have hji : j ≠ i := fun e => by rw [e, hif] at hj'; cases hj'
            rw [if_neg hji]
            rcases hlset k hk with rfl | hk'
            · rw [if_pos rfl]; exact (hpr j _ hji (g.fact j hj')).2
            · have hki : k ≠ i := fun e => by rw [e, hif] at hk'; cases hk'
              rw [if_neg hki]; exact g.pair j k hj' hk' hjk
      by_cases hW : ∃ p ∈ Region.ready md ops listed, W.contains p = true ∧ T.contains p = false
      · obtain ⟨p, hp, hWp, hTp⟩ := hW
        obtain ⟨hun, o, ho, hdeps⟩ := mem_ready.1 hp
        have hpl := plain_at hB ho hTp
        obtain ⟨d, hd⟩ := hpl.dst
        obtain ⟨v, hv, hΦ, hpr⟩ := hpure p o d ho hWp hd vals w g.below fun j hj => by
          obtain ⟨e, he, h⟩ := Array.any_eq_true'.1 hj
          rw [Bool.and_eq_true] at h
          have : e.on = j := by simpa using h.2
          rw [← this]
          exact g.fact _ (hdeps e he h.1)
        obtain ⟨hcn, hg⟩ := upd p hp hTp o ho v w hΦ (Below.refl _ _) hpr
        refine wpAny_first (v := v) ho (Region.noSelect_spec hsel) (fun c a w => hQ c a _ _ w) fuel listed a w (fun j oj hj hji hun hno => free_at hF ho hWp hj hji (fun e he hb heq => by
          have h1 := hdeps e he hb
          rw [heq] at h1
          have hjl : j < listed.size := by rw [g.lsize]; exact (Array.getElem?_eq_some_iff.1 hj).1
          simp [hjl] at h1 hun
          rw [h1] at hun; cases hun) hno) hp (.inl ⟨by simp [Region.wanted, hpl.guard], fun w' => by rw [evalEq p hp hTp o ho]; exact hv w'⟩) (ih _ _ _ _ (by rw [hcn]; omega) hg)
      · have hW1 : W.contains i1 = false := by
          cases hx : W.contains i1 with
          | false => rfl
          | true => exact absurd ⟨i1, hr1, hx, hT1⟩ hW
        have hn1 : listed.getD i1 false = false := by
          have h0 := (mem_ready.1 hr1).1
          have hl1 : i1 < listed.size := by rw [g.lsize]; exact hi1
          simpa [hl1] using h0
        refine ⟨fun hr => (by rw [hr] at hr1; cases hr1), fun i hi => ?_⟩
        have hTi : T.contains i = false := by
          obtain ⟨_, oj, hoj, hallj⟩ := mem_ready.1 hi
          cases hx : T.contains i with
          | false => rfl
          | true =>
            have h1 := List.all_eq_true.1 hTl i1 (List.mem_range.2 hi1)
            rw [hT1, hW1, Bool.false_or, Bool.false_or] at h1
            exact (waits_no g.closed hn1 _ i oj (List.all_eq_true.1 h1 i (by simpa using hx)) hoj hallj).elim
        obtain ⟨hun, o, ho, hdeps⟩ := mem_ready.1 hi
        have hpl := plain_at hB ho hTi
        obtain ⟨d, hd⟩ := hpl.dst
        have hev := evalEq i hi hTi o ho
        have hWi : W.contains i = false := by
          cases hx : W.contains i with
          | false => rfl
          | true => exact absurd ⟨i, hi, hx, hTi⟩ hW
        have hh := hop i o d ho hTi hWi hd vals w g.below fun j hj => by
          obtain ⟨e, he, h⟩ := Array.any_eq_true'.1 hj
          rw [Bool.and_eq_true] at h
          have : e.on = j := by simpa using h.2
          rw [← this]
          exact g.fact _ (hdeps e he h.1)
        have hds : d < (A vals).tmps.size := by rw [hA, fillAll, fillL_size, hms]; exact dstLt hsz ho hd
        have ht := wp_transfer (Q := Q) (b := a) (R := fun v w' => Φ i v w' ∧ Below w.heap.size w w' ∧ ∀ j u, j ≠ i → Φ j u w → D v u ∧ D u v) hd hds hev hh
        unfold wpOp
        simp only [ho]
        rw [show Region.wanted o (yielded ops a.tmps) = true from by simp [Region.wanted, hpl.guard]]
        simp only [if_true]
        refine .inl (Oper.wp_mono ?_ ht)
        rintro a' w' ⟨v, rfl, hΦ, hbw, hpr⟩
        obtain ⟨hcn, hg⟩ := upd i hi hTi o ho v w' hΦ hbw hpr
        exact ih _ _ _ _ (by rw [hcn]; omega) hg
/-- THE LAW: each operation but the tail is walked once, at the state where all slots are filled, in a world in which what stood has stayed; what it yields is told by a fact that new memory does not turn -/
theorem wp_region_pairs {id n0 : Nat} {a0 : Act} {w : World} (T W : List Nat) (m : Nat) (A : (Nat → Value) → Act) (Φ : Nat → Value → World → Prop) (D : Value → Value → Prop) (hm : P.follows .mixedOrders = true) (hB : plainB .any ops T = true) (hTl : tailB .any ops T W = true) (hF : freeB .any ops W = true) (hQ : ∀ (c : List PanicEntry) (a : Act) (d : Option Tmp) (v : Value) (w : World), Q (.panic c) (a.put d v) w → Q (.panic c) a w) (hsz : dstLtB ops m = true) (hms : a0.tmps.size = m)
    (hA : ∀ vals, A vals = fillAll ops T vals a0) (hsel : Region.noSelect ops = true) (hTc : (listedT ops T).toList.count true + n0 = ops.size)
    (hst : ∀ i v w w', Φ i v w → Below w.heap.size w w' → Φ i v w')
    (hop : ∀ i o d, ops[i]? = some o → T.contains i = false → W.contains i = false → o.dst = some d → ∀ vals w', Below w.heap.size w w' → (∀ j, (o.after.any fun e => Region.binds .any e && e.on == j) = true → Φ j (vals j) w') →
      o.wp P (A vals) w' (fun a' w'' => a'.defers = (A vals).defers ∧ Φ i (a'.eval (.tmp d)) w'' ∧ Below w'.heap.size w' w'' ∧ ∀ j u, j ≠ i → Φ j u w' → D (a'.eval (.tmp d)) u ∧ D u (a'.eval (.tmp d))) (fun _ _ _ => False))
    (hpure : ∀ p o d, ops[p]? = some o → W.contains p = true → o.dst = some d → ∀ vals w', Below w.heap.size w w' → (∀ j, (o.after.any fun e => Region.binds .any e && e.on == j) = true → Φ j (vals j) w') →
      ∃ v, (∀ w'', (execOp (A vals).eval o).run P w'' = .ok (.value v) w'') ∧ Φ p v w' ∧ ∀ j u, j ≠ p → Φ j u w' → D v u ∧ D u v)
    (hfin : ∀ vals w', Below w.heap.size w w' → (∀ i, i < ops.size → T.contains i = false → Φ i (vals i) w') → (∀ i j, i < ops.size → j < ops.size → T.contains i = false → T.contains j = false → i ≠ j → D (vals i) (vals j)) → wpAny P .any ops Q n0 (listedT ops T) (A vals) w') :
    (Code.region id ops true).wp P Q a0 w := by
  refine wp_region_any hm ?_
  have e0 : ∀ j, (Array.replicate ops.size false).getD j false = false := fun j => by
    by_cases h : j < ops.size <;> simp [h]
  refine wpAny_pairs (V := w.drew) hB hTl hF hQ hsz hms hA hsel hTc hst (fun i o d h1 h2 h3 h4 vals w' hb => hop i o d h1 h2 h3 h4 vals w' ((Below.refl _ _).drew.trans hb)) (fun p o d h1 h2 h3 vals w' hb => hpure p o d h1 h2 h3 vals w' ((Below.refl _ _).drew.trans hb)) (fun vals w' hb => hfin vals w' ((Below.refl _ _).drew.trans hb)) ops.size (fun _ => undef) (Array.replicate ops.size false) a0 w.drew (by simp [List.count_replicate]) ?_
  have no : ∀ j, (Array.replicate ops.size false).getD j false = true → False := fun j h => (by rw [e0] at h; cases h)
  exact ⟨rfl, rfl, fun _ _ => rfl, fun i _ _ _ h => (no i h).elim, Below.refl _ _, fun i h => (no i h).elim, fun k _ _ h => (no k h).elim, by simp, fun j _ => e0 j, fun i _ h => (no i h).elim⟩
end Go.Proofs.Rt

/- WALKS, PowMod: the reader's own function. -/
namespace Go.Proofs.YteggbenhffmijaaGreatDoor
open Go.RowKit
/-- two variables are not one -/
def Two2 (v u : Value) : Prop := ∀ b c, v = .pointer (some ⟨b, 0, none⟩) → u = .pointer (some ⟨c, 0, none⟩) → b ≠ c
theorem two2_of {v u : Value} (h : ∀ p, v ≠ .pointer p) : Two2 v u ∧ Two2 u v := ⟨fun _ _ e _ => absurd e (h _), fun _ _ _ e => absurd e (h _)⟩
/-- a variable for a number, not written yet -/
structure Blank (w : World) (b : Nat) : Prop where
  c0 : w.cell? ⟨b, 0, none⟩ = some (.int .i64 0)
  c1 : w.cell? ⟨b, 1, none⟩ = some (.slice none 0 0)
  f0 : w.frozen? ⟨b, 0, none⟩ = false
  f1 : w.frozen? ⟨b, 1, none⟩ = false
theorem Blank.far {w : World} {b b' : Nat} (h : Blank w b) (hne : b' ≠ b) (x y : Value) : Blank ((w.setCell ⟨b', 0, none⟩ x).setCell ⟨b', 1, none⟩ y) b :=
  ⟨far1 h.c0 hne, far1 h.c1 hne, by simp only [World.frozen?_setCell]; exact h.f0, by simp only [World.frozen?_setCell]; exact h.f1⟩
/-- a variable that holds a number -/
def NumAt (w : World) (b : Nat) (x : Int) : Prop := ∃ a c, w.cell? ⟨b, 0, none⟩ = some (.int .i64 x.sign) ∧ w.cell? ⟨b, 1, none⟩ = some (.slice a (Wh.limbs x.natAbs).length c) ∧ Sl w (.slice a (Wh.limbs x.natAbs).length c) (Wh.limbs x.natAbs)
theorem NumAt.mono {w w' : World} {b : Nat} {x : Int} (h : NumAt w b x) (hb : Below w.heap.size w w') (hl : b < w.heap.size) : NumAt w' b x := by
  obtain ⟨a, c, h0, h1, h2⟩ := h
  exact ⟨a, c, (hb.cell (p := ⟨b, 0, none⟩) hl).trans h0, (hb.cell (p := ⟨b, 1, none⟩) hl).trans h1, h2.mono hb⟩
theorem Blank.put {w : World} {b : Nat} {x : Int} {a : Option Addr} {c : Nat} (h : Blank w b) (hs : Sl w (.slice a (Wh.limbs x.natAbs).length c) (Wh.limbs x.natAbs)) : NumAt ((w.setCell ⟨b, 0, none⟩ (.int .i64 x.sign)).setCell ⟨b, 1, none⟩ (.slice a (Wh.limbs x.natAbs).length c)) b x := by
  obtain ⟨t0, t1⟩ := two_cells w b (.int .i64 x.sign) (.slice a (Wh.limbs x.natAbs).length c) h.c0 h.c1
  exact ⟨a, c, t0, t1, hs.store2 b h.c0 h.c1 _ _⟩
theorem NumAt.far {w : World} {b b' : Nat} {z : Int} (h : NumAt w b z) (k : Blank w b') (hne : b' ≠ b) (x y : Value) : NumAt ((w.setCell ⟨b', 0, none⟩ x).setCell ⟨b', 1, none⟩ y) b z := by
  obtain ⟨a, c, h0, h1, h2⟩ := h
  exact ⟨a, c, far1 h0 hne, far1 h1 hne, h2.store2 b' k.c0 k.c1 _ _⟩
theorem Fresh.blank {n : Nat} {w : World} {v : Value} (h : Fresh n w v) : ∃ b, v = .pointer (some ⟨b, 0, none⟩) ∧ n ≤ b ∧ b < w.heap.size ∧ Blank w b := by
  obtain ⟨b, e, hn, hl, h0, h1, f0, f1⟩ := h; exact ⟨b, e, hn, hl, h0, h1, f0, f1⟩
/-- what each operation of PowMod$1's first region yields -/
def PW (n : Nat) (x y m : Int) : Nat → Value → World → Prop
  | 0, v, _ => v = txt x
  | 1, v, w => Num w v x
  | 2, v, _ => v = txt y
  | 3, v, w => Num w v y
  | 4, v, _ => v = txt m
  | 5, v, w => Num w v m
  | 6, v, w | 7, v, w | 8, v, w => Fresh n w v
  | _, v, _ => v = .bool true
theorem pw_stays (n : Nat) (x y m : Int) : ∀ i v w w', PW n x y m i v w → Below w.heap.size w w' → PW n x y m i v w' := by
  intro i v w w' h hb
  match i, h with
  | 0, h => exact h
  | 1, h => exact Num.mono h hb
  | 2, h => exact h
  | 3, h => exact Num.mono h hb
  | 4, h => exact h
  | 5, h => exact Num.mono h hb
  | 6, h => exact Fresh.mono h hb
  | 7, h => exact Fresh.mono h hb
  | 8, h => exact Fresh.mono h hb
  | _ + 9, h => exact h
theorem num_np {w : World} {v : Value} {x : Int} (h : Num w v x) : ∀ p, v ≠ .pointer p := by
  obtain ⟨s, rfl, _⟩ := h; intro p e; cases e
theorem txt_np {v : Value} {x : Int} (h : v = txt x) : ∀ p, v ≠ .pointer p := by
  rintro p rfl; unfold txt at h; cases h
theorem pw_old {n : Nat} {x y m : Int} {j : Nat} {u : Value} {w : World} (h : PW n x y m j u w) : ∀ c, u = .pointer (some ⟨c, 0, none⟩) → c < w.heap.size := by
  intro c e
  subst e
  match j, h with
  | 0, h => exact absurd rfl (txt_np h _)
  | 1, h => exact absurd rfl (num_np h _)
  | 2, h => exact absurd rfl (txt_np h _)
  | 3, h => exact absurd rfl (num_np h _)
  | 4, h => exact absurd rfl (txt_np h _)
  | 5, h => exact absurd rfl (num_np h _)
  | 6, h | 7, h | 8, h =>
    obtain ⟨b, e, _, hl, _⟩ := h
    cases e; exact hl
  | _ + 9, h => cases h
theorem pw_new {n : Nat} {x y m : Int} {w : World} (B : Nat) (hB : w.heap.size ≤ B) : ∀ j u, PW n x y m j u w → Two2 (.pointer (some ⟨B, 0, none⟩)) u ∧ Two2 u (.pointer (some ⟨B, 0, none⟩)) := by
  intro j u h
  refine ⟨fun b c e1 e2 => ?_, fun b c e1 e2 => ?_⟩
  · cases e1; have := pw_old h c e2; omega
  · cases e2; have := pw_old h b e1; omega
theorem sign_any (w : World) (x : Int) (a : Option Addr) (n c : Nat) :
    Calls Tryz.prog 147 #[.agg #[.int .i64 x, .slice a n c]] w fun e w' => e = .returned (.int .i64 x) ∧ Below w.heap.size w w' := by
  go_enter Tryz.func147, Tryz.ntmps147
  go_wp2
  go_ret
  exact ⟨rfl, (Below.refl _ _).alloc (Nat.le_refl _) _⟩
end Go.Proofs.YteggbenhffmijaaGreatDoor

/- WALKS, powers 1: Power, of numbers that are not long. -/
namespace Go.Proofs.YteggbenhffmijaaGreatDoor
open Go.RowKit
/-- a variable that holds a number and may be written -/
structure NumBox (w : World) (b : Nat) (x : Int) : Prop where
  num : NumAt w b x
  f0 : w.frozen? ⟨b, 0, none⟩ = false
  f1 : w.frozen? ⟨b, 1, none⟩ = false
theorem NumBox.mono {w w' : World} {b : Nat} {x : Int} (h : NumBox w b x) (hb : Below w.heap.size w w') (hl : b < w.heap.size) : NumBox w' b x :=
  ⟨h.num.mono hb hl, (hb.frozen (p := ⟨b, 0, none⟩) hl).trans h.f0, (hb.frozen (p := ⟨b, 1, none⟩) hl).trans h.f1⟩
theorem Blank.mono {w w' : World} {b : Nat} (h : Blank w b) (hb : Below w.heap.size w w') (hl : b < w.heap.size) : Blank w' b :=
  ⟨(hb.cell (p := ⟨b, 0, none⟩) hl).trans h.c0, (hb.cell (p := ⟨b, 1, none⟩) hl).trans h.c1, (hb.frozen (p := ⟨b, 0, none⟩) hl).trans h.f0, (hb.frozen (p := ⟨b, 1, none⟩) hl).trans h.f1⟩
theorem NumBox.put {w : World} {b : Nat} {x z : Int} {a : Option Addr} {c : Nat} (h : NumBox w b x) (hs : Sl w (.slice a (Wh.limbs z.natAbs).length c) (Wh.limbs z.natAbs)) : NumBox ((w.setCell ⟨b, 0, none⟩ (.int .i64 z.sign)).setCell ⟨b, 1, none⟩ (.slice a (Wh.limbs z.natAbs).length c)) b z := by
  obtain ⟨⟨a', c', h0, h1, h2⟩, f0, f1⟩ := h
  obtain ⟨t0, t1⟩ := two_cells w b (.int .i64 z.sign) (.slice a (Wh.limbs z.natAbs).length c) h0 h1
  exact ⟨⟨a, c, t0, t1, hs.two b h0 h1 (nl_int _) (nl_slice _ _ _) _ _⟩, by simp only [World.frozen?_setCell]; exact f0, by simp only [World.frozen?_setCell]; exact f1⟩
theorem NumBox.far {w : World} {b b' : Nat} {z y : Int} (h : NumBox w b z) (k : NumBox w b' y) (hne : b' ≠ b) (u v : Value) : NumBox ((w.setCell ⟨b', 0, none⟩ u).setCell ⟨b', 1, none⟩ v) b z := by
  obtain ⟨⟨a, c, h0, h1, h2⟩, f0, f1⟩ := h
  obtain ⟨⟨a', c', k0, k1, k2⟩, _, _⟩ := k
  exact ⟨⟨a, c, far1 h0 hne, far1 h1 hne, h2.two b' k0 k1 (nl_int _) (nl_slice _ _ _) _ _⟩, by simp only [World.frozen?_setCell]; exact f0, by simp only [World.frozen?_setCell]; exact f1⟩
/-- the memory of Power -/
structure PowM (w wr : World) (bR B : Nat) (y z : Int) : Prop where
  a : NumBox wr w.heap.size y
  r : NumBox wr bR z
  t : Blank wr (w.heap.size + 1)
  below : Below w.heap.size w wr
  lt : w.heap.size + 1 < bR
  size : bR < wr.heap.size
theorem PowM.mono {w wr w' : World} {bR B : Nat} {y z : Int} (h : PowM w wr bR B y z) (hb : Below wr.heap.size wr w') : PowM w w' bR B y z :=
  ⟨h.a.mono hb (by have := h.lt; have := h.size; omega), h.r.mono hb h.size, h.t.mono hb (by have := h.lt; have := h.size; omega), h.below.trans (hb.mono h.below.size), h.lt, Nat.lt_of_lt_of_le h.size hb.size⟩
theorem PowM.putR {w wr : World} {bR B : Nat} {y z u : Int} {a : Option Addr} {c : Nat} (h : PowM w wr bR B y z) (hs : Sl wr (.slice a (Wh.limbs u.natAbs).length c) (Wh.limbs u.natAbs)) : PowM w ((wr.setCell ⟨bR, 0, none⟩ (.int .i64 u.sign)).setCell ⟨bR, 1, none⟩ (.slice a (Wh.limbs u.natAbs).length c)) bR B y u :=
  ⟨h.a.far h.r (by have := h.lt; omega) _ _, h.r.put hs, h.t.far (by have := h.lt; omega) _ _, (h.below.setCell (by show w.heap.size ≤ bR; have := h.lt; omega) _).setCell (by show w.heap.size ≤ bR; have := h.lt; omega) _, h.lt, by simpa using h.size⟩
theorem PowM.putA {w wr : World} {bR B : Nat} {y z u : Int} {a : Option Addr} {c : Nat} (h : PowM w wr bR B y z) (hs : Sl wr (.slice a (Wh.limbs u.natAbs).length c) (Wh.limbs u.natAbs)) : PowM w ((wr.setCell ⟨w.heap.size, 0, none⟩ (.int .i64 u.sign)).setCell ⟨w.heap.size, 1, none⟩ (.slice a (Wh.limbs u.natAbs).length c)) bR B u z :=
  ⟨h.a.put hs, h.r.far h.a (by have := h.lt; omega) _ _, h.t.far (by omega) _ _, (h.below.setCell (Nat.le_refl _) _).setCell (Nat.le_refl _) _, h.lt, by simpa using h.size⟩
theorem half_odd {s v m n : Nat} (ho : v % 2 = 1) (h : s * v + m = n) : 2 * s * (v / 2) + (m + s) = n := by
  obtain ⟨k, rfl⟩ : ∃ k, v = 2 * k + 1 := ⟨v / 2, by omega⟩
  rw [show (2 * k + 1) / 2 = k by omega, Nat.mul_comm 2 s, Nat.mul_assoc]; rw [Nat.mul_add, Nat.mul_one] at h; omega
theorem half_odd1 {s v m n : Nat} (ho : v % 2 = 1) (h1 : ¬ 1 < v) (h : s * v + m = n) : s * (v / 2) + (m + s) = n := by
  obtain rfl : v = 1 := by omega
  simp at h ⊢; omega
theorem half_even {s v m n : Nat} (ho : ¬ v % 2 = 1) (h : s * v + m = n) : 2 * s * (v / 2) + m = n := by
  obtain ⟨k, rfl⟩ : ∃ k, v = 2 * k := ⟨v / 2, by omega⟩
  rw [show 2 * k / 2 = k by omega, Nat.mul_comm 2 s, Nat.mul_assoc]; exact h
theorem twice_le {s v m n : Nat} (h1 : 1 < v) (h : s * v + m = n) : 2 * s ≤ n := by
  have := Nat.mul_le_mul_left s (show 2 ≤ v by omega); omega
theorem pow_twice (x : Int) (s : Nat) : x ^ (2 * s) = x ^ s * x ^ s := by rw [Nat.two_mul, Int.pow_add]
set_option maxRecDepth 100000 in
set_option maxHeartbeats 1000000 in
theorem power_any (w : World) (x : Int) (n : Nat) (a : Option Addr) (c : Nat) (h : Sl w (.slice a (Wh.limbs x.natAbs).length c) (Wh.limbs x.natAbs)) (hn : n ≤ 100000) (hs : ∀ k, k ≤ n → (Wh.limbs (x ^ k).natAbs).length < 32) :
    Calls Tryz.prog 195 #[.agg #[.int .i64 x.sign, .slice a (Wh.limbs x.natAbs).length c], .int .i64 n] w fun e w' => (∃ v', e = .returned v' ∧ Num w' v' (x ^ n)) ∧ Below w.heap.size w w' := by
  have H := Lib.hid h; clear h
  have HS := Lib.hid hs; clear hs
  go_enter Tryz.func195, Tryz.ntmps195
  go_wp2_with fail
  refine (small_any _ 1 (by decide)).mono ?_
  rintro e w1 ⟨⟨v1, rfl, hn1⟩, hb1⟩
  obtain ⟨s1, rfl, k1⟩ := hn1
  obtain ⟨p1, c1, rfl⟩ := k1.len
  go_wp2_with fail
  have hV : Below w1.heap.size w1 (w1.alloc (Obj.cells #[Value.int IntKind.i64 1, Value.slice p1 (Wh.limbs 1).length c1] 92)) := (Below.refl _ _).alloc (Nat.le_refl _) _
  have hn1 : w.heap.size + 2 ≤ w1.heap.size := by have := hb1.size; simpa using this
  have hM0 : PowM w (w1.alloc (Obj.cells #[Value.int IntKind.i64 1, Value.slice p1 (Wh.limbs 1).length c1] 92)) w1.heap.size 0 (x ^ 1) (x ^ 0) := by
    have hal : Below w.heap.size w ((w.alloc (Obj.cells #[.int .i64 x.sign, .slice a (Wh.limbs x.natAbs).length c] 92)).alloc (Obj.cells #[.int .i64 0, .slice none 0 0] 92)) := ((Below.refl _ _).alloc (Nat.le_refl _) _).alloc (by simp) _
    have hb2 := hb1.trans (hV.mono hb1.size)
    have e1 : x ^ 1 = x := by simp [Int.pow_succ]
    have e0 : x ^ 0 = 1 := by simp
    have cc : ∀ b i, b < w.heap.size + 2 → (w1.alloc (Obj.cells #[Value.int IntKind.i64 1, Value.slice p1 (Wh.limbs 1).length c1] 92)).cell? ⟨b, i, none⟩ = _ := fun b i h => hb2.cell (p := ⟨b, i, none⟩) (by simp; omega)
    have ff : ∀ b i, b < w.heap.size + 2 → (w1.alloc (Obj.cells #[Value.int IntKind.i64 1, Value.slice p1 (Wh.limbs 1).length c1] 92)).frozen? ⟨b, i, none⟩ = _ := fun b i h => hb2.frozen (p := ⟨b, i, none⟩) (by simp; omega)
    rw [e1, e0]
    refine ⟨⟨⟨a, c, (cc _ _ (by omega)).trans (by go_simp), (cc _ _ (by omega)).trans (by go_simp), (H.out.mono hal).mono hb2⟩, (ff _ _ (by omega)).trans (by go_simp), (ff _ _ (by omega)).trans (by go_simp)⟩,
      ⟨⟨p1, c1, by go_simp, by go_simp, k1.mono hV⟩, by go_simp, by go_simp⟩,
      ⟨(cc _ _ (by omega)).trans (by go_simp), (cc _ _ (by omega)).trans (by go_simp), (ff _ _ (by omega)).trans (by go_simp), (ff _ _ (by omega)).trans (by go_simp)⟩,
      hal.trans (hb2.mono hal.size), by omega, by simp⟩
  have HM0 := Lib.hid hM0
  clear hM0 hV hb1 k1
  generalize (w1.alloc (Obj.cells #[Value.int IntKind.i64 1, Value.slice p1 (Wh.limbs 1).length c1] 92)) = V at *
  obtain ⟨bR, hbR⟩ : ∃ bR, bR = w1.heap.size := ⟨_, rfl⟩
  rw [← hbR] at HM0 ⊢
  clear hbR hn1
  go_loopw [1] (fun i wr => ∃ v s m : Nat, i = .int .i64 v ∧ v ≤ n ∧ Hid (s * v + m = n ∧ (s ≤ n ∨ v = 0)) ∧ Hid (PowM w wr bR 0 (x ^ s) (x ^ m))) (fun i _ => (intOf i).toNat)
  case atStart => exact ⟨n, 1, 0, rfl, Nat.le_refl _, Lib.hid ⟨by omega, by omega⟩, HM0⟩
  case round =>
    clear HM0
    obtain ⟨v, s, m, rfl, hv, HV, HM⟩ := hrel
    by_cases h0 : v = 0
    · subst h0
      have hm : m = n := by have := HV.out.1; omega
      subst hm
      have L := HM.out
      obtain ⟨⟨ra, rc, r0, r1, rs⟩, _, _⟩ := L.r
      obtain ⟨t0, t1, g0, g1⟩ := L.t
      have hst := rs.store2 (w.heap.size + 1) t0 t1 (.int .i64 (x ^ m).sign) (.slice ra (Wh.limbs (x ^ m).natAbs).length rc)
      have hbb := (L.below.setCell (p := ⟨w.heap.size + 1, 0, none⟩) (Nat.le_succ _) (.int .i64 (x ^ m).sign)).setCell (p := ⟨w.heap.size + 1, 1, none⟩) (Nat.le_succ _) (.slice ra (Wh.limbs (x ^ m).natAbs).length rc)
      have hcc := two_cells wr (w.heap.size + 1) (.int .i64 (x ^ m).sign) (.slice ra (Wh.limbs (x ^ m).natAbs).length rc) t0 t1
      have HST := Lib.hid (And.intro hst hbb); clear hst hbb rs L
      generalize hz : x ^ m = z at *
      have HZ := Lib.hid hz; clear hz
      go_wp2
      exact bodyPost_ret (v := .agg #[.int .i64 z.sign, .slice ra (Wh.limbs z.natAbs).length rc]) (by simp [results, Tryz.results195, go_sem, hcc]) rfl ⟨⟨_, rfl, by rw [HZ.out]; exact ⟨_, rfl, HST.out.1⟩⟩, HST.out.2⟩
    · have hsn : s ≤ n := by have := HV.out.2; omega
      have hmn : m ≤ n := by have := HV.out.1; omega
      have ly := HS.out s hsn
      have lz := HS.out m hmn
      have hdv : decide (0 < v) = true := by simp; omega
      have L := HM.out
      obtain ⟨⟨ya, yc, y0, y1, ys⟩, fa0, fa1⟩ := L.a
      obtain ⟨⟨za, zc, z0, z1, zs⟩, fr0, fr1⟩ := L.r
      clear L
      have HYS := Lib.hid ys; have HZS := Lib.hid zs; clear ys zs
      have hv2 : s * v + m = n := HV.out.1
      generalize hyx : x ^ s = y at *
      generalize hzx : x ^ m = z at *
      have HYX := Lib.hid hyx; have HZX := Lib.hid hzx; clear hyx hzx
      by_cases ho : v % 2 = 1
      · have hod : ((v : Int) % 2 == 1) = true := by rw [beq_iff_eq]; omega
        have hal : Below wr.heap.size wr (wr.alloc (Obj.cells #[Value.int IntKind.i64 y.sign, Value.slice ya (Wh.limbs y.natAbs).length yc] 92)) := (Below.refl _ _).alloc (Nat.le_refl _) _
        have hq0 : (wr.alloc (Obj.cells #[Value.int IntKind.i64 y.sign, Value.slice ya (Wh.limbs y.natAbs).length yc] 92)).cell? ⟨wr.heap.size, 0, none⟩ = some (.int .i64 y.sign) := by go_simp
        have hq1 : (wr.alloc (Obj.cells #[Value.int IntKind.i64 y.sign, Value.slice ya (Wh.limbs y.natAbs).length yc] 92)).cell? ⟨wr.heap.size, 1, none⟩ = some (.slice ya (Wh.limbs y.natAbs).length yc) := by go_simp
        have HPR := Lib.hid (product_any _ wr.heap.size z y (by simp) _ ⟨_, rfl, HZS.out.mono hal⟩ y.sign ya (Wh.limbs y.natAbs).length yc ⟨hq0, hq1, rfl, HYS.out.mono hal⟩ (by omega) (by omega) (.inl (by omega)))
        have HAL := Lib.hid hal; clear hal hq0 hq1
        by_cases h1 : 1 < v
        · have hg1 : decide (1 < v) = true := by simpa using h1
          go_wp2_with fail
          refine HPR.out.mono ?_
          rintro e Wa ⟨⟨va, rfl, hna⟩, hba⟩
          have hMa := HM.out.mono (HAL.out.trans (hba.mono HAL.out.size))
          clear hba HAL HPR
          generalize hzy : z * y = zy at *
          have HZY := Lib.hid hzy; clear hzy
          obtain ⟨sa, rfl, ka⟩ := hna
          obtain ⟨pa, ca, rfl⟩ := ka.len
          have hMb := hMa.putR ka
          clear y0 y1 fa0 fa1 z0 z1 fr0 fr1
          obtain ⟨⟨_, _, z0, z1, _⟩, fr0, fr1⟩ := hMa.r
          obtain ⟨⟨ya', yc', y0, y1, ys⟩, fa0, fa1⟩ := hMb.a
          have HMB := Lib.hid hMb; have HYSB := Lib.hid ys
          clear hMa hMb ka ys
          go_wp2_with fail
          clear z0 z1 fr0 fr1 y0 y1 fa0 fa1
          have hX : ((Wa.setCell ⟨bR, 0, none⟩ (.int .i64 zy.sign)).setCell ⟨bR, 1, none⟩ (.slice pa (Wh.limbs zy.natAbs).length ca)).heap.size = Wa.heap.size := by simp
          generalize (Wa.setCell ⟨bR, 0, none⟩ (.int .i64 zy.sign)).setCell ⟨bR, 1, none⟩ (.slice pa (Wh.limbs zy.natAbs).length ca) = X at *
          rw [← hX]
          have halB : Below X.heap.size X (X.alloc (Obj.cells #[Value.int IntKind.i64 y.sign, Value.slice ya' (Wh.limbs y.natAbs).length yc'] 92)) := (Below.refl _ _).alloc (Nat.le_refl _) _
          have hq0B : (X.alloc (Obj.cells #[Value.int IntKind.i64 y.sign, Value.slice ya' (Wh.limbs y.natAbs).length yc'] 92)).cell? ⟨X.heap.size, 0, none⟩ = some (.int .i64 y.sign) := by go_simp
          have hq1B : (X.alloc (Obj.cells #[Value.int IntKind.i64 y.sign, Value.slice ya' (Wh.limbs y.natAbs).length yc'] 92)).cell? ⟨X.heap.size, 1, none⟩ = some (.slice ya' (Wh.limbs y.natAbs).length yc') := by go_simp
          refine (product_any _ X.heap.size y y (by simp) _ ⟨_, rfl, HYSB.out.mono halB⟩ y.sign ya' (Wh.limbs y.natAbs).length yc' ⟨hq0B, hq1B, rfl, HYSB.out.mono halB⟩ (by omega) (by omega) (.inl (by omega))).mono ?_
          rintro e WB ⟨⟨vB, rfl, hnB⟩, hbB⟩
          have hMB := HMB.out.mono (halB.trans (hbB.mono halB.size))
          clear hq0B hq1B halB hbB
          generalize hyy : y * y = yy at *
          have HYY := Lib.hid hyy; clear hyy
          obtain ⟨sB, rfl, kB⟩ := hnB
          obtain ⟨pB, cB, rfl⟩ := kB.len
          have hNB := Lib.hid (hMB.putA kB)
          obtain ⟨⟨_, _, y0, y1, _⟩, fa0, fa1⟩ := hMB.a
          clear hMB kB
          go_wp2_with fail
          clear y0 y1 fa0 fa1
          refine ⟨⟨v / 2, 2 * s, (m + s), by simp, by omega, Lib.hid ⟨half_odd ho hv2, .inl (twice_le h1 hv2)⟩, by rw [pow_twice, HYX.out, HYY.out, Int.pow_add, HYX.out, HZX.out, HZY.out]; exact hNB.out⟩, by simp [intOf]; omega⟩
        · have hg1 : decide (1 < v) = false := by simpa using h1
          go_wp2_with fail
          refine HPR.out.mono ?_
          rintro e Wa ⟨⟨va, rfl, hna⟩, hba⟩
          have hMa := HM.out.mono (HAL.out.trans (hba.mono HAL.out.size))
          clear hba HAL HPR
          generalize hzy : z * y = zy at *
          have HZY := Lib.hid hzy; clear hzy
          obtain ⟨sa, rfl, ka⟩ := hna
          obtain ⟨pa, ca, rfl⟩ := ka.len
          have hMb := Lib.hid (hMa.putR ka)
          clear y0 y1 fa0 fa1 z0 z1 fr0 fr1
          obtain ⟨⟨_, _, z0, z1, _⟩, fr0, fr1⟩ := hMa.r
          clear hMa ka
          go_wp2_with fail
          refine ⟨⟨v / 2, s, (m + s), by simp, by omega, Lib.hid ⟨half_odd1 ho h1 hv2, .inr (by omega)⟩, by rw [HYX.out, Int.pow_add, HYX.out, HZX.out, HZY.out]; exact hMb.out⟩, by simp [intOf]; omega⟩
      · have hod : ((v : Int) % 2 == 1) = false := by rw [beq_eq_false_iff_ne]; omega
        have hg1 : decide (1 < v) = true := by simp; omega
        · go_wp2_with fail
          have HMA := HM; have HYSA := HYS
          clear y0 y1 fa0 fa1 z0 z1 fr0 fr1
          have halA : Below wr.heap.size wr (wr.alloc (Obj.cells #[Value.int IntKind.i64 y.sign, Value.slice ya (Wh.limbs y.natAbs).length yc] 92)) := (Below.refl _ _).alloc (Nat.le_refl _) _
          have hq0A : (wr.alloc (Obj.cells #[Value.int IntKind.i64 y.sign, Value.slice ya (Wh.limbs y.natAbs).length yc] 92)).cell? ⟨wr.heap.size, 0, none⟩ = some (.int .i64 y.sign) := by go_simp
          have hq1A : (wr.alloc (Obj.cells #[Value.int IntKind.i64 y.sign, Value.slice ya (Wh.limbs y.natAbs).length yc] 92)).cell? ⟨wr.heap.size, 1, none⟩ = some (.slice ya (Wh.limbs y.natAbs).length yc) := by go_simp
          refine (product_any _ wr.heap.size y y (by simp) _ ⟨_, rfl, HYSA.out.mono halA⟩ y.sign ya (Wh.limbs y.natAbs).length yc ⟨hq0A, hq1A, rfl, HYSA.out.mono halA⟩ (by omega) (by omega) (.inl (by omega))).mono ?_
          rintro e WA ⟨⟨vA, rfl, hnA⟩, hbA⟩
          have hMA := HMA.out.mono (halA.trans (hbA.mono halA.size))
          clear hq0A hq1A halA hbA
          generalize hyy : y * y = yy at *
          have HYY := Lib.hid hyy; clear hyy
          obtain ⟨sA, rfl, kA⟩ := hnA
          obtain ⟨pA, cA, rfl⟩ := kA.len
          have hNA := Lib.hid (hMA.putA kA)
          obtain ⟨⟨_, _, y0, y1, _⟩, fa0, fa1⟩ := hMA.a
          clear hMA kA
          go_wp2_with fail
          clear y0 y1 fa0 fa1
          refine ⟨⟨v / 2, 2 * s, m, by simp, by omega, Lib.hid ⟨half_even ho hv2, .inl (twice_le (by omega) hv2)⟩, by rw [pow_twice, HYX.out, HYY.out, HZX.out]; exact hNA.out⟩, by simp [intOf]; omega⟩
end Go.Proofs.YteggbenhffmijaaGreatDoor

/- WALKS, powers 3: whole.Pow. -/
namespace Go.Proofs.YteggbenhffmijaaGreatDoor
open Go.RowKit
theorem wrap_i64 (z : Int) (h : -9223372036854775808 ≤ z) (h' : z ≤ 9223372036854775807) : IntKind.i64.wrap z = z := by rw [IntKind.wrap_i64]; omega
end Go.Proofs.YteggbenhffmijaaGreatDoor
