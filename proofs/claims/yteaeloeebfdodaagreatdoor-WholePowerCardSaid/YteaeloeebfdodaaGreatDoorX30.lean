/- Part 30 of the proofs that laws of package whole answer true at every input and leave the input as it was, where the library's variables start as the text lays them (the texts V1, V2, T9). -/
import Derived.Test.YteaeloeebfdodaaGreatDoorX12
import Derived.Test.YteaeloeebfdodaaGreatDoorX10
import Derived.Test.YteaeloeebfdodaaGreatDoorX17
import Derived.Test.YteaeloeebfdodaaGreatDoorX21
set_option linter.unusedVariables false
set_option linter.unusedSimpArgs false
/- WALKS, Floor 1: perform, the division that rounds down. -/
namespace Go.Proofs.YteaeloeebfdodaaGreatDoor
open Go.RowKit
theorem no_floored_sum (v : Value) (w : World) : (Instr.typeAssert (.iface 117 v) 174 92 true).run Tryz.prog w = .ok (.tuple #[.agg #[.int .i64 0, .slice none 0 0, .int .i64 0, .slice none 0 0], .bool false]) w := by kernel_rfl
theorem no_floored_difference (v : Value) (w : World) : (Instr.typeAssert (.iface 117 v) 174 112 true).run Tryz.prog w = .ok (.tuple #[.agg #[.int .i64 0, .slice none 0 0, .int .i64 0, .slice none 0 0], .bool false]) w := by kernel_rfl
theorem no_floored_multiple (v : Value) (w : World) : (Instr.typeAssert (.iface 117 v) 174 94 true).run Tryz.prog w = .ok (.tuple #[.agg #[.int .i64 0, .slice none 0 0, .int .i64 0, .slice none 0 0], .bool false]) w := by kernel_rfl
theorem method_floor (x0 x1 x2 x3 : Value) (w : World) : (method 524 117 (.agg #[x0, x1, x2, x3]) "metewand/whole.operands").run Tryz.prog w = .ok (398, .agg #[x0, x1, x2, x3]) w := by kernel_rfl
theorem assert_floor (v : Value) (w : World) : (Instr.typeAssert (.iface 117 v) 174 117 true).run Tryz.prog w = .ok (.tuple #[v, .bool true]) w := by kernel_rfl
set_option maxRecDepth 100000 in
set_option maxHeartbeats 800000 in
theorem perform_floor (w : World) (x y : Int) (a1 a2 : Option Addr) (n1 c1 n2 c2 : Nat) (h1 : Sl w (.slice a1 n1 c1) (Wh.limbs x.natAbs)) (h2 : Sl w (.slice a2 n2 c2) (Wh.limbs y.natAbs)) (hx : Fit x) (hy : 0 < y.natAbs ∧ y.natAbs < 1000000000) :
    Calls Tryz.prog 179 #[.iface 117 (.agg #[.int .i64 (Int.sign x), .slice a1 n1 c1, .int .i64 (Int.sign y), .slice a2 n2 c2])] w fun e w' =>
      (∃ v' v'', e = .returned (.tuple #[v', v'']) ∧ Num w' v' (x.fdiv y) ∧ Num w' v'' (x.fmod y)) ∧ Below w.heap.size w w' := by
  have H1 := Lib.hid h1; clear h1
  have H2 := Lib.hid h2; clear h2
  have hme := method_floor (.int .i64 (Int.sign x)) (.slice a1 n1 c1) (.int .i64 (Int.sign y)) (.slice a2 n2 c2)
  go_enter Tryz.func179, Tryz.ntmps179
  go_wp2_with fail
  refine (operands_any _ _ _ _ _ _ _ _ _).mono ?_
  rintro e w2 ⟨rfl, hb2⟩
  clear hme
  have hno0 := no_floored_sum (.agg #[.int .i64 (Int.sign x), .slice a1 n1 c1, .int .i64 (Int.sign y), .slice a2 n2 c2])
  have hno1 := no_floored_difference (.agg #[.int .i64 (Int.sign x), .slice a1 n1 c1, .int .i64 (Int.sign y), .slice a2 n2 c2])
  have hno2 := no_floored_multiple (.agg #[.int .i64 (Int.sign x), .slice a1 n1 c1, .int .i64 (Int.sign y), .slice a2 n2 c2])
  have has := assert_floor (.agg #[.int .i64 (Int.sign x), .slice a1 n1 c1, .int .i64 (Int.sign y), .slice a2 n2 c2])
  have hbb : Below w.heap.size w w2 := (((Below.refl _ _).alloc (Nat.le_refl _) _).alloc (by simp) _).trans (hb2.mono (by simp; omega))
  go_wp2_with fail
  have hal : Below w2.heap.size w2 ((w2.alloc (Obj.cells #[Value.int IntKind.i64 (Int.sign x), Value.slice a1 n1 c1] 83)).alloc (Obj.cells #[Value.int IntKind.i64 (Int.sign y), Value.slice a2 n2 c2] 83)) := ((Below.refl _ _).alloc (Nat.le_refl _) _).alloc (by simp) _
  have hall := hbb.trans (hal.mono hbb.size)
  refine (floor_short _ _ _ x y (Num.mk' (H1.out.mono hall) rfl) (Num.mk' (H2.out.mono hall) rfl) hx hy).mono ?_
  rintro e w3 ⟨⟨v3, u3, rfl, hn3, hm3⟩, hb3⟩
  generalize hQ : x.fdiv y = q at *
  generalize hR : x.fmod y = r at *
  have HQ := Lib.hid hQ; have HR := Lib.hid hR; clear hQ hR
  obtain ⟨s3, rfl, hs3⟩ := hn3
  obtain ⟨a3, c3, rfl⟩ := hs3.len
  obtain ⟨t3, rfl, hr3⟩ := hm3
  obtain ⟨d3, e3, rfl⟩ := hr3.len
  have hw2 : Below (w.heap.size + 2) ((w.alloc (.cells #[.int .i64 0, .slice none 0 0] 83)).alloc (.cells #[.int .i64 0, .slice none 0 0] 83)) w2 := hb2.mono (by simp)
  have hsz : w.heap.size + 2 ≤ w2.heap.size := by have := hw2.size; simpa using this
  have hT := two_new (hw2.trans ((hal.trans (hb3.mono hal.size)).mono hsz))
  have hB3 := Two.below (hbb.trans ((hal.trans (hb3.mono hal.size)).mono hbb.size)) (Nat.le_refl w.heap.size) (.int .i64 (Int.sign q)) (.slice a3 (Wh.limbs q.natAbs).length c3) (.int .i64 (Int.sign r)) (.slice d3 (Wh.limbs r.natAbs).length e3)
  have hS3 := hT.sl hs3 (.int .i64 (Int.sign q)) (.slice a3 (Wh.limbs q.natAbs).length c3) (.int .i64 (Int.sign r)) (.slice d3 (Wh.limbs r.natAbs).length e3)
  have hR3 := hT.sl hr3 (.int .i64 (Int.sign q)) (.slice a3 (Wh.limbs q.natAbs).length c3) (.int .i64 (Int.sign r)) (.slice d3 (Wh.limbs r.natAbs).length e3)
  obtain ⟨r0, r1, r2, r3⟩ := hT.read (.int .i64 (Int.sign q)) (.slice a3 (Wh.limbs q.natAbs).length c3) (.int .i64 (Int.sign r)) (.slice d3 (Wh.limbs r.natAbs).length e3)
  have k0 := hT.k0
  have k1 := hT.k1
  have m0 := hT.m0
  have m1 := hT.m1
  have f0 := hT.f0
  have f1 := hT.f1
  have g0 := hT.g0
  have g1 := hT.g1
  clear hal hall hb3 hw2 hbb hb2 has hT hs3 hr3 hno0 hno1 hno2
  go_wp2
  exact bodyPost_ret (v := .tuple #[.agg #[.int .i64 (Int.sign q), .slice a3 (Wh.limbs q.natAbs).length c3], .agg #[.int .i64 (Int.sign r), .slice d3 (Wh.limbs r.natAbs).length e3]]) (by unfold put22 at *; simp [results, Tryz.results179, go_sem, r0, r1, r2, r3]) rfl ⟨⟨_, _, rfl, by rw [HQ.out]; exact ⟨_, rfl, hS3⟩, by rw [HR.out]; exact ⟨_, rfl, hR3⟩⟩, hB3⟩
end Go.Proofs.YteaeloeebfdodaaGreatDoor

/- WALKS, Floor 2: double. -/
namespace Go.Proofs.YteaeloeebfdodaaGreatDoor
open Go.RowKit
/-- what each operation of double's last region yields -/
def DB (q r : Int) (p1 p2 : Option Addr) (c1 c2 : Nat) : Nat → Value → World → Prop
  | 0, v, _ => v = .agg #[.int .i64 q.sign, .slice p1 (Wh.limbs q.natAbs).length c1]
  | 1, v, _ => v = txt q
  | 2, v, _ => v = .agg #[.int .i64 r.sign, .slice p2 (Wh.limbs r.natAbs).length c2]
  | 3, v, _ => v = txt r
  | _, v, _ => v = .agg #[txt q, txt r]
set_option maxRecDepth 100000 in
set_option maxHeartbeats 1000000 in
theorem double_any (w : World) (o : Value) (q r : Int) (htab : Tab w) (hq : Valid q) (hr : Valid r)
    (hp : ∀ w', Below w.heap.size w w' → Calls Tryz.prog 179 #[o] w' fun e w'' => (∃ v' v'', e = .returned (.tuple #[v', v'']) ∧ Num w'' v' q ∧ Num w'' v'' r) ∧ Below w'.heap.size w' w'') :
    Calls Tryz.prog 111 #[o] w fun e w' => e = .returned (.agg #[txt q, txt r]) ∧ Below w.heap.size w w' := by
  have HP := Lib.hid hp; clear hp
  go_enter Tryz.func111, Tryz.ntmps111
  go_wp2_with fail
  have hb0 : Below w.heap.size w (w.alloc (.cells #[.string ⟨#[]⟩, .string ⟨#[]⟩] 113)) := (Below.refl _ _).alloc (Nat.le_refl _) _
  refine (HP.out _ hb0).mono ?_
  rintro e w1 ⟨⟨vq, vr, rfl, hn1, hn2⟩, hb1⟩
  obtain ⟨s1, rfl, k1⟩ := hn1
  obtain ⟨p1, c1, rfl⟩ := k1.len
  obtain ⟨s2, rfl, k2⟩ := hn2
  obtain ⟨p2, c2, rfl⟩ := k2.len
  go_wp2_with fail
  have hV : Below w1.heap.size w1 ((w1.alloc (Obj.cells #[Value.int IntKind.i64 q.sign, Value.slice p1 (Wh.limbs q.natAbs).length c1] 83)).alloc (Obj.cells #[Value.int IntKind.i64 r.sign, Value.slice p2 (Wh.limbs r.natAbs).length c2] 83)) := ((Below.refl _ _).alloc (Nat.le_refl _) _).alloc (by simp) _
  have hVs : ((w1.alloc (Obj.cells #[Value.int IntKind.i64 q.sign, Value.slice p1 (Wh.limbs q.natAbs).length c1] 83)).alloc (Obj.cells #[Value.int IntKind.i64 r.sign, Value.slice p2 (Wh.limbs r.natAbs).length c2] 83)).heap.size = w1.heap.size + 2 := by simp
  have x0 : ((w1.alloc (Obj.cells #[Value.int IntKind.i64 q.sign, Value.slice p1 (Wh.limbs q.natAbs).length c1] 83)).alloc (Obj.cells #[Value.int IntKind.i64 r.sign, Value.slice p2 (Wh.limbs r.natAbs).length c2] 83)).cell? ⟨w1.heap.size, 0, none⟩ = some (.int .i64 q.sign) := by go_simp
  have x1 : ((w1.alloc (Obj.cells #[Value.int IntKind.i64 q.sign, Value.slice p1 (Wh.limbs q.natAbs).length c1] 83)).alloc (Obj.cells #[Value.int IntKind.i64 r.sign, Value.slice p2 (Wh.limbs r.natAbs).length c2] 83)).cell? ⟨w1.heap.size, 1, none⟩ = some (.slice p1 (Wh.limbs q.natAbs).length c1) := by go_simp
  have y0 : ((w1.alloc (Obj.cells #[Value.int IntKind.i64 q.sign, Value.slice p1 (Wh.limbs q.natAbs).length c1] 83)).alloc (Obj.cells #[Value.int IntKind.i64 r.sign, Value.slice p2 (Wh.limbs r.natAbs).length c2] 83)).cell? ⟨w1.heap.size + 1, 0, none⟩ = some (.int .i64 r.sign) := by go_simp
  have y1 : ((w1.alloc (Obj.cells #[Value.int IntKind.i64 q.sign, Value.slice p1 (Wh.limbs q.natAbs).length c1] 83)).alloc (Obj.cells #[Value.int IntKind.i64 r.sign, Value.slice p2 (Wh.limbs r.natAbs).length c2] 83)).cell? ⟨w1.heap.size + 1, 1, none⟩ = some (.slice p2 (Wh.limbs r.natAbs).length c2) := by go_simp
  have hw1 : w.heap.size + 1 ≤ w1.heap.size := by have := hb1.size; simpa using this
  have hbV := (hb1.mono (by simp : w.heap.size + 1 ≤ (w.alloc (Obj.cells #[Value.string ⟨#[]⟩, Value.string ⟨#[]⟩] 113)).heap.size)).trans (hV.mono hw1)
  have r0 := (hbV.cell (p := ⟨w.heap.size, 0, none⟩) (Nat.lt_succ_self _)).trans (show (w.alloc (Obj.cells #[Value.string ⟨#[]⟩, Value.string ⟨#[]⟩] 113)).cell? ⟨w.heap.size, 0, none⟩ = some (.string ⟨#[]⟩) by go_simp)
  have r1 := (hbV.cell (p := ⟨w.heap.size, 1, none⟩) (Nat.lt_succ_self _)).trans (show (w.alloc (Obj.cells #[Value.string ⟨#[]⟩, Value.string ⟨#[]⟩] 113)).cell? ⟨w.heap.size, 1, none⟩ = some (.string ⟨#[]⟩) by go_simp)
  have g0 := (hbV.frozen (p := ⟨w.heap.size, 0, none⟩) (Nat.lt_succ_self _)).trans (show (w.alloc (Obj.cells #[Value.string ⟨#[]⟩, Value.string ⟨#[]⟩] 113)).frozen? ⟨w.heap.size, 0, none⟩ = false by go_simp)
  have g1 := (hbV.frozen (p := ⟨w.heap.size, 1, none⟩) (Nat.lt_succ_self _)).trans (show (w.alloc (Obj.cells #[Value.string ⟨#[]⟩, Value.string ⟨#[]⟩] 113)).frozen? ⟨w.heap.size, 1, none⟩ = false by go_simp)
  have hBV : Below w.heap.size w ((w1.alloc (Obj.cells #[Value.int IntKind.i64 q.sign, Value.slice p1 (Wh.limbs q.natAbs).length c1] 83)).alloc (Obj.cells #[Value.int IntKind.i64 r.sign, Value.slice p2 (Wh.limbs r.natAbs).length c2] 83)) := hb0.trans (hbV.mono (Nat.le_succ _))
  have K1 := Lib.hid (k1.mono hV); have K2 := Lib.hid (k2.mono hV)
  clear hbV hV k1 k2 hb1 hb0
  generalize ((w1.alloc (Obj.cells #[Value.int IntKind.i64 q.sign, Value.slice p1 (Wh.limbs q.natAbs).length c1] 83)).alloc (Obj.cells #[Value.int IntKind.i64 r.sign, Value.slice p2 (Wh.limbs r.natAbs).length c2] 83)) = V at *
  have htV := Lib.hid (htab.mono hBV)
  have HBV := Lib.hid hBV; clear hBV
  have hq' := Lib.hid hq; have hr' := Lib.hid hr; clear hq hr
  refine wp_mono (Q := fun e a W' => e = .normal ∧ (∃ vals : Nat → Value, a = { tmps := #[o, undef, Value.pointer (some ⟨w.heap.size, 0, none⟩), Value.pointer (some ⟨w1.heap.size, 0, none⟩), Value.pointer (some ⟨w1.heap.size + 1, 0, none⟩), Value.tuple #[Value.agg #[Value.int IntKind.i64 q.sign, Value.slice p1 (Wh.limbs q.natAbs).length c1], Value.agg #[Value.int IntKind.i64 r.sign, Value.slice p2 (Wh.limbs r.natAbs).length c2]], o, Value.tuple #[Value.agg #[Value.int IntKind.i64 q.sign, Value.slice p1 (Wh.limbs q.natAbs).length c1], Value.agg #[Value.int IntKind.i64 r.sign, Value.slice p2 (Wh.limbs r.natAbs).length c2]], Value.agg #[Value.int IntKind.i64 q.sign, Value.slice p1 (Wh.limbs q.natAbs).length c1], Value.agg #[Value.int IntKind.i64 r.sign, Value.slice p2 (Wh.limbs r.natAbs).length c2], vals 0, vals 1, vals 2, vals 3, vals 4], defers := [] }) ∧ W'.cell? ⟨w.heap.size, 0, none⟩ = some (txt q) ∧ W'.cell? ⟨w.heap.size, 1, none⟩ = some (txt r) ∧ Below w.heap.size w W') ?_ ?_
  refine Rt.wp_region_grow (n0 := 1) [5] [] 15 (fun vals => { tmps := #[o, undef, Value.pointer (some ⟨w.heap.size, 0, none⟩), Value.pointer (some ⟨w1.heap.size, 0, none⟩), Value.pointer (some ⟨w1.heap.size + 1, 0, none⟩), Value.tuple #[Value.agg #[Value.int IntKind.i64 q.sign, Value.slice p1 (Wh.limbs q.natAbs).length c1], Value.agg #[Value.int IntKind.i64 r.sign, Value.slice p2 (Wh.limbs r.natAbs).length c2]], o, Value.tuple #[Value.agg #[Value.int IntKind.i64 q.sign, Value.slice p1 (Wh.limbs q.natAbs).length c1], Value.agg #[Value.int IntKind.i64 r.sign, Value.slice p2 (Wh.limbs r.natAbs).length c2]], Value.agg #[Value.int IntKind.i64 q.sign, Value.slice p1 (Wh.limbs q.natAbs).length c1], Value.agg #[Value.int IntKind.i64 r.sign, Value.slice p2 (Wh.limbs r.natAbs).length c2], vals 0, vals 1, vals 2, vals 3, vals 4], defers := [] }) (DB q r p1 p2 c1 c2) (by kernel_rfl) (by kernel_rfl) (by kernel_rfl) (by kernel_rfl) (fun _ _ _ _ _ h => absurd h.1 (by simp)) (by kernel_rfl) rfl (fun _ => by kernel_rfl) (by kernel_rfl) (by kernel_rfl) (fun i v w w' h _ => by
    match i, h with
    | 0, h | 1, h | 2, h | 3, h | _ + 4, h => exact h) ?_ ?_ ?_
  · intro i o' d hi hT hW hd vals w' hb hf
    have hlt : i < 6 := (Array.getElem?_eq_some_iff.1 hi).1
    have z0 := (hb.cell (p := ⟨w1.heap.size, 0, none⟩) (by show w1.heap.size < _; omega)).trans x0
    have z1 := (hb.cell (p := ⟨w1.heap.size, 1, none⟩) (by show w1.heap.size < _; omega)).trans x1
    have u0 := (hb.cell (p := ⟨w1.heap.size + 1, 0, none⟩) (by show w1.heap.size + 1 < _; omega)).trans y0
    have u1 := (hb.cell (p := ⟨w1.heap.size + 1, 1, none⟩) (by show w1.heap.size + 1 < _; omega)).trans y1
    rcases i with _ | _ | _ | _ | _ | _ | i
    · obtain rfl := Option.some.inj hi
      obtain rfl := Option.some.inj hd
      dsimp only
      go_simp
      exact ⟨rfl, Below.refl _ _⟩
    · obtain rfl := Option.some.inj hi
      obtain rfl := Option.some.inj hd
      have e0 : vals 0 = _ := hf 0 (by kernel_rfl)
      dsimp only
      rw [e0]
      go_simp
      refine (wtext_any w' _ q ⟨_, rfl, K1.out.mono hb⟩ (htV.out.mono hb) hq'.out).mono ?_
      rintro e w5 ⟨rfl, hb5⟩
      exact ⟨rfl, hb5⟩
    · obtain rfl := Option.some.inj hi
      obtain rfl := Option.some.inj hd
      dsimp only
      go_simp
      exact ⟨rfl, Below.refl _ _⟩
    · obtain rfl := Option.some.inj hi
      obtain rfl := Option.some.inj hd
      have e0 : vals 2 = _ := hf 2 (by kernel_rfl)
      dsimp only
      rw [e0]
      go_simp
      refine (wtext_any w' _ r ⟨_, rfl, K2.out.mono hb⟩ (htV.out.mono hb) hr'.out).mono ?_
      rintro e w5 ⟨rfl, hb5⟩
      exact ⟨rfl, hb5⟩
    · obtain rfl := Option.some.inj hi
      obtain rfl := Option.some.inj hd
      have e0 : vals 1 = .string (str (Wh.decI q)) := hf 1 (by kernel_rfl)
      have e1 : vals 3 = .string (str (Wh.decI r)) := hf 3 (by kernel_rfl)
      dsimp only
      rw [e0, e1]
      go_simp
      exact ⟨rfl, Below.refl _ _⟩
    · cases hT
    · omega
  · intro p o d hi hW hd vals w' hb hf
    cases hW
  · intro vals w' hb hf
    have e4 : vals 4 = .agg #[.string (str (Wh.decI q)), .string (str (Wh.decI r))] := hf 4 (by decide) rfl
    have lw : w.heap.size < V.heap.size := by omega
    have r0 := (hb.cell (p := ⟨w.heap.size, 0, none⟩) lw).trans r0
    have r1 := (hb.cell (p := ⟨w.heap.size, 1, none⟩) lw).trans r1
    have g0 := (hb.frozen (p := ⟨w.heap.size, 0, none⟩) lw).trans g0
    have g1 := (hb.frozen (p := ⟨w.heap.size, 1, none⟩) lw).trans g1
    obtain ⟨t0, t1⟩ := two_cells w' w.heap.size (txt q) (txt r) r0 r1
    have HB := Lib.hid (HBV.out.trans (hb.mono HBV.out.size))
    have T0 := Lib.hid t0; have T1 := Lib.hid t1
    clear hb hf t0 t1 x0 x1 y0 y1
    rw [e4]
    refine Rt.wpAny_step (i := 5) (by kernel_rfl) rfl (by rfl) (fun K hK => ?_)
    have HK := Lib.hid hK; clear hK
    go_simp
    refine HK.out _ _ ?_
    exact Rt.wpAny_end (by kernel_rfl) ⟨rfl, ⟨vals, by rw [e4]⟩, T0.out, T1.out, (HB.out.setCell (Nat.le_refl _) _).setCell (Nat.le_refl _) _⟩
  · rintro e a W ⟨rfl, ⟨vals, rfl⟩, t0, t1, hB⟩
    unfold txt at *
    go_wp2
    exact bodyPost_ret (v := .agg #[.string (str (Wh.decI q)), .string (str (Wh.decI r))]) (by simp [results, Tryz.results111, go_sem, t0, t1]) rfl ⟨rfl, hB⟩
end Go.Proofs.YteaeloeebfdodaaGreatDoor

/- WALKS, texts 9: attempt of [2]string, where the work ends well. -/
namespace Go.Proofs.YteaeloeebfdodaaGreatDoor
open Go.RowKit
theorem catch_idle2 (p : Addr) (w : World) :
    CallsD Tryz.prog 192 #[.pointer (some p)] .returning w fun e u' w' => e = .returned (.tuple #[]) ∧ u' = .returning ∧ w' = w := by
  refine callsD_of_wpS Tryz.func192 rfl fun c₀ cs hu => ?_
  apply wpS_seq
  apply wpS_region
  simp [wpOpsS, go_sem, recoverD, hu, Tryz.ntmps192, Exit.thenS]
  apply wpS_seq
  apply wpS_region
  simp [wpOpsS, go_sem, Array.replicate, Exit.thenS]
  refine wpS_cond (t := false) (by simp [Act.eval]) ?_
  simp only [Bool.false_eq_true, if_false]
  refine wpS_of_wp (wp_skip ?_)
  cases c₀
  simp_all [bodyPostS, results, Tryz.results192]
set_option maxRecDepth 100000 in
set_option maxHeartbeats 400000 in
theorem attempt_good2 (K : Nat) (caps : Array Value) (v1 v2 : ByteArray) (w : World) (hkc : ∀ (w : World), (callFunc K caps).run Tryz.prog w = .ok (.enter K caps) w)
    (hwork : ∀ w', Below w.heap.size w w' → Calls Tryz.prog K caps w' fun e w'' => e = .returned (.agg #[.string v1, .string v2]) ∧ Below w'.heap.size w' w'') :
    Calls Tryz.prog 109 #[.func (Fn.func K) #[] caps] w fun e w' => e = .returned (.tuple #[.agg #[.string v1, .string v2], .int .i64 0]) ∧ Below w.heap.size w w' := by
  have hmf : ∀ (fn : Fn) (first cap : Array Value) (w : World), (Instr.makeFunc fn first cap).run Tryz.prog w = .ok (.func fn first cap) w := fun _ _ _ _ => rfl
  have HW := Lib.hid hwork; clear hwork
  go_enter_defers Tryz.func109, Tryz.ntmps109
  go_wp2_with fail
  refine (HW.out _ (((Below.refl _ _).alloc (Nat.le_refl _) _).alloc (by simp) _)).mono ?_
  rintro e w1 ⟨rfl, hb1⟩
  have hc : w1.cell? ⟨w.heap.size + 1, 0, none⟩ = some (.int .i64 0) := (hb1.cell (p := ⟨w.heap.size + 1, 0, none⟩) (by simp)).trans (by go_simp)
  have hf : w1.frozen? ⟨w.heap.size + 1, 0, none⟩ = false := (hb1.frozen (p := ⟨w.heap.size + 1, 0, none⟩) (by simp)).trans (by go_simp)
  have hr0 : w1.cell? ⟨w.heap.size, 0, none⟩ = some (.string ⟨#[]⟩) := (hb1.cell (p := ⟨w.heap.size, 0, none⟩) (by simp; omega)).trans (by go_simp)
  have hr1 : w1.cell? ⟨w.heap.size, 1, none⟩ = some (.string ⟨#[]⟩) := (hb1.cell (p := ⟨w.heap.size, 1, none⟩) (by simp; omega)).trans (by go_simp)
  have hg0 : w1.frozen? ⟨w.heap.size, 0, none⟩ = false := (hb1.frozen (p := ⟨w.heap.size, 0, none⟩) (by simp; omega)).trans (by go_simp)
  have hg1 : w1.frozen? ⟨w.heap.size, 1, none⟩ = false := (hb1.frozen (p := ⟨w.heap.size, 1, none⟩) (by simp; omega)).trans (by go_simp)
  have hbb : Below w.heap.size w w1 := (((Below.refl _ _).alloc (Nat.le_refl _) _).alloc (by simp) _).trans (hb1.mono (by simp; omega))
  clear hb1
  go_wp2
  have e0 : (((w1.setCell ⟨w.heap.size, 0, none⟩ (.string v1)).setCell ⟨w.heap.size, 1, none⟩ (.string v2)).setCell ⟨w.heap.size + 1, 0, none⟩ (.int .i64 0)).cell? ⟨w.heap.size, 0, none⟩ = some (.string v1) := by
    rw [World.cell?_setCell_far _ _ _ _ (by simp)]; exact (two_cells w1 w.heap.size (.string v1) (.string v2) hr0 hr1).1
  have e1 : (((w1.setCell ⟨w.heap.size, 0, none⟩ (.string v1)).setCell ⟨w.heap.size, 1, none⟩ (.string v2)).setCell ⟨w.heap.size + 1, 0, none⟩ (.int .i64 0)).cell? ⟨w.heap.size, 1, none⟩ = some (.string v2) := by
    rw [World.cell?_setCell_far _ _ _ _ (by simp)]; exact (two_cells w1 w.heap.size (.string v1) (.string v2) hr0 hr1).2
  have e2 : (((w1.setCell ⟨w.heap.size, 0, none⟩ (.string v1)).setCell ⟨w.heap.size, 1, none⟩ (.string v2)).setCell ⟨w.heap.size + 1, 0, none⟩ (.int .i64 0)).cell? ⟨w.heap.size + 1, 0, none⟩ = some (.int .i64 0) :=
    World.cell?_setCell_same _ _ _ (u := .int .i64 0) (by rw [World.cell?_setCell_far _ _ _ _ (by simp), World.cell?_setCell_far _ _ _ _ (by simp)]; exact hc)
  have hbs : Below w.heap.size w (((w1.setCell ⟨w.heap.size, 0, none⟩ (.string v1)).setCell ⟨w.heap.size, 1, none⟩ (.string v2)).setCell ⟨w.heap.size + 1, 0, none⟩ (.int .i64 0)) := ((hbb.setCell (Nat.le_refl _) _).setCell (Nat.le_refl _) _).setCell (Nat.le_succ _) _
  refine leaves_cons (f := 192) (args := #[.pointer (some ⟨w.heap.size + 1, 0, none⟩)]) (by simp) (by simp [go_sem]) ?_
  refine (catch_idle2 _ _).mono ?_
  rintro e u' w'' ⟨rfl, rfl, rfl⟩
  refine ⟨.tuple #[.agg #[.string v1, .string v2], .int .i64 0], ?_, rfl, hbs⟩
  simp [results, Tryz.results109, go_sem, e0, e1, e2]
end Go.Proofs.YteaeloeebfdodaaGreatDoor
