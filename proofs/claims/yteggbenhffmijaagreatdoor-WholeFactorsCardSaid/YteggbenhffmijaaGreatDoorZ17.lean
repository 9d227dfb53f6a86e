/- Part 17 of the proofs that laws of package whole answer true at every input and leave the input as it was, where the library's variables start as the text lays them (the texts V2, T9, V3, T10, G6, Q9, R6). -/
import Derived.Test.YteggbenhffmijaaGreatDoorZ16
import Derived.Test.YteggbenhffmijaaGreatDoorZ09
import Derived.Test.YteggbenhffmijaaGreatDoorZ11
import Derived.Test.YteggbenhffmijaaGreatDoorZ06
import Derived.Deep.QuietTactic
import Derived.BigQuiet
set_option linter.unusedVariables false
set_option linter.unusedSimpArgs false
/- WALKS, Floor 2: double. -/
namespace Go.Proofs.YteggbenhffmijaaGreatDoor
open Go.RowKit
/-- what each operation of double's last region yields -/
def DB (q r : Int) (p1 p2 : Option Addr) (c1 c2 : Nat) : Nat → Value → World → Prop
  | 0, v, _ => v = .agg #[.int .i64 q.sign, .slice p1 (Wh.limbs q.natAbs).length c1]
  | 1, v, _ => v = txt q
  | 2, v, _ => v = .agg #[.int .i64 r.sign, .slice p2 (Wh.limbs r.natAbs).length c2]
  | 3, v, _ => v = txt r
  | _, v, _ => v = .agg #[txt q, txt r]
set_option maxRecDepth 100000 in
set_option maxHeartbeats 1000000 in
theorem double_any (w : World) (o : Value) (q r : Int) (htab : Tab w) (hq : Valid q) (hr : Valid r)
    (hp : ∀ w', Below w.heap.size w w' → Calls Tryz.prog 236 #[o] w' fun e w'' => (∃ v' v'', e = .returned (.tuple #[v', v'']) ∧ Num w'' v' q ∧ Num w'' v'' r) ∧ Below w'.heap.size w' w'') :
    Calls Tryz.prog 153 #[o] w fun e w' => e = .returned (.agg #[txt q, txt r]) ∧ Below w.heap.size w w' := by
  have HP := Lib.hid hp; clear hp
  go_enter Tryz.func153, Tryz.ntmps153
  go_wp2_with fail
  have hb0 : Below w.heap.size w (w.alloc (.cells #[.string ⟨#[]⟩, .string ⟨#[]⟩] 111)) := (Below.refl _ _).alloc (Nat.le_refl _) _
  refine (HP.out _ hb0).mono ?_
  rintro e w1 ⟨⟨vq, vr, rfl, hn1, hn2⟩, hb1⟩
  obtain ⟨s1, rfl, k1⟩ := hn1
  obtain ⟨p1, c1, rfl⟩ := k1.len
  obtain ⟨s2, rfl, k2⟩ := hn2
  obtain ⟨p2, c2, rfl⟩ := k2.len
  go_wp2_with fail
  have hV : Below w1.heap.size w1 ((w1.alloc (Obj.cells #[Value.int IntKind.i64 q.sign, Value.slice p1 (Wh.limbs q.natAbs).length c1] 92)).alloc (Obj.cells #[Value.int IntKind.i64 r.sign, Value.slice p2 (Wh.limbs r.natAbs).length c2] 92)) := ((Below.refl _ _).alloc (Nat.le_refl _) _).alloc (by simp) _
  have hVs : ((w1.alloc (Obj.cells #[Value.int IntKind.i64 q.sign, Value.slice p1 (Wh.limbs q.natAbs).length c1] 92)).alloc (Obj.cells #[Value.int IntKind.i64 r.sign, Value.slice p2 (Wh.limbs r.natAbs).length c2] 92)).heap.size = w1.heap.size + 2 := by simp
  have x0 : ((w1.alloc (Obj.cells #[Value.int IntKind.i64 q.sign, Value.slice p1 (Wh.limbs q.natAbs).length c1] 92)).alloc (Obj.cells #[Value.int IntKind.i64 r.sign, Value.slice p2 (Wh.limbs r.natAbs).length c2] 92)).cell? ⟨w1.heap.size, 0, none⟩ = some (.int .i64 q.sign) := by go_simp
  have x1 : ((w1.alloc (Obj.cells #[Value.int IntKind.i64 q.sign, Value.slice p1 (Wh.limbs q.natAbs).length c1] 92)).alloc (Obj.cells #[Value.int IntKind.i64 r.sign, Value.slice p2 (Wh.limbs r.natAbs).length c2] 92)).cell? ⟨w1.heap.size, 1, none⟩ = some (.slice p1 (Wh.limbs q.natAbs).length c1) := by go_simp
  have y0 : ((w1.alloc (Obj.cells #[Value.int IntKind.i64 q.sign, Value.slice p1 (Wh.limbs q.natAbs).length c1] 92)).alloc (Obj.cells #[Value.int IntKind.i64 r.sign, Value.slice p2 (Wh.limbs r.natAbs).length c2] 92)).cell? ⟨w1.heap.size + 1, 0, none⟩ = some (.int .i64 r.sign) := by go_simp
  have y1 : ((w1.alloc (Obj.cells #[Value.int IntKind.i64 q.sign, Value.slice p1 (Wh.limbs q.natAbs).length c1] 92)).alloc (Obj.cells #[Value.int IntKind.i64 r.sign, Value.slice p2 (Wh.limbs r.natAbs).length c2] 92)).cell? ⟨w1.heap.size + 1, 1, none⟩ = some (.slice p2 (Wh.limbs r.natAbs).length c2) := by go_simp
  have hw1 : w.heap.size + 1 ≤ w1.heap.size := by have := hb1.size; simpa using this
  have hbV := (hb1.mono (by simp : w.heap.size + 1 ≤ (w.alloc (Obj.cells #[Value.string ⟨#[]⟩, Value.string ⟨#[]⟩] 111)).heap.size)).trans (hV.mono hw1)
  have r0 := (hbV.cell (p := ⟨w.heap.size, 0, none⟩) (Nat.lt_succ_self _)).trans (show (w.alloc (Obj.cells #[Value.string ⟨#[]⟩, Value.string ⟨#[]⟩] 111)).cell? ⟨w.heap.size, 0, none⟩ = some (.string ⟨#[]⟩) by go_simp)
  have r1 := (hbV.cell (p := ⟨w.heap.size, 1, none⟩) (Nat.lt_succ_self _)).trans (show (w.alloc (Obj.cells #[Value.string ⟨#[]⟩, Value.string ⟨#[]⟩] 111)).cell? ⟨w.heap.size, 1, none⟩ = some (.string ⟨#[]⟩) by go_simp)
  have g0 := (hbV.frozen (p := ⟨w.heap.size, 0, none⟩) (Nat.lt_succ_self _)).trans (show (w.alloc (Obj.cells #[Value.string ⟨#[]⟩, Value.string ⟨#[]⟩] 111)).frozen? ⟨w.heap.size, 0, none⟩ = false by go_simp)
  have g1 := (hbV.frozen (p := ⟨w.heap.size, 1, none⟩) (Nat.lt_succ_self _)).trans (show (w.alloc (Obj.cells #[Value.string ⟨#[]⟩, Value.string ⟨#[]⟩] 111)).frozen? ⟨w.heap.size, 1, none⟩ = false by go_simp)
  have hBV : Below w.heap.size w ((w1.alloc (Obj.cells #[Value.int IntKind.i64 q.sign, Value.slice p1 (Wh.limbs q.natAbs).length c1] 92)).alloc (Obj.cells #[Value.int IntKind.i64 r.sign, Value.slice p2 (Wh.limbs r.natAbs).length c2] 92)) := hb0.trans (hbV.mono (Nat.le_succ _))
  have K1 := Lib.hid (k1.mono hV); have K2 := Lib.hid (k2.mono hV)
  clear hbV hV k1 k2 hb1 hb0
  generalize ((w1.alloc (Obj.cells #[Value.int IntKind.i64 q.sign, Value.slice p1 (Wh.limbs q.natAbs).length c1] 92)).alloc (Obj.cells #[Value.int IntKind.i64 r.sign, Value.slice p2 (Wh.limbs r.natAbs).length c2] 92)) = V at *
  have htV := Lib.hid (htab.mono hBV)
  have HBV := Lib.hid hBV; clear hBV
  have hq' := Lib.hid hq; have hr' := Lib.hid hr; clear hq hr
  refine wp_mono (Q := fun e a W' => e = .normal ∧ (∃ vals : Nat → Value, a = { tmps := #[o, undef, Value.pointer (some ⟨w.heap.size, 0, none⟩), Value.pointer (some ⟨w1.heap.size, 0, none⟩), Value.pointer (some ⟨w1.heap.size + 1, 0, none⟩), Value.tuple #[Value.agg #[Value.int IntKind.i64 q.sign, Value.slice p1 (Wh.limbs q.natAbs).length c1], Value.agg #[Value.int IntKind.i64 r.sign, Value.slice p2 (Wh.limbs r.natAbs).length c2]], o, Value.tuple #[Value.agg #[Value.int IntKind.i64 q.sign, Value.slice p1 (Wh.limbs q.natAbs).length c1], Value.agg #[Value.int IntKind.i64 r.sign, Value.slice p2 (Wh.limbs r.natAbs).length c2]], Value.agg #[Value.int IntKind.i64 q.sign, Value.slice p1 (Wh.limbs q.natAbs).length c1], Value.agg #[Value.int IntKind.i64 r.sign, Value.slice p2 (Wh.limbs r.natAbs).length c2], vals 0, vals 1, vals 2, vals 3, vals 4], defers := [] }) ∧ W'.cell? ⟨w.heap.size, 0, none⟩ = some (txt q) ∧ W'.cell? ⟨w.heap.size, 1, none⟩ = some (txt r) ∧ Below w.heap.size w W') ?_ ?_
  refine Rt.wp_region_grow (n0 := 1) [5] [] 15 (fun vals => { tmps := #[o, undef, Value.pointer (some ⟨w.heap.size, 0, none⟩), Value.pointer (some ⟨w1.heap.size, 0, none⟩), Value.pointer (some ⟨w1.heap.size + 1, 0, none⟩), Value.tuple #[Value.agg #[Value.int IntKind.i64 q.sign, Value.slice p1 (Wh.limbs q.natAbs).length c1], Value.agg #[Value.int IntKind.i64 r.sign, Value.slice p2 (Wh.limbs r.natAbs).length c2]], o, Value.tuple #[Value.agg #[Value.int IntKind.i64 q.sign, Value.slice p1 (Wh.limbs q.natAbs).length c1], Value.agg #[Value.int IntKind.i64 r.sign, Value.slice p2 (Wh.limbs r.natAbs).length c2]], Value.agg #[Value.int IntKind.i64 q.sign, Value.slice p1 (Wh.limbs q.natAbs).length c1], Value.agg #[Value.int IntKind.i64 r.sign, Value.slice p2 (Wh.limbs r.natAbs).length c2], vals 0, vals 1, vals 2, vals 3, vals 4], defers := [] }) (DB q r p1 p2 c1 c2) (by kernel_rfl) (by kernel_rfl) (by kernel_rfl) (by kernel_rfl) (fun _ _ _ _ _ h => absurd h.1 (by simp)) (by kernel_rfl) rfl (fun _ => by kernel_rfl) (by kernel_rfl) (by kernel_rfl) (fun i v w w' h _ => by
    match i, h with
    | 0, h | 1, h | 2, h | 3, h | _ + 4, h => exact h) ?_ ?_ ?_
  · intro i o' d hi hT hW hd vals w' hb hf
    have hlt : i < 6 := (Array.getElem?_eq_some_iff.1 hi).1
    have z0 := (hb.cell (p := ⟨w1.heap.size, 0, none⟩) (by show w1.heap.size < _; omega)).trans x0
    have z1 := (hb.cell (p := ⟨w1.heap.size, 1, none⟩) (by show w1.heap.size < _; omega)).trans x1
    have u0 := (hb.cell (p := ⟨w1.heap.size + 1, 0, none⟩) (by show w1.heap.size + 1 < _; omega)).trans y0
    have u1 := (hb.cell (p := ⟨w1.heap.size + 1, 1, none⟩) (by show w1.heap.size + 1 < _; omega)).trans y1
    rcases i with _ | _ | _ | _ | _ | _ | i
    · obtain rfl := Option.some.inj hi
      obtain rfl := Option.some.inj hd
      dsimp only
      go_simp
      exact ⟨rfl, Below.refl _ _⟩
    · obtain rfl := Option.some.inj hi
      obtain rfl := Option.some.inj hd
      have e0 : vals 0 = _ := hf 0 (by kernel_rfl)
      dsimp only
      rw [e0]
      go_simp
      refine (wtext_any w' _ q ⟨_, rfl, K1.out.mono hb⟩ (htV.out.mono hb) hq'.out).mono ?_
      rintro e w5 ⟨rfl, hb5⟩
      exact ⟨rfl, hb5⟩
    · obtain rfl := Option.some.inj hi
      obtain rfl := Option.some.inj hd
      dsimp only
      go_simp
      exact ⟨rfl, Below.refl _ _⟩
    · obtain rfl := Option.some.inj hi
      obtain rfl := Option.some.inj hd
      have e0 : vals 2 = _ := hf 2 (by kernel_rfl)
      dsimp only
      rw [e0]
      go_simp
      refine (wtext_any w' _ r ⟨_, rfl, K2.out.mono hb⟩ (htV.out.mono hb) hr'.out).mono ?_
      rintro e w5 ⟨rfl, hb5⟩
      exact ⟨rfl, hb5⟩
    · obtain rfl := Option.some.inj hi
      obtain rfl := Option.some.inj hd
      have e0 : vals 1 = .string (str (Wh.decI q)) := hf 1 (by kernel_rfl)
      have e1 : vals 3 = .string (str (Wh.decI r)) := hf 3 (by kernel_rfl)
      dsimp only
      rw [e0, e1]
      go_simp
      exact ⟨rfl, Below.refl _ _⟩
    · cases hT
    · omega
  · intro p o d hi hW hd vals w' hb hf
    cases hW
  · intro vals w' hb hf
    have e4 : vals 4 = .agg #[.string (str (Wh.decI q)), .string (str (Wh.decI r))] := hf 4 (by decide) rfl
    have lw : w.heap.size < V.heap.size := by omega
    have r0 := (hb.cell (p := ⟨w.heap.size, 0, none⟩) lw).trans r0
    have r1 := (hb.cell (p := ⟨w.heap.size, 1, none⟩) lw).trans r1
    have g0 := (hb.frozen (p := ⟨w.heap.size, 0, none⟩) lw).trans g0
    have g1 := (hb.frozen (p := ⟨w.heap.size, 1, none⟩) lw).trans g1
    obtain ⟨t0, t1⟩ := two_cells w' w.heap.size (txt q) (txt r) r0 r1
    have HB := Lib.hid (HBV.out.trans (hb.mono HBV.out.size))
    have T0 := Lib.hid t0; have T1 := Lib.hid t1
    clear hb hf t0 t1 x0 x1 y0 y1
    rw [e4]
    refine Rt.wpAny_step (i := 5) (by kernel_rfl) rfl (by rfl) (fun K hK => ?_)
    have HK := Lib.hid hK; clear hK
    go_simp
    refine HK.out _ _ ?_
    exact Rt.wpAny_end (by kernel_rfl) ⟨rfl, ⟨vals, by rw [e4]⟩, T0.out, T1.out, (HB.out.setCell (Nat.le_refl _) _).setCell (Nat.le_refl _) _⟩
  · rintro e a W ⟨rfl, ⟨vals, rfl⟩, t0, t1, hB⟩
    unfold txt at *
    go_wp2
    exact bodyPost_ret (v := .agg #[.string (str (Wh.decI q)), .string (str (Wh.decI r))]) (by simp [results, Tryz.results153, go_sem, t0, t1]) rfl ⟨rfl, hB⟩
end Go.Proofs.YteggbenhffmijaaGreatDoor

/- WALKS, texts 9: attempt of [2]string, where the work ends well. -/
namespace Go.Proofs.YteggbenhffmijaaGreatDoor
open Go.RowKit
theorem catch_idle2 (p : Addr) (w : World) :
    CallsD Tryz.prog 201 #[.pointer (some p)] .returning w fun e u' w' => e = .returned (.tuple #[]) ∧ u' = .returning ∧ w' = w := by
  refine callsD_of_wpS Tryz.func201 rfl fun c₀ cs hu => ?_
  apply wpS_seq
  apply wpS_region
  simp [wpOpsS, go_sem, recoverD, hu, Tryz.ntmps201, Exit.thenS]
  apply wpS_seq
  apply wpS_region
  simp [wpOpsS, go_sem, Array.replicate, Exit.thenS]
  refine wpS_cond (t := false) (by simp [Act.eval]) ?_
  simp only [Bool.false_eq_true, if_false]
  refine wpS_of_wp (wp_skip ?_)
  cases c₀
  simp_all [bodyPostS, results, Tryz.results201]
set_option maxRecDepth 100000 in
set_option maxHeartbeats 400000 in
theorem attempt_good2 (K : Nat) (caps : Array Value) (v1 v2 : ByteArray) (w : World) (hkc : ∀ (w : World), (callFunc K caps).run Tryz.prog w = .ok (.enter K caps) w)
    (hwork : ∀ w', Below w.heap.size w w' → Calls Tryz.prog K caps w' fun e w'' => e = .returned (.agg #[.string v1, .string v2]) ∧ Below w'.heap.size w' w'') :
    Calls Tryz.prog 109 #[.func (Fn.func K) #[] caps] w fun e w' => e = .returned (.tuple #[.agg #[.string v1, .string v2], .int .i64 0]) ∧ Below w.heap.size w w' := by
  have hmf : ∀ (fn : Fn) (first cap : Array Value) (w : World), (Instr.makeFunc fn first cap).run Tryz.prog w = .ok (.func fn first cap) w := fun _ _ _ _ => rfl
  have HW := Lib.hid hwork; clear hwork
  go_enter_defers Tryz.func109, Tryz.ntmps109
  go_wp2_with fail
  refine (HW.out _ (((Below.refl _ _).alloc (Nat.le_refl _) _).alloc (by simp) _)).mono ?_
  rintro e w1 ⟨rfl, hb1⟩
  have hc : w1.cell? ⟨w.heap.size + 1, 0, none⟩ = some (.int .i64 0) := (hb1.cell (p := ⟨w.heap.size + 1, 0, none⟩) (by simp)).trans (by go_simp)
  have hf : w1.frozen? ⟨w.heap.size + 1, 0, none⟩ = false := (hb1.frozen (p := ⟨w.heap.size + 1, 0, none⟩) (by simp)).trans (by go_simp)
  have hr0 : w1.cell? ⟨w.heap.size, 0, none⟩ = some (.string ⟨#[]⟩) := (hb1.cell (p := ⟨w.heap.size, 0, none⟩) (by simp; omega)).trans (by go_simp)
  have hr1 : w1.cell? ⟨w.heap.size, 1, none⟩ = some (.string ⟨#[]⟩) := (hb1.cell (p := ⟨w.heap.size, 1, none⟩) (by simp; omega)).trans (by go_simp)
  have hg0 : w1.frozen? ⟨w.heap.size, 0, none⟩ = false := (hb1.frozen (p := ⟨w.heap.size, 0, none⟩) (by simp; omega)).trans (by go_simp)
  have hg1 : w1.frozen? ⟨w.heap.size, 1, none⟩ = false := (hb1.frozen (p := ⟨w.heap.size, 1, none⟩) (by simp; omega)).trans (by go_simp)
  have hbb : Below w.heap.size w w1 := (((Below.refl _ _).alloc (Nat.le_refl _) _).alloc (by simp) _).trans (hb1.mono (by simp; omega))
  clear hb1
  go_wp2
  have e0 : (((w1.setCell ⟨w.heap.size, 0, none⟩ (.string v1)).setCell ⟨w.heap.size, 1, none⟩ (.string v2)).setCell ⟨w.heap.size + 1, 0, none⟩ (.int .i64 0)).cell? ⟨w.heap.size, 0, none⟩ = some (.string v1) := by
    rw [World.cell?_setCell_far _ _ _ _ (by simp)]; exact (two_cells w1 w.heap.size (.string v1) (.string v2) hr0 hr1).1
  have e1 : (((w1.setCell ⟨w.heap.size, 0, none⟩ (.string v1)).setCell ⟨w.heap.size, 1, none⟩ (.string v2)).setCell ⟨w.heap.size + 1, 0, none⟩ (.int .i64 0)).cell? ⟨w.heap.size, 1, none⟩ = some (.string v2) := by
    rw [World.cell?_setCell_far _ _ _ _ (by simp)]; exact (two_cells w1 w.heap.size (.string v1) (.string v2) hr0 hr1).2
  have e2 : (((w1.setCell ⟨w.heap.size, 0, none⟩ (.string v1)).setCell ⟨w.heap.size, 1, none⟩ (.string v2)).setCell ⟨w.heap.size + 1, 0, none⟩ (.int .i64 0)).cell? ⟨w.heap.size + 1, 0, none⟩ = some (.int .i64 0) :=
    World.cell?_setCell_same _ _ _ (u := .int .i64 0) (by rw [World.cell?_setCell_far _ _ _ _ (by simp), World.cell?_setCell_far _ _ _ _ (by simp)]; exact hc)
  have hbs : Below w.heap.size w (((w1.setCell ⟨w.heap.size, 0, none⟩ (.string v1)).setCell ⟨w.heap.size, 1, none⟩ (.string v2)).setCell ⟨w.heap.size + 1, 0, none⟩ (.int .i64 0)) := ((hbb.setCell (Nat.le_refl _) _).setCell (Nat.le_refl _) _).setCell (Nat.le_succ _) _
  refine leaves_cons (f := 201) (args := #[.pointer (some ⟨w.heap.size + 1, 0, none⟩)]) (by simp) (by simp [go_sem]) ?_
  refine (catch_idle2 _ _).mono ?_
  rintro e u' w'' ⟨rfl, rfl, rfl⟩
  refine ⟨.tuple #[.agg #[.string v1, .string v2], .int .i64 0], ?_, rfl, hbs⟩
  simp [results, Tryz.results109, go_sem, e0, e1, e2]
end Go.Proofs.YteggbenhffmijaaGreatDoor

/- WALKS, Floor 3: whole.Floor. -/
namespace Go.Proofs.YteggbenhffmijaaGreatDoor
open Go.RowKit
set_option maxRecDepth 100000 in
set_option maxHeartbeats 400000 in
theorem floor_work (w : World) (pa pb : Addr) (x y : Int) (hc : Captured w pa pb x y) (hla : pa.block < w.heap.size) (hlb : pb.block < w.heap.size) (hx : Valid x) (hy : Valid y) (hfx : Fit x) (hy0 : 0 < y.natAbs ∧ y.natAbs < 1000000000) (hq : Valid (x.fdiv y)) (hr : Valid (x.fmod y)) (htab : Tab w) :
    Calls Tryz.prog 152 #[.pointer (some pa), .pointer (some pb)] w fun e w' => e = .returned (.agg #[txt (x.fdiv y), txt (x.fmod y)]) ∧ Below w.heap.size w w' := by
  have hb0 : Below w.heap.size w (w.alloc (.cells #[.string ⟨#[]⟩, .string ⟨#[]⟩] 111)) := (Below.refl _ _).alloc (Nat.le_refl _) _
  have ha := (hb0.cell hla).trans hc.a
  have hb := (hb0.cell hlb).trans hc.b
  have H1 := Lib.hid (fun w => readPair_any x y hx hy w)
  have HQ := Lib.hid hq; have HR := Lib.hid hr; clear hq hr
  have HB0 := Lib.hid hb0; clear hb0
  clear hc hla hlb
  unfold txt at *
  go_enter Tryz.func152, Tryz.ntmps152
  go_wp2_with fail
  refine (H1.out _).mono ?_
  rintro e w1 ⟨⟨a1, n1, c1, a2, n2, c2, rfl, hs1, hs2⟩, hb1⟩
  go_wp2_with fail
  refine (double_any _ _ (x.fdiv y) (x.fmod y) (htab.mono (HB0.out.trans (hb1.mono HB0.out.size))) HQ.out HR.out (fun w' hw' => perform_floor _ x y _ _ _ _ _ _ (hs1.mono hw') (hs2.mono hw') hfx hy0)).mono ?_
  rintro e w2 ⟨rfl, hb2⟩
  have hb12 := hb1.trans (hb2.mono hb1.size)
  have lw : w.heap.size < (w.alloc (.cells #[.string ⟨#[]⟩, .string ⟨#[]⟩] 111)).heap.size := by simp
  have r0 := (hb12.cell (p := ⟨w.heap.size, 0, none⟩) lw).trans (show (w.alloc (Obj.cells #[Value.string ⟨#[]⟩, Value.string ⟨#[]⟩] 111)).cell? ⟨w.heap.size, 0, none⟩ = some (.string ⟨#[]⟩) by go_simp)
  have r1 := (hb12.cell (p := ⟨w.heap.size, 1, none⟩) lw).trans (show (w.alloc (Obj.cells #[Value.string ⟨#[]⟩, Value.string ⟨#[]⟩] 111)).cell? ⟨w.heap.size, 1, none⟩ = some (.string ⟨#[]⟩) by go_simp)
  have g0 := (hb12.frozen (p := ⟨w.heap.size, 0, none⟩) lw).trans (show (w.alloc (Obj.cells #[Value.string ⟨#[]⟩, Value.string ⟨#[]⟩] 111)).frozen? ⟨w.heap.size, 0, none⟩ = false by go_simp)
  have g1 := (hb12.frozen (p := ⟨w.heap.size, 1, none⟩) lw).trans (show (w.alloc (Obj.cells #[Value.string ⟨#[]⟩, Value.string ⟨#[]⟩] 111)).frozen? ⟨w.heap.size, 1, none⟩ = false by go_simp)
  have hB := HB0.out.trans (hb12.mono HB0.out.size)
  have HB := Lib.hid hB; clear hB hb12 hb1 hb2 hs1 hs2
  unfold txt at *
  obtain ⟨t0, t1⟩ := two_cells w2 w.heap.size (.string (str (Wh.decI (x.fdiv y)))) (.string (str (Wh.decI (x.fmod y)))) r0 r1
  go_wp2
  exact bodyPost_ret (v := .agg #[.string (str (Wh.decI (x.fdiv y))), .string (str (Wh.decI (x.fmod y)))]) (by simp [results, Tryz.results152, go_sem, t0, t1]) rfl ⟨rfl, (HB.out.setCell (Nat.le_refl _) _).setCell (Nat.le_refl _) _⟩
set_option maxRecDepth 100000 in
set_option maxHeartbeats 400000 in
theorem Floor_any (w : World) (x y : Int) (hx : Valid x) (hy : Valid y) (hfx : Fit x) (hy0 : 0 < y.natAbs ∧ y.natAbs < 1000000000) (hq : Valid (x.fdiv y)) (hr : Valid (x.fmod y)) (htab : Tab w) :
    Calls Tryz.prog 71 #[txt x, txt y] w fun e w' => e = .returned (.tuple #[txt (x.fdiv y), txt (x.fmod y), .int .i64 0]) ∧ Below w.heap.size w w' := by
  have hmf : ∀ (fn : Fn) (first cap : Array Value) (w : World), (Instr.makeFunc fn first cap).run Tryz.prog w = .ok (.func fn first cap) w := fun _ _ _ _ => rfl
  have hat := fun (w : World) (pa pb : Addr) (h : Captured w pa pb x y) (htab : Tab w) (ha : pa.block < w.heap.size) (hb : pb.block < w.heap.size) => attempt_good2 152 #[.pointer (some pa), .pointer (some pb)] (str (Wh.decI (x.fdiv y))) (str (Wh.decI (x.fmod y))) w (fun w => by kernel_rfl) (fun w' hb' => floor_work w' pa pb x y ⟨(hb'.cell ha).trans h.a, (hb'.cell hb).trans h.b⟩ (Nat.lt_of_lt_of_le ha hb'.size) (Nat.lt_of_lt_of_le hb hb'.size) hx hy hfx hy0 hq hr (htab.mono hb'))
  have HAT := Lib.hid hat; clear hat
  unfold txt at *
  go_enter Tryz.func71, Tryz.ntmps71
  go_wp2_with fail
  have hal : Below w.heap.size w ((w.alloc (.cells #[.string (str (Wh.decI x))] 9)).alloc (.cells #[.string (str (Wh.decI y))] 9)) := ((Below.refl _ _).alloc (Nat.le_refl _) _).alloc (by simp) _
  obtain ⟨b0, b1⟩ := boxed w (.string (str (Wh.decI x))) (.string (str (Wh.decI y))) 9
  refine (HAT.out _ _ _ ⟨b0, b1⟩ (htab.mono hal) (by simp; omega) (by simp)).mono ?_
  rintro e w2 ⟨rfl, hb2⟩
  have hbb := hal.trans (hb2.mono hal.size)
  clear hal b0 b1 hb2
  go_wp2_with fail
  have q0 : (w2.alloc (Obj.cells #[Value.string (str (Wh.decI (x.fdiv y))), Value.string (str (Wh.decI (x.fmod y)))] 111)).cell? ⟨w2.heap.size, 0, none⟩ = some (.string (str (Wh.decI (x.fdiv y)))) := by go_simp
  have q1 : (w2.alloc (Obj.cells #[Value.string (str (Wh.decI (x.fdiv y))), Value.string (str (Wh.decI (x.fmod y)))] 111)).cell? ⟨w2.heap.size, 1, none⟩ = some (.string (str (Wh.decI (x.fmod y)))) := by go_simp
  have hB : Below w.heap.size w (w2.alloc (Obj.cells #[Value.string (str (Wh.decI (x.fdiv y))), Value.string (str (Wh.decI (x.fmod y)))] 111)) := hbb.alloc hbb.size _
  have HB := Lib.hid hB; clear hB hbb
  generalize w2.alloc (Obj.cells #[Value.string (str (Wh.decI (x.fdiv y))), Value.string (str (Wh.decI (x.fmod y)))] 111) = V at *
  go_quiet (fail)
  go_wp2
  exact bodyPost_ret (v := .tuple #[.string (str (Wh.decI (x.fdiv y))), .string (str (Wh.decI (x.fmod y))), .int .i64 0]) (by simp [results, Tryz.results71, go_sem]) rfl ⟨rfl, HB.out.trans (below_drewN _ _ _)⟩
end Go.Proofs.YteggbenhffmijaaGreatDoor

/- WALKS, texts 10: attempt of [3]string, where the work ends well. -/
namespace Go.Proofs.YteggbenhffmijaaGreatDoor
open Go.RowKit
theorem catch_idle3 (p : Addr) (w : World) :
    CallsD Tryz.prog 238 #[.pointer (some p)] .returning w fun e u' w' => e = .returned (.tuple #[]) ∧ u' = .returning ∧ w' = w := by
  refine callsD_of_wpS Tryz.func238 rfl fun c₀ cs hu => ?_
  apply wpS_seq
  apply wpS_region
  simp [wpOpsS, go_sem, recoverD, hu, Tryz.ntmps238, Exit.thenS]
  apply wpS_seq
  apply wpS_region
  simp [wpOpsS, go_sem, Array.replicate, Exit.thenS]
  refine wpS_cond (t := false) (by simp [Act.eval]) ?_
  simp only [Bool.false_eq_true, if_false]
  refine wpS_of_wp (wp_skip ?_)
  cases c₀
  simp_all [bodyPostS, results, Tryz.results238]
set_option maxRecDepth 100000 in
set_option maxHeartbeats 400000 in
theorem attempt_good3 (K : Nat) (caps : Array Value) (v1 v2 v3 : ByteArray) (w : World) (hkc : ∀ (w : World), (callFunc K caps).run Tryz.prog w = .ok (.enter K caps) w)
    (hwork : ∀ w', Below w.heap.size w w' → Calls Tryz.prog K caps w' fun e w'' => e = .returned (.agg #[.string v1, .string v2, .string v3]) ∧ Below w'.heap.size w' w'') :
    Calls Tryz.prog 157 #[.func (Fn.func K) #[] caps] w fun e w' => e = .returned (.tuple #[.agg #[.string v1, .string v2, .string v3], .int .i64 0]) ∧ Below w.heap.size w w' := by
  have hmf : ∀ (fn : Fn) (first cap : Array Value) (w : World), (Instr.makeFunc fn first cap).run Tryz.prog w = .ok (.func fn first cap) w := fun _ _ _ _ => rfl
  have HW := Lib.hid hwork; clear hwork
  go_enter_defers Tryz.func157, Tryz.ntmps157
  go_wp2_with fail
  refine (HW.out _ (((Below.refl _ _).alloc (Nat.le_refl _) _).alloc (by simp) _)).mono ?_
  rintro e w1 ⟨rfl, hb1⟩
  have hc : w1.cell? ⟨w.heap.size + 1, 0, none⟩ = some (.int .i64 0) := (hb1.cell (p := ⟨w.heap.size + 1, 0, none⟩) (by simp)).trans (by go_simp)
  have hf : w1.frozen? ⟨w.heap.size + 1, 0, none⟩ = false := (hb1.frozen (p := ⟨w.heap.size + 1, 0, none⟩) (by simp)).trans (by go_simp)
  have hr0 : w1.cell? ⟨w.heap.size, 0, none⟩ = some (.string ⟨#[]⟩) := (hb1.cell (p := ⟨w.heap.size, 0, none⟩) (by simp; omega)).trans (by go_simp)
  have hr1 : w1.cell? ⟨w.heap.size, 1, none⟩ = some (.string ⟨#[]⟩) := (hb1.cell (p := ⟨w.heap.size, 1, none⟩) (by simp; omega)).trans (by go_simp)
  have hr2 : w1.cell? ⟨w.heap.size, 2, none⟩ = some (.string ⟨#[]⟩) := (hb1.cell (p := ⟨w.heap.size, 2, none⟩) (by simp; omega)).trans (by go_simp)
  have hg2 : w1.frozen? ⟨w.heap.size, 2, none⟩ = false := (hb1.frozen (p := ⟨w.heap.size, 2, none⟩) (by simp; omega)).trans (by go_simp)
  have hg0 : w1.frozen? ⟨w.heap.size, 0, none⟩ = false := (hb1.frozen (p := ⟨w.heap.size, 0, none⟩) (by simp; omega)).trans (by go_simp)
  have hg1 : w1.frozen? ⟨w.heap.size, 1, none⟩ = false := (hb1.frozen (p := ⟨w.heap.size, 1, none⟩) (by simp; omega)).trans (by go_simp)
  have hbb : Below w.heap.size w w1 := (((Below.refl _ _).alloc (Nat.le_refl _) _).alloc (by simp) _).trans (hb1.mono (by simp; omega))
  clear hb1
  go_wp2
  have e0 : ((((w1.setCell ⟨w.heap.size, 0, none⟩ (.string v1)).setCell ⟨w.heap.size, 1, none⟩ (.string v2)).setCell ⟨w.heap.size, 2, none⟩ (.string v3)).setCell ⟨w.heap.size + 1, 0, none⟩ (.int .i64 0)).cell? ⟨w.heap.size, 0, none⟩ = some (.string v1) := by
    rw [World.cell?_setCell_far _ _ _ _ (by simp), World.cell?_setCell_other _ _ _ _ (off_ne (by decide))]; exact (two_cells w1 w.heap.size (.string v1) (.string v2) hr0 hr1).1
  have e1 : ((((w1.setCell ⟨w.heap.size, 0, none⟩ (.string v1)).setCell ⟨w.heap.size, 1, none⟩ (.string v2)).setCell ⟨w.heap.size, 2, none⟩ (.string v3)).setCell ⟨w.heap.size + 1, 0, none⟩ (.int .i64 0)).cell? ⟨w.heap.size, 1, none⟩ = some (.string v2) := by
    rw [World.cell?_setCell_far _ _ _ _ (by simp), World.cell?_setCell_other _ _ _ _ (off_ne (by decide))]; exact (two_cells w1 w.heap.size (.string v1) (.string v2) hr0 hr1).2
  have e3 : ((((w1.setCell ⟨w.heap.size, 0, none⟩ (.string v1)).setCell ⟨w.heap.size, 1, none⟩ (.string v2)).setCell ⟨w.heap.size, 2, none⟩ (.string v3)).setCell ⟨w.heap.size + 1, 0, none⟩ (.int .i64 0)).cell? ⟨w.heap.size, 2, none⟩ = some (.string v3) := by
    rw [World.cell?_setCell_far _ _ _ _ (by simp)]
    exact World.cell?_setCell_same _ _ _ (u := .string ⟨#[]⟩) (by rw [World.cell?_setCell_other _ _ _ _ (off_ne (by decide)), World.cell?_setCell_other _ _ _ _ (off_ne (by decide))]; exact hr2)
  have e2 : ((((w1.setCell ⟨w.heap.size, 0, none⟩ (.string v1)).setCell ⟨w.heap.size, 1, none⟩ (.string v2)).setCell ⟨w.heap.size, 2, none⟩ (.string v3)).setCell ⟨w.heap.size + 1, 0, none⟩ (.int .i64 0)).cell? ⟨w.heap.size + 1, 0, none⟩ = some (.int .i64 0) :=
    World.cell?_setCell_same _ _ _ (u := .int .i64 0) (by rw [World.cell?_setCell_far _ _ _ _ (by simp), World.cell?_setCell_far _ _ _ _ (by simp), World.cell?_setCell_far _ _ _ _ (by simp)]; exact hc)
  have hbs : Below w.heap.size w ((((w1.setCell ⟨w.heap.size, 0, none⟩ (.string v1)).setCell ⟨w.heap.size, 1, none⟩ (.string v2)).setCell ⟨w.heap.size, 2, none⟩ (.string v3)).setCell ⟨w.heap.size + 1, 0, none⟩ (.int .i64 0)) := (((hbb.setCell (Nat.le_refl _) _).setCell (Nat.le_refl _) _).setCell (Nat.le_refl _) _).setCell (Nat.le_succ _) _
  refine leaves_cons (f := 238) (args := #[.pointer (some ⟨w.heap.size + 1, 0, none⟩)]) (by simp) (by simp [go_sem]) ?_
  refine (catch_idle3 _ _).mono ?_
  rintro e u' w'' ⟨rfl, rfl, rfl⟩
  refine ⟨.tuple #[.agg #[.string v1, .string v2, .string v3], .int .i64 0], ?_, rfl, hbs⟩
  simp [results, Tryz.results157, go_sem, e0, e1, e3, e2]
end Go.Proofs.YteggbenhffmijaaGreatDoor

/- WALKS, the divisor 8: whole.Gcd at 12 and 18. -/
namespace Go.Proofs.YteggbenhffmijaaGreatDoor
open Go.RowKit
theorem tri_cells (w : World) (b : Nat) (x y z : Value) {a0 a1 a2 : Value} (h0 : w.cell? ⟨b, 0, none⟩ = some a0) (h1 : w.cell? ⟨b, 1, none⟩ = some a1) (h2 : w.cell? ⟨b, 2, none⟩ = some a2) :
    (((w.setCell ⟨b, 0, none⟩ x).setCell ⟨b, 1, none⟩ y).setCell ⟨b, 2, none⟩ z).cell? ⟨b, 0, none⟩ = some x ∧ (((w.setCell ⟨b, 0, none⟩ x).setCell ⟨b, 1, none⟩ y).setCell ⟨b, 2, none⟩ z).cell? ⟨b, 1, none⟩ = some y ∧ (((w.setCell ⟨b, 0, none⟩ x).setCell ⟨b, 1, none⟩ y).setCell ⟨b, 2, none⟩ z).cell? ⟨b, 2, none⟩ = some z := by
  refine ⟨?_, ?_, ?_⟩
  · rw [World.cell?_setCell_other _ _ _ _ (off_ne (by decide)), World.cell?_setCell_other _ _ _ _ (off_ne (by decide))]; exact World.cell?_setCell_same _ _ _ h0
  · rw [World.cell?_setCell_other _ _ _ _ (off_ne (by decide))]; exact World.cell?_setCell_same _ _ _ (u := a1) (by rw [World.cell?_setCell_other _ _ _ _ (off_ne (by decide))]; exact h1)
  · exact World.cell?_setCell_same _ _ _ (u := a2) (by rw [World.cell?_setCell_other _ _ _ _ (off_ne (by decide)), World.cell?_setCell_other _ _ _ _ (off_ne (by decide))]; exact h2)
def GD (g v u : Int) : Nat → Value → World → Prop
  | 0, a, w => Num w a g
  | 1, a, _ => a = txt g
  | 2, a, w => Num w a v
  | 3, a, _ => a = txt v
  | 4, a, w => Num w a u
  | 5, a, _ => a = txt u
  | 6, a, _ => a = .agg #[txt g, txt v, txt u]
  | _, _, _ => True
theorem GD_stays (g v u : Int) : ∀ i a w w', GD g v u i a w → Below w.heap.size w w' → GD g v u i a w' := by
  intro i a w w' h hb
  match i, h with
  | 0, h | 2, h | 4, h => exact Num.mono h hb
  | 1, h | 3, h | 5, h | 6, h => exact h
  | _ + 7, h => trivial

set_option maxRecDepth 100000 in
set_option maxHeartbeats 1000000 in
theorem gcd_work (w : World) (pa pb : Addr) (x y g vv u : Int) (hc : Captured w pa pb x y) (hla : pa.block < w.heap.size) (hlb : pb.block < w.heap.size) (ex : x = 12) (ey : y = 18) (eg : g = 6) (ev : vv = 2) (eu : u = -1) (htab : Tab w) :
    Calls Tryz.prog 158 #[.pointer (some pa), .pointer (some pb)] w fun e w' => e = .returned (.agg #[txt g, txt vv, txt u]) ∧ Below w.heap.size w w' := by
  have hb0 : Below w.heap.size w (w.alloc (.cells #[.string ⟨#[]⟩, .string ⟨#[]⟩, .string ⟨#[]⟩] 155)) := (Below.refl _ _).alloc (Nat.le_refl _) _
  have ha := (hb0.cell hla).trans hc.a
  have hb := (hb0.cell hlb).trans hc.b
  have H1 := Lib.hid (fun w => readPair_any x y (by rw [ex]; exact valid9 _ (by decide)) (by rw [ey]; exact valid9 _ (by decide)) w)
  have HCO : Hid (∀ (w : World) (xa ya : Option Addr) (xc yc : Nat), Sl w (.slice xa (Wh.limbs x.natAbs).length xc) (Wh.limbs x.natAbs) → Sl w (.slice ya (Wh.limbs y.natAbs).length yc) (Wh.limbs y.natAbs) → Calls Tryz.prog 159 #[.agg #[.int .i64 x.sign, .slice xa (Wh.limbs x.natAbs).length xc], .agg #[.int .i64 y.sign, .slice ya (Wh.limbs y.natAbs).length yc]] w fun e w' => (∃ v1 v2 v3, e = .returned (.tuple #[v1, v2, v3]) ∧ Num w' v1 g ∧ Num w' v2 vv ∧ Num w' v3 u) ∧ Below w.heap.size w w') := Lib.hid (by
    rw [eg, ev, eu]; exact fun w xa ya xc yc h1 h2 => combine_x w x y xa ya xc yc h1 h2 ex ey)
  have HVD_g : Hid (Valid g) := Lib.hid (by rw [eg]; exact valid9 _ (by decide))
  have HVD_vv : Hid (Valid vv) := Lib.hid (by rw [ev]; exact valid9 _ (by decide))
  have HVD_u : Hid (Valid u) := Lib.hid (by rw [eu]; exact valid9 _ (by decide))
  have HT := Lib.hid htab
  have HB0 := Lib.hid hb0
  clear hc hla hlb ex ey eg ev eu htab hb0
  unfold txt at ha hb H1
  go_enter Tryz.func158, Tryz.ntmps158
  go_wp2_with fail
  refine (H1.out _).mono ?_
  rintro e w1 ⟨⟨a1, n1, c1, a2, n2, c2, rfl, hs1, hs2⟩, hb1⟩
  obtain ⟨_, _, e1⟩ := hs1.len
  obtain ⟨_, _, e2⟩ := hs2.len
  cases e1; cases e2
  have hal : Below w1.heap.size w1 (w1.alloc (Obj.cells #[.int .i64 x.sign, .slice a1 (Wh.limbs x.natAbs).length c1, .int .i64 y.sign, .slice a2 (Wh.limbs y.natAbs).length c2] 149)) := (Below.refl _ _).alloc (Nat.le_refl _) _
  have HC4 := Lib.hid (HCO.out (w1.alloc (Obj.cells #[.int .i64 x.sign, .slice a1 (Wh.limbs x.natAbs).length c1, .int .i64 y.sign, .slice a2 (Wh.limbs y.natAbs).length c2] 149)) a1 a2 c1 c2 (hs1.mono hal) (hs2.mono hal))
  have lw : w.heap.size < (w.alloc (.cells #[.string ⟨#[]⟩, .string ⟨#[]⟩, .string ⟨#[]⟩] 155)).heap.size := by simp
  have HR0 : Hid ((w.alloc (.cells #[.string ⟨#[]⟩, .string ⟨#[]⟩, .string ⟨#[]⟩] 155)).cell? ⟨w.heap.size, 0, none⟩ = some (.string ⟨#[]⟩) ∧ (w.alloc (.cells #[.string ⟨#[]⟩, .string ⟨#[]⟩, .string ⟨#[]⟩] 155)).cell? ⟨w.heap.size, 1, none⟩ = some (.string ⟨#[]⟩) ∧ (w.alloc (.cells #[.string ⟨#[]⟩, .string ⟨#[]⟩, .string ⟨#[]⟩] 155)).cell? ⟨w.heap.size, 2, none⟩ = some (.string ⟨#[]⟩)) := Lib.hid ⟨by go_simp, by go_simp, by go_simp⟩
  have HF0 : Hid ((w.alloc (.cells #[.string ⟨#[]⟩, .string ⟨#[]⟩, .string ⟨#[]⟩] 155)).frozen? ⟨w.heap.size, 0, none⟩ = false ∧ (w.alloc (.cells #[.string ⟨#[]⟩, .string ⟨#[]⟩, .string ⟨#[]⟩] 155)).frozen? ⟨w.heap.size, 1, none⟩ = false ∧ (w.alloc (.cells #[.string ⟨#[]⟩, .string ⟨#[]⟩, .string ⟨#[]⟩] 155)).frozen? ⟨w.heap.size, 2, none⟩ = false) := Lib.hid ⟨by go_simp, by go_simp, by go_simp⟩
  have HB1 := Lib.hid (hb1.trans (hal.mono hb1.size))
  clear hs1 hs2 hal hb1
  generalize (w.alloc (.cells #[.string ⟨#[]⟩, .string ⟨#[]⟩, .string ⟨#[]⟩] 155)) = U0 at *
  go_wp2_with fail
  refine HC4.out.mono ?_
  rintro e w2 ⟨⟨v1, v2, v3, rfl, hn1, hn2, hn3⟩, hb2⟩
  obtain ⟨s1, rfl, k1⟩ := hn1
  obtain ⟨p1, q1, rfl⟩ := k1.len
  obtain ⟨s2, rfl, k2⟩ := hn2
  obtain ⟨p2, q2, rfl⟩ := k2.len
  obtain ⟨s3, rfl, k3⟩ := hn3
  obtain ⟨p3, q3, rfl⟩ := k3.len
  have hbU := HB1.out.trans (hb2.mono HB1.out.size)
  have hal3 : Below w2.heap.size w2 (((w2.alloc (Obj.cells #[.int .i64 g.sign, .slice p1 (Wh.limbs g.natAbs).length q1] 92)).alloc (Obj.cells #[.int .i64 vv.sign, .slice p2 (Wh.limbs vv.natAbs).length q2] 92)).alloc (Obj.cells #[.int .i64 u.sign, .slice p3 (Wh.limbs u.natAbs).length q3] 92)) := (((Below.refl _ _).alloc (Nat.le_refl _) _).alloc (by simp) _).alloc (by simp; omega) _
  have hbV := hbU.trans (hal3.mono hbU.size)
  have HB4 : Hid (NumAt (((w2.alloc (Obj.cells #[.int .i64 g.sign, .slice p1 (Wh.limbs g.natAbs).length q1] 92)).alloc (Obj.cells #[.int .i64 vv.sign, .slice p2 (Wh.limbs vv.natAbs).length q2] 92)).alloc (Obj.cells #[.int .i64 u.sign, .slice p3 (Wh.limbs u.natAbs).length q3] 92)) w2.heap.size g) := Lib.hid ⟨p1, q1, by go_simp, by go_simp, k1.mono hal3⟩
  have HB5 : Hid (NumAt (((w2.alloc (Obj.cells #[.int .i64 g.sign, .slice p1 (Wh.limbs g.natAbs).length q1] 92)).alloc (Obj.cells #[.int .i64 vv.sign, .slice p2 (Wh.limbs vv.natAbs).length q2] 92)).alloc (Obj.cells #[.int .i64 u.sign, .slice p3 (Wh.limbs u.natAbs).length q3] 92)) (w2.heap.size + 1) vv) := Lib.hid ⟨p2, q2, by go_simp, by go_simp, k2.mono hal3⟩
  have HB6 : Hid (NumAt (((w2.alloc (Obj.cells #[.int .i64 g.sign, .slice p1 (Wh.limbs g.natAbs).length q1] 92)).alloc (Obj.cells #[.int .i64 vv.sign, .slice p2 (Wh.limbs vv.natAbs).length q2] 92)).alloc (Obj.cells #[.int .i64 u.sign, .slice p3 (Wh.limbs u.natAbs).length q3] 92)) (w2.heap.size + 1 + 1) u) := Lib.hid ⟨p3, q3, by go_simp, by go_simp, k3.mono hal3⟩
  have HVS : Hid ((((w2.alloc (Obj.cells #[.int .i64 g.sign, .slice p1 (Wh.limbs g.natAbs).length q1] 92)).alloc (Obj.cells #[.int .i64 vv.sign, .slice p2 (Wh.limbs vv.natAbs).length q2] 92)).alloc (Obj.cells #[.int .i64 u.sign, .slice p3 (Wh.limbs u.natAbs).length q3] 92)).heap.size = w2.heap.size + 3) := Lib.hid (by simp)
  have HR := Lib.hid (And.intro ((hbV.cell (p := ⟨w.heap.size, 0, none⟩) lw).trans HR0.out.1) (And.intro ((hbV.cell (p := ⟨w.heap.size, 1, none⟩) lw).trans HR0.out.2.1) ((hbV.cell (p := ⟨w.heap.size, 2, none⟩) lw).trans HR0.out.2.2)))
  have HF := Lib.hid (And.intro ((hbV.frozen (p := ⟨w.heap.size, 0, none⟩) lw).trans HF0.out.1) (And.intro ((hbV.frozen (p := ⟨w.heap.size, 1, none⟩) lw).trans HF0.out.2.1) ((hbV.frozen (p := ⟨w.heap.size, 2, none⟩) lw).trans HF0.out.2.2)))
  have HLW : Hid (w.heap.size < (((w2.alloc (Obj.cells #[.int .i64 g.sign, .slice p1 (Wh.limbs g.natAbs).length q1] 92)).alloc (Obj.cells #[.int .i64 vv.sign, .slice p2 (Wh.limbs vv.natAbs).length q2] 92)).alloc (Obj.cells #[.int .i64 u.sign, .slice p3 (Wh.limbs u.natAbs).length q3] 92)).heap.size) := Lib.hid (Nat.lt_of_lt_of_le lw hbV.size)
  have HBV := Lib.hid (HB0.out.trans (hbV.mono HB0.out.size))
  clear hbU hal3 hbV k1 k2 k3 hb2 HC4 HB1 HR0 HF0
  go_wp2_with fail
  generalize (((w2.alloc (Obj.cells #[.int .i64 g.sign, .slice p1 (Wh.limbs g.natAbs).length q1] 92)).alloc (Obj.cells #[.int .i64 vv.sign, .slice p2 (Wh.limbs vv.natAbs).length q2] 92)).alloc (Obj.cells #[.int .i64 u.sign, .slice p3 (Wh.limbs u.natAbs).length q3] 92)) = V at *
  have HTV := Lib.hid (HT.out.mono HBV.out)
  refine wp_mono (Q := fun e a' W' => e = .normal ∧ (∃ (vals : Nat → Value), a' = { tmps := #[.pointer (some pa), .pointer (some pb), .pointer (some ⟨w.heap.size, 0, none⟩), .pointer (some ⟨w1.heap.size, 0, none⟩), .pointer (some ⟨w2.heap.size, 0, none⟩), .pointer (some ⟨w2.heap.size + 1, 0, none⟩), .pointer (some ⟨w2.heap.size + 1 + 1, 0, none⟩), .string (str (Wh.decI x)), .string (str (Wh.decI y)), .agg #[.int .i64 x.sign, .slice a1 (Wh.limbs x.natAbs).length c1, .int .i64 y.sign, .slice a2 (Wh.limbs y.natAbs).length c2], .tuple #[.agg #[.int .i64 g.sign, .slice p1 (Wh.limbs g.natAbs).length q1], .agg #[.int .i64 vv.sign, .slice p2 (Wh.limbs vv.natAbs).length q2], .agg #[.int .i64 u.sign, .slice p3 (Wh.limbs u.natAbs).length q3]], .pointer (some ⟨w1.heap.size, 0, none⟩), .agg #[.int .i64 x.sign, .slice a1 (Wh.limbs x.natAbs).length c1], .pointer (some ⟨w1.heap.size, 2, none⟩), .agg #[.int .i64 y.sign, .slice a2 (Wh.limbs y.natAbs).length c2], .tuple #[.agg #[.int .i64 g.sign, .slice p1 (Wh.limbs g.natAbs).length q1], .agg #[.int .i64 vv.sign, .slice p2 (Wh.limbs vv.natAbs).length q2], .agg #[.int .i64 u.sign, .slice p3 (Wh.limbs u.natAbs).length q3]], .agg #[.int .i64 g.sign, .slice p1 (Wh.limbs g.natAbs).length q1], .agg #[.int .i64 vv.sign, .slice p2 (Wh.limbs vv.natAbs).length q2], .agg #[.int .i64 u.sign, .slice p3 (Wh.limbs u.natAbs).length q3], vals 0, vals 1, vals 2, vals 3, vals 4, vals 5, vals 6], defers := [] }) ∧ (W'.cell? ⟨w.heap.size, 0, none⟩ = some (txt g) ∧ W'.cell? ⟨w.heap.size, 1, none⟩ = some (txt vv) ∧ W'.cell? ⟨w.heap.size, 2, none⟩ = some (txt u)) ∧ Below w.heap.size w W') ?_ ?_
  refine Rt.wp_region_grow (n0 := 1) [7] [] 26 (fun vals => { tmps := #[.pointer (some pa), .pointer (some pb), .pointer (some ⟨w.heap.size, 0, none⟩), .pointer (some ⟨w1.heap.size, 0, none⟩), .pointer (some ⟨w2.heap.size, 0, none⟩), .pointer (some ⟨w2.heap.size + 1, 0, none⟩), .pointer (some ⟨w2.heap.size + 1 + 1, 0, none⟩), .string (str (Wh.decI x)), .string (str (Wh.decI y)), .agg #[.int .i64 x.sign, .slice a1 (Wh.limbs x.natAbs).length c1, .int .i64 y.sign, .slice a2 (Wh.limbs y.natAbs).length c2], .tuple #[.agg #[.int .i64 g.sign, .slice p1 (Wh.limbs g.natAbs).length q1], .agg #[.int .i64 vv.sign, .slice p2 (Wh.limbs vv.natAbs).length q2], .agg #[.int .i64 u.sign, .slice p3 (Wh.limbs u.natAbs).length q3]], .pointer (some ⟨w1.heap.size, 0, none⟩), .agg #[.int .i64 x.sign, .slice a1 (Wh.limbs x.natAbs).length c1], .pointer (some ⟨w1.heap.size, 2, none⟩), .agg #[.int .i64 y.sign, .slice a2 (Wh.limbs y.natAbs).length c2], .tuple #[.agg #[.int .i64 g.sign, .slice p1 (Wh.limbs g.natAbs).length q1], .agg #[.int .i64 vv.sign, .slice p2 (Wh.limbs vv.natAbs).length q2], .agg #[.int .i64 u.sign, .slice p3 (Wh.limbs u.natAbs).length q3]], .agg #[.int .i64 g.sign, .slice p1 (Wh.limbs g.natAbs).length q1], .agg #[.int .i64 vv.sign, .slice p2 (Wh.limbs vv.natAbs).length q2], .agg #[.int .i64 u.sign, .slice p3 (Wh.limbs u.natAbs).length q3], vals 0, vals 1, vals 2, vals 3, vals 4, vals 5, vals 6], defers := [] }) (GD g vv u) (by kernel_rfl) (by kernel_rfl) (by kernel_rfl) (by kernel_rfl) (fun _ _ _ _ _ h => absurd h.1 (by simp)) (by kernel_rfl) rfl (fun _ => by kernel_rfl) (by kernel_rfl) (by kernel_rfl) (GD_stays _ _ _) ?_ ?_ ?_
  · intro i o d hi hT hW hd vals w' hb hf
    have hlt : i < 8 := (Array.getElem?_eq_some_iff.1 hi).1
    rcases i with _ | _ | _ | _ | _ | _ | _ | _ | i
    · obtain rfl := Option.some.inj hi
      obtain rfl := Option.some.inj hd
      obtain ⟨ga, gc, z0, z1, zs⟩ := (HB4.out).mono hb (by have := HVS.out; omega)
      have ZS := Lib.hid zs; clear zs
      dsimp only
      go_simp
      exact ⟨⟨_, rfl, ZS.out⟩, Below.refl _ _⟩
    · obtain rfl := Option.some.inj hi
      obtain rfl := Option.some.inj hd
      have h0 : Num w' (vals 0) g := hf 0 (by kernel_rfl)
      have HP := wtext_any w' _ g h0 (HTV.out.mono hb) (HVD_g.out)
      obtain ⟨s0, e0, -⟩ := h0
      rw [e0] at HP
      have HP := Lib.hid HP
      dsimp only
      rw [e0]
      go_simp
      refine HP.out.mono ?_
      rintro e w5 ⟨rfl, hb5⟩
      exact ⟨rfl, hb5⟩
    · obtain rfl := Option.some.inj hi
      obtain rfl := Option.some.inj hd
      obtain ⟨ga, gc, z0, z1, zs⟩ := (HB5.out).mono hb (by have := HVS.out; omega)
      have ZS := Lib.hid zs; clear zs
      dsimp only
      go_simp
      exact ⟨⟨_, rfl, ZS.out⟩, Below.refl _ _⟩
    · obtain rfl := Option.some.inj hi
      obtain rfl := Option.some.inj hd
      have h0 : Num w' (vals 2) vv := hf 2 (by kernel_rfl)
      have HP := wtext_any w' _ vv h0 (HTV.out.mono hb) (HVD_vv.out)
      obtain ⟨s0, e0, -⟩ := h0
      rw [e0] at HP
      have HP := Lib.hid HP
      dsimp only
      rw [e0]
      go_simp
      refine HP.out.mono ?_
      rintro e w5 ⟨rfl, hb5⟩
      exact ⟨rfl, hb5⟩
    · obtain rfl := Option.some.inj hi
      obtain rfl := Option.some.inj hd
      obtain ⟨ga, gc, z0, z1, zs⟩ := (HB6.out).mono hb (by have := HVS.out; omega)
      have ZS := Lib.hid zs; clear zs
      dsimp only
      go_simp
      exact ⟨⟨_, rfl, ZS.out⟩, Below.refl _ _⟩
    · obtain rfl := Option.some.inj hi
      obtain rfl := Option.some.inj hd
      have h0 : Num w' (vals 4) u := hf 4 (by kernel_rfl)
      have HP := wtext_any w' _ u h0 (HTV.out.mono hb) (HVD_u.out)
      obtain ⟨s0, e0, -⟩ := h0
      rw [e0] at HP
      have HP := Lib.hid HP
      dsimp only
      rw [e0]
      go_simp
      refine HP.out.mono ?_
      rintro e w5 ⟨rfl, hb5⟩
      exact ⟨rfl, hb5⟩
    · obtain rfl := Option.some.inj hi
      obtain rfl := Option.some.inj hd
      have e1 : vals 1 = .string (str (Wh.decI g)) := hf 1 (by kernel_rfl)
      have e3 : vals 3 = .string (str (Wh.decI vv)) := hf 3 (by kernel_rfl)
      have e5 : vals 5 = .string (str (Wh.decI u)) := hf 5 (by kernel_rfl)
      dsimp only
      rw [e1, e3, e5]
      go_simp
      exact ⟨rfl, Below.refl _ _⟩
    · cases hT
    · omega
  · intro p o d hi hW hd vals w' hb hf
    cases hW
  · intro vals w' hb hf
    have e6 : vals 6 = .agg #[.string (str (Wh.decI g)), .string (str (Wh.decI vv)), .string (str (Wh.decI u))] := hf 6 (by decide) rfl
    have r0 := (hb.cell (p := ⟨w.heap.size, 0, none⟩) HLW.out).trans HR.out.1
    have r1 := (hb.cell (p := ⟨w.heap.size, 1, none⟩) HLW.out).trans HR.out.2.1
    have r2 := (hb.cell (p := ⟨w.heap.size, 2, none⟩) HLW.out).trans HR.out.2.2
    have f0 := (hb.frozen (p := ⟨w.heap.size, 0, none⟩) HLW.out).trans HF.out.1
    have f1 := (hb.frozen (p := ⟨w.heap.size, 1, none⟩) HLW.out).trans HF.out.2.1
    have f2 := (hb.frozen (p := ⟨w.heap.size, 2, none⟩) HLW.out).trans HF.out.2.2
    have HTC := Lib.hid (tri_cells w' w.heap.size (txt g) (txt vv) (txt u) r0 r1 r2)
    have HB := Lib.hid (HBV.out.trans (hb.mono HBV.out.size))
    clear hb hf
    rw [e6]
    refine Rt.wpAny_step (i := 7) (by kernel_rfl) rfl (by rfl) (fun K hK => ?_)
    have HK := Lib.hid hK; clear hK
    go_simp
    refine HK.out _ _ ?_
    exact Rt.wpAny_end (by kernel_rfl) ⟨rfl, ⟨vals, by rw [e6]⟩, HTC.out, ((HB.out.setCell (p := ⟨w.heap.size, 0, none⟩) (Nat.le_refl w.heap.size) _).setCell (p := ⟨w.heap.size, 1, none⟩) (Nat.le_refl w.heap.size) _).setCell (p := ⟨w.heap.size, 2, none⟩) (Nat.le_refl w.heap.size) _⟩
  · rintro e a' W ⟨rfl, ⟨va, rfl⟩, ⟨t0, t1, t2⟩, hB⟩
    unfold txt at *
    go_wp2
    exact bodyPost_ret (v := .agg #[.string (str (Wh.decI g)), .string (str (Wh.decI vv)), .string (str (Wh.decI u))]) (by simp [results, Tryz.results158, go_sem, t0, t1, t2]) rfl ⟨rfl, hB⟩

set_option maxRecDepth 100000 in
set_option maxHeartbeats 400000 in
theorem Gcd_x (w : World) (x y g vv u : Int) (ex : x = 12) (ey : y = 18) (eg : g = 6) (ev : vv = 2) (eu : u = -1) (htab : Tab w) :
    Calls Tryz.prog 75 #[txt x, txt y] w fun e w' => e = .returned (.tuple #[txt g, txt vv, txt u, .int .i64 0]) ∧ Below w.heap.size w w' := by
  have hmf : ∀ (fn : Fn) (first cap : Array Value) (w : World), (Instr.makeFunc fn first cap).run Tryz.prog w = .ok (.func fn first cap) w := fun _ _ _ _ => rfl
  have hat := fun (w : World) (pa pb : Addr) (h : Captured w pa pb x y) (htab : Tab w) (ha : pa.block < w.heap.size) (hb : pb.block < w.heap.size) => attempt_good3 158 #[.pointer (some pa), .pointer (some pb)] (str (Wh.decI g)) (str (Wh.decI vv)) (str (Wh.decI u)) w (fun w => by kernel_rfl) (fun w' hb' => gcd_work w' pa pb x y g vv u ⟨(hb'.cell ha).trans h.a, (hb'.cell hb).trans h.b⟩ (Nat.lt_of_lt_of_le ha hb'.size) (Nat.lt_of_lt_of_le hb hb'.size) ex ey eg ev eu (htab.mono hb'))
  have HAT := Lib.hid hat; clear hat ex ey eg ev eu
  have HT := Lib.hid htab; clear htab
  unfold txt at *
  go_enter Tryz.func75, Tryz.ntmps75
  go_wp2_with fail
  have hal : Below w.heap.size w ((w.alloc (.cells #[.string (str (Wh.decI x))] 9)).alloc (.cells #[.string (str (Wh.decI y))] 9)) := ((Below.refl _ _).alloc (Nat.le_refl _) _).alloc (by simp) _
  obtain ⟨b0, b1⟩ := boxed w (.string (str (Wh.decI x))) (.string (str (Wh.decI y))) 9
  refine (HAT.out _ _ _ ⟨b0, b1⟩ (HT.out.mono hal) (by simp; omega) (by simp)).mono ?_
  rintro e w2 ⟨rfl, hb2⟩
  have hbb := hal.trans (hb2.mono hal.size)
  clear hal b0 b1 hb2
  go_wp2_with fail
  have q0 : (w2.alloc (Obj.cells #[Value.string (str (Wh.decI g)), Value.string (str (Wh.decI vv)), Value.string (str (Wh.decI u))] 155)).cell? ⟨w2.heap.size, 0, none⟩ = some (.string (str (Wh.decI g))) := by go_simp
  have q1 : (w2.alloc (Obj.cells #[Value.string (str (Wh.decI g)), Value.string (str (Wh.decI vv)), Value.string (str (Wh.decI u))] 155)).cell? ⟨w2.heap.size, 1, none⟩ = some (.string (str (Wh.decI vv))) := by go_simp
  have q2 : (w2.alloc (Obj.cells #[Value.string (str (Wh.decI g)), Value.string (str (Wh.decI vv)), Value.string (str (Wh.decI u))] 155)).cell? ⟨w2.heap.size, 2, none⟩ = some (.string (str (Wh.decI u))) := by go_simp
  have hB : Below w.heap.size w (w2.alloc (Obj.cells #[Value.string (str (Wh.decI g)), Value.string (str (Wh.decI vv)), Value.string (str (Wh.decI u))] 155)) := hbb.alloc hbb.size _
  have HB := Lib.hid hB; clear hB hbb
  generalize (w2.alloc (Obj.cells #[Value.string (str (Wh.decI g)), Value.string (str (Wh.decI vv)), Value.string (str (Wh.decI u))] 155)) = V at *
  go_quiet (fail)
  go_wp2
  exact bodyPost_ret (v := .tuple #[Value.string (str (Wh.decI g)), Value.string (str (Wh.decI vv)), Value.string (str (Wh.decI u)), .int .i64 0]) (by simp [results, Tryz.results75, go_sem]) rfl ⟨rfl, HB.out.trans (below_drewN _ _ _)⟩
end Go.Proofs.YteggbenhffmijaaGreatDoor

/- WALKS, PowMod 3: whole.PowMod. -/
namespace Go.Proofs.YteggbenhffmijaaGreatDoor
open Go.RowKit
theorem boxed3 (w : World) (a b c : Value) (t : TypeId) : (((w.alloc (.cells #[a] t)).alloc (.cells #[b] t)).alloc (.cells #[c] t)).cell? ⟨w.heap.size, 0, none⟩ = some a ∧ (((w.alloc (.cells #[a] t)).alloc (.cells #[b] t)).alloc (.cells #[c] t)).cell? ⟨w.heap.size + 1, 0, none⟩ = some b ∧ (((w.alloc (.cells #[a] t)).alloc (.cells #[b] t)).alloc (.cells #[c] t)).cell? ⟨w.heap.size + 1 + 1, 0, none⟩ = some c := ⟨by go_simp, by go_simp, by go_simp⟩
set_option maxHeartbeats 400000 in
theorem PowMod_any (w : World) (x y m : Int) (hx : Valid x) (hy : Valid y) (hm : Valid m) (hfx : Fit x) (hy0 : 0 ≤ y) (hm0 : 0 < m ∧ m < 1000000000) (hz : Valid ((x ^ y.natAbs).fmod m)) (htab : Tab w) :
    Calls Tryz.prog 141 #[txt x, txt y, txt m] w fun e w' => e = .returned (.tuple #[txt ((x ^ y.natAbs).fmod m), .int .i64 0]) ∧ Below w.heap.size w w' := by
  have hmf : ∀ (fn : Fn) (first cap : Array Value) (w : World), (Instr.makeFunc fn first cap).run Tryz.prog w = .ok (.func fn first cap) w := fun _ _ _ _ => rfl
  have hat := fun (w : World) (pa pb pc : Addr) (h : Captured3 w pa pb pc x y m) (hl : Lie3 w pa pb pc) (htab : Tab w) => attempt_good 225 #[.pointer (some pa), .pointer (some pb), .pointer (some pc)] (str (Wh.decI ((x ^ y.natAbs).fmod m))) w (fun w => by kernel_rfl) (fun w' hb' => powmod_work w' pa pb pc x y m ⟨(hb'.cell hl.a).trans h.a, (hb'.cell hl.b).trans h.b, (hb'.cell hl.c).trans h.c⟩ ⟨Nat.lt_of_lt_of_le hl.a hb'.size, Nat.lt_of_lt_of_le hl.b hb'.size, Nat.lt_of_lt_of_le hl.c hb'.size⟩ hx hy hm hfx hy0 hm0 hz (htab.mono hb'))
  have HAT := Lib.hid hat; clear hat
  unfold txt at *
  go_enter Tryz.func141, Tryz.ntmps141
  go_wp2_with fail
  have hal : Below w.heap.size w (((w.alloc (.cells #[.string (str (Wh.decI x))] 9)).alloc (.cells #[.string (str (Wh.decI y))] 9)).alloc (.cells #[.string (str (Wh.decI m))] 9)) := (((Below.refl _ _).alloc (Nat.le_refl _) _).alloc (by simp) _).alloc (by simp; omega) _
  obtain ⟨b0, b1, b2⟩ := boxed3 w (.string (str (Wh.decI x))) (.string (str (Wh.decI y))) (.string (str (Wh.decI m))) 9
  refine (HAT.out _ _ _ _ ⟨b0, b1, b2⟩ ⟨by simp <;> omega, by simp <;> omega, by simp <;> omega⟩ (htab.mono hal)).mono ?_
  rintro e w2 ⟨rfl, hb2⟩
  have hbb := hal.trans (hb2.mono hal.size)
  clear hal b0 b1 b2 hb2
  go_wp2
  go_ret2
  exact ⟨rfl, hbb⟩
end Go.Proofs.YteggbenhffmijaaGreatDoor

/- WALKS, the law WholeRing, over what counted() answers. -/
namespace Go.Proofs.YteggbenhffmijaaGreatDoor
open Go.RowKit
def Bd (k : Nat) (x : Int) : Prop := x.natAbs < 10 ^ k
theorem Bd.mono {j k : Nat} {x : Int} (h : Bd j x) (hjk : j ≤ k) : Bd k x := Nat.lt_of_lt_of_le h (Nat.pow_le_pow_right (by decide) hjk)
theorem Bd.add {k : Nat} {x y : Int} (hx : Bd k x) (hy : Bd k y) : Bd (k + 1) (x + y) := by
  unfold Bd at *
  rw [Nat.pow_succ]
  generalize 10 ^ k = t at *
  omega
theorem Bd.sub {k : Nat} {x y : Int} (hx : Bd k x) (hy : Bd k y) : Bd (k + 1) (x - y) := by
  unfold Bd at *
  rw [Nat.pow_succ]
  generalize 10 ^ k = t at *
  omega
theorem Bd.mul {j k : Nat} {x y : Int} (hx : Bd j x) (hy : Bd k y) : Bd (j + k) (x * y) := by
  unfold Bd at *
  rw [Int.natAbs_mul, Nat.pow_add]
  exact Nat.mul_lt_mul'' hx hy
theorem Bd.valid {k : Nat} {x : Int} (h : Bd k x) (hk : 0 < k) (hk4 : k ≤ 400) : Valid x := Nat.le_trans (Wh.decN_length_le hk h) hk4
/-- counted answers true -/
def Counted : Prop := ∀ w, Tab w → Calls Tryz.prog 66 #[] w fun e w' => e = .returned (.bool true) ∧ Below w.heap.size w w'
end Go.Proofs.YteggbenhffmijaaGreatDoor
