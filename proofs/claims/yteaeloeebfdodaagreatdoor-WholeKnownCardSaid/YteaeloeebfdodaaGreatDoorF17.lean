/- Part 17 of the proofs that laws of package whole answer true at every input and leave the input as it was, where the library's variables start as the text lays them (the texts V2, T9, V3, T10, G6, Q9, R6). -/
import Derived.Test.YteaeloeebfdodaaGreatDoorF16
import Derived.Test.YteaeloeebfdodaaGreatDoorF09
import Derived.Test.YteaeloeebfdodaaGreatDoorF11
import Derived.Test.YteaeloeebfdodaaGreatDoorF06
import Derived.Deep.QuietTactic
import Derived.BigQuiet
set_option linter.unusedVariables false
set_option linter.unusedSimpArgs false
/- WALKS, Floor 2: double. -/
namespace Go.Proofs.YteaeloeebfdodaaGreatDoor
open Go.RowKit
/-- what each operation of double's last region yields -/
def DB (q r : Int) (p1 p2 : Option Addr) (c1 c2 : Nat) : Nat → Value → World → Prop
  | 0, v, _ => v = .agg #[.int .i64 q.sign, .slice p1 (Wh.limbs q.natAbs).length c1]
  | 1, v, _ => v = txt q
  | 2, v, _ => v = .agg #[.int .i64 r.sign, .slice p2 (Wh.limbs r.natAbs).length c2]
  | 3, v, _ => v = txt r
  | _, v, _ => v = .agg #[txt q, txt r]
set_option maxRecDepth 100000 in
set_option maxHeartbeats 1000000 in
theorem double_any (w : World) (o : Value) (q r : Int) (htab : Tab w) (hq : Valid q) (hr : Valid r)
    (hp : ∀ w', Below w.heap.size w w' → Calls Tryz.prog 179 #[o] w' fun e w'' => (∃ v' v'', e = .returned (.tuple #[v', v'']) ∧ Num w'' v' q ∧ Num w'' v'' r) ∧ Below w'.heap.size w' w'') :
    Calls Tryz.prog 111 #[o] w fun e w' => e = .returned (.agg #[txt q, txt r]) ∧ Below w.heap.size w w' := by
  have HP := Lib.hid hp; clear hp
  go_enter Tryz.func111, Tryz.ntmps111
  go_wp2_with fail
  have hb0 : Below w.heap.size w (w.alloc (.cells #[.string ⟨#[]⟩, .string ⟨#[]⟩] 113)) := (Below.refl _ _).alloc (Nat.le_refl _) _
  refine (HP.out _ hb0).mono ?_
  rintro e w1 ⟨⟨vq, vr, rfl, hn1, hn2⟩, hb1⟩
  obtain ⟨s1, rfl, k1⟩ := hn1
  obtain ⟨p1, c1, rfl⟩ := k1.len
  obtain ⟨s2, rfl, k2⟩ := hn2
  obtain ⟨p2, c2, rfl⟩ := k2.len
  go_wp2_with fail
  have hV : Below w1.heap.size w1 ((w1.alloc (Obj.cells #[Value.int IntKind.i64 q.sign, Value.slice p1 (Wh.limbs q.natAbs).length c1] 83)).alloc (Obj.cells #[Value.int IntKind.i64 r.sign, Value.slice p2 (Wh.limbs r.natAbs).length c2] 83)) := ((Below.refl _ _).alloc (Nat.le_refl _) _).alloc (by simp) _
  have hVs : ((w1.alloc (Obj.cells #[Value.int IntKind.i64 q.sign, Value.slice p1 (Wh.limbs q.natAbs).length c1] 83)).alloc (Obj.cells #[Value.int IntKind.i64 r.sign, Value.slice p2 (Wh.limbs r.natAbs).length c2] 83)).heap.size = w1.heap.size + 2 := by simp
  have x0 : ((w1.alloc (Obj.cells #[Value.int IntKind.i64 q.sign, Value.slice p1 (Wh.limbs q.natAbs).length c1] 83)).alloc (Obj.cells #[Value.int IntKind.i64 r.sign, Value.slice p2 (Wh.limbs r.natAbs).length c2] 83)).cell? ⟨w1.heap.size, 0, none⟩ = some (.int .i64 q.sign) := by go_simp
  have x1 : ((w1.alloc (Obj.cells #[Value.int IntKind.i64 q.sign, Value.slice p1 (Wh.limbs q.natAbs).length c1] 83)).alloc (Obj.cells #[Value.int IntKind.i64 r.sign, Value.slice p2 (Wh.limbs r.natAbs).length c2] 83)).cell? ⟨w1.heap.size, 1, none⟩ = some (.slice p1 (Wh.limbs q.natAbs).length c1) := by go_simp
  have y0 : ((w1.alloc (Obj.cells #[Value.int IntKind.i64 q.sign, Value.slice p1 (Wh.limbs q.natAbs).length c1] 83)).alloc (Obj.cells #[Value.int IntKind.i64 r.sign, Value.slice p2 (Wh.limbs r.natAbs).length c2] 83)).cell? ⟨w1.heap.size + 1, 0, none⟩ = some (.int .i64 r.sign) := by go_simp
  have y1 : ((w1.alloc (Obj.cells #[Value.int IntKind.i64 q.sign, Value.slice p1 (Wh.limbs q.natAbs).length c1] 83)).alloc (Obj.cells #[Value.int IntKind.i64 r.sign, Value.slice p2 (Wh.limbs r.natAbs).length c2] 83)).cell? ⟨w1.heap.size + 1, 1, none⟩ = some (.slice p2 (Wh.limbs r.natAbs).length c2) := by go_simp
  have hw1 : w.heap.size + 1 ≤ w1.heap.size := by have := hb1.size; simpa using this
  have hbV := (hb1.mono (by simp : w.heap.size + 1 ≤ (w.alloc (Obj.cells #[Value.string ⟨#[]⟩, Value.string ⟨#[]⟩] 113)).heap.size)).trans (hV.mono hw1)
  have r0 := (hbV.cell (p := ⟨w.heap.size, 0, none⟩) (Nat.lt_succ_self _)).trans (show (w.alloc (Obj.cells #[Value.string ⟨#[]⟩, Value.string ⟨#[]⟩] 113)).cell? ⟨w.heap.size, 0, none⟩ = some (.string ⟨#[]⟩) by go_simp)
  have r1 := (hbV.cell (p := ⟨w.heap.size, 1, none⟩) (Nat.lt_succ_self _)).trans (show (w.alloc (Obj.cells #[Value.string ⟨#[]⟩, Value.string ⟨#[]⟩] 113)).cell? ⟨w.heap.size, 1, none⟩ = some (.string ⟨#[]⟩) by go_simp)
  have g0 := (hbV.frozen (p := ⟨w.heap.size, 0, none⟩) (Nat.lt_succ_self _)).trans (show (w.alloc (Obj.cells #[Value.string ⟨#[]⟩, Value.string ⟨#[]⟩] 113)).frozen? ⟨w.heap.size, 0, none⟩ = false by go_simp)
  have g1 := (hbV.frozen (p := ⟨w.heap.size, 1, none⟩) (Nat.lt_succ_self _)).trans (show (w.alloc (Obj.cells #[Value.string ⟨#[]⟩, Value.string ⟨#[]⟩] 113)).frozen? ⟨w.heap.size, 1, none⟩ = false by go_simp)
  have hBV : Below w.heap.size w ((w1.alloc (Obj.cells #[Value.int IntKind.i64 q.sign, Value.slice p1 (Wh.limbs q.natAbs).length c1] 83)).alloc (Obj.cells #[Value.int IntKind.i64 r.sign, Value.slice p2 (Wh.limbs r.natAbs).length c2] 83)) := hb0.trans (hbV.mono (Nat.le_succ _))
  have K1 := Lib.hid (k1.mono hV); have K2 := Lib.hid (k2.mono hV)
  clear hbV hV k1 k2 hb1 hb0
  generalize ((w1.alloc (Obj.cells #[Value.int IntKind.i64 q.sign, Value.slice p1 (Wh.limbs q.natAbs).length c1] 83)).alloc (Obj.cells #[Value.int IntKind.i64 r.sign, Value.slice p2 (Wh.limbs r.natAbs).length c2] 83)) = V at *
  have htV := Lib.hid (htab.mono hBV)
  have HBV := Lib.hid hBV; clear hBV
  have hq' := Lib.hid hq; have hr' := Lib.hid hr; clear hq hr
  refine wp_mono (Q := fun e a W' => e = .normal ∧ (∃ vals : Nat → Value, a = { tmps := #[o, undef, Value.pointer (some ⟨w.heap.size, 0, none⟩), Value.pointer (some ⟨w1.heap.size, 0, none⟩), Value.pointer (some ⟨w1.heap.size + 1, 0, none⟩), Value.tuple #[Value.agg #[Value.int IntKind.i64 q.sign, Value.slice p1 (Wh.limbs q.natAbs).length c1], Value.agg #[Value.int IntKind.i64 r.sign, Value.slice p2 (Wh.limbs r.natAbs).length c2]], o, Value.tuple #[Value.agg #[Value.int IntKind.i64 q.sign, Value.slice p1 (Wh.limbs q.natAbs).length c1], Value.agg #[Value.int IntKind.i64 r.sign, Value.slice p2 (Wh.limbs r.natAbs).length c2]], Value.agg #[Value.int IntKind.i64 q.sign, Value.slice p1 (Wh.limbs q.natAbs).length c1], Value.agg #[Value.int IntKind.i64 r.sign, Value.slice p2 (Wh.limbs r.natAbs).length c2], vals 0, vals 1, vals 2, vals 3, vals 4], defers := [] }) ∧ W'.cell? ⟨w.heap.size, 0, none⟩ = some (txt q) ∧ W'.cell? ⟨w.heap.size, 1, none⟩ = some (txt r) ∧ Below w.heap.size w W') ?_ ?_
  refine Rt.wp_region_grow (n0 := 1) [5] [] 15 (fun vals => { tmps := #[o, undef, Value.pointer (some ⟨w.heap.size, 0, none⟩), Value.pointer (some ⟨w1.heap.size, 0, none⟩), Value.pointer (some ⟨w1.heap.size + 1, 0, none⟩), Value.tuple #[Value.agg #[Value.int IntKind.i64 q.sign, Value.slice p1 (Wh.limbs q.natAbs).length c1], Value.agg #[Value.int IntKind.i64 r.sign, Value.slice p2 (Wh.limbs r.natAbs).length c2]], o, Value.tuple #[Value.agg #[Value.int IntKind.i64 q.sign, Value.slice p1 (Wh.limbs q.natAbs).length c1], Value.agg #[Value.int IntKind.i64 r.sign, Value.slice p2 (Wh.limbs r.natAbs).length c2]], Value.agg #[Value.int IntKind.i64 q.sign, Value.slice p1 (Wh.limbs q.natAbs).length c1], Value.agg #[Value.int IntKind.i64 r.sign, Value.slice p2 (Wh.limbs r.natAbs).length c2], vals 0, vals 1, vals 2, vals 3, vals 4], defers := [] }) (DB q r p1 p2 c1 c2) (by kernel_rfl) (by kernel_rfl) (by kernel_rfl) (by kernel_rfl) (fun _ _ _ _ _ h => absurd h.1 (by simp)) (by kernel_rfl) rfl (fun _ => by kernel_rfl) (by kernel_rfl) (by kernel_rfl) (fun i v w w' h _ => by
    match i, h with
    | 0, h | 1, h | 2, h | 3, h | _ + 4, h => exact h) ?_ ?_ ?_
  · intro i o' d hi hT hW hd vals w' hb hf
    have hlt : i < 6 := (Array.getElem?_eq_some_iff.1 hi).1
    have z0 := (hb.cell (p := ⟨w1.heap.size, 0, none⟩) (by show w1.heap.size < _; omega)).trans x0
    have z1 := (hb.cell (p := ⟨w1.heap.size, 1, none⟩) (by show w1.heap.size < _; omega)).trans x1
    have u0 := (hb.cell (p := ⟨w1.heap.size + 1, 0, none⟩) (by show w1.heap.size + 1 < _; omega)).trans y0
    have u1 := (hb.cell (p := ⟨w1.heap.size + 1, 1, none⟩) (by show w1.heap.size + 1 < _; omega)).trans y1
    rcases i with _ | _ | _ | _ | _ | _ | i
    · obtain rfl := Option.some.inj hi
      obtain rfl := Option.some.inj hd
      dsimp only
      go_simp
      exact ⟨rfl, Below.refl _ _⟩
    · obtain rfl := Option.some.inj hi
      obtain rfl := Option.some.inj hd
      have e0 : vals 0 = _ := hf 0 (by kernel_rfl)
      dsimp only
      rw [e0]
      go_simp
      refine (wtext_any w' _ q ⟨_, rfl, K1.out.mono hb⟩ (htV.out.mono hb) hq'.out).mono ?_
      rintro e w5 ⟨rfl, hb5⟩
      exact ⟨rfl, hb5⟩
    · obtain rfl := Option.some.inj hi
      obtain rfl := Option.some.inj hd
      dsimp only
      go_simp
      exact ⟨rfl, Below.refl _ _⟩
    · obtain rfl := Option.some.inj hi
      obtain rfl := Option.some.inj hd
      have e0 : vals 2 = _ := hf 2 (by kernel_rfl)
      dsimp only
      rw [e0]
      go_simp
      refine (wtext_any w' _ r ⟨_, rfl, K2.out.mono hb⟩ (htV.out.mono hb) hr'.out).mono ?_
      rintro e w5 ⟨rfl, hb5⟩
      exact ⟨rfl, hb5⟩
    · obtain rfl := Option.some.inj hi
      obtain rfl := Option.some.inj hd
      have e0 : vals 1 = .string (str (Wh.decI q)) := hf 1 (by kernel_rfl)
      have e1 : vals 3 = .string (str (Wh.decI r)) := hf 3 (by kernel_rfl)
      dsimp only
      rw [e0, e1]
      go_simp
      exact ⟨rfl, Below.refl _ _⟩
    · cases hT
    · omega
  · intro p o d hi hW hd vals w' hb hf
    cases hW
  · intro vals w' hb hf
    have e4 : vals 4 = .agg #[.string (str (Wh.decI q)), .string (str (Wh.decI r))] := hf 4 (by decide) rfl
    have lw : w.heap.size < V.heap.size := by omega
    have r0 := (hb.cell (p := ⟨w.heap.size, 0, none⟩) lw).trans r0
    have r1 := (hb.cell (p := ⟨w.heap.size, 1, none⟩) lw).trans r1
    have g0 := (hb.frozen (p := ⟨w.heap.size, 0, none⟩) lw).trans g0
    have g1 := (hb.frozen (p := ⟨w.heap.size, 1, none⟩) lw).trans g1
    obtain ⟨t0, t1⟩ := two_cells w' w.heap.size (txt q) (txt r) r0 r1
    have HB := Lib.hid (HBV.out.trans (hb.mono HBV.out.size))
    have T0 := Lib.hid t0; have T1 := Lib.hid t1
    clear hb hf t0 t1 x0 x1 y0 y1
    rw [e4]
    refine Rt.wpAny_step (i := 5) (by kernel_rfl) rfl (by rfl) (fun K hK => ?_)
    have HK := Lib.hid hK; clear hK
    go_simp
    refine HK.out _ _ ?_
    exact Rt.wpAny_end (by kernel_rfl) ⟨rfl, ⟨vals, by rw [e4]⟩, T0.out, T1.out, (HB.out.setCell (Nat.le_refl _) _).setCell (Nat.le_refl _) _⟩
  · rintro e a W ⟨rfl, ⟨vals, rfl⟩, t0, t1, hB⟩
    unfold txt at *
    go_wp2
    exact bodyPost_ret (v := .agg #[.string (str (Wh.decI q)), .string (str (Wh.decI r))]) (by simp [results, Tryz.results111, go_sem, t0, t1]) rfl ⟨rfl, hB⟩
end Go.Proofs.YteaeloeebfdodaaGreatDoor

/- WALKS, texts 9: attempt of [2]string, where the work ends well. -/
namespace Go.Proofs.YteaeloeebfdodaaGreatDoor
open Go.RowKit
theorem catch_idle2 (p : Addr) (w : World) :
    CallsD Tryz.prog 192 #[.pointer (some p)] .returning w fun e u' w' => e = .returned (.tuple #[]) ∧ u' = .returning ∧ w' = w := by
  refine callsD_of_wpS Tryz.func192 rfl fun c₀ cs hu => ?_
  apply wpS_seq
  apply wpS_region
  simp [wpOpsS, go_sem, recoverD, hu, Tryz.ntmps192, Exit.thenS]
  apply wpS_seq
  apply wpS_region
  simp [wpOpsS, go_sem, Array.replicate, Exit.thenS]
  refine wpS_cond (t := false) (by simp [Act.eval]) ?_
  simp only [Bool.false_eq_true, if_false]
  refine wpS_of_wp (wp_skip ?_)
  cases c₀
  simp_all [bodyPostS, results, Tryz.results192]
set_option maxRecDepth 100000 in
set_option maxHeartbeats 400000 in
theorem attempt_good2 (K : Nat) (caps : Array Value) (v1 v2 : ByteArray) (w : World) (hkc : ∀ (w : World), (callFunc K caps).run Tryz.prog w = .ok (.enter K caps) w)
    (hwork : ∀ w', Below w.heap.size w w' → Calls Tryz.prog K caps w' fun e w'' => e = .returned (.agg #[.string v1, .string v2]) ∧ Below w'.heap.size w' w'') :
    Calls Tryz.prog 109 #[.func (Fn.func K) #[] caps] w fun e w' => e = .returned (.tuple #[.agg #[.string v1, .string v2], .int .i64 0]) ∧ Below w.heap.size w w' := by
  have hmf : ∀ (fn : Fn) (first cap : Array Value) (w : World), (Instr.makeFunc fn first cap).run Tryz.prog w = .ok (.func fn first cap) w := fun _ _ _ _ => rfl
  have HW := Lib.hid hwork; clear hwork
  go_enter_defers Tryz.func109, Tryz.ntmps109
  go_wp2_with fail
  refine (HW.out _ (((Below.refl _ _).alloc (Nat.le_refl _) _).alloc (by simp) _)).mono ?_
  rintro e w1 ⟨rfl, hb1⟩
  have hc : w1.cell? ⟨w.heap.size + 1, 0, none⟩ = some (.int .i64 0) := (hb1.cell (p := ⟨w.heap.size + 1, 0, none⟩) (by simp)).trans (by go_simp)
  have hf : w1.frozen? ⟨w.heap.size + 1, 0, none⟩ = false := (hb1.frozen (p := ⟨w.heap.size + 1, 0, none⟩) (by simp)).trans (by go_simp)
  have hr0 : w1.cell? ⟨w.heap.size, 0, none⟩ = some (.string ⟨#[]⟩) := (hb1.cell (p := ⟨w.heap.size, 0, none⟩) (by simp; omega)).trans (by go_simp)
  have hr1 : w1.cell? ⟨w.heap.size, 1, none⟩ = some (.string ⟨#[]⟩) := (hb1.cell (p := ⟨w.heap.size, 1, none⟩) (by simp; omega)).trans (by go_simp)
  have hg0 : w1.frozen? ⟨w.heap.size, 0, none⟩ = false := (hb1.frozen (p := ⟨w.heap.size, 0, none⟩) (by simp; omega)).trans (by go_simp)
  have hg1 : w1.frozen? ⟨w.heap.size, 1, none⟩ = false := (hb1.frozen (p := ⟨w.heap.size, 1, none⟩) (by simp; omega)).trans (by go_simp)
  have hbb : Below w.heap.size w w1 := (((Below.refl _ _).alloc (Nat.le_refl _) _).alloc (by simp) _).trans (hb1.mono (by simp; omega))
  clear hb1
  go_wp2
  have e0 : (((w1.setCell ⟨w.heap.size, 0, none⟩ (.string v1)).setCell ⟨w.heap.size, 1, none⟩ (.string v2)).setCell ⟨w.heap.size + 1, 0, none⟩ (.int .i64 0)).cell? ⟨w.heap.size, 0, none⟩ = some (.string v1) := by
    rw [World.cell?_setCell_far _ _ _ _ (by simp)]; exact (two_cells w1 w.heap.size (.string v1) (.string v2) hr0 hr1).1
  have e1 : (((w1.setCell ⟨w.heap.size, 0, none⟩ (.string v1)).setCell ⟨w.heap.size, 1, none⟩ (.string v2)).setCell ⟨w.heap.size + 1, 0, none⟩ (.int .i64 0)).cell? ⟨w.heap.size, 1, none⟩ = some (.string v2) := by
    rw [World.cell?_setCell_far _ _ _ _ (by simp)]; exact (two_cells w1 w.heap.size (.string v1) (.string v2) hr0 hr1).2
  have e2 : (((w1.setCell ⟨w.heap.size, 0, none⟩ (.string v1)).setCell ⟨w.heap.size, 1, none⟩ (.string v2)).setCell ⟨w.heap.size + 1, 0, none⟩ (.int .i64 0)).cell? ⟨w.heap.size + 1, 0, none⟩ = some (.int .i64 0) :=
    World.cell?_setCell_same _ _ _ (u := .int .i64 0) (by rw [World.cell?_setCell_far _ _ _ _ (by simp), World.cell?_setCell_far _ _ _ _ (by simp)]; exact hc)
  have hbs : Below w.heap.size w (((w1.setCell ⟨w.heap.size, 0, none⟩ (.string v1)).setCell ⟨w.heap.size, 1, none⟩ (.string v2)).setCell ⟨w.heap.size + 1, 0, none⟩ (.int .i64 0)) := ((hbb.setCell (Nat.le_refl _) _).setCell (Nat.le_refl _) _).setCell (Nat.le_succ _) _
  refine leaves_cons (f := 192) (args := #[.pointer (some ⟨w.heap.size + 1, 0, none⟩)]) (by simp) (by simp [go_sem]) ?_
  refine (catch_idle2 _ _).mono ?_
  rintro e u' w'' ⟨rfl, rfl, rfl⟩
  refine ⟨.tuple #[.agg #[.string v1, .string v2], .int .i64 0], ?_, rfl, hbs⟩
  simp [results, Tryz.results109, go_sem, e0, e1, e2]
end Go.Proofs.YteaeloeebfdodaaGreatDoor

/- WALKS, Floor 3: whole.Floor. -/
namespace Go.Proofs.YteaeloeebfdodaaGreatDoor
open Go.RowKit
end Go.Proofs.YteaeloeebfdodaaGreatDoor

/- WALKS, texts 10: attempt of [3]string, where the work ends well. -/
namespace Go.Proofs.YteaeloeebfdodaaGreatDoor
open Go.RowKit
theorem catch_idle3 (p : Addr) (w : World) :
    CallsD Tryz.prog 193 #[.pointer (some p)] .returning w fun e u' w' => e = .returned (.tuple #[]) ∧ u' = .returning ∧ w' = w := by
  refine callsD_of_wpS Tryz.func193 rfl fun c₀ cs hu => ?_
  apply wpS_seq
  apply wpS_region
  simp [wpOpsS, go_sem, recoverD, hu, Tryz.ntmps193, Exit.thenS]
  apply wpS_seq
  apply wpS_region
  simp [wpOpsS, go_sem, Array.replicate, Exit.thenS]
  refine wpS_cond (t := false) (by simp [Act.eval]) ?_
  simp only [Bool.false_eq_true, if_false]
  refine wpS_of_wp (wp_skip ?_)
  cases c₀
  simp_all [bodyPostS, results, Tryz.results193]
set_option maxRecDepth 100000 in
set_option maxHeartbeats 400000 in
theorem attempt_good3 (K : Nat) (caps : Array Value) (v1 v2 v3 : ByteArray) (w : World) (hkc : ∀ (w : World), (callFunc K caps).run Tryz.prog w = .ok (.enter K caps) w)
    (hwork : ∀ w', Below w.heap.size w w' → Calls Tryz.prog K caps w' fun e w'' => e = .returned (.agg #[.string v1, .string v2, .string v3]) ∧ Below w'.heap.size w' w'') :
    Calls Tryz.prog 113 #[.func (Fn.func K) #[] caps] w fun e w' => e = .returned (.tuple #[.agg #[.string v1, .string v2, .string v3], .int .i64 0]) ∧ Below w.heap.size w w' := by
  have hmf : ∀ (fn : Fn) (first cap : Array Value) (w : World), (Instr.makeFunc fn first cap).run Tryz.prog w = .ok (.func fn first cap) w := fun _ _ _ _ => rfl
  have HW := Lib.hid hwork; clear hwork
  go_enter_defers Tryz.func113, Tryz.ntmps113
  go_wp2_with fail
  refine (HW.out _ (((Below.refl _ _).alloc (Nat.le_refl _) _).alloc (by simp) _)).mono ?_
  rintro e w1 ⟨rfl, hb1⟩
  have hc : w1.cell? ⟨w.heap.size + 1, 0, none⟩ = some (.int .i64 0) := (hb1.cell (p := ⟨w.heap.size + 1, 0, none⟩) (by simp)).trans (by go_simp)
  have hf : w1.frozen? ⟨w.heap.size + 1, 0, none⟩ = false := (hb1.frozen (p := ⟨w.heap.size + 1, 0, none⟩) (by simp)).trans (by go_simp)
  have hr0 : w1.cell? ⟨w.heap.size, 0, none⟩ = some (.string ⟨#[]⟩) := (hb1.cell (p := ⟨w.heap.size, 0, none⟩) (by simp; omega)).trans (by go_simp)
  have hr1 : w1.cell? ⟨w.heap.size, 1, none⟩ = some (.string ⟨#[]⟩) := (hb1.cell (p := ⟨w.heap.size, 1, none⟩) (by simp; omega)).trans (by go_simp)
  have hr2 : w1.cell? ⟨w.heap.size, 2, none⟩ = some (.string ⟨#[]⟩) := (hb1.cell (p := ⟨w.heap.size, 2, none⟩) (by simp; omega)).trans (by go_simp)
  have hg2 : w1.frozen? ⟨w.heap.size, 2, none⟩ = false := (hb1.frozen (p := ⟨w.heap.size, 2, none⟩) (by simp; omega)).trans (by go_simp)
  have hg0 : w1.frozen? ⟨w.heap.size, 0, none⟩ = false := (hb1.frozen (p := ⟨w.heap.size, 0, none⟩) (by simp; omega)).trans (by go_simp)
  have hg1 : w1.frozen? ⟨w.heap.size, 1, none⟩ = false := (hb1.frozen (p := ⟨w.heap.size, 1, none⟩) (by simp; omega)).trans (by go_simp)
  have hbb : Below w.heap.size w w1 := (((Below.refl _ _).alloc (Nat.le_refl _) _).alloc (by simp) _).trans (hb1.mono (by simp; omega))
  clear hb1
  go_wp2
  have e0 : ((((w1.setCell ⟨w.heap.size, 0, none⟩ (.string v1)).setCell ⟨w.heap.size, 1, none⟩ (.string v2)).setCell ⟨w.heap.size, 2, none⟩ (.string v3)).setCell ⟨w.heap.size + 1, 0, none⟩ (.int .i64 0)).cell? ⟨w.heap.size, 0, none⟩ = some (.string v1) := by
    rw [World.cell?_setCell_far _ _ _ _ (by simp), World.cell?_setCell_other _ _ _ _ (off_ne (by decide))]; exact (two_cells w1 w.heap.size (.string v1) (.string v2) hr0 hr1).1
  have e1 : ((((w1.setCell ⟨w.heap.size, 0, none⟩ (.string v1)).setCell ⟨w.heap.size, 1, none⟩ (.string v2)).setCell ⟨w.heap.size, 2, none⟩ (.string v3)).setCell ⟨w.heap.size + 1, 0, none⟩ (.int .i64 0)).cell? ⟨w.heap.size, 1, none⟩ = some (.string v2) := by
    rw [World.cell?_setCell_far _ _ _ _ (by simp), World.cell?_setCell_other _ _ _ _ (off_ne (by decide))]; exact (two_cells w1 w.heap.size (.string v1) (.string v2) hr0 hr1).2
  have e3 : ((((w1.setCell ⟨w.heap.size, 0, none⟩ (.string v1)).setCell ⟨w.heap.size, 1, none⟩ (.string v2)).setCell ⟨w.heap.size, 2, none⟩ (.string v3)).setCell ⟨w.heap.size + 1, 0, none⟩ (.int .i64 0)).cell? ⟨w.heap.size, 2, none⟩ = some (.string v3) := by
    rw [World.cell?_setCell_far _ _ _ _ (by simp)]
    exact World.cell?_setCell_same _ _ _ (u := .string ⟨#[]⟩) (by rw [World.cell?_setCell_other _ _ _ _ (off_ne (by decide)), World.cell?_setCell_other _ _ _ _ (off_ne (by decide))]; exact hr2)
  have e2 : ((((w1.setCell ⟨w.heap.size, 0, none⟩ (.string v1)).setCell ⟨w.heap.size, 1, none⟩ (.string v2)).setCell ⟨w.heap.size, 2, none⟩ (.string v3)).setCell ⟨w.heap.size + 1, 0, none⟩ (.int .i64 0)).cell? ⟨w.heap.size + 1, 0, none⟩ = some (.int .i64 0) :=
    World.cell?_setCell_same _ _ _ (u := .int .i64 0) (by rw [World.cell?_setCell_far _ _ _ _ (by simp), World.cell?_setCell_far _ _ _ _ (by simp), World.cell?_setCell_far _ _ _ _ (by simp)]; exact hc)
  have hbs : Below w.heap.size w ((((w1.setCell ⟨w.heap.size, 0, none⟩ (.string v1)).setCell ⟨w.heap.size, 1, none⟩ (.string v2)).setCell ⟨w.heap.size, 2, none⟩ (.string v3)).setCell ⟨w.heap.size + 1, 0, none⟩ (.int .i64 0)) := (((hbb.setCell (Nat.le_refl _) _).setCell (Nat.le_refl _) _).setCell (Nat.le_refl _) _).setCell (Nat.le_succ _) _
  refine leaves_cons (f := 193) (args := #[.pointer (some ⟨w.heap.size + 1, 0, none⟩)]) (by simp) (by simp [go_sem]) ?_
  refine (catch_idle3 _ _).mono ?_
  rintro e u' w'' ⟨rfl, rfl, rfl⟩
  refine ⟨.tuple #[.agg #[.string v1, .string v2, .string v3], .int .i64 0], ?_, rfl, hbs⟩
  simp [results, Tryz.results113, go_sem, e0, e1, e3, e2]
end Go.Proofs.YteaeloeebfdodaaGreatDoor

/- WALKS, the divisor 8: whole.Gcd at 12 and 18. -/
namespace Go.Proofs.YteaeloeebfdodaaGreatDoor
open Go.RowKit
theorem tri_cells (w : World) (b : Nat) (x y z : Value) {a0 a1 a2 : Value} (h0 : w.cell? ⟨b, 0, none⟩ = some a0) (h1 : w.cell? ⟨b, 1, none⟩ = some a1) (h2 : w.cell? ⟨b, 2, none⟩ = some a2) :
    (((w.setCell ⟨b, 0, none⟩ x).setCell ⟨b, 1, none⟩ y).setCell ⟨b, 2, none⟩ z).cell? ⟨b, 0, none⟩ = some x ∧ (((w.setCell ⟨b, 0, none⟩ x).setCell ⟨b, 1, none⟩ y).setCell ⟨b, 2, none⟩ z).cell? ⟨b, 1, none⟩ = some y ∧ (((w.setCell ⟨b, 0, none⟩ x).setCell ⟨b, 1, none⟩ y).setCell ⟨b, 2, none⟩ z).cell? ⟨b, 2, none⟩ = some z := by
  refine ⟨?_, ?_, ?_⟩
  · rw [World.cell?_setCell_other _ _ _ _ (off_ne (by decide)), World.cell?_setCell_other _ _ _ _ (off_ne (by decide))]; exact World.cell?_setCell_same _ _ _ h0
  · rw [World.cell?_setCell_other _ _ _ _ (off_ne (by decide))]; exact World.cell?_setCell_same _ _ _ (u := a1) (by rw [World.cell?_setCell_other _ _ _ _ (off_ne (by decide))]; exact h1)
  · exact World.cell?_setCell_same _ _ _ (u := a2) (by rw [World.cell?_setCell_other _ _ _ _ (off_ne (by decide)), World.cell?_setCell_other _ _ _ _ (off_ne (by decide))]; exact h2)
end Go.Proofs.YteaeloeebfdodaaGreatDoor

/- WALKS, PowMod 3: whole.PowMod. -/
namespace Go.Proofs.YteaeloeebfdodaaGreatDoor
open Go.RowKit
theorem boxed3 (w : World) (a b c : Value) (t : TypeId) : (((w.alloc (.cells #[a] t)).alloc (.cells #[b] t)).alloc (.cells #[c] t)).cell? ⟨w.heap.size, 0, none⟩ = some a ∧ (((w.alloc (.cells #[a] t)).alloc (.cells #[b] t)).alloc (.cells #[c] t)).cell? ⟨w.heap.size + 1, 0, none⟩ = some b ∧ (((w.alloc (.cells #[a] t)).alloc (.cells #[b] t)).alloc (.cells #[c] t)).cell? ⟨w.heap.size + 1 + 1, 0, none⟩ = some c := ⟨by go_simp, by go_simp, by go_simp⟩
set_option maxHeartbeats 400000 in
theorem PowMod_any (w : World) (x y m : Int) (hx : Valid x) (hy : Valid y) (hm : Valid m) (hfx : Fit x) (hy0 : 0 ≤ y) (hm0 : 0 < m ∧ m < 1000000000) (hz : Valid ((x ^ y.natAbs).fmod m)) (htab : Tab w) :
    Calls Tryz.prog 28 #[txt x, txt y, txt m] w fun e w' => e = .returned (.tuple #[txt ((x ^ y.natAbs).fmod m), .int .i64 0]) ∧ Below w.heap.size w w' := by
  have hmf : ∀ (fn : Fn) (first cap : Array Value) (w : World), (Instr.makeFunc fn first cap).run Tryz.prog w = .ok (.func fn first cap) w := fun _ _ _ _ => rfl
  have hat := fun (w : World) (pa pb pc : Addr) (h : Captured3 w pa pb pc x y m) (hl : Lie3 w pa pb pc) (htab : Tab w) => attempt_good 102 #[.pointer (some pa), .pointer (some pb), .pointer (some pc)] (str (Wh.decI ((x ^ y.natAbs).fmod m))) w (fun w => by kernel_rfl) (fun w' hb' => powmod_work w' pa pb pc x y m ⟨(hb'.cell hl.a).trans h.a, (hb'.cell hl.b).trans h.b, (hb'.cell hl.c).trans h.c⟩ ⟨Nat.lt_of_lt_of_le hl.a hb'.size, Nat.lt_of_lt_of_le hl.b hb'.size, Nat.lt_of_lt_of_le hl.c hb'.size⟩ hx hy hm hfx hy0 hm0 hz (htab.mono hb'))
  have HAT := Lib.hid hat; clear hat
  unfold txt at *
  go_enter Tryz.func28, Tryz.ntmps28
  go_wp2_with fail
  have hal : Below w.heap.size w (((w.alloc (.cells #[.string (str (Wh.decI x))] 9)).alloc (.cells #[.string (str (Wh.decI y))] 9)).alloc (.cells #[.string (str (Wh.decI m))] 9)) := (((Below.refl _ _).alloc (Nat.le_refl _) _).alloc (by simp) _).alloc (by simp; omega) _
  obtain ⟨b0, b1, b2⟩ := boxed3 w (.string (str (Wh.decI x))) (.string (str (Wh.decI y))) (.string (str (Wh.decI m))) 9
  refine (HAT.out _ _ _ _ ⟨b0, b1, b2⟩ ⟨by simp <;> omega, by simp <;> omega, by simp <;> omega⟩ (htab.mono hal)).mono ?_
  rintro e w2 ⟨rfl, hb2⟩
  have hbb := hal.trans (hb2.mono hal.size)
  clear hal b0 b1 b2 hb2
  go_wp2
  go_ret2
  exact ⟨rfl, hbb⟩
end Go.Proofs.YteaeloeebfdodaaGreatDoor

/- WALKS, the law WholeRing, over what counted() answers. -/
namespace Go.Proofs.YteaeloeebfdodaaGreatDoor
open Go.RowKit
def Bd (k : Nat) (x : Int) : Prop := x.natAbs < 10 ^ k
theorem Bd.mono {j k : Nat} {x : Int} (h : Bd j x) (hjk : j ≤ k) : Bd k x := Nat.lt_of_lt_of_le h (Nat.pow_le_pow_right (by decide) hjk)
theorem Bd.add {k : Nat} {x y : Int} (hx : Bd k x) (hy : Bd k y) : Bd (k + 1) (x + y) := by
  unfold Bd at *
  rw [Nat.pow_succ]
  generalize 10 ^ k = t at *
  omega
theorem Bd.sub {k : Nat} {x y : Int} (hx : Bd k x) (hy : Bd k y) : Bd (k + 1) (x - y) := by
  unfold Bd at *
  rw [Nat.pow_succ]
  generalize 10 ^ k = t at *
  omega
theorem Bd.mul {j k : Nat} {x y : Int} (hx : Bd j x) (hy : Bd k y) : Bd (j + k) (x * y) := by
  unfold Bd at *
  rw [Int.natAbs_mul, Nat.pow_add]
  exact Nat.mul_lt_mul'' hx hy
theorem Bd.valid {k : Nat} {x : Int} (h : Bd k x) (hk : 0 < k) (hk4 : k ≤ 400) : Valid x := Nat.le_trans (Wh.decN_length_le hk h) hk4
theorem Bd.fit {x : Int} (h : Bd 63 x) : Fit x := by
  have := Wh.limbs_length_of_dec (n := x.natAbs) (k := 7) (Nat.le_trans (Wh.decN_length_le (by decide) h) (by decide))
  unfold Fit; omega
/-- counted answers true -/
def Counted : Prop := ∀ w, Tab w → Calls Tryz.prog 21 #[] w fun e w' => e = .returned (.bool true) ∧ Below w.heap.size w w'
end Go.Proofs.YteaeloeebfdodaaGreatDoor
