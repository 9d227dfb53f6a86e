/- Part 6 of the proofs that laws of package whole answer true at every input and leave the input as it was, where the library's variables start as the text lays them (the texts T6, T7, R1, R2, R3, R4, R5, E1, M9, D1, D2, M11). -/
import Derived.Test.YteggbenhffmijaaGreatDoorZ05
import Derived.Defers
import Derived.Recover
import Derived.Deep.Cut
import Derived.OpenShut
import Derived.OwnWalk
set_option linter.unusedVariables false
set_option linter.unusedSimpArgs false
/- WALKS, texts 6: attempt, where the work ends well. -/
namespace Go.Proofs.YteggbenhffmijaaGreatDoor
open Go.RowKit
theorem catch_idle (p : Addr) (w : World) :
    CallsD Tryz.prog 196 #[.pointer (some p)] .returning w fun e u' w' => e = .returned (.tuple #[]) ∧ u' = .returning ∧ w' = w := by
  refine callsD_of_wpS Tryz.func196 rfl fun c₀ cs hu => ?_
  apply wpS_seq
  apply wpS_region
  simp [wpOpsS, go_sem, recoverD, hu, Tryz.ntmps196, Exit.thenS]
  apply wpS_seq
  apply wpS_region
  simp [wpOpsS, go_sem, Array.replicate, Exit.thenS]
  refine wpS_cond (t := false) (by simp [Act.eval]) ?_
  simp only [Bool.false_eq_true, if_false]
  refine wpS_of_wp (wp_skip ?_)
  cases c₀
  simp_all [bodyPostS, results, Tryz.results196]
set_option maxRecDepth 100000 in
set_option maxHeartbeats 400000 in
theorem attempt_good (K : Nat) (caps : Array Value) (v : ByteArray) (w : World) (hkc : ∀ (w : World), (callFunc K caps).run Tryz.prog w = .ok (.enter K caps) w)
    (hwork : ∀ w', Below w.heap.size w w' → Calls Tryz.prog K caps w' fun e w'' => e = .returned (.string v) ∧ Below w'.heap.size w' w'') :
    Calls Tryz.prog 100 #[.func (Fn.func K) #[] caps] w fun e w' => e = .returned (.tuple #[.string v, .int .i64 0]) ∧ Below w.heap.size w w' := by
  have hmf : ∀ (fn : Fn) (first cap : Array Value) (w : World), (Instr.makeFunc fn first cap).run Tryz.prog w = .ok (.func fn first cap) w := fun _ _ _ _ => rfl
  have HW := Lib.hid hwork; clear hwork
  go_enter_defers Tryz.func100, Tryz.ntmps100
  go_wp2_with fail
  refine (HW.out _ ((Below.refl _ _).alloc (Nat.le_refl _) _)).mono ?_
  rintro e w1 ⟨rfl, hb1⟩
  have hc : w1.cell? ⟨w.heap.size, 0, none⟩ = some (.int .i64 0) := (hb1.cell (p := ⟨w.heap.size, 0, none⟩) (by simp)).trans (by go_simp)
  have hf : w1.frozen? ⟨w.heap.size, 0, none⟩ = false := (hb1.frozen (p := ⟨w.heap.size, 0, none⟩) (by simp)).trans (by go_simp)
  have hbb : Below w.heap.size w w1 := ((Below.refl _ _).alloc (Nat.le_refl _) _).trans (hb1.mono (by simp))
  have hbs : Below w.heap.size w (w1.setCell ⟨w.heap.size, 0, none⟩ (.int .i64 0)) := hbb.setCell (Nat.le_refl _) _
  have hcs : (w1.setCell ⟨w.heap.size, 0, none⟩ (.int .i64 0)).cell? ⟨w.heap.size, 0, none⟩ = some (.int .i64 0) := World.cell?_setCell_same _ _ _ hc
  clear hb1 hbb
  go_wp2
  refine leaves_cons (f := 196) (args := #[.pointer (some ⟨w.heap.size, 0, none⟩)]) (by simp) (by simp [go_sem]) ?_
  refine (catch_idle _ _).mono ?_
  rintro e u' w'' ⟨rfl, rfl, rfl⟩
  refine ⟨.tuple #[.string v, .int .i64 0], ?_, rfl, hbs⟩
  simp [results, Tryz.results100, go_sem, hcs]
end Go.Proofs.YteggbenhffmijaaGreatDoor

/- WALKS, texts 7: Add, Sub, Mul. -/
namespace Go.Proofs.YteggbenhffmijaaGreatDoor
open Go.RowKit
/-- two variables of texts that a call has made -/
theorem boxed (w : World) (a b : Value) (t : TypeId) : ((w.alloc (.cells #[a] t)).alloc (.cells #[b] t)).cell? ⟨w.heap.size, 0, none⟩ = some a ∧ ((w.alloc (.cells #[a] t)).alloc (.cells #[b] t)).cell? ⟨w.heap.size + 1, 0, none⟩ = some b := ⟨by go_simp, by go_simp⟩
set_option maxHeartbeats 400000 in
theorem Mul_any (w : World) (x y : Int) (hx : Valid x) (hy : Valid y) (hz : Valid (x * y)) (htab : Tab w) (hmin : (Wh.limbs x.natAbs).length < 32 ∨ (Wh.limbs y.natAbs).length < 32) :
    Calls Tryz.prog 140 #[txt x, txt y] w fun e w' => e = .returned (.tuple #[txt (x * y), .int .i64 0]) ∧ Below w.heap.size w w' := by
  have hmf : ∀ (fn : Fn) (first cap : Array Value) (w : World), (Instr.makeFunc fn first cap).run Tryz.prog w = .ok (.func fn first cap) w := fun _ _ _ _ => rfl
  have hat := fun (w : World) (pa pb : Addr) (h : Captured w pa pb x y) (htab : Tab w) (ha : pa.block < w.heap.size) (hb : pb.block < w.heap.size) => attempt_good 223 #[.pointer (some pa), .pointer (some pb)] (str (Wh.decI (x * y))) w (fun w => by kernel_rfl) (fun w' hb' => mul_work w' pa pb x y ⟨(hb'.cell ha).trans h.a, (hb'.cell hb).trans h.b⟩ hx hy hz (htab.mono hb') hmin)
  have HAT := Lib.hid hat; clear hat
  unfold txt at *
  go_enter Tryz.func140, Tryz.ntmps140
  go_wp2_with fail
  have hal : Below w.heap.size w ((w.alloc (.cells #[.string (str (Wh.decI x))] 9)).alloc (.cells #[.string (str (Wh.decI y))] 9)) := ((Below.refl _ _).alloc (Nat.le_refl _) _).alloc (by simp) _
  obtain ⟨b0, b1⟩ := boxed w (.string (str (Wh.decI x))) (.string (str (Wh.decI y))) 9
  refine (HAT.out _ _ _ ⟨b0, b1⟩ (htab.mono hal) (by simp; omega) (by simp)).mono ?_
  rintro e w2 ⟨rfl, hb2⟩
  have hbb := hal.trans (hb2.mono hal.size)
  clear hal b0 b1 hb2
  go_wp2
  go_ret2
  exact ⟨rfl, hbb⟩
end Go.Proofs.YteggbenhffmijaaGreatDoor

/- WALKS, the rod 1: turn. -/
namespace Go.Proofs.YteggbenhffmijaaGreatDoor
open Go.RowKit
/-- block rb is a rod over a list of numbers that is not written -/
structure IsRod (w : World) (rb : Nat) (a : Option Addr) (n c : Nat) (at_ : Nat) : Prop where
  lt : rb < w.heap.size
  c0 : w.cell? ⟨rb, 0, none⟩ = some (.slice a n c)
  c1 : w.cell? ⟨rb, 1, none⟩ = some (.int .i64 at_)
  c2 : ∃ z : Int, w.cell? ⟨rb, 2, none⟩ = some (.int .u64 z)
  f1 : w.frozen? ⟨rb, 1, none⟩ = false
  f2 : w.frozen? ⟨rb, 2, none⟩ = false
  list : ∀ i, i < n → ∃ b off, a = some ⟨b, off, none⟩ ∧ b < w.heap.size ∧ b ≠ rb ∧ ∀ i, i < n → ∃ z : Int, w.cell? ⟨b, off + i, none⟩ = some (.int .i64 z)
theorem IsRod.only {w w' : World} {rb : Nat} {a : Option Addr} {n c k k' : Nat} (h : IsRod w rb a n c k) (ho : Only rb w w') (h0 : w'.cell? ⟨rb, 0, none⟩ = some (.slice a n c)) (h1 : w'.cell? ⟨rb, 1, none⟩ = some (.int .i64 k')) (h2 : ∃ z : Int, w'.cell? ⟨rb, 2, none⟩ = some (.int .u64 z))
    (g1 : w'.frozen? ⟨rb, 1, none⟩ = false) (g2 : w'.frozen? ⟨rb, 2, none⟩ = false) : IsRod w' rb a n c k' :=
  ⟨Nat.lt_of_lt_of_le h.lt ho.size, h0, h1, h2, g1, g2, fun i hi => by
    obtain ⟨b, off, e, hb, hne, hc⟩ := h.list i hi
    exact ⟨b, off, e, Nat.lt_of_lt_of_le hb ho.size, hne, fun j hj => by
      obtain ⟨z, hz⟩ := hc j hj
      exact ⟨z, (ho.cell (p := ⟨b, off + j, none⟩) hne hb).trans hz⟩⟩⟩
theorem IsRod.mono {w w' : World} {rb : Nat} {a : Option Addr} {n c k : Nat} (h : IsRod w rb a n c k) (hb : Below w.heap.size w w') : IsRod w' rb a n c k := by
  obtain ⟨z, hz⟩ := h.c2
  exact h.only (Only.of_below hb) ((hb.cell (p := ⟨rb, 0, none⟩) h.lt).trans h.c0) ((hb.cell (p := ⟨rb, 1, none⟩) h.lt).trans h.c1) ⟨z, (hb.cell (p := ⟨rb, 2, none⟩) h.lt).trans hz⟩ ((hb.frozen (p := ⟨rb, 1, none⟩) h.lt).trans h.f1) ((hb.frozen (p := ⟨rb, 2, none⟩) h.lt).trans h.f2)
theorem IsRod.at1 {w : World} {rb : Nat} {a : Option Addr} {n c k : Nat} (h : IsRod w rb a n c k) (k' : Nat) : IsRod (w.setCell ⟨rb, 1, none⟩ (.int .i64 k')) rb a n c k' := by
  obtain ⟨z, hz⟩ := h.c2
  refine h.only ((Only.refl rb w).setCell 1 _) ?_ (World.cell?_setCell_same _ _ _ h.c1) ⟨z, ?_⟩ (by rw [World.frozen?_setCell]; exact h.f1) (by rw [World.frozen?_setCell]; exact h.f2)
  · rw [World.cell?_setCell_other _ _ _ _ (off_ne (by decide))]; exact h.c0
  · rw [World.cell?_setCell_other _ _ _ _ (off_ne (by decide))]; exact hz
theorem IsRod.at2 {w : World} {rb : Nat} {a : Option Addr} {n c k : Nat} (h : IsRod w rb a n c k) (z : Int) : IsRod (w.setCell ⟨rb, 2, none⟩ (.int .u64 z)) rb a n c k := by
  obtain ⟨z0, hz⟩ := h.c2
  refine h.only ((Only.refl rb w).setCell 2 _) ?_ ?_ ⟨z, World.cell?_setCell_same _ _ _ hz⟩ (by rw [World.frozen?_setCell]; exact h.f1) (by rw [World.frozen?_setCell]; exact h.f2)
  · rw [World.cell?_setCell_other _ _ _ _ (off_ne (by decide))]; exact h.c0
  · rw [World.cell?_setCell_other _ _ _ _ (off_ne (by decide))]; exact h.c1
theorem IsRod.drewN {w : World} {rb : Nat} {a : Option Addr} {n c k : Nat} (h : IsRod w rb a n c k) (m : Nat) : IsRod (w.drewN m) rb a n c k := h.mono (below_drewN _ _ _)
def U64 (z : Int) : Prop := 0 ≤ z ∧ z ≤ 18446744073709551615
theorem u64_bits (x y : Int) : U64 (bits BinOp.xor IntKind.u64 x y) := bounds_u64 (wf_bits _ _ _ _)
theorem u64_div (x : Int) (h : U64 x) : U64 (x / 2048) := by unfold U64 at *; omega
theorem wpList_store_u64 {ops : Array Oper} {rest : List Oper} {o : Oper} {a : Act} {w : World} {Q : Exit → Act → World → Prop} (hgd : o.guard = none) (x y : Operand) (ho : o.op = .store 132 x y)
    (b i : Nat) (z z0 : Int) (hx : a.eval x = .pointer (some ⟨b, i, none⟩)) (hy : a.eval y = .int .u64 z) (hz : w.cell? ⟨b, i, none⟩ = some (.int .u64 z0)) (hf : w.frozen? ⟨b, i, none⟩ = false)
    (hd : o.dst = none)
    (h : wpList Tryz.prog ops Q rest a (w.setCell ⟨b, i, none⟩ (.int .u64 z))) : wpList Tryz.prog ops Q (o :: rest) a w :=
  wpList_plain hgd fun K hK => by
    have h' := hK _ _ h
    clear hK h
    obtain ⟨od, oo, ot, op, oa, og⟩ := o
    obtain rfl := hd
    obtain rfl := ho
    unfold Oper.wp execOp
    simp only [hx, hy]
    go_simp
    exact h'
set_option maxRecDepth 100000 in
set_option maxHeartbeats 1000000 in
theorem turn_short (w : World) (rb : Nat) (a : Option Addr) (n c k : Nat) (h : IsRod w rb a n c k) (hk : k ≤ 1000000) (hkn : n ≤ k) :
    Calls Tryz.prog 139 #[.pointer (some ⟨rb, 0, none⟩)] w fun e w' => (∃ z, e = .returned (.int .u64 z) ∧ U64 z) ∧ IsRod w' rb a n c (k + 1) ∧ Only rb w w' := by
  obtain ⟨z0, hz0⟩ := h.c2
  have h0 := h.c0
  have h1 := h.c1
  have g1 := h.f1
  have g2 := h.f2
  have HH := Lib.hid h; clear h
  have hd : decide (k < n) = false := by simp; omega
  go_enter Tryz.func139, Tryz.ntmps139
  go_wp2
  generalize IntKind.u64.wrap (((k : Int) + 1) * 13503953896175478587) = z3
  go_quiet (fail)
  go_wp2
  generalize IntKind.u64.wrap (bits BinOp.xor IntKind.u64 z0 z3 * 11912009170470909681) = s1
  have hR := ((HH.out.drewN nq).at1 (k + 1)).at2 s1
  have hO : Only rb w (((w.drewN nq).setCell ⟨rb, 1, none⟩ (.int .i64 ((k + 1 : Nat)))).setCell ⟨rb, 2, none⟩ (.int .u64 s1)) := ((Only.of_below (below_drewN _ _ nq)).setCell 1 _).setCell 2 _
  rw [show ((k + 1 : Nat) : Int) = (k : Int) + 1 by omega] at hR hO
  have hz : (((w.drewN nq).setCell ⟨rb, 1, none⟩ (.int .i64 ((k : Int) + 1))).setCell ⟨rb, 2, none⟩ (.int .u64 s1)).cell? ⟨rb, 2, none⟩ = some (.int .u64 s1) := World.cell?_setCell_same _ _ _ (u := .int .u64 z0) (by rw [World.cell?_setCell_other _ _ _ _ (off_ne (by decide))]; exact hz0)
  have hf := hR.f2
  clear h0 h1 g1 g2 hz0
  generalize ((w.drewN nq).setCell ⟨rb, 1, none⟩ (.int .i64 ((k : Int) + 1))).setCell ⟨rb, 2, none⟩ (.int .u64 s1) = W at *
  have HRR := Lib.hid hR; clear hR
  have HO := Lib.hid hO; clear hO
  refine wp_region_still_tail 13 (by kernel_rfl) (by kernel_rfl) ?_
  simp only [List.take_succ_cons, List.take_zero, List.drop_succ_cons, List.drop_zero]
  repeat still_step
  generalize bits BinOp.xor IntKind.u64 s1 (s1 / 2147483648) = s2
  refine wpStill_nil ?_
  change wpList _ _ _ _ _ W.drew
  refine wpList_store_u64 rfl (.tmp 65) (.tmp 63) rfl rb 2 s2 s1 rfl rfl hz hf rfl ?_
  have hz2 : (W.drew.setCell ⟨rb, 2, none⟩ (.int .u64 s2)).cell? ⟨rb, 2, none⟩ = some (.int .u64 s2) := World.cell?_setCell_same _ _ _ (u := .int .u64 s1) (show W.cell? _ = _ from hz)
  have hR2 := (show IsRod W.drew rb a n c (k + 1) from HRR.out.mono (below_drewN _ W 1)).at2 s2
  have hO2 := HO.out.drew.setCell 2 (.int .u64 s2)
  generalize W.drew.setCell ⟨rb, 2, none⟩ (.int .u64 s2) = W2 at *
  clear HRR HO hz hf
  have HRR := Lib.hid hR2; clear hR2
  have HO := Lib.hid hO2; clear hO2
  go_upto_region 7 with (fail)
  go_upto_region 8 with (fail)
  generalize IntKind.u64.wrap (s2 * 5840696475078001361) = s3
  go_wp2
  go_ret
  exact ⟨⟨_, rfl, u64_div _ (u64_bits _ _)⟩, HRR.out, HO.out⟩
set_option maxRecDepth 100000 in
set_option maxHeartbeats 1000000 in
theorem turn_long (w : World) (rb : Nat) (a : Option Addr) (n c k : Nat) (h : IsRod w rb a n c k) (hk : k ≤ 1000000) (hkn : k < n) :
    Calls Tryz.prog 139 #[.pointer (some ⟨rb, 0, none⟩)] w fun e w' => (∃ z, e = .returned (.int .u64 z) ∧ U64 z) ∧ IsRod w' rb a n c (k + 1) ∧ Only rb w w' := by
  obtain ⟨z0, hz0⟩ := h.c2
  have h0 := h.c0
  have h1 := h.c1
  have g1 := h.f1
  have g2 := h.f2
  obtain ⟨b, off, ha, hb, hne, hl⟩ := h.list k hkn
  obtain ⟨zk, hk1⟩ := hl k hkn
  clear hl
  have HH := Lib.hid h; clear h
  subst ha
  have hd : decide (k < n) = true := by simp; omega
  go_enter Tryz.func139, Tryz.ntmps139
  go_wp2
  generalize IntKind.u64.wrap (((k : Int) + 1) * 13503953896175478587) = z3
  go_quiet (fail)
  revert nq; intro nqA
  go_wp2
  go_quiet (fail)
  generalize IntKind.u64.wrap (IntKind.u64.wrap zk * 4354685564936845355) = z4
  generalize IntKind.u64.wrap (z3 + z4) = z5
  rw [World.drewN_drewN]
  generalize nqA + nq = nq
  go_wp2
  generalize IntKind.u64.wrap (bits BinOp.xor IntKind.u64 z0 z5 * 11912009170470909681) = s1
  have hR := ((HH.out.drewN nq).at1 (k + 1)).at2 s1
  have hO : Only rb w (((w.drewN nq).setCell ⟨rb, 1, none⟩ (.int .i64 ((k + 1 : Nat)))).setCell ⟨rb, 2, none⟩ (.int .u64 s1)) := ((Only.of_below (below_drewN _ _ nq)).setCell 1 _).setCell 2 _
  rw [show ((k + 1 : Nat) : Int) = (k : Int) + 1 by omega] at hR hO
  have hz : (((w.drewN nq).setCell ⟨rb, 1, none⟩ (.int .i64 ((k : Int) + 1))).setCell ⟨rb, 2, none⟩ (.int .u64 s1)).cell? ⟨rb, 2, none⟩ = some (.int .u64 s1) := World.cell?_setCell_same _ _ _ (u := .int .u64 z0) (by rw [World.cell?_setCell_other _ _ _ _ (off_ne (by decide))]; exact hz0)
  have hf := hR.f2
  clear h0 h1 g1 g2 hz0 hk1
  generalize ((w.drewN nq).setCell ⟨rb, 1, none⟩ (.int .i64 ((k : Int) + 1))).setCell ⟨rb, 2, none⟩ (.int .u64 s1) = W at *
  have HRR := Lib.hid hR; clear hR
  have HO := Lib.hid hO; clear hO
  refine wp_region_still_tail 13 (by kernel_rfl) (by kernel_rfl) ?_
  simp only [List.take_succ_cons, List.take_zero, List.drop_succ_cons, List.drop_zero]
  repeat still_step
  generalize bits BinOp.xor IntKind.u64 s1 (s1 / 2147483648) = s2
  refine wpStill_nil ?_
  change wpList _ _ _ _ _ W.drew
  refine wpList_store_u64 rfl (.tmp 65) (.tmp 63) rfl rb 2 s2 s1 rfl rfl hz hf rfl ?_
  have hz2 : (W.drew.setCell ⟨rb, 2, none⟩ (.int .u64 s2)).cell? ⟨rb, 2, none⟩ = some (.int .u64 s2) := World.cell?_setCell_same _ _ _ (u := .int .u64 s1) (show W.cell? _ = _ from hz)
  have hR2 := (show IsRod W.drew rb (some ⟨b, off, none⟩) n c (k + 1) from HRR.out.mono (below_drewN _ W 1)).at2 s2
  have hO2 := HO.out.drew.setCell 2 (.int .u64 s2)
  generalize W.drew.setCell ⟨rb, 2, none⟩ (.int .u64 s2) = W2 at *
  clear HRR HO hz hf
  have HRR := Lib.hid hR2; clear hR2
  have HO := Lib.hid hO2; clear hO2
  go_upto_region 7 with (fail)
  go_upto_region 8 with (fail)
  generalize IntKind.u64.wrap (s2 * 5840696475078001361) = s3
  go_wp2
  go_ret
  exact ⟨⟨_, rfl, u64_div _ (u64_bits _ _)⟩, HRR.out, HO.out⟩
theorem turn_any (w : World) (rb : Nat) (a : Option Addr) (n c k : Nat) (h : IsRod w rb a n c k) (hk : k ≤ 1000000) :
    Calls Tryz.prog 139 #[.pointer (some ⟨rb, 0, none⟩)] w fun e w' => (∃ z, e = .returned (.int .u64 z) ∧ U64 z) ∧ IsRod w' rb a n c (k + 1) ∧ Only rb w w' := by
  by_cases hkn : k < n
  · exact turn_long w rb a n c k h hk hkn
  · exact turn_short w rb a n c k h hk (by omega)
end Go.Proofs.YteggbenhffmijaaGreatDoor

namespace Go.Proofs.YteggbenhffmijaaGreatDoor
open Go.RowKit
def UpTo (N m : Int) : Prop := 0 ≤ m ∧ (N < 1 → m = 0) ∧ (1 ≤ N → m ≤ N)
theorem upTo_mod (z N : Int) (hz : U64 z) (hN : 1 ≤ N ∧ N ≤ 1000000000) : UpTo N (wrap64 (z.tmod (N + 1))) := by
  have h1 := Int.emod_nonneg z (b := N + 1) (by omega)
  have h2 := Int.emod_lt_of_pos z (b := N + 1) (by omega)
  rw [Int.tmod_eq_emod_of_nonneg hz.1]
  generalize z % (N + 1) = t at *
  have e : wrap64 t = t := by unfold wrap64; omega
  rw [e]
  unfold UpTo
  omega
set_option maxRecDepth 100000 in
set_option maxHeartbeats 1000000 in
theorem Up_any (w : World) (rb : Nat) (a : Option Addr) (n c k : Nat) (N : Int) (h : IsRod w rb a n c k) (hk : k ≤ 1000000) (hN : -1000000000 ≤ N ∧ N ≤ 1000000000) :
    Calls Tryz.prog 63 #[.pointer (some ⟨rb, 0, none⟩), .int .i64 N] w fun e w' => (∃ m, e = .returned (.int .i64 m) ∧ UpTo N m) ∧ IsRod w' rb a n c (k + 1) ∧ Only rb w w' := by
  have HH := Lib.hid h; clear h
  go_enter Tryz.func63, Tryz.ntmps63
  go_wp2_with fail
  refine (turn_any _ _ _ _ _ _ HH.out hk).mono ?_
  rintro e w1 ⟨⟨z, rfl, hz⟩, hR, hO⟩
  have HR := Lib.hid hR; clear hR
  have HO := Lib.hid hO; clear hO
  by_cases h1 : N < 1
  · have hd : decide (N < 1) = true := by simpa using h1
    go_wp2
    go_ret
    exact ⟨⟨0, rfl, by unfold UpTo; omega⟩, HR.out, HO.out⟩
  · have hd : decide (N < 1) = false := by simpa using h1
    go_wp2
    go_ret
    refine ⟨⟨_, rfl, upTo_mod z N hz (by omega)⟩, HR.out, HO.out⟩
set_option maxRecDepth 100000 in
set_option maxHeartbeats 1000000 in
theorem From_any (w : World) (rb : Nat) (a : Option Addr) (n c k : Nat) (lo hi : Int) (h : IsRod w rb a n c k) (hk : k ≤ 1000000) (hN : -100000000 ≤ lo ∧ lo ≤ hi ∧ hi ≤ 100000000) :
    Calls Tryz.prog 51 #[.pointer (some ⟨rb, 0, none⟩), .int .i64 lo, .int .i64 hi] w fun e w' => (∃ m, e = .returned (.int .i64 m) ∧ lo ≤ m ∧ m ≤ hi) ∧ IsRod w' rb a n c (k + 1) ∧ Only rb w w' := by
  have HH := Lib.hid h; clear h
  go_enter Tryz.func51, Tryz.ntmps51
  go_wp2_with fail
  refine (Up_any _ _ _ _ _ _ _ HH.out hk (by omega)).mono ?_
  rintro e w1 ⟨⟨m, rfl, hm⟩, hR, hO⟩
  have HR := Lib.hid hR; clear hR
  have HO := Lib.hid hO; clear hO
  have hm1 : 0 ≤ m ∧ m ≤ hi - lo := by unfold UpTo at hm; omega
  go_wp2
  go_ret
  exact ⟨⟨_, rfl, by omega⟩, HR.out, HO.out⟩
end Go.Proofs.YteggbenhffmijaaGreatDoor

/- WALKS, the rod 3: Pick, Digit. -/
namespace Go.Proofs.YteggbenhffmijaaGreatDoor
open Go.RowKit
set_option maxRecDepth 100000 in
set_option maxHeartbeats 1000000 in
theorem Pick_any (w : World) (rb : Nat) (a : Option Addr) (n c k : Nat) (p : Nat) (L : Nat) (h : IsRod w rb a n c k) (hk : k ≤ 1000000) (hL : 1 ≤ L ∧ L ≤ 1000) (P : Int → Prop)
    (hp : p ≠ rb ∧ p < w.heap.size) (hl : ∀ i, i < L → ∃ z, w.cell? ⟨p, i, none⟩ = some (.int .i64 z) ∧ P z) :
    Calls Tryz.prog 46 #[.pointer (some ⟨rb, 0, none⟩), .slice (some ⟨p, 0, none⟩) L L] w fun e w' => (∃ m, e = .returned (.int .i64 m) ∧ P m) ∧ IsRod w' rb a n c (k + 1) ∧ Only rb w w' := by
  have HH := Lib.hid h; clear h
  have HL := Lib.hid hl; clear hl
  go_enter Tryz.func46, Tryz.ntmps46
  go_wp2_with fail
  refine (Up_any _ _ _ _ _ _ _ HH.out hk (by omega)).mono ?_
  rintro e w1 ⟨⟨m, rfl, hm⟩, hR, hO⟩
  have HR := Lib.hid hR; clear hR
  obtain ⟨j, hj, rfl⟩ : ∃ j : Nat, j < L ∧ m = (j : Int) := ⟨m.toNat, by unfold UpTo at hm; omega, by unfold UpTo at hm; omega⟩
  obtain ⟨z, hz, hP⟩ := HL.out j hj
  have hz1 : w1.cell? ⟨p, j, none⟩ = some (.int .i64 z) := (hO.cell (p := ⟨p, j, none⟩) hp.1 hp.2).trans hz
  have hjd : decide (j < L) = true := by simpa using hj
  have HO := Lib.hid hO; clear hO hz HL
  clear hm
  go_wp2
  go_ret
  exact ⟨⟨_, rfl, hP⟩, HR.out, HO.out⟩
theorem digit_cell (d : Nat) (hd : d < 10) (ch : UInt8) (hch : ch = UInt8.ofNat (48 + d)) : (48 : Int) + (d : Int) = (ch.toNat : Nat) := by
  subst hch
  rw [UInt8.toNat_ofNat']
  omega
theorem digit_block (w : World) (d : Nat) (hd : d < 10) (t : TypeId) (ch : UInt8) (hch : ch = UInt8.ofNat (48 + d)) : OwnB (w.alloc (Obj.cells #[Value.int IntKind.u8 (48 + (d : Int))] t)) w.heap.size [ch] := by
  refine ⟨by simp, fun i hi => ?_, fun i hi => ?_⟩
  · obtain rfl : i = 0 := by simpa using hi
    rw [show ([ch].getD 0 0) = ch from rfl, ← digit_cell d hd ch hch]
    go_simp
  · obtain rfl : i = 0 := by simpa using hi
    go_simp
set_option maxRecDepth 100000 in
set_option maxHeartbeats 1000000 in
theorem Digit_any (w : World) (d : Nat) (hd : d < 10) (ch : UInt8) (hch : ch = UInt8.ofNat (48 + d)) :
    Calls Tryz.prog 144 #[.int .i64 (d : Int)] w fun e w' => e = .returned (.string (str [ch])) ∧ Below w.heap.size w w' := by
  have hm : (d : Int) % 10 = d := by omega
  have hB := digit_block w d hd 5 ch hch
  clear hch
  have HB := Lib.hid hB; clear hB
  go_enter Tryz.func144, Tryz.ntmps144
  go_wp2
  simp only [hm]
  rw [run_string_back HB.out 1 1 rfl]
  go_wp2
  go_ret
  exact ⟨rfl, (Below.refl w.heap.size w).alloc (Nat.le_refl _) _⟩
end Go.Proofs.YteggbenhffmijaaGreatDoor

/- WALKS, the rod 4: Whole. -/
namespace Go.Proofs.YteggbenhffmijaaGreatDoor
open Go.RowKit
def WTxt (i : Nat) (l : List UInt8) : Prop := (i = 0 ∧ l = []) ∨ (0 < i ∧ ∃ m, 0 < m ∧ m < 10 ^ i ∧ l = Wh.decN m)
theorem WTxt.first (d : Nat) (h : 1 ≤ d ∧ d ≤ 9) (ch : UInt8) (hch : ch = UInt8.ofNat (48 + d)) : WTxt 1 [ch] := .inr ⟨by omega, d, by omega, by omega, by
  rw [Wh.decN, dif_pos (by omega), hch]⟩
theorem WTxt.next (i : Nat) (l : List UInt8) (h : WTxt i l) (hi : 0 < i) (d : Nat) (hd : d < 10) (ch : UInt8) (hch : ch = UInt8.ofNat (48 + d)) : WTxt (i + 1) (l ++ [ch]) := by
  obtain ⟨h0, _⟩ | ⟨_, m, hm, hlt, rfl⟩ := h
  · omega
  · refine .inr ⟨by omega, 10 * m + d, by omega, by rw [Nat.pow_succ]; omega, ?_⟩
    rw [Wh.decN.eq_1 (10 * m + d), dif_neg (by omega), show (10 * m + d) / 10 = m by omega, show (10 * m + d) % 10 = d by omega, hch]
theorem str_app (a b : List UInt8) : str a ++ str b = str (a ++ b) := eq_str (by simp [str])
end Go.Proofs.YteggbenhffmijaaGreatDoor

/- WALKS, the rod 5: NewRod, three. -/
namespace Go.Proofs.YteggbenhffmijaaGreatDoor
open Go.RowKit
/-- a slice of numbers, as an argument of a law -/
def Nums (w : World) (a : Option Addr) (n : Nat) : Prop := ∀ i, i < n → ∃ b off, a = some ⟨b, off, none⟩ ∧ b < w.heap.size ∧ ∀ i, i < n → ∃ z : Int, w.cell? ⟨b, off + i, none⟩ = some (.int .i64 z)
theorem rod_new (w : World) (a : Option Addr) (n c : Nat) (z : Int) (t : TypeId) (h : Nums w a n) : IsRod (w.alloc (Obj.cells #[.slice a n c, .int .i64 0, .int .u64 z] t)) w.heap.size a n c 0 := by
  have hb : Below w.heap.size w (w.alloc (Obj.cells #[.slice a n c, .int .i64 0, .int .u64 z] t)) := (Below.refl _ _).alloc (Nat.le_refl _) _
  refine ⟨by simp, by go_simp, by go_simp, ⟨z, by go_simp⟩, by go_simp, by go_simp, fun i hi => ?_⟩
  obtain ⟨b, off, e, hlt, hc⟩ := h i hi
  refine ⟨b, off, e, Nat.lt_of_lt_of_le hlt hb.size, by omega, fun j hj => ?_⟩
  obtain ⟨v, hv⟩ := hc j hj
  exact ⟨v, (hb.cell (p := ⟨b, off + j, none⟩) hlt).trans hv⟩
set_option maxRecDepth 100000 in
set_option maxHeartbeats 1000000 in
theorem NewRod_any (w : World) (a : Option Addr) (n c : Nat) (h : Nums w a n) :
    Calls Tryz.prog 43 #[.slice a n c] w fun e w' => e = .returned (.pointer (some ⟨w.heap.size, 0, none⟩)) ∧ IsRod w' w.heap.size a n c 0 ∧ Below w.heap.size w w' := by
  have hR := rod_new w a n c 7640891576956012809 134 h
  have HR := Lib.hid hR; clear hR
  go_enter Tryz.func43, Tryz.ntmps43
  go_wp2
  go_ret
  exact ⟨rfl, HR.out, (Below.refl _ _).alloc (Nat.le_refl _) _⟩
end Go.Proofs.YteggbenhffmijaaGreatDoor

/- WALKS, small functions of the laws: EqTexts. -/
namespace Go.Proofs.YteggbenhffmijaaGreatDoor
open Go.RowKit
set_option maxRecDepth 100000 in
set_option maxHeartbeats 1000000 in
theorem EqTexts_same (w : World) (b1 o1 b2 o2 n c1 c2 : Nat) (S : Nat → ByteArray) (h1 : ∀ i, i < n → w.cell? ⟨b1, o1 + i, none⟩ = some (.string (S i))) (h2 : ∀ i, i < n → w.cell? ⟨b2, o2 + i, none⟩ = some (.string (S i))) (hn : n ≤ 1000000) :
    Calls Tryz.prog 35 #[.slice (some ⟨b1, o1, none⟩) n c1, .slice (some ⟨b2, o2, none⟩) n c2] w fun e w' => e = .returned (.bool true) ∧ Below w.heap.size w w' := by
  have H1 := Lib.hid h1; clear h1
  have H2 := Lib.hid h2; clear h2
  go_enter Tryz.func35, Tryz.ntmps35
  go_wp2_with fail
  go_loopw [5] (fun i wr => ∃ k m : Nat, k ≤ n ∧ i = .int .i64 k ∧ wr = w.drewN m) (fun i _ => n - (intOf i).toNat)
  case atStart => exact ⟨0, 0, Nat.zero_le _, rfl, (World.drewN_zero _).symm⟩
  case round =>
    obtain ⟨k, m, hk, rfl, rfl⟩ := hrel
    by_cases hlt : k < n
    · have hd : decide (k < n) = true := by simpa using hlt
      have g1 := H1.out k hlt
      have g2 := H2.out k hlt
      go_wp2_with fail
      go_quiet (fail)
      go_wp2_with fail
      refine ⟨⟨k + 1, m + nq, by omega, by simp, rfl⟩, ?_⟩
      simp [intOf]; omega
    · have hd : decide (k < n) = false := by simpa using hlt
      go_wp2_with fail
      go_ret
      exact ⟨rfl, below_drewN _ _ _⟩
end Go.Proofs.YteggbenhffmijaaGreatDoor

/- MATH 9: a division by one limb. -/
namespace Wh
def rst (l : List Nat) (b i : Nat) : Nat := val (l.drop i) % b
def qdg (l : List Nat) (b i : Nat) : Nat := (rst l b (i + 1) * R + l.getD i 0) / b
def quo (l : List Nat) (b : Nat) : List Nat := (List.range l.length).map (qdg l b)
theorem quo_length (l : List Nat) (b : Nat) : (quo l b).length = l.length := by simp [quo]
theorem quo_getD (l : List Nat) (b i : Nat) (h : i < l.length) : (quo l b).getD i 0 = qdg l b i := by simp [quo, List.getD, h]
theorem rst_end (l : List Nat) (b : Nat) : rst l b l.length = 0 := by simp [rst, val]
theorem rst_lt (l : List Nat) (b i : Nat) (hb : 0 < b) : rst l b i < b := Nat.mod_lt _ hb
theorem rst_step (l : List Nat) (b i : Nat) (h : i < l.length) : rst l b i = (rst l b (i + 1) * R + l.getD i 0) % b := by
  unfold rst
  rw [List.drop_eq_getElem_cons h, val]
  rw [show l.getD i 0 = l[i] from by simp [List.getD, h]]
  generalize val (l.drop (i + 1)) = v
  generalize l[i] = x
  rw [Nat.add_comm, Nat.add_mod, Nat.mul_comm R v, Nat.mul_mod v R b]
  conv => rhs; rw [Nat.add_mod, Nat.mul_mod, Nat.mod_mod]
theorem qdg_lt (l : List Nat) (b i : Nat) (hb : 0 < b) (ho : l.getD i 0 < R) : qdg l b i < R := by
  unfold qdg
  have h := rst_lt l b (i + 1) hb
  rw [Nat.div_lt_iff_lt_mul hb]
  have : rst l b (i + 1) * R ≤ (b - 1) * R := Nat.mul_le_mul_right _ (by omega)
  have e : R * b = (b - 1) * R + R := by
    obtain ⟨c, rfl⟩ : ∃ c, b = c + 1 := ⟨b - 1, by omega⟩
    rw [Nat.add_sub_cancel, Nat.mul_comm, Nat.add_mul, Nat.one_mul]
  omega
theorem quo_cons (x : Nat) (l : List Nat) (b : Nat) : quo (x :: l) b = qdg (x :: l) b 0 :: quo l b := by
  unfold quo
  rw [List.length_cons, List.range_succ_eq_map, List.map_cons, List.map_map]
  rfl
theorem val_quo (l : List Nat) (b : Nat) (hb : 0 < b) : val (quo l b) = val l / b := by
  induction l with
  | nil => simp [quo, val]
  | cons x l ih =>
    rw [quo_cons, val, ih, val]
    unfold qdg rst
    rw [show (x :: l).drop (0 + 1) = l from rfl, show (x :: l).getD 0 0 = x from rfl]
    generalize val l = v
    have hv := Nat.div_add_mod v b
    generalize hq : v / b = q at *
    generalize hr : v % b = r at *
    rw [← hv, Nat.mul_add, show x + (R * (b * q) + R * r) = (r * R + x) + b * (R * q) from by rw [Nat.mul_left_comm, Nat.mul_comm R r]; omega, Nat.add_mul_div_left _ _ hb]
theorem quo_ok (l : List Nat) (b : Nat) (hb : 0 < b) (ho : Ok l) : Ok (quo l b) := by
  intro x hx
  obtain ⟨i, hi, rfl⟩ := List.mem_map.1 hx
  exact qdg_lt l b i hb (getD_lt ho i)
end Wh

/- WALKS, division 1: divideShort into memory of its own. -/
namespace Go.Proofs.YteggbenhffmijaaGreatDoor
open Go.RowKit
structure Short (w wr : World) (rb : Nat) (l lr : List Nat) (b j : Nat) : Prop where
  only : Only rb w wr
  own : Own wr rb (lr.take j ++ (Wh.quo l b).drop j)
theorem take_drop_set (lr q : List Nat) (k : Nat) (h1 : k < lr.length) (h2 : lr.length = q.length) : (lr.take (k + 1) ++ q.drop (k + 1)).set k (q.getD k 0) = lr.take k ++ q.drop k := by
  apply List.ext_getElem
  · simp; omega
  · intro i h3 h4
    simp only [List.length_set, List.length_append, List.length_take, List.length_drop] at h3 h4
    rw [List.getElem_set]
    by_cases hk : k = i
    · subst hk
      rw [if_pos rfl, List.getElem_append_right (by simp; omega)]
      simp [List.getD, show k < q.length by omega, Nat.min_eq_left (Nat.le_of_lt h1)]
    · rw [if_neg hk]
      by_cases hi : i < k
      · rw [List.getElem_append_left (by simp; omega), List.getElem_append_left (by simp; omega)]
        simp
      · rw [List.getElem_append_right (by simp; omega), List.getElem_append_right (by simp; omega)]
        simp only [List.getElem_drop, List.length_take]
        congr 1
        omega
theorem Short.step {w wr : World} {rb : Nat} {l lr : List Nat} {b k : Nat} (h : Short w wr rb l lr b (k + 1)) (hk : k < l.length) (hl : lr.length = l.length) : Short w (wr.setCell ⟨rb, k, none⟩ (.int .u32 (Wh.qdg l b k : Nat))) rb l lr b k := by
  refine ⟨h.only.setCell k _, ?_⟩
  have := h.own.set (i := k) (by simp [Wh.quo_length]; omega) (Wh.qdg l b k)
  rw [← Wh.quo_getD l b k hk, take_drop_set _ _ _ (by omega) (by rw [Wh.quo_length]; exact hl)] at this
  rw [← Wh.quo_getD l b k hk]
  exact this
theorem Short.room {w wr : World} {rb : Nat} {l lr : List Nat} {b k : Nat} (h : Short w wr rb l lr b (k + 1)) (hk : k < l.length) (hl : lr.length = l.length) : (∃ z : Nat, wr.cell? ⟨rb, k, none⟩ = some (.int .u32 z)) ∧ wr.frozen? ⟨rb, k, none⟩ = false :=
  ⟨⟨_, h.own.cell k (by simp [Wh.quo_length]; omega)⟩, h.own.free k (by simp [Wh.quo_length]; omega)⟩
set_option maxRecDepth 100000 in
set_option maxHeartbeats 1000000 in
theorem divideShort_own (w : World) (rb cap : Nat) (v : Value) (l lr : List Nat) (b : Nat) (h : Sl w v l) (ha : Apart rb v) (ho : Wh.Ok l) (hown : Own w rb lr) (hl : lr.length = l.length) (hcap : l.length ≤ cap) (hm : cap ≤ 100000)
    (hb : 0 < b ∧ b ≤ 1000000000) :
    Calls Tryz.prog 313 #[.slice (some ⟨rb, 0, none⟩) l.length cap, v, .int .u32 b] w fun e w' => e = .returned (.int .u32 (Wh.val l % b : Nat)) ∧ Only rb w w' ∧ Own w' rb (Wh.quo l b) := by
  obtain ⟨a, c, rfl, hc⟩ := h.addr2 ha
  clear h ha
  have HC := Lib.hid hc; clear hc
  have HO := Lib.hid ho; clear ho
  have HS : Hid (Short w w rb l lr b l.length) := Lib.hid ⟨Only.refl _ _, by rw [← hl, List.take_length, List.drop_of_length_le (by rw [Wh.quo_length, hl]; exact Nat.le_refl _), List.append_nil]; exact hown⟩
  clear hown
  have HE := Lib.hid (Wh.rst_end l b)
  generalize hn : l.length = n at *
  have HN := Lib.hid hn; clear hn
  go_enter Tryz.func313, Tryz.ntmps313
  go_wp2_with fail
  go_loopw [6, 7] (fun r i wr => ∃ j : Nat, j ≤ n ∧ i = .int .i64 ((j : Int) - 1) ∧ r = .int .u32 (Wh.rst l b j : Nat) ∧ Hid (Short w wr rb l lr b j)) (fun _ i _ => (intOf i + 1).toNat)
  case atStart => exact ⟨n, Nat.le_refl _, rfl, by rw [HE.out]; rfl, HS⟩
  case round =>
    obtain ⟨j, hj, rfl, rfl, HI⟩ := hrel
    by_cases h0 : j = 0
    · subst h0
      go_wp2_with fail
      go_ret
      refine ⟨?_, HI.out.only, ?_⟩
      · rfl
      · have := HI.out.own
        simpa using this
    · obtain ⟨k, rfl⟩ : ∃ k, j = k + 1 := ⟨j - 1, by omega⟩
      obtain ⟨b1, off1, rfl, hne1, hbl1, hcell1⟩ := HC.out k (by omega)
      have hcx := (HI.out.only.cell (p := ⟨b1, off1 + k, none⟩) hne1 hbl1).trans (hcell1 k (by omega))
      clear hcell1
      obtain ⟨⟨z, hrm⟩, hrf⟩ := HI.out.room (k := k) (by rw [HN.out]; omega) (by rw [HN.out]; exact hl)
      have hst := Wh.rst_step l b k (by rw [HN.out]; omega)
      have hq : Wh.qdg l b k = (Wh.rst l b (k + 1) * Wh.R + l.getD k 0) / b := rfl
      have hql := Wh.qdg_lt l b k hb.1 (Wh.getD_lt HO.out k)
      have hr1 := Wh.rst_lt l b (k + 1) hb.1
      have hr2 := Wh.rst_lt l b k hb.1
      have hx := Wh.getD_lt HO.out k
      have HI2 := Lib.hid (HI.out.step (k := k) (by rw [HN.out]; omega) (by rw [HN.out]; exact hl))
      rw [Wh.R_eq] at hst hq hql hx
      generalize l.getD k 0 = x at *
      generalize Wh.rst l b (k + 1) = r1 at *
      generalize hr2e : Wh.rst l b k = r2 at *
      have HR2E := Lib.hid hr2e; clear hr2e
      generalize Wh.qdg l b k = q at *
      have e1 : ((r1 : Int) * 1000000000 + (x : Int)) / (b : Int) = (q : Int) := by rw [hq]; rfl
      have e2 : ((r1 : Int) * 1000000000 + (x : Int)) % (b : Int) = (r2 : Int) := by rw [hst]; rfl
      have hbb : 0 < (b : Int) := by omega
      have HQ := Lib.hid hq; clear hq
      have HST := Lib.hid hst; clear hst
      have hk1 : (0 : Int) ≤ (k : Int) := by omega
      have hkn : k < n := by omega
      rw [show (((k + 1 : Nat) : Int) - 1) = (k : Int) from by omega]
      go_wp2_with fail
      exact ⟨⟨k, by omega, rfl, by rw [HR2E.out], HI2⟩, by simp [intOf]⟩
end Go.Proofs.YteggbenhffmijaaGreatDoor

/- WALKS, division 2: kindOf, divideLimbs by one limb. -/
namespace Go.Proofs.YteggbenhffmijaaGreatDoor
open Go.RowKit
theorem kindOf_any (w : World) (a : Option Addr) (n c : Nat) :
    Calls Tryz.prog 314 #[.slice a n c] w fun e w' => e = .returned (.int .i64 (min (n : Int) 2)) ∧ w = w' := by
  go_enter Tryz.func314, Tryz.ntmps314
  go_wp2
  go_ret
  exact ⟨rfl, rfl⟩
set_option maxRecDepth 100000 in
set_option maxHeartbeats 1000000 in
theorem divideLimbs_short (w : World) (va vb : Value) (la : List Nat) (b : Nat) (ha : Sl w va la) (ho : Wh.Ok la) (hla : la.length ≤ 1000) (hvb : Sl w vb [b]) (hb : 0 < b ∧ b ≤ 1000000000) :
    Calls Tryz.prog 270 #[va, vb] w fun e w' => (∃ aq cq ar cr, e = .returned (.tuple #[.slice aq (Wh.trimL (Wh.quo la b)).length cq, .slice ar (Wh.trimL [Wh.val la % b]).length cr]) ∧ cq ≤ 100000 ∧ cr ≤ 100000 ∧ Sl w' (.slice aq (Wh.trimL (Wh.quo la b)).length cq) (Wh.trimL (Wh.quo la b)) ∧ Sl w' (.slice ar (Wh.trimL [Wh.val la % b]).length cr) (Wh.trimL [Wh.val la % b])) ∧ Below w.heap.size w w' := by
  obtain ⟨a2, c2, rfl, hc2⟩ := hvb.addr
  obtain ⟨a1, c1, rfl, hc1⟩ := ha.addr
  have HA := Lib.hid ha; clear ha
  clear hvb
  go_enter Tryz.func270, Tryz.ntmps270
  go_wp2_with fail
  refine (kindOf_any w a2 1 c2).mono ?_
  rintro e w' ⟨rfl, rfl⟩
  rw [show (min ((1 : Nat) : Int) 2) = 1 from by decide]
  have hmk := run_make_limbs la.length (by omega) w (la.length : Int) rfl
  have hB0 : Below w.heap.size w (w.alloc (.cells (zeros la.length) 181)) := (Below.refl _ _).alloc (Nat.le_refl _) _
  have hO0 := own_make w la.length
  obtain ⟨b2, off2, rfl, hlt2, hcell2⟩ := hc2 0 (by simp)
  have hcb : (w.alloc (.cells (zeros la.length) 181)).cell? ⟨b2, off2, none⟩ = some (.int .u32 b) := (hB0.cell (p := ⟨b2, off2, none⟩) hlt2).trans (hcell2 0 (by simp))
  clear hcell2 hc2 hc1
  have HB0 := Lib.hid hB0; clear hB0
  have HO0 := Lib.hid hO0; clear hO0
  have HOK := Lib.hid ho; clear ho
  go_wp2_with fail
  refine (divideShort_own _ w.heap.size la.length _ la (List.replicate la.length 0) b (HA.out.mono HB0.out) (apart_of_sl HA.out (Nat.le_refl _)) HOK.out HO0.out (by simp) (Nat.le_refl _) (by omega) hb).mono ?_
  rintro e w1 ⟨rfl, hO1, hQ⟩
  have hqs := hQ.sl la.length (by rw [Wh.quo_length]; exact Nat.le_refl _)
  rw [Wh.quo_length] at hqs
  have HQS := Lib.hid hqs; clear hqs hQ
  have hB1 : Below w.heap.size w w1 := HB0.out.trans (hO1.below (Nat.le_refl _) HB0.out.size)
  have HB1 := Lib.hid hB1; clear hB1 hO1 HB0 HO0 hmk hcb
  generalize hr : Wh.val la % b = r
  have hrb : r < 1000000000 := by have := Nat.mod_lt (Wh.val la) hb.1; omega
  go_wp2_with fail
  refine (trim_same _ _ _ _ (Wh.quo la b) (Wh.quo_ok la b hb.1 HOK.out) HQS.out (by omega)).mono ?_
  rintro e w2 ⟨rfl, hq2, rfl⟩
  have HQ2 := Lib.hid hq2; clear hq2
  go_wp2_with fail
  refine (trim_same _ _ _ _ [r] (Wh.ok_cons.2 ⟨hrb, Wh.ok_nil⟩) (sl_one w1 r _) (by omega)).mono ?_
  rintro e w3 ⟨rfl, hr3, rfl⟩
  have HR3 := Lib.hid hr3; clear hr3
  go_wp2_with fail
  go_ret2
  have hB2 : Below w1.heap.size w1 (w1.alloc (Obj.cells #[Value.int IntKind.u32 r] 181)) := (Below.refl _ _).alloc (Nat.le_refl _) _
  subst hr
  exact ⟨⟨_, _, _, _, rfl, by omega, by omega, HQ2.out.mono hB2, HR3.out⟩, HB1.out.trans (hB2.mono HB1.out.size)⟩
end Go.Proofs.YteggbenhffmijaaGreatDoor

/- MATH 11: floor division out of division towards 0. -/
namespace Wh
theorem floor_both (x y : Int) (hy : y ≠ 0) :
    (if (x.tmod y).sign * y.sign = -1 then x.tdiv y - 1 else x.tdiv y) = x.fdiv y ∧ (if (x.tmod y).sign * y.sign = -1 then x.tmod y + y else x.tmod y) = x.fmod y := by
  rw [Int.fdiv_eq_ediv, Int.tdiv_eq_ediv, Int.fmod_eq_emod, Int.tmod_eq_emod]
  have hn := Int.emod_nonneg x hy
  have hl := Int.emod_lt x hy
  by_cases hd : y ∣ x
  · have h0 : x % y = 0 := Int.emod_eq_zero_of_dvd hd
    simp [hd, h0]
  · have h0 : x % y ≠ 0 := fun e => hd (Int.dvd_of_emod_eq_zero e)
    simp only [hd, or_false]
    generalize x % y = m at *
    generalize x / y = q at *
    rcases Int.lt_or_gt_of_ne hy with h | h
    · have s := Int.sign_eq_neg_one_of_neg h
      have hy0 : ¬ 0 ≤ y := by omega
      by_cases hx : 0 ≤ x
      · have e : m.sign = 1 := Int.sign_eq_one_of_pos (by omega)
        simp [hx, hy0, s, e]
      · have e : (m - (y.natAbs : Int)).sign = -1 := Int.sign_eq_neg_one_of_neg (by omega)
        simp [hx, hy0, s, e]; omega
    · have s := Int.sign_eq_one_of_pos h
      have hy0 : 0 ≤ y := by omega
      by_cases hx : 0 ≤ x
      · have e : m.sign = 1 := Int.sign_eq_one_of_pos (by omega)
        simp [hx, hy0, s, e]
      · have e : (m - (y.natAbs : Int)).sign = -1 := Int.sign_eq_neg_one_of_neg (by omega)
        simp [hx, hy0, s, e]; omega
end Wh
