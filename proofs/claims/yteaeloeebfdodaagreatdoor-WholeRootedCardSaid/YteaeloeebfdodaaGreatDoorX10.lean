/- Part 10 of the proofs that laws of package whole answer true at every input and leave the input as it was, where the library's variables start as the text lays them (the texts T6, T7, R1, R2, R3). -/
import Derived.Test.YteaeloeebfdodaaGreatDoorX09
import Derived.Defers
import Derived.Recover
import Derived.Deep.Cut
import Derived.OpenShut
set_option linter.unusedVariables false
set_option linter.unusedSimpArgs false
/- WALKS, texts 6: attempt, where the work ends well. -/
namespace Go.Proofs.YteaeloeebfdodaaGreatDoor
open Go.RowKit
theorem catch_idle (p : Addr) (w : World) :
    CallsD Tryz.prog 178 #[.pointer (some p)] .returning w fun e u' w' => e = .returned (.tuple #[]) ∧ u' = .returning ∧ w' = w := by
  refine callsD_of_wpS Tryz.func178 rfl fun c₀ cs hu => ?_
  apply wpS_seq
  apply wpS_region
  simp [wpOpsS, go_sem, recoverD, hu, Tryz.ntmps178, Exit.thenS]
  apply wpS_seq
  apply wpS_region
  simp [wpOpsS, go_sem, Array.replicate, Exit.thenS]
  refine wpS_cond (t := false) (by simp [Act.eval]) ?_
  simp only [Bool.false_eq_true, if_false]
  refine wpS_of_wp (wp_skip ?_)
  cases c₀
  simp_all [bodyPostS, results, Tryz.results178]
set_option maxRecDepth 100000 in
set_option maxHeartbeats 400000 in
theorem attempt_good (K : Nat) (caps : Array Value) (v : ByteArray) (w : World) (hkc : ∀ (w : World), (callFunc K caps).run Tryz.prog w = .ok (.enter K caps) w)
    (hwork : ∀ w', Below w.heap.size w w' → Calls Tryz.prog K caps w' fun e w'' => e = .returned (.string v) ∧ Below w'.heap.size w' w'') :
    Calls Tryz.prog 80 #[.func (Fn.func K) #[] caps] w fun e w' => e = .returned (.tuple #[.string v, .int .i64 0]) ∧ Below w.heap.size w w' := by
  have hmf : ∀ (fn : Fn) (first cap : Array Value) (w : World), (Instr.makeFunc fn first cap).run Tryz.prog w = .ok (.func fn first cap) w := fun _ _ _ _ => rfl
  have HW := Lib.hid hwork; clear hwork
  go_enter_defers Tryz.func80, Tryz.ntmps80
  go_wp2_with fail
  refine (HW.out _ ((Below.refl _ _).alloc (Nat.le_refl _) _)).mono ?_
  rintro e w1 ⟨rfl, hb1⟩
  have hc : w1.cell? ⟨w.heap.size, 0, none⟩ = some (.int .i64 0) := (hb1.cell (p := ⟨w.heap.size, 0, none⟩) (by simp)).trans (by go_simp)
  have hf : w1.frozen? ⟨w.heap.size, 0, none⟩ = false := (hb1.frozen (p := ⟨w.heap.size, 0, none⟩) (by simp)).trans (by go_simp)
  have hbb : Below w.heap.size w w1 := ((Below.refl _ _).alloc (Nat.le_refl _) _).trans (hb1.mono (by simp))
  have hbs : Below w.heap.size w (w1.setCell ⟨w.heap.size, 0, none⟩ (.int .i64 0)) := hbb.setCell (Nat.le_refl _) _
  have hcs : (w1.setCell ⟨w.heap.size, 0, none⟩ (.int .i64 0)).cell? ⟨w.heap.size, 0, none⟩ = some (.int .i64 0) := World.cell?_setCell_same _ _ _ hc
  clear hb1 hbb
  go_wp2
  refine leaves_cons (f := 178) (args := #[.pointer (some ⟨w.heap.size, 0, none⟩)]) (by simp) (by simp [go_sem]) ?_
  refine (catch_idle _ _).mono ?_
  rintro e u' w'' ⟨rfl, rfl, rfl⟩
  refine ⟨.tuple #[.string v, .int .i64 0], ?_, rfl, hbs⟩
  simp [results, Tryz.results80, go_sem, hcs]
end Go.Proofs.YteaeloeebfdodaaGreatDoor

/- WALKS, texts 7: Add, Sub, Mul. -/
namespace Go.Proofs.YteaeloeebfdodaaGreatDoor
open Go.RowKit
/-- two variables of texts that a call has made -/
theorem boxed (w : World) (a b : Value) (t : TypeId) : ((w.alloc (.cells #[a] t)).alloc (.cells #[b] t)).cell? ⟨w.heap.size, 0, none⟩ = some a ∧ ((w.alloc (.cells #[a] t)).alloc (.cells #[b] t)).cell? ⟨w.heap.size + 1, 0, none⟩ = some b := ⟨by go_simp, by go_simp⟩
set_option maxHeartbeats 400000 in
theorem Mul_any (w : World) (x y : Int) (hx : Valid x) (hy : Valid y) (hz : Valid (x * y)) (htab : Tab w) (hmin : (Wh.limbs x.natAbs).length < 32 ∨ (Wh.limbs y.natAbs).length < 32) :
    Calls Tryz.prog 18 #[txt x, txt y] w fun e w' => e = .returned (.tuple #[txt (x * y), .int .i64 0]) ∧ Below w.heap.size w w' := by
  have hmf : ∀ (fn : Fn) (first cap : Array Value) (w : World), (Instr.makeFunc fn first cap).run Tryz.prog w = .ok (.func fn first cap) w := fun _ _ _ _ => rfl
  have hat := fun (w : World) (pa pb : Addr) (h : Captured w pa pb x y) (htab : Tab w) (ha : pa.block < w.heap.size) (hb : pb.block < w.heap.size) => attempt_good 83 #[.pointer (some pa), .pointer (some pb)] (str (Wh.decI (x * y))) w (fun w => by kernel_rfl) (fun w' hb' => mul_work w' pa pb x y ⟨(hb'.cell ha).trans h.a, (hb'.cell hb).trans h.b⟩ hx hy hz (htab.mono hb') hmin)
  have HAT := Lib.hid hat; clear hat
  unfold txt at *
  go_enter Tryz.func18, Tryz.ntmps18
  go_wp2_with fail
  have hal : Below w.heap.size w ((w.alloc (.cells #[.string (str (Wh.decI x))] 9)).alloc (.cells #[.string (str (Wh.decI y))] 9)) := ((Below.refl _ _).alloc (Nat.le_refl _) _).alloc (by simp) _
  obtain ⟨b0, b1⟩ := boxed w (.string (str (Wh.decI x))) (.string (str (Wh.decI y))) 9
  refine (HAT.out _ _ _ ⟨b0, b1⟩ (htab.mono hal) (by simp; omega) (by simp)).mono ?_
  rintro e w2 ⟨rfl, hb2⟩
  have hbb := hal.trans (hb2.mono hal.size)
  clear hal b0 b1 hb2
  go_wp2
  go_ret2
  exact ⟨rfl, hbb⟩
end Go.Proofs.YteaeloeebfdodaaGreatDoor

/- WALKS, the rod 1: turn. -/
namespace Go.Proofs.YteaeloeebfdodaaGreatDoor
open Go.RowKit
/-- block rb is a rod over a list of numbers that is not written -/
structure IsRod (w : World) (rb : Nat) (a : Option Addr) (n c : Nat) (at_ : Nat) : Prop where
  lt : rb < w.heap.size
  c0 : w.cell? ⟨rb, 0, none⟩ = some (.slice a n c)
  c1 : w.cell? ⟨rb, 1, none⟩ = some (.int .i64 at_)
  c2 : ∃ z : Int, w.cell? ⟨rb, 2, none⟩ = some (.int .u64 z)
  f1 : w.frozen? ⟨rb, 1, none⟩ = false
  f2 : w.frozen? ⟨rb, 2, none⟩ = false
  list : ∀ i, i < n → ∃ b off, a = some ⟨b, off, none⟩ ∧ b < w.heap.size ∧ b ≠ rb ∧ ∀ i, i < n → ∃ z : Int, w.cell? ⟨b, off + i, none⟩ = some (.int .i64 z)
theorem IsRod.only {w w' : World} {rb : Nat} {a : Option Addr} {n c k k' : Nat} (h : IsRod w rb a n c k) (ho : Only rb w w') (h0 : w'.cell? ⟨rb, 0, none⟩ = some (.slice a n c)) (h1 : w'.cell? ⟨rb, 1, none⟩ = some (.int .i64 k')) (h2 : ∃ z : Int, w'.cell? ⟨rb, 2, none⟩ = some (.int .u64 z))
    (g1 : w'.frozen? ⟨rb, 1, none⟩ = false) (g2 : w'.frozen? ⟨rb, 2, none⟩ = false) : IsRod w' rb a n c k' :=
  ⟨Nat.lt_of_lt_of_le h.lt ho.size, h0, h1, h2, g1, g2, fun i hi => by
    obtain ⟨b, off, e, hb, hne, hc⟩ := h.list i hi
    exact ⟨b, off, e, Nat.lt_of_lt_of_le hb ho.size, hne, fun j hj => by
      obtain ⟨z, hz⟩ := hc j hj
      exact ⟨z, (ho.cell (p := ⟨b, off + j, none⟩) hne hb).trans hz⟩⟩⟩
theorem IsRod.mono {w w' : World} {rb : Nat} {a : Option Addr} {n c k : Nat} (h : IsRod w rb a n c k) (hb : Below w.heap.size w w') : IsRod w' rb a n c k := by
  obtain ⟨z, hz⟩ := h.c2
  exact h.only (Only.of_below hb) ((hb.cell (p := ⟨rb, 0, none⟩) h.lt).trans h.c0) ((hb.cell (p := ⟨rb, 1, none⟩) h.lt).trans h.c1) ⟨z, (hb.cell (p := ⟨rb, 2, none⟩) h.lt).trans hz⟩ ((hb.frozen (p := ⟨rb, 1, none⟩) h.lt).trans h.f1) ((hb.frozen (p := ⟨rb, 2, none⟩) h.lt).trans h.f2)
theorem IsRod.at1 {w : World} {rb : Nat} {a : Option Addr} {n c k : Nat} (h : IsRod w rb a n c k) (k' : Nat) : IsRod (w.setCell ⟨rb, 1, none⟩ (.int .i64 k')) rb a n c k' := by
  obtain ⟨z, hz⟩ := h.c2
  refine h.only ((Only.refl rb w).setCell 1 _) ?_ (World.cell?_setCell_same _ _ _ h.c1) ⟨z, ?_⟩ (by rw [World.frozen?_setCell]; exact h.f1) (by rw [World.frozen?_setCell]; exact h.f2)
  · rw [World.cell?_setCell_other _ _ _ _ (off_ne (by decide))]; exact h.c0
  · rw [World.cell?_setCell_other _ _ _ _ (off_ne (by decide))]; exact hz
theorem IsRod.at2 {w : World} {rb : Nat} {a : Option Addr} {n c k : Nat} (h : IsRod w rb a n c k) (z : Int) : IsRod (w.setCell ⟨rb, 2, none⟩ (.int .u64 z)) rb a n c k := by
  obtain ⟨z0, hz⟩ := h.c2
  refine h.only ((Only.refl rb w).setCell 2 _) ?_ ?_ ⟨z, World.cell?_setCell_same _ _ _ hz⟩ (by rw [World.frozen?_setCell]; exact h.f1) (by rw [World.frozen?_setCell]; exact h.f2)
  · rw [World.cell?_setCell_other _ _ _ _ (off_ne (by decide))]; exact h.c0
  · rw [World.cell?_setCell_other _ _ _ _ (off_ne (by decide))]; exact h.c1
theorem IsRod.drewN {w : World} {rb : Nat} {a : Option Addr} {n c k : Nat} (h : IsRod w rb a n c k) (m : Nat) : IsRod (w.drewN m) rb a n c k := h.mono (below_drewN _ _ _)
def U64 (z : Int) : Prop := 0 ≤ z ∧ z ≤ 18446744073709551615
theorem u64_bits (x y : Int) : U64 (bits BinOp.xor IntKind.u64 x y) := bounds_u64 (wf_bits _ _ _ _)
theorem u64_div (x : Int) (h : U64 x) : U64 (x / 2048) := by unfold U64 at *; omega
theorem wpList_store_u64 {ops : Array Oper} {rest : List Oper} {o : Oper} {a : Act} {w : World} {Q : Exit → Act → World → Prop} (hgd : o.guard = none) (x y : Operand) (ho : o.op = .store 101 x y)
    (b i : Nat) (z z0 : Int) (hx : a.eval x = .pointer (some ⟨b, i, none⟩)) (hy : a.eval y = .int .u64 z) (hz : w.cell? ⟨b, i, none⟩ = some (.int .u64 z0)) (hf : w.frozen? ⟨b, i, none⟩ = false)
    (hd : o.dst = none)
    (h : wpList Tryz.prog ops Q rest a (w.setCell ⟨b, i, none⟩ (.int .u64 z))) : wpList Tryz.prog ops Q (o :: rest) a w :=
  wpList_plain hgd fun K hK => by
    have h' := hK _ _ h
    clear hK h
    obtain ⟨od, oo, ot, op, oa, og⟩ := o
    obtain rfl := hd
    obtain rfl := ho
    unfold Oper.wp execOp
    simp only [hx, hy]
    go_simp
    exact h'
set_option maxRecDepth 100000 in
set_option maxHeartbeats 1000000 in
theorem turn_short (w : World) (rb : Nat) (a : Option Addr) (n c k : Nat) (h : IsRod w rb a n c k) (hk : k ≤ 1000000) (hkn : n ≤ k) :
    Calls Tryz.prog 93 #[.pointer (some ⟨rb, 0, none⟩)] w fun e w' => (∃ z, e = .returned (.int .u64 z) ∧ U64 z) ∧ IsRod w' rb a n c (k + 1) ∧ Only rb w w' := by
  obtain ⟨z0, hz0⟩ := h.c2
  have h0 := h.c0
  have h1 := h.c1
  have g1 := h.f1
  have g2 := h.f2
  have HH := Lib.hid h; clear h
  have hd : decide (k < n) = false := by simp; omega
  go_enter Tryz.func93, Tryz.ntmps93
  go_wp2
  generalize IntKind.u64.wrap (((k : Int) + 1) * 13503953896175478587) = z3
  go_quiet (fail)
  go_wp2
  generalize IntKind.u64.wrap (bits BinOp.xor IntKind.u64 z0 z3 * 11912009170470909681) = s1
  have hR := ((HH.out.drewN nq).at1 (k + 1)).at2 s1
  have hO : Only rb w (((w.drewN nq).setCell ⟨rb, 1, none⟩ (.int .i64 ((k + 1 : Nat)))).setCell ⟨rb, 2, none⟩ (.int .u64 s1)) := ((Only.of_below (below_drewN _ _ nq)).setCell 1 _).setCell 2 _
  rw [show ((k + 1 : Nat) : Int) = (k : Int) + 1 by omega] at hR hO
  have hz : (((w.drewN nq).setCell ⟨rb, 1, none⟩ (.int .i64 ((k : Int) + 1))).setCell ⟨rb, 2, none⟩ (.int .u64 s1)).cell? ⟨rb, 2, none⟩ = some (.int .u64 s1) := World.cell?_setCell_same _ _ _ (u := .int .u64 z0) (by rw [World.cell?_setCell_other _ _ _ _ (off_ne (by decide))]; exact hz0)
  have hf := hR.f2
  clear h0 h1 g1 g2 hz0
  generalize ((w.drewN nq).setCell ⟨rb, 1, none⟩ (.int .i64 ((k : Int) + 1))).setCell ⟨rb, 2, none⟩ (.int .u64 s1) = W at *
  have HRR := Lib.hid hR; clear hR
  have HO := Lib.hid hO; clear hO
  refine wp_region_still_tail 13 (by kernel_rfl) (by kernel_rfl) ?_
  simp only [List.take_succ_cons, List.take_zero, List.drop_succ_cons, List.drop_zero]
  repeat still_step
  generalize bits BinOp.xor IntKind.u64 s1 (s1 / 2147483648) = s2
  refine wpStill_nil ?_
  change wpList _ _ _ _ _ W.drew
  refine wpList_store_u64 rfl (.tmp 65) (.tmp 63) rfl rb 2 s2 s1 rfl rfl hz hf rfl ?_
  have hz2 : (W.drew.setCell ⟨rb, 2, none⟩ (.int .u64 s2)).cell? ⟨rb, 2, none⟩ = some (.int .u64 s2) := World.cell?_setCell_same _ _ _ (u := .int .u64 s1) (show W.cell? _ = _ from hz)
  have hR2 := (show IsRod W.drew rb a n c (k + 1) from HRR.out.mono (below_drewN _ W 1)).at2 s2
  have hO2 := HO.out.drew.setCell 2 (.int .u64 s2)
  generalize W.drew.setCell ⟨rb, 2, none⟩ (.int .u64 s2) = W2 at *
  clear HRR HO hz hf
  have HRR := Lib.hid hR2; clear hR2
  have HO := Lib.hid hO2; clear hO2
  go_upto_region 7 with (fail)
  go_upto_region 8 with (fail)
  generalize IntKind.u64.wrap (s2 * 5840696475078001361) = s3
  go_wp2
  go_ret
  exact ⟨⟨_, rfl, u64_div _ (u64_bits _ _)⟩, HRR.out, HO.out⟩
set_option maxRecDepth 100000 in
set_option maxHeartbeats 1000000 in
theorem turn_long (w : World) (rb : Nat) (a : Option Addr) (n c k : Nat) (h : IsRod w rb a n c k) (hk : k ≤ 1000000) (hkn : k < n) :
    Calls Tryz.prog 93 #[.pointer (some ⟨rb, 0, none⟩)] w fun e w' => (∃ z, e = .returned (.int .u64 z) ∧ U64 z) ∧ IsRod w' rb a n c (k + 1) ∧ Only rb w w' := by
  obtain ⟨z0, hz0⟩ := h.c2
  have h0 := h.c0
  have h1 := h.c1
  have g1 := h.f1
  have g2 := h.f2
  obtain ⟨b, off, ha, hb, hne, hl⟩ := h.list k hkn
  obtain ⟨zk, hk1⟩ := hl k hkn
  clear hl
  have HH := Lib.hid h; clear h
  subst ha
  have hd : decide (k < n) = true := by simp; omega
  go_enter Tryz.func93, Tryz.ntmps93
  go_wp2
  generalize IntKind.u64.wrap (((k : Int) + 1) * 13503953896175478587) = z3
  go_quiet (fail)
  revert nq; intro nqA
  go_wp2
  go_quiet (fail)
  generalize IntKind.u64.wrap (IntKind.u64.wrap zk * 4354685564936845355) = z4
  generalize IntKind.u64.wrap (z3 + z4) = z5
  rw [World.drewN_drewN]
  generalize nqA + nq = nq
  go_wp2
  generalize IntKind.u64.wrap (bits BinOp.xor IntKind.u64 z0 z5 * 11912009170470909681) = s1
  have hR := ((HH.out.drewN nq).at1 (k + 1)).at2 s1
  have hO : Only rb w (((w.drewN nq).setCell ⟨rb, 1, none⟩ (.int .i64 ((k + 1 : Nat)))).setCell ⟨rb, 2, none⟩ (.int .u64 s1)) := ((Only.of_below (below_drewN _ _ nq)).setCell 1 _).setCell 2 _
  rw [show ((k + 1 : Nat) : Int) = (k : Int) + 1 by omega] at hR hO
  have hz : (((w.drewN nq).setCell ⟨rb, 1, none⟩ (.int .i64 ((k : Int) + 1))).setCell ⟨rb, 2, none⟩ (.int .u64 s1)).cell? ⟨rb, 2, none⟩ = some (.int .u64 s1) := World.cell?_setCell_same _ _ _ (u := .int .u64 z0) (by rw [World.cell?_setCell_other _ _ _ _ (off_ne (by decide))]; exact hz0)
  have hf := hR.f2
  clear h0 h1 g1 g2 hz0 hk1
  generalize ((w.drewN nq).setCell ⟨rb, 1, none⟩ (.int .i64 ((k : Int) + 1))).setCell ⟨rb, 2, none⟩ (.int .u64 s1) = W at *
  have HRR := Lib.hid hR; clear hR
  have HO := Lib.hid hO; clear hO
  refine wp_region_still_tail 13 (by kernel_rfl) (by kernel_rfl) ?_
  simp only [List.take_succ_cons, List.take_zero, List.drop_succ_cons, List.drop_zero]
  repeat still_step
  generalize bits BinOp.xor IntKind.u64 s1 (s1 / 2147483648) = s2
  refine wpStill_nil ?_
  change wpList _ _ _ _ _ W.drew
  refine wpList_store_u64 rfl (.tmp 65) (.tmp 63) rfl rb 2 s2 s1 rfl rfl hz hf rfl ?_
  have hz2 : (W.drew.setCell ⟨rb, 2, none⟩ (.int .u64 s2)).cell? ⟨rb, 2, none⟩ = some (.int .u64 s2) := World.cell?_setCell_same _ _ _ (u := .int .u64 s1) (show W.cell? _ = _ from hz)
  have hR2 := (show IsRod W.drew rb (some ⟨b, off, none⟩) n c (k + 1) from HRR.out.mono (below_drewN _ W 1)).at2 s2
  have hO2 := HO.out.drew.setCell 2 (.int .u64 s2)
  generalize W.drew.setCell ⟨rb, 2, none⟩ (.int .u64 s2) = W2 at *
  clear HRR HO hz hf
  have HRR := Lib.hid hR2; clear hR2
  have HO := Lib.hid hO2; clear hO2
  go_upto_region 7 with (fail)
  go_upto_region 8 with (fail)
  generalize IntKind.u64.wrap (s2 * 5840696475078001361) = s3
  go_wp2
  go_ret
  exact ⟨⟨_, rfl, u64_div _ (u64_bits _ _)⟩, HRR.out, HO.out⟩
theorem turn_any (w : World) (rb : Nat) (a : Option Addr) (n c k : Nat) (h : IsRod w rb a n c k) (hk : k ≤ 1000000) :
    Calls Tryz.prog 93 #[.pointer (some ⟨rb, 0, none⟩)] w fun e w' => (∃ z, e = .returned (.int .u64 z) ∧ U64 z) ∧ IsRod w' rb a n c (k + 1) ∧ Only rb w w' := by
  by_cases hkn : k < n
  · exact turn_long w rb a n c k h hk hkn
  · exact turn_short w rb a n c k h hk (by omega)
end Go.Proofs.YteaeloeebfdodaaGreatDoor

namespace Go.Proofs.YteaeloeebfdodaaGreatDoor
open Go.RowKit
def UpTo (N m : Int) : Prop := 0 ≤ m ∧ (N < 1 → m = 0) ∧ (1 ≤ N → m ≤ N)
theorem upTo_mod (z N : Int) (hz : U64 z) (hN : 1 ≤ N ∧ N ≤ 1000000000) : UpTo N (wrap64 (z.tmod (N + 1))) := by
  have h1 := Int.emod_nonneg z (b := N + 1) (by omega)
  have h2 := Int.emod_lt_of_pos z (b := N + 1) (by omega)
  rw [Int.tmod_eq_emod_of_nonneg hz.1]
  generalize z % (N + 1) = t at *
  have e : wrap64 t = t := by unfold wrap64; omega
  rw [e]
  unfold UpTo
  omega
set_option maxRecDepth 100000 in
set_option maxHeartbeats 1000000 in
theorem Up_any (w : World) (rb : Nat) (a : Option Addr) (n c k : Nat) (N : Int) (h : IsRod w rb a n c k) (hk : k ≤ 1000000) (hN : -1000000000 ≤ N ∧ N ≤ 1000000000) :
    Calls Tryz.prog 24 #[.pointer (some ⟨rb, 0, none⟩), .int .i64 N] w fun e w' => (∃ m, e = .returned (.int .i64 m) ∧ UpTo N m) ∧ IsRod w' rb a n c (k + 1) ∧ Only rb w w' := by
  have HH := Lib.hid h; clear h
  go_enter Tryz.func24, Tryz.ntmps24
  go_wp2_with fail
  refine (turn_any _ _ _ _ _ _ HH.out hk).mono ?_
  rintro e w1 ⟨⟨z, rfl, hz⟩, hR, hO⟩
  have HR := Lib.hid hR; clear hR
  have HO := Lib.hid hO; clear hO
  by_cases h1 : N < 1
  · have hd : decide (N < 1) = true := by simpa using h1
    go_wp2
    go_ret
    exact ⟨⟨0, rfl, by unfold UpTo; omega⟩, HR.out, HO.out⟩
  · have hd : decide (N < 1) = false := by simpa using h1
    go_wp2
    go_ret
    refine ⟨⟨_, rfl, upTo_mod z N hz (by omega)⟩, HR.out, HO.out⟩
set_option maxRecDepth 100000 in
set_option maxHeartbeats 1000000 in
theorem From_any (w : World) (rb : Nat) (a : Option Addr) (n c k : Nat) (lo hi : Int) (h : IsRod w rb a n c k) (hk : k ≤ 1000000) (hN : -100000000 ≤ lo ∧ lo ≤ hi ∧ hi ≤ 100000000) :
    Calls Tryz.prog 43 #[.pointer (some ⟨rb, 0, none⟩), .int .i64 lo, .int .i64 hi] w fun e w' => (∃ m, e = .returned (.int .i64 m) ∧ lo ≤ m ∧ m ≤ hi) ∧ IsRod w' rb a n c (k + 1) ∧ Only rb w w' := by
  have HH := Lib.hid h; clear h
  go_enter Tryz.func43, Tryz.ntmps43
  go_wp2_with fail
  refine (Up_any _ _ _ _ _ _ _ HH.out hk (by omega)).mono ?_
  rintro e w1 ⟨⟨m, rfl, hm⟩, hR, hO⟩
  have HR := Lib.hid hR; clear hR
  have HO := Lib.hid hO; clear hO
  have hm1 : 0 ≤ m ∧ m ≤ hi - lo := by unfold UpTo at hm; omega
  go_wp2
  go_ret
  exact ⟨⟨_, rfl, by omega⟩, HR.out, HO.out⟩
set_option maxRecDepth 100000 in
set_option maxHeartbeats 1000000 in
theorem Once_any (w : World) (rb : Nat) (a : Option Addr) (n c k : Nat) (N : Int) (h : IsRod w rb a n c k) (hk : k ≤ 1000000) (hN : 0 ≤ N ∧ N ≤ 100000000) :
    Calls Tryz.prog 92 #[.pointer (some ⟨rb, 0, none⟩), .int .i64 N] w fun e w' => (∃ b, e = .returned (.bool b)) ∧ IsRod w' rb a n c (k + 1) ∧ Only rb w w' := by
  have HH := Lib.hid h; clear h
  go_enter Tryz.func92, Tryz.ntmps92
  go_wp2_with fail
  refine (Up_any _ _ _ _ _ _ _ HH.out hk (by omega)).mono ?_
  rintro e w1 ⟨⟨m, rfl, hm⟩, hR, hO⟩
  have HR := Lib.hid hR; clear hR
  have HO := Lib.hid hO; clear hO
  go_wp2
  go_ret
  exact ⟨⟨_, rfl⟩, HR.out, HO.out⟩
end Go.Proofs.YteaeloeebfdodaaGreatDoor

/- WALKS, the rod 3: Pick, Digit. -/
namespace Go.Proofs.YteaeloeebfdodaaGreatDoor
open Go.RowKit
set_option maxRecDepth 100000 in
set_option maxHeartbeats 1000000 in
theorem Pick_any (w : World) (rb : Nat) (a : Option Addr) (n c k : Nat) (p : Nat) (L : Nat) (h : IsRod w rb a n c k) (hk : k ≤ 1000000) (hL : 1 ≤ L ∧ L ≤ 1000) (P : Int → Prop)
    (hp : p ≠ rb ∧ p < w.heap.size) (hl : ∀ i, i < L → ∃ z, w.cell? ⟨p, i, none⟩ = some (.int .i64 z) ∧ P z) :
    Calls Tryz.prog 42 #[.pointer (some ⟨rb, 0, none⟩), .slice (some ⟨p, 0, none⟩) L L] w fun e w' => (∃ m, e = .returned (.int .i64 m) ∧ P m) ∧ IsRod w' rb a n c (k + 1) ∧ Only rb w w' := by
  have HH := Lib.hid h; clear h
  have HL := Lib.hid hl; clear hl
  go_enter Tryz.func42, Tryz.ntmps42
  go_wp2_with fail
  refine (Up_any _ _ _ _ _ _ _ HH.out hk (by omega)).mono ?_
  rintro e w1 ⟨⟨m, rfl, hm⟩, hR, hO⟩
  have HR := Lib.hid hR; clear hR
  obtain ⟨j, hj, rfl⟩ : ∃ j : Nat, j < L ∧ m = (j : Int) := ⟨m.toNat, by unfold UpTo at hm; omega, by unfold UpTo at hm; omega⟩
  obtain ⟨z, hz, hP⟩ := HL.out j hj
  have hz1 : w1.cell? ⟨p, j, none⟩ = some (.int .i64 z) := (hO.cell (p := ⟨p, j, none⟩) hp.1 hp.2).trans hz
  have hjd : decide (j < L) = true := by simpa using hj
  have HO := Lib.hid hO; clear hO hz HL
  clear hm
  go_wp2
  go_ret
  exact ⟨⟨_, rfl, hP⟩, HR.out, HO.out⟩
theorem digit_cell (d : Nat) (hd : d < 10) (ch : UInt8) (hch : ch = UInt8.ofNat (48 + d)) : (48 : Int) + (d : Int) = (ch.toNat : Nat) := by
  subst hch
  rw [UInt8.toNat_ofNat']
  omega
theorem digit_block (w : World) (d : Nat) (hd : d < 10) (t : TypeId) (ch : UInt8) (hch : ch = UInt8.ofNat (48 + d)) : OwnB (w.alloc (Obj.cells #[Value.int IntKind.u8 (48 + (d : Int))] t)) w.heap.size [ch] := by
  refine ⟨by simp, fun i hi => ?_, fun i hi => ?_⟩
  · obtain rfl : i = 0 := by simpa using hi
    rw [show ([ch].getD 0 0) = ch from rfl, ← digit_cell d hd ch hch]
    go_simp
  · obtain rfl : i = 0 := by simpa using hi
    go_simp
set_option maxRecDepth 100000 in
set_option maxHeartbeats 1000000 in
theorem Digit_any (w : World) (d : Nat) (hd : d < 10) (ch : UInt8) (hch : ch = UInt8.ofNat (48 + d)) :
    Calls Tryz.prog 91 #[.int .i64 (d : Int)] w fun e w' => e = .returned (.string (str [ch])) ∧ Below w.heap.size w w' := by
  have hm : (d : Int) % 10 = d := by omega
  have hB := digit_block w d hd 5 ch hch
  clear hch
  have HB := Lib.hid hB; clear hB
  go_enter Tryz.func91, Tryz.ntmps91
  go_wp2
  simp only [hm]
  rw [run_string_back HB.out 1 1 rfl]
  go_wp2
  go_ret
  exact ⟨rfl, (Below.refl w.heap.size w).alloc (Nat.le_refl _) _⟩
end Go.Proofs.YteaeloeebfdodaaGreatDoor
