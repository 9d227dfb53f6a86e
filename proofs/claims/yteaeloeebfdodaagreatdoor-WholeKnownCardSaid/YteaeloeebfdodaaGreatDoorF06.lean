/- Part 6 of the proofs that laws of package whole answer true at every input and leave the input as it was, where the library's variables start as the text lays them (the texts T6, T7, R1, R2, R3, R4, R5, E1, M9, D1, D2, M11). -/
import Derived.Test.YteaeloeebfdodaaGreatDoorF05
import Derived.Defers
import Derived.Recover
import Derived.Deep.Cut
import Derived.OpenShut
import Derived.OwnWalk
set_option linter.unusedVariables false
set_option linter.unusedSimpArgs false
/- WALKS, texts 6: attempt, where the work ends well. -/
namespace Go.Proofs.YteaeloeebfdodaaGreatDoor
open Go.RowKit
theorem catch_idle (p : Addr) (w : World) :
    CallsD Tryz.prog 178 #[.pointer (some p)] .returning w fun e u' w' => e = .returned (.tuple #[]) ∧ u' = .returning ∧ w' = w := by
  refine callsD_of_wpS Tryz.func178 rfl fun c₀ cs hu => ?_
  apply wpS_seq
  apply wpS_region
  simp [wpOpsS, go_sem, recoverD, hu, Tryz.ntmps178, Exit.thenS]
  apply wpS_seq
  apply wpS_region
  simp [wpOpsS, go_sem, Array.replicate, Exit.thenS]
  refine wpS_cond (t := false) (by simp [Act.eval]) ?_
  simp only [Bool.false_eq_true, if_false]
  refine wpS_of_wp (wp_skip ?_)
  cases c₀
  simp_all [bodyPostS, results, Tryz.results178]
set_option maxRecDepth 100000 in
set_option maxHeartbeats 400000 in
theorem attempt_good (K : Nat) (caps : Array Value) (v : ByteArray) (w : World) (hkc : ∀ (w : World), (callFunc K caps).run Tryz.prog w = .ok (.enter K caps) w)
    (hwork : ∀ w', Below w.heap.size w w' → Calls Tryz.prog K caps w' fun e w'' => e = .returned (.string v) ∧ Below w'.heap.size w' w'') :
    Calls Tryz.prog 80 #[.func (Fn.func K) #[] caps] w fun e w' => e = .returned (.tuple #[.string v, .int .i64 0]) ∧ Below w.heap.size w w' := by
  have hmf : ∀ (fn : Fn) (first cap : Array Value) (w : World), (Instr.makeFunc fn first cap).run Tryz.prog w = .ok (.func fn first cap) w := fun _ _ _ _ => rfl
  have HW := Lib.hid hwork; clear hwork
  go_enter_defers Tryz.func80, Tryz.ntmps80
  go_wp2_with fail
  refine (HW.out _ ((Below.refl _ _).alloc (Nat.le_refl _) _)).mono ?_
  rintro e w1 ⟨rfl, hb1⟩
  have hc : w1.cell? ⟨w.heap.size, 0, none⟩ = some (.int .i64 0) := (hb1.cell (p := ⟨w.heap.size, 0, none⟩) (by simp)).trans (by go_simp)
  have hf : w1.frozen? ⟨w.heap.size, 0, none⟩ = false := (hb1.frozen (p := ⟨w.heap.size, 0, none⟩) (by simp)).trans (by go_simp)
  have hbb : Below w.heap.size w w1 := ((Below.refl _ _).alloc (Nat.le_refl _) _).trans (hb1.mono (by simp))
  have hbs : Below w.heap.size w (w1.setCell ⟨w.heap.size, 0, none⟩ (.int .i64 0)) := hbb.setCell (Nat.le_refl _) _
  have hcs : (w1.setCell ⟨w.heap.size, 0, none⟩ (.int .i64 0)).cell? ⟨w.heap.size, 0, none⟩ = some (.int .i64 0) := World.cell?_setCell_same _ _ _ hc
  clear hb1 hbb
  go_wp2
  refine leaves_cons (f := 178) (args := #[.pointer (some ⟨w.heap.size, 0, none⟩)]) (by simp) (by simp [go_sem]) ?_
  refine (catch_idle _ _).mono ?_
  rintro e u' w'' ⟨rfl, rfl, rfl⟩
  refine ⟨.tuple #[.string v, .int .i64 0], ?_, rfl, hbs⟩
  simp [results, Tryz.results80, go_sem, hcs]
end Go.Proofs.YteaeloeebfdodaaGreatDoor

/- WALKS, texts 7: Add, Sub, Mul. -/
namespace Go.Proofs.YteaeloeebfdodaaGreatDoor
open Go.RowKit
/-- two variables of texts that a call has made -/
theorem boxed (w : World) (a b : Value) (t : TypeId) : ((w.alloc (.cells #[a] t)).alloc (.cells #[b] t)).cell? ⟨w.heap.size, 0, none⟩ = some a ∧ ((w.alloc (.cells #[a] t)).alloc (.cells #[b] t)).cell? ⟨w.heap.size + 1, 0, none⟩ = some b := ⟨by go_simp, by go_simp⟩
set_option maxHeartbeats 400000 in
theorem Add_any (w : World) (x y : Int) (hx : Valid x) (hy : Valid y) (hfx : Fit x) (hfy : Fit y) (hz : Valid (x + y)) (htab : Tab w) :
    Calls Tryz.prog 17 #[txt x, txt y] w fun e w' => e = .returned (.tuple #[txt (x + y), .int .i64 0]) ∧ Below w.heap.size w w' := by
  have hmf : ∀ (fn : Fn) (first cap : Array Value) (w : World), (Instr.makeFunc fn first cap).run Tryz.prog w = .ok (.func fn first cap) w := fun _ _ _ _ => rfl
  have hat := fun (w : World) (pa pb : Addr) (h : Captured w pa pb x y) (htab : Tab w) (ha : pa.block < w.heap.size) (hb : pb.block < w.heap.size) => attempt_good 81 #[.pointer (some pa), .pointer (some pb)] (str (Wh.decI (x + y))) w (fun w => by kernel_rfl) (fun w' hb' => add_work w' pa pb x y ⟨(hb'.cell ha).trans h.a, (hb'.cell hb).trans h.b⟩ hx hy hfx hfy hz (htab.mono hb'))
  have HAT := Lib.hid hat; clear hat
  unfold txt at *
  go_enter Tryz.func17, Tryz.ntmps17
  go_wp2_with fail
  have hal : Below w.heap.size w ((w.alloc (.cells #[.string (str (Wh.decI x))] 9)).alloc (.cells #[.string (str (Wh.decI y))] 9)) := ((Below.refl _ _).alloc (Nat.le_refl _) _).alloc (by simp) _
  obtain ⟨b0, b1⟩ := boxed w (.string (str (Wh.decI x))) (.string (str (Wh.decI y))) 9
  refine (HAT.out _ _ _ ⟨b0, b1⟩ (htab.mono hal) (by simp; omega) (by simp)).mono ?_
  rintro e w2 ⟨rfl, hb2⟩
  have hbb := hal.trans (hb2.mono hal.size)
  clear hal b0 b1 hb2
  go_wp2
  go_ret2
  exact ⟨rfl, hbb⟩
set_option maxHeartbeats 400000 in
theorem Sub_any (w : World) (x y : Int) (hx : Valid x) (hy : Valid y) (hfx : Fit x) (hfy : Fit y) (hz : Valid (x - y)) (htab : Tab w) :
    Calls Tryz.prog 32 #[txt x, txt y] w fun e w' => e = .returned (.tuple #[txt (x - y), .int .i64 0]) ∧ Below w.heap.size w w' := by
  have hmf : ∀ (fn : Fn) (first cap : Array Value) (w : World), (Instr.makeFunc fn first cap).run Tryz.prog w = .ok (.func fn first cap) w := fun _ _ _ _ => rfl
  have hat := fun (w : World) (pa pb : Addr) (h : Captured w pa pb x y) (htab : Tab w) (ha : pa.block < w.heap.size) (hb : pb.block < w.heap.size) => attempt_good 108 #[.pointer (some pa), .pointer (some pb)] (str (Wh.decI (x - y))) w (fun w => by kernel_rfl) (fun w' hb' => sub_work w' pa pb x y ⟨(hb'.cell ha).trans h.a, (hb'.cell hb).trans h.b⟩ hx hy hfx hfy hz (htab.mono hb'))
  have HAT := Lib.hid hat; clear hat
  unfold txt at *
  go_enter Tryz.func32, Tryz.ntmps32
  go_wp2_with fail
  have hal : Below w.heap.size w ((w.alloc (.cells #[.string (str (Wh.decI x))] 9)).alloc (.cells #[.string (str (Wh.decI y))] 9)) := ((Below.refl _ _).alloc (Nat.le_refl _) _).alloc (by simp) _
  obtain ⟨b0, b1⟩ := boxed w (.string (str (Wh.decI x))) (.string (str (Wh.decI y))) 9
  refine (HAT.out _ _ _ ⟨b0, b1⟩ (htab.mono hal) (by simp; omega) (by simp)).mono ?_
  rintro e w2 ⟨rfl, hb2⟩
  have hbb := hal.trans (hb2.mono hal.size)
  clear hal b0 b1 hb2
  go_wp2
  go_ret2
  exact ⟨rfl, hbb⟩
set_option maxHeartbeats 400000 in
theorem Mul_any (w : World) (x y : Int) (hx : Valid x) (hy : Valid y) (hz : Valid (x * y)) (htab : Tab w) (hmin : (Wh.limbs x.natAbs).length < 32 ∨ (Wh.limbs y.natAbs).length < 32) :
    Calls Tryz.prog 18 #[txt x, txt y] w fun e w' => e = .returned (.tuple #[txt (x * y), .int .i64 0]) ∧ Below w.heap.size w w' := by
  have hmf : ∀ (fn : Fn) (first cap : Array Value) (w : World), (Instr.makeFunc fn first cap).run Tryz.prog w = .ok (.func fn first cap) w := fun _ _ _ _ => rfl
  have hat := fun (w : World) (pa pb : Addr) (h : Captured w pa pb x y) (htab : Tab w) (ha : pa.block < w.heap.size) (hb : pb.block < w.heap.size) => attempt_good 83 #[.pointer (some pa), .pointer (some pb)] (str (Wh.decI (x * y))) w (fun w => by kernel_rfl) (fun w' hb' => mul_work w' pa pb x y ⟨(hb'.cell ha).trans h.a, (hb'.cell hb).trans h.b⟩ hx hy hz (htab.mono hb') hmin)
  have HAT := Lib.hid hat; clear hat
  unfold txt at *
  go_enter Tryz.func18, Tryz.ntmps18
  go_wp2_with fail
  have hal : Below w.heap.size w ((w.alloc (.cells #[.string (str (Wh.decI x))] 9)).alloc (.cells #[.string (str (Wh.decI y))] 9)) := ((Below.refl _ _).alloc (Nat.le_refl _) _).alloc (by simp) _
  obtain ⟨b0, b1⟩ := boxed w (.string (str (Wh.decI x))) (.string (str (Wh.decI y))) 9
  refine (HAT.out _ _ _ ⟨b0, b1⟩ (htab.mono hal) (by simp; omega) (by simp)).mono ?_
  rintro e w2 ⟨rfl, hb2⟩
  have hbb := hal.trans (hb2.mono hal.size)
  clear hal b0 b1 hb2
  go_wp2
  go_ret2
  exact ⟨rfl, hbb⟩
end Go.Proofs.YteaeloeebfdodaaGreatDoor

/- WALKS, the rod 1: turn. -/
namespace Go.Proofs.YteaeloeebfdodaaGreatDoor
open Go.RowKit
/-- block rb is a rod over a list of numbers that is not written -/
structure IsRod (w : World) (rb : Nat) (a : Option Addr) (n c : Nat) (at_ : Nat) : Prop where
  lt : rb < w.heap.size
  c0 : w.cell? ⟨rb, 0, none⟩ = some (.slice a n c)
  c1 : w.cell? ⟨rb, 1, none⟩ = some (.int .i64 at_)
  c2 : ∃ z : Int, w.cell? ⟨rb, 2, none⟩ = some (.int .u64 z)
  f1 : w.frozen? ⟨rb, 1, none⟩ = false
  f2 : w.frozen? ⟨rb, 2, none⟩ = false
  list : ∀ i, i < n → ∃ b off, a = some ⟨b, off, none⟩ ∧ b < w.heap.size ∧ b ≠ rb ∧ ∀ i, i < n → ∃ z : Int, w.cell? ⟨b, off + i, none⟩ = some (.int .i64 z)
theorem IsRod.only {w w' : World} {rb : Nat} {a : Option Addr} {n c k k' : Nat} (h : IsRod w rb a n c k) (ho : Only rb w w') (h0 : w'.cell? ⟨rb, 0, none⟩ = some (.slice a n c)) (h1 : w'.cell? ⟨rb, 1, none⟩ = some (.int .i64 k')) (h2 : ∃ z : Int, w'.cell? ⟨rb, 2, none⟩ = some (.int .u64 z))
    (g1 : w'.frozen? ⟨rb, 1, none⟩ = false) (g2 : w'.frozen? ⟨rb, 2, none⟩ = false) : IsRod w' rb a n c k' :=
  ⟨Nat.lt_of_lt_of_le h.lt ho.size, h0, h1, h2, g1, g2, fun i hi => by
    obtain ⟨b, off, e, hb, hne, hc⟩ := h.list i hi
    exact ⟨b, off, e, Nat.lt_of_lt_of_le hb ho.size, hne, fun j hj => by
      obtain ⟨z, hz⟩ := hc j hj
      exact ⟨z, (ho.cell (p := ⟨b, off + j, none⟩) hne hb).trans hz⟩⟩⟩
theorem IsRod.mono {w w' : World} {rb : Nat} {a : Option Addr} {n c k : Nat} (h : IsRod w rb a n c k) (hb : Below w.heap.size w w') : IsRod w' rb a n c k := by
  obtain ⟨z, hz⟩ := h.c2
  exact h.only (Only.of_below hb) ((hb.cell (p := ⟨rb, 0, none⟩) h.lt).trans h.c0) ((hb.cell (p := ⟨rb, 1, none⟩) h.lt).trans h.c1) ⟨z, (hb.cell (p := ⟨rb, 2, none⟩) h.lt).trans hz⟩ ((hb.frozen (p := ⟨rb, 1, none⟩) h.lt).trans h.f1) ((hb.frozen (p := ⟨rb, 2, none⟩) h.lt).trans h.f2)
theorem IsRod.drewN {w : World} {rb : Nat} {a : Option Addr} {n c k : Nat} (h : IsRod w rb a n c k) (m : Nat) : IsRod (w.drewN m) rb a n c k := h.mono (below_drewN _ _ _)
end Go.Proofs.YteaeloeebfdodaaGreatDoor

namespace Go.Proofs.YteaeloeebfdodaaGreatDoor
open Go.RowKit
end Go.Proofs.YteaeloeebfdodaaGreatDoor

/- WALKS, the rod 3: Pick, Digit. -/
namespace Go.Proofs.YteaeloeebfdodaaGreatDoor
open Go.RowKit
end Go.Proofs.YteaeloeebfdodaaGreatDoor

/- WALKS, the rod 4: Whole. -/
namespace Go.Proofs.YteaeloeebfdodaaGreatDoor
open Go.RowKit
def WTxt (i : Nat) (l : List UInt8) : Prop := (i = 0 ∧ l = []) ∨ (0 < i ∧ ∃ m, 0 < m ∧ m < 10 ^ i ∧ l = Wh.decN m)
theorem WTxt.first (d : Nat) (h : 1 ≤ d ∧ d ≤ 9) (ch : UInt8) (hch : ch = UInt8.ofNat (48 + d)) : WTxt 1 [ch] := .inr ⟨by omega, d, by omega, by omega, by
  rw [Wh.decN, dif_pos (by omega), hch]⟩
theorem WTxt.next (i : Nat) (l : List UInt8) (h : WTxt i l) (hi : 0 < i) (d : Nat) (hd : d < 10) (ch : UInt8) (hch : ch = UInt8.ofNat (48 + d)) : WTxt (i + 1) (l ++ [ch]) := by
  obtain ⟨h0, _⟩ | ⟨_, m, hm, hlt, rfl⟩ := h
  · omega
  · refine .inr ⟨by omega, 10 * m + d, by omega, by rw [Nat.pow_succ]; omega, ?_⟩
    rw [Wh.decN.eq_1 (10 * m + d), dif_neg (by omega), show (10 * m + d) / 10 = m by omega, show (10 * m + d) % 10 = d by omega, hch]
theorem txt_zero : txt 0 = .string ⟨#[48]⟩ := by
  unfold txt Wh.decI
  rw [if_neg (by decide), Wh.decN, dif_pos (by decide)]
  rfl
end Go.Proofs.YteaeloeebfdodaaGreatDoor

/- WALKS, the rod 5: NewRod, three. -/
namespace Go.Proofs.YteaeloeebfdodaaGreatDoor
open Go.RowKit
end Go.Proofs.YteaeloeebfdodaaGreatDoor

/- WALKS, small functions of the laws: EqTexts. -/
namespace Go.Proofs.YteaeloeebfdodaaGreatDoor
open Go.RowKit
set_option maxRecDepth 100000 in
set_option maxHeartbeats 1000000 in
theorem EqTexts_same (w : World) (b1 o1 b2 o2 n c1 c2 : Nat) (S : Nat → ByteArray) (h1 : ∀ i, i < n → w.cell? ⟨b1, o1 + i, none⟩ = some (.string (S i))) (h2 : ∀ i, i < n → w.cell? ⟨b2, o2 + i, none⟩ = some (.string (S i))) (hn : n ≤ 1000000) :
    Calls Tryz.prog 72 #[.slice (some ⟨b1, o1, none⟩) n c1, .slice (some ⟨b2, o2, none⟩) n c2] w fun e w' => e = .returned (.bool true) ∧ Below w.heap.size w w' := by
  have H1 := Lib.hid h1; clear h1
  have H2 := Lib.hid h2; clear h2
  go_enter Tryz.func72, Tryz.ntmps72
  go_wp2_with fail
  go_loopw [5] (fun i wr => ∃ k m : Nat, k ≤ n ∧ i = .int .i64 k ∧ wr = w.drewN m) (fun i _ => n - (intOf i).toNat)
  case atStart => exact ⟨0, 0, Nat.zero_le _, rfl, (World.drewN_zero _).symm⟩
  case round =>
    obtain ⟨k, m, hk, rfl, rfl⟩ := hrel
    by_cases hlt : k < n
    · have hd : decide (k < n) = true := by simpa using hlt
      have g1 := H1.out k hlt
      have g2 := H2.out k hlt
      go_wp2_with fail
      go_quiet (fail)
      go_wp2_with fail
      refine ⟨⟨k + 1, m + nq, by omega, by simp, rfl⟩, ?_⟩
      simp [intOf]; omega
    · have hd : decide (k < n) = false := by simpa using hlt
      go_wp2_with fail
      go_ret
      exact ⟨rfl, below_drewN _ _ _⟩
end Go.Proofs.YteaeloeebfdodaaGreatDoor

/- MATH 9: a division by one limb. -/
namespace Wh
def rst (l : List Nat) (b i : Nat) : Nat := val (l.drop i) % b
def qdg (l : List Nat) (b i : Nat) : Nat := (rst l b (i + 1) * R + l.getD i 0) / b
def quo (l : List Nat) (b : Nat) : List Nat := (List.range l.length).map (qdg l b)
theorem quo_length (l : List Nat) (b : Nat) : (quo l b).length = l.length := by simp [quo]
theorem quo_getD (l : List Nat) (b i : Nat) (h : i < l.length) : (quo l b).getD i 0 = qdg l b i := by simp [quo, List.getD, h]
theorem rst_end (l : List Nat) (b : Nat) : rst l b l.length = 0 := by simp [rst, val]
theorem rst_lt (l : List Nat) (b i : Nat) (hb : 0 < b) : rst l b i < b := Nat.mod_lt _ hb
theorem rst_step (l : List Nat) (b i : Nat) (h : i < l.length) : rst l b i = (rst l b (i + 1) * R + l.getD i 0) % b := by
  unfold rst
  rw [List.drop_eq_getElem_cons h, val]
  rw [show l.getD i 0 = l[i] from by simp [List.getD, h]]
  generalize val (l.drop (i + 1)) = v
  generalize l[i] = x
  rw [Nat.add_comm, Nat.add_mod, Nat.mul_comm R v, Nat.mul_mod v R b]
  conv => rhs; rw [Nat.add_mod, Nat.mul_mod, Nat.mod_mod]
theorem qdg_lt (l : List Nat) (b i : Nat) (hb : 0 < b) (ho : l.getD i 0 < R) : qdg l b i < R := by
  unfold qdg
  have h := rst_lt l b (i + 1) hb
  rw [Nat.div_lt_iff_lt_mul hb]
  have : rst l b (i + 1) * R ≤ (b - 1) * R := Nat.mul_le_mul_right _ (by omega)
  have e : R * b = (b - 1) * R + R := by
    obtain ⟨c, rfl⟩ : ∃ c, b = c + 1 := ⟨b - 1, by omega⟩
    rw [Nat.add_sub_cancel, Nat.mul_comm, Nat.add_mul, Nat.one_mul]
  omega
theorem quo_cons (x : Nat) (l : List Nat) (b : Nat) : quo (x :: l) b = qdg (x :: l) b 0 :: quo l b := by
  unfold quo
  rw [List.length_cons, List.range_succ_eq_map, List.map_cons, List.map_map]
  rfl
theorem val_quo (l : List Nat) (b : Nat) (hb : 0 < b) : val (quo l b) = val l / b := by
  induction l with
  | nil => simp [quo, val]
  | cons x l ih =>
    rw [quo_cons, val, ih, val]
    unfold qdg rst
    rw [show (x :: l).drop (0 + 1) = l from rfl, show (x :: l).getD 0 0 = x from rfl]
    generalize val l = v
    have hv := Nat.div_add_mod v b
    generalize hq : v / b = q at *
    generalize hr : v % b = r at *
    rw [← hv, Nat.mul_add, show x + (R * (b * q) + R * r) = (r * R + x) + b * (R * q) from by rw [Nat.mul_left_comm, Nat.mul_comm R r]; omega, Nat.add_mul_div_left _ _ hb]
theorem quo_ok (l : List Nat) (b : Nat) (hb : 0 < b) (ho : Ok l) : Ok (quo l b) := by
  intro x hx
  obtain ⟨i, hi, rfl⟩ := List.mem_map.1 hx
  exact qdg_lt l b i hb (getD_lt ho i)
end Wh

/- WALKS, division 1: divideShort into memory of its own. -/
namespace Go.Proofs.YteaeloeebfdodaaGreatDoor
open Go.RowKit
structure Short (w wr : World) (rb : Nat) (l lr : List Nat) (b j : Nat) : Prop where
  only : Only rb w wr
  own : Own wr rb (lr.take j ++ (Wh.quo l b).drop j)
theorem take_drop_set (lr q : List Nat) (k : Nat) (h1 : k < lr.length) (h2 : lr.length = q.length) : (lr.take (k + 1) ++ q.drop (k + 1)).set k (q.getD k 0) = lr.take k ++ q.drop k := by
  apply List.ext_getElem
  · simp; omega
  · intro i h3 h4
    simp only [List.length_set, List.length_append, List.length_take, List.length_drop] at h3 h4
    rw [List.getElem_set]
    by_cases hk : k = i
    · subst hk
      rw [if_pos rfl, List.getElem_append_right (by simp; omega)]
      simp [List.getD, show k < q.length by omega, Nat.min_eq_left (Nat.le_of_lt h1)]
    · rw [if_neg hk]
      by_cases hi : i < k
      · rw [List.getElem_append_left (by simp; omega), List.getElem_append_left (by simp; omega)]
        simp
      · rw [List.getElem_append_right (by simp; omega), List.getElem_append_right (by simp; omega)]
        simp only [List.getElem_drop, List.length_take]
        congr 1
        omega
theorem Short.step {w wr : World} {rb : Nat} {l lr : List Nat} {b k : Nat} (h : Short w wr rb l lr b (k + 1)) (hk : k < l.length) (hl : lr.length = l.length) : Short w (wr.setCell ⟨rb, k, none⟩ (.int .u32 (Wh.qdg l b k : Nat))) rb l lr b k := by
  refine ⟨h.only.setCell k _, ?_⟩
  have := h.own.set (i := k) (by simp [Wh.quo_length]; omega) (Wh.qdg l b k)
  rw [← Wh.quo_getD l b k hk, take_drop_set _ _ _ (by omega) (by rw [Wh.quo_length]; exact hl)] at this
  rw [← Wh.quo_getD l b k hk]
  exact this
theorem Short.room {w wr : World} {rb : Nat} {l lr : List Nat} {b k : Nat} (h : Short w wr rb l lr b (k + 1)) (hk : k < l.length) (hl : lr.length = l.length) : (∃ z : Nat, wr.cell? ⟨rb, k, none⟩ = some (.int .u32 z)) ∧ wr.frozen? ⟨rb, k, none⟩ = false :=
  ⟨⟨_, h.own.cell k (by simp [Wh.quo_length]; omega)⟩, h.own.free k (by simp [Wh.quo_length]; omega)⟩
set_option maxRecDepth 100000 in
set_option maxHeartbeats 1000000 in
theorem divideShort_own (w : World) (rb cap : Nat) (v : Value) (l lr : List Nat) (b : Nat) (h : Sl w v l) (ha : Apart rb v) (ho : Wh.Ok l) (hown : Own w rb lr) (hl : lr.length = l.length) (hcap : l.length ≤ cap) (hm : cap ≤ 100000)
    (hb : 0 < b ∧ b ≤ 1000000000) :
    Calls Tryz.prog 257 #[.slice (some ⟨rb, 0, none⟩) l.length cap, v, .int .u32 b] w fun e w' => e = .returned (.int .u32 (Wh.val l % b : Nat)) ∧ Only rb w w' ∧ Own w' rb (Wh.quo l b) := by
  obtain ⟨a, c, rfl, hc⟩ := h.addr2 ha
  clear h ha
  have HC := Lib.hid hc; clear hc
  have HO := Lib.hid ho; clear ho
  have HS : Hid (Short w w rb l lr b l.length) := Lib.hid ⟨Only.refl _ _, by rw [← hl, List.take_length, List.drop_of_length_le (by rw [Wh.quo_length, hl]; exact Nat.le_refl _), List.append_nil]; exact hown⟩
  clear hown
  have HE := Lib.hid (Wh.rst_end l b)
  generalize hn : l.length = n at *
  have HN := Lib.hid hn; clear hn
  go_enter Tryz.func257, Tryz.ntmps257
  go_wp2_with fail
  go_loopw [6, 7] (fun r i wr => ∃ j : Nat, j ≤ n ∧ i = .int .i64 ((j : Int) - 1) ∧ r = .int .u32 (Wh.rst l b j : Nat) ∧ Hid (Short w wr rb l lr b j)) (fun _ i _ => (intOf i + 1).toNat)
  case atStart => exact ⟨n, Nat.le_refl _, rfl, by rw [HE.out]; rfl, HS⟩
  case round =>
    obtain ⟨j, hj, rfl, rfl, HI⟩ := hrel
    by_cases h0 : j = 0
    · subst h0
      go_wp2_with fail
      go_ret
      refine ⟨?_, HI.out.only, ?_⟩
      · rfl
      · have := HI.out.own
        simpa using this
    · obtain ⟨k, rfl⟩ : ∃ k, j = k + 1 := ⟨j - 1, by omega⟩
      obtain ⟨b1, off1, rfl, hne1, hbl1, hcell1⟩ := HC.out k (by omega)
      have hcx := (HI.out.only.cell (p := ⟨b1, off1 + k, none⟩) hne1 hbl1).trans (hcell1 k (by omega))
      clear hcell1
      obtain ⟨⟨z, hrm⟩, hrf⟩ := HI.out.room (k := k) (by rw [HN.out]; omega) (by rw [HN.out]; exact hl)
      have hst := Wh.rst_step l b k (by rw [HN.out]; omega)
      have hq : Wh.qdg l b k = (Wh.rst l b (k + 1) * Wh.R + l.getD k 0) / b := rfl
      have hql := Wh.qdg_lt l b k hb.1 (Wh.getD_lt HO.out k)
      have hr1 := Wh.rst_lt l b (k + 1) hb.1
      have hr2 := Wh.rst_lt l b k hb.1
      have hx := Wh.getD_lt HO.out k
      have HI2 := Lib.hid (HI.out.step (k := k) (by rw [HN.out]; omega) (by rw [HN.out]; exact hl))
      rw [Wh.R_eq] at hst hq hql hx
      generalize l.getD k 0 = x at *
      generalize Wh.rst l b (k + 1) = r1 at *
      generalize hr2e : Wh.rst l b k = r2 at *
      have HR2E := Lib.hid hr2e; clear hr2e
      generalize Wh.qdg l b k = q at *
      have e1 : ((r1 : Int) * 1000000000 + (x : Int)) / (b : Int) = (q : Int) := by rw [hq]; rfl
      have e2 : ((r1 : Int) * 1000000000 + (x : Int)) % (b : Int) = (r2 : Int) := by rw [hst]; rfl
      have hbb : 0 < (b : Int) := by omega
      have HQ := Lib.hid hq; clear hq
      have HST := Lib.hid hst; clear hst
      have hk1 : (0 : Int) ≤ (k : Int) := by omega
      have hkn : k < n := by omega
      rw [show (((k + 1 : Nat) : Int) - 1) = (k : Int) from by omega]
      go_wp2_with fail
      exact ⟨⟨k, by omega, rfl, by rw [HR2E.out], HI2⟩, by simp [intOf]⟩
end Go.Proofs.YteaeloeebfdodaaGreatDoor

/- WALKS, division 2: kindOf, divideLimbs by one limb. -/
namespace Go.Proofs.YteaeloeebfdodaaGreatDoor
open Go.RowKit
theorem kindOf_any (w : World) (a : Option Addr) (n c : Nat) :
    Calls Tryz.prog 261 #[.slice a n c] w fun e w' => e = .returned (.int .i64 (min (n : Int) 2)) ∧ w = w' := by
  go_enter Tryz.func261, Tryz.ntmps261
  go_wp2
  go_ret
  exact ⟨rfl, rfl⟩
set_option maxRecDepth 100000 in
set_option maxHeartbeats 1000000 in
theorem divideLimbs_short (w : World) (va vb : Value) (la : List Nat) (b : Nat) (ha : Sl w va la) (ho : Wh.Ok la) (hla : la.length ≤ 1000) (hvb : Sl w vb [b]) (hb : 0 < b ∧ b ≤ 1000000000) :
    Calls Tryz.prog 190 #[va, vb] w fun e w' => (∃ aq cq ar cr, e = .returned (.tuple #[.slice aq (Wh.trimL (Wh.quo la b)).length cq, .slice ar (Wh.trimL [Wh.val la % b]).length cr]) ∧ cq ≤ 100000 ∧ cr ≤ 100000 ∧ Sl w' (.slice aq (Wh.trimL (Wh.quo la b)).length cq) (Wh.trimL (Wh.quo la b)) ∧ Sl w' (.slice ar (Wh.trimL [Wh.val la % b]).length cr) (Wh.trimL [Wh.val la % b])) ∧ Below w.heap.size w w' := by
  obtain ⟨a2, c2, rfl, hc2⟩ := hvb.addr
  obtain ⟨a1, c1, rfl, hc1⟩ := ha.addr
  have HA := Lib.hid ha; clear ha
  clear hvb
  go_enter Tryz.func190, Tryz.ntmps190
  go_wp2_with fail
  refine (kindOf_any w a2 1 c2).mono ?_
  rintro e w' ⟨rfl, rfl⟩
  rw [show (min ((1 : Nat) : Int) 2) = 1 from by decide]
  have hmk := run_make_limbs la.length (by omega) w (la.length : Int) rfl
  have hB0 : Below w.heap.size w (w.alloc (.cells (zeros la.length) 181)) := (Below.refl _ _).alloc (Nat.le_refl _) _
  have hO0 := own_make w la.length
  obtain ⟨b2, off2, rfl, hlt2, hcell2⟩ := hc2 0 (by simp)
  have hcb : (w.alloc (.cells (zeros la.length) 181)).cell? ⟨b2, off2, none⟩ = some (.int .u32 b) := (hB0.cell (p := ⟨b2, off2, none⟩) hlt2).trans (hcell2 0 (by simp))
  clear hcell2 hc2 hc1
  have HB0 := Lib.hid hB0; clear hB0
  have HO0 := Lib.hid hO0; clear hO0
  have HOK := Lib.hid ho; clear ho
  go_wp2_with fail
  refine (divideShort_own _ w.heap.size la.length _ la (List.replicate la.length 0) b (HA.out.mono HB0.out) (apart_of_sl HA.out (Nat.le_refl _)) HOK.out HO0.out (by simp) (Nat.le_refl _) (by omega) hb).mono ?_
  rintro e w1 ⟨rfl, hO1, hQ⟩
  have hqs := hQ.sl la.length (by rw [Wh.quo_length]; exact Nat.le_refl _)
  rw [Wh.quo_length] at hqs
  have HQS := Lib.hid hqs; clear hqs hQ
  have hB1 : Below w.heap.size w w1 := HB0.out.trans (hO1.below (Nat.le_refl _) HB0.out.size)
  have HB1 := Lib.hid hB1; clear hB1 hO1 HB0 HO0 hmk hcb
  generalize hr : Wh.val la % b = r
  have hrb : r < 1000000000 := by have := Nat.mod_lt (Wh.val la) hb.1; omega
  go_wp2_with fail
  refine (trim_same _ _ _ _ (Wh.quo la b) (Wh.quo_ok la b hb.1 HOK.out) HQS.out (by omega)).mono ?_
  rintro e w2 ⟨rfl, hq2, rfl⟩
  have HQ2 := Lib.hid hq2; clear hq2
  go_wp2_with fail
  refine (trim_same _ _ _ _ [r] (Wh.ok_cons.2 ⟨hrb, Wh.ok_nil⟩) (sl_one w1 r _) (by omega)).mono ?_
  rintro e w3 ⟨rfl, hr3, rfl⟩
  have HR3 := Lib.hid hr3; clear hr3
  go_wp2_with fail
  go_ret2
  have hB2 : Below w1.heap.size w1 (w1.alloc (Obj.cells #[Value.int IntKind.u32 r] 181)) := (Below.refl _ _).alloc (Nat.le_refl _) _
  subst hr
  exact ⟨⟨_, _, _, _, rfl, by omega, by omega, HQ2.out.mono hB2, HR3.out⟩, HB1.out.trans (hB2.mono HB1.out.size)⟩
end Go.Proofs.YteaeloeebfdodaaGreatDoor

/- MATH 11: floor division out of division towards 0. -/
namespace Wh
theorem floor_both (x y : Int) (hy : y ≠ 0) :
    (if (x.tmod y).sign * y.sign = -1 then x.tdiv y - 1 else x.tdiv y) = x.fdiv y ∧ (if (x.tmod y).sign * y.sign = -1 then x.tmod y + y else x.tmod y) = x.fmod y := by
  rw [Int.fdiv_eq_ediv, Int.tdiv_eq_ediv, Int.fmod_eq_emod, Int.tmod_eq_emod]
  have hn := Int.emod_nonneg x hy
  have hl := Int.emod_lt x hy
  by_cases hd : y ∣ x
  · have h0 : x % y = 0 := Int.emod_eq_zero_of_dvd hd
    simp [hd, h0]
  · have h0 : x % y ≠ 0 := fun e => hd (Int.dvd_of_emod_eq_zero e)
    simp only [hd, or_false]
    generalize x % y = m at *
    generalize x / y = q at *
    rcases Int.lt_or_gt_of_ne hy with h | h
    · have s := Int.sign_eq_neg_one_of_neg h
      have hy0 : ¬ 0 ≤ y := by omega
      by_cases hx : 0 ≤ x
      · have e : m.sign = 1 := Int.sign_eq_one_of_pos (by omega)
        simp [hx, hy0, s, e]
      · have e : (m - (y.natAbs : Int)).sign = -1 := Int.sign_eq_neg_one_of_neg (by omega)
        simp [hx, hy0, s, e]; omega
    · have s := Int.sign_eq_one_of_pos h
      have hy0 : 0 ≤ y := by omega
      by_cases hx : 0 ≤ x
      · have e : m.sign = 1 := Int.sign_eq_one_of_pos (by omega)
        simp [hx, hy0, s, e]
      · have e : (m - (y.natAbs : Int)).sign = -1 := Int.sign_eq_neg_one_of_neg (by omega)
        simp [hx, hy0, s, e]; omega
end Wh
