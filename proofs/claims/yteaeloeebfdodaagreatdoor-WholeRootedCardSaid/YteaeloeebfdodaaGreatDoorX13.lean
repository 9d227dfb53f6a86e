/- Part 13 of the proofs that laws of package whole answer true at every input and leave the input as it was, where the library's variables start as the text lays them (the texts D7, D8, C1, M10, D9, Q1). -/
import Derived.Test.YteaeloeebfdodaaGreatDoorX12
import Derived.Laws.IdiomCopy
import Derived.Test.YteaeloeebfdodaaGreatDoorX11
import Derived.RangeFuncFrom
import Derived.RangeFuncWrites
import Derived.RangeFuncLeaves
import Derived.RangeFuncCalls
set_option linter.unusedVariables false
set_option linter.unusedSimpArgs false
/- WALKS, division 7: divideShort in place. -/
namespace Go.Proofs.YteaeloeebfdodaaGreatDoor
open Go.RowKit
set_option maxRecDepth 100000 in
set_option maxHeartbeats 1000000 in
theorem divideShort_in (w : World) (rb cap : Nat) (l : List Nat) (b : Nat) (ho : Wh.Ok l) (hown : Own w rb l) (hcap : l.length ≤ cap) (hm : cap ≤ 100000) (hb : 0 < b ∧ b ≤ 1000000000) :
    Calls Tryz.prog 257 #[.slice (some ⟨rb, 0, none⟩) l.length cap, .slice (some ⟨rb, 0, none⟩) l.length cap, .int .u32 b] w fun e w' => e = .returned (.int .u32 (Wh.val l % b : Nat)) ∧ Only rb w w' ∧ Own w' rb (Wh.quo l b) := by
  have HO := Lib.hid ho; clear ho
  have HS : Hid (Short w w rb l l b l.length) := Lib.hid ⟨Only.refl _ _, by rw [List.take_length, List.drop_of_length_le (by rw [Wh.quo_length]; exact Nat.le_refl _), List.append_nil]; exact hown⟩
  clear hown
  have HE := Lib.hid (Wh.rst_end l b)
  generalize hn : l.length = n at *
  have HN := Lib.hid hn; clear hn
  go_enter Tryz.func257, Tryz.ntmps257
  go_wp2_with fail
  go_loopw [6, 7] (fun r i wr => ∃ j : Nat, j ≤ n ∧ i = .int .i64 ((j : Int) - 1) ∧ r = .int .u32 (Wh.rst l b j : Nat) ∧ Hid (Short w wr rb l l b j)) (fun _ i _ => (intOf i + 1).toNat)
  case atStart => exact ⟨n, Nat.le_refl _, rfl, by rw [HE.out]; rfl, HS⟩
  case round =>
    obtain ⟨j, hj, rfl, rfl, HI⟩ := hrel
    by_cases h0 : j = 0
    · subst h0
      go_wp2_with fail
      go_ret
      refine ⟨?_, HI.out.only, ?_⟩
      · rfl
      · have := HI.out.own
        simpa using this
    · obtain ⟨k, rfl⟩ : ∃ k, j = k + 1 := ⟨j - 1, by omega⟩
      have hcx : wr.cell? ⟨rb, k, none⟩ = some (.int .u32 (l.getD k 0)) := by
        rw [HI.out.own.cell k (by simp [Wh.quo_length, HN.out]; omega)]
        rw [List.getD_eq_getElem?_getD, List.getElem?_append_left (by simp [HN.out]; omega), List.getElem?_take_of_lt (by omega), List.getD_eq_getElem?_getD]
      have hrf := (HI.out.room (k := k) (by rw [HN.out]; omega) rfl).2
      have hst := Wh.rst_step l b k (by rw [HN.out]; omega)
      have hq : Wh.qdg l b k = (Wh.rst l b (k + 1) * Wh.R + l.getD k 0) / b := rfl
      have hql := Wh.qdg_lt l b k hb.1 (Wh.getD_lt HO.out k)
      have hr1 := Wh.rst_lt l b (k + 1) hb.1
      have hr2 := Wh.rst_lt l b k hb.1
      have hx := Wh.getD_lt HO.out k
      have HI2 := Lib.hid (HI.out.step (k := k) (by rw [HN.out]; omega) rfl)
      rw [Wh.R_eq] at hst hq hql hx
      generalize l.getD k 0 = x at *
      generalize Wh.rst l b (k + 1) = r1 at *
      generalize hr2e : Wh.rst l b k = r2 at *
      have HR2E := Lib.hid hr2e; clear hr2e
      generalize Wh.qdg l b k = q at *
      have e1 : ((r1 : Int) * 1000000000 + (x : Int)) / (b : Int) = (q : Int) := by rw [hq]; rfl
      have e2 : ((r1 : Int) * 1000000000 + (x : Int)) % (b : Int) = (r2 : Int) := by rw [hst]; rfl
      have hbb : 0 < (b : Int) := by omega
      have HQ := Lib.hid hq; clear hq
      have HST := Lib.hid hst; clear hst
      have hk1 : (0 : Int) ≤ (k : Int) := by omega
      have hkn : k < n := by omega
      rw [show (((k + 1 : Nat) : Int) - 1) = (k : Int) from by omega]
      go_wp2_with fail
      exact ⟨⟨k, by omega, rfl, by rw [HR2E.out], HI2⟩, by simp [intOf]⟩
end Go.Proofs.YteaeloeebfdodaaGreatDoor

/- WALKS, division 8: copied. -/
namespace Go.Proofs.YteaeloeebfdodaaGreatDoor
open Go.RowKit
theorem size_limb : (Tryz.prog.info? 181).map (·.size) = some 1 := by kernel_rfl
theorem run_copy_limbs {w : World} {b : Nat} {l0 l : List Nat} (h : Own w b l0) (hl : l0.length = l.length) {v : Value} (hs : Sl w v l) (ty : TypeId) :
    (Builtin.copy_ #[81, 81] ty #[.slice (some ⟨b, 0, none⟩) l.length l.length, v]).run Tryz.prog w = .ok (goInt l.length) (w.setCells b 0 (l.map fun x => Value.int .u32 (x : Nat))) := by
  rcases hs with ⟨rfl, rfl⟩ | ⟨b2, off, cap, rfl, hcap, hb2, hc⟩
  · exact _root_.Go.run_copy_none (P := Tryz.prog) w 81 81 ty 181 _ _ _ _ _ _ Tryz.underlying81 size_limb rfl
  · have := _root_.Go.run_copy_cells (P := Tryz.prog) w 81 81 ty 181 b 0 l.length l.length ⟨b2, off, none⟩ l.length cap (l.map fun x => Value.int .u32 (x : Nat)) Tryz.underlying81 size_limb
      (by show _ = min _ _; simp) (fun j v hv => by
        have hj : j < l.length := by
          rcases Nat.lt_or_ge j l.length with h | h
          · exact h
          · rw [List.getElem?_eq_none (by simpa using h)] at hv; cases hv
        have e : (⟨b2, off, none⟩ : Addr).add j = ⟨b2, off + j, none⟩ := by
          simp only [Addr.add]
          split
          · rename_i h0; rw [h0]; rfl
          · rfl
        rw [e, hc j hj]
        rw [List.getElem?_map, List.getElem?_eq_getElem hj] at hv
        simp [List.getD, hj]
        simpa using hv) (fun j hj => by
        rw [List.length_map] at hj
        rw [Nat.zero_add, h.cell j (by omega)]; rfl) (fun j hj => by
        rw [List.length_map] at hj
        rw [Nat.zero_add]; exact h.free j (by omega)) (fun v hv => by
        obtain ⟨x, _, rfl⟩ := List.mem_map.1 hv
        rfl)
    rw [List.length_map] at this
    exact this
theorem own_front {w : World} {b : Nat} {l0 : List Nat} (h : Own w b l0) (l : List Nat) (hl : l0.length = l.length) : Own (w.setCells b 0 (l.map fun x => Value.int .u32 (x : Nat))) b l := by
  have hin := World.cell?_setCells_in b (l.map fun x => Value.int .u32 (x : Nat)) 0 w (fun j hj => by
    rw [List.length_map] at hj
    rw [Nat.zero_add, h.cell j (by omega)]; rfl)
  refine ⟨Nat.lt_of_lt_of_le h.lt (only_setCells b _ _ _).size, fun i hi => ?_, fun i hi => ?_⟩
  · have := hin i (by simpa using hi)
    rw [Nat.zero_add] at this
    rw [this]; simp [List.getD, hi]
  · rw [World.frozen?_setCells]; exact h.free i (by omega)
set_option maxHeartbeats 400000 in
theorem copied_any (w : World) (v : Value) (l : List Nat) (h : Sl w v l) (hm : l.length ≤ 5000) :
    Calls Tryz.prog 256 #[v] w fun e w' => e = .returned (.slice (some ⟨w.heap.size, 0, none⟩) l.length l.length) ∧ Own w' w.heap.size l ∧ Below w.heap.size w w' := by
  have hB0 : Below w.heap.size w (w.alloc (.cells (zeros l.length) 181)) := (Below.refl _ _).alloc (Nat.le_refl _) _
  have hcp := fun ty => run_copy_limbs (own_make w l.length) (by simp) (h.mono hB0) ty
  have HO := Lib.hid (own_front (own_make w l.length) l (by simp))
  have HB := Lib.hid (((only_setCells w.heap.size (l.map fun x => Value.int .u32 (x : Nat)) 0 (w.alloc (.cells (zeros l.length) 181)))))
  have hmk := run_make_limbs l.length (by omega) w (l.length : Int) rfl
  obtain ⟨a, c, rfl⟩ := h.len
  clear h
  go_enter Tryz.func256, Tryz.ntmps256
  go_wp2_with fail
  go_ret
  exact ⟨rfl, HO.out, hB0.trans (HB.out.below (Nat.le_refl _) hB0.size)⟩
end Go.Proofs.YteaeloeebfdodaaGreatDoor

/- WALKS, digits in a base 1: character, together. -/
namespace Go.Proofs.YteaeloeebfdodaaGreatDoor
open Go.RowKit
def charN (d : Nat) : Nat := if d < 10 then 48 + d else 87 + d
set_option maxHeartbeats 400000 in
theorem character_any (w : World) (d : Nat) (hd : d < 36) :
    Calls Tryz.prog 201 #[.int .u32 d] w fun e w' => e = .returned (.int .u8 (charN d : Nat)) ∧ w = w' := by
  unfold charN
  by_cases h : d < 10
  · have hk : decide (d < 10) = true := by simpa using h
    rw [if_pos h]
    go_enter Tryz.func201, Tryz.ntmps201
    go_wp2
    go_ret
    exact ⟨by simp, rfl⟩
  · have hk : decide (d < 10) = false := by simpa using h
    rw [if_neg h]
    go_enter Tryz.func201, Tryz.ntmps201
    go_wp2
    go_ret
    refine ⟨?_, rfl⟩
    rw [show (((87 + d : Nat)) : Int) = 97 + (d : Int) - 10 by omega]
    rfl
def togN (b : Nat) : Nat := if b ≤ 10 then 9 else if b ≤ 13 then 8 else if b ≤ 19 then 7 else if b ≤ 31 then 6 else 5
set_option maxHeartbeats 400000 in
theorem together_any (w : World) (b : Nat) (hb : b ≤ 36) :
    Calls Tryz.prog 205 #[.int .i64 b] w fun e w' => e = .returned (.int .i64 (togN b : Nat)) ∧ w = w' := by
  unfold togN
  by_cases h1 : b ≤ 10
  · have k1 : decide (b ≤ 10) = true := by simpa using h1
    rw [if_pos h1]
    go_enter Tryz.func205, Tryz.ntmps205
    go_wp2
    go_ret
    exact ⟨rfl, rfl⟩
  · have k1 : decide (b ≤ 10) = false := by simpa using h1
    rw [if_neg h1]
    by_cases h2 : b ≤ 13
    · have k2 : decide (b ≤ 13) = true := by simpa using h2
      rw [if_pos h2]
      go_enter Tryz.func205, Tryz.ntmps205
      go_wp2
      go_ret
      exact ⟨rfl, rfl⟩
    · have k2 : decide (b ≤ 13) = false := by simpa using h2
      rw [if_neg h2]
      by_cases h3 : b ≤ 19
      · have k3 : decide (b ≤ 19) = true := by simpa using h3
        rw [if_pos h3]
        go_enter Tryz.func205, Tryz.ntmps205
        go_wp2
        go_ret
        exact ⟨rfl, rfl⟩
      · have k3 : decide (b ≤ 19) = false := by simpa using h3
        rw [if_neg h3]
        by_cases h4 : b ≤ 31
        · have k4 : decide (b ≤ 31) = true := by simpa using h4
          rw [if_pos h4]
          go_enter Tryz.func205, Tryz.ntmps205
          go_wp2
          go_ret
          exact ⟨rfl, rfl⟩
        · have k4 : decide (b ≤ 31) = false := by simpa using h4
          rw [if_neg h4]
          go_enter Tryz.func205, Tryz.ntmps205
          go_wp2
          go_ret
          exact ⟨rfl, rfl⟩
end Go.Proofs.YteaeloeebfdodaaGreatDoor

namespace Wh
/-- the digits of a number in a base, the lowest one first; of 0 none -/
def dg (b n : Nat) : List Nat := if h : n = 0 ∨ b < 2 then [] else n % b :: dg b (n / b)
termination_by n
decreasing_by exact Nat.div_lt_self (by omega) (by omega)
theorem dg_zero (b : Nat) : dg b 0 = [] := by rw [dg]; simp
theorem dg_pos {b n : Nat} (hb : 2 ≤ b) (hn : 0 < n) : dg b n = n % b :: dg b (n / b) := by rw [dg, dif_neg (by omega)]
theorem dg_lt {b : Nat} (hb : 2 ≤ b) (n : Nat) : ∀ x ∈ dg b n, x < b := by
  induction n using Nat.strongRecOn with
  | ind n ih =>
    rcases Nat.eq_zero_or_pos n with h | h
    · subst h; rw [dg_zero]; simp
    · rw [dg_pos hb h]
      intro x hx
      rcases List.mem_cons.1 hx with rfl | hx
      · exact Nat.mod_lt _ (by omega)
      · exact ih (n / b) (Nat.div_lt_self h (by omega)) x hx
/-- what is still to come: the rest q, and of the part p the digits from the i-th on, k of them -/
theorem dg_inner {b q p k : Nat} (hb : 2 ≤ b) (hv : 0 < q ∨ 0 < p) : dg b (q * b ^ (k + 1) + p) = p % b :: dg b (q * b ^ k + p / b) := by
  have e : q * b ^ (k + 1) + p = p + b * (q * b ^ k) := by rw [Nat.pow_succ]; rw [← Nat.mul_assoc, Nat.mul_comm]; omega
  have hp : 0 < q * b ^ (k + 1) + p := by
    rcases hv with h | h
    · have := Nat.mul_pos h (Nat.pow_pos (n := k + 1) (show 0 < b by omega)); omega
    · omega
  rw [dg_pos hb hp, e, Nat.add_mul_mod_self_left, Nat.add_mul_div_left _ _ (by omega), Nat.add_comm]
theorem part_lt {b p k : Nat} (h : p < b ^ (k + 1)) : p / b < b ^ k := by
  rw [Nat.pow_succ] at h
  exact Nat.div_lt_of_lt_mul (by rwa [Nat.mul_comm] at h)
/-- one step of the powers -/
theorem pow_step {r s v m t : Nat} (hv : 0 < v) (h : r * s ^ v % m = t) : (if v % 2 = 1 then r * s % m else r) * (s * s % m) ^ (v / 2) % m = t := by
  have h2 : (s * s % m) ^ (v / 2) % m = (s * s) ^ (v / 2) % m := (Nat.pow_mod (s * s) (v / 2) m).symm
  have h3 : (s * s) ^ (v / 2) = s ^ (2 * (v / 2)) := by rw [Nat.pow_mul, Nat.pow_two]
  by_cases hb : v % 2 = 1
  · rw [if_pos hb, Nat.mul_mod, Nat.mod_mod, h2, ← Nat.mul_mod, h3, Nat.mul_assoc, ← Nat.pow_succ', ← h]
    rw [show (2 * (v / 2)).succ = v by omega]
  · rw [if_neg hb, Nat.mul_mod, h2, ← Nat.mul_mod, h3, ← h]
    rw [show 2 * (v / 2) = v by omega]
theorem pow_last {r s m : Nat} (hr : r < m) : r * s ^ 0 % m = r := by rw [Nat.pow_zero, Nat.mul_one, Nat.mod_eq_of_lt hr]
end Wh

/- WALKS, digits in a base 2: digits, the function that makes the iterator. -/
namespace Go.Proofs.YteaeloeebfdodaaGreatDoor
open Go.RowKit
theorem pow_tog (b : Nat) (hb : b ≤ 36) : b ^ togN b ≤ 1000000000 := by
  have h : ∀ b : Fin 37, b.val ^ togN b.val ≤ 1000000000 := by decide
  exact h ⟨b, by omega⟩
theorem tog_le (b : Nat) : togN b ≤ 9 := by unfold togN; split <;> (try split) <;> (try split) <;> (try split) <;> omega
/-- the variables that the iterator captures, from block n on: the limbs, the count, the step, the unit -/
structure Dig (W : World) (n : Nat) (v : Value) (b u : Nat) : Prop where
  c0 : W.cell? ⟨n, 0, none⟩ = some v
  c1 : W.cell? ⟨n + 1, 0, none⟩ = some (.int .i64 (togN b : Nat))
  c2 : W.cell? ⟨n + 1 + 1, 0, none⟩ = some (.int .u32 b)
  c3 : W.cell? ⟨n + 1 + 1 + 1, 0, none⟩ = some (.int .u32 u)
  f3 : W.frozen? ⟨n + 1 + 1 + 1, 0, none⟩ = false
  size : n + 4 ≤ W.heap.size
theorem Dig.mono {W W' : World} {n : Nat} {v : Value} {b u : Nat} (h : Dig W n v b u) {B : Nat} (hb : Below B W W') (hB : n + 4 ≤ B) : Dig W' n v b u :=
  ⟨(hb.cell (p := ⟨n, 0, none⟩) (by show n < _; omega)).trans h.c0, (hb.cell (p := ⟨n + 1, 0, none⟩) (by show n + 1 < _; omega)).trans h.c1, (hb.cell (p := ⟨n + 1 + 1, 0, none⟩) (by show n + 1 + 1 < _; omega)).trans h.c2, (hb.cell (p := ⟨n + 1 + 1 + 1, 0, none⟩) (by show n + 1 + 1 + 1 < _; omega)).trans h.c3,
    (hb.frozen (p := ⟨n + 1 + 1 + 1, 0, none⟩) (by show n + 1 + 1 + 1 < _; omega)).trans h.f3, Nat.le_trans h.size hb.size⟩
theorem Dig.put {W : World} {n : Nat} {v : Value} {b u : Nat} (h : Dig W n v b u) (u' : Nat) : Dig (W.setCell ⟨n + 1 + 1 + 1, 0, none⟩ (.int .u32 u')) n v b u' := by
  refine ⟨?_, ?_, ?_, World.cell?_setCell_same _ _ _ h.c3, by rw [World.frozen?_setCell]; exact h.f3, by simpa using h.size⟩
  · rw [World.cell?_setCell_far _ _ _ _ (by show n + 1 + 1 + 1 ≠ n; omega)]; exact h.c0
  · rw [World.cell?_setCell_far _ _ _ _ (by show n + 1 + 1 + 1 ≠ n + 1; omega)]; exact h.c1
  · rw [World.cell?_setCell_far _ _ _ _ (by show n + 1 + 1 + 1 ≠ n + 1 + 1; omega)]; exact h.c2
theorem dig_new (w : World) (v : Value) (b : Nat) (t0 t1 t2 t3 : TypeId) :
    Dig ((((w.alloc (.cells #[v] t0)).alloc (.cells #[.int .i64 (togN b : Nat)] t1)).alloc (.cells #[.int .u32 b] t2)).alloc (.cells #[.int .u32 1] t3)) w.heap.size v b 1 :=
  ⟨by go_simp, by go_simp, by go_simp, by go_simp, by go_simp, by simp⟩
def iterF (n : Nat) : Value := .func (.func 255) #[] #[.pointer (some ⟨n, 0, none⟩), .pointer (some ⟨n + 1 + 1 + 1, 0, none⟩), .pointer (some ⟨n + 1, 0, none⟩), .pointer (some ⟨n + 1 + 1, 0, none⟩)]
set_option maxRecDepth 100000 in
set_option maxHeartbeats 1000000 in
theorem digits_any (w : World) (a : Option Addr) (n c : Nat) (b : Nat) (hb : 2 ≤ b ∧ b ≤ 36) :
    Calls Tryz.prog 188 #[.slice a n c, .int .i64 b] w fun e w' => e = .returned (iterF w.heap.size) ∧ Dig w' w.heap.size (.slice a n c) b (b ^ togN b) ∧ Below w.heap.size w w' := by
  have hpt := pow_tog b hb.2
  have htl := tog_le b
  have H0 := Lib.hid (dig_new w (.slice a n c) b 81 3 181 181)
  have HT := Lib.hid (together_any · b hb.2)
  have hB0 : Below w.heap.size w ((((w.alloc (.cells #[.slice a n c] 81)).alloc (.cells #[.int .i64 (togN b : Nat)] 3)).alloc (.cells #[.int .u32 b] 181)).alloc (.cells #[.int .u32 1] 181)) := ((((Below.refl _ _).alloc (Nat.le_refl _) _).alloc (by simp) _).alloc (by simp; omega) _).alloc (by simp; omega) _
  have HPT := Lib.hid hpt; clear hpt
  obtain ⟨hb1, hb2⟩ := hb
  have HT2 := HT
  clear HT
  unfold iterF
  generalize hT : togN b = T at *
  have HTT := Lib.hid hT; clear hT
  go_enter Tryz.func188, Tryz.ntmps188
  go_wp2_with fail
  refine (HT2.out _).mono ?_
  rintro e w' ⟨rfl, rfl⟩
  go_wp2_with fail
  go_loopw [13] (fun i wr => ∃ k : Nat, k ≤ T ∧ i = .int .i64 k ∧ Hid (Dig wr w.heap.size (.slice a n c) b (b ^ k)) ∧ Below w.heap.size w wr) (fun i _ => T - (intOf i).toNat)
  case atStart => exact ⟨0, Nat.zero_le _, rfl, H0, hB0⟩
  case round =>
    clear H0 hB0
    obtain ⟨k, hk, rfl, HI, hB⟩ := hrel
    by_cases hlt : k < T
    · have hle : b ^ (k + 1) ≤ 1000000000 := Nat.le_trans (Nat.pow_le_pow_right (by omega) (by omega)) HPT.out
      have HN := Lib.hid (HI.out.put (b ^ (k + 1)))
      rw [Nat.pow_succ] at hle HN
      have d2 := HI.out.c2
      have d3 := HI.out.c3
      have f3 := HI.out.f3
      have HE := Lib.hid (Nat.pow_succ b k)
      have hd : decide (k < T) = true := by simpa using hlt
      clear HI HPT
      generalize b ^ k = u at *
      have hu : (u : Int) * (b : Int) ≤ 1000000000 := by rw [← Int.natCast_mul]; omega
      have hu0 : 0 ≤ (u : Int) * (b : Int) := by rw [← Int.natCast_mul]; omega
      have hB' : Below w.heap.size w (wr.setCell ⟨w.heap.size + 1 + 1 + 1, 0, none⟩ (.int .u32 ((u * b : Nat) : Int))) := hB.setCell (by show w.heap.size ≤ w.heap.size + 1 + 1 + 1; omega) _
      rw [Int.natCast_mul] at HN hB'
      go_wp2_with fail
      go_roundw
      case rel => exact ⟨k + 1, by omega, by go_num, by rw [HE.out]; exact HN, hB'⟩
      case measure => simp [intOf]; omega
    · obtain rfl : k = T := by omega
      have hd : decide (k < k) = false := by simp
      have hmf : ∀ (fn : Fn) (first cap : Array Value) (w : World), (Instr.makeFunc fn first cap).run Tryz.prog w = .ok (.func fn first cap) w := fun _ _ _ _ => rfl
      go_wp2_with fail
      go_ret
      exact ⟨rfl, HI.out, hB⟩
end Go.Proofs.YteaeloeebfdodaaGreatDoor

/- A range over a function whose iterator writes into a block of its own between two rounds: my own law for the statement. -/
namespace Go.Proofs.Rf
open Go Go.RowKit
/-- but for the blocks of S, and new ones, w' is as w was -/
structure OnlyS (S : Nat → Prop) (w w' : World) : Prop where
  os : w'.os = w.os
  tape : w'.tape = w.tape
  output : w'.output = w.output
  size : w.heap.size ≤ w'.heap.size
  block : ∀ k, ¬ S k → k < w.heap.size → w'.heap[k]? = w.heap[k]?
theorem OnlyS.refl (S : Nat → Prop) (w : World) : OnlyS S w w := ⟨rfl, rfl, rfl, Nat.le_refl _, fun _ _ _ => rfl⟩
theorem OnlyS.trans {S : Nat → Prop} {w w' w'' : World} (h : OnlyS S w w') (k : OnlyS S w' w'') : OnlyS S w w'' :=
  ⟨k.os.trans h.os, k.tape.trans h.tape, k.output.trans h.output, Nat.le_trans h.size k.size, fun i h1 h2 => (k.block i h1 (Nat.lt_of_lt_of_le h2 h.size)).trans (h.block i h1 h2)⟩
theorem OnlyS.mono {S T : Nat → Prop} {w w' : World} (h : OnlyS S w w') (hs : ∀ k, k < w.heap.size → S k → T k) : OnlyS T w w' :=
  ⟨h.os, h.tape, h.output, h.size, fun k h1 h2 => h.block k (fun e => h1 (hs k h2 e)) h2⟩
theorem OnlyS.setCell {S : Nat → Prop} {w w' : World} (h : OnlyS S w w') {p : Addr} (hp : S p.block) (v : Value) : OnlyS S w (w'.setCell p v) :=
  ⟨h.os, h.tape, h.output, by simpa using h.size, fun k h1 h2 => (Below.heap_setCell w' p v k (fun e => h1 (by rw [e]; exact hp))).trans (h.block k h1 h2)⟩
theorem OnlyS.of_below {S : Nat → Prop} {w w' : World} (h : Below w.heap.size w w') : OnlyS S w w' := ⟨h.os, h.tape, h.output, h.size, fun k _ h2 => h.block k h2⟩
theorem OnlyS.below {S : Nat → Prop} {B : Nat} {w w' : World} (h : OnlyS S w w') (hB : ∀ k, S k → B ≤ k) (hw : B ≤ w.heap.size) : Below B w w' := ⟨h.os, h.tape, h.output, h.size, fun k hk => h.block k (fun e => by have := hB k e; omega) (by omega)⟩
theorem OnlyS.cell {S : Nat → Prop} {w w' : World} (h : OnlyS S w w') {p : Addr} (h1 : ¬ S p.block) (h2 : p.block < w.heap.size) : w'.cell? p = w.cell? p := World.cell?_of_block (w := w) (h.block p.block h1 h2)
theorem OnlyS.frozen {S : Nat → Prop} {w w' : World} (h : OnlyS S w w') {p : Addr} (h1 : ¬ S p.block) (h2 : p.block < w.heap.size) : w'.frozen? p = w.frozen? p := World.frozen?_of_block (w := w) (h.block p.block h1 h2)
theorem OnlyS.putObj {S : Nat → Prop} {w w' : World} (h : OnlyS S w w') {b : Nat} (hb : S b) (o : Obj) (hlt : b < w'.heap.size) : OnlyS S w (w'.putObj b o) :=
  ⟨h.os, h.tape, h.output, by simpa [World.putObj] using h.size, fun k h1 h2 => (World.putObj_heap_other (fun e => h1 (by rw [e]; exact hb))).trans (h.block k h1 h2)⟩
/-- the loop's own three blocks: the deferred calls, the record, and the block that the iterator makes -/
def Mine (n : Nat) : Nat → Prop := fun k => n ≤ k ∧ k ≤ n + 2
variable {F : Fence} {n : Nat} {P : Program}
/-- what a round owes -/
def roundOwes {α : Type} (B : Nat) (K : Nat → Prop) (I : List α → World → Prop) (xs : List α) (W : World) : Exit → Act → World → Prop
  | .normal, _, W' => (∀ k, K k ∨ (B ≤ k ∧ k ≤ B + 1) → k < W.heap.size → W'.heap[k]? = W.heap[k]?) ∧ W.heap.size ≤ W'.heap.size ∧ I xs W'
  | _, _, _ => False
theorem rangeFunc_mine {α : Type} {g : Operand} {ps : Array Tmp} {assign body : Code} {Q : Exit → Act → World → Prop} {a : Act} {w : World}
    (hro : F.round = none) (h1 : 1 ≤ n) {gf : Nat} {lb : Array Value} (hg : a.eval g = .func (.func gf) #[] lb) (hFg : F.fn gf) (eg : ∀ args w, (callFunc gf args).run P w = .ok (.enter gf args) w)
    {encs : α → Array Value} (xs : List α) (K : Nat → Prop) (hK : ∀ k, K k → k < w.heap.size ∨ k = w.heap.size + 2)
    (hseq : ∀ (l : Nat) (J : List α → World → Prop) (W : World), Below w.heap.size w W → W.heap.size = w.heap.size + 2 → (∀ s A B, J s A → OnlyS (fun k => k = w.heap.size + 2) A B → J s B) →
      (∀ pre x W1, J pre W1 → w.heap.size + 2 < W1.heap.size → pre ++ [x] <+: xs → YieldAt F (n - 1 - 1) P l (encs x) W1 fun e W' => e = .returned (.bool true) ∧ J (pre ++ [x]) W' ∧ (∀ k, K k → k < W1.heap.size → W'.heap[k]? = W1.heap[k]?) ∧ W1.heap.size ≤ W'.heap.size) →
      J [] W → CallsIn F (n - 1) P gf (#[.func (.yield l) #[] #[]] ++ lb) W fun e W' => (∃ v, e = .returned v) ∧ J xs W')
    (hps : ∀ x, (encs x).size = ps.size)
    (I : List α → World → Prop) (hI : ∀ s A B, I s A → OnlyS (Mine w.heap.size) A B → I s B) (h0 : I [] w) (a₁ : α → Act)
    (hassign : ∀ (l : Nat) (x : α) (W : World) (C : Act → World → Prop), C (a₁ x) W →
      assign.wpIn (F.inRound l) (n - 1 - 1) P (Exit.then C (fun _ _ _ => False)) { tmps := (ps.zip (encs x)).foldl (fun t (p, v) => t.setIfInBounds p v) a.tmps, defers := [] } W)
    (hbody : ∀ (l : Nat) (pre : List α) (x : α) (W : World), I pre W → w.heap.size + 2 < W.heap.size → pre ++ [x] <+: xs → body.wpIn (F.inRound l) (n - 1 - 1) P (roundOwes w.heap.size K I (pre ++ [x]) W) (a₁ x) W)
    (hdone : ∀ (D : Nat) (W : World), D = w.heap.size → I xs W → W.heap[D]? = some (.deferred (some [])) → Q .normal { a with defers := { target := .collected D, args := #[] } :: a.defers } W) :
    (Code.rangeFunc g ps assign body).wpIn F n P Q a w := by
  refine wpIn_rangeFunc ?_
  intro fn hfn
  rw [hro]
  obtain ⟨rec, hrec⟩ : ∃ rec : LoopState → Option Code → Loop, rec = fun st pe => { state := st, pending := pe, fn, tmps := a.tmps, params := ps, assign, body, defers := w.heap.size } := ⟨_, rfl⟩
  obtain ⟨W1, hW1⟩ : ∃ W1, (w.alloc (.deferred (some []))).alloc (.loop (rec .ready none)) = W1 := ⟨_, rfl⟩
  have hB1 : Below w.heap.size w W1 := by rw [← hW1]; exact ((Below.refl _ w).alloc (Nat.le_refl _) _).alloc (by simp) _
  have hs1 : W1.heap.size = w.heap.size + 2 := by rw [← hW1]; simp
  have hL1 : W1.heap[w.heap.size + 1]? = some (.loop (rec .ready none)) := by
    rw [← hW1]; have := World.alloc_heap_new (w.alloc (.deferred (some []))) (.loop (rec .ready none)); rwa [World.size_alloc] at this
  have hD1 : W1.heap[w.heap.size]? = some (.deferred (some [])) := by
    rw [← hW1]; exact (Below.heap_alloc _ _ _ (by simp)).trans (World.alloc_heap_new w _)
  have hI1 : I [] W1 := hI _ _ _ h0 (OnlyS.of_below hB1)
  have keep : ∀ (s : List α) (A : World) (o : Obj), I s A → w.heap.size + 1 < A.heap.size → I s (A.putObj (w.heap.size + 1) o) := fun s A o h hl => hI s A _ h ((OnlyS.refl _ A).putObj ⟨by omega, by omega⟩ o hl)
  refine ⟨w.heap.size + 1, [{ target := .collected w.heap.size, args := #[] }], W1, { target := .fn (.func gf) lb, args := #[.func (.yield (w.heap.size + 1)) #[] #[]] }, W1, gf,
    #[.func (.yield (w.heap.size + 1)) #[] #[]] ++ lb, W1, ?_, ?_, ?_, ?_, fun _ => h1, ?_⟩
  · rw [← hW1, hrec]; exact run_enterLoop_outer _ _ _ _ _
  · simp only [resolve, hg]
    simp [go_sem]
  · intro f' hf'; simp [Target.leads] at hf'; subst hf'; exact hFg
  · simp [invoke, go_sem, eg]
  · refine (hseq (w.heap.size + 1)
      (fun pre W => I pre W ∧ W.heap[w.heap.size + 1]? = some (.loop (rec .ready none)) ∧ W.heap[w.heap.size]? = some (.deferred (some []))) W1 hB1 hs1 ?_ ?_ ⟨hI1, hL1, hD1⟩).mono ?_
    · rintro s A B ⟨hi, hl, hd⟩ ho
      have l1 := (Array.getElem?_eq_some_iff.1 hl).1
      refine ⟨hI s A B hi (ho.mono fun k _ e => ⟨by omega, by omega⟩), (ho.block _ (by omega) l1).trans hl, (ho.block _ (by omega) (by omega)).trans hd⟩
    · rintro pre x W ⟨hi, hl, hd⟩ hbig hlen
      have hlt : w.heap.size + 1 < W.heap.size := (Array.getElem?_eq_some_iff.1 hl).1
      have hy := run_yield (P := P) (args := encs x) hl (by rw [hrec]; exact hps x)
      rw [hrec] at hy
      refine ⟨fn, _, assign, body, hy, roundIn_of_wpIn hfn (hassign _ x W _ ⟨_, run_beginRound hl (by rw [hrec]), ?_⟩)⟩
      have hl2 : (W.putObj (w.heap.size + 1) (.loop { rec .ready none with state := .busy })).heap[w.heap.size + 1]? = some (.loop { rec .ready none with state := .busy }) := World.putObj_heap_same hlt
      have hd2 : (W.putObj (w.heap.size + 1) (.loop { rec .ready none with state := .busy })).heap[w.heap.size]? = some (.deferred (some [])) := (World.putObj_heap_other (by omega)).trans hd
      have hsz : (W.putObj (w.heap.size + 1) (.loop { rec .ready none with state := .busy })).heap.size = W.heap.size := by simp [World.putObj]
      refine wpIn_mono (hbody _ pre x _ (keep pre W _ hi hlt) (by rw [hsz]; exact hbig) hlen) ?_
      rintro e a3 W3 hp
      cases e with
      | normal =>
        obtain ⟨hk3, hz3, hi3⟩ := hp
        have hl3 := (hk3 (w.heap.size + 1) (.inr ⟨by omega, by omega⟩) (by rw [hsz]; exact hlt)).trans hl2
        have hd3 := (hk3 w.heap.size (.inr ⟨by omega, by omega⟩) (by rw [hsz]; omega)).trans hd2
        have hl3' := (Array.getElem?_eq_some_iff.1 hl3).1
        have hr := run_endRound (P := P) none hl3
        refine ⟨_, _, hr, rfl, ⟨keep _ _ _ hi3 hl3', ?_, (World.putObj_heap_other (by omega)).trans hd3⟩, ?_, ?_⟩
        · rw [World.putObj_heap_same hl3']; simp [hrec]
        · intro k hk hkl
          have hne : k ≠ w.heap.size + 1 := by rcases hK k hk with h | h <;> omega
          rw [World.putObj_heap_other hne, hk3 k (.inl hk) (by rw [hsz]; exact hkl), World.putObj_heap_other hne]
        · simp only [World.putObj, Array.size_setIfInBounds] at hz3 ⊢; exact hz3
      | ret => exact hp.elim
      | exit id => exact hp.elim
      | goto t => exact hp.elim
      | panic ch => exact hp.elim
      | outgrown => exact hp.elim
    · rintro e W2 ⟨⟨v, rfl⟩, hi, hl, hd⟩
      have hlt := (Array.getElem?_eq_some_iff.1 hl).1
      exact ⟨none, _, by have := run_endLoop (P := P) hl (by rw [hrec]; simp); rw [hrec] at this; exact this, hdone _ _ rfl (keep _ _ _ hi hlt) ((World.putObj_heap_other (by omega)).trans hd)⟩
#print axioms rangeFunc_mine
end Go.Proofs.Rf
