/- Part 11 of the proofs that laws of package whole answer true at every input and leave the input as it was, where the library's variables start as the text lays them (the texts R4, R5, E1, M9, D1, D2, M11). -/
import Derived.Test.YteaeloeebfdodaaGreatDoorX10
import Derived.OwnWalk
import Derived.Test.YteaeloeebfdodaaGreatDoorX08
set_option linter.unusedVariables false
set_option linter.unusedSimpArgs false
/- WALKS, the rod 4: Whole. -/
namespace Go.Proofs.YteaeloeebfdodaaGreatDoor
open Go.RowKit
def WTxt (i : Nat) (l : List UInt8) : Prop := (i = 0 ∧ l = []) ∨ (0 < i ∧ ∃ m, 0 < m ∧ m < 10 ^ i ∧ l = Wh.decN m)
theorem WTxt.first (d : Nat) (h : 1 ≤ d ∧ d ≤ 9) (ch : UInt8) (hch : ch = UInt8.ofNat (48 + d)) : WTxt 1 [ch] := .inr ⟨by omega, d, by omega, by omega, by
  rw [Wh.decN, dif_pos (by omega), hch]⟩
theorem WTxt.next (i : Nat) (l : List UInt8) (h : WTxt i l) (hi : 0 < i) (d : Nat) (hd : d < 10) (ch : UInt8) (hch : ch = UInt8.ofNat (48 + d)) : WTxt (i + 1) (l ++ [ch]) := by
  obtain ⟨h0, _⟩ | ⟨_, m, hm, hlt, rfl⟩ := h
  · omega
  · refine .inr ⟨by omega, 10 * m + d, by omega, by rw [Nat.pow_succ]; omega, ?_⟩
    rw [Wh.decN.eq_1 (10 * m + d), dif_neg (by omega), show (10 * m + d) / 10 = m by omega, show (10 * m + d) % 10 = d by omega, hch]
def RAt (w wr : World) (rb : Nat) (a : Option Addr) (n c k i : Nat) : Prop := Only rb w wr ∧ ∃ k', k' ≤ k + 3 * i ∧ IsRod wr rb a n c k'
theorem natAbs_lt (m j M : Nat) (h : m < 10 ^ j) (hj : j ≤ M) (hM : M ≤ 30) : (m : Int).natAbs < 10 ^ 30 := by
  rw [Int.natAbs_natCast]
  exact Nat.lt_of_lt_of_le h (Nat.pow_le_pow_right (by decide) (by omega))
theorem str_app (a b : List UInt8) : str a ++ str b = str (a ++ b) := eq_str (by simp [str])
theorem txt_zero : txt 0 = .string ⟨#[48]⟩ := by
  unfold txt Wh.decI
  rw [if_neg (by decide), Wh.decN, dif_pos (by decide)]
  rfl
theorem txt_pos (m : Nat) : txt (m : Int) = .string (str (Wh.decN m)) := by
  unfold txt Wh.decI
  rw [if_neg (by omega), Int.natAbs_natCast]
theorem txt_neg (m : Nat) (hm : 0 < m) : txt (-(m : Int)) = .string (⟨#[45]⟩ ++ str (Wh.decN m)) := by
  unfold txt Wh.decI
  rw [if_pos (by omega), Int.natAbs_neg, Int.natAbs_natCast, show (⟨#[45]⟩ : ByteArray) = str [45] from rfl, str_app]
  rfl
theorem three_cells (w2 : World) (q : Int) (t : TypeId) (hq : 0 ≤ q ∧ q ≤ 9) : ∀ i, i < 3 → ∃ z, (w2.alloc (Obj.cells #[Value.int IntKind.i64 0, Value.int IntKind.i64 9, Value.int IntKind.i64 q] t)).cell? ⟨w2.heap.size, i, none⟩ = some (.int .i64 z) ∧ 0 ≤ z ∧ z ≤ 9 := by
  intro i hi
  obtain rfl | rfl | rfl : i = 0 ∨ i = 1 ∨ i = 2 := by omega
  · exact ⟨0, by go_simp, by omega⟩
  · exact ⟨9, by go_simp, by omega⟩
  · exact ⟨q, by go_simp, hq⟩
set_option maxRecDepth 100000 in
set_option maxHeartbeats 4000000 in
theorem Whole_any (w : World) (rb : Nat) (a : Option Addr) (n c k D : Nat) (h : IsRod w rb a n c k) (hk : k ≤ 1000) (hD : D ≤ 30) :
    Calls Tryz.prog 23 #[.pointer (some ⟨rb, 0, none⟩), .int .i64 (D : Int)] w fun e w' => (∃ x : Int, e = .returned (txt x) ∧ x.natAbs < 10 ^ 30) ∧ RAt w w' rb a n c k 40 := by
  have HH := Lib.hid h; clear h
  go_enter Tryz.func23, Tryz.ntmps23
  go_wp2_with fail
  refine (Up_any _ _ _ _ _ _ _ HH.out (by omega) (by omega)).mono ?_
  rintro e w1 ⟨⟨m, rfl, hm⟩, hR, hO⟩
  obtain ⟨M, hM, rfl⟩ : ∃ M : Nat, M ≤ 30 ∧ m = (M : Int) := ⟨m.toNat, by unfold UpTo at hm; omega, by unfold UpTo at hm; omega⟩
  clear hm
  have HR := Lib.hid hR; clear hR
  have HO := Lib.hid hO; clear hO
  go_wp2_with fail
  go_loopw [6, 7] (fun s i wr => ∃ j : Nat, ∃ l : List UInt8, j ≤ M ∧ i = .int .i64 j ∧ s = .string (str l) ∧ Hid (l.length = j) ∧ Hid (WTxt j l ∧ RAt w1 wr rb a n c (k + 1) j)) (fun _ i _ => M - (intOf i).toNat)
  case atStart => exact ⟨0, [], Nat.zero_le _, rfl, rfl, Lib.hid rfl, Lib.hid ⟨.inl ⟨rfl, rfl⟩, Only.refl _ _, k + 1, by omega, HR.out⟩⟩
  case round =>
    obtain ⟨j, l, hj, rfl, rfl, HLEN, HI⟩ := hrel
    by_cases hlt : j < M
    · have hjd : decide (j < M) = true := by simpa using hlt
      obtain ⟨hW, hO1, k1, hk1, hR1⟩ := HI.out
      clear HI
      have HW := Lib.hid hW; clear hW
      have HR1 := Lib.hid hR1; clear hR1
      have HO1 := Lib.hid hO1; clear hO1
      go_wp2_with fail
      refine (Up_any _ _ _ _ _ _ _ HR1.out (by omega) (by omega)).mono ?_
      rintro e w2 ⟨⟨q, rfl, hq⟩, hR2, hO2⟩
      have hq9 : 0 ≤ q ∧ q ≤ 9 := by unfold UpTo at hq; omega
      have HR2 := Lib.hid hR2; clear hR2
      have HO2 := Lib.hid (HO1.out.trans hO2); clear hO2 HO1
      clear hq
      go_wp2_with fail
      have hb3 : Below w2.heap.size w2 (w2.alloc (Obj.cells #[Value.int IntKind.i64 0, Value.int IntKind.i64 9, Value.int IntKind.i64 q] 3)) := (Below.refl _ _).alloc (Nat.le_refl _) _
      refine (Pick_any _ rb a n c (k1 + 1) w2.heap.size 3 (HR2.out.mono hb3) (by omega) (by omega) (fun z => 0 ≤ z ∧ z ≤ 9) ⟨by have := HR2.out.lt; omega, by simp⟩ (three_cells w2 q 3 hq9)).mono ?_
      rintro e w3 ⟨⟨d, rfl, hd⟩, hR3, hO3⟩
      have HR3 := Lib.hid hR3; clear hR3
      have HO3 := Lib.hid ((HO2.out.trans (Only.of_below hb3)).trans hO3); clear hO3 HO2 hb3 HR2 HR1
      have HH3 : Hid (0 ≤ d ∧ d ≤ 9) := Lib.hid hd
      clear hd
      by_cases hj0 : j = 0
      · have hz : ((j : Int) == 0) = true := by simp [hj0]
        have hl : l = [] := by
          obtain ⟨_, h⟩ | ⟨h, _⟩ := HW.out
          · exact h
          · omega
        have HL := Lib.hid hl; clear hl HH3
        go_wp2_with fail
        refine (From_any _ rb a n c (k1 + 1 + 1) 1 9 HR3.out (by omega) (by omega)).mono ?_
        rintro e w4 ⟨⟨d1, rfl, hd1⟩, hR4, hO4⟩
        have HR4 := Lib.hid hR4; clear hR4
        have HO4 := Lib.hid (HO3.out.trans hO4); clear hO4 HO3 HR3
        obtain ⟨D1, hD1, rfl⟩ : ∃ D1 : Nat, (1 ≤ D1 ∧ D1 ≤ 9) ∧ d1 = (D1 : Int) := ⟨d1.toNat, by omega, by omega⟩
        clear hd1
        obtain ⟨ch, hch⟩ : ∃ ch : UInt8, ch = UInt8.ofNat (48 + D1) := ⟨_, rfl⟩
        have HT := Lib.hid (WTxt.first D1 hD1 ch hch)
        have HC := Lib.hid hch; clear hch
        have hsz : ¬ (9223372036854775807 < (str l).size + (str [ch]).size) := by rw [str_size, str_size, HLEN.out]; simp; omega
        go_wp2_with fail
        refine (Digit_any _ D1 (by omega) ch HC.out).mono ?_
        rintro e w5 ⟨rfl, hb5⟩
        have HB5 := Lib.hid hb5; clear hb5
        go_wp2_with fail
        refine ⟨⟨1, [ch], by omega, rfl, ?_, Lib.hid rfl, Lib.hid ⟨HT.out, HO4.out.trans (Only.of_below HB5.out), _, ?_, HR4.out.mono HB5.out⟩⟩, ?_⟩
        · rw [str_app, HL.out]; rfl
        · omega
        · simp [intOf]; omega
      · have hz : ((j : Int) == 0) = false := by simp; omega
        obtain ⟨D1, hD1, rfl⟩ : ∃ D1 : Nat, D1 ≤ 9 ∧ d = (D1 : Int) := ⟨d.toNat, by have := HH3.out; omega, by have := HH3.out; omega⟩
        clear HH3
        obtain ⟨ch, hch⟩ : ∃ ch : UInt8, ch = UInt8.ofNat (48 + D1) := ⟨_, rfl⟩
        have HT := Lib.hid (WTxt.next j l HW.out (by omega) D1 (by omega) ch hch)
        have HC := Lib.hid hch; clear hch
        have hsz : ¬ (9223372036854775807 < (str l).size + (str [ch]).size) := by rw [str_size, str_size, HLEN.out]; simp; omega
        go_wp2_with fail
        refine (Digit_any _ D1 (by omega) ch HC.out).mono ?_
        rintro e w5 ⟨rfl, hb5⟩
        have HB5 := Lib.hid hb5; clear hb5
        go_wp2_with fail
        refine ⟨⟨j + 1, l ++ [ch], by omega, by simp, by rw [str_app], Lib.hid (by rw [List.length_append, HLEN.out]; rfl), Lib.hid ⟨HT.out, HO3.out.trans (Only.of_below HB5.out), _, ?_, HR3.out.mono HB5.out⟩⟩, ?_⟩
        · omega
        · simp [intOf]; omega
    · have hjd : decide (j < M) = false := by simpa using hlt
      by_cases hj0 : j = 0
      · have hl : l = [] := by
          obtain ⟨_, h⟩ | ⟨h, _⟩ := HI.out.1
          · exact h
          · omega
        have hem : (str l).toList.isEmpty = true := by rw [Lib.toList_data, str_data, hl]; rfl
        clear hl
        go_wp2_with fail
        go_ret
        obtain ⟨_, hO1, k1, hk1, hR1⟩ := HI.out
        exact ⟨⟨0, by rw [txt_zero]; rfl, by decide⟩, HO.out.trans hO1, k1, by omega, hR1⟩
      · obtain ⟨h0, _⟩ | ⟨_, m, hm, hlt', hl⟩ := HI.out.1
        · omega
        have hem : (str l).toList.isEmpty = false := by
          rw [Lib.toList_data, str_data, hl]
          have := Wh.decN_ne m
          cases h : Wh.decN m
          · exact absurd h this
          · rfl
        have HL := Lib.hid hl; clear hl
        have HM := Lib.hid hlt'; clear hlt'
        obtain ⟨_, hO1, k1, hk1, hR1⟩ := HI.out
        have HO1 := Lib.hid (HO.out.trans hO1); clear hO1
        clear HI
        go_wp2_with fail
        refine (Once_any _ rb a n c k1 3 hR1 (by omega) (by omega)).mono ?_
        rintro e w2 ⟨⟨b, rfl⟩, hR2, hO2⟩
        have HR2 := Lib.hid hR2; clear hR2
        have HO2 := Lib.hid (HO1.out.trans hO2); clear hO2 HO1
        cases b
        · go_wp2_with fail
          go_ret
          exact ⟨⟨m, by rw [txt_pos, ← HL.out]; rfl, natAbs_lt m j M HM.out hj hM⟩, HO2.out, k1 + 1, by omega, HR2.out⟩
        · have hsz : ¬ (9223372036854775807 < 1 + (str l).size) := by rw [str_size, HLEN.out]; omega
          go_wp2_with fail
          go_ret
          exact ⟨⟨-(m : Int), by rw [txt_neg m hm, ← HL.out]; rfl, by rw [Int.natAbs_neg]; exact natAbs_lt m j M HM.out hj hM⟩, HO2.out, k1 + 1, by omega, HR2.out⟩
end Go.Proofs.YteaeloeebfdodaaGreatDoor

/- WALKS, the rod 5: NewRod, three. -/
namespace Go.Proofs.YteaeloeebfdodaaGreatDoor
open Go.RowKit
/-- a slice of numbers, as an argument of a law -/
def Nums (w : World) (a : Option Addr) (n : Nat) : Prop := ∀ i, i < n → ∃ b off, a = some ⟨b, off, none⟩ ∧ b < w.heap.size ∧ ∀ i, i < n → ∃ z : Int, w.cell? ⟨b, off + i, none⟩ = some (.int .i64 z)
theorem rod_new (w : World) (a : Option Addr) (n c : Nat) (z : Int) (t : TypeId) (h : Nums w a n) : IsRod (w.alloc (Obj.cells #[.slice a n c, .int .i64 0, .int .u64 z] t)) w.heap.size a n c 0 := by
  have hb : Below w.heap.size w (w.alloc (Obj.cells #[.slice a n c, .int .i64 0, .int .u64 z] t)) := (Below.refl _ _).alloc (Nat.le_refl _) _
  refine ⟨by simp, by go_simp, by go_simp, ⟨z, by go_simp⟩, by go_simp, by go_simp, fun i hi => ?_⟩
  obtain ⟨b, off, e, hlt, hc⟩ := h i hi
  refine ⟨b, off, e, Nat.lt_of_lt_of_le hlt hb.size, by omega, fun j hj => ?_⟩
  obtain ⟨v, hv⟩ := hc j hj
  exact ⟨v, (hb.cell (p := ⟨b, off + j, none⟩) hlt).trans hv⟩
set_option maxRecDepth 100000 in
set_option maxHeartbeats 1000000 in
theorem NewRod_any (w : World) (a : Option Addr) (n c : Nat) (h : Nums w a n) :
    Calls Tryz.prog 22 #[.slice a n c] w fun e w' => e = .returned (.pointer (some ⟨w.heap.size, 0, none⟩)) ∧ IsRod w' w.heap.size a n c 0 ∧ Below w.heap.size w w' := by
  have hR := rod_new w a n c 7640891576956012809 103 h
  have HR := Lib.hid hR; clear hR
  go_enter Tryz.func22, Tryz.ntmps22
  go_wp2
  go_ret
  exact ⟨rfl, HR.out, (Below.refl _ _).alloc (Nat.le_refl _) _⟩
end Go.Proofs.YteaeloeebfdodaaGreatDoor

/- WALKS, small functions of the laws: EqTexts. -/
namespace Go.Proofs.YteaeloeebfdodaaGreatDoor
open Go.RowKit
set_option maxRecDepth 100000 in
set_option maxHeartbeats 1000000 in
theorem EqTexts_same (w : World) (b1 o1 b2 o2 n c1 c2 : Nat) (S : Nat → ByteArray) (h1 : ∀ i, i < n → w.cell? ⟨b1, o1 + i, none⟩ = some (.string (S i))) (h2 : ∀ i, i < n → w.cell? ⟨b2, o2 + i, none⟩ = some (.string (S i))) (hn : n ≤ 1000000) :
    Calls Tryz.prog 72 #[.slice (some ⟨b1, o1, none⟩) n c1, .slice (some ⟨b2, o2, none⟩) n c2] w fun e w' => e = .returned (.bool true) ∧ Below w.heap.size w w' := by
  have H1 := Lib.hid h1; clear h1
  have H2 := Lib.hid h2; clear h2
  go_enter Tryz.func72, Tryz.ntmps72
  go_wp2_with fail
  go_loopw [5] (fun i wr => ∃ k m : Nat, k ≤ n ∧ i = .int .i64 k ∧ wr = w.drewN m) (fun i _ => n - (intOf i).toNat)
  case atStart => exact ⟨0, 0, Nat.zero_le _, rfl, (World.drewN_zero _).symm⟩
  case round =>
    obtain ⟨k, m, hk, rfl, rfl⟩ := hrel
    by_cases hlt : k < n
    · have hd : decide (k < n) = true := by simpa using hlt
      have g1 := H1.out k hlt
      have g2 := H2.out k hlt
      go_wp2_with fail
      go_quiet (fail)
      go_wp2_with fail
      refine ⟨⟨k + 1, m + nq, by omega, by simp, rfl⟩, ?_⟩
      simp [intOf]; omega
    · have hd : decide (k < n) = false := by simpa using hlt
      go_wp2_with fail
      go_ret
      exact ⟨rfl, below_drewN _ _ _⟩
end Go.Proofs.YteaeloeebfdodaaGreatDoor

/- MATH 9: a division by one limb. -/
namespace Wh
def rst (l : List Nat) (b i : Nat) : Nat := val (l.drop i) % b
def qdg (l : List Nat) (b i : Nat) : Nat := (rst l b (i + 1) * R + l.getD i 0) / b
def quo (l : List Nat) (b : Nat) : List Nat := (List.range l.length).map (qdg l b)
theorem quo_length (l : List Nat) (b : Nat) : (quo l b).length = l.length := by simp [quo]
theorem quo_getD (l : List Nat) (b i : Nat) (h : i < l.length) : (quo l b).getD i 0 = qdg l b i := by simp [quo, List.getD, h]
theorem rst_end (l : List Nat) (b : Nat) : rst l b l.length = 0 := by simp [rst, val]
theorem rst_lt (l : List Nat) (b i : Nat) (hb : 0 < b) : rst l b i < b := Nat.mod_lt _ hb
theorem rst_step (l : List Nat) (b i : Nat) (h : i < l.length) : rst l b i = (rst l b (i + 1) * R + l.getD i 0) % b := by
  unfold rst
  rw [List.drop_eq_getElem_cons h, val]
  rw [show l.getD i 0 = l[i] from by simp [List.getD, h]]
  generalize val (l.drop (i + 1)) = v
  generalize l[i] = x
  rw [Nat.add_comm, Nat.add_mod, Nat.mul_comm R v, Nat.mul_mod v R b]
  conv => rhs; rw [Nat.add_mod, Nat.mul_mod, Nat.mod_mod]
theorem qdg_lt (l : List Nat) (b i : Nat) (hb : 0 < b) (ho : l.getD i 0 < R) : qdg l b i < R := by
  unfold qdg
  have h := rst_lt l b (i + 1) hb
  rw [Nat.div_lt_iff_lt_mul hb]
  have : rst l b (i + 1) * R ≤ (b - 1) * R := Nat.mul_le_mul_right _ (by omega)
  have e : R * b = (b - 1) * R + R := by
    obtain ⟨c, rfl⟩ : ∃ c, b = c + 1 := ⟨b - 1, by omega⟩
    rw [Nat.add_sub_cancel, Nat.mul_comm, Nat.add_mul, Nat.one_mul]
  omega
theorem quo_cons (x : Nat) (l : List Nat) (b : Nat) : quo (x :: l) b = qdg (x :: l) b 0 :: quo l b := by
  unfold quo
  rw [List.length_cons, List.range_succ_eq_map, List.map_cons, List.map_map]
  rfl
theorem val_quo (l : List Nat) (b : Nat) (hb : 0 < b) : val (quo l b) = val l / b := by
  induction l with
  | nil => simp [quo, val]
  | cons x l ih =>
    rw [quo_cons, val, ih, val]
    unfold qdg rst
    rw [show (x :: l).drop (0 + 1) = l from rfl, show (x :: l).getD 0 0 = x from rfl]
    generalize val l = v
    have hv := Nat.div_add_mod v b
    generalize hq : v / b = q at *
    generalize hr : v % b = r at *
    rw [← hv, Nat.mul_add, show x + (R * (b * q) + R * r) = (r * R + x) + b * (R * q) from by rw [Nat.mul_left_comm, Nat.mul_comm R r]; omega, Nat.add_mul_div_left _ _ hb]
theorem quo_ok (l : List Nat) (b : Nat) (hb : 0 < b) (ho : Ok l) : Ok (quo l b) := by
  intro x hx
  obtain ⟨i, hi, rfl⟩ := List.mem_map.1 hx
  exact qdg_lt l b i hb (getD_lt ho i)
end Wh

/- WALKS, division 1: divideShort into memory of its own. -/
namespace Go.Proofs.YteaeloeebfdodaaGreatDoor
open Go.RowKit
structure Short (w wr : World) (rb : Nat) (l lr : List Nat) (b j : Nat) : Prop where
  only : Only rb w wr
  own : Own wr rb (lr.take j ++ (Wh.quo l b).drop j)
theorem take_drop_set (lr q : List Nat) (k : Nat) (h1 : k < lr.length) (h2 : lr.length = q.length) : (lr.take (k + 1) ++ q.drop (k + 1)).set k (q.getD k 0) = lr.take k ++ q.drop k := by
  apply List.ext_getElem
  · simp; omega
  · intro i h3 h4
    simp only [List.length_set, List.length_append, List.length_take, List.length_drop] at h3 h4
    rw [List.getElem_set]
    by_cases hk : k = i
    · subst hk
      rw [if_pos rfl, List.getElem_append_right (by simp; omega)]
      simp [List.getD, show k < q.length by omega, Nat.min_eq_left (Nat.le_of_lt h1)]
    · rw [if_neg hk]
      by_cases hi : i < k
      · rw [List.getElem_append_left (by simp; omega), List.getElem_append_left (by simp; omega)]
        simp
      · rw [List.getElem_append_right (by simp; omega), List.getElem_append_right (by simp; omega)]
        simp only [List.getElem_drop, List.length_take]
        congr 1
        omega
theorem Short.step {w wr : World} {rb : Nat} {l lr : List Nat} {b k : Nat} (h : Short w wr rb l lr b (k + 1)) (hk : k < l.length) (hl : lr.length = l.length) : Short w (wr.setCell ⟨rb, k, none⟩ (.int .u32 (Wh.qdg l b k : Nat))) rb l lr b k := by
  refine ⟨h.only.setCell k _, ?_⟩
  have := h.own.set (i := k) (by simp [Wh.quo_length]; omega) (Wh.qdg l b k)
  rw [← Wh.quo_getD l b k hk, take_drop_set _ _ _ (by omega) (by rw [Wh.quo_length]; exact hl)] at this
  rw [← Wh.quo_getD l b k hk]
  exact this
theorem Short.room {w wr : World} {rb : Nat} {l lr : List Nat} {b k : Nat} (h : Short w wr rb l lr b (k + 1)) (hk : k < l.length) (hl : lr.length = l.length) : (∃ z : Nat, wr.cell? ⟨rb, k, none⟩ = some (.int .u32 z)) ∧ wr.frozen? ⟨rb, k, none⟩ = false :=
  ⟨⟨_, h.own.cell k (by simp [Wh.quo_length]; omega)⟩, h.own.free k (by simp [Wh.quo_length]; omega)⟩
set_option maxRecDepth 100000 in
set_option maxHeartbeats 1000000 in
theorem divideShort_own (w : World) (rb cap : Nat) (v : Value) (l lr : List Nat) (b : Nat) (h : Sl w v l) (ha : Apart rb v) (ho : Wh.Ok l) (hown : Own w rb lr) (hl : lr.length = l.length) (hcap : l.length ≤ cap) (hm : cap ≤ 100000)
    (hb : 0 < b ∧ b ≤ 1000000000) :
    Calls Tryz.prog 257 #[.slice (some ⟨rb, 0, none⟩) l.length cap, v, .int .u32 b] w fun e w' => e = .returned (.int .u32 (Wh.val l % b : Nat)) ∧ Only rb w w' ∧ Own w' rb (Wh.quo l b) := by
  obtain ⟨a, c, rfl, hc⟩ := h.addr2 ha
  clear h ha
  have HC := Lib.hid hc; clear hc
  have HO := Lib.hid ho; clear ho
  have HS : Hid (Short w w rb l lr b l.length) := Lib.hid ⟨Only.refl _ _, by rw [← hl, List.take_length, List.drop_of_length_le (by rw [Wh.quo_length, hl]; exact Nat.le_refl _), List.append_nil]; exact hown⟩
  clear hown
  have HE := Lib.hid (Wh.rst_end l b)
  generalize hn : l.length = n at *
  have HN := Lib.hid hn; clear hn
  go_enter Tryz.func257, Tryz.ntmps257
  go_wp2_with fail
  go_loopw [6, 7] (fun r i wr => ∃ j : Nat, j ≤ n ∧ i = .int .i64 ((j : Int) - 1) ∧ r = .int .u32 (Wh.rst l b j : Nat) ∧ Hid (Short w wr rb l lr b j)) (fun _ i _ => (intOf i + 1).toNat)
  case atStart => exact ⟨n, Nat.le_refl _, rfl, by rw [HE.out]; rfl, HS⟩
  case round =>
    obtain ⟨j, hj, rfl, rfl, HI⟩ := hrel
    by_cases h0 : j = 0
    · subst h0
      go_wp2_with fail
      go_ret
      refine ⟨?_, HI.out.only, ?_⟩
      · rfl
      · have := HI.out.own
        simpa using this
    · obtain ⟨k, rfl⟩ : ∃ k, j = k + 1 := ⟨j - 1, by omega⟩
      obtain ⟨b1, off1, rfl, hne1, hbl1, hcell1⟩ := HC.out k (by omega)
      have hcx := (HI.out.only.cell (p := ⟨b1, off1 + k, none⟩) hne1 hbl1).trans (hcell1 k (by omega))
      clear hcell1
      obtain ⟨⟨z, hrm⟩, hrf⟩ := HI.out.room (k := k) (by rw [HN.out]; omega) (by rw [HN.out]; exact hl)
      have hst := Wh.rst_step l b k (by rw [HN.out]; omega)
      have hq : Wh.qdg l b k = (Wh.rst l b (k + 1) * Wh.R + l.getD k 0) / b := rfl
      have hql := Wh.qdg_lt l b k hb.1 (Wh.getD_lt HO.out k)
      have hr1 := Wh.rst_lt l b (k + 1) hb.1
      have hr2 := Wh.rst_lt l b k hb.1
      have hx := Wh.getD_lt HO.out k
      have HI2 := Lib.hid (HI.out.step (k := k) (by rw [HN.out]; omega) (by rw [HN.out]; exact hl))
      rw [Wh.R_eq] at hst hq hql hx
      generalize l.getD k 0 = x at *
      generalize Wh.rst l b (k + 1) = r1 at *
      generalize hr2e : Wh.rst l b k = r2 at *
      have HR2E := Lib.hid hr2e; clear hr2e
      generalize Wh.qdg l b k = q at *
      have e1 : ((r1 : Int) * 1000000000 + (x : Int)) / (b : Int) = (q : Int) := by rw [hq]; rfl
      have e2 : ((r1 : Int) * 1000000000 + (x : Int)) % (b : Int) = (r2 : Int) := by rw [hst]; rfl
      have hbb : 0 < (b : Int) := by omega
      have HQ := Lib.hid hq; clear hq
      have HST := Lib.hid hst; clear hst
      have hk1 : (0 : Int) ≤ (k : Int) := by omega
      have hkn : k < n := by omega
      rw [show (((k + 1 : Nat) : Int) - 1) = (k : Int) from by omega]
      go_wp2_with fail
      exact ⟨⟨k, by omega, rfl, by rw [HR2E.out], HI2⟩, by simp [intOf]⟩
end Go.Proofs.YteaeloeebfdodaaGreatDoor

/- WALKS, division 2: kindOf, divideLimbs by one limb. -/
namespace Go.Proofs.YteaeloeebfdodaaGreatDoor
open Go.RowKit
theorem kindOf_any (w : World) (a : Option Addr) (n c : Nat) :
    Calls Tryz.prog 261 #[.slice a n c] w fun e w' => e = .returned (.int .i64 (min (n : Int) 2)) ∧ w = w' := by
  go_enter Tryz.func261, Tryz.ntmps261
  go_wp2
  go_ret
  exact ⟨rfl, rfl⟩
set_option maxRecDepth 100000 in
set_option maxHeartbeats 1000000 in
theorem divideLimbs_short (w : World) (va vb : Value) (la : List Nat) (b : Nat) (ha : Sl w va la) (ho : Wh.Ok la) (hla : la.length ≤ 1000) (hvb : Sl w vb [b]) (hb : 0 < b ∧ b ≤ 1000000000) :
    Calls Tryz.prog 190 #[va, vb] w fun e w' => (∃ aq cq ar cr, e = .returned (.tuple #[.slice aq (Wh.trimL (Wh.quo la b)).length cq, .slice ar (Wh.trimL [Wh.val la % b]).length cr]) ∧ cq ≤ 100000 ∧ cr ≤ 100000 ∧ Sl w' (.slice aq (Wh.trimL (Wh.quo la b)).length cq) (Wh.trimL (Wh.quo la b)) ∧ Sl w' (.slice ar (Wh.trimL [Wh.val la % b]).length cr) (Wh.trimL [Wh.val la % b])) ∧ Below w.heap.size w w' := by
  obtain ⟨a2, c2, rfl, hc2⟩ := hvb.addr
  obtain ⟨a1, c1, rfl, hc1⟩ := ha.addr
  have HA := Lib.hid ha; clear ha
  clear hvb
  go_enter Tryz.func190, Tryz.ntmps190
  go_wp2_with fail
  refine (kindOf_any w a2 1 c2).mono ?_
  rintro e w' ⟨rfl, rfl⟩
  rw [show (min ((1 : Nat) : Int) 2) = 1 from by decide]
  have hmk := run_make_limbs la.length (by omega) w (la.length : Int) rfl
  have hB0 : Below w.heap.size w (w.alloc (.cells (zeros la.length) 181)) := (Below.refl _ _).alloc (Nat.le_refl _) _
  have hO0 := own_make w la.length
  obtain ⟨b2, off2, rfl, hlt2, hcell2⟩ := hc2 0 (by simp)
  have hcb : (w.alloc (.cells (zeros la.length) 181)).cell? ⟨b2, off2, none⟩ = some (.int .u32 b) := (hB0.cell (p := ⟨b2, off2, none⟩) hlt2).trans (hcell2 0 (by simp))
  clear hcell2 hc2 hc1
  have HB0 := Lib.hid hB0; clear hB0
  have HO0 := Lib.hid hO0; clear hO0
  have HOK := Lib.hid ho; clear ho
  go_wp2_with fail
  refine (divideShort_own _ w.heap.size la.length _ la (List.replicate la.length 0) b (HA.out.mono HB0.out) (apart_of_sl HA.out (Nat.le_refl _)) HOK.out HO0.out (by simp) (Nat.le_refl _) (by omega) hb).mono ?_
  rintro e w1 ⟨rfl, hO1, hQ⟩
  have hqs := hQ.sl la.length (by rw [Wh.quo_length]; exact Nat.le_refl _)
  rw [Wh.quo_length] at hqs
  have HQS := Lib.hid hqs; clear hqs hQ
  have hB1 : Below w.heap.size w w1 := HB0.out.trans (hO1.below (Nat.le_refl _) HB0.out.size)
  have HB1 := Lib.hid hB1; clear hB1 hO1 HB0 HO0 hmk hcb
  generalize hr : Wh.val la % b = r
  have hrb : r < 1000000000 := by have := Nat.mod_lt (Wh.val la) hb.1; omega
  go_wp2_with fail
  refine (trim_same _ _ _ _ (Wh.quo la b) (Wh.quo_ok la b hb.1 HOK.out) HQS.out (by omega)).mono ?_
  rintro e w2 ⟨rfl, hq2, rfl⟩
  have HQ2 := Lib.hid hq2; clear hq2
  go_wp2_with fail
  refine (trim_same _ _ _ _ [r] (Wh.ok_cons.2 ⟨hrb, Wh.ok_nil⟩) (sl_one w1 r _) (by omega)).mono ?_
  rintro e w3 ⟨rfl, hr3, rfl⟩
  have HR3 := Lib.hid hr3; clear hr3
  go_wp2_with fail
  go_ret2
  have hB2 : Below w1.heap.size w1 (w1.alloc (Obj.cells #[Value.int IntKind.u32 r] 181)) := (Below.refl _ _).alloc (Nat.le_refl _) _
  subst hr
  exact ⟨⟨_, _, _, _, rfl, by omega, by omega, HQ2.out.mono hB2, HR3.out⟩, HB1.out.trans (hB2.mono HB1.out.size)⟩
end Go.Proofs.YteaeloeebfdodaaGreatDoor

/- MATH 11: floor division out of division towards 0. -/
namespace Wh
theorem floor_both (x y : Int) (hy : y ≠ 0) :
    (if (x.tmod y).sign * y.sign = -1 then x.tdiv y - 1 else x.tdiv y) = x.fdiv y ∧ (if (x.tmod y).sign * y.sign = -1 then x.tmod y + y else x.tmod y) = x.fmod y := by
  rw [Int.fdiv_eq_ediv, Int.tdiv_eq_ediv, Int.fmod_eq_emod, Int.tmod_eq_emod]
  have hn := Int.emod_nonneg x hy
  have hl := Int.emod_lt x hy
  by_cases hd : y ∣ x
  · have h0 : x % y = 0 := Int.emod_eq_zero_of_dvd hd
    simp [hd, h0]
  · have h0 : x % y ≠ 0 := fun e => hd (Int.dvd_of_emod_eq_zero e)
    simp only [hd, or_false]
    generalize x % y = m at *
    generalize x / y = q at *
    rcases Int.lt_or_gt_of_ne hy with h | h
    · have s := Int.sign_eq_neg_one_of_neg h
      have hy0 : ¬ 0 ≤ y := by omega
      by_cases hx : 0 ≤ x
      · have e : m.sign = 1 := Int.sign_eq_one_of_pos (by omega)
        simp [hx, hy0, s, e]
      · have e : (m - (y.natAbs : Int)).sign = -1 := Int.sign_eq_neg_one_of_neg (by omega)
        simp [hx, hy0, s, e]; omega
    · have s := Int.sign_eq_one_of_pos h
      have hy0 : 0 ≤ y := by omega
      by_cases hx : 0 ≤ x
      · have e : m.sign = 1 := Int.sign_eq_one_of_pos (by omega)
        simp [hx, hy0, s, e]
      · have e : (m - (y.natAbs : Int)).sign = -1 := Int.sign_eq_neg_one_of_neg (by omega)
        simp [hx, hy0, s, e]; omega
end Wh
