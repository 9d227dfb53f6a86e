/- Part 5 of the proofs that laws of package whole answer true at every input and leave the input as it was, where the library's variables start as the text lays them (the texts S4, M8, S5, S6, T1, T2, T3, T4, T5). -/
import Derived.Test.YteggbenhffmijaaGreatDoorZ03
import Derived.Test.YteggbenhffmijaaGreatDoorZ04
import Derived.Lib.SmallJoins
import Derived.Lib.LazyBuf
set_option linter.unusedVariables false
set_option linter.unusedSimpArgs false
/- WALKS, strings 4: how many digits a number has. -/
namespace Go.Proofs.YteggbenhffmijaaGreatDoor
open Go.RowKit
/-- the library's table of powers of ten reads as its text lays it -/
def Tab (w : World) : Prop := Lib.TabIs Tryz.prog w "internal/strconv.uint64pow10" .u64 Lib.pow10Tab
theorem tab_global : Tryz.prog.globalNamed "internal/strconv.uint64pow10" = some 3 := by kernel_rfl
theorem Tab.mono {w w' : World} (h : Tab w) (hb : Below w.heap.size w w') : Tab w' := Joins.tab_stays tab_global h hb (Nat.le_refl _)
theorem decDigits_eq (n : Nat) : Lib.decDigits n = Wh.decN n := by
  induction n using Nat.strongRecOn with
  | ind n ih =>
    by_cases h : n < 10
    · rw [Lib.decDigits, dif_pos h, Wh.decN_small h]
    · rw [Lib.decDigits, dif_neg h, Wh.decN_big h, ih _ (by omega)]
theorem grow_below (w : World) (k : Nat) (os : Array Obj) : Below w.heap.size w (Sort.grow (w.drewN k) os) :=
  ⟨rfl, rfl, rfl, by simp [Sort.grow], fun i hi => by simp only [Sort.grow, World.heap_drewN]; rw [Array.getElem?_append_left hi]⟩
theorem itoa_any (t : Nat) (ht : t < 1000000000) (w : World) (htab : Tab w) :
    Calls Tryz.prog 216 #[.int .i64 t] w fun e w' => (∃ s : ByteArray, e = .returned (.string s) ∧ s.size = (Wh.decN t).length) ∧ Below w.heap.size w w' := by
  refine (Tryz.strconv_Itoa t (by omega) (by omega) w htab).mono ?_
  rintro e w' ⟨rfl, k, os, rfl⟩
  refine ⟨⟨_, rfl, ?_⟩, grow_below _ _ _⟩
  show (Lib.itoa (t : Int)).toArray.size = _
  rw [Lib.itoa, if_neg (by omega), Int.toNat_natCast, decDigits_eq]; simp
set_option maxHeartbeats 400000 in
theorem length_any (x : Int) (v : Value) (w : World) (h : Num w v x) (hx : x ≠ 0) (htab : Tab w) (hm : (Wh.limbs x.natAbs).length ≤ 5000) :
    Calls Tryz.prog 194 #[v] w fun e w' => e = .returned (.int .i64 (Wh.decN x.natAbs).length) ∧ Below w.heap.size w w' := by
  obtain ⟨sl, rfl, hsl⟩ := h
  obtain ⟨hl, hp, ht⟩ := Wh.length_by_top (n := x.natAbs) (by omega)
  rcases hsl with ⟨h0, _⟩ | ⟨b, off, cap, rfl, hcap, hb, hc⟩
  · rw [h0] at hp; simp at hp
  · have hct := hc ((Wh.limbs x.natAbs).length - 1) (by omega)
    have htr := Wh.getD_lt (Wh.ok_limbs x.natAbs) ((Wh.limbs x.natAbs).length - 1)
    rw [Wh.R_eq] at htr
    have HL := Lib.hid hl; clear hl hc
    generalize (Wh.limbs x.natAbs).getD ((Wh.limbs x.natAbs).length - 1) 0 = t at *
    generalize (Wh.limbs x.natAbs).length = n at *
    obtain ⟨m, rfl⟩ : ∃ m, n = m + 1 := ⟨n - 1, by omega⟩
    rw [Nat.add_sub_cancel] at hct HL
    have hct2 : (w.alloc (Obj.cells #[Value.int IntKind.i64 (Int.sign x), Value.slice (some { block := b, off := off }) (m + 1) cap] 92)).cell? ⟨b, off + m, none⟩ = some (.int .u32 t) :=
      (((Below.refl w.heap.size w).alloc (Nat.le_refl _) _).cell (p := ⟨b, off + m, none⟩) hb).trans hct
    clear hct
    have hbne : b ≠ w.heap.size := by omega
    go_enter Tryz.func194, Tryz.ntmps194
    go_wp2_with fail
    refine (itoa_any t htr _ (htab.mono ((Below.refl _ _).alloc (Nat.le_refl _) _))).mono ?_
    rintro e w2 ⟨⟨s, rfl, hs⟩, hb2⟩
    have hdl := Wh.decN_length_le (n := t) (k := 9) (by decide) (by omega)
    rw [← hs] at hdl
    have HS := Lib.hid hs; clear hs
    have hbb : Below w.heap.size w w2 := ((Below.refl _ _).alloc (Nat.le_refl _) _).trans (hb2.mono (by simp))
    clear hct2
    go_wp2
    go_ret
    refine ⟨?_, hbb⟩
    rw [HL.out, ← HS.out, Int.natCast_add, Int.natCast_mul, Int.mul_comm]; rfl
end Go.Proofs.YteggbenhffmijaaGreatDoor

namespace Wh
/-- a decimal digit, by its place from the low end -/
theorem decN_digit (n : Nat) : ∀ j, j < (decN n).length → (decN n).getD ((decN n).length - 1 - j) 0 = UInt8.ofNat (48 + n / 10 ^ j % 10) := by
  induction n using Nat.strongRecOn with
  | ind n ih =>
    intro j hj
    by_cases h : n < 10
    · rw [decN_small h] at hj ⊢
      obtain rfl : j = 0 := by simpa using hj
      simp [Nat.mod_eq_of_lt h]
    · rw [decN_big h] at hj ⊢
      rw [List.length_append, List.length_singleton] at hj ⊢
      cases j with
      | zero =>
        rw [List.getD_eq_getElem?_getD, List.getElem?_append_right (by omega)]
        simp
      | succ j =>
        have hl := ih (n / 10) (by omega) j (by omega)
        have e : (decN (n / 10)).length + 1 - 1 - (j + 1) = (decN (n / 10)).length - 1 - j := by omega
        rw [e, List.getD_eq_getElem?_getD, List.getElem?_append_left (by omega), ← List.getD_eq_getElem?_getD, hl, Nat.div_div_eq_div_mul, Nat.pow_succ, Nat.mul_comm 10]
theorem limbs_getD (n : Nat) : ∀ i, (limbs n).getD i 0 = n / R ^ i % R := by
  induction n using Nat.strongRecOn with
  | ind n ih =>
    intro i
    by_cases h : n = 0
    · subst h; rw [limbs_zero]; simp
    · rw [limbs_pos (by omega)]
      cases i with
      | zero => simp
      | succ i =>
        rw [List.getD_cons_succ, ih (n / R) (Nat.div_lt_self (by omega) R_gt), Nat.div_div_eq_div_mul, Nat.pow_succ, Nat.mul_comm R]
theorem limb_digit (n i s : Nat) (hs : s < 9) : (limbs n).getD i 0 / 10 ^ s % 10 = n / 10 ^ (9 * i + s) % 10 := by
  rw [limbs_getD, Nat.pow_add, pow9, ← Nat.div_div_eq_div_mul]
  generalize n / R ^ i = q
  have e : R = 10 ^ s * 10 ^ (9 - s) := by rw [← Nat.pow_add, show s + (9 - s) = 9 by omega]; rfl
  rw [e, Nat.mod_mul_right_div_self]
  have e2 : 10 ^ (9 - s) = 10 * 10 ^ (8 - s) := by rw [show 9 - s = (8 - s) + 1 by omega, Nat.pow_succ, Nat.mul_comm]
  rw [e2, Nat.mod_mul_right_mod]
/-- the bytes of a text when its last j digits are written -/
def outL (fr d : List UInt8) (j : Nat) : List UInt8 := fr ++ (List.replicate (d.length - j) 0 ++ d.drop (d.length - j))
theorem outL_length (fr d : List UInt8) {j : Nat} (h : j ≤ d.length) : (outL fr d j).length = fr.length + d.length := by unfold outL; rw [List.length_append, List.length_append, List.length_replicate, List.length_drop]; omega
theorem outL_step (fr d : List UInt8) {j : Nat} (h : j < d.length) : (outL fr d j).set (fr.length + d.length - 1 - j) (d.getD (d.length - 1 - j) 0) = outL fr d (j + 1) := by
  unfold outL
  rw [List.set_append_right _ _ (by omega)]
  congr 1
  obtain ⟨m, hm⟩ : ∃ m, d.length - j = m + 1 := ⟨d.length - j - 1, by omega⟩
  have e1 : fr.length + d.length - 1 - j - fr.length = m := by omega
  have e2 : d.length - 1 - j = m := by omega
  have e3 : d.length - (j + 1) = m := by omega
  rw [e1, e2, e3, hm, List.set_append_left _ _ (by simp)]
  have e4 : d.drop m = d.getD m 0 :: d.drop (m + 1) := by
    rw [List.drop_eq_getElem_cons (by omega), List.getD_eq_getElem?_getD, List.getElem?_eq_getElem (by omega)]; rfl
  rw [e4]
  have e5 : (List.replicate (m + 1) (0 : UInt8)).set m (d.getD m 0) = List.replicate m 0 ++ [d.getD m 0] := by
    rw [List.replicate_succ', List.set_append_right _ _ (by simp)]; simp
  rw [e5, List.append_assoc]; rfl
theorem outL_end (fr d : List UInt8) : outL fr d d.length = fr ++ d := by simp [outL]
theorem outL_start (fr d : List UInt8) : outL fr d 0 = fr ++ List.replicate d.length 0 := by simp [outL]
end Wh

/- WALKS, strings 5: bytes that a call makes; the text of a number. -/
namespace Go.Proofs.YteggbenhffmijaaGreatDoor
open Go.RowKit
/-- block b is the call's own, and has the bytes l -/
structure OwnB (w : World) (b : Nat) (l : List UInt8) : Prop where
  lt : b < w.heap.size
  cell : ∀ i, i < l.length → w.cell? ⟨b, i, none⟩ = some (.int .u8 ((l.getD i 0).toNat : Nat))
  free : ∀ i, i < l.length → w.frozen? ⟨b, i, none⟩ = false
theorem OwnB.mono {w w' : World} {b B : Nat} {l : List UInt8} (h : OwnB w b l) (hb : Below B w w') (hB : b < B) : OwnB w' b l :=
  ⟨Nat.lt_of_lt_of_le h.lt hb.size, fun i hi => (hb.cell (p := ⟨b, i, none⟩) hB).trans (h.cell i hi), fun i hi => (hb.frozen (p := ⟨b, i, none⟩) hB).trans (h.free i hi)⟩
theorem OwnB.set {w : World} {b : Nat} {l : List UInt8} (h : OwnB w b l) {i : Nat} (hi : i < l.length) (x : UInt8) : OwnB (w.setCell ⟨b, i, none⟩ (.int .u8 (x.toNat : Nat))) b (l.set i x) := by
  refine ⟨by simpa using h.lt, fun j hj => ?_, fun j hj => ?_⟩
  · rw [List.length_set] at hj
    by_cases e : i = j
    · subst e
      rw [World.cell?_setCell_same _ _ _ (h.cell i hi)]
      simp [List.getD, hi]
    · rw [World.cell?_setCell_other _ _ _ _ (by intro e'; exact e (congrArg Addr.off e')), h.cell j hj]
      simp [List.getD, List.getElem?_set_ne e]
  · rw [List.length_set] at hj
    rw [World.frozen?_setCell]; exact h.free j hj
def zerosB (n : Nat) : Array Value := Array.replicate n (.int .u8 0)
theorem ownB_make (w : World) (n : Nat) (t : TypeId) : OwnB (w.alloc (.cells (zerosB n) t)) w.heap.size (List.replicate n 0) := by
  refine ⟨by simp, fun i hi => ?_, fun i hi => ?_⟩
  · simp only [List.length_replicate] at hi
    rw [World.cell?_alloc_at (hn := rfl)]
    simp [zerosB, hi, List.getD]
  · exact World.frozen?_alloc_at (hn := rfl) ..
theorem info_byte : (Tryz.prog.info? 5).map (fun i => (i.zero, i.size, i.bytes)) = some (some (.int .u8 0), 1, 1) := by kernel_rfl
theorem run_make_bytes (n : Nat) (h : n ≤ 100000) (w : World) (x : Int) (hx : x = n) :
    (Instr.makeSlice 135 (.int .i64 x) (.int .i64 x)).run Tryz.prog w = .ok (.slice (some ⟨w.heap.size, 0, none⟩) n n) (w.alloc (.cells (zerosB n) 5)) := by
  subst hx
  have := run_make_row' (P := Tryz.prog) 135 5 (.int .u8 0) 1 Tryz.underlying135 info_byte rfl .i64 .i64 n (by omega) (by omega) w
  rw [show madeCells #[Value.int .u8 0] n = zerosB n from Array.toList_inj.1 (by rw [toList_madeCells_one, zerosB, Array.toList_replicate])] at this
  exact this
theorem size_byte (w : World) : (Go.sizeOf 5).run Tryz.prog w = .ok 1 w := by kernel_rfl
theorem run_copy_front {w : World} {b : Nat} {l : List UInt8} (h : OwnB w b l) (n c : Nat) (hn : n = l.length) (fr : List UInt8) (hf : fr.length ≤ l.length) (ty : TypeId) :
    (Builtin.copy_ #[135, 9] ty #[.slice (some ⟨b, 0, none⟩) n c, .string ⟨fr.toArray⟩]).run Tryz.prog w = .ok (goInt fr.length) (w.setCells b 0 (fr.map fun x => Value.int .u8 (x.toNat : Int))) := by
  subst hn
  exact _root_.Go.run_copy_string (P := Tryz.prog) w 135 9 ty 5 b 0 l.length c ⟨fr.toArray⟩ Tryz.underlying135 size_byte hf (fun j hj => by
    have hj' : j < fr.length := hj
    rw [Nat.zero_add, h.cell j (by omega)]; rfl) (fun j hj => by
    have hj' : j < fr.length := hj
    rw [Nat.zero_add]; exact h.free j (by omega))
theorem ownB_front {w : World} {b n : Nat} (h : OwnB w b (List.replicate n 0)) (fr : List UInt8) (hf : fr.length ≤ n) : OwnB (w.setCells b 0 (fr.map fun x => Value.int .u8 (x.toNat : Int))) b (fr ++ List.replicate (n - fr.length) 0) := by
  have hin := World.cell?_setCells_in b (fr.map fun x => Value.int .u8 (x.toNat : Int)) 0 w (fun j hj => by
    rw [List.length_map] at hj
    rw [Nat.zero_add, h.cell j (by simp; omega)]; rfl)
  refine ⟨Nat.lt_of_lt_of_le h.lt (only_setCells b _ _ _).size, fun i hi => ?_, fun i hi => ?_⟩
  · rw [List.length_append, List.length_replicate] at hi
    by_cases hfi : i < fr.length
    · have := hin i (by simpa using hfi)
      rw [Nat.zero_add] at this
      rw [this]; simp [List.getD, List.getElem?_append, hfi]
    · rw [World.cell?_setCells_out b _ 0 w ⟨b, i, none⟩ (fun _ _ => .inr (by simp; omega)), h.cell i (by simp; omega)]
      simp [List.getD, List.getElem?_append, hfi, show i < n by omega, show i - fr.length < n - fr.length by omega]
  · rw [List.length_append, List.length_replicate] at hi
    rw [World.frozen?_setCells]; exact h.free i (by simp; omega)
theorem run_string_back {w : World} {b : Nat} {l : List UInt8} (h : OwnB w b l) (n c : Nat) (hn : n = l.length) :
    (convert 135 9 (.slice (some ⟨b, 0, none⟩) n c)).run Tryz.prog w = .ok (.string (str l)) w := by
  subst hn
  exact run_convert_bytes_back (P := Tryz.prog) w 135 9 5 ⟨b, 0, none⟩ c l Tryz.underlying135 Tryz.underlying5 Tryz.underlying9 (fun j hj => by
    have := h.cell j hj
    have e : (⟨b, 0, none⟩ : Addr).add j = ⟨b, j, none⟩ := by
      simp only [Addr.add, Nat.zero_add]
      split
      · rename_i h0; rw [h0]
      · rfl
    rw [e, this]; simp [List.getD, hj])
end Go.Proofs.YteggbenhffmijaaGreatDoor

/- WALKS, strings 6: the text of a number, the walk. -/
namespace Go.Proofs.YteggbenhffmijaaGreatDoor
open Go.RowKit
/-- what holds when j digits of the text are written -/
structure TInv (w2 wr : World) (fr d : List UInt8) (j : Nat) : Prop where
  own : OwnB wr w2.heap.size (Wh.outL fr d j)
  below : Below w2.heap.size w2 wr
theorem TInv.step {w2 wr : World} {fr : List UInt8} {n j : Nat} (h : TInv w2 wr fr (Wh.decN n) j) (hj : j < (Wh.decN n).length) (q : Nat) (hq : q % 10 = n / 10 ^ j % 10) :
    TInv w2 (wr.setCell ⟨w2.heap.size, fr.length + (Wh.decN n).length - 1 - j, none⟩ (.int .u8 ((48 + q % 10 : Nat)))) fr (Wh.decN n) (j + 1) := by
  have hs := h.own.set (i := fr.length + (Wh.decN n).length - 1 - j) (by rw [Wh.outL_length _ _ (by omega)]; omega) ((Wh.decN n).getD ((Wh.decN n).length - 1 - j) 0)
  rw [Wh.outL_step _ _ hj] at hs
  rw [Wh.decN_digit n j hj, Wh.toNat_digit (Nat.mod_lt _ (by decide)), ← hq] at hs
  exact ⟨hs, h.below.setCell (Nat.le_refl _) _⟩
theorem TInv.cell {w2 wr : World} {fr d : List UInt8} {j : Nat} (h : TInv w2 wr fr d j) (hj : j < d.length) :
    wr.cell? ⟨w2.heap.size, fr.length + d.length - 1 - j, none⟩ = some (.int .u8 (((Wh.outL fr d j).getD (fr.length + d.length - 1 - j) 0).toNat : Nat)) ∧ wr.frozen? ⟨w2.heap.size, fr.length + d.length - 1 - j, none⟩ = false :=
  ⟨h.own.cell _ (by rw [Wh.outL_length _ _ (by omega)]; omega), h.own.free _ (by rw [Wh.outL_length _ _ (by omega)]; omega)⟩
set_option maxHeartbeats 400000 in
theorem text_zero (w : World) (sl : Value) :
    Calls Tryz.prog 103 #[.agg #[.int .i64 (Int.sign 0), sl]] w fun e w' => e = .returned (.string ⟨#[48]⟩) ∧ Below w.heap.size w w' := by
  rw [Int.sign_zero]
  go_enter Tryz.func103, Tryz.ntmps103
  go_wp2
  go_ret
  exact ⟨rfl, (Below.refl _ _).alloc (Nat.le_refl _) _⟩
theorem box_keep {w w2 : World} {a b : Value} {t : TypeId} (h : Below (w.alloc (.cells #[a, b] t)).heap.size (w.alloc (.cells #[a, b] t)) w2) :
    w2.cell? ⟨w.heap.size, 0, none⟩ = some a ∧ w2.cell? ⟨w.heap.size, 1, none⟩ = some b :=
  ⟨(h.cell (p := ⟨_, _, none⟩) (by simp)).trans (by go_simp), (h.cell (p := ⟨_, _, none⟩) (by simp)).trans (by go_simp)⟩
set_option maxRecDepth 100000 in
set_option maxHeartbeats 1000000 in
theorem text_from (w : World) (x : Int) (v : Value) (fr : List UInt8) (hv : Num w v x) (hx : x ≠ 0) (htab : Tab w) (hm : (Wh.decN x.natAbs).length ≤ 400) (hfr : fr.length ≤ 1)
    (hmark : ∀ w, Calls Tryz.prog 198 #[.int .i64 (Int.sign x)] w fun e w' => e = .returned (.string ⟨fr.toArray⟩) ∧ w = w') :
    Calls Tryz.prog 103 #[v] w fun e w' => e = .returned (.string (str (fr ++ Wh.decN x.natAbs))) ∧ Below w.heap.size w w' := by
  obtain ⟨sl, rfl, hsl⟩ := hv
  obtain ⟨hl, hp, ht⟩ := Wh.length_by_top (n := x.natAbs) (by omega)
  have hcnt := Wh.length_by_top (n := x.natAbs) (by omega)
  have hml : (Wh.limbs x.natAbs).length ≤ 45 := Wh.limbs_length_of_dec (by omega)
  have htop : (Wh.decN ((Wh.limbs x.natAbs).getD ((Wh.limbs x.natAbs).length - 1) 0)).length ≤ 9 := by
    have := Wh.getD_lt (Wh.ok_limbs x.natAbs) ((Wh.limbs x.natAbs).length - 1)
    exact Wh.decN_length_le (by decide) (by rw [Wh.R_eq] at this; omega)
  have htop1 := Wh.decN_length_pos ((Wh.limbs x.natAbs).getD ((Wh.limbs x.natAbs).length - 1) 0)
  have hL1 : 9 * ((Wh.limbs x.natAbs).length - 1) < (Wh.decN x.natAbs).length := by omega
  have hL2 : (Wh.decN x.natAbs).length ≤ 9 * (Wh.limbs x.natAbs).length := by omega
  clear hl hcnt ht htop htop1
  have hsg : ((Int.sign x) == 0) = false := by
    rcases sign_lt x with ⟨_, e⟩ | ⟨h, _⟩ | ⟨_, e⟩
    · rw [e]; rfl
    · exact absurd h hx
    · rw [e]; rfl
  have hsz : (⟨fr.toArray⟩ : ByteArray).size = fr.length := rfl
  obtain ⟨xa, xc, rfl⟩ := hsl.len
  obtain ⟨sa, sc, hse, hsla⟩ := hsl.addr
  have HSL := Lib.hid hsl; clear hsl
  obtain ⟨rfl, rfl⟩ : xa = sa ∧ xc = sc := by cases hse; exact ⟨rfl, rfl⟩
  have SLA := Lib.hid hsla; clear hsla hse
  have HM := Lib.hid hmark; clear hmark
  go_enter Tryz.func103, Tryz.ntmps103
  go_wp2_with fail
  refine (HM.out _).mono ?_
  rintro e w' ⟨rfl, rfl⟩
  go_wp2_with fail
  refine (length_any x _ _ (Num.mk' (HSL.out.mono ((Below.refl _ _).alloc (Nat.le_refl _) _)) rfl) hx (htab.mono ((Below.refl _ _).alloc (Nat.le_refl _) _)) (by omega)).mono ?_
  rintro e w2 ⟨rfl, hb2⟩
  obtain ⟨k0, k1⟩ := box_keep hb2
  have hbw : Below w.heap.size w w2 := ((Below.refl _ _).alloc (Nat.le_refl _) _).trans (hb2.mono (by simp))
  obtain ⟨d, hd⟩ : ∃ d, d = Wh.decN x.natAbs := ⟨_, rfl⟩
  rw [← hd] at hL1 hL2 hm ⊢
  have HD := Lib.hid hd; clear hd
  have hm' : ((d.length : Nat) : Int) ≤ 400 := by omega
  have hmk := run_make_bytes (fr.length + d.length) (by omega) w2 ((fr.length : Int) + (d.length : Int)) (by omega)
  have hcp := fun ty => run_copy_front (ownB_make w2 (fr.length + d.length) 5) (fr.length + d.length) (fr.length + d.length) (by simp) fr (by simp) ty
  have hlt1 : w.heap.size < w2.heap.size := by have := hb2.size; simp at this; omega
  have hT0 : TInv w2 ((w2.alloc (.cells (zerosB (fr.length + d.length)) 5)).setCells w2.heap.size 0 (fr.map fun x => Value.int .u8 (x.toNat : Int))) fr d 0 := by
    refine ⟨?_, ((Below.refl _ _).alloc (Nat.le_refl _) _).trans ((only_setCells _ _ _ _).below (Nat.le_refl _) (by simp))⟩
    rw [Wh.outL_start]
    have := ownB_front (ownB_make w2 (fr.length + d.length) 5) fr (by omega)
    rw [show fr.length + d.length - fr.length = d.length by omega] at this
    exact this
  have hk1 : ((w2.alloc (.cells (zerosB (fr.length + d.length)) 5)).setCells w2.heap.size 0 (fr.map fun x => Value.int .u8 (x.toNat : Int))).cell? ⟨w.heap.size, 1, none⟩ = some (.slice xa (Wh.limbs x.natAbs).length xc) :=
    (hT0.below.cell (p := ⟨w.heap.size, 1, none⟩) hlt1).trans k1
  have HT0 := Lib.hid hT0; clear hT0
  go_wp2_with fail
  clear hmk hcp hk1
  generalize (w2.alloc (.cells (zerosB (fr.length + d.length)) 5)).setCells w2.heap.size 0 (fr.map fun x => Value.int .u8 (x.toNat : Int)) = W0 at HT0 ⊢
  generalize hfl : fr.length = f at *
  generalize hdl : d.length = L at *
  have HFL := Lib.hid hfl; clear hfl
  have HDL := Lib.hid hdl; clear hdl
  generalize hml' : (Wh.limbs x.natAbs).length = m at *
  have HML := Lib.hid hml'; clear hml'
  clear k0 k1
  have HBW := Lib.hid hbw; clear hbw
  go_loopw [5, 28] (fun en c wr => ∃ i j : Nat, i ≤ m ∧ c = .int .i64 i ∧ en = .int .i64 ((f : Int) + L - (j : Nat)) ∧ j ≤ L ∧ Hid ((i < m → j = 9 * i) ∧ (i = m → j = L)) ∧ Hid (TInv w2 wr fr d j)) (fun _ c _ => m - (intOf c).toNat)
  case atStart => exact ⟨0, 0, Nat.zero_le _, rfl, by simp, Nat.zero_le _, Lib.hid ⟨fun _ => rfl, fun h => by omega⟩, HT0⟩
  case round =>
    clear HT0
    obtain ⟨i, j, hi, rfl, rfl, hjL, HJ, HI⟩ := hrel
    by_cases hlt : i < m
    · obtain rfl : j = 9 * i := HJ.out.1 hlt
      have h9 : 9 * i < L := by omega
      obtain ⟨b1, off1, rfl, hbl1, hcell1⟩ := SLA.out i hlt
      have hcx := ((HBW.out.trans (HI.out.below.mono (by omega))).cell (p := ⟨b1, off1 + i, none⟩) hbl1).trans (hcell1 i hlt)
      clear hcell1
      have hlm := Wh.getD_lt (Wh.ok_limbs x.natAbs) i
      rw [Wh.R_eq] at hlm
      generalize hlmm : (Wh.limbs x.natAbs).getD i 0 = lm at hcx hlm
      have HLM := Lib.hid hlmm.symm; clear hlmm
      by_cases hc : 9 * i + 9 ≤ L
      · have hc' : (9 : Int) ≤ (f : Int) + L - (9 * i : Nat) - f := by omega
        have hcv : 9 * i + (9) ≤ L := by omega
        go_wp2_with fail
        go_loopw [5, 7, 37] (fun en part c wi => ∃ s p : Nat, s ≤ 9 ∧ c = .int .i64 s ∧ part = .int .u32 p ∧ p < 1000000000 ∧ en = .int .i64 ((f : Int) + L - (9 * i + s : Nat)) ∧ Hid (p = (Wh.limbs x.natAbs).getD i 0 / 10 ^ s) ∧ Hid (TInv w2 wi fr d (9 * i + s))) (fun _ _ c _ => 9 - (intOf c).toNat)
        case atStart => exact ⟨0, lm, Nat.zero_le _, rfl, rfl, hlm, congrArg (Value.int IntKind.i64) (by omega), Lib.hid (by rw [HLM.out, Nat.pow_zero, Nat.div_one]), HI⟩
        case round =>
          obtain ⟨s, p, hs, rfl, rfl, hp9, rfl, HP, HT⟩ := hrel
          by_cases hlt2 : s < 9
          · have hjl : 9 * i + s < d.length := by rw [HDL.out]; omega
            obtain ⟨hc1, hf1⟩ := HT.out.cell hjl
            have hst := HT.out
            rw [HD.out] at hst
            have hstep := hst.step (by rw [← HD.out]; exact hjl) p (by rw [HP.out]; exact Wh.limb_digit _ _ _ (by omega))
            rw [← HD.out, HFL.out, HDL.out] at hstep
            rw [HFL.out, HDL.out] at hc1 hf1
            have hidx : f + L - 1 - (9 * i + s) = f + L - (9 * i + s) - 1 := by omega
            rw [hidx] at hc1 hf1 hstep
            have HST := Lib.hid hstep; clear hstep hst hidx hjl
            generalize (Wh.outL fr d (9 * i + s)).getD (f + L - (9 * i + s) - 1) 0 = ob at hc1
            generalize hq : 9 * i + s = q at *
            have HQ := Lib.hid hq
            have hqL : q < L := by omega
            clear hq
            have hcast : (48 : Int) + (p : Int) % 10 = ((48 + p % 10 : Nat) : Int) := by omega
            have HC := Lib.hid hcast; clear hcast
            go_wp2
            go_roundw
            case rel => exact ⟨s + 1, p / 10, by omega, by go_num, by go_num, by omega, by rw [show 9 * i + (s + 1) = q + 1 by have := HQ.out; omega]; go_num, Lib.hid (by rw [HP.out, Nat.div_div_eq_div_mul, Nat.pow_succ]), by rw [show 9 * i + (s + 1) = q + 1 by have := HQ.out; omega]; rw [HC.out]; exact HST⟩
            case measure => simp [intOf]; omega
          · obtain rfl : s = 9 := by omega
            have HT2 := HT
            go_wp2
            go_roundw
            case rel => exact ⟨i + 1, 9 * i + (9), by omega, by go_num, by go_num, by omega, Lib.hid ⟨by intro h; omega, by intro h; omega⟩, HT2⟩
            case measure => simp [intOf]; omega
      · have hc' : (f : Int) + L - (9 * i : Nat) - f < 9 := by omega
        have hcv : 9 * i + (L - 9 * i) ≤ L := by omega
        go_wp2_with fail
        go_loopw [5, 7, 37] (fun en part c wi => ∃ s p : Nat, s ≤ L - 9 * i ∧ c = .int .i64 s ∧ part = .int .u32 p ∧ p < 1000000000 ∧ en = .int .i64 ((f : Int) + L - (9 * i + s : Nat)) ∧ Hid (p = (Wh.limbs x.natAbs).getD i 0 / 10 ^ s) ∧ Hid (TInv w2 wi fr d (9 * i + s))) (fun _ _ c _ => L - 9 * i - (intOf c).toNat)
        case atStart => exact ⟨0, lm, Nat.zero_le _, rfl, rfl, hlm, congrArg (Value.int IntKind.i64) (by omega), Lib.hid (by rw [HLM.out, Nat.pow_zero, Nat.div_one]), HI⟩
        case round =>
          obtain ⟨s, p, hs, rfl, rfl, hp9, rfl, HP, HT⟩ := hrel
          by_cases hlt2 : s < L - 9 * i
          · have hjl : 9 * i + s < d.length := by rw [HDL.out]; omega
            obtain ⟨hc1, hf1⟩ := HT.out.cell hjl
            have hst := HT.out
            rw [HD.out] at hst
            have hstep := hst.step (by rw [← HD.out]; exact hjl) p (by rw [HP.out]; exact Wh.limb_digit _ _ _ (by omega))
            rw [← HD.out, HFL.out, HDL.out] at hstep
            rw [HFL.out, HDL.out] at hc1 hf1
            have hidx : f + L - 1 - (9 * i + s) = f + L - (9 * i + s) - 1 := by omega
            rw [hidx] at hc1 hf1 hstep
            have HST := Lib.hid hstep; clear hstep hst hidx hjl
            generalize (Wh.outL fr d (9 * i + s)).getD (f + L - (9 * i + s) - 1) 0 = ob at hc1
            generalize hq : 9 * i + s = q at *
            have HQ := Lib.hid hq
            have hqL : q < L := by omega
            clear hq
            have hcast : (48 : Int) + (p : Int) % 10 = ((48 + p % 10 : Nat) : Int) := by omega
            have HC := Lib.hid hcast; clear hcast
            go_wp2
            go_roundw
            case rel => exact ⟨s + 1, p / 10, by omega, by go_num, by go_num, by omega, by rw [show 9 * i + (s + 1) = q + 1 by have := HQ.out; omega]; go_num, Lib.hid (by rw [HP.out, Nat.div_div_eq_div_mul, Nat.pow_succ]), by rw [show 9 * i + (s + 1) = q + 1 by have := HQ.out; omega]; rw [HC.out]; exact HST⟩
            case measure => simp [intOf]; omega
          · obtain rfl : s = L - 9 * i := by omega
            have HT2 := HT
            go_wp2
            go_roundw
            case rel => exact ⟨i + 1, 9 * i + (L - 9 * i), by omega, by go_num, by go_num, by omega, Lib.hid ⟨by intro h; omega, by intro h; omega⟩, HT2⟩
            case measure => simp [intOf]; omega
    · obtain rfl : i = m := by omega
      obtain rfl : j = L := HJ.out.2 rfl
      have hown := HI.out.own
      rw [← HDL.out, Wh.outL_end] at hown
      have hback := run_string_back hown (f + j) (f + j) (by rw [List.length_append, HFL.out, HDL.out])
      have hbf := HBW.out.trans (HI.out.below.mono (Nat.le_of_lt hlt1))
      have HBF := Lib.hid hbf; clear hbf hown
      rw [HD.out] at hback
      go_wp2
      go_ret
      exact ⟨rfl, HBF.out⟩
/-- text: the decimal digits -/
theorem text_any (w : World) (x : Int) (v : Value) (hv : Num w v x) (htab : Tab w) (hm : (Wh.decN x.natAbs).length ≤ 400) :
    Calls Tryz.prog 103 #[v] w fun e w' => e = .returned (.string (str (Wh.decI x))) ∧ Below w.heap.size w w' := by
  rcases sign_lt x with ⟨h, e⟩ | ⟨h, e⟩ | ⟨h, e⟩
  · have := text_from w x v [45] hv (by omega) htab hm (by simp) (fun w => by rw [e]; exact mark_below w)
    unfold Wh.decI; rw [if_pos h]; exact this
  · subst h
    obtain ⟨sl, rfl, hsl⟩ := hv
    have : str (Wh.decI 0) = ⟨#[48]⟩ := by unfold Wh.decI; rw [if_neg (by omega), Int.natAbs_zero, Wh.decN_zero]; rfl
    rw [this]
    exact text_zero w sl
  · have := text_from w x v [] hv (by omega) htab hm (by simp) (fun w => by rw [e]; exact mark_other 1 (by decide) w)
    unfold Wh.decI; rw [if_neg (by omega)]; exact this
end Go.Proofs.YteggbenhffmijaaGreatDoor

/- WALKS, texts 1: read of a valid text; readPair. -/
namespace Go.Proofs.YteggbenhffmijaaGreatDoor
open Go.RowKit
/-- the text of a number that is not too large -/
def txt (x : Int) : Value := .string (str (Wh.decI x))
def Valid (x : Int) : Prop := (Wh.decN x.natAbs).length ≤ 400
theorem digs_dec (n : Nat) : Digs 10 (Wh.decN n) := fun c hc => ⟨(dval_digit (Wh.decN_digits n c hc)).1, (dval_digit (Wh.decN_digits n c hc)).2.1⟩
theorem head_digit (n : Nat) : (Wh.decN n).head? ≠ some 45 := by
  have := Wh.decN_ne n
  have hd := Wh.decN_digits n
  cases h : Wh.decN n with
  | nil => exact absurd h this
  | cons c r =>
    have := hd c (by rw [h]; simp)
    intro e
    obtain rfl : c = 45 := by simpa using e
    exact absurd this.1 (by decide)
theorem head_zero (n : Nat) : (Wh.decN n).head? ≠ some 48 ∨ Wh.decN n = [48] := by
  rcases Nat.eq_zero_or_pos n with rfl | h
  · exact .inr Wh.decN_zero
  · left
    have h1 := Wh.decN_head n h
    have := Wh.decN_ne n
    cases hl : Wh.decN n with
    | nil => exact absurd hl this
    | cons c r => rw [hl] at h1; simpa using h1
theorem split_dec (x : Int) (hv : Valid x) (w : World) :
    Calls Tryz.prog 185 #[txt x, .int .i64 10] w fun e w' => e = .returned (.tuple #[.int .i64 (if x < 0 then -1 else 1), .string (str (Wh.decN x.natAbs))]) ∧ Below w.heap.size w w' := by
  unfold Valid at hv
  by_cases h : x < 0
  · rw [if_pos h]
    have hz : (Wh.decN x.natAbs).head? ≠ some 48 := by
      rcases head_zero x.natAbs with h' | h'
      · exact h'
      · have := Wh.numOf_decN x.natAbs
        rw [h'] at this
        have e : Wh.numOf [48] = 0 := rfl
        omega
    have := split_neg (Wh.decN x.natAbs) 10 (digs_dec _) (Wh.decN_ne _) (by omega) hz w
    unfold txt Wh.decI; rw [if_pos h]; exact this
  · rw [if_neg h]
    have := split_pos (Wh.decN x.natAbs) 10 (digs_dec _) (Wh.decN_ne _) (by omega) (head_digit _) (head_zero _) w
    unfold txt Wh.decI; rw [if_neg h]; exact this
theorem exread_any (x : Int) (hv : Valid x) (w : World) :
    Calls Tryz.prog 89 #[txt x] w fun e w' => (∃ v', e = .returned v' ∧ Num w' v' x) ∧ Below w.heap.size w w' := by
  have := read_from (str (Wh.decI x)) (if x < 0 then -1 else 1) (Wh.decN x.natAbs) w (split_dec x hv) (Wh.decN_digits _) hv (by split <;> simp)
  have e : (if x < 0 then -1 else 1) * ((Wh.numOf (Wh.decN x.natAbs) : Nat) : Int) = x := by
    rw [Wh.numOf_decN]; split <;> omega
  rw [e] at this
  exact this
set_option maxHeartbeats 400000 in
theorem width_any (x : Int) (hv : Valid x) (w : World) :
    Calls Tryz.prog 250 #[txt x, .int .i64 10] w fun e w' => e = .returned (.int .i64 (Wh.decN x.natAbs).length) ∧ Below w.heap.size w w' := by
  have H := Lib.hid (split_dec x hv)
  unfold Valid at hv
  have hz : (str (Wh.decN x.natAbs)).size = (Wh.decN x.natAbs).length := rfl
  have hz2 : (str (Wh.decN x.natAbs)).size ≤ 400 := hv
  unfold txt at *
  generalize str (Wh.decI x) = s at *
  generalize str (Wh.decN x.natAbs) = d at *
  generalize (if x < 0 then (-1 : Int) else 1) = sg at *
  have HZ := Lib.hid hz; clear hz
  go_enter Tryz.func250, Tryz.ntmps250
  go_wp2_with fail
  refine (H.out _).mono ?_
  rintro e w1 ⟨rfl, hb1⟩
  go_wp2
  go_ret
  exact ⟨by rw [← HZ.out]; rfl, hb1⟩
set_option maxHeartbeats 400000 in
theorem check_any (x : Int) (hv : Valid x) (w : World) :
    Calls Tryz.prog 178 #[txt x] w fun e w' => e = .returned (.tuple #[]) ∧ Below w.heap.size w w' := by
  have H := Lib.hid (width_any x hv)
  unfold Valid at hv
  have hd : decide ((Wh.decN x.natAbs).length ≤ 400) = true := by simpa using hv
  unfold txt at *
  generalize str (Wh.decI x) = s at *
  generalize (Wh.decN x.natAbs).length = n at *
  have hd2 : decide ((n : Int) ≤ 400) = true := by simp; omega
  go_enter Tryz.func178, Tryz.ntmps178
  go_wp2_with fail
  refine (H.out _).mono ?_
  rintro e w1 ⟨rfl, hb1⟩
  go_wp2_with fail
  refine (demand_yes _ _).mono ?_
  rintro e w2 ⟨rfl, rfl⟩
  go_wp2
  go_end0
  exact ⟨rfl, hb1⟩
set_option maxHeartbeats 400000 in
theorem read_any (x : Int) (hv : Valid x) (w : World) :
    Calls Tryz.prog 146 #[txt x] w fun e w' => (∃ v', e = .returned v' ∧ Num w' v' x) ∧ Below w.heap.size w w' := by
  have H1 := Lib.hid (check_any x hv)
  have H2 := Lib.hid (exread_any x hv)
  unfold txt at *
  generalize str (Wh.decI x) = s at *
  go_enter Tryz.func146, Tryz.ntmps146
  go_wp2_with fail
  refine (H1.out _).mono ?_
  rintro e w1 ⟨rfl, hb1⟩
  go_wp2_with fail
  refine (H2.out _).mono ?_
  rintro e w2 ⟨⟨v2, rfl, hn2⟩, hb2⟩
  obtain ⟨sl, rfl, hsl⟩ := hn2
  obtain ⟨xa, xc, rfl⟩ := hsl.len
  have hbW : Below (w.heap.size + 1) (w.alloc (Obj.cells #[Value.int IntKind.i64 0, Value.slice none 0 0] 92)) w2 :=
    (hb1.mono (by simp)).trans (hb2.mono (by have := hb1.size; simp at this; omega))
  obtain ⟨k0, k1, g0, g1⟩ := res_keep rfl hbW
  have hbb : Below w.heap.size w w2 := ((Below.refl _ _).alloc (Nat.le_refl _) _).trans (hbW.mono (Nat.le_succ _))
  clear hb1 hb2 hbW
  go_wp2
  have hfin := two_cells w2 w.heap.size (.int .i64 (Int.sign x)) (.slice xa (Wh.limbs x.natAbs).length xc) k0 k1
  exact bodyPost_ret (v := .agg #[.int .i64 (Int.sign x), .slice xa (Wh.limbs x.natAbs).length xc]) (by simp [results, Tryz.results146, go_sem, hfin.1, hfin.2]) rfl ⟨⟨_, rfl, _, rfl, hsl.store2 _ k0 k1 _ _⟩, (hbb.setCell (Nat.le_refl _) _).setCell (Nat.le_refl _) _⟩
/-- a variable of four cells that hold two numbers at work -/
structure Quad (w : World) (b : Nat) (x0 x1 x2 x3 : Value) : Prop where
  c0 : w.cell? ⟨b, 0, none⟩ = some x0
  c1 : w.cell? ⟨b, 1, none⟩ = some x1
  c2 : w.cell? ⟨b, 2, none⟩ = some x2
  c3 : w.cell? ⟨b, 3, none⟩ = some x3
  f0 : w.frozen? ⟨b, 0, none⟩ = false
  f1 : w.frozen? ⟨b, 1, none⟩ = false
  f2 : w.frozen? ⟨b, 2, none⟩ = false
  f3 : w.frozen? ⟨b, 3, none⟩ = false
theorem Quad.mono {w w' : World} {b B : Nat} {x0 x1 x2 x3 : Value} (h : Quad w b x0 x1 x2 x3) (hb : Below B w w') (hB : b < B) : Quad w' b x0 x1 x2 x3 :=
  ⟨(hb.cell (p := ⟨b, 0, none⟩) hB).trans h.c0, (hb.cell (p := ⟨b, 1, none⟩) hB).trans h.c1, (hb.cell (p := ⟨b, 2, none⟩) hB).trans h.c2, (hb.cell (p := ⟨b, 3, none⟩) hB).trans h.c3,
   (hb.frozen (p := ⟨b, 0, none⟩) hB).trans h.f0, (hb.frozen (p := ⟨b, 1, none⟩) hB).trans h.f1, (hb.frozen (p := ⟨b, 2, none⟩) hB).trans h.f2, (hb.frozen (p := ⟨b, 3, none⟩) hB).trans h.f3⟩
theorem quad_new (w : World) (x0 x1 x2 x3 : Value) (t : TypeId) : Quad (w.alloc (.cells #[x0, x1, x2, x3] t)) w.heap.size x0 x1 x2 x3 :=
  ⟨by go_simp, by go_simp, by go_simp, by go_simp, by go_simp, by go_simp, by go_simp, by go_simp⟩
def put4 (w : World) (b : Nat) (y0 y1 y2 y3 : Value) : World := (((w.setCell ⟨b, 0, none⟩ y0).setCell ⟨b, 1, none⟩ y1).setCell ⟨b, 2, none⟩ y2).setCell ⟨b, 3, none⟩ y3
theorem off_ne {b i j : Nat} (h : i ≠ j) : (⟨b, i, none⟩ : Addr) ≠ ⟨b, j, none⟩ := by intro e; exact h (congrArg Addr.off e)
theorem Quad.put {w : World} {b : Nat} {x0 x1 x2 x3 : Value} (h : Quad w b x0 x1 x2 x3) (y0 y1 y2 y3 : Value) : Quad (put4 w b y0 y1 y2 y3) b y0 y1 y2 y3 := by
  have e1 : (w.setCell ⟨b, 0, none⟩ y0).cell? ⟨b, 1, none⟩ = some x1 := by rw [World.cell?_setCell_other _ _ _ _ (off_ne (by decide))]; exact h.c1
  have e2 : ((w.setCell ⟨b, 0, none⟩ y0).setCell ⟨b, 1, none⟩ y1).cell? ⟨b, 2, none⟩ = some x2 := by rw [World.cell?_setCell_other _ _ _ _ (off_ne (by decide)), World.cell?_setCell_other _ _ _ _ (off_ne (by decide))]; exact h.c2
  have e3 : (((w.setCell ⟨b, 0, none⟩ y0).setCell ⟨b, 1, none⟩ y1).setCell ⟨b, 2, none⟩ y2).cell? ⟨b, 3, none⟩ = some x3 := by rw [World.cell?_setCell_other _ _ _ _ (off_ne (by decide)), World.cell?_setCell_other _ _ _ _ (off_ne (by decide)), World.cell?_setCell_other _ _ _ _ (off_ne (by decide))]; exact h.c3
  unfold put4
  refine ⟨?_, ?_, ?_, World.cell?_setCell_same _ _ _ e3, ?_, ?_, ?_, ?_⟩
  · rw [World.cell?_setCell_other _ _ _ _ (off_ne (by decide)), World.cell?_setCell_other _ _ _ _ (off_ne (by decide)), World.cell?_setCell_other _ _ _ _ (off_ne (by decide))]; exact World.cell?_setCell_same _ _ _ h.c0
  · rw [World.cell?_setCell_other _ _ _ _ (off_ne (by decide)), World.cell?_setCell_other _ _ _ _ (off_ne (by decide))]; exact World.cell?_setCell_same _ _ _ e1
  · rw [World.cell?_setCell_other _ _ _ _ (off_ne (by decide))]; exact World.cell?_setCell_same _ _ _ e2
  all_goals simp only [World.frozen?_setCell]
  · exact h.f0
  · exact h.f1
  · exact h.f2
  · exact h.f3
/-- a number's limbs do not lie among cells that hold none -/
def NoLimb (v : Value) : Prop := ∀ n, v ≠ .int .u32 n
theorem nl_int (x : Int) : NoLimb (.int .i64 x) := by intro n e; cases e
theorem nl_slice (a : Option Addr) (n c : Nat) : NoLimb (.slice a n c) := by intro n e; cases e
theorem Sl.put4 {w : World} {v : Value} {l : List Nat} (h : Sl w v l) {b : Nat} {x0 x1 x2 x3 : Value} (q : Quad w b x0 x1 x2 x3) (n0 : NoLimb x0) (n1 : NoLimb x1) (n2 : NoLimb x2) (n3 : NoLimb x3) (y0 y1 y2 y3 : Value) : Sl (put4 w b y0 y1 y2 y3) v l := by
  unfold Proofs.YteggbenhffmijaaGreatDoor.put4
  refine (((h.store _ q.c0 n0 _).store _ (u := x1) ?_ n1 _).store _ (u := x2) ?_ n2 _).store _ (u := x3) ?_ n3 _
  · rw [World.cell?_setCell_other _ _ _ _ (off_ne (by decide))]; exact q.c1
  · rw [World.cell?_setCell_other _ _ _ _ (off_ne (by decide)), World.cell?_setCell_other _ _ _ _ (off_ne (by decide))]; exact q.c2
  · rw [World.cell?_setCell_other _ _ _ _ (off_ne (by decide)), World.cell?_setCell_other _ _ _ _ (off_ne (by decide)), World.cell?_setCell_other _ _ _ _ (off_ne (by decide))]; exact q.c3
theorem below_put4 {w w' : World} {B b : Nat} (h : Below B w w') (hb : B ≤ b) (y0 y1 y2 y3 : Value) : Below B w (put4 w' b y0 y1 y2 y3) := (((h.setCell hb _).setCell hb _).setCell hb _).setCell hb _
set_option maxHeartbeats 400000 in
theorem readPair_any (x y : Int) (hx : Valid x) (hy : Valid y) (w : World) :
    Calls Tryz.prog 154 #[txt x, txt y] w fun e w' => (∃ a1 n1 c1 a2 n2 c2, e = .returned (.agg #[.int .i64 (Int.sign x), .slice a1 n1 c1, .int .i64 (Int.sign y), .slice a2 n2 c2]) ∧ Sl w' (.slice a1 n1 c1) (Wh.limbs x.natAbs) ∧ Sl w' (.slice a2 n2 c2) (Wh.limbs y.natAbs)) ∧ Below w.heap.size w w' := by
  have H1 := Lib.hid (read_any x hx)
  have H2 := Lib.hid (read_any y hy)
  unfold txt at *
  go_enter Tryz.func154, Tryz.ntmps154
  go_wp2_with fail
  refine (H1.out _).mono ?_
  rintro e w1 ⟨⟨v1, rfl, hn1⟩, hb1⟩
  obtain ⟨s1, rfl, hs1⟩ := hn1
  obtain ⟨a1, c1, rfl⟩ := hs1.len
  go_wp2_with fail
  refine (H2.out _).mono ?_
  rintro e w2 ⟨⟨v2, rfl, hn2⟩, hb2⟩
  obtain ⟨s2, rfl, hs2⟩ := hn2
  obtain ⟨a2, c2, rfl⟩ := hs2.len
  have hq := (quad_new w (.int .i64 0) (.slice none 0 0) (.int .i64 0) (.slice none 0 0) 149).mono (hb1.trans (hb2.mono hb1.size)) (by simp)
  have hbb : Below w.heap.size w w2 := ((Below.refl _ _).alloc (Nat.le_refl _) _).trans ((hb1.trans (hb2.mono hb1.size)).mono (by simp))
  have hs1' := hs1.mono hb2
  clear hb1 hb2 hs1
  have d0 := hq.c0
  have d1 := hq.c1
  have d2 := hq.c2
  have d3 := hq.c3
  have f0 := hq.f0
  have f1 := hq.f1
  have f2 := hq.f2
  have f3 := hq.f3
  go_wp2
  have hp := hq.put (.int .i64 (Int.sign x)) (.slice a1 (Wh.limbs x.natAbs).length c1) (.int .i64 (Int.sign y)) (.slice a2 (Wh.limbs y.natAbs).length c2)
  have t1 := hs1'.put4 hq (nl_int _) (nl_slice _ _ _) (nl_int _) (nl_slice _ _ _) (.int .i64 (Int.sign x)) (.slice a1 (Wh.limbs x.natAbs).length c1) (.int .i64 (Int.sign y)) (.slice a2 (Wh.limbs y.natAbs).length c2)
  have t2 := hs2.put4 hq (nl_int _) (nl_slice _ _ _) (nl_int _) (nl_slice _ _ _) (.int .i64 (Int.sign x)) (.slice a1 (Wh.limbs x.natAbs).length c1) (.int .i64 (Int.sign y)) (.slice a2 (Wh.limbs y.natAbs).length c2)
  have hB := below_put4 hbb (Nat.le_refl _) (.int .i64 (Int.sign x)) (.slice a1 (Wh.limbs x.natAbs).length c1) (.int .i64 (Int.sign y)) (.slice a2 (Wh.limbs y.natAbs).length c2)
  have p0 := hp.c0
  have p1 := hp.c1
  have p2 := hp.c2
  have p3 := hp.c3
  clear hp hq
  exact bodyPost_ret (v := .agg #[.int .i64 (Int.sign x), .slice a1 (Wh.limbs x.natAbs).length c1, .int .i64 (Int.sign y), .slice a2 (Wh.limbs y.natAbs).length c2]) (by unfold put4 at *; simp [results, Tryz.results154, go_sem, p0, p1, p2, p3]) rfl ⟨⟨_, _, _, _, _, _, rfl, t1, t2⟩, hB⟩
end Go.Proofs.YteggbenhffmijaaGreatDoor

/- WALKS, texts 2: operands. -/
namespace Go.Proofs.YteggbenhffmijaaGreatDoor
open Go.RowKit
set_option maxHeartbeats 800000 in
theorem operands_any (w : World) (x y : Int) (a1 a2 : Option Addr) (n1 c1 n2 c2 : Nat) :
    Calls Tryz.prog 399 #[.agg #[.int .i64 x, .slice a1 n1 c1, .int .i64 y, .slice a2 n2 c2]] w fun e w' => e = .returned (.tuple #[.agg #[.int .i64 x, .slice a1 n1 c1], .agg #[.int .i64 y, .slice a2 n2 c2]]) ∧ Below w.heap.size w w' := by
  go_enter Tryz.func399, Tryz.ntmps399
  go_wp2
  go_region
  all_goals
    go_wp2
    refine bodyPost_ret (v := .tuple #[.agg #[.int .i64 x, .slice a1 n1 c1], .agg #[.int .i64 y, .slice a2 n2 c2]]) (by simp [results, Tryz.results399, go_sem]) rfl ⟨rfl, ?_⟩
    repeat (first | exact Below.refl _ _ | assumption | refine Below.drew ?_ | refine Below.alloc ?_ (by simp <;> omega) _ | refine Below.setCell ?_ (by simp <;> omega) _)
end Go.Proofs.YteggbenhffmijaaGreatDoor

/- WALKS, texts 3: perform. -/
namespace Go.Proofs.YteggbenhffmijaaGreatDoor
open Go.RowKit
/-- two result variables that hold numbers at work -/
structure Two (w : World) (b : Nat) : Prop where
  k0 : w.cell? ⟨b, 0, none⟩ = some (.int .i64 0)
  k1 : w.cell? ⟨b, 1, none⟩ = some (.slice none 0 0)
  m0 : w.cell? ⟨b + 1, 0, none⟩ = some (.int .i64 0)
  m1 : w.cell? ⟨b + 1, 1, none⟩ = some (.slice none 0 0)
  f0 : w.frozen? ⟨b, 0, none⟩ = false
  f1 : w.frozen? ⟨b, 1, none⟩ = false
  g0 : w.frozen? ⟨b + 1, 0, none⟩ = false
  g1 : w.frozen? ⟨b + 1, 1, none⟩ = false
theorem two_new {w w3 : World} (h : Below (w.heap.size + 2) ((w.alloc (.cells #[.int .i64 0, .slice none 0 0] 92)).alloc (.cells #[.int .i64 0, .slice none 0 0] 92)) w3) : Two w3 w.heap.size := by
  have c : ∀ i, w3.cell? ⟨w.heap.size, i, none⟩ = _ := fun i => h.cell (p := ⟨w.heap.size, i, none⟩) (by show w.heap.size < _; omega)
  have c' : ∀ i, w3.cell? ⟨w.heap.size + 1, i, none⟩ = _ := fun i => h.cell (p := ⟨w.heap.size + 1, i, none⟩) (by show w.heap.size + 1 < _; omega)
  have f : ∀ i, w3.frozen? ⟨w.heap.size, i, none⟩ = _ := fun i => h.frozen (p := ⟨w.heap.size, i, none⟩) (by show w.heap.size < _; omega)
  have f' : ∀ i, w3.frozen? ⟨w.heap.size + 1, i, none⟩ = _ := fun i => h.frozen (p := ⟨w.heap.size + 1, i, none⟩) (by show w.heap.size + 1 < _; omega)
  exact ⟨(c 0).trans (by go_simp), (c 1).trans (by go_simp), (c' 0).trans (by go_simp), (c' 1).trans (by go_simp), (f 0).trans (by go_simp), (f 1).trans (by go_simp), (f' 0).trans (by go_simp), (f' 1).trans (by go_simp)⟩
def put22 (w : World) (b : Nat) (x0 x1 y0 y1 : Value) : World := (((w.setCell ⟨b, 0, none⟩ x0).setCell ⟨b, 1, none⟩ x1).setCell ⟨b + 1, 0, none⟩ y0).setCell ⟨b + 1, 1, none⟩ y1
theorem Two.read {w : World} {b : Nat} (h : Two w b) (x0 x1 y0 y1 : Value) :
    (put22 w b x0 x1 y0 y1).cell? ⟨b, 0, none⟩ = some x0 ∧ (put22 w b x0 x1 y0 y1).cell? ⟨b, 1, none⟩ = some x1 ∧ (put22 w b x0 x1 y0 y1).cell? ⟨b + 1, 0, none⟩ = some y0 ∧ (put22 w b x0 x1 y0 y1).cell? ⟨b + 1, 1, none⟩ = some y1 := by
  obtain ⟨e0, e1⟩ := two_cells w b x0 x1 h.k0 h.k1
  obtain ⟨e2, e3⟩ := two_cells ((w.setCell ⟨b, 0, none⟩ x0).setCell ⟨b, 1, none⟩ x1) (b + 1) y0 y1 (far1 h.m0 (by omega)) (far1 h.m1 (by omega))
  exact ⟨far1 e0 (by omega), far1 e1 (by omega), e2, e3⟩
theorem Two.sl {w : World} {b : Nat} (h : Two w b) {v : Value} {l : List Nat} (hs : Sl w v l) (x0 x1 y0 y1 : Value) : Sl (put22 w b x0 x1 y0 y1) v l :=
  (hs.store2 b h.k0 h.k1 x0 x1).store2 (b + 1) (far1 h.m0 (by omega)) (far1 h.m1 (by omega)) y0 y1
theorem Two.below {w w' : World} {B b : Nat} (h : Below B w w') (hb : B ≤ b) (x0 x1 y0 y1 : Value) : Below B w (put22 w' b x0 x1 y0 y1) :=
  (((h.setCell hb _).setCell hb _).setCell (Nat.le_succ_of_le hb) _).setCell (Nat.le_succ_of_le hb) _
end Go.Proofs.YteggbenhffmijaaGreatDoor

/- WALKS, texts 4: perform, the difference and the product (made by tools/gen_perform.py). -/
namespace Go.Proofs.YteggbenhffmijaaGreatDoor
open Go.RowKit
theorem no_multiple_sum (v : Value) (w : World) : (Instr.typeAssert (.iface 221 v) 227 273 true).run Tryz.prog w = .ok (.tuple #[.agg #[.int .i64 0, .slice none 0 0, .int .i64 0, .slice none 0 0], .bool false]) w := by kernel_rfl
theorem no_multiple_difference (v : Value) (w : World) : (Instr.typeAssert (.iface 221 v) 227 274 true).run Tryz.prog w = .ok (.tuple #[.agg #[.int .i64 0, .slice none 0 0, .int .i64 0, .slice none 0 0], .bool false]) w := by kernel_rfl
theorem method_mul (x0 x1 x2 x3 : Value) (w : World) : (method 526 221 (.agg #[x0, x1, x2, x3]) "metewand/whole.operands").run Tryz.prog w = .ok (399, .agg #[x0, x1, x2, x3]) w := by kernel_rfl
theorem assert_mul (v : Value) (w : World) : (Instr.typeAssert (.iface 221 v) 227 221 true).run Tryz.prog w = .ok (.tuple #[v, .bool true]) w := by kernel_rfl
set_option maxRecDepth 100000 in
set_option maxHeartbeats 800000 in
theorem perform_mul (w : World) (x y : Int) (a1 a2 : Option Addr) (n1 c1 n2 c2 : Nat) (h1 : Sl w (.slice a1 n1 c1) (Wh.limbs x.natAbs)) (h2 : Sl w (.slice a2 n2 c2) (Wh.limbs y.natAbs)) (hx : (Wh.limbs x.natAbs).length < 500) (hy : (Wh.limbs y.natAbs).length < 500) (hmin : (Wh.limbs x.natAbs).length < 32 ∨ (Wh.limbs y.natAbs).length < 32) :
    Calls Tryz.prog 236 #[.iface 221 (.agg #[.int .i64 (Int.sign x), .slice a1 n1 c1, .int .i64 (Int.sign y), .slice a2 n2 c2])] w fun e w' =>
      (∃ v', e = .returned (.tuple #[v', .agg #[.int .i64 0, .slice none 0 0]]) ∧ Num w' v' (x * y)) ∧ Below w.heap.size w w' := by
  have H1 := Lib.hid h1; clear h1
  have H2 := Lib.hid h2; clear h2
  have hme := method_mul (.int .i64 (Int.sign x)) (.slice a1 n1 c1) (.int .i64 (Int.sign y)) (.slice a2 n2 c2)
  go_enter Tryz.func236, Tryz.ntmps236
  go_wp2_with fail
  refine (operands_any _ _ _ _ _ _ _ _ _).mono ?_
  rintro e w2 ⟨rfl, hb2⟩
  clear hme
  have hno0 := no_multiple_sum (.agg #[.int .i64 (Int.sign x), .slice a1 n1 c1, .int .i64 (Int.sign y), .slice a2 n2 c2])
  have hno1 := no_multiple_difference (.agg #[.int .i64 (Int.sign x), .slice a1 n1 c1, .int .i64 (Int.sign y), .slice a2 n2 c2])
  have has := assert_mul (.agg #[.int .i64 (Int.sign x), .slice a1 n1 c1, .int .i64 (Int.sign y), .slice a2 n2 c2])
  have hbb : Below w.heap.size w w2 := (((Below.refl _ _).alloc (Nat.le_refl _) _).alloc (by simp) _).trans (hb2.mono (by simp; omega))
  go_wp2_with fail
  have hal : Below w2.heap.size w2 (((w2.alloc (Obj.cells #[Value.int IntKind.i64 (Int.sign x), Value.slice a1 n1 c1] 92)).alloc (Obj.cells #[Value.int IntKind.i64 (Int.sign y), Value.slice a2 n2 c2] 92)).alloc (Obj.cells #[Value.int IntKind.i64 (Int.sign y), Value.slice a2 n2 c2] 92)) := (((Below.refl _ _).alloc (Nat.le_refl _) _).alloc (by simp) _).alloc (by simp; omega) _
  have hall := hbb.trans (hal.mono hbb.size)
  have q0 : (((w2.alloc (Obj.cells #[Value.int IntKind.i64 (Int.sign x), Value.slice a1 n1 c1] 92)).alloc (Obj.cells #[Value.int IntKind.i64 (Int.sign y), Value.slice a2 n2 c2] 92)).alloc (Obj.cells #[Value.int IntKind.i64 (Int.sign y), Value.slice a2 n2 c2] 92)).cell? ⟨w2.heap.size + 1 + 1, 0, none⟩ = some (.int .i64 (Int.sign y)) := by go_simp
  have q1 : (((w2.alloc (Obj.cells #[Value.int IntKind.i64 (Int.sign x), Value.slice a1 n1 c1] 92)).alloc (Obj.cells #[Value.int IntKind.i64 (Int.sign y), Value.slice a2 n2 c2] 92)).alloc (Obj.cells #[Value.int IntKind.i64 (Int.sign y), Value.slice a2 n2 c2] 92)).cell? ⟨w2.heap.size + 1 + 1, 1, none⟩ = some (.slice a2 n2 c2) := by go_simp
  have t1 := H1.out.mono hall
  have t2 := H2.out.mono hall
  refine (product_any _ (w2.heap.size + 1 + 1) x y (by simp) _ ⟨_, rfl, t1⟩ (Int.sign y) a2 n2 c2 ⟨q0, q1, rfl, t2⟩ (by have : (Wh.limbs x.natAbs).length < 500 := hx; omega) (by have : (Wh.limbs y.natAbs).length < 500 := hy; omega) hmin).mono ?_
  rintro e w3 ⟨⟨v3, rfl, hn3⟩, hb3⟩
  obtain ⟨t, ht⟩ : ∃ t : Int, t = x * y := ⟨_, rfl⟩
  rw [← ht] at hn3
  have HT := Lib.hid ht; clear ht
  obtain ⟨s3, rfl, hs3⟩ := hn3
  obtain ⟨a3, c3, rfl⟩ := hs3.len
  have hw2 : Below (w.heap.size + 2) ((w.alloc (.cells #[.int .i64 0, .slice none 0 0] 92)).alloc (.cells #[.int .i64 0, .slice none 0 0] 92)) w2 := hb2.mono (by simp)
  have hsz : w.heap.size + 2 ≤ w2.heap.size := by have := hw2.size; simpa using this
  have hT := two_new (hw2.trans ((hal.trans (hb3.mono hal.size)).mono hsz))
  have hB3 := Two.below (hbb.trans ((hal.trans (hb3.mono hal.size)).mono hbb.size)) (Nat.le_refl w.heap.size) (.int .i64 (Int.sign t)) (.slice a3 (Wh.limbs t.natAbs).length c3) (.int .i64 0) (.slice none 0 0)
  have hS3 := hT.sl hs3 (.int .i64 (Int.sign t)) (.slice a3 (Wh.limbs t.natAbs).length c3) (.int .i64 0) (.slice none 0 0)
  obtain ⟨r0, r1, r2, r3⟩ := hT.read (.int .i64 (Int.sign t)) (.slice a3 (Wh.limbs t.natAbs).length c3) (.int .i64 0) (.slice none 0 0)
  have k0 := hT.k0
  have k1 := hT.k1
  have m0 := hT.m0
  have m1 := hT.m1
  have f0 := hT.f0
  have f1 := hT.f1
  have g0 := hT.g0
  have g1 := hT.g1
  clear q0 q1 t1 t2 hal hall hb3 hw2 hbb hb2 has hT hs3 hno0 hno1
  go_wp2
  exact bodyPost_ret (v := .tuple #[.agg #[.int .i64 (Int.sign t), .slice a3 (Wh.limbs t.natAbs).length c3], .agg #[.int .i64 0, .slice none 0 0]]) (by unfold put22 at *; simp [results, Tryz.results236, go_sem, r0, r1, r2, r3]) rfl ⟨⟨_, rfl, by rw [← HT.out]; exact ⟨_, rfl, hS3⟩⟩, hB3⟩
end Go.Proofs.YteggbenhffmijaaGreatDoor

/- WALKS, texts 5: single; what Add, Sub and Mul hand to attempt. -/
namespace Go.Proofs.YteggbenhffmijaaGreatDoor
open Go.RowKit
set_option maxHeartbeats 400000 in
theorem length_zero (w : World) (v : Value) (h : Num w v 0) :
    Calls Tryz.prog 194 #[v] w fun e w' => e = .returned (.int .i64 1) ∧ Below w.heap.size w w' := by
  obtain ⟨sl, rfl, hsl⟩ := h
  obtain ⟨a, c, rfl⟩ := hsl.len
  have hz : (Wh.limbs (0 : Int).natAbs).length = 0 := by rw [Int.natAbs_zero, Wh.limbs_zero]; rfl
  rw [hz, Int.sign_zero]
  clear hsl hz
  go_enter Tryz.func194, Tryz.ntmps194
  go_wp2
  go_ret
  exact ⟨rfl, (Below.refl _ _).alloc (Nat.le_refl _) _⟩
theorem len_any (w : World) (v : Value) (x : Int) (h : Num w v x) (htab : Tab w) (hm : (Wh.limbs x.natAbs).length ≤ 5000) :
    Calls Tryz.prog 194 #[v] w fun e w' => e = .returned (.int .i64 (Wh.decN x.natAbs).length) ∧ Below w.heap.size w w' := by
  by_cases hx : x = 0
  · subst hx
    have e0 : (Wh.decN (0 : Int).natAbs).length = 1 := by rw [Int.natAbs_zero, Wh.decN_zero]; rfl
    rw [e0]
    exact length_zero w v h
  · exact length_any x v w h hx htab hm
theorem limbs_valid {x : Int} (h : Valid x) : (Wh.limbs x.natAbs).length ≤ 45 := Wh.limbs_length_of_dec (n := x.natAbs) (k := 45) (by unfold Valid at h; omega)
set_option maxRecDepth 100000 in
set_option maxHeartbeats 400000 in
theorem wtext_any (w : World) (v : Value) (z : Int) (h : Num w v z) (htab : Tab w) (hv : Valid z) :
    Calls Tryz.prog 160 #[v] w fun e w' => e = .returned (txt z) ∧ Below w.heap.size w w' := by
  obtain ⟨sl, rfl, hsl⟩ := h
  obtain ⟨a, c, rfl⟩ := hsl.len
  have HV := Lib.hid hv
  have hm : (Wh.limbs z.natAbs).length ≤ 5000 := by have := limbs_valid hv; omega
  unfold Valid at hv
  have hb0 : Below w.heap.size w (w.alloc (Obj.cells #[.int .i64 (Int.sign z), .slice a (Wh.limbs z.natAbs).length c] 92)) := (Below.refl _ _).alloc (Nat.le_refl _) _
  have H1 := Lib.hid (len_any _ _ z (Num.mk' (hsl.mono hb0) rfl) (htab.mono hb0) hm)
  have H2 := Lib.hid (fun w2 (hb : Below (w.heap.size + 1) (w.alloc (Obj.cells #[.int .i64 (Int.sign z), .slice a (Wh.limbs z.natAbs).length c] 92)) w2) => text_any w2 z (.agg #[.int .i64 (Int.sign z), .slice a (Wh.limbs z.natAbs).length c]) (Num.mk' ((hsl.mono hb0).mono (hb.mono (by simp))) rfl) ((htab.mono hb0).mono (hb.mono (by simp))) HV.out)
  clear hm htab hsl
  unfold txt
  generalize hn : (Wh.decN z.natAbs).length = n at *
  have HN := Lib.hid hn; clear hn
  have hd : decide ((n : Int) ≤ 400) = true := by simp; omega
  generalize (Wh.limbs z.natAbs).length = m at *
  have hk0 : (w.alloc (Obj.cells #[.int .i64 (Int.sign z), .slice a m c] 92)).cell? ⟨w.heap.size, 0, none⟩ = some (.int .i64 (Int.sign z)) := by go_simp
  have hk1 : (w.alloc (Obj.cells #[.int .i64 (Int.sign z), .slice a m c] 92)).cell? ⟨w.heap.size, 1, none⟩ = some (.slice a m c) := by go_simp
  have hs0 : (w.alloc (Obj.cells #[.int .i64 (Int.sign z), .slice a m c] 92)).heap.size = w.heap.size + 1 := by simp
  go_enter Tryz.func160, Tryz.ntmps160
  go_wp2_with fail
  generalize w.alloc (Obj.cells #[.int .i64 (Int.sign z), .slice a m c] 92) = W at *
  refine H1.out.mono ?_
  rintro e w1 ⟨rfl, hb1⟩
  rw [hs0] at hb1
  have HS0 := Lib.hid hs0; clear hs0
  have j0 := (hb1.cell (p := ⟨w.heap.size, 0, none⟩) (Nat.lt_succ_self _)).trans hk0
  have j1 := (hb1.cell (p := ⟨w.heap.size, 1, none⟩) (Nat.lt_succ_self _)).trans hk1
  clear hk0 hk1
  go_wp2_with fail
  refine (demand_yes _ _).mono ?_
  rintro e w2 ⟨rfl, rfl⟩
  go_wp2_with fail
  refine (H2.out _ hb1).mono ?_
  rintro e w3 ⟨rfl, hb3⟩
  have hbb : Below w.heap.size w w3 := hb0.trans ((hb1.trans (hb3.mono (by have := hb1.size; have := HS0.out; omega))).mono (Nat.le_succ _))
  go_wp2
  go_ret
  exact ⟨rfl, hbb⟩
set_option maxHeartbeats 400000 in
theorem single_any (w : World) (o : Value) (z : Int) (htab : Tab w) (hv : Valid z)
    (hp : Calls Tryz.prog 236 #[o] w fun e w' => (∃ v', e = .returned (.tuple #[v', .agg #[.int .i64 0, .slice none 0 0]]) ∧ Num w' v' z) ∧ Below w.heap.size w w') :
    Calls Tryz.prog 224 #[o] w fun e w' => e = .returned (txt z) ∧ Below w.heap.size w w' := by
  have HP := Lib.hid hp; clear hp
  go_enter Tryz.func224, Tryz.ntmps224
  go_wp2_with fail
  refine HP.out.mono ?_
  rintro e w1 ⟨⟨v1, rfl, hn1⟩, hb1⟩
  obtain ⟨s1, rfl, hs1⟩ := hn1
  obtain ⟨a1, c1, rfl⟩ := hs1.len
  go_wp2_with fail
  refine (wtext_any _ _ z (Num.mk' (hs1.mono (((Below.refl _ _).alloc (Nat.le_refl _) _).alloc (by simp) _)) rfl) ((htab.mono hb1).mono (((Below.refl _ _).alloc (Nat.le_refl _) _).alloc (by simp) _)) hv).mono ?_
  rintro e w2 ⟨rfl, hb2⟩
  have hbb : Below w.heap.size w w2 := hb1.trans (((((Below.refl w1.heap.size w1).alloc (Nat.le_refl _) _).alloc (by simp) _).trans (hb2.mono (by simp; omega))).mono hb1.size)
  go_wp2
  go_ret
  exact ⟨rfl, hbb⟩
/-- pa, pb are variables that hold two texts -/
structure Captured (w : World) (pa pb : Addr) (x y : Int) : Prop where
  a : w.cell? pa = some (txt x)
  b : w.cell? pb = some (txt y)
set_option maxHeartbeats 400000 in
theorem mul_work (w : World) (pa pb : Addr) (x y : Int) (hc : Captured w pa pb x y) (hx : Valid x) (hy : Valid y) (hz : Valid (x * y)) (htab : Tab w) (hmin : (Wh.limbs x.natAbs).length < 32 ∨ (Wh.limbs y.natAbs).length < 32) :
    Calls Tryz.prog 223 #[.pointer (some pa), .pointer (some pb)] w fun e w' => e = .returned (txt (x * y)) ∧ Below w.heap.size w w' := by
  have ha := hc.a
  have hb := hc.b
  have H1 := Lib.hid (fun w => readPair_any x y hx hy w)
  clear hc
  unfold txt at *
  go_enter Tryz.func223, Tryz.ntmps223
  go_wp2_with fail
  refine (H1.out _).mono ?_
  rintro e w1 ⟨⟨a1, n1, c1, a2, n2, c2, rfl, hs1, hs2⟩, hb1⟩
  go_wp2_with fail
  refine (single_any _ _ (x * y) (htab.mono hb1) hz (perform_mul _ x y _ _ _ _ _ _ hs1 hs2 (by have := limbs_valid hx; omega) (by have := limbs_valid hy; omega) hmin)).mono ?_
  rintro e w2 ⟨rfl, hb2⟩
  have hbb : Below w.heap.size w w2 := hb1.trans (hb2.mono hb1.size)
  unfold txt
  go_wp2
  go_ret
  exact ⟨rfl, hbb⟩
end Go.Proofs.YteggbenhffmijaaGreatDoor
