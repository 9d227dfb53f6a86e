/- Part 33 of the proofs that laws of package whole answer true at every input and leave the input as it was, where the library's variables start as the text lays them (the texts Y7). -/
import Derived.Test.YteaeloeebfdodaaGreatDoorZ25
import Derived.Test.YteaeloeebfdodaaGreatDoorZ32
import Derived.Test.YteaeloeebfdodaaGreatDoorZ06
set_option linter.unusedVariables false
set_option linter.unusedSimpArgs false
namespace Go.Proofs.YteaeloeebfdodaaGreatDoor
open Go.RowKit Go.Proofs.Rf
def three3 {α : Type} (a b c : α) (i : Nat) : α := if i = 0 then a else if i = 1 then b else c
theorem cells3 (w : World) (a b c : Value) (t : TypeId) (i : Nat) (hi : i < 3) : (w.alloc (Obj.cells #[a, b, c] t)).cell? ⟨w.heap.size, i, none⟩ = some (three3 a b c i) := by
  rcases (by omega : i = 0 ∨ i = 1 ∨ i = 2) with rfl | rfl | rfl <;> unfold three3 <;> go_simp
theorem only_cell {b : Nat} {w w' : World} (h : Only b w w') {k : Nat} (hk : k ≠ b) (hl : k < w.heap.size) {i : Nat} : w'.cell? ⟨k, i, none⟩ = w.cell? ⟨k, i, none⟩ := by
  unfold World.cell?
  rw [h.block k hk hl]
theorem three3_str (l m k : List UInt8) (i : Nat) : three3 (Value.string (str l)) (.string (str m)) (.string (str k)) i = .string (str (three3 l m k i)) := by
  unfold three3
  split
  · rfl
  · split <;> rfl
theorem three3_int (a b c : Int) (i : Nat) : three3 (Value.int .i64 a) (.int .i64 b) (.int .i64 c) i = .int .i64 (three3 a b c i) := by
  unfold three3
  split
  · rfl
  · split <;> rfl
theorem pow_fits {b : Int} {k : Nat} (h1 : 2 ≤ b) (h2 : b ≤ 36) (hk : k ≤ 151) : b.toNat ^ k < 10 ^ 400 := by
  have h3 : b.toNat ^ k ≤ 36 ^ 151 := Nat.le_trans (Nat.pow_le_pow_left (by omega) k) (Nat.pow_le_pow_right (by decide) hk)
  exact Nat.lt_of_le_of_lt h3 (by decide +kernel)
theorem pow_mono_lt {b k m : Nat} (hb : 2 ≤ b) (hk : k ≤ m) (h : b ^ m < 10 ^ 400) : b ^ k < 10 ^ 400 := Nat.lt_of_le_of_lt (Nat.pow_le_pow_right (by omega) hk) h
def RG (a1 i1 a2 i2 : Nat) (S : ByteArray) (B : Int) (R : ByteArray) (E : Int) : Nat → Value → World → Prop
  | 0, v, _ => v = .slice (some ⟨a1, 0, none⟩) 3 3
  | 1, v, _ => v = .int .i64 i1
  | 2, v, _ => v = .pointer (some ⟨a1, i1, none⟩)
  | 3, v, _ => v = .string S
  | 4, v, _ => v = .slice (some ⟨a2, 0, none⟩) 3 3
  | 5, v, _ => v = .int .i64 i2
  | 6, v, _ => v = .pointer (some ⟨a2, i2, none⟩)
  | 7, v, _ => v = .int .i64 B
  | 8, v, _ | 9, v, _ => v = .tuple #[.string R, .int .i64 E]
  | 10, v, _ => v = .string R
  | 11, v, _ => v = .int .i64 E
  | _, _, _ => True
theorem RG_stays (a1 i1 a2 i2 : Nat) (S : ByteArray) (B : Int) (R : ByteArray) (E : Int) : ∀ k v w w', RG a1 i1 a2 i2 S B R E k v w → Below w.heap.size w w' → RG a1 i1 a2 i2 S B R E k v w' := by
  intro k v w w' h _
  match k, h with
  | 0, h | 1, h | 2, h | 3, h | 4, h | 5, h | 6, h | 7, h | 8, h | 9, h | 10, h | 11, h => exact h
  | _ + 12, h => trivial
def Txts (w : World) (tb : Nat) (S R : ByteArray) (sl : List UInt8) (m : Nat) : Prop := tb < w.heap.size ∧ sl.length ≤ m ∧ ∀ k, k < 3 → w.cell? ⟨tb, k, none⟩ = some (three3 (.string S) (.string R) (.string (str sl)) k)
theorem Txts.mono {w w' : World} {tb : Nat} {S R : ByteArray} {sl : List UInt8} {m : Nat} (h : Txts w tb S R sl m) (hb : Below w.heap.size w w') : Txts w' tb S R sl m :=
  ⟨Nat.lt_of_lt_of_le h.1 hb.size, h.2.1, fun k hk => (hb.cell (p := ⟨tb, k, none⟩) h.1).trans (h.2.2 k hk)⟩
def RS (a1 i1 c m : Nat) (A H : Int) (S R : ByteArray) : Nat → Value → World → Prop
  | 0, v, _ => v = .slice (some ⟨a1, 0, none⟩) 3 3
  | 1, v, _ => v = .int .i64 i1
  | 2, v, _ => v = .pointer (some ⟨a1, i1, none⟩)
  | 3, v, _ => v = .string S
  | 4, v, _ | 5, v, _ => v = .string R
  | 6, v, _ => v = .int .i64 A
  | 7, v, _ => v = .int .i64 H
  | 8, v, _ => v = .int .u8 c
  | 9, v, _ => ∃ sl : List UInt8, v = .string (str sl) ∧ sl.length ≤ m
  | 10, v, w | 11, v, w => ∃ tb sl, v = .slice (some ⟨tb, 0, none⟩) 3 3 ∧ Txts w tb S R sl m
  | _, _, _ => True
theorem RS_stays (a1 i1 c m : Nat) (A H : Int) (S R : ByteArray) : ∀ k v w w', RS a1 i1 c m A H S R k v w → Below w.heap.size w w' → RS a1 i1 c m A H S R k v w' := by
  intro k v w w' h hb
  match k, h with
  | 0, h | 1, h | 2, h | 3, h | 4, h | 5, h | 6, h | 7, h | 8, h | 9, h => exact h
  | 10, h | 11, h => obtain ⟨tb, sl, e, ht⟩ := h; exact ⟨tb, sl, e, ht.mono hb⟩
  | _ + 12, h => trivial
set_option maxRecDepth 100000 in
set_option maxHeartbeats 8000000 in
theorem bases_true (w : World) (l : List UInt8) (b0 A H : Int) (c : Nat) (hc : c < 256) (a : Option Addr) (n cc : Nat) (h : Nums w a n) (ht : Tab w) (hE : ErrT w) :
    Calls Tryz.prog 9 #[.string (str l), .int .i64 b0, .int .i64 A, .int .i64 H, .int .u8 c, .slice a n cc] w fun e w' => e = .returned (.bool true) ∧ Below w.heap.size w w' := by
  have HN := Lib.hid h; clear h
  have HT := Lib.hid ht; clear ht
  have HE := Lib.hid hE; clear hE
  have HSZ : Hid ((str l).size = l.length) := Lib.hid rfl
  by_cases hlen : 150 < l.length
  · have hd : decide ((150 : Int) < ((str l).size : Nat)) = true := by rw [decide_eq_true_iff, HSZ.out]; omega
    generalize str l = S at *
    go_enter Tryz.func9, Tryz.ntmps9
    go_wp2_with fail
    refine (counted_holds _ HT.out).mono ?_
    rintro e wz ⟨rfl, hb⟩
    go_wp2_with fail
    go_ret
    exact ⟨rfl, hb⟩
  · have hd : decide ((150 : Int) < ((str l).size : Nat)) = false := by rw [decide_eq_false_iff_not, HSZ.out]; omega
    generalize hS : str l = S at *
    go_enter Tryz.func9, Tryz.ntmps9
    go_wp2_with fail
    refine (NewRod_any _ _ _ _ HN.out).mono ?_
    rintro e w1 ⟨rfl, hR, hB1⟩
    have HR := Lib.hid hR; clear hR
    have HB1 := Lib.hid hB1; clear hB1
    go_wp2_with fail
    refine (Whole_bd _ _ a n cc _ 30 HR.out (by omega) (by omega)).mono ?_
    rintro e w2 ⟨⟨x, rfl, hx⟩, hO, k1, hk1, hR⟩
    have HB2 := Lib.hid (HB1.out.trans (hO.below (Nat.le_refl _) HB1.out.size))
    clear HR HB1 hO
    have HR := Lib.hid hR; clear hR
    have HX := Lib.hid hx; clear hx
    unfold txt
    generalize hTX : str (Wh.decI x) = TX at *
    go_wp2_with fail
    have HNE0 : Hid (w2.heap.size ≠ w.heap.size) := Lib.hid (by have := HR.out.lt; omega)
    have hal : Below w2.heap.size w2 (w2.alloc (Obj.cells #[.string S, .string TX, .string S] 9)) := (Below.refl _ _).alloc (Nat.le_refl _) _
    have HRa := Lib.hid (HR.out.mono hal)
    have HCA := Lib.hid (fun i hi => cells3 w2 (.string S) (.string TX) (.string S) 9 i hi)
    have HLA : Hid (w2.heap.size < (w2.alloc (Obj.cells #[.string S, .string TX, .string S] 9)).heap.size) := Lib.hid (by simp)
    have HB3 := Lib.hid (HB2.out.trans (hal.mono HB2.out.size))
    clear hal HR HB2
    generalize hw3 : w2.alloc (Obj.cells #[.string S, .string TX, .string S] 9) = w3 at *
    clear hw3
    refine (From_any _ _ _ _ _ _ 2 36 HRa.out (by omega) (by omega)).mono ?_
    rintro e w4 ⟨⟨f1, rfl, hf1⟩, hR, hO⟩
    have hne := HRa.out.lt
    have HR := Lib.hid hR; clear hR HRa
    have HB4 := Lib.hid (HB3.out.trans (hO.below (Nat.le_refl _) HB3.out.size))
    have HO4 := Lib.hid hO; clear hO
    go_wp2_with fail
    refine (From_any _ _ _ _ _ _ 2 36 HR.out (by omega) (by omega)).mono ?_
    rintro e w5 ⟨⟨f2, rfl, hf2⟩, hR, hO⟩
    have HB5 := Lib.hid (HB4.out.trans (hO.below (Nat.le_refl _) HB4.out.size))
    have HO5 := Lib.hid (HO4.out.trans hO); clear hO hR HR HO4 HB4
    have HNE : Hid (w2.heap.size ≠ w.heap.size) := Lib.hid HNE0.out
    go_wp2_with fail
    have hal5 : Below w5.heap.size w5 (w5.alloc (Obj.cells #[.int .i64 b0, .int .i64 f1, .int .i64 f2] 3)) := (Below.refl _ _).alloc (Nat.le_refl _) _
    have hab : w2.heap.size < w5.heap.size := Nat.lt_of_lt_of_le HLA.out HO5.out.size
    have HCB : Hid (∀ i, i < 3 → (w5.alloc (Obj.cells #[.int .i64 b0, .int .i64 f1, .int .i64 f2] 3)).cell? ⟨w5.heap.size, i, none⟩ = some (.int .i64 (three3 b0 f1 f2 i))) := Lib.hid (fun i hi => by rw [cells3 w5 _ _ _ _ i hi, three3_int])
    have HCC : Hid (∀ i, i < 3 → (w5.alloc (Obj.cells #[.int .i64 b0, .int .i64 f1, .int .i64 f2] 3)).cell? ⟨w2.heap.size, i, none⟩ = some (.string (str (three3 l (Wh.decI x) l i)))) := Lib.hid (fun i hi => by
      rw [hal5.cell (p := ⟨w2.heap.size, i, none⟩) hab, only_cell HO5.out HNE.out HLA.out, HCA.out i hi, ← hS, ← hTX, three3_str])
    have HLB : Hid (w5.heap.size < (w5.alloc (Obj.cells #[.int .i64 b0, .int .i64 f1, .int .i64 f2] 3)).heap.size) := Lib.hid (by simp)
    have HLC : Hid (w2.heap.size < (w5.alloc (Obj.cells #[.int .i64 b0, .int .i64 f1, .int .i64 f2] 3)).heap.size) := Lib.hid (by simp; omega)
    have HBV := Lib.hid (HB5.out.trans (hal5.mono HB5.out.size))
    have hxl : (Wh.decI x).length ≤ 31 := by
      have h1 : (Wh.decN x.natAbs).length ≤ 30 := Wh.decN_length_le (by decide) HX.out
      have h2 := decI_size x
      have h3 : (str (Wh.decI x)).size = (Wh.decI x).length := rfl
      rw [h3] at h2
      split at h2 <;> omega
    clear hal5 HCA HLA HB5 HO5 HB3 HNE
    generalize w2.heap.size = AB at *
    generalize w5.heap.size = BB at *
    generalize w5.alloc (Obj.cells #[.int .i64 b0, .int .i64 f1, .int .i64 f2] 3) = V at *
    go_loopw [16, 17, 18, 19, 20, 21, 22, 23, 24, 25, 26] (fun iv _ _ _ _ _ _ _ _ _ _ wr => ∃ i : Nat, i ≤ 3 ∧ iv = .int .i64 (i : Int) ∧ Hid (Below V.heap.size V wr)) (fun iv _ _ _ _ _ _ _ _ _ _ _ => 3 - (intOf iv).toNat)
    case atStart => exact ⟨0, Nat.zero_le _, rfl, Lib.hid (Below.refl _ _)⟩
    case round =>
      obtain ⟨i, hi, rfl, HI⟩ := hrel
      by_cases hip : i < 3
      · have hd3 : decide ((i : Int) < 3) = true := by rw [decide_eq_true_iff]; omega
        have hSl : (three3 l (Wh.decI x) l i).length ≤ 150 := by unfold three3; split <;> (try split) <;> omega
        obtain ⟨q, ec, hq1, hq2, hwb, hrb⟩ := base_same (three3 l (Wh.decI x) l i) (three3 b0 f1 f2 i) hSl
        have HWB := Lib.hid hwb; have HRB := Lib.hid hrb; clear hwb hrb
        have HQ2 := Lib.hid hq2; clear hq2
        have hca := (HI.out.cell (p := ⟨AB, i, none⟩) HLC.out).trans (HCC.out i hip)
        have hcb := (HI.out.cell (p := ⟨BB, i, none⟩) HLB.out).trans (HCB.out i hip)
        have HCA := Lib.hid hca; have HCB2 := Lib.hid hcb
        have HLS := Lib.hid hSl; clear hSl
        generalize hSi : str (three3 l (Wh.decI x) l i) = SI at *
        generalize hBi : three3 b0 f1 f2 i = BI at *
        generalize hTQ : str q = TQ at *
        have hi0 : (0 : Int) ≤ (i : Int) := by omega
        have hi3 : (i : Int) < 3 := by omega
        have hi4 : (i : Int).toNat = i := by omega
        go_wp2_with fail
        have HG : Hid (Below w.heap.size w wr) := Lib.hid (HBV.out.trans (HI.out.mono HBV.out.size))
        refine wp_mono (Q := fun e a' W' => e = .normal ∧ (∃ (vals : Nat → Value), a' = { tmps := #[Value.string S, Value.int IntKind.i64 b0, Value.int IntKind.i64 A, Value.int IntKind.i64 H, Value.int IntKind.u8 ↑c, Value.slice a n cc, undef, undef, undef, undef, undef, undef, u12, Value.pointer (some { block := w.heap.size, off := 0 }), Value.slice (some { block := AB, off := 0 }) 3 3, Value.slice (some { block := BB, off := 0 }) 3 3, Value.int IntKind.i64 ↑i, .string TQ, .int .i64 ec, u19, u20, u21, u22, u23, u24, u25, u26, Value.string S, Value.int IntKind.i64 ↑S.size, Value.bool false, undef, Value.slice a n cc, Value.pointer (some { block := w.heap.size, off := 0 }), Value.string S, Value.pointer (some { block := w.heap.size, off := 0 }), Value.string TX, Value.string S, Value.slice (some { block := AB, off := 0 }) 3 3, Value.int IntKind.i64 b0, Value.pointer (some { block := w.heap.size, off := 0 }), Value.int IntKind.i64 f1, Value.pointer (some { block := w.heap.size, off := 0 }), Value.int IntKind.i64 f2, Value.slice (some { block := BB, off := 0 }) 3 3, Value.int IntKind.i64 ↑i, Value.slice (some { block := AB, off := 0 }) 3 3, Value.int IntKind.i64 3, Value.bool true, u48, u49, vals 9, vals 0, vals 1, vals 2, vals 3, vals 4, vals 5, vals 6, vals 7, vals 8, vals 10, vals 11, u62, u63, u64, u65, u66, u67, u68, u69, u70, u71, u72, u73, u74, u75, u76, u77, u78, u79, u80, u81, u82, u83, u84, u85, u86, u87, u88, u89, u90, u91, u92, u93, u94, u95, u96, u97, u98, u99, u100, u101, u102, u103, u104, u105, u106, u107, u108, u109, u110, u111, u112, u113, u114, u115, u116, u117, u118, u119, u120, u121, u122, u123, u124, u125, u126, u127, u128, u129, u130, undef], defers := [] }) ∧ Below wr.heap.size wr W') ?_ ?_
        refine Rt.wp_region_grow (n0 := 2) [12, 13] [11] 132 (fun vals => { tmps := #[Value.string S, Value.int IntKind.i64 b0, Value.int IntKind.i64 A, Value.int IntKind.i64 H, Value.int IntKind.u8 ↑c, Value.slice a n cc, undef, undef, undef, undef, undef, undef, u12, Value.pointer (some { block := w.heap.size, off := 0 }), Value.slice (some { block := AB, off := 0 }) 3 3, Value.slice (some { block := BB, off := 0 }) 3 3, Value.int IntKind.i64 ↑i, u17, u18, u19, u20, u21, u22, u23, u24, u25, u26, Value.string S, Value.int IntKind.i64 ↑S.size, Value.bool false, undef, Value.slice a n cc, Value.pointer (some { block := w.heap.size, off := 0 }), Value.string S, Value.pointer (some { block := w.heap.size, off := 0 }), Value.string TX, Value.string S, Value.slice (some { block := AB, off := 0 }) 3 3, Value.int IntKind.i64 b0, Value.pointer (some { block := w.heap.size, off := 0 }), Value.int IntKind.i64 f1, Value.pointer (some { block := w.heap.size, off := 0 }), Value.int IntKind.i64 f2, Value.slice (some { block := BB, off := 0 }) 3 3, Value.int IntKind.i64 ↑i, Value.slice (some { block := AB, off := 0 }) 3 3, Value.int IntKind.i64 3, Value.bool true, u48, u49, vals 9, vals 0, vals 1, vals 2, vals 3, vals 4, vals 5, vals 6, vals 7, vals 8, vals 10, vals 11, u62, u63, u64, u65, u66, u67, u68, u69, u70, u71, u72, u73, u74, u75, u76, u77, u78, u79, u80, u81, u82, u83, u84, u85, u86, u87, u88, u89, u90, u91, u92, u93, u94, u95, u96, u97, u98, u99, u100, u101, u102, u103, u104, u105, u106, u107, u108, u109, u110, u111, u112, u113, u114, u115, u116, u117, u118, u119, u120, u121, u122, u123, u124, u125, u126, u127, u128, u129, u130, undef], defers := [] }) (RG AB i BB i SI BI TQ ec) (by kernel_rfl) (by kernel_rfl) (by kernel_rfl) (by kernel_rfl) (fun _ _ _ _ _ h => absurd h.1 (by simp)) (by kernel_rfl) rfl (fun _ => by kernel_rfl) (by kernel_rfl) (by kernel_rfl) (RG_stays _ _ _ _ _ _ _ _) ?_ ?_ ?_
        · intro k o d hi hT hW hd vals w' hb hf
          have hlt' : k < 14 := (Array.getElem?_eq_some_iff.1 hi).1
          rcases k with _ | _ | _ | _ | _ | _ | _ | _ | _ | _ | _ | _ | _ | _ | k
          · obtain rfl := Option.some.inj hi
            obtain rfl := Option.some.inj hd
            dsimp only
            go_simp
            exact ⟨rfl, Below.refl _ _⟩
          · obtain rfl := Option.some.inj hi
            obtain rfl := Option.some.inj hd
            dsimp only
            go_simp
            exact ⟨rfl, Below.refl _ _⟩
          · obtain rfl := Option.some.inj hi
            obtain rfl := Option.some.inj hd
            have e0 : vals 0 = _ := hf 0 (by kernel_rfl)
            have e1 : vals 1 = _ := hf 1 (by kernel_rfl)
            dsimp only
            rw [e0, e1]
            go_simp
            exact ⟨rfl, Below.refl _ _⟩
          · obtain rfl := Option.some.inj hi
            obtain rfl := Option.some.inj hd
            have e2 : vals 2 = _ := hf 2 (by kernel_rfl)
            have hcl := (hb.cell (p := ⟨AB, i, none⟩) (Nat.lt_of_lt_of_le HLC.out HI.out.size)).trans hca
            dsimp only
            rw [e2]
            go_simp
            exact ⟨rfl, Below.refl _ _⟩
          · obtain rfl := Option.some.inj hi
            obtain rfl := Option.some.inj hd
            dsimp only
            go_simp
            exact ⟨rfl, Below.refl _ _⟩
          · obtain rfl := Option.some.inj hi
            obtain rfl := Option.some.inj hd
            dsimp only
            go_simp
            exact ⟨rfl, Below.refl _ _⟩
          · obtain rfl := Option.some.inj hi
            obtain rfl := Option.some.inj hd
            have e4 : vals 4 = _ := hf 4 (by kernel_rfl)
            have e5 : vals 5 = _ := hf 5 (by kernel_rfl)
            dsimp only
            rw [e4, e5]
            go_simp
            exact ⟨rfl, Below.refl _ _⟩
          · obtain rfl := Option.some.inj hi
            obtain rfl := Option.some.inj hd
            have e6 : vals 6 = _ := hf 6 (by kernel_rfl)
            have hcl := (hb.cell (p := ⟨BB, i, none⟩) (Nat.lt_of_lt_of_le HLB.out HI.out.size)).trans hcb
            dsimp only
            rw [e6]
            go_simp
            exact ⟨rfl, Below.refl _ _⟩
          · obtain rfl := Option.some.inj hi
            obtain rfl := Option.some.inj hd
            have e3 : vals 3 = _ := hf 3 (by kernel_rfl)
            have e7 : vals 7 = _ := hf 7 (by kernel_rfl)
            dsimp only
            rw [e3, e7]
            go_simp
            refine (HWB.out w' (HT.out.mono (HG.out.trans (hb.mono HG.out.size))) (HE.out.mono (HG.out.trans (hb.mono HG.out.size)))).mono ?_
            rintro e w5 ⟨rfl, hb5⟩
            exact ⟨rfl, hb5⟩
          · obtain rfl := Option.some.inj hi
            obtain rfl := Option.some.inj hd
            have e8 : vals 8 = _ := hf 8 (by kernel_rfl)
            dsimp only
            rw [e8]
            go_simp
            exact ⟨rfl, Below.refl _ _⟩
          · obtain rfl := Option.some.inj hi
            obtain rfl := Option.some.inj hd
            have e9 : vals 9 = _ := hf 9 (by kernel_rfl)
            dsimp only
            rw [e9]
            go_simp
            exact ⟨rfl, Below.refl _ _⟩
          · cases hW
          · cases hT
          · cases hT
          · omega
        · intro p o d hi hW hd vals w' hb hf
          have hlt' : p < 14 := (Array.getElem?_eq_some_iff.1 hi).1
          rcases p with _ | _ | _ | _ | _ | _ | _ | _ | _ | _ | _ | _ | _ | _ | p
          · cases hW
          · cases hW
          · cases hW
          · cases hW
          · cases hW
          · cases hW
          · cases hW
          · cases hW
          · cases hW
          · cases hW
          · cases hW
          · obtain rfl := Option.some.inj hi
            obtain rfl := Option.some.inj hd
            have e9 : vals 9 = _ := hf 9 (by kernel_rfl)
            exact ⟨_, fun w'' => by dsimp only; rw [e9]; go_simp, rfl⟩
          · cases hW
          · cases hW
          · omega
        · intro vals w' hb hf
          have e10 : vals 10 = .string TQ := hf 10 (by decide) rfl
          have e11 : vals 11 = .int .i64 ec := hf 11 (by decide) rfl
          clear hf
          rw [e10, e11]
          refine Rt.wpAny_step (i := 12) (by kernel_rfl) rfl (by rfl) (fun K hK => ?_)
          have HK := Lib.hid hK; clear hK
          go_simp
          refine HK.out _ _ ?_
          clear HK
          refine Rt.wpAny_step (i := 13) (by kernel_rfl) rfl (by rfl) (fun K hK => ?_)
          have HK := Lib.hid hK; clear hK
          go_simp
          refine HK.out _ _ ?_
          exact Rt.wpAny_end (by kernel_rfl) ⟨rfl, ⟨vals, by rw [e10, e11]⟩, hb⟩
        rintro e a' wr2 ⟨rfl, ⟨va, rfl⟩, hb1⟩
        have HI2 := Lib.hid (HI.out.trans (hb1.mono HI.out.size))
        have hca2 := (hb1.cell (p := ⟨AB, i, none⟩) (Nat.lt_of_lt_of_le HLC.out HI.out.size)).trans hca
        have hcb2 := (hb1.cell (p := ⟨BB, i, none⟩) (Nat.lt_of_lt_of_le HLB.out HI.out.size)).trans hcb
        clear hca hcb hb1 HG HI
        generalize va 0 = gva0; generalize va 1 = gva1; generalize va 2 = gva2; generalize va 3 = gva3; generalize va 4 = gva4; generalize va 5 = gva5; generalize va 6 = gva6; generalize va 7 = gva7; generalize va 8 = gva8; generalize va 9 = gva9; generalize va 10 = gva10; generalize va 11 = gva11
        go_wp2_with fail
        refine wp_mono (Q := fun e a' W' => e = .normal ∧ (∃ (vals : Nat → Value), a' = { tmps := #[Value.string S, Value.int IntKind.i64 b0, Value.int IntKind.i64 A, Value.int IntKind.i64 H, Value.int IntKind.u8 ↑c, Value.slice a n cc, undef, undef, undef, undef, undef, undef, u12, Value.pointer (some { block := w.heap.size, off := 0 }), Value.slice (some { block := AB, off := 0 }) 3 3, Value.slice (some { block := BB, off := 0 }) 3 3, Value.int IntKind.i64 ↑i, Value.string TQ, Value.int IntKind.i64 ec, .string TQ, .int .i64 ec, u21, u22, u23, u24, u25, u26, Value.string S, Value.int IntKind.i64 ↑S.size, Value.bool false, undef, Value.slice a n cc, Value.pointer (some { block := w.heap.size, off := 0 }), Value.string S, Value.pointer (some { block := w.heap.size, off := 0 }), Value.string TX, Value.string S, Value.slice (some { block := AB, off := 0 }) 3 3, Value.int IntKind.i64 b0, Value.pointer (some { block := w.heap.size, off := 0 }), Value.int IntKind.i64 f1, Value.pointer (some { block := w.heap.size, off := 0 }), Value.int IntKind.i64 f2, Value.slice (some { block := BB, off := 0 }) 3 3, Value.int IntKind.i64 ↑i, Value.slice (some { block := AB, off := 0 }) 3 3, Value.int IntKind.i64 3, Value.bool true, u48, u49, gva9, gva0, gva1, gva2, gva3, gva4, gva5, gva6, gva7, gva8, gva10, gva11, vals 9, vals 0, vals 1, vals 2, vals 3, vals 4, vals 5, vals 6, vals 7, vals 8, vals 10, vals 11, u74, u75, u76, u77, u78, u79, u80, u81, u82, u83, u84, u85, u86, u87, u88, u89, u90, u91, u92, u93, u94, u95, u96, u97, u98, u99, u100, u101, u102, u103, u104, u105, u106, u107, u108, u109, u110, u111, u112, u113, u114, u115, u116, u117, u118, u119, u120, u121, u122, u123, u124, u125, u126, u127, u128, u129, u130, undef], defers := [] }) ∧ Below wr2.heap.size wr2 W') ?_ ?_
        refine Rt.wp_region_grow (n0 := 2) [12, 13] [11] 132 (fun vals => { tmps := #[Value.string S, Value.int IntKind.i64 b0, Value.int IntKind.i64 A, Value.int IntKind.i64 H, Value.int IntKind.u8 ↑c, Value.slice a n cc, undef, undef, undef, undef, undef, undef, u12, Value.pointer (some { block := w.heap.size, off := 0 }), Value.slice (some { block := AB, off := 0 }) 3 3, Value.slice (some { block := BB, off := 0 }) 3 3, Value.int IntKind.i64 ↑i, Value.string TQ, Value.int IntKind.i64 ec, u19, u20, u21, u22, u23, u24, u25, u26, Value.string S, Value.int IntKind.i64 ↑S.size, Value.bool false, undef, Value.slice a n cc, Value.pointer (some { block := w.heap.size, off := 0 }), Value.string S, Value.pointer (some { block := w.heap.size, off := 0 }), Value.string TX, Value.string S, Value.slice (some { block := AB, off := 0 }) 3 3, Value.int IntKind.i64 b0, Value.pointer (some { block := w.heap.size, off := 0 }), Value.int IntKind.i64 f1, Value.pointer (some { block := w.heap.size, off := 0 }), Value.int IntKind.i64 f2, Value.slice (some { block := BB, off := 0 }) 3 3, Value.int IntKind.i64 ↑i, Value.slice (some { block := AB, off := 0 }) 3 3, Value.int IntKind.i64 3, Value.bool true, u48, u49, gva9, gva0, gva1, gva2, gva3, gva4, gva5, gva6, gva7, gva8, gva10, gva11, vals 9, vals 0, vals 1, vals 2, vals 3, vals 4, vals 5, vals 6, vals 7, vals 8, vals 10, vals 11, u74, u75, u76, u77, u78, u79, u80, u81, u82, u83, u84, u85, u86, u87, u88, u89, u90, u91, u92, u93, u94, u95, u96, u97, u98, u99, u100, u101, u102, u103, u104, u105, u106, u107, u108, u109, u110, u111, u112, u113, u114, u115, u116, u117, u118, u119, u120, u121, u122, u123, u124, u125, u126, u127, u128, u129, u130, undef], defers := [] }) (RG AB i BB i SI BI TQ ec) (by kernel_rfl) (by kernel_rfl) (by kernel_rfl) (by kernel_rfl) (fun _ _ _ _ _ h => absurd h.1 (by simp)) (by kernel_rfl) rfl (fun _ => by kernel_rfl) (by kernel_rfl) (by kernel_rfl) (RG_stays _ _ _ _ _ _ _ _) ?_ ?_ ?_
        · intro k o d hi hT hW hd vals w' hb hf
          have hlt' : k < 14 := (Array.getElem?_eq_some_iff.1 hi).1
          rcases k with _ | _ | _ | _ | _ | _ | _ | _ | _ | _ | _ | _ | _ | _ | k
          · obtain rfl := Option.some.inj hi
            obtain rfl := Option.some.inj hd
            dsimp only
            go_simp
            exact ⟨rfl, Below.refl _ _⟩
          · obtain rfl := Option.some.inj hi
            obtain rfl := Option.some.inj hd
            dsimp only
            go_simp
            exact ⟨rfl, Below.refl _ _⟩
          · obtain rfl := Option.some.inj hi
            obtain rfl := Option.some.inj hd
            have e0 : vals 0 = _ := hf 0 (by kernel_rfl)
            have e1 : vals 1 = _ := hf 1 (by kernel_rfl)
            dsimp only
            rw [e0, e1]
            go_simp
            exact ⟨rfl, Below.refl _ _⟩
          · obtain rfl := Option.some.inj hi
            obtain rfl := Option.some.inj hd
            have e2 : vals 2 = _ := hf 2 (by kernel_rfl)
            have hcl := (hb.cell (p := ⟨AB, i, none⟩) (Nat.lt_of_lt_of_le HLC.out HI2.out.size)).trans hca2
            dsimp only
            rw [e2]
            go_simp
            exact ⟨rfl, Below.refl _ _⟩
          · obtain rfl := Option.some.inj hi
            obtain rfl := Option.some.inj hd
            dsimp only
            go_simp
            exact ⟨rfl, Below.refl _ _⟩
          · obtain rfl := Option.some.inj hi
            obtain rfl := Option.some.inj hd
            dsimp only
            go_simp
            exact ⟨rfl, Below.refl _ _⟩
          · obtain rfl := Option.some.inj hi
            obtain rfl := Option.some.inj hd
            have e4 : vals 4 = _ := hf 4 (by kernel_rfl)
            have e5 : vals 5 = _ := hf 5 (by kernel_rfl)
            dsimp only
            rw [e4, e5]
            go_simp
            exact ⟨rfl, Below.refl _ _⟩
          · obtain rfl := Option.some.inj hi
            obtain rfl := Option.some.inj hd
            have e6 : vals 6 = _ := hf 6 (by kernel_rfl)
            have hcl := (hb.cell (p := ⟨BB, i, none⟩) (Nat.lt_of_lt_of_le HLB.out HI2.out.size)).trans hcb2
            dsimp only
            rw [e6]
            go_simp
            exact ⟨rfl, Below.refl _ _⟩
          · obtain rfl := Option.some.inj hi
            obtain rfl := Option.some.inj hd
            have e3 : vals 3 = _ := hf 3 (by kernel_rfl)
            have e7 : vals 7 = _ := hf 7 (by kernel_rfl)
            dsimp only
            rw [e3, e7]
            go_simp
            refine (HRB.out w').mono ?_
            rintro e w5 ⟨rfl, hb5⟩
            exact ⟨rfl, hb5⟩
          · obtain rfl := Option.some.inj hi
            obtain rfl := Option.some.inj hd
            have e8 : vals 8 = _ := hf 8 (by kernel_rfl)
            dsimp only
            rw [e8]
            go_simp
            exact ⟨rfl, Below.refl _ _⟩
          · obtain rfl := Option.some.inj hi
            obtain rfl := Option.some.inj hd
            have e9 : vals 9 = _ := hf 9 (by kernel_rfl)
            dsimp only
            rw [e9]
            go_simp
            exact ⟨rfl, Below.refl _ _⟩
          · cases hW
          · cases hT
          · cases hT
          · omega
        · intro p o d hi hW hd vals w' hb hf
          have hlt' : p < 14 := (Array.getElem?_eq_some_iff.1 hi).1
          rcases p with _ | _ | _ | _ | _ | _ | _ | _ | _ | _ | _ | _ | _ | _ | p
          · cases hW
          · cases hW
          · cases hW
          · cases hW
          · cases hW
          · cases hW
          · cases hW
          · cases hW
          · cases hW
          · cases hW
          · cases hW
          · obtain rfl := Option.some.inj hi
            obtain rfl := Option.some.inj hd
            have e9 : vals 9 = _ := hf 9 (by kernel_rfl)
            exact ⟨_, fun w'' => by dsimp only; rw [e9]; go_simp, rfl⟩
          · cases hW
          · cases hW
          · omega
        · intro vals w' hb hf
          have e10 : vals 10 = .string TQ := hf 10 (by decide) rfl
          have e11 : vals 11 = .int .i64 ec := hf 11 (by decide) rfl
          clear hf
          rw [e10, e11]
          refine Rt.wpAny_step (i := 12) (by kernel_rfl) rfl (by rfl) (fun K hK => ?_)
          have HK := Lib.hid hK; clear hK
          go_simp
          refine HK.out _ _ ?_
          clear HK
          refine Rt.wpAny_step (i := 13) (by kernel_rfl) rfl (by rfl) (fun K hK => ?_)
          have HK := Lib.hid hK; clear hK
          go_simp
          refine HK.out _ _ ?_
          exact Rt.wpAny_end (by kernel_rfl) ⟨rfl, ⟨vals, by rw [e10, e11]⟩, hb⟩
        rintro e a' wr3 ⟨rfl, ⟨vb, rfl⟩, hb1⟩
        have HI3 := Lib.hid (HI2.out.trans (hb1.mono HI2.out.size))
        have hca := (hb1.cell (p := ⟨AB, i, none⟩) (Nat.lt_of_lt_of_le HLC.out HI2.out.size)).trans hca2
        have hcb := (hb1.cell (p := ⟨BB, i, none⟩) (Nat.lt_of_lt_of_le HLB.out HI2.out.size)).trans hcb2
        clear hca2 hcb2 hb1 HI2
        generalize vb 0 = gvb0; generalize vb 1 = gvb1; generalize vb 2 = gvb2; generalize vb 3 = gvb3; generalize vb 4 = gvb4; generalize vb 5 = gvb5; generalize vb 6 = gvb6; generalize vb 7 = gvb7; generalize vb 8 = gvb8; generalize vb 9 = gvb9; generalize vb 10 = gvb10; generalize vb 11 = gvb11
        go_wp2_with fail
        have hsq : TQ.size ≤ 5000 := by rw [← hTQ]; show q.length ≤ 5000; omega
        have hqs : TQ.size = q.length := by rw [← hTQ]; rfl
        have HSP := Lib.hid (fun w => Spoilt_any TQ c hc A H hsq w)
        rw [hqs] at HSP
        clear hsq hqs
        refine wp_mono (Q := fun e a' W' => e = .normal ∧ (∃ (vals : Nat → Value) (tb : Nat) (sl : List UInt8), a' = { tmps := #[Value.string S, Value.int IntKind.i64 b0, Value.int IntKind.i64 A, Value.int IntKind.i64 H, Value.int IntKind.u8 ↑c, Value.slice a n cc, undef, undef, undef, undef, undef, undef, u12, Value.pointer (some { block := w.heap.size, off := 0 }), Value.slice (some { block := AB, off := 0 }) 3 3, Value.slice (some { block := BB, off := 0 }) 3 3, Value.int IntKind.i64 ↑i, Value.string TQ, Value.int IntKind.i64 ec, Value.string TQ, Value.int IntKind.i64 ec, .slice (some ⟨tb, 0, none⟩) 3 3, u22, u23, u24, u25, u26, Value.string S, Value.int IntKind.i64 ↑S.size, Value.bool false, undef, Value.slice a n cc, Value.pointer (some { block := w.heap.size, off := 0 }), Value.string S, Value.pointer (some { block := w.heap.size, off := 0 }), Value.string TX, Value.string S, Value.slice (some { block := AB, off := 0 }) 3 3, Value.int IntKind.i64 b0, Value.pointer (some { block := w.heap.size, off := 0 }), Value.int IntKind.i64 f1, Value.pointer (some { block := w.heap.size, off := 0 }), Value.int IntKind.i64 f2, Value.slice (some { block := BB, off := 0 }) 3 3, Value.int IntKind.i64 ↑i, Value.slice (some { block := AB, off := 0 }) 3 3, Value.int IntKind.i64 3, Value.bool true, u48, u49, gva9, gva0, gva1, gva2, gva3, gva4, gva5, gva6, gva7, gva8, gva10, gva11, gvb9, gvb0, gvb1, gvb2, gvb3, gvb4, gvb5, gvb6, gvb7, gvb8, gvb10, gvb11, Value.string TQ, Value.string TQ, Value.bool false, Value.bool false, Value.int IntKind.i64 ec, Value.int IntKind.i64 ec, Value.bool false, Value.bool false, vals 0, vals 1, vals 2, vals 3, vals 4, vals 5, vals 6, vals 7, vals 8, vals 9, vals 10, u93, u94, u95, u96, u97, u98, u99, u100, u101, u102, u103, u104, u105, u106, u107, u108, u109, u110, u111, u112, u113, u114, u115, u116, u117, u118, u119, u120, u121, u122, u123, u124, u125, u126, u127, u128, u129, u130, undef], defers := [] } ∧ Txts W' tb SI TQ sl (q.length + 1)) ∧ Below wr3.heap.size wr3 W') ?_ ?_
        refine Rt.wp_region_grow (n0 := 0) [] [] 132 (fun vals => { tmps := #[Value.string S, Value.int IntKind.i64 b0, Value.int IntKind.i64 A, Value.int IntKind.i64 H, Value.int IntKind.u8 ↑c, Value.slice a n cc, undef, undef, undef, undef, undef, undef, u12, Value.pointer (some { block := w.heap.size, off := 0 }), Value.slice (some { block := AB, off := 0 }) 3 3, Value.slice (some { block := BB, off := 0 }) 3 3, Value.int IntKind.i64 ↑i, Value.string TQ, Value.int IntKind.i64 ec, Value.string TQ, Value.int IntKind.i64 ec, vals 11, u22, u23, u24, u25, u26, Value.string S, Value.int IntKind.i64 ↑S.size, Value.bool false, undef, Value.slice a n cc, Value.pointer (some { block := w.heap.size, off := 0 }), Value.string S, Value.pointer (some { block := w.heap.size, off := 0 }), Value.string TX, Value.string S, Value.slice (some { block := AB, off := 0 }) 3 3, Value.int IntKind.i64 b0, Value.pointer (some { block := w.heap.size, off := 0 }), Value.int IntKind.i64 f1, Value.pointer (some { block := w.heap.size, off := 0 }), Value.int IntKind.i64 f2, Value.slice (some { block := BB, off := 0 }) 3 3, Value.int IntKind.i64 ↑i, Value.slice (some { block := AB, off := 0 }) 3 3, Value.int IntKind.i64 3, Value.bool true, u48, u49, gva9, gva0, gva1, gva2, gva3, gva4, gva5, gva6, gva7, gva8, gva10, gva11, gvb9, gvb0, gvb1, gvb2, gvb3, gvb4, gvb5, gvb6, gvb7, gvb8, gvb10, gvb11, Value.string TQ, Value.string TQ, Value.bool false, Value.bool false, Value.int IntKind.i64 ec, Value.int IntKind.i64 ec, Value.bool false, Value.bool false, vals 0, vals 1, vals 2, vals 3, vals 4, vals 5, vals 6, vals 7, vals 8, vals 9, vals 10, u93, u94, u95, u96, u97, u98, u99, u100, u101, u102, u103, u104, u105, u106, u107, u108, u109, u110, u111, u112, u113, u114, u115, u116, u117, u118, u119, u120, u121, u122, u123, u124, u125, u126, u127, u128, u129, u130, undef], defers := [] }) (RS AB i c (q.length + 1) A H SI TQ) (by kernel_rfl) (by kernel_rfl) (by kernel_rfl) (by kernel_rfl) (fun _ _ _ _ _ h => absurd h.1 (by simp)) (by kernel_rfl) rfl (fun _ => by kernel_rfl) (by kernel_rfl) (by kernel_rfl) (RS_stays _ _ _ _ _ _ _ _) ?_ ?_ ?_
        · intro k o d hi hT hW hd vals w' hb hf
          have hlt' : k < 12 := (Array.getElem?_eq_some_iff.1 hi).1
          rcases k with _ | _ | _ | _ | _ | _ | _ | _ | _ | _ | _ | _ | k
          · obtain rfl := Option.some.inj hi
            obtain rfl := Option.some.inj hd
            dsimp only
            go_simp
            exact ⟨rfl, Below.refl _ _⟩
          · obtain rfl := Option.some.inj hi
            obtain rfl := Option.some.inj hd
            dsimp only
            go_simp
            exact ⟨rfl, Below.refl _ _⟩
          · obtain rfl := Option.some.inj hi
            obtain rfl := Option.some.inj hd
            have e0 : vals 0 = _ := hf 0 (by kernel_rfl)
            have e1 : vals 1 = _ := hf 1 (by kernel_rfl)
            dsimp only
            rw [e0, e1]
            go_simp
            exact ⟨rfl, Below.refl _ _⟩
          · obtain rfl := Option.some.inj hi
            obtain rfl := Option.some.inj hd
            have e2 : vals 2 = _ := hf 2 (by kernel_rfl)
            have hcl := (hb.cell (p := ⟨AB, i, none⟩) (Nat.lt_of_lt_of_le HLC.out HI3.out.size)).trans hca
            dsimp only
            rw [e2]
            go_simp
            exact ⟨rfl, Below.refl _ _⟩
          · obtain rfl := Option.some.inj hi
            obtain rfl := Option.some.inj hd
            dsimp only
            go_simp
            exact ⟨rfl, Below.refl _ _⟩
          · obtain rfl := Option.some.inj hi
            obtain rfl := Option.some.inj hd
            dsimp only
            go_simp
            exact ⟨rfl, Below.refl _ _⟩
          · obtain rfl := Option.some.inj hi
            obtain rfl := Option.some.inj hd
            dsimp only
            go_simp
            exact ⟨rfl, Below.refl _ _⟩
          · obtain rfl := Option.some.inj hi
            obtain rfl := Option.some.inj hd
            dsimp only
            go_simp
            exact ⟨rfl, Below.refl _ _⟩
          · obtain rfl := Option.some.inj hi
            obtain rfl := Option.some.inj hd
            dsimp only
            go_simp
            exact ⟨rfl, Below.refl _ _⟩
          · obtain rfl := Option.some.inj hi
            obtain rfl := Option.some.inj hd
            have e5 : vals 5 = _ := hf 5 (by kernel_rfl)
            have e6 : vals 6 = _ := hf 6 (by kernel_rfl)
            have e7 : vals 7 = _ := hf 7 (by kernel_rfl)
            have e8 : vals 8 = _ := hf 8 (by kernel_rfl)
            dsimp only
            rw [e5, e6, e7, e8]
            go_simp
            refine (HSP.out w').mono ?_
            rintro e w5 ⟨⟨sl, rfl, hsl⟩, hb5⟩
            exact ⟨⟨sl, rfl, hsl⟩, hb5⟩
          · obtain rfl := Option.some.inj hi
            obtain rfl := Option.some.inj hd
            have e3 : vals 3 = _ := hf 3 (by kernel_rfl)
            have e4 : vals 4 = _ := hf 4 (by kernel_rfl)
            obtain ⟨sl, e9, hsl⟩ := hf 9 (by kernel_rfl)
            dsimp only
            rw [e3, e4]
            rw [e9]
            go_simp
            exact ⟨⟨w'.heap.size, sl, rfl, by simp, hsl, fun k hk => cells3 w' _ _ _ _ k hk⟩, (Below.refl _ _).alloc (Nat.le_refl _) _⟩
          · obtain rfl := Option.some.inj hi
            obtain rfl := Option.some.inj hd
            obtain ⟨tb, sl, e10, htx⟩ := hf 10 (by kernel_rfl)
            dsimp only
            rw [e10]
            go_simp
            exact ⟨⟨tb, sl, rfl, htx⟩, Below.refl _ _⟩
          · omega
        · intro p o d hi hW hd vals w' hb hf
          cases hW
        · intro vals w' hb hf
          obtain ⟨tb, sl, e11, htx⟩ := hf 11 (by decide) rfl
          clear hf
          exact Rt.wpAny_end (by kernel_rfl) ⟨rfl, ⟨vals, tb, sl, by rw [e11], htx⟩, hb⟩
        rintro e a' wr4 ⟨rfl, ⟨vc, tb, sl, rfl, htx⟩, hb1⟩
        have HI4 := Lib.hid (HI3.out.trans (hb1.mono HI3.out.size))
        have hcb4 := (hb1.cell (p := ⟨BB, i, none⟩) (Nat.lt_of_lt_of_le HLB.out HI3.out.size)).trans hcb
        have HCB4 := Lib.hid hcb4
        have HTX := Lib.hid htx
        clear hca hcb hb1 hcb4 htx HI3 HSP
        generalize vc 0 = gvc0; generalize vc 1 = gvc1; generalize vc 2 = gvc2; generalize vc 3 = gvc3; generalize vc 4 = gvc4; generalize vc 5 = gvc5; generalize vc 6 = gvc6; generalize vc 7 = gvc7; generalize vc 8 = gvc8; generalize vc 9 = gvc9; generalize vc 10 = gvc10; generalize vc 11 = gvc11
        go_wp2_with fail
        go_loopw [22, 23, 24, 25, 26] (fun kv _ _ _ _ w2 => ∃ k : Nat, k ≤ 3 ∧ kv = .int .i64 (k : Int) ∧ Hid (Below wr4.heap.size wr4 w2)) (fun kv _ _ _ _ _ => 3 - (intOf kv).toNat)
        case atStart => exact ⟨0, Nat.zero_le _, rfl, Lib.hid (Below.refl _ _)⟩
        case round =>
          obtain ⟨k, hk, rfl, HK⟩ := hrel
          generalize hvr : wr = vr at *
          clear hvr
          by_cases hkp : k < 3
          · have hdk : decide ((k : Int) < 3) = true := by rw [decide_eq_true_iff]; omega
            have hk0 : (0 : Int) ≤ (k : Int) := by omega
            have hk3 : (k : Int) < 3 := by omega
            have hk4 : (k : Int).toNat = k := by omega
            have hsl := HTX.out.2.1
            have hTl : (three3 (three3 l (Wh.decI x) l i) q sl k).length ≤ 1300 := by
              have := HLS.out
              generalize three3 l (Wh.decI x) l i = L0 at *
              unfold three3
              split
              · omega
              · split <;> omega
            have hTv : 2 ≤ BI → BI ≤ 36 → BI.toNat ^ (three3 (three3 l (Wh.decI x) l i) q sl k).length < 10 ^ 400 := fun h1 h2 => by
              have h3 := HLS.out
              have h4 := HQ2.out h1 h2
              generalize three3 l (Wh.decI x) l i = L0 at *
              have h5 : 2 ≤ BI.toNat := by omega
              unfold three3
              split
              · exact pow_fits h1 h2 (by omega)
              · split
                · exact pow_mono_lt h5 (Nat.le_succ _) h4
                · exact pow_mono_lt h5 hsl h4
            obtain ⟨fs, fe, hfw, hfr⟩ := frombase_same (three3 (three3 l (Wh.decI x) l i) q sl k) BI hTl hTv
            have HFW := Lib.hid hfw; have HFR := Lib.hid hfr; clear hfw hfr hTl hTv hsl
            have hct : vr.cell? ⟨tb, k, none⟩ = some (.string (str (three3 (three3 l (Wh.decI x) l i) q sl k))) := by
              rw [HK.out.cell (p := ⟨tb, k, none⟩) HTX.out.1, HTX.out.2.2 k hkp, ← hSi, ← hTQ, three3_str]
            have hcb5 := (HK.out.cell (p := ⟨BB, i, none⟩) (Nat.lt_of_lt_of_le HLB.out HI4.out.size)).trans HCB4.out
            have htl : tb < vr.heap.size := Nat.lt_of_lt_of_le HTX.out.1 HK.out.size
            have hbl : BB < vr.heap.size := Nat.lt_of_lt_of_le (Nat.lt_of_lt_of_le HLB.out HI4.out.size) HK.out.size
            generalize str (three3 (three3 l (Wh.decI x) l i) q sl k) = TK at *
            have HGK : Hid (Below w.heap.size w vr) := Lib.hid (HBV.out.trans ((HI4.out.trans (HK.out.mono HI4.out.size)).mono HBV.out.size))
            go_wp2_with fail
            refine wp_mono (Q := fun e a' W' => e = .normal ∧ (∃ (vals : Nat → Value), a' = { tmps := #[Value.string S, Value.int IntKind.i64 b0, Value.int IntKind.i64 A, Value.int IntKind.i64 H, Value.int IntKind.u8 ↑c, Value.slice a n cc, undef, undef, undef, undef, undef, undef, u12, Value.pointer (some { block := w.heap.size, off := 0 }), Value.slice (some { block := AB, off := 0 }) 3 3, Value.slice (some { block := BB, off := 0 }) 3 3, Value.int IntKind.i64 ↑i, Value.string TQ, Value.int IntKind.i64 ec, Value.string TQ, Value.int IntKind.i64 ec, Value.slice (some { block := tb, off := 0 }) 3 3, Value.int IntKind.i64 ↑k, .string fs, .int .i64 fe, u25, u26, Value.string S, Value.int IntKind.i64 ↑S.size, Value.bool false, undef, Value.slice a n cc, Value.pointer (some { block := w.heap.size, off := 0 }), Value.string S, Value.pointer (some { block := w.heap.size, off := 0 }), Value.string TX, Value.string S, Value.slice (some { block := AB, off := 0 }) 3 3, Value.int IntKind.i64 b0, Value.pointer (some { block := w.heap.size, off := 0 }), Value.int IntKind.i64 f1, Value.pointer (some { block := w.heap.size, off := 0 }), Value.int IntKind.i64 f2, Value.slice (some { block := BB, off := 0 }) 3 3, Value.int IntKind.i64 ↑i, Value.slice (some { block := AB, off := 0 }) 3 3, Value.int IntKind.i64 3, Value.bool true, u48, u49, gva9, gva0, gva1, gva2, gva3, gva4, gva5, gva6, gva7, gva8, gva10, gva11, gvb9, gvb0, gvb1, gvb2, gvb3, gvb4, gvb5, gvb6, gvb7, gvb8, gvb10, gvb11, Value.string TQ, Value.string TQ, Value.bool false, Value.bool false, Value.int IntKind.i64 ec, Value.int IntKind.i64 ec, Value.bool false, Value.bool false, gvc0, gvc1, gvc2, gvc3, gvc4, gvc5, gvc6, gvc7, gvc8, gvc9, gvc10, Value.int IntKind.i64 ↑k, Value.slice (some { block := tb, off := 0 }) 3 3, Value.int IntKind.i64 3, Value.bool true, u97, u98, vals 9, vals 0, vals 1, vals 2, vals 3, vals 4, vals 5, vals 6, vals 7, vals 8, vals 10, vals 11, u111, u112, u113, u114, u115, u116, u117, u118, u119, u120, u121, u122, u123, u124, u125, u126, u127, u128, u129, u130, undef], defers := [] }) ∧ Below vr.heap.size vr W') ?_ ?_
            refine Rt.wp_region_grow (n0 := 2) [12, 13] [11] 132 (fun vals => { tmps := #[Value.string S, Value.int IntKind.i64 b0, Value.int IntKind.i64 A, Value.int IntKind.i64 H, Value.int IntKind.u8 ↑c, Value.slice a n cc, undef, undef, undef, undef, undef, undef, u12, Value.pointer (some { block := w.heap.size, off := 0 }), Value.slice (some { block := AB, off := 0 }) 3 3, Value.slice (some { block := BB, off := 0 }) 3 3, Value.int IntKind.i64 ↑i, Value.string TQ, Value.int IntKind.i64 ec, Value.string TQ, Value.int IntKind.i64 ec, Value.slice (some { block := tb, off := 0 }) 3 3, Value.int IntKind.i64 ↑k, u23, u24, u25, u26, Value.string S, Value.int IntKind.i64 ↑S.size, Value.bool false, undef, Value.slice a n cc, Value.pointer (some { block := w.heap.size, off := 0 }), Value.string S, Value.pointer (some { block := w.heap.size, off := 0 }), Value.string TX, Value.string S, Value.slice (some { block := AB, off := 0 }) 3 3, Value.int IntKind.i64 b0, Value.pointer (some { block := w.heap.size, off := 0 }), Value.int IntKind.i64 f1, Value.pointer (some { block := w.heap.size, off := 0 }), Value.int IntKind.i64 f2, Value.slice (some { block := BB, off := 0 }) 3 3, Value.int IntKind.i64 ↑i, Value.slice (some { block := AB, off := 0 }) 3 3, Value.int IntKind.i64 3, Value.bool true, u48, u49, gva9, gva0, gva1, gva2, gva3, gva4, gva5, gva6, gva7, gva8, gva10, gva11, gvb9, gvb0, gvb1, gvb2, gvb3, gvb4, gvb5, gvb6, gvb7, gvb8, gvb10, gvb11, Value.string TQ, Value.string TQ, Value.bool false, Value.bool false, Value.int IntKind.i64 ec, Value.int IntKind.i64 ec, Value.bool false, Value.bool false, gvc0, gvc1, gvc2, gvc3, gvc4, gvc5, gvc6, gvc7, gvc8, gvc9, gvc10, Value.int IntKind.i64 ↑k, Value.slice (some { block := tb, off := 0 }) 3 3, Value.int IntKind.i64 3, Value.bool true, u97, u98, vals 9, vals 0, vals 1, vals 2, vals 3, vals 4, vals 5, vals 6, vals 7, vals 8, vals 10, vals 11, u111, u112, u113, u114, u115, u116, u117, u118, u119, u120, u121, u122, u123, u124, u125, u126, u127, u128, u129, u130, undef], defers := [] }) (RG tb k BB i TK BI fs fe) (by kernel_rfl) (by kernel_rfl) (by kernel_rfl) (by kernel_rfl) (fun _ _ _ _ _ h => absurd h.1 (by simp)) (by kernel_rfl) rfl (fun _ => by kernel_rfl) (by kernel_rfl) (by kernel_rfl) (RG_stays _ _ _ _ _ _ _ _) ?_ ?_ ?_
            · intro k o d hi hT hW hd vals w' hb hf
              have hlt' : k < 14 := (Array.getElem?_eq_some_iff.1 hi).1
              rcases k with _ | _ | _ | _ | _ | _ | _ | _ | _ | _ | _ | _ | _ | _ | k
              · obtain rfl := Option.some.inj hi
                obtain rfl := Option.some.inj hd
                dsimp only
                go_simp
                exact ⟨rfl, Below.refl _ _⟩
              · obtain rfl := Option.some.inj hi
                obtain rfl := Option.some.inj hd
                dsimp only
                go_simp
                exact ⟨rfl, Below.refl _ _⟩
              · obtain rfl := Option.some.inj hi
                obtain rfl := Option.some.inj hd
                have e0 : vals 0 = _ := hf 0 (by kernel_rfl)
                have e1 : vals 1 = _ := hf 1 (by kernel_rfl)
                dsimp only
                rw [e0, e1]
                go_simp
                exact ⟨rfl, Below.refl _ _⟩
              · obtain rfl := Option.some.inj hi
                obtain rfl := Option.some.inj hd
                have e2 : vals 2 = _ := hf 2 (by kernel_rfl)
                have hcl := (hb.cell (p := ⟨tb, k, none⟩) htl).trans hct
                dsimp only
                rw [e2]
                go_simp
                exact ⟨rfl, Below.refl _ _⟩
              · obtain rfl := Option.some.inj hi
                obtain rfl := Option.some.inj hd
                dsimp only
                go_simp
                exact ⟨rfl, Below.refl _ _⟩
              · obtain rfl := Option.some.inj hi
                obtain rfl := Option.some.inj hd
                dsimp only
                go_simp
                exact ⟨rfl, Below.refl _ _⟩
              · obtain rfl := Option.some.inj hi
                obtain rfl := Option.some.inj hd
                have e4 : vals 4 = _ := hf 4 (by kernel_rfl)
                have e5 : vals 5 = _ := hf 5 (by kernel_rfl)
                dsimp only
                rw [e4, e5]
                go_simp
                exact ⟨rfl, Below.refl _ _⟩
              · obtain rfl := Option.some.inj hi
                obtain rfl := Option.some.inj hd
                have e6 : vals 6 = _ := hf 6 (by kernel_rfl)
                have hcl := (hb.cell (p := ⟨BB, i, none⟩) hbl).trans hcb5
                dsimp only
                rw [e6]
                go_simp
                exact ⟨rfl, Below.refl _ _⟩
              · obtain rfl := Option.some.inj hi
                obtain rfl := Option.some.inj hd
                have e3 : vals 3 = _ := hf 3 (by kernel_rfl)
                have e7 : vals 7 = _ := hf 7 (by kernel_rfl)
                dsimp only
                rw [e3, e7]
                go_simp
                refine (HFW.out w' (HT.out.mono (HGK.out.trans (hb.mono HGK.out.size))) (HE.out.mono (HGK.out.trans (hb.mono HGK.out.size)))).mono ?_
                rintro e w5 ⟨rfl, hb5⟩
                exact ⟨rfl, hb5⟩
              · obtain rfl := Option.some.inj hi
                obtain rfl := Option.some.inj hd
                have e8 : vals 8 = _ := hf 8 (by kernel_rfl)
                dsimp only
                rw [e8]
                go_simp
                exact ⟨rfl, Below.refl _ _⟩
              · obtain rfl := Option.some.inj hi
                obtain rfl := Option.some.inj hd
                have e9 : vals 9 = _ := hf 9 (by kernel_rfl)
                dsimp only
                rw [e9]
                go_simp
                exact ⟨rfl, Below.refl _ _⟩
              · cases hW
              · cases hT
              · cases hT
              · omega
            · intro p o d hi hW hd vals w' hb hf
              have hlt' : p < 14 := (Array.getElem?_eq_some_iff.1 hi).1
              rcases p with _ | _ | _ | _ | _ | _ | _ | _ | _ | _ | _ | _ | _ | _ | p
              · cases hW
              · cases hW
              · cases hW
              · cases hW
              · cases hW
              · cases hW
              · cases hW
              · cases hW
              · cases hW
              · cases hW
              · cases hW
              · obtain rfl := Option.some.inj hi
                obtain rfl := Option.some.inj hd
                have e9 : vals 9 = _ := hf 9 (by kernel_rfl)
                exact ⟨_, fun w'' => by dsimp only; rw [e9]; go_simp, rfl⟩
              · cases hW
              · cases hW
              · omega
            · intro vals w' hb hf
              have e10 : vals 10 = .string fs := hf 10 (by decide) rfl
              have e11 : vals 11 = .int .i64 fe := hf 11 (by decide) rfl
              clear hf
              rw [e10, e11]
              refine Rt.wpAny_step (i := 12) (by kernel_rfl) rfl (by rfl) (fun K hK => ?_)
              have HK := Lib.hid hK; clear hK
              go_simp
              refine HK.out _ _ ?_
              clear HK
              refine Rt.wpAny_step (i := 13) (by kernel_rfl) rfl (by rfl) (fun K hK => ?_)
              have HK := Lib.hid hK; clear hK
              go_simp
              refine HK.out _ _ ?_
              exact Rt.wpAny_end (by kernel_rfl) ⟨rfl, ⟨vals, by rw [e10, e11]⟩, hb⟩
            rintro e a' vr2 ⟨rfl, ⟨vd, rfl⟩, hb1⟩
            have HK2 := Lib.hid (HK.out.trans (hb1.mono HK.out.size))
            have hct2 := (hb1.cell (p := ⟨tb, k, none⟩) htl).trans hct
            have hcb6 := (hb1.cell (p := ⟨BB, i, none⟩) hbl).trans hcb5
            have htl2 := Nat.lt_of_lt_of_le htl hb1.size
            have hbl2 := Nat.lt_of_lt_of_le hbl hb1.size
            clear hct hcb5 htl hbl hb1 HK HGK
            generalize vd 0 = gvd0; generalize vd 1 = gvd1; generalize vd 2 = gvd2; generalize vd 3 = gvd3; generalize vd 4 = gvd4; generalize vd 5 = gvd5; generalize vd 6 = gvd6; generalize vd 7 = gvd7; generalize vd 8 = gvd8; generalize vd 9 = gvd9; generalize vd 10 = gvd10; generalize vd 11 = gvd11
            go_wp2_with fail
            refine wp_mono (Q := fun e a' W' => e = .normal ∧ (∃ (vals : Nat → Value), a' = { tmps := #[Value.string S, Value.int IntKind.i64 b0, Value.int IntKind.i64 A, Value.int IntKind.i64 H, Value.int IntKind.u8 ↑c, Value.slice a n cc, undef, undef, undef, undef, undef, undef, u12, Value.pointer (some { block := w.heap.size, off := 0 }), Value.slice (some { block := AB, off := 0 }) 3 3, Value.slice (some { block := BB, off := 0 }) 3 3, Value.int IntKind.i64 ↑i, Value.string TQ, Value.int IntKind.i64 ec, Value.string TQ, Value.int IntKind.i64 ec, Value.slice (some { block := tb, off := 0 }) 3 3, Value.int IntKind.i64 ↑k, Value.string fs, Value.int IntKind.i64 fe, .string fs, .int .i64 fe, Value.string S, Value.int IntKind.i64 ↑S.size, Value.bool false, undef, Value.slice a n cc, Value.pointer (some { block := w.heap.size, off := 0 }), Value.string S, Value.pointer (some { block := w.heap.size, off := 0 }), Value.string TX, Value.string S, Value.slice (some { block := AB, off := 0 }) 3 3, Value.int IntKind.i64 b0, Value.pointer (some { block := w.heap.size, off := 0 }), Value.int IntKind.i64 f1, Value.pointer (some { block := w.heap.size, off := 0 }), Value.int IntKind.i64 f2, Value.slice (some { block := BB, off := 0 }) 3 3, Value.int IntKind.i64 ↑i, Value.slice (some { block := AB, off := 0 }) 3 3, Value.int IntKind.i64 3, Value.bool true, u48, u49, gva9, gva0, gva1, gva2, gva3, gva4, gva5, gva6, gva7, gva8, gva10, gva11, gvb9, gvb0, gvb1, gvb2, gvb3, gvb4, gvb5, gvb6, gvb7, gvb8, gvb10, gvb11, Value.string TQ, Value.string TQ, Value.bool false, Value.bool false, Value.int IntKind.i64 ec, Value.int IntKind.i64 ec, Value.bool false, Value.bool false, gvc0, gvc1, gvc2, gvc3, gvc4, gvc5, gvc6, gvc7, gvc8, gvc9, gvc10, Value.int IntKind.i64 ↑k, Value.slice (some { block := tb, off := 0 }) 3 3, Value.int IntKind.i64 3, Value.bool true, u97, u98, gvd9, gvd0, gvd1, gvd2, gvd3, gvd4, gvd5, gvd6, gvd7, gvd8, gvd10, gvd11, vals 9, vals 0, vals 1, vals 2, vals 3, vals 4, vals 5, vals 6, vals 7, vals 8, vals 10, vals 11, u123, u124, u125, u126, u127, u128, u129, u130, undef], defers := [] }) ∧ Below vr2.heap.size vr2 W') ?_ ?_
            refine Rt.wp_region_grow (n0 := 2) [12, 13] [11] 132 (fun vals => { tmps := #[Value.string S, Value.int IntKind.i64 b0, Value.int IntKind.i64 A, Value.int IntKind.i64 H, Value.int IntKind.u8 ↑c, Value.slice a n cc, undef, undef, undef, undef, undef, undef, u12, Value.pointer (some { block := w.heap.size, off := 0 }), Value.slice (some { block := AB, off := 0 }) 3 3, Value.slice (some { block := BB, off := 0 }) 3 3, Value.int IntKind.i64 ↑i, Value.string TQ, Value.int IntKind.i64 ec, Value.string TQ, Value.int IntKind.i64 ec, Value.slice (some { block := tb, off := 0 }) 3 3, Value.int IntKind.i64 ↑k, Value.string fs, Value.int IntKind.i64 fe, u25, u26, Value.string S, Value.int IntKind.i64 ↑S.size, Value.bool false, undef, Value.slice a n cc, Value.pointer (some { block := w.heap.size, off := 0 }), Value.string S, Value.pointer (some { block := w.heap.size, off := 0 }), Value.string TX, Value.string S, Value.slice (some { block := AB, off := 0 }) 3 3, Value.int IntKind.i64 b0, Value.pointer (some { block := w.heap.size, off := 0 }), Value.int IntKind.i64 f1, Value.pointer (some { block := w.heap.size, off := 0 }), Value.int IntKind.i64 f2, Value.slice (some { block := BB, off := 0 }) 3 3, Value.int IntKind.i64 ↑i, Value.slice (some { block := AB, off := 0 }) 3 3, Value.int IntKind.i64 3, Value.bool true, u48, u49, gva9, gva0, gva1, gva2, gva3, gva4, gva5, gva6, gva7, gva8, gva10, gva11, gvb9, gvb0, gvb1, gvb2, gvb3, gvb4, gvb5, gvb6, gvb7, gvb8, gvb10, gvb11, Value.string TQ, Value.string TQ, Value.bool false, Value.bool false, Value.int IntKind.i64 ec, Value.int IntKind.i64 ec, Value.bool false, Value.bool false, gvc0, gvc1, gvc2, gvc3, gvc4, gvc5, gvc6, gvc7, gvc8, gvc9, gvc10, Value.int IntKind.i64 ↑k, Value.slice (some { block := tb, off := 0 }) 3 3, Value.int IntKind.i64 3, Value.bool true, u97, u98, gvd9, gvd0, gvd1, gvd2, gvd3, gvd4, gvd5, gvd6, gvd7, gvd8, gvd10, gvd11, vals 9, vals 0, vals 1, vals 2, vals 3, vals 4, vals 5, vals 6, vals 7, vals 8, vals 10, vals 11, u123, u124, u125, u126, u127, u128, u129, u130, undef], defers := [] }) (RG tb k BB i TK BI fs fe) (by kernel_rfl) (by kernel_rfl) (by kernel_rfl) (by kernel_rfl) (fun _ _ _ _ _ h => absurd h.1 (by simp)) (by kernel_rfl) rfl (fun _ => by kernel_rfl) (by kernel_rfl) (by kernel_rfl) (RG_stays _ _ _ _ _ _ _ _) ?_ ?_ ?_
            · intro k o d hi hT hW hd vals w' hb hf
              have hlt' : k < 14 := (Array.getElem?_eq_some_iff.1 hi).1
              rcases k with _ | _ | _ | _ | _ | _ | _ | _ | _ | _ | _ | _ | _ | _ | k
              · obtain rfl := Option.some.inj hi
                obtain rfl := Option.some.inj hd
                dsimp only
                go_simp
                exact ⟨rfl, Below.refl _ _⟩
              · obtain rfl := Option.some.inj hi
                obtain rfl := Option.some.inj hd
                dsimp only
                go_simp
                exact ⟨rfl, Below.refl _ _⟩
              · obtain rfl := Option.some.inj hi
                obtain rfl := Option.some.inj hd
                have e0 : vals 0 = _ := hf 0 (by kernel_rfl)
                have e1 : vals 1 = _ := hf 1 (by kernel_rfl)
                dsimp only
                rw [e0, e1]
                go_simp
                exact ⟨rfl, Below.refl _ _⟩
              · obtain rfl := Option.some.inj hi
                obtain rfl := Option.some.inj hd
                have e2 : vals 2 = _ := hf 2 (by kernel_rfl)
                have hcl := (hb.cell (p := ⟨tb, k, none⟩) htl2).trans hct2
                dsimp only
                rw [e2]
                go_simp
                exact ⟨rfl, Below.refl _ _⟩
              · obtain rfl := Option.some.inj hi
                obtain rfl := Option.some.inj hd
                dsimp only
                go_simp
                exact ⟨rfl, Below.refl _ _⟩
              · obtain rfl := Option.some.inj hi
                obtain rfl := Option.some.inj hd
                dsimp only
                go_simp
                exact ⟨rfl, Below.refl _ _⟩
              · obtain rfl := Option.some.inj hi
                obtain rfl := Option.some.inj hd
                have e4 : vals 4 = _ := hf 4 (by kernel_rfl)
                have e5 : vals 5 = _ := hf 5 (by kernel_rfl)
                dsimp only
                rw [e4, e5]
                go_simp
                exact ⟨rfl, Below.refl _ _⟩
              · obtain rfl := Option.some.inj hi
                obtain rfl := Option.some.inj hd
                have e6 : vals 6 = _ := hf 6 (by kernel_rfl)
                have hcl := (hb.cell (p := ⟨BB, i, none⟩) hbl2).trans hcb6
                dsimp only
                rw [e6]
                go_simp
                exact ⟨rfl, Below.refl _ _⟩
              · obtain rfl := Option.some.inj hi
                obtain rfl := Option.some.inj hd
                have e3 : vals 3 = _ := hf 3 (by kernel_rfl)
                have e7 : vals 7 = _ := hf 7 (by kernel_rfl)
                dsimp only
                rw [e3, e7]
                go_simp
                refine (HFR.out w').mono ?_
                rintro e w5 ⟨rfl, hb5⟩
                exact ⟨rfl, hb5⟩
              · obtain rfl := Option.some.inj hi
                obtain rfl := Option.some.inj hd
                have e8 : vals 8 = _ := hf 8 (by kernel_rfl)
                dsimp only
                rw [e8]
                go_simp
                exact ⟨rfl, Below.refl _ _⟩
              · obtain rfl := Option.some.inj hi
                obtain rfl := Option.some.inj hd
                have e9 : vals 9 = _ := hf 9 (by kernel_rfl)
                dsimp only
                rw [e9]
                go_simp
                exact ⟨rfl, Below.refl _ _⟩
              · cases hW
              · cases hT
              · cases hT
              · omega
            · intro p o d hi hW hd vals w' hb hf
              have hlt' : p < 14 := (Array.getElem?_eq_some_iff.1 hi).1
              rcases p with _ | _ | _ | _ | _ | _ | _ | _ | _ | _ | _ | _ | _ | _ | p
              · cases hW
              · cases hW
              · cases hW
              · cases hW
              · cases hW
              · cases hW
              · cases hW
              · cases hW
              · cases hW
              · cases hW
              · cases hW
              · obtain rfl := Option.some.inj hi
                obtain rfl := Option.some.inj hd
                have e9 : vals 9 = _ := hf 9 (by kernel_rfl)
                exact ⟨_, fun w'' => by dsimp only; rw [e9]; go_simp, rfl⟩
              · cases hW
              · cases hW
              · omega
            · intro vals w' hb hf
              have e10 : vals 10 = .string fs := hf 10 (by decide) rfl
              have e11 : vals 11 = .int .i64 fe := hf 11 (by decide) rfl
              clear hf
              rw [e10, e11]
              refine Rt.wpAny_step (i := 12) (by kernel_rfl) rfl (by rfl) (fun K hK => ?_)
              have HK := Lib.hid hK; clear hK
              go_simp
              refine HK.out _ _ ?_
              clear HK
              refine Rt.wpAny_step (i := 13) (by kernel_rfl) rfl (by rfl) (fun K hK => ?_)
              have HK := Lib.hid hK; clear hK
              go_simp
              refine HK.out _ _ ?_
              exact Rt.wpAny_end (by kernel_rfl) ⟨rfl, ⟨vals, by rw [e10, e11]⟩, hb⟩
            rintro e a' vr3 ⟨rfl, ⟨ve, rfl⟩, hb1⟩
            have HK3 := Lib.hid (HK2.out.trans (hb1.mono HK2.out.size))
            clear hct2 hcb6 htl2 hbl2 hb1 HK2
            generalize ve 0 = gve0; generalize ve 1 = gve1; generalize ve 2 = gve2; generalize ve 3 = gve3; generalize ve 4 = gve4; generalize ve 5 = gve5; generalize ve 6 = gve6; generalize ve 7 = gve7; generalize ve 8 = gve8; generalize ve 9 = gve9; generalize ve 10 = gve10; generalize ve 11 = gve11
            go_wp2_with fail
            exact ⟨⟨k + 1, by omega, by simp, HK3⟩, by simp [intOf]; omega⟩
          · obtain rfl : k = 3 := by omega
            have HI5 := Lib.hid (HI4.out.trans (HK.out.mono HI4.out.size))
            clear HK HI4 HTX HCB4
            go_wp2_with fail
            exact ⟨⟨i + 1, by omega, by simp, HI5⟩, by simp [intOf]; omega⟩
      · obtain rfl : i = 3 := by omega
        have HI5 := Lib.hid (HBV.out.trans (HI.out.mono HBV.out.size))
        clear HI hi
        go_wp2_with fail
        refine (counted_holds _ (HT.out.mono HI5.out)).mono ?_
        rintro e wz ⟨rfl, hb⟩
        go_wp2_with fail
        go_ret
        exact ⟨rfl, HI5.out.trans (hb.mono HI5.out.size)⟩
end Go.Proofs.YteaeloeebfdodaaGreatDoor
