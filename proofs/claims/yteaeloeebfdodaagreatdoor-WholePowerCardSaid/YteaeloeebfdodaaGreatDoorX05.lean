/- Part 5 of the proofs that laws of package whole answer true at every input and leave the input as it was, where the library's variables start as the text lays them (the texts A18, S1, S2, M6). -/
import Derived.Test.YteaeloeebfdodaaGreatDoorX04
import Derived.StillTailTactics
import Derived.Lib.Strings
import Derived.Lib.IndexBytes
import Derived.Test.YteaeloeebfdodaaGreatDoorX02
set_option linter.unusedVariables false
set_option linter.unusedSimpArgs false
/- WALKS, part 18: product of two numbers. -/
namespace Go.Proofs.YteaeloeebfdodaaGreatDoor
open Go.RowKit
/-- two cells that hold a number at work -/
structure Holds (w : World) (b o : Nat) (s : Int) (a : Option Addr) (n c : Nat) (x : Int) : Prop where
  c0 : w.cell? ⟨b, o, none⟩ = some (.int .i64 s)
  c1 : w.cell? ⟨b, o + 1, none⟩ = some (.slice a n c)
  sg : s = Int.sign x
  sl : Sl w (.slice a n c) (Wh.limbs x.natAbs)
theorem Holds.mono {w w' : World} {b o : Nat} {s : Int} {a : Option Addr} {n c : Nat} {x : Int} (h : Holds w b o s a n c x) (hb : b < w.heap.size) (hw : Below w.heap.size w w') : Holds w' b o s a n c x :=
  ⟨(hw.cell (p := ⟨b, o, none⟩) hb).trans h.c0, (hw.cell (p := ⟨b, o + 1, none⟩) hb).trans h.c1, h.sg, h.sl.mono hw⟩
def part (x y : Int) : Nat → Int
  | 0 => x
  | _ => x * y
theorem part_step (x y : Int) {k : Nat} (h : k < 1) : part x y (k + 1) = part x y k * y := by
  obtain rfl : k = 0 := by omega
  simp [part]
/-- what holds at the head of round k of Times: block R holds the product so far, the next one is the result's -/
structure PInv (w wr : World) (R : Nat) (x y : Int) (k : Nat) : Prop where
  held : ∃ a n c, Holds wr R 0 (Int.sign (part x y k)) a n c (part x y k)
  f0 : wr.frozen? ⟨R, 0, none⟩ = false
  f1 : wr.frozen? ⟨R, 1, none⟩ = false
  r0 : wr.cell? ⟨R + 1, 0, none⟩ = some (.int .i64 0)
  r1 : wr.cell? ⟨R + 1, 1, none⟩ = some (.slice none 0 0)
  g0 : wr.frozen? ⟨R + 1, 0, none⟩ = false
  g1 : wr.frozen? ⟨R + 1, 1, none⟩ = false
  below : Below w.heap.size w wr
  lt : R + 1 < wr.heap.size
  ge : w.heap.size ≤ R
theorem PInv.begin {w : World} {x y : Int} {xa : Option Addr} {n xc : Nat} (h : Sl w (.slice xa n xc) (Wh.limbs x.natAbs)) :
    PInv w ((w.alloc (.cells #[.int .i64 (Int.sign x), .slice xa n xc] 83)).alloc (.cells #[.int .i64 0, .slice none 0 0] 83)) w.heap.size x y 0 := by
  have al : Below w.heap.size w ((w.alloc (.cells #[.int .i64 (Int.sign x), .slice xa n xc] 83)).alloc (.cells #[.int .i64 0, .slice none 0 0] 83)) := ((Below.refl _ _).alloc (Nat.le_refl _) _).alloc (by simp) _
  exact ⟨⟨xa, n, xc, by go_simp; rfl, by go_simp, rfl, h.mono al⟩, by go_simp, by go_simp, by go_simp, by go_simp, by go_simp, by go_simp, al, by simp, Nat.le_refl _⟩
/-- the world in a round: block R has the product so far, block F the factor -/
structure PReg (w W : World) (R F : Nat) (a0 a1 b0 b1 : Value) : Prop where
  a0 : W.cell? ⟨R, 0, none⟩ = some a0
  a1 : W.cell? ⟨R, 1, none⟩ = some a1
  b0 : W.cell? ⟨F, 0, none⟩ = some b0
  b1 : W.cell? ⟨F, 1, none⟩ = some b1
  f0 : W.frozen? ⟨R, 0, none⟩ = false
  f1 : W.frozen? ⟨R, 1, none⟩ = false
  r0 : W.cell? ⟨R + 1, 0, none⟩ = some (.int .i64 0)
  r1 : W.cell? ⟨R + 1, 1, none⟩ = some (.slice none 0 0)
  g0 : W.frozen? ⟨R + 1, 0, none⟩ = false
  g1 : W.frozen? ⟨R + 1, 1, none⟩ = false
  below : Below w.heap.size w W
  ge : w.heap.size ≤ R
  lt : R + 1 < F
  lf : F < W.heap.size
theorem PReg.mono {w W W' : World} {R F : Nat} {a0 a1 b0 b1 : Value} (h : PReg w W R F a0 a1 b0 b1) (hb : Below W.heap.size W W') : PReg w W' R F a0 a1 b0 b1 := by
  have h1 := h.ge; have h2 := h.lt; have h3 := h.lf
  exact ⟨(hb.cell (p := ⟨R, 0, none⟩) (by show R < _; omega)).trans h.a0, (hb.cell (p := ⟨R, 1, none⟩) (by show R < _; omega)).trans h.a1, (hb.cell (p := ⟨F, 0, none⟩) h.lf).trans h.b0, (hb.cell (p := ⟨F, 1, none⟩) h.lf).trans h.b1,
    (hb.frozen (p := ⟨R, 0, none⟩) (by show R < _; omega)).trans h.f0, (hb.frozen (p := ⟨R, 1, none⟩) (by show R < _; omega)).trans h.f1, (hb.cell (p := ⟨R + 1, 0, none⟩) (by show R + 1 < _; omega)).trans h.r0, (hb.cell (p := ⟨R + 1, 1, none⟩) (by show R + 1 < _; omega)).trans h.r1,
    (hb.frozen (p := ⟨R + 1, 0, none⟩) (by show R + 1 < _; omega)).trans h.g0, (hb.frozen (p := ⟨R + 1, 1, none⟩) (by show R + 1 < _; omega)).trans h.g1, h.below.trans (hb.mono h.below.size), h.ge, h.lt, Nat.lt_of_lt_of_le h.lf hb.size⟩
theorem PReg.keep {w W : World} {R F : Nat} {a0 a1 b0 b1 : Value} (h : PReg w W R F a0 a1 b0 b1) : W.cell? ⟨R, 0, none⟩ = some a0 ∧ W.cell? ⟨R, 1, none⟩ = some a1 ∧ W.cell? ⟨F, 0, none⟩ = some b0 ∧ W.cell? ⟨F, 1, none⟩ = some b1 := ⟨h.a0, h.a1, h.b0, h.b1⟩
theorem PInv.reg {w wr : World} {R k : Nat} {x y : Int} {a : Option Addr} {n c : Nat} {es : Int} {ea : Option Addr} {en ec : Nat} (h : PInv w wr R x y k) (hh : Holds wr R 0 (Int.sign (part x y k)) a n c (part x y k)) :
    PReg w (wr.alloc (.cells #[.int .i64 es, .slice ea en ec] 83)) R wr.heap.size (.int .i64 (Int.sign (part x y k))) (.slice a n c) (.int .i64 es) (.slice ea en ec) := by
  have al : Below wr.heap.size wr (wr.alloc (.cells #[.int .i64 es, .slice ea en ec] 83)) := (Below.refl _ _).alloc (Nat.le_refl _) _
  have h1 := h.ge; have h2 := h.lt
  exact ⟨(al.cell (p := ⟨R, 0, none⟩) (by show R < _; omega)).trans hh.c0, (al.cell (p := ⟨R, 1, none⟩) (by show R < _; omega)).trans hh.c1, by go_simp, by go_simp, (al.frozen (p := ⟨R, 0, none⟩) (by show R < _; omega)).trans h.f0, (al.frozen (p := ⟨R, 1, none⟩) (by show R < _; omega)).trans h.f1,
    (al.cell (p := ⟨R + 1, 0, none⟩) h.lt).trans h.r0, (al.cell (p := ⟨R + 1, 1, none⟩) h.lt).trans h.r1, (al.frozen (p := ⟨R + 1, 0, none⟩) h.lt).trans h.g0, (al.frozen (p := ⟨R + 1, 1, none⟩) h.lt).trans h.g1,
    h.below.trans (al.mono (by omega)), h.ge, h.lt, by simp⟩
/-- the store of the new product -/
theorem PReg.store {w W : World} {R F k : Nat} {a1 b0 b1 : Value} {x y : Int} {s0 : Int} (h : PReg w W R F (.int .i64 s0) a1 b0 b1) (ha : ∃ p n c, a1 = .slice p n c) {p : Option Addr} {n c : Nat} (hs : Sl W (.slice p n c) (Wh.limbs (part x y k).natAbs)) :
    PInv w ((W.setCell ⟨R, 0, none⟩ (.int .i64 (Int.sign (part x y k)))).setCell ⟨R, 1, none⟩ (.slice p n c)) R x y k := by
  obtain ⟨t0, t1⟩ := two_cells W R (.int .i64 (Int.sign (part x y k))) (.slice p n c) h.a0 h.a1
  have hg := h.ge
  obtain ⟨p', n', c', ha⟩ := ha
  refine ⟨⟨p, n, c, t0, t1, rfl, ?_⟩, ?_, ?_, far1 h.r0 (by omega), far1 h.r1 (by omega), ?_, ?_, (h.below.setCell (by show w.heap.size ≤ R; omega) _).setCell (by show w.heap.size ≤ R; omega) _, ?_, h.ge⟩
  · exact (hs.store _ h.a0 (by intro n e; cases e) _).store _ (u := a1) (by rw [World.cell?_setCell_other _ _ _ _ (by intro e; have := congrArg Addr.off e; simp at this)]; exact h.a1) (by rw [ha]; intro n e; cases e) _
  · rw [World.frozen?_setCell, World.frozen?_setCell]; exact h.f0
  · rw [World.frozen?_setCell, World.frozen?_setCell]; exact h.f1
  · rw [World.frozen?_setCell, World.frozen?_setCell]; exact h.g0
  · rw [World.frozen?_setCell, World.frozen?_setCell]; exact h.g1
  · have := h.lt; have := h.lf; simp; omega
theorem limbs_one : (Wh.limbs 1).length = 1 := by
  have : Wh.limbs 1 = [1] := by rw [Wh.limbs_pos (by decide)]; simp [Wh.R, Wh.limbs_zero]
  rw [this]; rfl
theorem sign_prod (a b : Int) (s : Int) (hs : s = Int.sign b) : Int.sign a * s * ((Wh.val (Wh.limbs (a.natAbs * b.natAbs)) : Nat) : Int) = a * b := by
  rw [Wh.val_limbs, hs, Int.natCast_mul]
  have h1 := Int.sign_mul_natAbs a
  have h2 := Int.sign_mul_natAbs b
  calc Int.sign a * Int.sign b * ((a.natAbs : Int) * (b.natAbs : Int)) = (Int.sign a * (a.natAbs : Int)) * (Int.sign b * (b.natAbs : Int)) := by
        rw [Int.mul_assoc, Int.mul_assoc, ← Int.mul_assoc (Int.sign b), Int.mul_comm (Int.sign b) (a.natAbs : Int), Int.mul_assoc]
    _ = a * b := by rw [h1, h2]
theorem sign_cases3 (a b : Int) (s : Int) (hs : s = Int.sign b) : Int.sign a * s = -1 ∨ Int.sign a * s = 1 ∨ a.natAbs * b.natAbs = 0 := by
  subst hs
  rcases sign_lt a with ⟨h, e⟩ | ⟨h, e⟩ | ⟨h, e⟩
  · rcases sign_lt b with ⟨k, f⟩ | ⟨k, f⟩ | ⟨k, f⟩
    · exact .inr (.inl (by rw [e, f]; rfl))
    · exact .inr (.inr (by rw [k]; simp))
    · exact .inl (by rw [e, f]; rfl)
  · exact .inr (.inr (by rw [h]; simp))
  · rcases sign_lt b with ⟨k, f⟩ | ⟨k, f⟩ | ⟨k, f⟩
    · exact .inl (by rw [e, f]; rfl)
    · exact .inr (.inr (by rw [k]; simp))
    · exact .inr (.inl (by rw [e, f]; rfl))
theorem with_still (s t : Int) (hs : -1 ≤ s ∧ s ≤ 1) (ht : -1 ≤ t ∧ t ≤ 1) (w : World) :
    Calls Tryz.prog 197 #[.int .i64 s, .int .i64 t] w fun e w' => e = .returned (.int .i64 (s * t)) ∧ w' = w :=
  (with_any s t hs ht w).mono fun _ _ h => ⟨h.1, h.2.symm⟩
set_option maxRecDepth 100000 in
set_option maxHeartbeats 1000000 in
theorem product_any (w : World) (ab : Nat) (x y : Int) (hab : ab < w.heap.size) (v1 : Value) (hv : Num w v1 x) (es : Int) (ea : Option Addr) (en ec : Nat) (h : Holds w ab 0 es ea en ec y)
    (hx : (Wh.limbs x.natAbs).length ≤ 2000) (hy : (Wh.limbs y.natAbs).length ≤ 2000) (hmin : (Wh.limbs x.natAbs).length < 32 ∨ (Wh.limbs y.natAbs).length < 32) :
    Calls Tryz.prog 185 #[v1, .slice (some ⟨ab, 0, none⟩) 1 1] w fun e w' => (∃ v', e = .returned v' ∧ Num w' v' (x * y)) ∧ Below w.heap.size w w' := by
  have H := Lib.hid h; clear h
  obtain ⟨sl0, rfl, hsl0⟩ := hv
  obtain ⟨xa0, xc0, rfl⟩ := hsl0.len
  have HP := Lib.hid (PInv.begin (x := x) (y := y) hsl0)
  have hzz : (Wh.limbs x.natAbs).length + (Wh.limbs y.natAbs).length ≤ 100000 := by omega
  clear hx hy
  generalize (Wh.limbs x.natAbs).length = xn0 at HP ⊢
  have HZ := Lib.hid (And.intro hzz hmin); clear hzz hmin
  go_enter Tryz.func185, Tryz.ntmps185
  go_wp2_with fail
  go_loopw [9] (fun i wr => ∃ k : Nat, k ≤ 1 ∧ i = .int .i64 k ∧ Hid (PInv w wr w.heap.size x y k)) (fun i _ => 1 - (intOf i).toNat)
  case atStart => exact ⟨0, by omega, rfl, HP⟩
  case round =>
    clear HP hsl0
    obtain ⟨R, hR⟩ : ∃ R, R = w.heap.size := ⟨_, rfl⟩
    rw [← hR] at hrel ⊢
    have HRR := Lib.hid hR
    have hRle : w.heap.size ≤ R := by omega
    clear hR
    obtain ⟨k, hk, rfl, HI⟩ := hrel
    by_cases hlt : k < 1
    · have he := H.out.mono hab HI.out.below
      obtain ⟨pa, pn, pc, hp⟩ := HI.out.held
      have ec0 := he.c0
      have ec1 := he.c1
      have hreg := HI.out.reg (es := es) (ea := ea) (en := en) (ec := ec) hp
      obtain ⟨hz1, hz2⟩ := HZ.out
      have hps := part_step x y hlt
      have hk0 : part x y k = x := by obtain rfl : k = 0 := by omega
                                      rfl
      rw [← hk0] at hz1 hz2
      clear hk0
      have hsl1 := hp.sl
      have hsl2 := he.sl
      have hsg := he.sg
      have hes : -1 ≤ es ∧ es ≤ 1 := by rw [hsg]; exact sign_range _
      have HX := Lib.hid ((sign_prod (part x y k) y es hsg).trans hps.symm)
      have HSC := Lib.hid (sign_cases3 (part x y k) y es hsg)
      have HSG := Lib.hid hsg
      have al : Below wr.heap.size wr (wr.alloc (.cells #[.int .i64 es, .slice ea en ec] 83)) := (Below.refl _ _).alloc (Nat.le_refl _) _
      have HS1 := Lib.hid (hsl1.mono al)
      have HS2 := Lib.hid (hsl2.mono al)
      clear hsg hps hsl1 hsl2 hp he HI
      generalize hpk : part x y k = pk at *
      have HPK := Lib.hid hpk; clear hpk
      obtain rfl : k = 0 := by omega
      go_wp2_with fail
      clear ec0 ec1 al
      generalize wr.alloc (Obj.cells #[Value.int IntKind.i64 es, Value.slice ea en ec] 83) = W at HS1 HS2 hreg ⊢
      generalize wr.heap.size = F at hreg ⊢
      have la0 := hreg.a0
      have la1 := hreg.a1
      have lb0 := hreg.b0
      have lb1 := hreg.b1
      have hRF := hreg.lt
      refine wp_region_still_tail 9 (by kernel_rfl) (by kernel_rfl) ?_
      simp only [List.take_succ_cons, List.take_zero, List.drop_succ_cons, List.drop_zero]
      repeat still_step
      still_call (with_still _ _ (sign_range _) hes _)
      repeat still_step
      refine wpStill_nil ?_
      change wpList _ _ _ _ _ W.drew
      go_wp2_with fail
      have hreg2 := hreg.mono (drew_left (Below.refl W.drew.heap.size W.drew))
      refine (multiply_new _ _ _ pk.natAbs y.natAbs (HS1.out.mono (Below.refl _ _).drew) (HS2.out.mono (Below.refl _ _).drew) hz1 hz2).mono ?_
      rintro e w2 ⟨⟨v2, rfl, hm2, hsm2, -⟩, hb2⟩
      go_wp2_with fail
      refine (signed_any _ _ _ _ (Wh.ok_limbs _) hm2 hsm2 (by rw [Wh.val_limbs]; exact HSC.out)).mono ?_
      rintro e w3 ⟨⟨v3, rfl, hn3⟩, hb3⟩
      rw [HX.out] at hn3
      obtain ⟨sl3, rfl, hsl3⟩ := hn3
      obtain ⟨xa3, xc3, rfl⟩ := hsl3.len
      have hr3 := hreg2.mono (hb2.trans (hb3.mono hb2.size))
      have HF := Lib.hid (hr3.store ⟨_, _, _, rfl⟩ hsl3)
      obtain ⟨k0, k1, kb0, kb1⟩ := hr3.keep
      have g0 := hr3.f0
      have g1 := hr3.f1
      clear hreg hreg2 hr3 hb2 hb3 hm2 hsm2 hsl3 la0 la1 lb0 lb1 kb0 kb1
      go_wp2
      go_roundw
      case rel => exact ⟨1, by omega, by go_num, HF⟩
      case measure => simp [intOf]
    · obtain rfl : k = 1 := by omega
      obtain ⟨pa, pn, pc, hp⟩ := HI.out.held
      have hr0 := HI.out.r0
      have hr1 := HI.out.r1
      have hg0 := HI.out.g0
      have hg1 := HI.out.g1
      have hc0 := hp.c0
      have hc1 := hp.c1
      have hbl := HI.out.below
      have hsl := hp.sl
      obtain ⟨t, ht⟩ : ∃ t : Int, t = x * y := ⟨_, rfl⟩
      have ept : part x y 1 = t := ht.symm
      rw [ept] at hc0 hsl
      have HT := Lib.hid ht
      clear ht ept hp HI
      go_wp2
      obtain ⟨t0, t1⟩ := two_cells wr (R + 1) (.int .i64 (Int.sign t)) (.slice pa pn pc) hr0 hr1
      exact bodyPost_ret (v := .agg #[.int .i64 (Int.sign t), .slice pa pn pc]) (by simp [results, Tryz.results185, go_sem, t0, t1]) rfl ⟨⟨_, rfl, by rw [← HT.out]; exact ⟨_, rfl, hsl.store2 _ hr0 hr1 _ _⟩⟩, (hbl.setCell (by show w.heap.size ≤ R + 1; omega) _).setCell (by show w.heap.size ≤ R + 1; omega) _⟩
end Go.Proofs.YteaeloeebfdodaaGreatDoor

/- WALKS, strings 1: HasPrefix, CutPrefix at a minus sign. -/
namespace Go.Proofs.YteaeloeebfdodaaGreatDoor
open Go.RowKit
/-- a list of bytes as a string -/
def str (l : List UInt8) : ByteArray := ⟨l.toArray⟩
theorem str_data (l : List UInt8) : (str l).data.toList = l := rfl
theorem str_size (l : List UInt8) : (str l).size = l.length := rfl
theorem eq_str {s : ByteArray} {l : List UInt8} (h : s.data.toList = l) : s = str l := by rw [← h, str, Lib.mk_data]
theorem str_tail (c : UInt8) (r : List UInt8) : (str (c :: r)).extract 1 (str (c :: r)).size = str r := eq_str (by rw [Lib.extract_to_end, str_data]; rfl)
set_option maxHeartbeats 400000 in
theorem hasPrefix_short (s : ByteArray) (h : s.size = 0) (w : World) :
    Calls Tryz.prog 234 #[.string s, .string ⟨#[45]⟩] w fun e w' => e = .returned (.bool false) ∧ w = w' := by
  have h' : s.size ≤ 0 := by omega
  clear h
  go_enter Tryz.func234, Tryz.ntmps234
  go_wp2
  go_ret
  exact ⟨rfl, rfl⟩
set_option maxHeartbeats 400000 in
theorem hasPrefix_some (s : ByteArray) (h : 1 ≤ s.size) (hm : s.size ≤ 100000) (w : World) :
    Calls Tryz.prog 234 #[.string s, .string ⟨#[45]⟩] w fun e w' => e = .returned (.bool ((s.extract 0 1).toList == [45])) ∧ w = w' := by
  go_enter Tryz.func234, Tryz.ntmps234
  go_wp2
  go_ret
  exact ⟨rfl, rfl⟩
theorem hasPrefix_list (l : List UInt8) (hm : l.length ≤ 100000) (w : World) :
    Calls Tryz.prog 234 #[.string (str l), .string ⟨#[45]⟩] w fun e w' => e = .returned (.bool (l.head? == some 45)) ∧ w = w' := by
  cases l with
  | nil => exact hasPrefix_short _ rfl w
  | cons c r =>
    have := hasPrefix_some (str (c :: r)) (by simp [str_size]) (by rw [str_size]; exact hm) w
    rw [Lib.extract_toList, str_data] at this
    simpa using this
set_option maxHeartbeats 400000 in
theorem cut_yes0 (r : List UInt8) (hm : r.length ≤ 90000) (w : World) :
    Calls Tryz.prog 280 #[.string (str (45 :: r)), .string ⟨#[45]⟩] w fun e w' => e = .returned (.tuple #[.string (str r), .bool true]) ∧ w = w' := by
  have hp := hasPrefix_list (45 :: r) (by simp; omega) w
  have ht := str_tail 45 r
  have hz1 : 1 ≤ (str (45 :: r)).size := by simp [str_size]
  have hz2 : (str (45 :: r)).size ≤ 100000 := by simp [str_size]; omega
  simp only [List.head?_cons, beq_self_eq_true] at hp
  generalize str (45 :: r) = s at *
  have HP := Lib.hid hp; clear hp
  have HT := Lib.hid ht; clear ht
  go_enter Tryz.func280, Tryz.ntmps280
  go_wp2_with fail
  refine HP.out.mono ?_
  rintro e w' ⟨rfl, rfl⟩
  go_wp2
  go_ret2
  exact ⟨by rw [← HT.out]; rfl, rfl⟩
set_option maxHeartbeats 400000 in
theorem cut_no0 (l : List UInt8) (hm : l.length ≤ 90000) (hh : l.head? ≠ some 45) (w : World) :
    Calls Tryz.prog 280 #[.string (str l), .string ⟨#[45]⟩] w fun e w' => e = .returned (.tuple #[.string (str l), .bool false]) ∧ w = w' := by
  have hp := hasPrefix_list l (by omega) w
  rw [show (l.head? == some 45) = false from beq_eq_false_iff_ne.2 hh] at hp
  have HP := Lib.hid hp; clear hp hh
  go_enter Tryz.func280, Tryz.ntmps280
  go_wp2_with fail
  refine HP.out.mono ?_
  rintro e w' ⟨rfl, rfl⟩
  go_wp2
  go_ret2
  exact ⟨rfl, rfl⟩
set_option maxHeartbeats 400000 in
theorem cut_yes (r : List UInt8) (hm : r.length ≤ 90000) (w : World) :
    Calls Tryz.prog 238 #[.string (str (45 :: r)), .string ⟨#[45]⟩] w fun e w' => e = .returned (.tuple #[.string (str r), .bool true]) ∧ w = w' := by
  have HP := Lib.hid (cut_yes0 r hm w)
  generalize str (45 :: r) = s at *
  go_enter Tryz.func238, Tryz.ntmps238
  go_wp2_with fail
  refine HP.out.mono ?_
  rintro e w' ⟨rfl, rfl⟩
  go_wp2
  go_ret2
  exact ⟨rfl, rfl⟩
set_option maxHeartbeats 400000 in
theorem cut_no (l : List UInt8) (hm : l.length ≤ 90000) (hh : l.head? ≠ some 45) (w : World) :
    Calls Tryz.prog 238 #[.string (str l), .string ⟨#[45]⟩] w fun e w' => e = .returned (.tuple #[.string (str l), .bool false]) ∧ w = w' := by
  have HP := Lib.hid (cut_no0 l hm hh w)
  clear hh
  go_enter Tryz.func238, Tryz.ntmps238
  go_wp2_with fail
  refine HP.out.mono ?_
  rintro e w' ⟨rfl, rfl⟩
  go_wp2
  go_ret2
  exact ⟨rfl, rfl⟩
end Go.Proofs.YteaeloeebfdodaaGreatDoor

/- WALKS, strings 2: what a character is as a digit; split. -/
namespace Go.Proofs.YteaeloeebfdodaaGreatDoor
open Go.RowKit
/-- what an ASCII character is as a digit -/
def dval (c : Nat) : Nat := if 48 ≤ c ∧ c ≤ 57 then c - 48 else if 97 ≤ c ∧ c ≤ 122 then c - 87 else 36
set_option maxHeartbeats 400000 in
theorem digitOf_any (c : Nat) (h : c < 128) (w : World) :
    Calls Tryz.prog 230 #[.int .i32 c] w fun e w' => e = .returned (.int .i64 (dval c)) ∧ w = w' := by
  by_cases h1 : 48 ≤ c ∧ c ≤ 57
  · have e : dval c = c - 48 := by rw [dval, if_pos h1]
    obtain ⟨a, b⟩ := h1
    have E := Lib.hid e; clear e
    go_enter Tryz.func230, Tryz.ntmps230
    go_wp2
    go_ret
    exact ⟨by rw [E.out, Int.ofNat_sub a]; rfl, rfl⟩
  · by_cases h2 : 97 ≤ c ∧ c ≤ 122
    · have e : dval c = c - 87 := by rw [dval, if_neg h1, if_pos h2]
      obtain ⟨a, b⟩ := h2
      have E := Lib.hid e; clear e
      have h3 : 57 < c := by omega
      clear h1
      go_enter Tryz.func230, Tryz.ntmps230
      go_wp2
      go_ret
      exact ⟨by rw [E.out]; simp; omega, rfl⟩
    · have e : dval c = 36 := by rw [dval, if_neg h1, if_neg h2]
      have E := Lib.hid e; clear e
      rcases Nat.lt_or_ge c 48 with h3 | h3
      · clear h1 h2
        go_enter Tryz.func230, Tryz.ntmps230
        go_wp2
        go_ret
        exact ⟨by rw [E.out]; rfl, rfl⟩
      · have h4 : 57 < c := by omega
        clear h1
        rcases Nat.lt_or_ge c 97 with h5 | h5
        · clear h2
          go_enter Tryz.func230, Tryz.ntmps230
          go_wp2
          go_ret
          exact ⟨by rw [E.out]; rfl, rfl⟩
        · have h6 : 122 < c := by omega
          clear h2
          go_enter Tryz.func230, Tryz.ntmps230
          go_wp2
          go_ret
          exact ⟨by rw [E.out]; rfl, rfl⟩
theorem str_get (d : List UInt8) (pos : Nat) (h : pos < (str d).size) : (str d)[pos]'h = d.getD pos 0 := by
  have h' : pos < d.length := h
  rw [List.getD_eq_getElem?_getD, List.getElem?_eq_getElem h']; rfl
theorem decode_at (d : List UInt8) (pos : Nat) (h : pos < d.length) (ha : (d.getD pos 0).toNat < 128) : Utf8.decode (str d) pos = ((d.getD pos 0).toNat, 1) := by
  have h' : pos < (str d).size := h
  rw [decode_ascii (str d) pos h' (by rw [str_get]; exact ha), str_get]
/-- the digits of a text in a base -/
def Digs (base : Nat) (d : List UInt8) : Prop := ∀ c ∈ d, c.toNat < 128 ∧ dval c.toNat < base
theorem Digs.at {base : Nat} {d : List UInt8} (h : Digs base d) {i : Nat} (hi : i < d.length) : (d.getD i 0).toNat < 128 ∧ dval (d.getD i 0).toNat < base := by
  rw [List.getD_eq_getElem?_getD, List.getElem?_eq_getElem hi]; exact h _ (List.getElem_mem hi)
set_option maxRecDepth 100000 in
set_option maxHeartbeats 400000 in
theorem split_pos (d : List UInt8) (base : Nat) (hd : Digs base d) (hne : d ≠ []) (hm : d.length ≤ 80000) (hh : d.head? ≠ some 45) (hz : d.head? ≠ some 48 ∨ d = [48]) (w : World) :
    Calls Tryz.prog 204 #[.string (str d), .int .i64 base] w fun e w' => e = .returned (.tuple #[.int .i64 1, .string (str d)]) ∧ Below w.heap.size w w' := by
  have hcut := cut_no d (by omega) hh w
  have HCUT := Lib.hid hcut; clear hcut
  have HD := Lib.hid hd; clear hd
  have hs0 : 0 < (str d).size := by rw [str_size]; exact List.length_pos_iff.2 hne
  have hsz : (str d).size = d.length := rfl
  have hsm : (str d).size ≤ 80000 := hm
  have HSZ := Lib.hid hsz; clear hsz hm
  have HNE := Lib.hid hne; clear hne
  have HH := Lib.hid hh; clear hh
  have HZ := Lib.hid hz; clear hz
  go_enter Tryz.func204, Tryz.ntmps204
  go_wp2_with fail
  refine (mark_below _).mono ?_
  rintro e w' ⟨rfl, rfl⟩
  go_wp2_with fail
  refine HCUT.out.mono ?_
  rintro e w' ⟨rfl, rfl⟩
  go_wp2_with fail
  rw [show (!(str d).toList.isEmpty) = true from by rw [Lib.toList_data, str_data]; have := HNE.out; cases d <;> simp_all]
  refine (demand_yes _ _).mono ?_
  rintro e w' ⟨rfl, rfl⟩
  go_wp2_with fail
  go_loopw [] (fun wr => ∃ pos : Nat, pos ≤ (str d).size ∧ wr = w.iter (str d) pos) (fun wr => (str d).size - wr.iterPos w.heap.size)
  case atStart => exact ⟨0, Nat.zero_le _, rfl⟩
  case round =>
    obtain ⟨pos, hp, rfl⟩ := hrel
    by_cases hlt : pos < (str d).size
    · obtain ⟨hc1, hc2⟩ := HD.out.at (i := pos) (by rw [← HSZ.out]; exact hlt)
      have hdec := decode_at d pos (by rw [← HSZ.out]; exact hlt) hc1
      have hnx : ∀ ty, (Instr.next (.pointer (some ⟨w.heap.size, 0, none⟩)) true ty).run Tryz.prog (w.iter (str d) pos) = .ok (.tuple #[.bool true, .int .i64 pos, .int .i32 ((d.getD pos 0).toNat : Nat)]) (w.iter (str d) (pos + 1)) := fun ty => by
        rw [run_next_any w (str d) pos ty hlt, hdec]
      clear hdec
      generalize (d.getD pos 0).toNat = c at *
      have hdv : decide (dval c < base) = true := by simpa using hc2
      go_wp2_with fail
      refine (digitOf_any c hc1 _).mono ?_
      rintro e w' ⟨rfl, rfl⟩
      go_wp2_with fail
      refine (demand_yes _ _).mono ?_
      rintro e w' ⟨rfl, rfl⟩
      go_wp2
      go_roundw
      case rel => exact ⟨pos + 1, by omega, rfl⟩
      case measure => simp; omega
    · have hnx : ∀ ty, (Instr.next (.pointer (some ⟨w.heap.size, 0, none⟩)) true ty).run Tryz.prog (w.iter (str d) pos) = _ := fun ty => run_next_end w (str d) pos ty hlt
      rcases HZ.out with hz | hz
      · have h48 : ¬ (((str d)[0]'hs0).toNat : Int) = 48 := by
          rw [str_get d 0 hs0]
          intro e
          apply hz
          have e1 : (d.getD 0 0).toNat = 48 := by omega
          have e2 : d.getD 0 0 = 48 := UInt8.toNat_inj.1 e1
          have := HNE.out
          cases d with
          | nil => exact absurd rfl this
          | cons c r => simpa using e2
        clear hz
        go_wp2_with fail
        refine (demand_yes _ _).mono ?_
        rintro e w' ⟨rfl, rfl⟩
        go_wp2
        go_ret2
        exact ⟨rfl, (Below.refl _ _).alloc (Nat.le_refl _) _⟩
      · have h48 : (((str d)[0]'hs0).toNat : Int) = 48 := by rw [str_get d 0 hs0, hz]; rfl
        have htl : ((str d).toList == [48]) = true := by rw [Lib.toList_data, str_data, hz]; rfl
        clear hz
        go_wp2_with fail
        refine (demand_yes _ _).mono ?_
        rintro e w' ⟨rfl, rfl⟩
        go_wp2
        go_ret2
        exact ⟨rfl, (Below.refl _ _).alloc (Nat.le_refl _) _⟩
set_option maxRecDepth 100000 in
set_option maxHeartbeats 400000 in
theorem split_neg (d : List UInt8) (base : Nat) (hd : Digs base d) (hne : d ≠ []) (hm : d.length ≤ 80000) (hz : d.head? ≠ some 48) (w : World) :
    Calls Tryz.prog 204 #[.string (str (45 :: d)), .int .i64 base] w fun e w' => e = .returned (.tuple #[.int .i64 (-1), .string (str d)]) ∧ Below w.heap.size w w' := by
  have hcut := cut_yes d (by omega) w
  have HCUT := Lib.hid hcut; clear hcut
  have HD := Lib.hid hd; clear hd
  have hs0 : 0 < (str d).size := by rw [str_size]; exact List.length_pos_iff.2 hne
  have hsz : (str d).size = d.length := rfl
  have hsm : (str d).size ≤ 80000 := hm
  have HSZ := Lib.hid hsz; clear hsz hm
  have HNE := Lib.hid hne; clear hne
  generalize str (45 :: d) = full at *
  have HZ := Lib.hid hz; clear hz
  go_enter Tryz.func204, Tryz.ntmps204
  go_wp2_with fail
  refine (mark_below _).mono ?_
  rintro e w' ⟨rfl, rfl⟩
  go_wp2_with fail
  refine HCUT.out.mono ?_
  rintro e w' ⟨rfl, rfl⟩
  go_wp2_with fail
  rw [show (!(str d).toList.isEmpty) = true from by rw [Lib.toList_data, str_data]; have := HNE.out; cases d <;> simp_all]
  refine (demand_yes _ _).mono ?_
  rintro e w' ⟨rfl, rfl⟩
  go_wp2_with fail
  go_loopw [] (fun wr => ∃ pos : Nat, pos ≤ (str d).size ∧ wr = w.iter (str d) pos) (fun wr => (str d).size - wr.iterPos w.heap.size)
  case atStart => exact ⟨0, Nat.zero_le _, rfl⟩
  case round =>
    obtain ⟨pos, hp, rfl⟩ := hrel
    by_cases hlt : pos < (str d).size
    · obtain ⟨hc1, hc2⟩ := HD.out.at (i := pos) (by rw [← HSZ.out]; exact hlt)
      have hdec := decode_at d pos (by rw [← HSZ.out]; exact hlt) hc1
      have hnx : ∀ ty, (Instr.next (.pointer (some ⟨w.heap.size, 0, none⟩)) true ty).run Tryz.prog (w.iter (str d) pos) = .ok (.tuple #[.bool true, .int .i64 pos, .int .i32 ((d.getD pos 0).toNat : Nat)]) (w.iter (str d) (pos + 1)) := fun ty => by
        rw [run_next_any w (str d) pos ty hlt, hdec]
      clear hdec
      generalize (d.getD pos 0).toNat = c at *
      have hdv : decide (dval c < base) = true := by simpa using hc2
      go_wp2_with fail
      refine (digitOf_any c hc1 _).mono ?_
      rintro e w' ⟨rfl, rfl⟩
      go_wp2_with fail
      refine (demand_yes _ _).mono ?_
      rintro e w' ⟨rfl, rfl⟩
      go_wp2
      go_roundw
      case rel => exact ⟨pos + 1, by omega, rfl⟩
      case measure => simp; omega
    · have hnx : ∀ ty, (Instr.next (.pointer (some ⟨w.heap.size, 0, none⟩)) true ty).run Tryz.prog (w.iter (str d) pos) = _ := fun ty => run_next_end w (str d) pos ty hlt
      have hz := HZ.out
      have h48 : ¬ (((str d)[0]'hs0).toNat : Int) = 48 := by
        rw [str_get d 0 hs0]
        intro e
        apply hz
        have e1 : (d.getD 0 0).toNat = 48 := by omega
        have e2 : d.getD 0 0 = 48 := UInt8.toNat_inj.1 e1
        have := HNE.out
        cases d with
        | nil => exact absurd rfl this
        | cons c r => simpa using e2
      clear hz
      go_wp2_with fail
      refine (demand_yes _ _).mono ?_
      rintro e w' ⟨rfl, rfl⟩
      go_wp2
      go_ret2
      exact ⟨rfl, (Below.refl _ _).alloc (Nat.le_refl _) _⟩
end Go.Proofs.YteaeloeebfdodaaGreatDoor

namespace Wh
/-- the i-th nine digits from the end -/
def chunk (d : List UInt8) (i : Nat) : List UInt8 := (d.drop (d.length - 9 * i - 9)).take (d.length - 9 * i - (d.length - 9 * i - 9))
theorem chunk_length (d : List UInt8) (i : Nat) : (chunk d i).length ≤ 9 := by simp [chunk]; omega
theorem chunk_digits {d : List UInt8} (h : ∀ c ∈ d, isD c) (i : Nat) : ∀ c ∈ chunk d i, isD c := fun c hc => h c (List.mem_of_mem_drop (List.mem_of_mem_take hc))
theorem numOf_small {l : List UInt8} (h : ∀ c ∈ l, isD c) (hl : l.length ≤ 9) : numOf l < R := by
  have := numOf_lt h
  have h2 : 10 ^ l.length ≤ 10 ^ 9 := Nat.pow_le_pow_right (by decide) hl
  have : R = 10 ^ 9 := by decide
  omega
theorem drop_chunk (d : List UInt8) (i : Nat) (h : 9 * i ≤ d.length) : d.drop (d.length - 9 * (i + 1)) = chunk d i ++ d.drop (d.length - 9 * i) := by
  have e : d.length - 9 * (i + 1) = d.length - 9 * i - 9 := by omega
  rw [e, chunk]
  have := (List.take_append_drop (d.length - 9 * i - (d.length - 9 * i - 9)) (d.drop (d.length - 9 * i - 9))).symm
  rw [List.drop_drop] at this
  have e2 : d.length - 9 * i - 9 + (d.length - 9 * i - (d.length - 9 * i - 9)) = d.length - 9 * i := by omega
  rw [e2] at this
  exact this
theorem pow9 (k : Nat) : 10 ^ (9 * k) = R ^ k := by rw [Nat.pow_mul]; rfl
theorem sum_chunks (d : List UInt8) (k : Nat) (h : 9 * k ≤ d.length + 8) : sum (fun i => numOf (chunk d i)) k = numOf (d.drop (d.length - 9 * k)) := by
  induction k with
  | zero => simp [sum, numOf]
  | succ k ih =>
    rw [sum, ih (by omega), drop_chunk d k (by omega), numOf_append, List.length_drop]
    have e : d.length - (d.length - 9 * k) = 9 * k := by omega
    rw [e, pow9, Nat.mul_comm (numOf _), Nat.add_comm]
theorem sum_all (d : List UInt8) : sum (fun i => numOf (chunk d i)) ((d.length + 8) / 9) = numOf d := by
  rw [sum_chunks d _ (by omega)]
  have : d.length - 9 * ((d.length + 8) / 9) = 0 := by omega
  rw [this, List.drop_zero]
theorem pre_ok {g : Nat → Nat} (h : ∀ i, g i < R) (k n : Nat) : Ok (pre g k n) := by
  rw [pre, ok_append]
  refine ⟨fun x hx => ?_, ok_replicate _⟩
  obtain ⟨i, _, rfl⟩ := List.mem_map.1 hx
  exact h i
theorem pre_full (g : Nat → Nat) (n : Nat) : pre g n n = (List.range n).map g := by simp [pre]
theorem numOf_take_succ (l : List UInt8) (p : Nat) (h : p < l.length) : numOf (l.take (p + 1)) = 10 * numOf (l.take p) + dv (l.getD p 0) := by
  rw [List.take_succ_eq_append_getElem h, numOf_snoc]; simp [List.getD, h]
end Wh
