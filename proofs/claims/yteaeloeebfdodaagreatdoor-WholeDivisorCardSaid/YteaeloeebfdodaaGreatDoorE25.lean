/- Part 25 of the proofs that laws of package whole answer true at every input and leave the input as it was, where the library's variables start as the text lays them (the texts G13, M17, G14, W9). -/
import Derived.Test.YteaeloeebfdodaaGreatDoorE17
import Derived.Test.YteaeloeebfdodaaGreatDoorE24
import Derived.Test.YteaeloeebfdodaaGreatDoorE22
set_option linter.unusedVariables false
set_option linter.unusedSimpArgs false
/- WALKS, the divisor 13: whole.Gcd over any contract of Combine; texts of the number that Combine makes of 0 and 0. -/
namespace Go.Proofs.YteaeloeebfdodaaGreatDoor
open Go.RowKit
/-- the cells of a number that prints as z: its own, or (for 0) the sign 0 with the limb 1 -/
def TxC (w : World) (s : Int) (sl : Value) (z : Int) : Prop := (s = z.sign ∧ Sl w sl (Wh.limbs z.natAbs)) ∨ (z = 0 ∧ s = 0 ∧ Sl w sl (Wh.limbs 1))
theorem TxC.mono {w w' : World} {s : Int} {sl : Value} {z : Int} (h : TxC w s sl z) (hb : Below w.heap.size w w') : TxC w' s sl z := by
  rcases h with ⟨h1, h2⟩ | ⟨h0, h1, h2⟩
  · exact .inl ⟨h1, h2.mono hb⟩
  · exact .inr ⟨h0, h1, h2.mono hb⟩
def Tx (w : World) (v : Value) (z : Int) : Prop := ∃ (s : Int) (a : Option Addr) (n c : Nat), v = .agg #[.int .i64 s, .slice a n c] ∧ TxC w s (.slice a n c) z
theorem Tx.mono {w w' : World} {v : Value} {z : Int} (h : Tx w v z) (hb : Below w.heap.size w w') : Tx w' v z := by
  obtain ⟨s, a, n, c, e, k⟩ := h
  exact ⟨s, a, n, c, e, k.mono hb⟩
theorem Num.tx {w : World} {v : Value} {z : Int} (h : Num w v z) : Tx w v z := by
  obtain ⟨s, rfl, k⟩ := h
  obtain ⟨a, c, rfl⟩ := k.len
  exact ⟨_, _, _, _, rfl, .inl ⟨rfl, k⟩⟩
def TxAt (w : World) (b : Nat) (z : Int) : Prop := ∃ (s : Int) (a : Option Addr) (n c : Nat), w.cell? ⟨b, 0, none⟩ = some (.int .i64 s) ∧ w.cell? ⟨b, 1, none⟩ = some (.slice a n c) ∧ TxC w s (.slice a n c) z
theorem TxAt.mono {w w' : World} {b : Nat} {z : Int} (h : TxAt w b z) (hb : Below w.heap.size w w') (hl : b < w.heap.size) : TxAt w' b z := by
  obtain ⟨s, a, n, c, h0, h1, k⟩ := h
  exact ⟨s, a, n, c, (hb.cell (p := ⟨b, 0, none⟩) hl).trans h0, (hb.cell (p := ⟨b, 1, none⟩) hl).trans h1, k.mono hb⟩
set_option maxHeartbeats 400000 in
theorem length_w (w : World) (a : Option Addr) (c : Nat) (hsl : Sl w (.slice a 1 c) (Wh.limbs 1)) (htab : Tab w) :
    Calls Tryz.prog 97 #[.agg #[.int .i64 0, .slice a 1 c]] w fun e w' => e = .returned (.int .i64 1) ∧ Below w.heap.size w w' := by
  obtain ⟨hl, hp, ht⟩ := Wh.length_by_top (n := 1) (by omega)
  have h1 : (Wh.limbs 1).length = 1 := limbs_one
  have hd1 : (Wh.decN 1).length = 1 := by rw [Wh.decN_small (by decide)]; rfl
  rcases hsl with ⟨h0, _⟩ | ⟨b, off, cap, he, hcap, hb, hc⟩
  · rw [h0] at hp; simp at hp
  · rw [h1] at he
    cases he
    have hct := hc 0 (by omega)
    have htr := Wh.getD_lt (Wh.ok_limbs 1) 0
    rw [Wh.R_eq] at htr
    rw [h1, hd1] at hl
    have HL := Lib.hid hl; clear hl hc
    rw [show 1 - 1 = 0 from rfl] at HL
    generalize (Wh.limbs 1).getD 0 0 = t at *
    have hct2 : (w.alloc (Obj.cells #[Value.int IntKind.i64 0, Value.slice (some { block := b, off := off }) 1 c] 83)).cell? ⟨b, off, none⟩ = some (.int .u32 t) :=
      (((Below.refl w.heap.size w).alloc (Nat.le_refl _) _).cell (p := ⟨b, off, none⟩) hb).trans (by simpa using hct)
    clear hct
    have hbne : b ≠ w.heap.size := by omega
    go_enter Tryz.func97, Tryz.ntmps97
    go_wp2_with fail
    refine (itoa_any t htr _ (htab.mono ((Below.refl _ _).alloc (Nat.le_refl _) _))).mono ?_
    rintro e w2 ⟨⟨s, rfl, hs⟩, hb2⟩
    have hdl := Wh.decN_length_le (n := t) (k := 9) (by decide) (by omega)
    rw [← hs] at hdl
    have HS := Lib.hid hs; clear hs
    have hbb : Below w.heap.size w w2 := ((Below.refl _ _).alloc (Nat.le_refl _) _).trans (hb2.mono (by simp))
    clear hct2
    go_wp2
    go_ret
    refine ⟨?_, hbb⟩
    have h3 := HL.out; have h4 := HS.out
    have h5 : s.size = 1 := by rw [h4]; simpa using h3.symm
    rw [h5]
    rfl
set_option maxRecDepth 100000 in
set_option maxHeartbeats 400000 in
theorem wtext_w (w : World) (a : Option Addr) (c : Nat) (hsl : Sl w (.slice a 1 c) (Wh.limbs 1)) (htab : Tab w) :
    Calls Tryz.prog 98 #[.agg #[.int .i64 0, .slice a 1 c]] w fun e w' => e = .returned (.string ⟨#[48]⟩) ∧ Below w.heap.size w w' := by
  have hb0 : Below w.heap.size w (w.alloc (Obj.cells #[.int .i64 0, .slice a 1 c] 83)) := (Below.refl _ _).alloc (Nat.le_refl _) _
  have H1 := Lib.hid (length_w _ a c (hsl.mono hb0) (htab.mono hb0))
  have H2 := Lib.hid (fun w2 => text_zero w2 (.slice a 1 c))
  clear htab hsl
  have hk0 : (w.alloc (Obj.cells #[.int .i64 0, .slice a 1 c] 83)).cell? ⟨w.heap.size, 0, none⟩ = some (.int .i64 0) := by go_simp
  have hk1 : (w.alloc (Obj.cells #[.int .i64 0, .slice a 1 c] 83)).cell? ⟨w.heap.size, 1, none⟩ = some (.slice a 1 c) := by go_simp
  have hs0 : (w.alloc (Obj.cells #[.int .i64 0, .slice a 1 c] 83)).heap.size = w.heap.size + 1 := by simp
  rw [Int.sign_zero] at H2
  go_enter Tryz.func98, Tryz.ntmps98
  go_wp2_with fail
  generalize w.alloc (Obj.cells #[.int .i64 0, .slice a 1 c] 83) = W at *
  refine H1.out.mono ?_
  rintro e w1 ⟨rfl, hb1⟩
  rw [hs0] at hb1
  have HS0 := Lib.hid hs0; clear hs0
  have j0 := (hb1.cell (p := ⟨w.heap.size, 0, none⟩) (Nat.lt_succ_self _)).trans hk0
  have j1 := (hb1.cell (p := ⟨w.heap.size, 1, none⟩) (Nat.lt_succ_self _)).trans hk1
  clear hk0 hk1
  go_wp2_with fail
  refine (demand_yes _ _).mono ?_
  rintro e w2 ⟨rfl, rfl⟩
  go_wp2_with fail
  refine (H2.out _).mono ?_
  rintro e w3 ⟨rfl, hb3⟩
  have hbb : Below w.heap.size w w3 := hb0.trans ((hb1.trans (hb3.mono (by have := hb1.size; have := HS0.out; omega))).mono (Nat.le_succ _))
  go_wp2
  go_ret
  exact ⟨rfl, hbb⟩
theorem wtext_tx (w : World) (v : Value) (z : Int) (h : Tx w v z) (htab : Tab w) (hv : Valid z) :
    Calls Tryz.prog 98 #[v] w fun e w' => e = .returned (txt z) ∧ Below w.heap.size w w' := by
  obtain ⟨s, a, n, c, rfl, ⟨rfl, k⟩ | ⟨rfl, rfl, k⟩⟩ := h
  · exact wtext_any w _ z ⟨_, rfl, k⟩ htab hv
  · obtain ⟨a', c', e⟩ := k.len
    have h1 : (Wh.limbs 1).length = 1 := limbs_one
    rw [h1] at e
    cases e
    rw [txt_zero]
    exact wtext_w w a c k htab
def GDg (g v u : Int) : Nat → Value → World → Prop
  | 0, a, w => Tx w a g
  | 1, a, _ => a = txt g
  | 2, a, w => Tx w a v
  | 3, a, _ => a = txt v
  | 4, a, w => Tx w a u
  | 5, a, _ => a = txt u
  | 6, a, _ => a = .agg #[txt g, txt v, txt u]
  | _, _, _ => True
theorem GDg_stays (g v u : Int) : ∀ i a w w', GDg g v u i a w → Below w.heap.size w w' → GDg g v u i a w' := by
  intro i a w w' h hb
  match i, h with
  | 0, h | 2, h | 4, h => exact Tx.mono h hb
  | 1, h | 3, h | 5, h | 6, h => exact h
  | _ + 7, h => trivial

set_option maxRecDepth 100000 in
set_option maxHeartbeats 1000000 in
theorem gcd_work_g (w : World) (pa pb : Addr) (x y g vv u : Int) (hc : Captured w pa pb x y) (hla : pa.block < w.heap.size) (hlb : pb.block < w.heap.size) (hvx : Valid x) (hvy : Valid y) (hvg : Valid g) (hvv : Valid vv) (hvu : Valid u) (hco : ∀ (w : World) (xa ya : Option Addr) (xc yc : Nat), Sl w (.slice xa (Wh.limbs x.natAbs).length xc) (Wh.limbs x.natAbs) → Sl w (.slice ya (Wh.limbs y.natAbs).length yc) (Wh.limbs y.natAbs) → Calls Tryz.prog 115 #[.agg #[.int .i64 x.sign, .slice xa (Wh.limbs x.natAbs).length xc], .agg #[.int .i64 y.sign, .slice ya (Wh.limbs y.natAbs).length yc]] w fun e w' => (∃ v1 v2 v3, e = .returned (.tuple #[v1, v2, v3]) ∧ Tx w' v1 g ∧ Tx w' v2 vv ∧ Tx w' v3 u) ∧ Below w.heap.size w w') (htab : Tab w) :
    Calls Tryz.prog 114 #[.pointer (some pa), .pointer (some pb)] w fun e w' => e = .returned (.agg #[txt g, txt vv, txt u]) ∧ Below w.heap.size w w' := by
  have hb0 : Below w.heap.size w (w.alloc (.cells #[.string ⟨#[]⟩, .string ⟨#[]⟩, .string ⟨#[]⟩] 120)) := (Below.refl _ _).alloc (Nat.le_refl _) _
  have ha := (hb0.cell hla).trans hc.a
  have hb := (hb0.cell hlb).trans hc.b
  have H1 := Lib.hid (fun w => readPair_any x y hvx hvy w)
  have HCO := Lib.hid hco
  have HVD_g := Lib.hid hvg
  have HVD_vv := Lib.hid hvv
  have HVD_u := Lib.hid hvu
  have HT := Lib.hid htab
  have HB0 := Lib.hid hb0
  clear hc hla hlb hvx hvy hvg hvv hvu hco htab hb0
  unfold txt at ha hb H1
  go_enter Tryz.func114, Tryz.ntmps114
  go_wp2_with fail
  refine (H1.out _).mono ?_
  rintro e w1 ⟨⟨a1, n1, c1, a2, n2, c2, rfl, hs1, hs2⟩, hb1⟩
  obtain ⟨_, _, e1⟩ := hs1.len
  obtain ⟨_, _, e2⟩ := hs2.len
  cases e1; cases e2
  have hal : Below w1.heap.size w1 (w1.alloc (Obj.cells #[.int .i64 x.sign, .slice a1 (Wh.limbs x.natAbs).length c1, .int .i64 y.sign, .slice a2 (Wh.limbs y.natAbs).length c2] 85)) := (Below.refl _ _).alloc (Nat.le_refl _) _
  have HC4 := Lib.hid (HCO.out (w1.alloc (Obj.cells #[.int .i64 x.sign, .slice a1 (Wh.limbs x.natAbs).length c1, .int .i64 y.sign, .slice a2 (Wh.limbs y.natAbs).length c2] 85)) a1 a2 c1 c2 (hs1.mono hal) (hs2.mono hal))
  have lw : w.heap.size < (w.alloc (.cells #[.string ⟨#[]⟩, .string ⟨#[]⟩, .string ⟨#[]⟩] 120)).heap.size := by simp
  have HR0 : Hid ((w.alloc (.cells #[.string ⟨#[]⟩, .string ⟨#[]⟩, .string ⟨#[]⟩] 120)).cell? ⟨w.heap.size, 0, none⟩ = some (.string ⟨#[]⟩) ∧ (w.alloc (.cells #[.string ⟨#[]⟩, .string ⟨#[]⟩, .string ⟨#[]⟩] 120)).cell? ⟨w.heap.size, 1, none⟩ = some (.string ⟨#[]⟩) ∧ (w.alloc (.cells #[.string ⟨#[]⟩, .string ⟨#[]⟩, .string ⟨#[]⟩] 120)).cell? ⟨w.heap.size, 2, none⟩ = some (.string ⟨#[]⟩)) := Lib.hid ⟨by go_simp, by go_simp, by go_simp⟩
  have HF0 : Hid ((w.alloc (.cells #[.string ⟨#[]⟩, .string ⟨#[]⟩, .string ⟨#[]⟩] 120)).frozen? ⟨w.heap.size, 0, none⟩ = false ∧ (w.alloc (.cells #[.string ⟨#[]⟩, .string ⟨#[]⟩, .string ⟨#[]⟩] 120)).frozen? ⟨w.heap.size, 1, none⟩ = false ∧ (w.alloc (.cells #[.string ⟨#[]⟩, .string ⟨#[]⟩, .string ⟨#[]⟩] 120)).frozen? ⟨w.heap.size, 2, none⟩ = false) := Lib.hid ⟨by go_simp, by go_simp, by go_simp⟩
  have HB1 := Lib.hid (hb1.trans (hal.mono hb1.size))
  clear hs1 hs2 hal hb1
  generalize (w.alloc (.cells #[.string ⟨#[]⟩, .string ⟨#[]⟩, .string ⟨#[]⟩] 120)) = U0 at *
  go_wp2_with fail
  refine HC4.out.mono ?_
  rintro e w2 ⟨⟨v1, v2, v3, rfl, hn1, hn2, hn3⟩, hb2⟩
  obtain ⟨sg1, p1, m1, q1, rfl, k1⟩ := hn1
  obtain ⟨sg2, p2, m2, q2, rfl, k2⟩ := hn2
  obtain ⟨sg3, p3, m3, q3, rfl, k3⟩ := hn3
  have hbU := HB1.out.trans (hb2.mono HB1.out.size)
  have hal3 : Below w2.heap.size w2 (((w2.alloc (Obj.cells #[.int .i64 sg1, .slice p1 m1 q1] 83)).alloc (Obj.cells #[.int .i64 sg2, .slice p2 m2 q2] 83)).alloc (Obj.cells #[.int .i64 sg3, .slice p3 m3 q3] 83)) := (((Below.refl _ _).alloc (Nat.le_refl _) _).alloc (by simp) _).alloc (by simp; omega) _
  have hbV := hbU.trans (hal3.mono hbU.size)
  have HB4 : Hid (TxAt (((w2.alloc (Obj.cells #[.int .i64 sg1, .slice p1 m1 q1] 83)).alloc (Obj.cells #[.int .i64 sg2, .slice p2 m2 q2] 83)).alloc (Obj.cells #[.int .i64 sg3, .slice p3 m3 q3] 83)) w2.heap.size g) := Lib.hid ⟨sg1, p1, m1, q1, by go_simp, by go_simp, k1.mono hal3⟩
  have HB5 : Hid (TxAt (((w2.alloc (Obj.cells #[.int .i64 sg1, .slice p1 m1 q1] 83)).alloc (Obj.cells #[.int .i64 sg2, .slice p2 m2 q2] 83)).alloc (Obj.cells #[.int .i64 sg3, .slice p3 m3 q3] 83)) (w2.heap.size + 1) vv) := Lib.hid ⟨sg2, p2, m2, q2, by go_simp, by go_simp, k2.mono hal3⟩
  have HB6 : Hid (TxAt (((w2.alloc (Obj.cells #[.int .i64 sg1, .slice p1 m1 q1] 83)).alloc (Obj.cells #[.int .i64 sg2, .slice p2 m2 q2] 83)).alloc (Obj.cells #[.int .i64 sg3, .slice p3 m3 q3] 83)) (w2.heap.size + 1 + 1) u) := Lib.hid ⟨sg3, p3, m3, q3, by go_simp, by go_simp, k3.mono hal3⟩
  have HVS : Hid ((((w2.alloc (Obj.cells #[.int .i64 sg1, .slice p1 m1 q1] 83)).alloc (Obj.cells #[.int .i64 sg2, .slice p2 m2 q2] 83)).alloc (Obj.cells #[.int .i64 sg3, .slice p3 m3 q3] 83)).heap.size = w2.heap.size + 3) := Lib.hid (by simp)
  have HR := Lib.hid (And.intro ((hbV.cell (p := ⟨w.heap.size, 0, none⟩) lw).trans HR0.out.1) (And.intro ((hbV.cell (p := ⟨w.heap.size, 1, none⟩) lw).trans HR0.out.2.1) ((hbV.cell (p := ⟨w.heap.size, 2, none⟩) lw).trans HR0.out.2.2)))
  have HF := Lib.hid (And.intro ((hbV.frozen (p := ⟨w.heap.size, 0, none⟩) lw).trans HF0.out.1) (And.intro ((hbV.frozen (p := ⟨w.heap.size, 1, none⟩) lw).trans HF0.out.2.1) ((hbV.frozen (p := ⟨w.heap.size, 2, none⟩) lw).trans HF0.out.2.2)))
  have HLW : Hid (w.heap.size < (((w2.alloc (Obj.cells #[.int .i64 sg1, .slice p1 m1 q1] 83)).alloc (Obj.cells #[.int .i64 sg2, .slice p2 m2 q2] 83)).alloc (Obj.cells #[.int .i64 sg3, .slice p3 m3 q3] 83)).heap.size) := Lib.hid (Nat.lt_of_lt_of_le lw hbV.size)
  have HBV := Lib.hid (HB0.out.trans (hbV.mono HB0.out.size))
  clear hbU hal3 hbV k1 k2 k3 hb2 HC4 HB1 HR0 HF0
  go_wp2_with fail
  generalize (((w2.alloc (Obj.cells #[.int .i64 sg1, .slice p1 m1 q1] 83)).alloc (Obj.cells #[.int .i64 sg2, .slice p2 m2 q2] 83)).alloc (Obj.cells #[.int .i64 sg3, .slice p3 m3 q3] 83)) = V at *
  have HTV := Lib.hid (HT.out.mono HBV.out)
  refine wp_mono (Q := fun e a' W' => e = .normal ∧ (∃ (vals : Nat → Value), a' = { tmps := #[.pointer (some pa), .pointer (some pb), .pointer (some ⟨w.heap.size, 0, none⟩), .pointer (some ⟨w1.heap.size, 0, none⟩), .pointer (some ⟨w2.heap.size, 0, none⟩), .pointer (some ⟨w2.heap.size + 1, 0, none⟩), .pointer (some ⟨w2.heap.size + 1 + 1, 0, none⟩), .string (str (Wh.decI x)), .string (str (Wh.decI y)), .agg #[.int .i64 x.sign, .slice a1 (Wh.limbs x.natAbs).length c1, .int .i64 y.sign, .slice a2 (Wh.limbs y.natAbs).length c2], .tuple #[.agg #[.int .i64 sg1, .slice p1 m1 q1], .agg #[.int .i64 sg2, .slice p2 m2 q2], .agg #[.int .i64 sg3, .slice p3 m3 q3]], .pointer (some ⟨w1.heap.size, 0, none⟩), .agg #[.int .i64 x.sign, .slice a1 (Wh.limbs x.natAbs).length c1], .pointer (some ⟨w1.heap.size, 2, none⟩), .agg #[.int .i64 y.sign, .slice a2 (Wh.limbs y.natAbs).length c2], .tuple #[.agg #[.int .i64 sg1, .slice p1 m1 q1], .agg #[.int .i64 sg2, .slice p2 m2 q2], .agg #[.int .i64 sg3, .slice p3 m3 q3]], .agg #[.int .i64 sg1, .slice p1 m1 q1], .agg #[.int .i64 sg2, .slice p2 m2 q2], .agg #[.int .i64 sg3, .slice p3 m3 q3], vals 0, vals 1, vals 2, vals 3, vals 4, vals 5, vals 6], defers := [] }) ∧ (W'.cell? ⟨w.heap.size, 0, none⟩ = some (txt g) ∧ W'.cell? ⟨w.heap.size, 1, none⟩ = some (txt vv) ∧ W'.cell? ⟨w.heap.size, 2, none⟩ = some (txt u)) ∧ Below w.heap.size w W') ?_ ?_
  refine Rt.wp_region_grow (n0 := 1) [7] [] 26 (fun vals => { tmps := #[.pointer (some pa), .pointer (some pb), .pointer (some ⟨w.heap.size, 0, none⟩), .pointer (some ⟨w1.heap.size, 0, none⟩), .pointer (some ⟨w2.heap.size, 0, none⟩), .pointer (some ⟨w2.heap.size + 1, 0, none⟩), .pointer (some ⟨w2.heap.size + 1 + 1, 0, none⟩), .string (str (Wh.decI x)), .string (str (Wh.decI y)), .agg #[.int .i64 x.sign, .slice a1 (Wh.limbs x.natAbs).length c1, .int .i64 y.sign, .slice a2 (Wh.limbs y.natAbs).length c2], .tuple #[.agg #[.int .i64 sg1, .slice p1 m1 q1], .agg #[.int .i64 sg2, .slice p2 m2 q2], .agg #[.int .i64 sg3, .slice p3 m3 q3]], .pointer (some ⟨w1.heap.size, 0, none⟩), .agg #[.int .i64 x.sign, .slice a1 (Wh.limbs x.natAbs).length c1], .pointer (some ⟨w1.heap.size, 2, none⟩), .agg #[.int .i64 y.sign, .slice a2 (Wh.limbs y.natAbs).length c2], .tuple #[.agg #[.int .i64 sg1, .slice p1 m1 q1], .agg #[.int .i64 sg2, .slice p2 m2 q2], .agg #[.int .i64 sg3, .slice p3 m3 q3]], .agg #[.int .i64 sg1, .slice p1 m1 q1], .agg #[.int .i64 sg2, .slice p2 m2 q2], .agg #[.int .i64 sg3, .slice p3 m3 q3], vals 0, vals 1, vals 2, vals 3, vals 4, vals 5, vals 6], defers := [] }) (GDg g vv u) (by kernel_rfl) (by kernel_rfl) (by kernel_rfl) (by kernel_rfl) (fun _ _ _ _ _ h => absurd h.1 (by simp)) (by kernel_rfl) rfl (fun _ => by kernel_rfl) (by kernel_rfl) (by kernel_rfl) (GDg_stays _ _ _) ?_ ?_ ?_
  · intro i o d hi hT hW hd vals w' hb hf
    have hlt : i < 8 := (Array.getElem?_eq_some_iff.1 hi).1
    rcases i with _ | _ | _ | _ | _ | _ | _ | _ | i
    · obtain rfl := Option.some.inj hi
      obtain rfl := Option.some.inj hd
      obtain ⟨gs, ga, gn, gc, z0, z1, zs⟩ := (HB4.out).mono hb (by have := HVS.out; omega)
      have ZS := Lib.hid zs; clear zs
      dsimp only
      go_simp
      exact ⟨⟨_, _, _, _, rfl, ZS.out⟩, Below.refl _ _⟩
    · obtain rfl := Option.some.inj hi
      obtain rfl := Option.some.inj hd
      have h0 : Tx w' (vals 0) g := hf 0 (by kernel_rfl)
      have HP := wtext_tx w' _ g h0 (HTV.out.mono hb) (HVD_g.out)
      obtain ⟨s0, a0, n0, c0, e0, -⟩ := h0
      rw [e0] at HP
      have HP := Lib.hid HP
      dsimp only
      rw [e0]
      go_simp
      refine HP.out.mono ?_
      rintro e w5 ⟨rfl, hb5⟩
      exact ⟨rfl, hb5⟩
    · obtain rfl := Option.some.inj hi
      obtain rfl := Option.some.inj hd
      obtain ⟨gs, ga, gn, gc, z0, z1, zs⟩ := (HB5.out).mono hb (by have := HVS.out; omega)
      have ZS := Lib.hid zs; clear zs
      dsimp only
      go_simp
      exact ⟨⟨_, _, _, _, rfl, ZS.out⟩, Below.refl _ _⟩
    · obtain rfl := Option.some.inj hi
      obtain rfl := Option.some.inj hd
      have h0 : Tx w' (vals 2) vv := hf 2 (by kernel_rfl)
      have HP := wtext_tx w' _ vv h0 (HTV.out.mono hb) (HVD_vv.out)
      obtain ⟨s0, a0, n0, c0, e0, -⟩ := h0
      rw [e0] at HP
      have HP := Lib.hid HP
      dsimp only
      rw [e0]
      go_simp
      refine HP.out.mono ?_
      rintro e w5 ⟨rfl, hb5⟩
      exact ⟨rfl, hb5⟩
    · obtain rfl := Option.some.inj hi
      obtain rfl := Option.some.inj hd
      obtain ⟨gs, ga, gn, gc, z0, z1, zs⟩ := (HB6.out).mono hb (by have := HVS.out; omega)
      have ZS := Lib.hid zs; clear zs
      dsimp only
      go_simp
      exact ⟨⟨_, _, _, _, rfl, ZS.out⟩, Below.refl _ _⟩
    · obtain rfl := Option.some.inj hi
      obtain rfl := Option.some.inj hd
      have h0 : Tx w' (vals 4) u := hf 4 (by kernel_rfl)
      have HP := wtext_tx w' _ u h0 (HTV.out.mono hb) (HVD_u.out)
      obtain ⟨s0, a0, n0, c0, e0, -⟩ := h0
      rw [e0] at HP
      have HP := Lib.hid HP
      dsimp only
      rw [e0]
      go_simp
      refine HP.out.mono ?_
      rintro e w5 ⟨rfl, hb5⟩
      exact ⟨rfl, hb5⟩
    · obtain rfl := Option.some.inj hi
      obtain rfl := Option.some.inj hd
      have e1 : vals 1 = .string (str (Wh.decI g)) := hf 1 (by kernel_rfl)
      have e3 : vals 3 = .string (str (Wh.decI vv)) := hf 3 (by kernel_rfl)
      have e5 : vals 5 = .string (str (Wh.decI u)) := hf 5 (by kernel_rfl)
      dsimp only
      rw [e1, e3, e5]
      go_simp
      exact ⟨rfl, Below.refl _ _⟩
    · cases hT
    · omega
  · intro p o d hi hW hd vals w' hb hf
    cases hW
  · intro vals w' hb hf
    have e6 : vals 6 = .agg #[.string (str (Wh.decI g)), .string (str (Wh.decI vv)), .string (str (Wh.decI u))] := hf 6 (by decide) rfl
    have r0 := (hb.cell (p := ⟨w.heap.size, 0, none⟩) HLW.out).trans HR.out.1
    have r1 := (hb.cell (p := ⟨w.heap.size, 1, none⟩) HLW.out).trans HR.out.2.1
    have r2 := (hb.cell (p := ⟨w.heap.size, 2, none⟩) HLW.out).trans HR.out.2.2
    have f0 := (hb.frozen (p := ⟨w.heap.size, 0, none⟩) HLW.out).trans HF.out.1
    have f1 := (hb.frozen (p := ⟨w.heap.size, 1, none⟩) HLW.out).trans HF.out.2.1
    have f2 := (hb.frozen (p := ⟨w.heap.size, 2, none⟩) HLW.out).trans HF.out.2.2
    have HTC := Lib.hid (tri_cells w' w.heap.size (txt g) (txt vv) (txt u) r0 r1 r2)
    have HB := Lib.hid (HBV.out.trans (hb.mono HBV.out.size))
    clear hb hf
    rw [e6]
    refine Rt.wpAny_step (i := 7) (by kernel_rfl) rfl (by rfl) (fun K hK => ?_)
    have HK := Lib.hid hK; clear hK
    go_simp
    refine HK.out _ _ ?_
    exact Rt.wpAny_end (by kernel_rfl) ⟨rfl, ⟨vals, by rw [e6]⟩, HTC.out, ((HB.out.setCell (p := ⟨w.heap.size, 0, none⟩) (Nat.le_refl w.heap.size) _).setCell (p := ⟨w.heap.size, 1, none⟩) (Nat.le_refl w.heap.size) _).setCell (p := ⟨w.heap.size, 2, none⟩) (Nat.le_refl w.heap.size) _⟩
  · rintro e a' W ⟨rfl, ⟨va, rfl⟩, ⟨t0, t1, t2⟩, hB⟩
    unfold txt at *
    go_wp2
    exact bodyPost_ret (v := .agg #[.string (str (Wh.decI g)), .string (str (Wh.decI vv)), .string (str (Wh.decI u))]) (by simp [results, Tryz.results114, go_sem, t0, t1, t2]) rfl ⟨rfl, hB⟩

set_option maxRecDepth 100000 in
set_option maxHeartbeats 400000 in
theorem Gcd_from (w : World) (x y g vv u : Int) (hvx : Valid x) (hvy : Valid y) (hvg : Valid g) (hvv : Valid vv) (hvu : Valid u) (hco : ∀ (w : World) (xa ya : Option Addr) (xc yc : Nat), Sl w (.slice xa (Wh.limbs x.natAbs).length xc) (Wh.limbs x.natAbs) → Sl w (.slice ya (Wh.limbs y.natAbs).length yc) (Wh.limbs y.natAbs) → Calls Tryz.prog 115 #[.agg #[.int .i64 x.sign, .slice xa (Wh.limbs x.natAbs).length xc], .agg #[.int .i64 y.sign, .slice ya (Wh.limbs y.natAbs).length yc]] w fun e w' => (∃ v1 v2 v3, e = .returned (.tuple #[v1, v2, v3]) ∧ Tx w' v1 g ∧ Tx w' v2 vv ∧ Tx w' v3 u) ∧ Below w.heap.size w w') (htab : Tab w) :
    Calls Tryz.prog 35 #[txt x, txt y] w fun e w' => e = .returned (.tuple #[txt g, txt vv, txt u, .int .i64 0]) ∧ Below w.heap.size w w' := by
  have hmf : ∀ (fn : Fn) (first cap : Array Value) (w : World), (Instr.makeFunc fn first cap).run Tryz.prog w = .ok (.func fn first cap) w := fun _ _ _ _ => rfl
  have hat := fun (w : World) (pa pb : Addr) (h : Captured w pa pb x y) (htab : Tab w) (ha : pa.block < w.heap.size) (hb : pb.block < w.heap.size) => attempt_good3 114 #[.pointer (some pa), .pointer (some pb)] (str (Wh.decI g)) (str (Wh.decI vv)) (str (Wh.decI u)) w (fun w => by kernel_rfl) (fun w' hb' => gcd_work_g w' pa pb x y g vv u ⟨(hb'.cell ha).trans h.a, (hb'.cell hb).trans h.b⟩ (Nat.lt_of_lt_of_le ha hb'.size) (Nat.lt_of_lt_of_le hb hb'.size) hvx hvy hvg hvv hvu hco (htab.mono hb'))
  have HAT := Lib.hid hat; clear hat hvx hvy hvg hvv hvu hco
  have HT := Lib.hid htab; clear htab
  unfold txt at *
  go_enter Tryz.func35, Tryz.ntmps35
  go_wp2_with fail
  have hal : Below w.heap.size w ((w.alloc (.cells #[.string (str (Wh.decI x))] 9)).alloc (.cells #[.string (str (Wh.decI y))] 9)) := ((Below.refl _ _).alloc (Nat.le_refl _) _).alloc (by simp) _
  obtain ⟨b0, b1⟩ := boxed w (.string (str (Wh.decI x))) (.string (str (Wh.decI y))) 9
  refine (HAT.out _ _ _ ⟨b0, b1⟩ (HT.out.mono hal) (by simp; omega) (by simp)).mono ?_
  rintro e w2 ⟨rfl, hb2⟩
  have hbb := hal.trans (hb2.mono hal.size)
  clear hal b0 b1 hb2
  go_wp2_with fail
  have q0 : (w2.alloc (Obj.cells #[Value.string (str (Wh.decI g)), Value.string (str (Wh.decI vv)), Value.string (str (Wh.decI u))] 120)).cell? ⟨w2.heap.size, 0, none⟩ = some (.string (str (Wh.decI g))) := by go_simp
  have q1 : (w2.alloc (Obj.cells #[Value.string (str (Wh.decI g)), Value.string (str (Wh.decI vv)), Value.string (str (Wh.decI u))] 120)).cell? ⟨w2.heap.size, 1, none⟩ = some (.string (str (Wh.decI vv))) := by go_simp
  have q2 : (w2.alloc (Obj.cells #[Value.string (str (Wh.decI g)), Value.string (str (Wh.decI vv)), Value.string (str (Wh.decI u))] 120)).cell? ⟨w2.heap.size, 2, none⟩ = some (.string (str (Wh.decI u))) := by go_simp
  have hB : Below w.heap.size w (w2.alloc (Obj.cells #[Value.string (str (Wh.decI g)), Value.string (str (Wh.decI vv)), Value.string (str (Wh.decI u))] 120)) := hbb.alloc hbb.size _
  have HB := Lib.hid hB; clear hB hbb
  generalize (w2.alloc (Obj.cells #[Value.string (str (Wh.decI g)), Value.string (str (Wh.decI vv)), Value.string (str (Wh.decI u))] 120)) = V at *
  go_quiet (fail)
  go_wp2
  exact bodyPost_ret (v := .tuple #[Value.string (str (Wh.decI g)), Value.string (str (Wh.decI vv)), Value.string (str (Wh.decI u)), .int .i64 0]) (by simp [results, Tryz.results35, go_sem]) rfl ⟨rfl, HB.out.trans (below_drewN _ _ _)⟩
end Go.Proofs.YteaeloeebfdodaaGreatDoor

/- MATH 17: the greatest common divisor and its coefficients are there, and only once. -/
namespace Wh
theorem EuI.finish {a0 b0 M : Nat} (hb : b0 ≤ M) : ∀ (n R N T A u v : Nat) (odd : Bool), N ≤ n → EuI a0 b0 M R N T A u v odd → ∃ G T A u v odd, EuI a0 b0 M G 0 T A u v odd := by
  intro n
  induction n with
  | zero =>
    intro R N T A u v odd h k
    have : N = 0 := by omega
    subst this
    exact ⟨_, _, _, _, _, _, k⟩
  | succ n ih =>
    intro R N T A u v odd h k
    by_cases h0 : N = 0
    · subst h0; exact ⟨_, _, _, _, _, _, k⟩
    · have hs := (k.step hb (Nat.pos_of_ne_zero h0)).2
      have := Nat.mod_lt R (Nat.pos_of_ne_zero h0)
      exact ih _ _ _ _ _ _ _ (by omega) hs
theorem gcd_exists (x y : Int) (hy : y ≠ 0) : ∃ g v u, GcdOf x y g v u := by
  have h1 : 1 ≤ max x.natAbs y.natAbs := by have := Int.natAbs_pos.2 hy; omega
  obtain ⟨G, T, A, u, v, odd, k⟩ := EuI.finish (a0 := x.natAbs) (b0 := y.natAbs) (M := max x.natAbs y.natAbs) (by omega) y.natAbs _ _ _ _ _ _ _ (Nat.le_refl _) (EuI.start (by omega) (by omega) h1)
  obtain ⟨_, _, _, _, _, h, _⟩ := gcd_out hy k rfl rfl rfl rfl
  exact ⟨_, _, _, h⟩
theorem GcdOf.dvd {x y g v u g' v' u' : Int} (h : GcdOf x y g v u) (h' : GcdOf x y g' v' u') : g ∣ g' := by
  rw [← h'.sum]
  exact Int.dvd_add (Int.dvd_trans h.dx (Int.dvd_mul_right ..)) (Int.dvd_trans h.dy (Int.dvd_mul_right ..))
theorem GcdOf.uniq {x y g v u g' v' u' : Int} (hy : y ≠ 0) (h : GcdOf x y g v u) (h' : GcdOf x y g' v' u') : g' = g ∧ v' = v ∧ u' = u := by
  have hg : g' = g := by
    have h1 := Int.le_of_dvd h'.pos (h.dvd h')
    have h2 := Int.le_of_dvd h.pos (h'.dvd h)
    omega
  subst hg
  have hg0 : g' ≠ 0 := by have := h.pos; omega
  obtain ⟨X, hX⟩ := h.dx
  obtain ⟨Y, hY⟩ := h.dy
  have hY0 : Y ≠ 0 := fun e => hy (by rw [hY, e]; simp)
  have s1 : X * v + Y * u = 1 := by
    have h1 : g' * (X * v + Y * u) = g' * 1 := by have := h.sum; rw [hX, hY] at this; rw [← this]; grind
    exact Int.eq_of_mul_eq_mul_left hg0 h1
  have s2 : X * v' + Y * u' = 1 := by
    have h1 : g' * (X * v' + Y * u') = g' * 1 := by have := h'.sum; rw [hX, hY] at this; rw [← this]; grind
    exact Int.eq_of_mul_eq_mul_left hg0 h1
  have hd : Y ∣ v' - v := by
    refine ⟨u * v' - v * u', ?_⟩
    have e1 : v' * (X * v + Y * u) - v * (X * v' + Y * u') = v' - v := by rw [s1, s2]; omega
    rw [← e1]; grind
  have hb : (y.natAbs : Int) = g' * (Y.natAbs : Int) := by
    rw [hY, Int.natAbs_mul, Int.natCast_mul, Int.natAbs_of_nonneg (by have := h.pos; omega)]
  have l1 : v < (Y.natAbs : Int) := by
    have h1 := h.vlt
    rw [hb, Int.mul_comm] at h1
    exact Int.lt_of_mul_lt_mul_left h1 (by have := h.pos; omega)
  have l2 : v' < (Y.natAbs : Int) := by
    have h1 := h'.vlt
    rw [hb, Int.mul_comm] at h1
    exact Int.lt_of_mul_lt_mul_left h1 (by have := h.pos; omega)
  have hv : v' - v = 0 := Int.eq_zero_of_dvd_of_natAbs_lt_natAbs hd (by have := h.v0; have := h'.v0; omega)
  have hv' : v' = v := by omega
  subst hv'
  refine ⟨rfl, rfl, ?_⟩
  have : Y * u' = Y * u := by omega
  exact Int.eq_of_mul_eq_mul_left hY0 this
end Wh

/- WALKS, the divisor 14: Combine by 0; whole.Gcd. -/
namespace Go.Proofs.YteaeloeebfdodaaGreatDoor
open Go.RowKit
def CZ (s : Nat) (x : Int) : Nat → Value → World → Prop
  | 0, v, w => Num w v x
  | 1, v, w => Num w v (x.natAbs : Int)
  | 2, v, _ => v = .pointer (some ⟨s, 0, none⟩)
  | 3, v, _ => v = .int .i64 x.sign
  | 4, v, w => SlV w v 1
  | 5, v, w => Tx w v x.sign
  | 6, v, _ => v = .agg #[.int .i64 0, .slice none 0 0]
  | _, _, _ => True
theorem CZ_stays (s : Nat) (x : Int) : ∀ i v w w', CZ s x i v w → Below w.heap.size w w' → CZ s x i v w' := by
  intro i v w w' h hb
  match i, h with
  | 0, h | 1, h => exact Num.mono h hb
  | 2, h | 3, h | 6, h => exact h
  | 4, h => exact SlV.mono h hb
  | 5, h => exact Tx.mono h hb
  | _ + 7, h => trivial
theorem signed_tx (x : Int) (v : Value) (w : World) (h : Sl w v (Wh.limbs 1)) :
    Calls Tryz.prog 191 #[.int .i64 x.sign, v] w fun e w' => (∃ v', e = .returned v' ∧ Tx w' v' x.sign) ∧ Below w.heap.size w w' := by
  have h1 : (Wh.limbs 1).length ≤ 100000 := by rw [limbs_one]; decide
  by_cases hx : x = 0
  · subst hx
    have ht : Wh.trimL (Wh.limbs 1) = Wh.limbs 1 := by unfold Wh.trimL; rw [Wh.val_limbs]
    refine (signed_len_some (Int.sign 0) v (Wh.limbs 1) w (Wh.ok_limbs 1) h h1 (by rw [ht, limbs_one]; decide)).mono ?_
    rintro e w' ⟨⟨v', rfl, k⟩, hb⟩
    rw [ht] at k
    obtain ⟨a, c, rfl⟩ := k.len
    exact ⟨⟨_, rfl, ⟨_, _, _, _, rfl, .inr ⟨rfl, rfl, k⟩⟩⟩, hb⟩
  · have hs : x.sign = -1 ∨ x.sign = 1 ∨ Wh.val (Wh.limbs 1) = 0 := by
      rcases Int.lt_trichotomy x 0 with h | h | h
      · exact .inl (Int.sign_eq_neg_one_of_neg h)
      · exact absurd h hx
      · exact .inr (.inl (Int.sign_eq_one_of_pos h))
    refine (signed_len x.sign v (Wh.limbs 1) w (Wh.ok_limbs 1) h h1 hs).mono ?_
    rintro e w' ⟨⟨v', rfl, k⟩, hb⟩
    rw [Wh.val_limbs, show x.sign * ((1 : Nat) : Int) = x.sign by simp] at k
    exact ⟨⟨_, rfl, k.tx⟩, hb⟩
/-- what is known of the greatest common divisor and its coefficients, 0 and 0 too -/
structure GF (x y g v u : Int) : Prop where
  sum : x * v + y * u = g
  g0 : 0 ≤ g
  z : x = 0 → y = 0 → g = 0 ∧ v = 0 ∧ u = 0
  nz : ¬ (x = 0 ∧ y = 0) → g ≠ 0 ∧ x.tmod g = 0 ∧ y.tmod g = 0
  y0 : y = 0 → u = 0
  y1 : y ≠ 0 → 0 ≤ v ∧ v * g < (y.natAbs : Int)
theorem GF.of_gcd {x y g v u : Int} (hy : y ≠ 0) (h : Wh.GcdOf x y g v u) : GF x y g v u :=
  ⟨h.sum, by have := h.pos; omega, fun _ h => absurd h hy, fun _ => ⟨by have := h.pos; omega, Int.tmod_eq_zero_of_dvd h.dx, Int.tmod_eq_zero_of_dvd h.dy⟩, fun h => absurd h hy, fun _ => ⟨h.v0, h.vlt⟩⟩
theorem GF.of_zero (x : Int) : GF x 0 (x.natAbs : Int) x.sign 0 := by
  refine ⟨by rw [Int.zero_mul, Int.add_zero]; exact Int.mul_sign_self x, by omega, fun h _ => by subst h; simp, fun h => ⟨by omega, ?_, by simp⟩, fun _ => rfl, fun h => absurd rfl h⟩
  exact Int.tmod_eq_zero_of_dvd (Int.natAbs_dvd.2 (Int.dvd_refl x))
theorem gcd_bounds {x y g v u : Int} (hx : Bd 20 x) (hy : Bd 20 y) (hy0 : y ≠ 0) (h : Wh.GcdOf x y g v u) : Bd 20 g ∧ Bd 20 v ∧ Bd 41 u := by
  unfold Bd at *
  have hg := h.pos
  have hgy : g ≤ (y.natAbs : Int) := Int.le_of_dvd (by omega) (Int.dvd_natAbs.2 h.dy)
  have hv : v ≤ v * g := by
    have := Int.mul_le_mul_of_nonneg_left (show 1 ≤ g by omega) h.v0
    omega
  have hvy := h.vlt
  have hv0 := h.v0
  have e41 : (10 : Nat) ^ 41 = 10 * (10 ^ 20 * 10 ^ 20) := by decide
  have hu : u.natAbs ≤ y.natAbs * u.natAbs := by
    have := Nat.mul_le_mul_right u.natAbs (show 1 ≤ y.natAbs by omega)
    omega
  have hyu : y.natAbs * u.natAbs = (g - x * v).natAbs := by
    rw [← Int.natAbs_mul]
    congr 1
    have := h.sum
    omega
  have hxv : (x * v).natAbs ≤ 10 ^ 20 * 10 ^ 20 := by
    rw [Int.natAbs_mul]
    exact Nat.mul_le_mul (by omega) (by omega)
  rw [e41]
  have hS : (10 : Nat) ^ 20 ≤ 10 ^ 20 * 10 ^ 20 := by decide
  generalize (10 : Nat) ^ 20 * 10 ^ 20 = S at *
  generalize (10 : Nat) ^ 20 = T at *
  refine ⟨by omega, by omega, ?_⟩
  have : (g - x * v).natAbs ≤ g.natAbs + (x * v).natAbs := by omega
  have hgS : g.natAbs ≤ S := by omega
  omega
theorem TxC.store2 {w : World} {s : Int} {sl : Value} {z : Int} (h : TxC w s sl z) {b : Nat} (k : Blank w b) (x y : Value) : TxC ((w.setCell ⟨b, 0, none⟩ x).setCell ⟨b, 1, none⟩ y) s sl z := by
  rcases h with ⟨h1, h2⟩ | ⟨h0, h1, h2⟩
  · exact .inl ⟨h1, h2.store2 b k.c0 k.c1 _ _⟩
  · exact .inr ⟨h0, h1, h2.store2 b k.c0 k.c1 _ _⟩
theorem Blank.putX {w : World} {b : Nat} {s : Int} {a : Option Addr} {n c : Nat} {z : Int} (h : Blank w b) (hs : TxC w s (.slice a n c) z) : TxAt ((w.setCell ⟨b, 0, none⟩ (.int .i64 s)).setCell ⟨b, 1, none⟩ (.slice a n c)) b z := by
  obtain ⟨t0, t1⟩ := two_cells w b (.int .i64 s) (.slice a n c) h.c0 h.c1
  exact ⟨s, a, n, c, t0, t1, hs.store2 h _ _⟩
theorem TxAt.far {w : World} {b b' : Nat} {z : Int} (h : TxAt w b z) (k : Blank w b') (hne : b' ≠ b) (x y : Value) : TxAt ((w.setCell ⟨b', 0, none⟩ x).setCell ⟨b', 1, none⟩ y) b z := by
  obtain ⟨s, a, n, c, h0, h1, h2⟩ := h
  exact ⟨s, a, n, c, far1 h0 hne, far1 h1 hne, h2.store2 k _ _⟩
set_option maxRecDepth 100000 in
set_option maxHeartbeats 2000000 in
theorem combine_zero (w : World) (x : Int) (xa ya : Option Addr) (xc yc : Nat) (hx : Sl w (.slice xa (Wh.limbs x.natAbs).length xc) (Wh.limbs x.natAbs)) :
    Calls Tryz.prog 115 #[.agg #[.int .i64 x.sign, .slice xa (Wh.limbs x.natAbs).length xc], .agg #[.int .i64 0, .slice ya 0 yc]] w fun e w' => (∃ v1 v2 v3, e = .returned (.tuple #[v1, v2, v3]) ∧ Tx w' v1 (x.natAbs : Int) ∧ Tx w' v2 x.sign ∧ Tx w' v3 0) ∧ Below w.heap.size w w' := by
  have HX := Lib.hid hx; clear hx
  go_enter Tryz.func115, Tryz.ntmps115
  go_wp2_with fail
  have hal : Below w.heap.size w (((((w.alloc (Obj.cells #[.int .i64 x.sign, .slice xa (Wh.limbs x.natAbs).length xc] 83)).alloc (Obj.cells #[.int .i64 0, .slice ya 0 yc] 83)).alloc (Obj.cells #[.int .i64 0, .slice none 0 0] 83)).alloc (Obj.cells #[.int .i64 0, .slice none 0 0] 83)).alloc (Obj.cells #[.int .i64 0, .slice none 0 0] 83)) := (((((Below.refl _ _).alloc (Nat.le_refl _) _).alloc (by simp) _).alloc (by simp; omega) _).alloc (by simp; omega) _).alloc (by simp; omega) _
  have HN0 : Hid (NumAt (((((w.alloc (Obj.cells #[.int .i64 x.sign, .slice xa (Wh.limbs x.natAbs).length xc] 83)).alloc (Obj.cells #[.int .i64 0, .slice ya 0 yc] 83)).alloc (Obj.cells #[.int .i64 0, .slice none 0 0] 83)).alloc (Obj.cells #[.int .i64 0, .slice none 0 0] 83)).alloc (Obj.cells #[.int .i64 0, .slice none 0 0] 83)) w.heap.size x) := Lib.hid ⟨xa, xc, by go_simp, by go_simp, HX.out.mono hal⟩
  have HB2 : Hid (Blank (((((w.alloc (Obj.cells #[.int .i64 x.sign, .slice xa (Wh.limbs x.natAbs).length xc] 83)).alloc (Obj.cells #[.int .i64 0, .slice ya 0 yc] 83)).alloc (Obj.cells #[.int .i64 0, .slice none 0 0] 83)).alloc (Obj.cells #[.int .i64 0, .slice none 0 0] 83)).alloc (Obj.cells #[.int .i64 0, .slice none 0 0] 83)) (w.heap.size + 1 + 1)) := Lib.hid ⟨by go_simp, by go_simp, by go_simp, by go_simp⟩
  have HB3 : Hid (Blank (((((w.alloc (Obj.cells #[.int .i64 x.sign, .slice xa (Wh.limbs x.natAbs).length xc] 83)).alloc (Obj.cells #[.int .i64 0, .slice ya 0 yc] 83)).alloc (Obj.cells #[.int .i64 0, .slice none 0 0] 83)).alloc (Obj.cells #[.int .i64 0, .slice none 0 0] 83)).alloc (Obj.cells #[.int .i64 0, .slice none 0 0] 83)) (w.heap.size + 1 + 1 + 1)) := Lib.hid ⟨by go_simp, by go_simp, by go_simp, by go_simp⟩
  have HB4 : Hid (Blank (((((w.alloc (Obj.cells #[.int .i64 x.sign, .slice xa (Wh.limbs x.natAbs).length xc] 83)).alloc (Obj.cells #[.int .i64 0, .slice ya 0 yc] 83)).alloc (Obj.cells #[.int .i64 0, .slice none 0 0] 83)).alloc (Obj.cells #[.int .i64 0, .slice none 0 0] 83)).alloc (Obj.cells #[.int .i64 0, .slice none 0 0] 83)) (w.heap.size + 1 + 1 + 1 + 1)) := Lib.hid ⟨by go_simp, by go_simp, by go_simp, by go_simp⟩
  have hsz : w.heap.size + 4 < (((((w.alloc (Obj.cells #[.int .i64 x.sign, .slice xa (Wh.limbs x.natAbs).length xc] 83)).alloc (Obj.cells #[.int .i64 0, .slice ya 0 yc] 83)).alloc (Obj.cells #[.int .i64 0, .slice none 0 0] 83)).alloc (Obj.cells #[.int .i64 0, .slice none 0 0] 83)).alloc (Obj.cells #[.int .i64 0, .slice none 0 0] 83)).heap.size := by simp
  have HAL := Lib.hid hal; clear hal HX
  generalize (((((w.alloc (Obj.cells #[.int .i64 x.sign, .slice xa (Wh.limbs x.natAbs).length xc] 83)).alloc (Obj.cells #[.int .i64 0, .slice ya 0 yc] 83)).alloc (Obj.cells #[.int .i64 0, .slice none 0 0] 83)).alloc (Obj.cells #[.int .i64 0, .slice none 0 0] 83)).alloc (Obj.cells #[.int .i64 0, .slice none 0 0] 83)) = V at *
  refine wp_mono (Q := fun e a' W' => e = .normal ∧ (∃ (vals : Nat → Value), a' = { tmps := #[.agg #[.int .i64 x.sign, .slice xa (Wh.limbs x.natAbs).length xc], .agg #[.int .i64 0, .slice ya 0 yc], .pointer (some ⟨w.heap.size, 0, none⟩), .pointer (some ⟨w.heap.size + 1, 0, none⟩), .pointer (some ⟨w.heap.size + 1 + 1, 0, none⟩), .pointer (some ⟨w.heap.size + 1 + 1 + 1, 0, none⟩), .pointer (some ⟨w.heap.size + 1 + 1 + 1 + 1, 0, none⟩), undef, undef, undef, .pointer (some ⟨w.heap.size + 1, 0, none⟩), .int .i64 0, .bool true, vals 0, vals 1, vals 2, vals 3, vals 4, vals 5, vals 6, undef, undef, undef, undef, undef, undef, undef, undef, undef, undef, undef, undef, undef, undef, undef, undef, undef, undef, undef, undef, undef, undef, undef, undef, undef, undef, undef, undef, undef, undef, undef, undef, undef, undef, undef, undef, undef, undef, undef, undef, undef, undef, undef], defers := [] }) ∧ (TxAt W' (w.heap.size + 1 + 1) (x.natAbs : Int) ∧ TxAt W' (w.heap.size + 1 + 1 + 1) x.sign ∧ TxAt W' (w.heap.size + 1 + 1 + 1 + 1) 0) ∧ Below w.heap.size w W') ?_ ?_
  refine Rt.wp_region_grow (n0 := 3) [7, 8, 9] [6] 63 (fun vals => { tmps := #[.agg #[.int .i64 x.sign, .slice xa (Wh.limbs x.natAbs).length xc], .agg #[.int .i64 0, .slice ya 0 yc], .pointer (some ⟨w.heap.size, 0, none⟩), .pointer (some ⟨w.heap.size + 1, 0, none⟩), .pointer (some ⟨w.heap.size + 1 + 1, 0, none⟩), .pointer (some ⟨w.heap.size + 1 + 1 + 1, 0, none⟩), .pointer (some ⟨w.heap.size + 1 + 1 + 1 + 1, 0, none⟩), undef, undef, undef, .pointer (some ⟨w.heap.size + 1, 0, none⟩), .int .i64 0, .bool true, vals 0, vals 1, vals 2, vals 3, vals 4, vals 5, vals 6, undef, undef, undef, undef, undef, undef, undef, undef, undef, undef, undef, undef, undef, undef, undef, undef, undef, undef, undef, undef, undef, undef, undef, undef, undef, undef, undef, undef, undef, undef, undef, undef, undef, undef, undef, undef, undef, undef, undef, undef, undef, undef, undef], defers := [] }) (CZ w.heap.size x) (by kernel_rfl) (by kernel_rfl) (by kernel_rfl) (by kernel_rfl) (fun _ _ _ _ _ h => absurd h.1 (by simp)) (by kernel_rfl) rfl (fun _ => by kernel_rfl) (by kernel_rfl) (by kernel_rfl) (CZ_stays _ _) ?_ ?_ ?_
  · intro i o d hi hT hW hd vals w' hb hf
    have hlt : i < 10 := (Array.getElem?_eq_some_iff.1 hi).1
    rcases i with _ | _ | _ | _ | _ | _ | _ | _ | _ | _ | i
    · obtain rfl := Option.some.inj hi
      obtain rfl := Option.some.inj hd
      obtain ⟨ga, gc, z0, z1, zs⟩ := HN0.out.mono hb (by omega)
      have ZS := Lib.hid zs; clear zs
      dsimp only
      go_simp
      exact ⟨⟨_, rfl, ZS.out⟩, Below.refl _ _⟩
    · obtain rfl := Option.some.inj hi
      obtain rfl := Option.some.inj hd
      have h0 : Num w' (vals 0) _ := hf 0 (by kernel_rfl)
      have HP := size_any w' _ _ h0
      obtain ⟨s0, e0, -⟩ := h0
      rw [e0] at HP
      have HP := Lib.hid HP
      dsimp only
      rw [e0]
      go_simp
      refine HP.out.mono ?_
      rintro e w5 ⟨⟨v5, rfl, hn5⟩, hb5⟩
      exact ⟨hn5, hb5⟩
    · obtain rfl := Option.some.inj hi
      obtain rfl := Option.some.inj hd
      dsimp only
      go_simp
      exact ⟨rfl, Below.refl _ _⟩
    · obtain rfl := Option.some.inj hi
      obtain rfl := Option.some.inj hd
      have e0 : vals 2 = _ := hf 2 (by kernel_rfl)
      obtain ⟨ga2, gc2, z0, z1, zs⟩ := HN0.out.mono hb (by omega)
      clear z1 zs
      dsimp only
      rw [e0]
      go_simp
      exact ⟨rfl, Below.refl _ _⟩
    · obtain rfl := Option.some.inj hi
      obtain rfl := Option.some.inj hd
      have hl1 := limbs_one_of (n := 1) (by decide)
      dsimp only
      go_simp
      refine ⟨⟨some ⟨w'.heap.size, 0, none⟩, 1, by rw [hl1]; rfl, ?_⟩, (Below.refl _ _).alloc (Nat.le_refl _) _⟩
      rw [hl1]
      exact .inr ⟨w'.heap.size, 0, 1, rfl, by decide, by simp, fun i hi => by
        obtain rfl : i = 0 := by simpa using hi
        go_simp⟩
    · obtain rfl := Option.some.inj hi
      obtain rfl := Option.some.inj hd
      have e3 : vals 3 = _ := hf 3 (by kernel_rfl)
      obtain ⟨a5, c5, e5, k5⟩ := hf 4 (by kernel_rfl)
      have HP := Lib.hid (signed_tx x _ w' k5)
      clear k5
      dsimp only
      rw [e3, e5]
      go_simp
      refine HP.out.mono ?_
      rintro e w5 ⟨⟨v5, rfl, hn5⟩, hb5⟩
      exact ⟨hn5, hb5⟩
    · cases hW
    · cases hT
    · cases hT
    · cases hT
    · omega
  · intro p o d hi hW hd vals w' hb hf
    have hlt : p < 10 := (Array.getElem?_eq_some_iff.1 hi).1
    rcases p with _ | _ | _ | _ | _ | _ | _ | _ | _ | _ | p
    · cases hW
    · cases hW
    · cases hW
    · cases hW
    · cases hW
    · cases hW
    · obtain rfl := Option.some.inj hi
      obtain rfl := Option.some.inj hd
      exact ⟨.agg #[.int .i64 0, .slice none 0 0], fun w'' => by dsimp only; go_simp, rfl⟩
    · cases hW
    · cases hW
    · cases hW
    · omega
  · intro vals w' hb hf
    obtain ⟨s1, e1, k1⟩ := hf 1 (by decide) rfl
    obtain ⟨p1, c1, rfl⟩ := k1.len
    obtain ⟨s5, a5, n5, c5, e5, k5⟩ := hf 5 (by decide) rfl
    have e6 : vals 6 = .agg #[.int .i64 0, .slice none 0 0] := hf 6 (by decide) rfl
    have k1' : TxC w' ((x.natAbs : Int).sign) (.slice p1 (Wh.limbs ((x.natAbs : Int)).natAbs).length c1) (x.natAbs : Int) := .inl ⟨rfl, k1⟩
    have B2 := HB2.out.mono hb (by omega)
    have B3 := HB3.out.mono hb (by omega)
    have B4 := HB4.out.mono hb (by omega)
    have BB2 := Lib.hid B2; have BB3 := Lib.hid B3; have BB4 := Lib.hid B4
    have K1 := Lib.hid k1'; have K5 := Lib.hid k5
    have HB := Lib.hid (HAL.out.trans (hb.mono HAL.out.size))
    obtain ⟨x0, x1, f0, f1⟩ := B2
    clear B3 B4 k1 k1' k5 hb hf
    generalize ((x.natAbs : Int).sign) = sx at *
    generalize (Wh.limbs ((x.natAbs : Int)).natAbs).length = nx at *
    rw [e1, e5, e6]
    refine Rt.wpAny_step (i := 7) (by kernel_rfl) rfl (by rfl) (fun K hK => ?_)
    have HK := Lib.hid hK; clear hK
    go_simp
    refine HK.out _ _ ?_
    clear HK x0 x1 f0 f1
    have N2 := Lib.hid (BB2.out.putX K1.out)
    have K5' := Lib.hid (K5.out.store2 BB2.out (.int .i64 sx) (.slice p1 nx c1))
    have B3 := BB3.out.far (show w.heap.size + 1 + 1 ≠ w.heap.size + 1 + 1 + 1 by omega) (.int .i64 sx) (.slice p1 nx c1)
    have B4 := Lib.hid (BB4.out.far (show w.heap.size + 1 + 1 ≠ w.heap.size + 1 + 1 + 1 + 1 by omega) (.int .i64 sx) (.slice p1 nx c1))
    have HB' : Hid (Below w.heap.size w ((w'.setCell ⟨w.heap.size + 1 + 1, 0, none⟩ (.int .i64 sx)).setCell ⟨w.heap.size + 1 + 1, 1, none⟩ (.slice p1 nx c1))) := Lib.hid ((HB.out.setCell (by show w.heap.size ≤ w.heap.size + 1 + 1; omega) _).setCell (by show w.heap.size ≤ w.heap.size + 1 + 1; omega) _)
    clear BB2 BB3 BB4 K1 K5 HB
    generalize ((w'.setCell ⟨w.heap.size + 1 + 1, 0, none⟩ (.int .i64 sx)).setCell ⟨w.heap.size + 1 + 1, 1, none⟩ (.slice p1 nx c1)) = U at *
    have BB3 := Lib.hid B3
    obtain ⟨x0, x1, f0, f1⟩ := B3
    refine Rt.wpAny_step (i := 8) (by kernel_rfl) rfl (by rfl) (fun K hK => ?_)
    have HK := Lib.hid hK; clear hK
    go_simp
    refine HK.out _ _ ?_
    clear HK x0 x1 f0 f1
    have N3 := Lib.hid (BB3.out.putX K5'.out)
    have N2' := Lib.hid (N2.out.far BB3.out (by omega) (.int .i64 s5) (.slice a5 n5 c5))
    have B4' := B4.out.far (show w.heap.size + 1 + 1 + 1 ≠ w.heap.size + 1 + 1 + 1 + 1 by omega) (.int .i64 s5) (.slice a5 n5 c5)
    have HB'' : Hid (Below w.heap.size w ((U.setCell ⟨w.heap.size + 1 + 1 + 1, 0, none⟩ (.int .i64 s5)).setCell ⟨w.heap.size + 1 + 1 + 1, 1, none⟩ (.slice a5 n5 c5))) := Lib.hid ((HB'.out.setCell (by show w.heap.size ≤ w.heap.size + 1 + 1 + 1; omega) _).setCell (by show w.heap.size ≤ w.heap.size + 1 + 1 + 1; omega) _)
    clear BB3 N2 K5' HB' B4
    generalize ((U.setCell ⟨w.heap.size + 1 + 1 + 1, 0, none⟩ (.int .i64 s5)).setCell ⟨w.heap.size + 1 + 1 + 1, 1, none⟩ (.slice a5 n5 c5)) = U2 at *
    have BB4 := Lib.hid B4'
    obtain ⟨x0, x1, f0, f1⟩ := B4'
    refine Rt.wpAny_step (i := 9) (by kernel_rfl) rfl (by rfl) (fun K hK => ?_)
    have HK := Lib.hid hK; clear hK
    go_simp
    refine HK.out _ _ ?_
    clear HK x0 x1 f0 f1
    have N4 : TxAt ((U2.setCell ⟨w.heap.size + 1 + 1 + 1 + 1, 0, none⟩ (.int .i64 0)).setCell ⟨w.heap.size + 1 + 1 + 1 + 1, 1, none⟩ (.slice none 0 0)) (w.heap.size + 1 + 1 + 1 + 1) 0 := BB4.out.putX (.inl ⟨rfl, .inl ⟨by rw [Int.natAbs_zero]; exact Wh.limbs_zero, rfl⟩⟩)
    exact Rt.wpAny_end (by kernel_rfl) ⟨rfl, ⟨vals, by rw [e1, e5, e6]⟩, ⟨N2'.out.far BB4.out (by omega) _ _, N3.out.far BB4.out (by omega) _ _, N4⟩, (HB''.out.setCell (by show w.heap.size ≤ w.heap.size + 1 + 1 + 1 + 1; omega) _).setCell (by show w.heap.size ≤ w.heap.size + 1 + 1 + 1 + 1; omega) _⟩
  rintro e a' W ⟨rfl, ⟨va, rfl⟩, ⟨n1, n2, n3⟩, hB⟩
  obtain ⟨s1, a1, m1, c1, g0, g1, k1⟩ := n1
  obtain ⟨s2, a2, m2, c2, v0, v1, k2⟩ := n2
  obtain ⟨s3, a3, m3, c3, u0, u1, k3⟩ := n3
  have HKS := Lib.hid (And.intro k1 (And.intro k2 k3)); clear k1 k2 k3
  go_wp2
  exact bodyPost_ret (v := .tuple #[.agg #[.int .i64 s1, .slice a1 m1 c1], .agg #[.int .i64 s2, .slice a2 m2 c2], .agg #[.int .i64 s3, .slice a3 m3 c3]]) (by simp [results, Tryz.results115, go_sem, g0, g1, v0, v1, u0, u1]) rfl ⟨⟨_, _, _, rfl, ⟨_, _, _, _, rfl, HKS.out.1⟩, ⟨_, _, _, _, rfl, HKS.out.2.1⟩, ⟨_, _, _, _, rfl, HKS.out.2.2⟩⟩, hB⟩
theorem Gcd_gcd (w : World) (x y g v u : Int) (hx : Bd 20 x) (hy : Bd 20 y) (hy0 : y ≠ 0) (h : Wh.GcdOf x y g v u) (htab : Tab w) :
    Calls Tryz.prog 35 #[txt x, txt y] w fun e w' => e = .returned (.tuple #[txt g, txt v, txt u, .int .i64 0]) ∧ Below w.heap.size w w' := by
  obtain ⟨bg, bv, bu⟩ := gcd_bounds hx hy hy0 h
  refine Gcd_from w x y g v u (hx.valid (by decide) (by decide)) (hy.valid (by decide) (by decide)) (bg.valid (by decide) (by decide)) (bv.valid (by decide) (by decide)) (bu.valid (by decide) (by decide)) (fun w xa ya xc yc h1 h2 => ?_) htab
  have hM : (Wh.limbs (max x.natAbs y.natAbs)).length ≤ 3 := Wh.limbs_length_le (by
    have e : Wh.R ^ 3 = 1000000000000000000000000000 := by decide
    have e2 : (10 : Nat) ^ 20 = 100000000000000000000 := by decide
    unfold Bd at hx hy
    rw [e2] at hx hy
    rw [e]
    omega)
  refine (combine_g w x y (max x.natAbs y.natAbs) hy0 (by omega) (by omega) hM xa ya xc yc h1 h2).mono ?_
  rintro e w' ⟨⟨v1, v2, v3, g', v', u', rfl, n1, n2, n3, hg⟩, hb⟩
  obtain ⟨rfl, rfl, rfl⟩ := h.uniq hy0 hg
  exact ⟨⟨_, _, _, rfl, n1.tx, n2.tx, n3.tx⟩, hb⟩
theorem Gcd_zero (w : World) (x : Int) (hx : Bd 20 x) (htab : Tab w) :
    Calls Tryz.prog 35 #[txt x, txt 0] w fun e w' => e = .returned (.tuple #[txt (x.natAbs : Int), txt x.sign, txt 0, .int .i64 0]) ∧ Below w.heap.size w w' := by
  have hs : x.sign.natAbs < 1000000000 := by have := sgn_range x; omega
  refine Gcd_from w x 0 (x.natAbs : Int) x.sign 0 (hx.valid (by decide) (by decide)) (valid9 _ (by decide)) (Bd.valid (k := 20) (show ((x.natAbs : Int)).natAbs < _ by rw [Int.natAbs_natCast]; exact hx) (by decide) (by decide)) (valid9 _ hs) (valid9 _ (by decide)) (fun w xa ya xc yc h1 h2 => ?_) htab
  have h0 : (Wh.limbs (0 : Int).natAbs).length = 0 := by rw [Int.natAbs_zero, Wh.limbs_zero]; rfl
  rw [h0, Int.sign_zero]
  exact combine_zero w x xa ya xc yc h1
theorem Gcd_all (x y : Int) (hx : Bd 20 x) (hy : Bd 20 y) : ∃ g v u, GF x y g v u ∧ Bd 20 g ∧ Bd 20 v ∧ Bd 41 u ∧ ∀ w, Tab w → Calls Tryz.prog 35 #[txt x, txt y] w fun e w' => e = .returned (.tuple #[txt g, txt v, txt u, .int .i64 0]) ∧ Below w.heap.size w w' := by
  by_cases hy0 : y = 0
  · subst hy0
    refine ⟨_, _, _, GF.of_zero x, ?_, ?_, ?_, fun w ht => Gcd_zero w x hx ht⟩
    · unfold Bd; rw [Int.natAbs_natCast]; exact hx
    · unfold Bd; have := sgn_range x; exact Nat.lt_of_le_of_lt (show x.sign.natAbs ≤ 1 by omega) (by decide)
    · exact (by decide : (0 : Int).natAbs < 10 ^ 41)
  · obtain ⟨g, v, u, h⟩ := Wh.gcd_exists x y hy0
    obtain ⟨bg, bv, bu⟩ := gcd_bounds hx hy hy0 h
    exact ⟨g, v, u, GF.of_gcd hy0 h, bg, bv, bu, fun w ht => Gcd_gcd w x y g v u hx hy hy0 h ht⟩
end Go.Proofs.YteaeloeebfdodaaGreatDoor

/- WALKS: whole.Floor and whole.Quo, by any number. -/
namespace Go.Proofs.YteaeloeebfdodaaGreatDoor
open Go.RowKit
set_option maxRecDepth 100000 in
set_option maxHeartbeats 800000 in
theorem perform_floorg (w : World) (x y : Int) (a1 a2 : Option Addr) (n1 c1 n2 c2 : Nat) (h1 : Sl w (.slice a1 n1 c1) (Wh.limbs x.natAbs)) (h2 : Sl w (.slice a2 n2 c2) (Wh.limbs y.natAbs)) (hx : Fit x) (hfy : Fit y) (hy : y ≠ 0) :
    Calls Tryz.prog 179 #[.iface 117 (.agg #[.int .i64 (Int.sign x), .slice a1 n1 c1, .int .i64 (Int.sign y), .slice a2 n2 c2])] w fun e w' =>
      (∃ v' v'', e = .returned (.tuple #[v', v'']) ∧ Num w' v' (x.fdiv y) ∧ Num w' v'' (x.fmod y)) ∧ Below w.heap.size w w' := by
  have H1 := Lib.hid h1; clear h1
  have H2 := Lib.hid h2; clear h2
  have hme := method_floor (.int .i64 (Int.sign x)) (.slice a1 n1 c1) (.int .i64 (Int.sign y)) (.slice a2 n2 c2)
  go_enter Tryz.func179, Tryz.ntmps179
  go_wp2_with fail
  refine (operands_any _ _ _ _ _ _ _ _ _).mono ?_
  rintro e w2 ⟨rfl, hb2⟩
  clear hme
  have hno0 := no_floored_sum (.agg #[.int .i64 (Int.sign x), .slice a1 n1 c1, .int .i64 (Int.sign y), .slice a2 n2 c2])
  have hno1 := no_floored_difference (.agg #[.int .i64 (Int.sign x), .slice a1 n1 c1, .int .i64 (Int.sign y), .slice a2 n2 c2])
  have hno2 := no_floored_multiple (.agg #[.int .i64 (Int.sign x), .slice a1 n1 c1, .int .i64 (Int.sign y), .slice a2 n2 c2])
  have has := assert_floor (.agg #[.int .i64 (Int.sign x), .slice a1 n1 c1, .int .i64 (Int.sign y), .slice a2 n2 c2])
  have hbb : Below w.heap.size w w2 := (((Below.refl _ _).alloc (Nat.le_refl _) _).alloc (by simp) _).trans (hb2.mono (by simp; omega))
  go_wp2_with fail
  have hal : Below w2.heap.size w2 ((w2.alloc (Obj.cells #[Value.int IntKind.i64 (Int.sign x), Value.slice a1 n1 c1] 83)).alloc (Obj.cells #[Value.int IntKind.i64 (Int.sign y), Value.slice a2 n2 c2] 83)) := ((Below.refl _ _).alloc (Nat.le_refl _) _).alloc (by simp) _
  have hall := hbb.trans (hal.mono hbb.size)
  refine (floor_gen _ _ _ x y (Num.mk' (H1.out.mono hall) rfl) (Num.mk' (H2.out.mono hall) rfl) hx hfy hy).mono ?_
  rintro e w3 ⟨⟨v3, u3, rfl, hn3, hm3⟩, hb3⟩
  generalize hQ : x.fdiv y = q at *
  generalize hR : x.fmod y = r at *
  have HQ := Lib.hid hQ; have HR := Lib.hid hR; clear hQ hR
  obtain ⟨s3, rfl, hs3⟩ := hn3
  obtain ⟨a3, c3, rfl⟩ := hs3.len
  obtain ⟨t3, rfl, hr3⟩ := hm3
  obtain ⟨d3, e3, rfl⟩ := hr3.len
  have hw2 : Below (w.heap.size + 2) ((w.alloc (.cells #[.int .i64 0, .slice none 0 0] 83)).alloc (.cells #[.int .i64 0, .slice none 0 0] 83)) w2 := hb2.mono (by simp)
  have hsz : w.heap.size + 2 ≤ w2.heap.size := by have := hw2.size; simpa using this
  have hT := two_new (hw2.trans ((hal.trans (hb3.mono hal.size)).mono hsz))
  have hB3 := Two.below (hbb.trans ((hal.trans (hb3.mono hal.size)).mono hbb.size)) (Nat.le_refl w.heap.size) (.int .i64 (Int.sign q)) (.slice a3 (Wh.limbs q.natAbs).length c3) (.int .i64 (Int.sign r)) (.slice d3 (Wh.limbs r.natAbs).length e3)
  have hS3 := hT.sl hs3 (.int .i64 (Int.sign q)) (.slice a3 (Wh.limbs q.natAbs).length c3) (.int .i64 (Int.sign r)) (.slice d3 (Wh.limbs r.natAbs).length e3)
  have hR3 := hT.sl hr3 (.int .i64 (Int.sign q)) (.slice a3 (Wh.limbs q.natAbs).length c3) (.int .i64 (Int.sign r)) (.slice d3 (Wh.limbs r.natAbs).length e3)
  obtain ⟨r0, r1, r2, r3⟩ := hT.read (.int .i64 (Int.sign q)) (.slice a3 (Wh.limbs q.natAbs).length c3) (.int .i64 (Int.sign r)) (.slice d3 (Wh.limbs r.natAbs).length e3)
  have k0 := hT.k0
  have k1 := hT.k1
  have m0 := hT.m0
  have m1 := hT.m1
  have f0 := hT.f0
  have f1 := hT.f1
  have g0 := hT.g0
  have g1 := hT.g1
  clear hal hall hb3 hw2 hbb hb2 has hT hs3 hr3 hno0 hno1 hno2
  go_wp2
  exact bodyPost_ret (v := .tuple #[.agg #[.int .i64 (Int.sign q), .slice a3 (Wh.limbs q.natAbs).length c3], .agg #[.int .i64 (Int.sign r), .slice d3 (Wh.limbs r.natAbs).length e3]]) (by unfold put22 at *; simp [results, Tryz.results179, go_sem, r0, r1, r2, r3]) rfl ⟨⟨_, _, rfl, by rw [HQ.out]; exact ⟨_, rfl, hS3⟩, by rw [HR.out]; exact ⟨_, rfl, hR3⟩⟩, hB3⟩
set_option maxRecDepth 100000 in
set_option maxHeartbeats 400000 in
theorem floorg_work (w : World) (pa pb : Addr) (x y : Int) (hc : Captured w pa pb x y) (hla : pa.block < w.heap.size) (hlb : pb.block < w.heap.size) (hx : Valid x) (hy : Valid y) (hfx : Fit x) (hfy : Fit y) (hy0 : y ≠ 0) (hq : Valid (x.fdiv y)) (hr : Valid (x.fmod y)) (htab : Tab w) :
    Calls Tryz.prog 110 #[.pointer (some pa), .pointer (some pb)] w fun e w' => e = .returned (.agg #[txt (x.fdiv y), txt (x.fmod y)]) ∧ Below w.heap.size w w' := by
  have hb0 : Below w.heap.size w (w.alloc (.cells #[.string ⟨#[]⟩, .string ⟨#[]⟩] 113)) := (Below.refl _ _).alloc (Nat.le_refl _) _
  have ha := (hb0.cell hla).trans hc.a
  have hb := (hb0.cell hlb).trans hc.b
  have H1 := Lib.hid (fun w => readPair_any x y hx hy w)
  have HQ := Lib.hid hq; have HR := Lib.hid hr; clear hq hr
  have HB0 := Lib.hid hb0; clear hb0
  clear hc hla hlb
  unfold txt at *
  go_enter Tryz.func110, Tryz.ntmps110
  go_wp2_with fail
  refine (H1.out _).mono ?_
  rintro e w1 ⟨⟨a1, n1, c1, a2, n2, c2, rfl, hs1, hs2⟩, hb1⟩
  go_wp2_with fail
  refine (double_any _ _ (x.fdiv y) (x.fmod y) (htab.mono (HB0.out.trans (hb1.mono HB0.out.size))) HQ.out HR.out (fun w' hw' => perform_floorg _ x y _ _ _ _ _ _ (hs1.mono hw') (hs2.mono hw') hfx hfy hy0)).mono ?_
  rintro e w2 ⟨rfl, hb2⟩
  have hb12 := hb1.trans (hb2.mono hb1.size)
  have lw : w.heap.size < (w.alloc (.cells #[.string ⟨#[]⟩, .string ⟨#[]⟩] 113)).heap.size := by simp
  have r0 := (hb12.cell (p := ⟨w.heap.size, 0, none⟩) lw).trans (show (w.alloc (Obj.cells #[Value.string ⟨#[]⟩, Value.string ⟨#[]⟩] 113)).cell? ⟨w.heap.size, 0, none⟩ = some (.string ⟨#[]⟩) by go_simp)
  have r1 := (hb12.cell (p := ⟨w.heap.size, 1, none⟩) lw).trans (show (w.alloc (Obj.cells #[Value.string ⟨#[]⟩, Value.string ⟨#[]⟩] 113)).cell? ⟨w.heap.size, 1, none⟩ = some (.string ⟨#[]⟩) by go_simp)
  have g0 := (hb12.frozen (p := ⟨w.heap.size, 0, none⟩) lw).trans (show (w.alloc (Obj.cells #[Value.string ⟨#[]⟩, Value.string ⟨#[]⟩] 113)).frozen? ⟨w.heap.size, 0, none⟩ = false by go_simp)
  have g1 := (hb12.frozen (p := ⟨w.heap.size, 1, none⟩) lw).trans (show (w.alloc (Obj.cells #[Value.string ⟨#[]⟩, Value.string ⟨#[]⟩] 113)).frozen? ⟨w.heap.size, 1, none⟩ = false by go_simp)
  have hB := HB0.out.trans (hb12.mono HB0.out.size)
  have HB := Lib.hid hB; clear hB hb12 hb1 hb2 hs1 hs2
  unfold txt at *
  obtain ⟨t0, t1⟩ := two_cells w2 w.heap.size (.string (str (Wh.decI (x.fdiv y)))) (.string (str (Wh.decI (x.fmod y)))) r0 r1
  go_wp2
  exact bodyPost_ret (v := .agg #[.string (str (Wh.decI (x.fdiv y))), .string (str (Wh.decI (x.fmod y)))]) (by simp [results, Tryz.results110, go_sem, t0, t1]) rfl ⟨rfl, (HB.out.setCell (Nat.le_refl _) _).setCell (Nat.le_refl _) _⟩
set_option maxRecDepth 100000 in
set_option maxHeartbeats 400000 in
theorem FloorG_any (w : World) (x y : Int) (hx : Valid x) (hy : Valid y) (hfx : Fit x) (hfy : Fit y) (hy0 : y ≠ 0) (hq : Valid (x.fdiv y)) (hr : Valid (x.fmod y)) (htab : Tab w) :
    Calls Tryz.prog 33 #[txt x, txt y] w fun e w' => e = .returned (.tuple #[txt (x.fdiv y), txt (x.fmod y), .int .i64 0]) ∧ Below w.heap.size w w' := by
  have hmf : ∀ (fn : Fn) (first cap : Array Value) (w : World), (Instr.makeFunc fn first cap).run Tryz.prog w = .ok (.func fn first cap) w := fun _ _ _ _ => rfl
  have hat := fun (w : World) (pa pb : Addr) (h : Captured w pa pb x y) (htab : Tab w) (ha : pa.block < w.heap.size) (hb : pb.block < w.heap.size) => attempt_good2 110 #[.pointer (some pa), .pointer (some pb)] (str (Wh.decI (x.fdiv y))) (str (Wh.decI (x.fmod y))) w (fun w => by kernel_rfl) (fun w' hb' => floorg_work w' pa pb x y ⟨(hb'.cell ha).trans h.a, (hb'.cell hb).trans h.b⟩ (Nat.lt_of_lt_of_le ha hb'.size) (Nat.lt_of_lt_of_le hb hb'.size) hx hy hfx hfy hy0 hq hr (htab.mono hb'))
  have HAT := Lib.hid hat; clear hat
  unfold txt at *
  go_enter Tryz.func33, Tryz.ntmps33
  go_wp2_with fail
  have hal : Below w.heap.size w ((w.alloc (.cells #[.string (str (Wh.decI x))] 9)).alloc (.cells #[.string (str (Wh.decI y))] 9)) := ((Below.refl _ _).alloc (Nat.le_refl _) _).alloc (by simp) _
  obtain ⟨b0, b1⟩ := boxed w (.string (str (Wh.decI x))) (.string (str (Wh.decI y))) 9
  refine (HAT.out _ _ _ ⟨b0, b1⟩ (htab.mono hal) (by simp; omega) (by simp)).mono ?_
  rintro e w2 ⟨rfl, hb2⟩
  have hbb := hal.trans (hb2.mono hal.size)
  clear hal b0 b1 hb2
  go_wp2_with fail
  have q0 : (w2.alloc (Obj.cells #[Value.string (str (Wh.decI (x.fdiv y))), Value.string (str (Wh.decI (x.fmod y)))] 113)).cell? ⟨w2.heap.size, 0, none⟩ = some (.string (str (Wh.decI (x.fdiv y)))) := by go_simp
  have q1 : (w2.alloc (Obj.cells #[Value.string (str (Wh.decI (x.fdiv y))), Value.string (str (Wh.decI (x.fmod y)))] 113)).cell? ⟨w2.heap.size, 1, none⟩ = some (.string (str (Wh.decI (x.fmod y)))) := by go_simp
  have hB : Below w.heap.size w (w2.alloc (Obj.cells #[Value.string (str (Wh.decI (x.fdiv y))), Value.string (str (Wh.decI (x.fmod y)))] 113)) := hbb.alloc hbb.size _
  have HB := Lib.hid hB; clear hB hbb
  generalize w2.alloc (Obj.cells #[Value.string (str (Wh.decI (x.fdiv y))), Value.string (str (Wh.decI (x.fmod y)))] 113) = V at *
  go_quiet (fail)
  go_wp2
  exact bodyPost_ret (v := .tuple #[.string (str (Wh.decI (x.fdiv y))), .string (str (Wh.decI (x.fmod y))), .int .i64 0]) (by simp [results, Tryz.results33, go_sem]) rfl ⟨rfl, HB.out.trans (below_drewN _ _ _)⟩
end Go.Proofs.YteaeloeebfdodaaGreatDoor
