/- Part 9 of the proofs that laws of package whole answer true at every input and leave the input as it was, where the library's variables start as the text lays them (the texts T3, T4, T5). -/
import Derived.Test.YteaeloeebfdodaaGreatDoorX08
set_option linter.unusedVariables false
set_option linter.unusedSimpArgs false
/- WALKS, texts 3: perform. -/
namespace Go.Proofs.YteaeloeebfdodaaGreatDoor
open Go.RowKit
/-- two result variables that hold numbers at work -/
structure Two (w : World) (b : Nat) : Prop where
  k0 : w.cell? ⟨b, 0, none⟩ = some (.int .i64 0)
  k1 : w.cell? ⟨b, 1, none⟩ = some (.slice none 0 0)
  m0 : w.cell? ⟨b + 1, 0, none⟩ = some (.int .i64 0)
  m1 : w.cell? ⟨b + 1, 1, none⟩ = some (.slice none 0 0)
  f0 : w.frozen? ⟨b, 0, none⟩ = false
  f1 : w.frozen? ⟨b, 1, none⟩ = false
  g0 : w.frozen? ⟨b + 1, 0, none⟩ = false
  g1 : w.frozen? ⟨b + 1, 1, none⟩ = false
theorem two_new {w w3 : World} (h : Below (w.heap.size + 2) ((w.alloc (.cells #[.int .i64 0, .slice none 0 0] 83)).alloc (.cells #[.int .i64 0, .slice none 0 0] 83)) w3) : Two w3 w.heap.size := by
  have c : ∀ i, w3.cell? ⟨w.heap.size, i, none⟩ = _ := fun i => h.cell (p := ⟨w.heap.size, i, none⟩) (by show w.heap.size < _; omega)
  have c' : ∀ i, w3.cell? ⟨w.heap.size + 1, i, none⟩ = _ := fun i => h.cell (p := ⟨w.heap.size + 1, i, none⟩) (by show w.heap.size + 1 < _; omega)
  have f : ∀ i, w3.frozen? ⟨w.heap.size, i, none⟩ = _ := fun i => h.frozen (p := ⟨w.heap.size, i, none⟩) (by show w.heap.size < _; omega)
  have f' : ∀ i, w3.frozen? ⟨w.heap.size + 1, i, none⟩ = _ := fun i => h.frozen (p := ⟨w.heap.size + 1, i, none⟩) (by show w.heap.size + 1 < _; omega)
  exact ⟨(c 0).trans (by go_simp), (c 1).trans (by go_simp), (c' 0).trans (by go_simp), (c' 1).trans (by go_simp), (f 0).trans (by go_simp), (f 1).trans (by go_simp), (f' 0).trans (by go_simp), (f' 1).trans (by go_simp)⟩
def put22 (w : World) (b : Nat) (x0 x1 y0 y1 : Value) : World := (((w.setCell ⟨b, 0, none⟩ x0).setCell ⟨b, 1, none⟩ x1).setCell ⟨b + 1, 0, none⟩ y0).setCell ⟨b + 1, 1, none⟩ y1
theorem Two.read {w : World} {b : Nat} (h : Two w b) (x0 x1 y0 y1 : Value) :
    (put22 w b x0 x1 y0 y1).cell? ⟨b, 0, none⟩ = some x0 ∧ (put22 w b x0 x1 y0 y1).cell? ⟨b, 1, none⟩ = some x1 ∧ (put22 w b x0 x1 y0 y1).cell? ⟨b + 1, 0, none⟩ = some y0 ∧ (put22 w b x0 x1 y0 y1).cell? ⟨b + 1, 1, none⟩ = some y1 := by
  obtain ⟨e0, e1⟩ := two_cells w b x0 x1 h.k0 h.k1
  obtain ⟨e2, e3⟩ := two_cells ((w.setCell ⟨b, 0, none⟩ x0).setCell ⟨b, 1, none⟩ x1) (b + 1) y0 y1 (far1 h.m0 (by omega)) (far1 h.m1 (by omega))
  exact ⟨far1 e0 (by omega), far1 e1 (by omega), e2, e3⟩
theorem Two.sl {w : World} {b : Nat} (h : Two w b) {v : Value} {l : List Nat} (hs : Sl w v l) (x0 x1 y0 y1 : Value) : Sl (put22 w b x0 x1 y0 y1) v l :=
  (hs.store2 b h.k0 h.k1 x0 x1).store2 (b + 1) (far1 h.m0 (by omega)) (far1 h.m1 (by omega)) y0 y1
theorem Two.below {w w' : World} {B b : Nat} (h : Below B w w') (hb : B ≤ b) (x0 x1 y0 y1 : Value) : Below B w (put22 w' b x0 x1 y0 y1) :=
  (((h.setCell hb _).setCell hb _).setCell (Nat.le_succ_of_le hb) _).setCell (Nat.le_succ_of_le hb) _
end Go.Proofs.YteaeloeebfdodaaGreatDoor

/- WALKS, texts 4: perform, the difference and the product (made by tools/gen_perform.py). -/
namespace Go.Proofs.YteaeloeebfdodaaGreatDoor
open Go.RowKit
theorem no_multiple_sum (v : Value) (w : World) : (Instr.typeAssert (.iface 94 v) 174 92 true).run Tryz.prog w = .ok (.tuple #[.agg #[.int .i64 0, .slice none 0 0, .int .i64 0, .slice none 0 0], .bool false]) w := by kernel_rfl
theorem no_multiple_difference (v : Value) (w : World) : (Instr.typeAssert (.iface 94 v) 174 112 true).run Tryz.prog w = .ok (.tuple #[.agg #[.int .i64 0, .slice none 0 0, .int .i64 0, .slice none 0 0], .bool false]) w := by kernel_rfl
theorem method_mul (x0 x1 x2 x3 : Value) (w : World) : (method 524 94 (.agg #[x0, x1, x2, x3]) "metewand/whole.operands").run Tryz.prog w = .ok (398, .agg #[x0, x1, x2, x3]) w := by kernel_rfl
theorem assert_mul (v : Value) (w : World) : (Instr.typeAssert (.iface 94 v) 174 94 true).run Tryz.prog w = .ok (.tuple #[v, .bool true]) w := by kernel_rfl
set_option maxRecDepth 100000 in
set_option maxHeartbeats 800000 in
theorem perform_mul (w : World) (x y : Int) (a1 a2 : Option Addr) (n1 c1 n2 c2 : Nat) (h1 : Sl w (.slice a1 n1 c1) (Wh.limbs x.natAbs)) (h2 : Sl w (.slice a2 n2 c2) (Wh.limbs y.natAbs)) (hx : (Wh.limbs x.natAbs).length < 500) (hy : (Wh.limbs y.natAbs).length < 500) (hmin : (Wh.limbs x.natAbs).length < 32 ∨ (Wh.limbs y.natAbs).length < 32) :
    Calls Tryz.prog 179 #[.iface 94 (.agg #[.int .i64 (Int.sign x), .slice a1 n1 c1, .int .i64 (Int.sign y), .slice a2 n2 c2])] w fun e w' =>
      (∃ v', e = .returned (.tuple #[v', .agg #[.int .i64 0, .slice none 0 0]]) ∧ Num w' v' (x * y)) ∧ Below w.heap.size w w' := by
  have H1 := Lib.hid h1; clear h1
  have H2 := Lib.hid h2; clear h2
  have hme := method_mul (.int .i64 (Int.sign x)) (.slice a1 n1 c1) (.int .i64 (Int.sign y)) (.slice a2 n2 c2)
  go_enter Tryz.func179, Tryz.ntmps179
  go_wp2_with fail
  refine (operands_any _ _ _ _ _ _ _ _ _).mono ?_
  rintro e w2 ⟨rfl, hb2⟩
  clear hme
  have hno0 := no_multiple_sum (.agg #[.int .i64 (Int.sign x), .slice a1 n1 c1, .int .i64 (Int.sign y), .slice a2 n2 c2])
  have hno1 := no_multiple_difference (.agg #[.int .i64 (Int.sign x), .slice a1 n1 c1, .int .i64 (Int.sign y), .slice a2 n2 c2])
  have has := assert_mul (.agg #[.int .i64 (Int.sign x), .slice a1 n1 c1, .int .i64 (Int.sign y), .slice a2 n2 c2])
  have hbb : Below w.heap.size w w2 := (((Below.refl _ _).alloc (Nat.le_refl _) _).alloc (by simp) _).trans (hb2.mono (by simp; omega))
  go_wp2_with fail
  have hal : Below w2.heap.size w2 (((w2.alloc (Obj.cells #[Value.int IntKind.i64 (Int.sign x), Value.slice a1 n1 c1] 83)).alloc (Obj.cells #[Value.int IntKind.i64 (Int.sign y), Value.slice a2 n2 c2] 83)).alloc (Obj.cells #[Value.int IntKind.i64 (Int.sign y), Value.slice a2 n2 c2] 83)) := (((Below.refl _ _).alloc (Nat.le_refl _) _).alloc (by simp) _).alloc (by simp; omega) _
  have hall := hbb.trans (hal.mono hbb.size)
  have q0 : (((w2.alloc (Obj.cells #[Value.int IntKind.i64 (Int.sign x), Value.slice a1 n1 c1] 83)).alloc (Obj.cells #[Value.int IntKind.i64 (Int.sign y), Value.slice a2 n2 c2] 83)).alloc (Obj.cells #[Value.int IntKind.i64 (Int.sign y), Value.slice a2 n2 c2] 83)).cell? ⟨w2.heap.size + 1 + 1, 0, none⟩ = some (.int .i64 (Int.sign y)) := by go_simp
  have q1 : (((w2.alloc (Obj.cells #[Value.int IntKind.i64 (Int.sign x), Value.slice a1 n1 c1] 83)).alloc (Obj.cells #[Value.int IntKind.i64 (Int.sign y), Value.slice a2 n2 c2] 83)).alloc (Obj.cells #[Value.int IntKind.i64 (Int.sign y), Value.slice a2 n2 c2] 83)).cell? ⟨w2.heap.size + 1 + 1, 1, none⟩ = some (.slice a2 n2 c2) := by go_simp
  have t1 := H1.out.mono hall
  have t2 := H2.out.mono hall
  refine (product_any _ (w2.heap.size + 1 + 1) x y (by simp) _ ⟨_, rfl, t1⟩ (Int.sign y) a2 n2 c2 ⟨q0, q1, rfl, t2⟩ (by have : (Wh.limbs x.natAbs).length < 500 := hx; omega) (by have : (Wh.limbs y.natAbs).length < 500 := hy; omega) hmin).mono ?_
  rintro e w3 ⟨⟨v3, rfl, hn3⟩, hb3⟩
  obtain ⟨t, ht⟩ : ∃ t : Int, t = x * y := ⟨_, rfl⟩
  rw [← ht] at hn3
  have HT := Lib.hid ht; clear ht
  obtain ⟨s3, rfl, hs3⟩ := hn3
  obtain ⟨a3, c3, rfl⟩ := hs3.len
  have hw2 : Below (w.heap.size + 2) ((w.alloc (.cells #[.int .i64 0, .slice none 0 0] 83)).alloc (.cells #[.int .i64 0, .slice none 0 0] 83)) w2 := hb2.mono (by simp)
  have hsz : w.heap.size + 2 ≤ w2.heap.size := by have := hw2.size; simpa using this
  have hT := two_new (hw2.trans ((hal.trans (hb3.mono hal.size)).mono hsz))
  have hB3 := Two.below (hbb.trans ((hal.trans (hb3.mono hal.size)).mono hbb.size)) (Nat.le_refl w.heap.size) (.int .i64 (Int.sign t)) (.slice a3 (Wh.limbs t.natAbs).length c3) (.int .i64 0) (.slice none 0 0)
  have hS3 := hT.sl hs3 (.int .i64 (Int.sign t)) (.slice a3 (Wh.limbs t.natAbs).length c3) (.int .i64 0) (.slice none 0 0)
  obtain ⟨r0, r1, r2, r3⟩ := hT.read (.int .i64 (Int.sign t)) (.slice a3 (Wh.limbs t.natAbs).length c3) (.int .i64 0) (.slice none 0 0)
  have k0 := hT.k0
  have k1 := hT.k1
  have m0 := hT.m0
  have m1 := hT.m1
  have f0 := hT.f0
  have f1 := hT.f1
  have g0 := hT.g0
  have g1 := hT.g1
  clear q0 q1 t1 t2 hal hall hb3 hw2 hbb hb2 has hT hs3 hno0 hno1
  go_wp2
  exact bodyPost_ret (v := .tuple #[.agg #[.int .i64 (Int.sign t), .slice a3 (Wh.limbs t.natAbs).length c3], .agg #[.int .i64 0, .slice none 0 0]]) (by unfold put22 at *; simp [results, Tryz.results179, go_sem, r0, r1, r2, r3]) rfl ⟨⟨_, rfl, by rw [← HT.out]; exact ⟨_, rfl, hS3⟩⟩, hB3⟩
end Go.Proofs.YteaeloeebfdodaaGreatDoor

/- WALKS, texts 5: single; what Add, Sub and Mul hand to attempt. -/
namespace Go.Proofs.YteaeloeebfdodaaGreatDoor
open Go.RowKit
set_option maxHeartbeats 400000 in
theorem length_zero (w : World) (v : Value) (h : Num w v 0) :
    Calls Tryz.prog 97 #[v] w fun e w' => e = .returned (.int .i64 1) ∧ Below w.heap.size w w' := by
  obtain ⟨sl, rfl, hsl⟩ := h
  obtain ⟨a, c, rfl⟩ := hsl.len
  have hz : (Wh.limbs (0 : Int).natAbs).length = 0 := by rw [Int.natAbs_zero, Wh.limbs_zero]; rfl
  rw [hz, Int.sign_zero]
  clear hsl hz
  go_enter Tryz.func97, Tryz.ntmps97
  go_wp2
  go_ret
  exact ⟨rfl, (Below.refl _ _).alloc (Nat.le_refl _) _⟩
theorem len_any (w : World) (v : Value) (x : Int) (h : Num w v x) (htab : Tab w) (hm : (Wh.limbs x.natAbs).length ≤ 5000) :
    Calls Tryz.prog 97 #[v] w fun e w' => e = .returned (.int .i64 (Wh.decN x.natAbs).length) ∧ Below w.heap.size w w' := by
  by_cases hx : x = 0
  · subst hx
    have e0 : (Wh.decN (0 : Int).natAbs).length = 1 := by rw [Int.natAbs_zero, Wh.decN_zero]; rfl
    rw [e0]
    exact length_zero w v h
  · exact length_any x v w h hx htab hm
theorem limbs_valid {x : Int} (h : Valid x) : (Wh.limbs x.natAbs).length ≤ 45 := Wh.limbs_length_of_dec (n := x.natAbs) (k := 45) (by unfold Valid at h; omega)
set_option maxRecDepth 100000 in
set_option maxHeartbeats 400000 in
theorem wtext_any (w : World) (v : Value) (z : Int) (h : Num w v z) (htab : Tab w) (hv : Valid z) :
    Calls Tryz.prog 98 #[v] w fun e w' => e = .returned (txt z) ∧ Below w.heap.size w w' := by
  obtain ⟨sl, rfl, hsl⟩ := h
  obtain ⟨a, c, rfl⟩ := hsl.len
  have HV := Lib.hid hv
  have hm : (Wh.limbs z.natAbs).length ≤ 5000 := by have := limbs_valid hv; omega
  unfold Valid at hv
  have hb0 : Below w.heap.size w (w.alloc (Obj.cells #[.int .i64 (Int.sign z), .slice a (Wh.limbs z.natAbs).length c] 83)) := (Below.refl _ _).alloc (Nat.le_refl _) _
  have H1 := Lib.hid (len_any _ _ z (Num.mk' (hsl.mono hb0) rfl) (htab.mono hb0) hm)
  have H2 := Lib.hid (fun w2 (hb : Below (w.heap.size + 1) (w.alloc (Obj.cells #[.int .i64 (Int.sign z), .slice a (Wh.limbs z.natAbs).length c] 83)) w2) => text_any w2 z (.agg #[.int .i64 (Int.sign z), .slice a (Wh.limbs z.natAbs).length c]) (Num.mk' ((hsl.mono hb0).mono (hb.mono (by simp))) rfl) ((htab.mono hb0).mono (hb.mono (by simp))) HV.out)
  clear hm htab hsl
  unfold txt
  generalize hn : (Wh.decN z.natAbs).length = n at *
  have HN := Lib.hid hn; clear hn
  have hd : decide ((n : Int) ≤ 400) = true := by simp; omega
  generalize (Wh.limbs z.natAbs).length = m at *
  have hk0 : (w.alloc (Obj.cells #[.int .i64 (Int.sign z), .slice a m c] 83)).cell? ⟨w.heap.size, 0, none⟩ = some (.int .i64 (Int.sign z)) := by go_simp
  have hk1 : (w.alloc (Obj.cells #[.int .i64 (Int.sign z), .slice a m c] 83)).cell? ⟨w.heap.size, 1, none⟩ = some (.slice a m c) := by go_simp
  have hs0 : (w.alloc (Obj.cells #[.int .i64 (Int.sign z), .slice a m c] 83)).heap.size = w.heap.size + 1 := by simp
  go_enter Tryz.func98, Tryz.ntmps98
  go_wp2_with fail
  generalize w.alloc (Obj.cells #[.int .i64 (Int.sign z), .slice a m c] 83) = W at *
  refine H1.out.mono ?_
  rintro e w1 ⟨rfl, hb1⟩
  rw [hs0] at hb1
  have HS0 := Lib.hid hs0; clear hs0
  have j0 := (hb1.cell (p := ⟨w.heap.size, 0, none⟩) (Nat.lt_succ_self _)).trans hk0
  have j1 := (hb1.cell (p := ⟨w.heap.size, 1, none⟩) (Nat.lt_succ_self _)).trans hk1
  clear hk0 hk1
  go_wp2_with fail
  refine (demand_yes _ _).mono ?_
  rintro e w2 ⟨rfl, rfl⟩
  go_wp2_with fail
  refine (H2.out _ hb1).mono ?_
  rintro e w3 ⟨rfl, hb3⟩
  have hbb : Below w.heap.size w w3 := hb0.trans ((hb1.trans (hb3.mono (by have := hb1.size; have := HS0.out; omega))).mono (Nat.le_succ _))
  go_wp2
  go_ret
  exact ⟨rfl, hbb⟩
set_option maxHeartbeats 400000 in
theorem single_any (w : World) (o : Value) (z : Int) (htab : Tab w) (hv : Valid z)
    (hp : Calls Tryz.prog 179 #[o] w fun e w' => (∃ v', e = .returned (.tuple #[v', .agg #[.int .i64 0, .slice none 0 0]]) ∧ Num w' v' z) ∧ Below w.heap.size w w') :
    Calls Tryz.prog 82 #[o] w fun e w' => e = .returned (txt z) ∧ Below w.heap.size w w' := by
  have HP := Lib.hid hp; clear hp
  go_enter Tryz.func82, Tryz.ntmps82
  go_wp2_with fail
  refine HP.out.mono ?_
  rintro e w1 ⟨⟨v1, rfl, hn1⟩, hb1⟩
  obtain ⟨s1, rfl, hs1⟩ := hn1
  obtain ⟨a1, c1, rfl⟩ := hs1.len
  go_wp2_with fail
  refine (wtext_any _ _ z (Num.mk' (hs1.mono (((Below.refl _ _).alloc (Nat.le_refl _) _).alloc (by simp) _)) rfl) ((htab.mono hb1).mono (((Below.refl _ _).alloc (Nat.le_refl _) _).alloc (by simp) _)) hv).mono ?_
  rintro e w2 ⟨rfl, hb2⟩
  have hbb : Below w.heap.size w w2 := hb1.trans (((((Below.refl w1.heap.size w1).alloc (Nat.le_refl _) _).alloc (by simp) _).trans (hb2.mono (by simp; omega))).mono hb1.size)
  go_wp2
  go_ret
  exact ⟨rfl, hbb⟩
/-- pa, pb are variables that hold two texts -/
structure Captured (w : World) (pa pb : Addr) (x y : Int) : Prop where
  a : w.cell? pa = some (txt x)
  b : w.cell? pb = some (txt y)
set_option maxHeartbeats 400000 in
theorem mul_work (w : World) (pa pb : Addr) (x y : Int) (hc : Captured w pa pb x y) (hx : Valid x) (hy : Valid y) (hz : Valid (x * y)) (htab : Tab w) (hmin : (Wh.limbs x.natAbs).length < 32 ∨ (Wh.limbs y.natAbs).length < 32) :
    Calls Tryz.prog 83 #[.pointer (some pa), .pointer (some pb)] w fun e w' => e = .returned (txt (x * y)) ∧ Below w.heap.size w w' := by
  have ha := hc.a
  have hb := hc.b
  have H1 := Lib.hid (fun w => readPair_any x y hx hy w)
  clear hc
  unfold txt at *
  go_enter Tryz.func83, Tryz.ntmps83
  go_wp2_with fail
  refine (H1.out _).mono ?_
  rintro e w1 ⟨⟨a1, n1, c1, a2, n2, c2, rfl, hs1, hs2⟩, hb1⟩
  go_wp2_with fail
  refine (single_any _ _ (x * y) (htab.mono hb1) hz (perform_mul _ x y _ _ _ _ _ _ hs1 hs2 (by have := limbs_valid hx; omega) (by have := limbs_valid hy; omega) hmin)).mono ?_
  rintro e w2 ⟨rfl, hb2⟩
  have hbb : Below w.heap.size w w2 := hb1.trans (hb2.mono hb1.size)
  unfold txt
  go_wp2
  go_ret
  exact ⟨rfl, hbb⟩
end Go.Proofs.YteaeloeebfdodaaGreatDoor
