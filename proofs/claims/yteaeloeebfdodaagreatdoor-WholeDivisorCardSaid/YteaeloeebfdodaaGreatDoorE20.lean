/- Part 20 of the proofs that laws of package whole answer true at every input and leave the input as it was, where the library's variables start as the text lays them (the texts G7, M14, G8). -/
import Derived.Test.YteaeloeebfdodaaGreatDoorE13
import Derived.Test.YteaeloeebfdodaaGreatDoorE01
import Derived.Test.YteaeloeebfdodaaGreatDoorE14
set_option linter.unusedVariables false
set_option linter.unusedSimpArgs false
/- WALKS, the divisor 7: highest, from any limb on. -/
namespace Go.Proofs.YteaeloeebfdodaaGreatDoor
open Go.RowKit
set_option maxHeartbeats 400000 in
theorem highest_gen (w : World) (v : Value) (l : List Nat) (t : Nat) (h : Sl w v l) (ho : Wh.Ok l) (hl : l.length ≤ t + 2) (ht : t ≤ 1000) :
    Calls Tryz.prog 305 #[v, .int .i64 t] w fun e w' => e = .returned (.int .i64 (Wh.val (l.drop t) : Nat)) ∧ w = w' := by
  obtain ⟨a, c, rfl, hc⟩ := h.addr
  clear h
  have HC := Lib.hid hc; clear hc
  have HO := Lib.hid ho; clear ho
  generalize hn : l.length = n at *
  have HN := Lib.hid hn; clear hn
  go_enter Tryz.func305, Tryz.ntmps305
  have hmin : min ((t : Int) + 2) n = n := by omega
  go_wp2_with fail
  go_loop [5, 6] (fun r i => ∃ j : Nat, (j ≤ n ∧ (t ≤ j ∨ j = n)) ∧ i = .int .i64 ((j : Int) - 1) ∧ r = .int .i64 (Wh.val (l.drop j) : Nat)) (fun _ i => (intOf i + 1).toNat)
  case atStart => exact ⟨n, ⟨Nat.le_refl _, .inr rfl⟩, rfl, by rw [List.drop_of_length_le (by rw [HN.out]; exact Nat.le_refl _)]; rfl⟩
  case round =>
    obtain ⟨j, ⟨hj, hjt⟩, rfl, rfl⟩ := hrel
    by_cases h0 : j ≤ t
    · have hd : decide ((t : Int) ≤ (j : Int) - 1) = false := by rw [decide_eq_false_iff_not]; omega
      have hV0 : l.drop j = l.drop t := by
        rcases hjt with h | h
        · rw [show j = t by omega]
        · rw [List.drop_of_length_le (by rw [HN.out]; omega), List.drop_of_length_le (by rw [HN.out]; omega)]
      rw [hV0]
      generalize hV : Wh.val (l.drop t) = V at *
      go_wp2
      go_ret
      exact ⟨by first | rfl | (rw [hV]; rfl), rfl⟩
    · obtain ⟨k, rfl⟩ : ∃ k, j = k + 1 := ⟨j - 1, by omega⟩
      have hd : decide ((t : Int) ≤ (k : Int)) = true := by rw [decide_eq_true_iff]; omega
      have hv := Wh.val_drop l k (by rw [HN.out]; omega)
      obtain ⟨b, off, rfl, hlt, hcell⟩ := HC.out k (by omega)
      have hck := hcell k (by omega)
      have hx : l.getD k 0 < 1000000000 := Wh.getD_lt HO.out k
      have hu : Wh.val (l.drop (k + 1)) < 1000000000 := by
        have := Wh.val_lt (l := l.drop (k + 1)) (fun y hy => HO.out y (List.mem_of_mem_drop hy))
        have h2 : Wh.R ^ (l.drop (k + 1)).length ≤ Wh.R ^ 1 := Nat.pow_le_pow_right (by decide) (by rw [List.length_drop, HN.out]; omega)
        have h3 : Wh.R ^ 1 = 1000000000 := by decide
        omega
      have HV := Lib.hid hv; clear hv hcell
      have HLT := Lib.hid hlt; clear hlt
      generalize l.getD k 0 = x at *
      generalize Wh.val (l.drop (k + 1)) = u at *
      have hk1 : (((k + 1 : Nat) : Int) - 1) = k := by omega
      rw [hk1]
      go_wp2
      go_round
      case rel => exact ⟨k, by omega, by go_num, by congr 1; rw [HV.out, show Wh.R = 1000000000 from rfl]; omega⟩
      case measure => simp [intOf]
end Go.Proofs.YteaeloeebfdodaaGreatDoor

/- MATH 14: several steps of Euclid's algorithm at once, from the highest limbs. -/
namespace Wh
/-- the numbers of several steps: the first pair is H, L, the present one h, l -/
structure LkI (H L h l a b c d : Nat) (o ex : Bool) : Prop where
  e1 : H = d * h + b * l
  e2 : L = c * h + a * l
  det : (o = false ∧ a * d = b * c + 1) ∨ (o = true ∧ b * c = a * d + 1)
  la : a < R
  lb : b < R
  lc : c < R
  ld : d < R
  st : (a = 1 ∧ b = 0 ∧ c = 0 ∧ d = 1 ∧ o = false ∧ h = H ∧ l = L) ∨ (1 ≤ b ∧ 1 ≤ c ∧ a ≤ b ∧ c ≤ d ∧ a ≤ c ∧ b ≤ d ∧ l < h ∧ (ex = false → d ≤ l ∧ l + (b + d) ≤ h))
theorem LkI.start (H L : Nat) (ex : Bool) : LkI H L H L 1 0 0 1 false ex :=
  ⟨by omega, by omega, .inl ⟨rfl, rfl⟩, by decide, by decide, by decide, by decide, .inl ⟨rfl, rfl, rfl, rfl, rfl, rfl, rfl⟩⟩
theorem LkI.room {H L h l a b c d : Nat} {o ex : Bool} (k : LkI H L h l a b c d o ex) (hl : 0 < l) (hlh : l ≤ h) : h ≤ H ∧ a + h / l * c ≤ L ∧ b + h / l * d ≤ H ∧ h / l ≤ h ∧ 1 ≤ h / l := by
  have hq : h / l * l ≤ h := Nat.div_mul_le_self _ _
  have hq1 : 1 ≤ h / l := (Nat.le_div_iff_mul_le hl).2 (by omega)
  have hd : 1 ≤ d := by
    rcases k.st with ⟨_, _, _, rfl, _⟩ | ⟨h1, h2, _, h4, _⟩
    · exact Nat.le_refl _
    · omega
  have h1 : 1 * h ≤ d * h := Nat.mul_le_mul_right h hd
  have e1 := k.e1
  have e2 := k.e2
  have hqs : h / l ≤ h := Nat.div_le_self _ _
  generalize h / l = q at *
  have m1 : c * (q * l) ≤ c * h := Nat.mul_le_mul_left c hq
  have m2 : d * (q * l) ≤ d * h := Nat.mul_le_mul_left d hq
  have x1 : (a + q * c) * 1 ≤ (a + q * c) * l := Nat.mul_le_mul_left _ hl
  have x2 : (b + q * d) * 1 ≤ (b + q * d) * l := Nat.mul_le_mul_left _ hl
  have y1 : (a + q * c) * l = c * (q * l) + a * l := by grind
  have y2 : (b + q * d) * l = d * (q * l) + b * l := by grind
  generalize (a + q * c) * l = t1 at *
  generalize (b + q * d) * l = t2 at *
  generalize c * (q * l) = t3 at *
  generalize d * (q * l) = t4 at *
  refine ⟨by omega, by omega, by omega, hqs, hq1⟩
theorem LkI.next {H L h l a b c d : Nat} {o ex : Bool} (k : LkI H L h l a b c d o ex) (hl : 0 < l) (hlh : l ≤ h) (h1 : a + h / l * c < R) (h2 : b + h / l * d < R)
    (h3 : ex = false → b + h / l * d ≤ h % l ∧ h % l + (d + (b + h / l * d)) ≤ l) : LkI H L l (h % l) c d (a + h / l * c) (b + h / l * d) (!o) ex := by
  have hq1 : 1 ≤ h / l := (Nat.le_div_iff_mul_le hl).2 (by omega)
  have hdm := Nat.div_add_mod h l
  have hr := Nat.mod_lt h hl
  have e1 := k.e1
  have e2 := k.e2
  generalize h / l = q at *
  generalize h % l = r at *
  have hc : c ≤ q * c := by have := Nat.mul_le_mul_right c hq1; omega
  have hd : d ≤ q * d := by have := Nat.mul_le_mul_right d hq1; omega
  refine ⟨?_, ?_, ?_, k.lc, k.ld, h1, h2, .inr ?_⟩
  · rw [e1, ← hdm]; grind
  · rw [e2, ← hdm]; grind
  · rcases k.det with ⟨rfl, hdt⟩ | ⟨rfl, hdt⟩
    · exact .inr ⟨rfl, by
        have : d * (a + q * c) = a * d + q * (c * d) := by grind
        have : c * (b + q * d) = b * c + q * (c * d) := by grind
        omega⟩
    · exact .inl ⟨rfl, by
        have : d * (a + q * c) = a * d + q * (c * d) := by grind
        have : c * (b + q * d) = b * c + q * (c * d) := by grind
        omega⟩
  · rcases k.st with ⟨rfl, rfl, rfl, rfl, _⟩ | ⟨k1, k2, k3, k4, k5, k6, _⟩
    · refine ⟨by omega, by omega, by omega, by omega, by omega, by omega, hr, fun e => ?_⟩
      have := h3 e; omega
    · have m : q * c ≤ q * d := Nat.mul_le_mul_left q k4
      refine ⟨by omega, by omega, by omega, by omega, by omega, by omega, hr, fun e => ?_⟩
      have := h3 e; omega
/-- what the steps make of the whole numbers -/
theorem LkI.fin {H L h l a b c d B r n : Nat} {o ex : Bool} (k : LkI H L h l a b c d o ex) (hb : b ≠ 0) (hr : r < B) (hn : n < B) (hex : ex = true → r = 0 ∧ n = 0) :
    ∃ R' N' : Nat, N' < R' ∧ H * B + r = d * R' + b * N' ∧ L * B + n = c * R' + a * N' ∧ 1 ≤ b ∧ 1 ≤ c ∧ a ≤ c ∧ b ≤ d := by
  obtain ⟨k1, k2, k3, k4, k5, k6, k7, k8⟩ : 1 ≤ b ∧ 1 ≤ c ∧ a ≤ b ∧ c ≤ d ∧ a ≤ c ∧ b ≤ d ∧ l < h ∧ (ex = false → d ≤ l ∧ l + (b + d) ≤ h) := by
    rcases k.st with ⟨_, h, _⟩ | h
    · exact absurd h hb
    · exact h
  have e1 := k.e1
  have e2 := k.e2
  have hlB : ex = false → d * B ≤ l * B ∧ l * B + (b + d) * B ≤ h * B := fun e => by
    obtain ⟨x1, x2⟩ := k8 e
    exact ⟨Nat.mul_le_mul_right B x1, by rw [← Nat.add_mul]; exact Nat.mul_le_mul_right B x2⟩
  have hlt : l * B + B ≤ h * B := by
    have : (l + 1) * B ≤ h * B := Nat.mul_le_mul_right B k7
    rw [Nat.add_mul, Nat.one_mul] at this; exact this
  have hcr : c * r ≤ c * B := Nat.mul_le_mul_left c (Nat.le_of_lt hr)
  have hcd : c * B ≤ d * B := Nat.mul_le_mul_right B k4
  have hdn : d * n ≤ d * B := Nat.mul_le_mul_left d (Nat.le_of_lt hn)
  have hbn : (b + d) * (n + 1) ≤ (b + d) * B := Nat.mul_le_mul_left _ hn
  have har : (a + c) * (r + 1) ≤ (a + c) * B := Nat.mul_le_mul_left _ hr
  have hac : (a + c) * B ≤ (b + d) * B := Nat.mul_le_mul_right B (by omega)
  have x1 : (b + d) * (n + 1) = b * n + d * n + (b + d) := by grind
  have x2 : (a + c) * (r + 1) = a * r + c * r + (a + c) := by grind
  have z0 : ex = true → a * r = 0 ∧ b * n = 0 ∧ c * r = 0 ∧ d * n = 0 := fun e => by
    obtain ⟨rfl, rfl⟩ := hex e
    simp
  have hB0 : 0 < B := Nat.lt_of_le_of_lt (Nat.zero_le _) hr
  rcases k.det with ⟨-, hdt⟩ | ⟨-, hdt⟩
  · have hN : c * r ≤ l * B + d * n := by
      cases ex with
      | true => have := z0 rfl; omega
      | false => have := hlB rfl; omega
    have hR : b * n ≤ h * B + a * r := by
      cases ex with
      | true => have := z0 rfl; omega
      | false => have := hlB rfl; omega
    refine ⟨h * B + a * r - b * n, l * B + d * n - c * r, ?_, ?_, ?_, k1, k2, k5, k6⟩
    · cases ex with
      | true => have := z0 rfl; omega
      | false => have := hlB rfl; omega
    · obtain ⟨P, hP⟩ : ∃ P, P = h * B + a * r - b * n := ⟨_, rfl⟩
      obtain ⟨Q, hQ⟩ : ∃ Q, Q = l * B + d * n - c * r := ⟨_, rfl⟩
      rw [← hP, ← hQ, e1]
      have p1 : P + b * n = h * B + a * r := by omega
      have p2 : Q + c * r = l * B + d * n := by omega
      have p3 : d * (P + b * n) = d * (h * B + a * r) := by rw [p1]
      have p4 : b * (Q + c * r) = b * (l * B + d * n) := by rw [p2]
      have p5 : a * d * r = (b * c + 1) * r := by rw [hdt]
      grind
    · obtain ⟨P, hP⟩ : ∃ P, P = h * B + a * r - b * n := ⟨_, rfl⟩
      obtain ⟨Q, hQ⟩ : ∃ Q, Q = l * B + d * n - c * r := ⟨_, rfl⟩
      rw [← hP, ← hQ, e2]
      have p1 : P + b * n = h * B + a * r := by omega
      have p2 : Q + c * r = l * B + d * n := by omega
      have p3 : c * (P + b * n) = c * (h * B + a * r) := by rw [p1]
      have p4 : a * (Q + c * r) = a * (l * B + d * n) := by rw [p2]
      have p5 : a * d * n = (b * c + 1) * n := by rw [hdt]
      grind
  · have hN : d * n ≤ l * B + c * r := by
      cases ex with
      | true => have := z0 rfl; omega
      | false => have := hlB rfl; omega
    have hR : a * r ≤ h * B + b * n := by
      cases ex with
      | true => have := z0 rfl; omega
      | false => have := hlB rfl; omega
    refine ⟨h * B + b * n - a * r, l * B + c * r - d * n, ?_, ?_, ?_, k1, k2, k5, k6⟩
    · cases ex with
      | true => have := z0 rfl; omega
      | false => have := hlB rfl; omega
    · obtain ⟨P, hP⟩ : ∃ P, P = h * B + b * n - a * r := ⟨_, rfl⟩
      obtain ⟨Q, hQ⟩ : ∃ Q, Q = l * B + c * r - d * n := ⟨_, rfl⟩
      rw [← hP, ← hQ, e1]
      have p1 : P + a * r = h * B + b * n := by omega
      have p2 : Q + d * n = l * B + c * r := by omega
      have p3 : d * (P + a * r) = d * (h * B + b * n) := by rw [p1]
      have p4 : b * (Q + d * n) = b * (l * B + c * r) := by rw [p2]
      have p5 : b * c * r = (a * d + 1) * r := by rw [hdt]
      grind
    · obtain ⟨P, hP⟩ : ∃ P, P = h * B + b * n - a * r := ⟨_, rfl⟩
      obtain ⟨Q, hQ⟩ : ∃ Q, Q = l * B + c * r - d * n := ⟨_, rfl⟩
      rw [← hP, ← hQ, e2]
      have p1 : P + a * r = h * B + b * n := by omega
      have p2 : Q + d * n = l * B + c * r := by omega
      have p3 : c * (P + a * r) = c * (h * B + b * n) := by rw [p1]
      have p4 : a * (Q + d * n) = a * (l * B + c * r) := by rw [p2]
      have p5 : b * c * n = (a * d + 1) * n := by rw [hdt]
      grind
end Wh

/- WALKS, the divisor 8: look, at any numbers. -/
namespace Go.Proofs.YteaeloeebfdodaaGreatDoor
open Go.RowKit
theorem two_limbs {l : List Nat} {t : Nat} (ho : Wh.Ok l) (hl : l.length ≤ t + 2) : Wh.val (l.drop t) < 1000000000000000000 := by
  have h1 := Wh.val_lt (l := l.drop t) (fun y hy => ho y (List.mem_of_mem_drop hy))
  have h2 : Wh.R ^ (l.drop t).length ≤ Wh.R ^ 2 := Nat.pow_le_pow_right (by decide) (by rw [List.length_drop]; omega)
  have h3 : Wh.R ^ 2 = 1000000000000000000 := by decide
  omega
theorem wrap_lin18 {a q c : Nat} (h : a + q * c < 1000000000000000000) : wrap64 ((a : Int) + wrap64 ((q : Int) * (c : Int))) = ((a + q * c : Nat) : Int) := by
  have h2 : (q : Int) * (c : Int) = ((q * c : Nat) : Int) := by simp
  rw [h2]
  generalize q * c = m at *
  rw [w64 (m : Int) (by omega) (by omega), w64 _ (by omega) (by omega)]
  simp
set_option maxRecDepth 100000 in
set_option maxHeartbeats 2000000 in
theorem look_gen (w : World) (wb R N : Nat) (hr : SlAt w wb 0 R) (hn : SlAt w wb 1 N) (hlt : wb < w.heap.size) (t : Nat) (ht : t = max ((Wh.limbs R).length - 2) ((Wh.limbs N).length - 2)) (ht9 : t ≤ 1000) (H L : Nat) (hH : H = Wh.val ((Wh.limbs R).drop t)) (hL : L = Wh.val ((Wh.limbs N).drop t)) (ex : Bool) (hex : decide (t = 0) = ex) :
    Calls Tryz.prog 263 #[.pointer (some ⟨wb, 0, none⟩)] w fun e w' => (∃ h l a b c d o, Wh.LkI H L h l a b c d o ex ∧ e = .returned (.agg #[.int .i64 (a : Nat), .int .i64 (b : Nat), .int .i64 (c : Nat), .int .i64 (d : Nat), .bool o])) ∧ Below w.heap.size w w' := by
  obtain ⟨ra, rc, r0, rs⟩ := hr
  obtain ⟨na, nc, n0, ns⟩ := hn
  have HR1 := Lib.hid (fun (w' : World) (hb : Below w.heap.size w w') => highest_gen w' _ _ t (rs.mono hb) (Wh.ok_limbs R) (by omega) ht9)
  have HN1 := Lib.hid (fun (w' : World) (hb : Below w.heap.size w w') => highest_gen w' _ _ t (ns.mono hb) (Wh.ok_limbs N) (by omega) ht9)
  rw [← hH] at HR1
  rw [← hL] at HN1
  have hHb : H < 1000000000000000000 := by rw [hH]; exact two_limbs (Wh.ok_limbs R) (by omega)
  have hLb : L < 1000000000000000000 := by rw [hL]; exact two_limbs (Wh.ok_limbs N) (by omega)
  have HBD0 := Lib.hid (And.intro hHb hLb)
  clear rs ns hH hL hHb hLb
  have hmx : (if (if (Wh.limbs R).length < (Wh.limbs N).length then ((Wh.limbs N).length : Int) - 2 else ((Wh.limbs R).length : Int) - 2) < 0 then (0 : Int) else if (Wh.limbs R).length < (Wh.limbs N).length then ((Wh.limbs N).length : Int) - 2 else ((Wh.limbs R).length : Int) - 2) = (t : Int) := by
    split <;> split <;> omega
  generalize (Wh.limbs R).length = lr at *
  generalize (Wh.limbs N).length = ln at *
  have hlr : lr ≤ 1002 := by omega
  have hln : ln ≤ 1002 := by omega
  clear ht
  have hexi : ((t : Int) == 0) = ex := by
    rw [← hex]
    by_cases h : t = 0
    · subst h; rfl
    · rw [decide_eq_false h, beq_eq_false_iff_ne]; omega
  clear hex
  go_enter Tryz.func263, Tryz.ntmps263
  go_wp2_with fail
  have hal : Below w.heap.size w (w.alloc (Obj.cells #[.int .i64 0, .int .i64 0, .int .i64 0, .int .i64 0, .bool false] 260)) := (Below.refl _ _).alloc (Nat.le_refl _) _
  have k0 := (hal.cell (p := ⟨wb, 0, none⟩) hlt).trans r0
  have k1 := (hal.cell (p := ⟨wb, 1, none⟩) hlt).trans n0
  have HT : Hid (SM (w.alloc (Obj.cells #[.int .i64 0, .int .i64 0, .int .i64 0, .int .i64 0, .bool false] 260)) w.heap.size 0 0 0 0 false) := Lib.hid ⟨by go_simp, by go_simp, by go_simp, by go_simp, by go_simp, fun i hi => by rcases (by omega : i = 0 ∨ i = 1 ∨ i = 2 ∨ i = 3 ∨ i = 4) with rfl | rfl | rfl | rfl | rfl <;> go_simp⟩
  have hsz : (w.alloc (Obj.cells #[.int .i64 0, .int .i64 0, .int .i64 0, .int .i64 0, .bool false] 260)).heap.size = w.heap.size + 1 := by simp
  have HAL := Lib.hid hal
  clear hal r0 n0
  generalize (w.alloc (Obj.cells #[.int .i64 0, .int .i64 0, .int .i64 0, .int .i64 0, .bool false] 260)) = V at *
  have HMX0 := Lib.hid hmx; clear hmx
  go_quiet (fail)
  rw [HMX0.out]
  go_wp2_with fail
  have hdw := below_drewN V.heap.size V nq
  have hwV : wb < V.heap.size := by omega
  have k0 := (hdw.cell (p := ⟨wb, 0, none⟩) hwV).trans k0
  have k1 := (hdw.cell (p := ⟨wb, 1, none⟩) hwV).trans k1
  have HT2 := Lib.hid (HT.out.mono hdw (by omega))
  have HAL2 := Lib.hid (HAL.out.trans (hdw.mono HAL.out.size))
  have hsz2 : (V.drewN nq).heap.size = w.heap.size + 1 := by rw [World.heap_drewN]; exact hsz
  clear hdw HT HAL hwV hsz
  generalize V.drewN nq = V2 at *
  have HR2 := Lib.hid (fun n : Nat => (HR1.out (V2.drewN n) (HAL2.out.trans (below_drewN _ _ _))).mono (fun e w' (h : e = _ ∧ _ = w') => (⟨h.1, 0, by rw [World.drewN_zero]; exact h.2.symm⟩ : e = _ ∧ ∃ m, w' = (V2.drewN n).drewN m)))
  have HN2 := Lib.hid (fun n : Nat => (HN1.out (V2.drewN n) (HAL2.out.trans (below_drewN _ _ _))).mono (fun e w' (h : e = _ ∧ _ = w') => (⟨h.1, 0, by rw [World.drewN_zero]; exact h.2.symm⟩ : e = _ ∧ ∃ m, w' = (V2.drewN n).drewN m)))
  go_quiet ((go_at_call 305; with_reducible first | exact Calls.quiet_of (HR2.out _) | exact Calls.quiet_of (HN2.out _)))
  go_wp2_with fail
  have hz3 : (V2.drewN nq).heap.size = w.heap.size + 1 := by rw [World.heap_drewN, hsz2]
  have hal3 : Below (V2.drewN nq).heap.size (V2.drewN nq) ((V2.drewN nq).alloc (Obj.cells #[.int .i64 1, .int .i64 0, .int .i64 0, .int .i64 1, .bool false] 260)) := (Below.refl _ _).alloc (Nat.le_refl _) _
  have hdw3 := below_drewN V2.heap.size V2 nq
  have hT3 := (HT2.out.mono hdw3 (by omega)).mono hal3 (by omega)
  have hB3 := (HAL2.out.trans (hdw3.mono HAL2.out.size)).trans (hal3.mono (by omega))
  have hS3 : SM ((V2.drewN nq).alloc (Obj.cells #[.int .i64 1, .int .i64 0, .int .i64 0, .int .i64 1, .bool false] 260)) (w.heap.size + 1) 1 0 0 1 false := by
    rw [← hz3]
    exact ⟨by go_simp, by go_simp, by go_simp, by go_simp, by go_simp, fun i hi => by rcases (by omega : i = 0 ∨ i = 1 ∨ i = 2 ∨ i = 3 ∨ i = 4) with rfl | rfl | rfl | rfl | rfl <;> go_simp⟩
  have hz4 : ((V2.drewN nq).alloc (Obj.cells #[.int .i64 1, .int .i64 0, .int .i64 0, .int .i64 1, .bool false] 260)).heap.size = w.heap.size + 2 := by simp [hsz2]
  have HM := Lib.hid (And.intro hS3 (And.intro hT3 (And.intro hB3 (by omega : w.heap.size + 1 < ((V2.drewN nq).alloc (Obj.cells #[.int .i64 1, .int .i64 0, .int .i64 0, .int .i64 1, .bool false] 260)).heap.size))))
  clear hz3 hal3 hdw3 hT3 hB3 hS3 hz4 hsz2 HT2 HAL2 HR2 HN2 HR1 HN1 k0 k1
  generalize ((V2.drewN nq).alloc (Obj.cells #[.int .i64 1, .int .i64 0, .int .i64 0, .int .i64 1, .bool false] 260)) = V4 at *
  have H0 := Lib.hid (Wh.LkI.start H L ex)
  go_loopw [5, 6] (fun v5 v6 wr => ∃ (h l a b c d : Nat) (o : Bool), v5 = .int .i64 h ∧ v6 = .int .i64 l ∧ Hid (Wh.LkI H L h l a b c d o ex) ∧ Hid (SM wr (w.heap.size + 1) a b c d o ∧ SM wr w.heap.size 0 0 0 0 false ∧ Below w.heap.size w wr ∧ w.heap.size + 1 < wr.heap.size)) (fun _ v6 _ => (intOf v6).toNat)
  case atStart => exact ⟨H, L, 1, 0, 0, 1, false, rfl, rfl, H0, HM⟩
  case round =>
    clear HM H0
    obtain ⟨h, l, a, b, c, d, o, rfl, rfl, HSS, HM⟩ := hrel
    by_cases hc : 0 < l ∧ l ≤ h
    · obtain ⟨hc1, hc2⟩ := hc
      have g1 : decide (0 < (l : Int)) = true := by simp; omega
      have g2 : decide ((l : Int) ≤ (h : Int)) = true := by simp; omega
      have gz : ((l : Int) == 0) = false := by rw [beq_eq_false_iff_ne]; omega
      obtain ⟨room1, room2, room3, room4, room5⟩ := HSS.out.room hc1 hc2
      have hHL := HBD0.out
      have HN := Lib.hid (fun h1 h2 h3 => HSS.out.next hc1 hc2 h1 h2 h3)
      have bd4 : a < 1000000000 ∧ b < 1000000000 ∧ c < 1000000000 ∧ d < 1000000000 := ⟨HSS.out.la, HSS.out.lb, HSS.out.lc, HSS.out.ld⟩
      obtain ⟨q, hq⟩ : ∃ q, q = h / l := ⟨_, rfl⟩
      obtain ⟨r, hr⟩ : ∃ r, r = h % l := ⟨_, rfl⟩
      have hrl : r < l := by rw [hr]; exact Nat.mod_lt _ hc1
      rw [← hq] at room2 room3 room4 room5
      rw [← hq, ← hr] at HN
      have hqi : (h : Int) / (l : Int) = (q : Int) := by rw [hq]; exact (Int.natCast_ediv _ _).symm
      have hri : (h : Int) % (l : Int) = (r : Int) := by rw [hr]; exact (Int.natCast_emod _ _).symm
      have HBD := Lib.hid (And.intro (And.intro (show h < 1000000000000000000 by omega) (show l < 1000000000000000000 by omega)) (And.intro (show a + q * c < 1000000000000000000 by omega) (And.intro (show b + q * d < 1000000000000000000 by omega) (And.intro bd4 (And.intro hrl (show q < 1000000000000000000 by omega))))))
      have hq18 : q < 1000000000000000000 := HBD.out.2.2.2.2.2
      have hh18 : h < 1000000000000000000 := HBD.out.1.1
      clear hq hr room1 room2 room3 room4 room5 bd4 hHL
      go_wp2_with fail
      go_quiet (fail)
      go_wp2_with fail
      rw [hri]
      have hdx := below_drewN wr.heap.size wr nq
      have HMX : Hid (SM (wr.drewN nq) (w.heap.size + 1) a b c d o ∧ SM (wr.drewN nq) w.heap.size 0 0 0 0 false ∧ Below w.heap.size w (wr.drewN nq) ∧ w.heap.size + 1 < (wr.drewN nq).heap.size) := Lib.hid ⟨HM.out.1.mono hdx HM.out.2.2.2, HM.out.2.1.mono hdx (by have := HM.out.2.2.2; omega), HM.out.2.2.1.trans (hdx.mono HM.out.2.2.1.size), Nat.lt_of_lt_of_le HM.out.2.2.2 hdx.size⟩
      clear hdx HM
      generalize wr.drewN nq = X at *
      have c0 := HMX.out.1.c0; have c1 := HMX.out.1.c1; have c2 := HMX.out.1.c2; have c3 := HMX.out.1.c3; have c4 := HMX.out.1.c4
      clear hqi hri g1 g2 gz hc1 hc2 hrl hq18 hh18
      go_quiet (fail)
      obtain ⟨x', hx'⟩ : ∃ x', x' = a + q * c := ⟨_, rfl⟩
      obtain ⟨y', hy'⟩ : ∃ y', y' = b + q * d := ⟨_, rfl⟩
      have hw1 : wrap64 ((a : Int) + wrap64 ((q : Int) * (c : Int))) = (x' : Int) := by rw [hx']; exact wrap_lin18 HBD.out.2.1
      have hw2 : wrap64 ((b : Int) + wrap64 ((q : Int) * (d : Int))) = (y' : Int) := by rw [hy']; exact wrap_lin18 HBD.out.2.2.1
      rw [hw1, hw2]
      have HXY := Lib.hid (And.intro HBD.out.2.1 HBD.out.2.2.1)
      rw [← hx', ← hy'] at HN HXY
      clear hx' hy' hw1 hw2 c0 c1 c2 c3 c4
      have hdy := below_drewN X.heap.size X nq
      have HMY : Hid (SM (X.drewN nq) (w.heap.size + 1) a b c d o ∧ SM (X.drewN nq) w.heap.size 0 0 0 0 false ∧ Below w.heap.size w (X.drewN nq) ∧ w.heap.size + 1 < (X.drewN nq).heap.size) := Lib.hid ⟨HMX.out.1.mono hdy HMX.out.2.2.2, HMX.out.2.1.mono hdy (by have := HMX.out.2.2.2; omega), HMX.out.2.2.1.trans (hdy.mono HMX.out.2.2.1.size), Nat.lt_of_lt_of_le HMX.out.2.2.2 hdy.size⟩
      clear hdy HMX
      generalize X.drewN nq = Y at *
      have c0 := HMY.out.1.c0; have c1 := HMY.out.1.c1; have c2 := HMY.out.1.c2; have c3 := HMY.out.1.c3; have c4 := HMY.out.1.c4
      have hd9 : d < 1000000000 := HBD.out.2.2.2.1.2.2.2
      have hy18 : y' < 1000000000000000000 := HXY.out.2
      have hl18 : l < 1000000000000000000 := HBD.out.1.2
      have hrl : r < l := HBD.out.2.2.2.2.1
      by_cases hgo : x' < 1000000000 ∧ y' < 1000000000 ∧ (ex = false → y' ≤ r ∧ r + (d + y') ≤ l)
      · have HN' := Lib.hid (HN.out hgo.1 hgo.2.1 hgo.2.2)
        have f0 := HMY.out.1.f 0 (by decide); have f1 := HMY.out.1.f 1 (by decide); have f2 := HMY.out.1.f 2 (by decide); have f3 := HMY.out.1.f 3 (by decide); have f4 := HMY.out.1.f 4 (by decide)
        have g3 : decide (1000000000 ≤ (x' : Int)) = false := by rw [decide_eq_false_iff_not]; omega
        have g4 : decide (1000000000 ≤ (y' : Int)) = false := by rw [decide_eq_false_iff_not]; omega
        have hm : ((r : Nat) : Int).toNat < ((l : Nat) : Int).toNat := by omega
        cases ex with
        | true =>
          clear hgo hrl
          go_wp2_with fail
          exact ⟨⟨l, r, c, d, x', y', !o, rfl, rfl, HN', Lib.hid ⟨HMY.out.1.put c d x' y' (!o), HMY.out.2.1.far (by omega) c d x' y' (!o), below_put5 HMY.out.2.2.1 (by omega) _ _ _ _ _, by simpa using HMY.out.2.2.2⟩⟩, hm⟩
        | false =>
          obtain ⟨z1, z2⟩ := hgo.2.2 rfl
          have g5 : decide ((r : Int) < (y' : Int)) = false := by rw [decide_eq_false_iff_not]; omega
          have g6 : decide ((l : Int) - (r : Int) < (d : Int) + (y' : Int)) = false := by rw [decide_eq_false_iff_not]; omega
          clear hgo
          go_wp2_with fail
          exact ⟨⟨l, r, c, d, x', y', !o, rfl, rfl, HN', Lib.hid ⟨HMY.out.1.put c d x' y' (!o), HMY.out.2.1.far (by omega) c d x' y' (!o), below_put5 HMY.out.2.2.1 (by omega) _ _ _ _ _, by simpa using HMY.out.2.2.2⟩⟩, hm⟩
      · have HP := Lib.hid (HMY.out.2.1.put a b c d o)
        have e0 := HMY.out.2.1.c0; have e1 := HMY.out.2.1.c1; have e2 := HMY.out.2.1.c2; have e3 := HMY.out.2.1.c3; have e4 := HMY.out.2.1.c4
        have f0 := HMY.out.2.1.f 0 (by decide); have f1 := HMY.out.2.1.f 1 (by decide); have f2 := HMY.out.2.1.f 2 (by decide); have f3 := HMY.out.2.1.f 3 (by decide); have f4 := HMY.out.2.1.f 4 (by decide)
        have HB5 : Hid (Below w.heap.size w _) := Lib.hid (below_put5 HMY.out.2.2.1 (Nat.le_refl w.heap.size) (.int .i64 (a : Nat)) (.int .i64 (b : Nat)) (.int .i64 (c : Nat)) (.int .i64 (d : Nat)) (.bool o))
        clear HMY HN
        by_cases k1 : 1000000000 ≤ x'
        · have g3 : decide (1000000000 ≤ (x' : Int)) = true := by rw [decide_eq_true_iff]; omega
          clear hgo
          go_wp2_with fail
          have p0 := HP.out.c0; have p1 := HP.out.c1; have p2 := HP.out.c2; have p3 := HP.out.c3; have p4 := HP.out.c4
          exact bodyPost_ret (v := .agg #[.int .i64 (a : Nat), .int .i64 (b : Nat), .int .i64 (c : Nat), .int .i64 (d : Nat), .bool o]) (by simp [results, Tryz.results263, go_sem, p0, p1, p2, p3, p4]) rfl ⟨⟨h, l, a, b, c, d, o, HSS.out, rfl⟩, HB5.out⟩
        · have g3 : decide (1000000000 ≤ (x' : Int)) = false := by rw [decide_eq_false_iff_not]; omega
          by_cases k2 : 1000000000 ≤ y'
          · have g4 : decide (1000000000 ≤ (y' : Int)) = true := by rw [decide_eq_true_iff]; omega
            clear hgo
            go_wp2_with fail
            have p0 := HP.out.c0; have p1 := HP.out.c1; have p2 := HP.out.c2; have p3 := HP.out.c3; have p4 := HP.out.c4
            exact bodyPost_ret (v := .agg #[.int .i64 (a : Nat), .int .i64 (b : Nat), .int .i64 (c : Nat), .int .i64 (d : Nat), .bool o]) (by simp [results, Tryz.results263, go_sem, p0, p1, p2, p3, p4]) rfl ⟨⟨h, l, a, b, c, d, o, HSS.out, rfl⟩, HB5.out⟩
          · have g4 : decide (1000000000 ≤ (y' : Int)) = false := by rw [decide_eq_false_iff_not]; omega
            obtain rfl : ex = false := by
              cases ex
              · rfl
              · exact absurd ⟨by omega, by omega, fun e => by cases e⟩ hgo
            by_cases k3 : y' ≤ r
            · have k4 : ¬ r + (d + y') ≤ l := fun e => hgo ⟨by omega, by omega, fun _ => ⟨k3, e⟩⟩
              have g5 : decide ((r : Int) < (y' : Int)) = false := by rw [decide_eq_false_iff_not]; omega
              have g6 : decide ((l : Int) - (r : Int) < (d : Int) + (y' : Int)) = true := by rw [decide_eq_true_iff]; omega
              clear hgo
              go_wp2_with fail
              have p0 := HP.out.c0; have p1 := HP.out.c1; have p2 := HP.out.c2; have p3 := HP.out.c3; have p4 := HP.out.c4
              exact bodyPost_ret (v := .agg #[.int .i64 (a : Nat), .int .i64 (b : Nat), .int .i64 (c : Nat), .int .i64 (d : Nat), .bool o]) (by simp [results, Tryz.results263, go_sem, p0, p1, p2, p3, p4]) rfl ⟨⟨h, l, a, b, c, d, o, HSS.out, rfl⟩, HB5.out⟩
            · have g5 : decide ((r : Int) < (y' : Int)) = true := by rw [decide_eq_true_iff]; omega
              clear hgo
              go_wp2_with fail
              have p0 := HP.out.c0; have p1 := HP.out.c1; have p2 := HP.out.c2; have p3 := HP.out.c3; have p4 := HP.out.c4
              exact bodyPost_ret (v := .agg #[.int .i64 (a : Nat), .int .i64 (b : Nat), .int .i64 (c : Nat), .int .i64 (d : Nat), .bool o]) (by simp [results, Tryz.results263, go_sem, p0, p1, p2, p3, p4]) rfl ⟨⟨h, l, a, b, c, d, o, HSS.out, rfl⟩, HB5.out⟩
    · have HC := Lib.hid hc
      have HP := Lib.hid (HM.out.2.1.put a b c d o)
      have c0 := HM.out.1.c0; have c1 := HM.out.1.c1; have c2 := HM.out.1.c2; have c3 := HM.out.1.c3; have c4 := HM.out.1.c4
      have e0 := HM.out.2.1.c0; have e1 := HM.out.2.1.c1; have e2 := HM.out.2.1.c2; have e3 := HM.out.2.1.c3; have e4 := HM.out.2.1.c4
      have f0 := HM.out.2.1.f 0 (by decide); have f1 := HM.out.2.1.f 1 (by decide); have f2 := HM.out.2.1.f 2 (by decide); have f3 := HM.out.2.1.f 3 (by decide); have f4 := HM.out.2.1.f 4 (by decide)
      have HB5 : Hid (Below w.heap.size w _) := Lib.hid (below_put5 HM.out.2.2.1 (Nat.le_refl w.heap.size) (.int .i64 (a : Nat)) (.int .i64 (b : Nat)) (.int .i64 (c : Nat)) (.int .i64 (d : Nat)) (.bool o))
      clear HM
      by_cases hl0 : l = 0
      · clear hc
        subst hl0
        go_wp2_with fail
        have p0 := HP.out.c0; have p1 := HP.out.c1; have p2 := HP.out.c2; have p3 := HP.out.c3; have p4 := HP.out.c4
        exact bodyPost_ret (v := .agg #[.int .i64 (a : Nat), .int .i64 (b : Nat), .int .i64 (c : Nat), .int .i64 (d : Nat), .bool o]) (by simp [results, Tryz.results263, go_sem, p0, p1, p2, p3, p4]) rfl ⟨⟨h, 0, a, b, c, d, o, HSS.out, rfl⟩, HB5.out⟩
      · have g1 : decide (0 < (l : Int)) = true := by rw [decide_eq_true_iff]; omega
        have g2 : decide ((l : Int) ≤ (h : Int)) = false := by rw [decide_eq_false_iff_not]; omega
        have n1 : 0 < l := by omega
        have n2 : ¬ l ≤ h := by omega
        have n3 : h < l := by omega
        clear hl0 hc
        go_wp2_with fail
        have p0 := HP.out.c0; have p1 := HP.out.c1; have p2 := HP.out.c2; have p3 := HP.out.c3; have p4 := HP.out.c4
        exact bodyPost_ret (v := .agg #[.int .i64 (a : Nat), .int .i64 (b : Nat), .int .i64 (c : Nat), .int .i64 (d : Nat), .bool o]) (by simp [results, Tryz.results263, go_sem, p0, p1, p2, p3, p4]) rfl ⟨⟨h, l, a, b, c, d, o, HSS.out, rfl⟩, HB5.out⟩
end Go.Proofs.YteaeloeebfdodaaGreatDoor
