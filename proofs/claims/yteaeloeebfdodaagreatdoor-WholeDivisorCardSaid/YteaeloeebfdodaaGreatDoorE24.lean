/- Part 24 of the proofs that laws of package whole answer true at every input and leave the input as it was, where the library's variables start as the text lays them (the texts G11, M16, G12). -/
import Derived.Test.YteaeloeebfdodaaGreatDoorE20
import Derived.Test.YteaeloeebfdodaaGreatDoorE22
import Derived.Test.YteaeloeebfdodaaGreatDoorE23
import Derived.Test.YteaeloeebfdodaaGreatDoorE16
set_option linter.unusedVariables false
set_option linter.unusedSimpArgs false
/- WALKS, the divisor 11: Euclid's algorithm, at any numbers. -/
namespace Go.Proofs.YteaeloeebfdodaaGreatDoor
open Go.RowKit
/-- the number of the walk's second slice, read out of memory -/
def nextOf (w : World) (wb : Nat) : Nat := match w.cell? ⟨wb, 1, none⟩ with
  | some (.slice (some p) n _) => Wh.val ((List.range n).map fun i => match w.cell? ⟨p.block, p.off + i, none⟩ with | some (.int _ z) => z.toNat | _ => 0)
  | _ => 0
theorem nextOf_is {w : World} {wb N : Nat} (h : SlAt w wb 1 N) : nextOf w wb = N := by
  obtain ⟨a, c, h0, h1⟩ := h
  rcases h1 with ⟨hl, he⟩ | ⟨b, off, cap, he, _, _, hc⟩
  · have : N = 0 := by rw [← Wh.val_limbs N, hl]; rfl
    unfold nextOf
    rw [h0, he, this]
  · unfold nextOf
    rw [h0, he]
    show Wh.val _ = N
    have e : ((List.range (Wh.limbs N).length).map fun i => match w.cell? ⟨b, off + i, none⟩ with | some (.int _ z) => z.toNat | _ => 0) = Wh.limbs N := by
      apply List.ext_getElem
      · simp
      · intro i h2 h3
        rw [List.getElem_map, List.getElem_range, hc i h3]
        simp [List.getD, h3]
    rw [e, Wh.val_limbs]
theorem high_low (n t : Nat) : n = Wh.val ((Wh.limbs n).drop t) * Wh.R ^ t + Wh.val ((Wh.limbs n).take t) ∧ Wh.val ((Wh.limbs n).take t) < Wh.R ^ t := by
  constructor
  · by_cases h : t ≤ (Wh.limbs n).length
    · have := Wh.val_take_drop (Wh.limbs n) t h
      rw [Wh.val_limbs] at this
      rw [Nat.mul_comm]; omega
    · rw [List.drop_of_length_le (by omega), List.take_of_length_le (by omega), Wh.val_limbs]
      simp [Wh.val]
  · have h1 := Wh.val_lt (l := (Wh.limbs n).take t) (fun y hy => Wh.ok_limbs n y (List.mem_of_mem_take hy))
    have h2 : Wh.R ^ ((Wh.limbs n).take t).length ≤ Wh.R ^ t := Nat.pow_le_pow_right (by decide) (by rw [List.length_take]; omega)
    omega
/-- look: no step, or several -/
theorem look_any (w : World) (wb R N : Nat) (hr : SlAt w wb 0 R) (hn : SlAt w wb 1 N) (hlt : wb < w.heap.size) (hR : (Wh.limbs R).length ≤ 1000) (hN : (Wh.limbs N).length ≤ 1000) :
    Calls Tryz.prog 263 #[.pointer (some ⟨wb, 0, none⟩)] w fun e w' => (∃ (a b c d : Nat) (o : Bool), e = .returned (.agg #[.int .i64 (a : Nat), .int .i64 (b : Nat), .int .i64 (c : Nat), .int .i64 (d : Nat), .bool o]) ∧
      (a < 1000000000 ∧ b < 1000000000 ∧ c < 1000000000 ∧ d < 1000000000) ∧ (b ≠ 0 → ((o = false ∧ a * d = b * c + 1) ∨ (o = true ∧ b * c = a * d + 1)) ∧ ∃ R' N' : Nat, N' < R' ∧ R = d * R' + b * N' ∧ N = c * R' + a * N' ∧ 1 ≤ b ∧ 1 ≤ c ∧ a ≤ c ∧ b ≤ d)) ∧ Below w.heap.size w w' := by
  refine (look_gen w wb R N hr hn hlt (max ((Wh.limbs R).length - 2) ((Wh.limbs N).length - 2)) rfl (by omega) _ _ rfl rfl _ rfl).mono ?_
  generalize max ((Wh.limbs R).length - 2) ((Wh.limbs N).length - 2) = t
  rintro e w' ⟨⟨h, l, a, b, c, d, o, k, rfl⟩, hb⟩
  refine ⟨⟨a, b, c, d, o, rfl, ⟨k.la, k.lb, k.lc, k.ld⟩, fun hb0 => ⟨k.det, ?_⟩⟩, hb⟩
  obtain ⟨r1, r2⟩ := high_low R t
  obtain ⟨n1, n2⟩ := high_low N t
  obtain ⟨R', N', h1, h2, h3, h4⟩ := k.fin hb0 r2 n2 (fun e => by
    have : t = 0 := by simpa using e
    subst this
    exact ⟨rfl, rfl⟩)
  exact ⟨R', N', h1, by rw [← h2]; exact r1, by rw [← h3]; exact n1, h4⟩
theorem lim8 {x M : Nat} (h : x ≤ M) (hM : (Wh.limbs M).length < 8) : (Wh.limbs x).length < 8 := Nat.lt_of_le_of_lt (Wh.limbs_length_mono h) hM
set_option maxRecDepth 100000 in
set_option maxHeartbeats 2000000 in
theorem finish_gen (w : World) (wb a0 b0 M R0 N0 T0 A0 u0 v0 : Nat) (odd0 : Bool) (h : WK w wb R0 N0 T0 A0 odd0) (hE : Wh.EuI a0 b0 M R0 N0 T0 A0 u0 v0 odd0) (hb0 : b0 ≤ M) (hM : (Wh.limbs M).length < 8) :
    Calls Tryz.prog 195 #[.pointer (some ⟨wb, 0, none⟩)] w fun e w' => (∃ R T A u v odd, e = .returned (.tuple #[]) ∧ WK w' wb R 0 T A odd ∧ Wh.EuI a0 b0 M R 0 T A u v odd) ∧ Below wb w w' := by
  have H := Lib.hid h; clear h
  have HE := Lib.hid hE; clear hE
  go_enter Tryz.func195, Tryz.ntmps195
  go_wp2_with fail
  go_loopw [2] (fun _ wr => ∃ R N T A u v odd, Hid (WK wr wb R N T A odd ∧ Wh.EuI a0 b0 M R N T A u v odd) ∧ Hid (Below wb w wr)) (fun _ wr => nextOf wr wb)
  case atStart => exact ⟨_, _, _, _, _, _, _, Lib.hid ⟨H.out, HE.out⟩, Lib.hid (Below.refl _ _)⟩
  case round =>
    clear H HE
    obtain ⟨R, N, T, A, u, v, odd, HKE, HBR⟩ := hrel
    have HM := Lib.hid HKE.out.1
    have HEU := Lib.hid HKE.out.2
    clear HKE
    have HNX := Lib.hid (nextOf_is HM.out.n)
    obtain ⟨na, nc, n0, ns⟩ := HM.out.n
    by_cases hN : N = 0
    · subst hN
      rw [Wh.limbs_zero] at n0
      have n0 : wr.cell? ⟨wb, 1, none⟩ = some (.slice na 0 nc) := n0
      clear ns
      go_wp2
      go_end0
      exact ⟨⟨R, T, A, u, v, odd, rfl, HM.out, HEU.out⟩, HBR.out⟩
    · have hnl : 0 < (Wh.limbs N).length := by
        rcases Nat.eq_zero_or_pos (Wh.limbs N).length with h | h
        · exact absurd (by rw [← Wh.val_limbs N, List.length_eq_zero_iff.1 h]; rfl) hN
        · exact h
      have hRl := lim8 HEU.out.mR hM
      have hNl := lim8 HEU.out.mN hM
      have HLK := Lib.hid (look_any wr wb R N HM.out.r HM.out.n HM.out.lt (by omega) (by omega))
      have hd0 : decide ((0 : Int) < ((Wh.limbs N).length : Nat)) = true := by rw [decide_eq_true_iff]; omega
      clear ns
      go_wp2_with fail
      refine HLK.out.mono ?_
      rintro e W1 ⟨⟨a, b, c, d, o, rfl, hbd, hst⟩, hb1⟩
      have HST := Lib.hid (And.intro hbd hst); clear hbd hst
      have hM1 := HM.out.mono hb1
      have hal : Below W1.heap.size W1 (W1.alloc (Obj.cells #[.int .i64 (a : Nat), .int .i64 (b : Nat), .int .i64 (c : Nat), .int .i64 (d : Nat), .bool o] 260)) := (Below.refl _ _).alloc (Nat.le_refl _) _
      have hM2 := Lib.hid (hM1.mono hal)
      have hS2 : SM (W1.alloc (Obj.cells #[.int .i64 (a : Nat), .int .i64 (b : Nat), .int .i64 (c : Nat), .int .i64 (d : Nat), .bool o] 260)) W1.heap.size a b c d o := ⟨by go_simp; try rfl, by go_simp; try rfl, by go_simp; try rfl, by go_simp; try rfl, by go_simp; try rfl, fun i hi => by rcases (by omega : i = 0 ∨ i = 1 ∨ i = 2 ∨ i = 3 ∨ i = 4) with rfl | rfl | rfl | rfl | rfl <;> go_simp⟩
      have HB2 : Hid (Below wb w (W1.alloc (Obj.cells #[.int .i64 (a : Nat), .int .i64 (b : Nat), .int .i64 (c : Nat), .int .i64 (d : Nat), .bool o] 260))) := Lib.hid ((HBR.out.trans (hb1.mono (Nat.le_of_lt HM.out.lt))).trans (hal.mono (Nat.le_of_lt hM1.lt)))
      have HS2 := Lib.hid hS2
      have hl2 : W1.heap.size < (W1.alloc (Obj.cells #[.int .i64 (a : Nat), .int .i64 (b : Nat), .int .i64 (c : Nat), .int .i64 (d : Nat), .bool o] 260)).heap.size := by simp
      clear hM1 hal hS2 hb1 HM HBR n0 HLK hd0
      go_wp2_with fail
      generalize (W1.alloc (Obj.cells #[.int .i64 (a : Nat), .int .i64 (b : Nat), .int .i64 (c : Nat), .int .i64 (d : Nat), .bool o] 260)) = V at *
      obtain ⟨B, hB⟩ : ∃ B, B = W1.heap.size := ⟨_, rfl⟩
      rw [← hB] at HS2 hl2 ⊢
      clear hB
      refine (empty_any V a b c d _).mono ?_
      rintro e W2 ⟨rfl, hb2⟩
      have HM3 := Lib.hid (hM2.out.mono hb2)
      have HS3 := Lib.hid (HS2.out.mono hb2 hl2)
      have HB3 := Lib.hid (HB2.out.trans (hb2.mono (Nat.le_of_lt hM2.out.lt)))
      clear hM2 HS2 HB2 hb2 hl2
      by_cases hb0' : b = 0
      · have hbz : ((b : Int) == 0) = true := by rw [hb0']; rfl
        obtain ⟨hqa, hnew⟩ := HEU.out.step hb0 (Nat.pos_of_ne_zero hN)
        have HNW := Lib.hid hnew
        have HSTEP := Lib.hid (step_gen W2 wb R N T A odd HM3.out (Nat.pos_of_ne_zero hN) hRl (by have := lim8 HEU.out.mT hM; omega) (by have := lim8 HEU.out.mA hM; omega) (by have := lim8 (Nat.le_trans (Nat.div_le_self R N) HEU.out.mR) hM; omega) (by have := lim8 hqa hM; omega))
        have hms : R % N < N := Nat.mod_lt _ (Nat.pos_of_ne_zero hN)
        clear hqa hnew
        go_wp2_with fail
        refine HSTEP.out.mono ?_
        rintro e W3 ⟨rfl, hM4, hb4⟩
        have HM4 := Lib.hid hM4
        have HB4 := Lib.hid (HB3.out.trans hb4)
        clear hM4 hb4 HM3 HB3 HS3 HSTEP
        go_wp2
        refine ⟨⟨_, _, _, _, _, _, _, Lib.hid ⟨HM4.out, HNW.out⟩, HB4⟩, ?_⟩
        rw [nextOf_is HM4.out.n, HNX.out]
        exact hms
      · have hbz : ((b : Int) == 0) = false := by rw [beq_eq_false_iff_ne]; omega
        obtain ⟨hdet, R', N', hlt, hRR, hNN, k1, k2, k3, k4⟩ := HST.out.2 hb0'
        obtain ⟨hms, hRM, hnew⟩ := HEU.out.jump hb0 hRR hNN hlt hdet k1 k2 k3 k4
        have s0 := HS3.out.c0; have s1 := HS3.out.c1; have s2 := HS3.out.c2; have s3 := HS3.out.c3; have s4 := HS3.out.c4
        rcases hdet with ⟨rfl, hdt⟩ | ⟨rfl, hdt⟩
        · have hE2 := Wh.even_pair hRR hNN hdt
          have HJ := Lib.hid (jump_any W2 wb R N T A R' N' (a * T + b * A) (c * T + d * A) a b c d odd HM3.out HST.out.1.1 HST.out.1.2.1 HST.out.1.2.2.1 HST.out.1.2.2.2 (by omega) (by omega) (by have := lim8 HEU.out.mT hM; omega) (by have := lim8 HEU.out.mA hM; omega) (by simp) (by simp) hE2.1 hE2.2)
          have HNW : Hid (Wh.EuI a0 b0 M R' N' (a * T + b * A) (c * T + d * A) (b * v + a * u) (d * v + c * u) odd) := Lib.hid (by simpa using hnew)
          clear hE2 hnew hRR hNN hdt hRM
          go_wp2_with fail
          refine HJ.out.mono ?_
          rintro e W3 ⟨rfl, hM4, hb4⟩
          have HM4 := Lib.hid hM4
          have HB4 := Lib.hid (HB3.out.trans hb4)
          clear hM4 hb4 HM3 HB3 HS3 s0 s1 s2 s3 s4 HJ
          go_wp2
          refine ⟨⟨_, _, _, _, _, _, _, Lib.hid ⟨HM4.out, HNW.out⟩, HB4⟩, ?_⟩
          rw [nextOf_is HM4.out.n, HNX.out]
          exact hms
        · have hE2 := Wh.odd_pair hRR hNN hdt
          have HJ := Lib.hid (jump_odd W2 wb R N T A R' N' (a * T + b * A) (c * T + d * A) a b c d odd HM3.out HST.out.1.1 HST.out.1.2.1 HST.out.1.2.2.1 HST.out.1.2.2.2 (by omega) (by omega) (by have := lim8 HEU.out.mT hM; omega) (by have := lim8 HEU.out.mA hM; omega) (by simp) (by simp) hE2.1 hE2.2)
          have HNW : Hid (Wh.EuI a0 b0 M R' N' (a * T + b * A) (c * T + d * A) (b * v + a * u) (d * v + c * u) (!odd)) := Lib.hid (by simpa using hnew)
          clear hE2 hnew hRR hNN hdt hRM
          go_wp2_with fail
          refine HJ.out.mono ?_
          rintro e W3 ⟨rfl, hM4, hb4⟩
          have HM4 := Lib.hid hM4
          have HB4 := Lib.hid (HB3.out.trans hb4)
          clear hM4 hb4 HM3 HB3 HS3 s0 s1 s2 s3 s4 HJ
          go_wp2
          refine ⟨⟨_, _, _, _, _, _, _, Lib.hid ⟨HM4.out, HNW.out⟩, HB4⟩, ?_⟩
          rw [nextOf_is HM4.out.n, HNX.out]
          exact hms
end Go.Proofs.YteaeloeebfdodaaGreatDoor

/- MATH 16: the coefficients out of Euclid's algorithm. -/
namespace Wh
/-- what a greatest common divisor with its coefficients is -/
structure GcdOf (x y g v u : Int) : Prop where
  pos : 0 < g
  dx : g ∣ x
  dy : g ∣ y
  sum : x * v + y * u = g
  v0 : 0 ≤ v
  vlt : v * g < (y.natAbs : Int)
theorem gcd_out {x y : Int} {G T A u v M : Nat} {odd : Bool} (hy : y ≠ 0) (k : EuI x.natAbs y.natAbs M G 0 T A u v odd) {s t q w : Int} (hs : x.sign * (if odd then -1 else 1) = s) (ht : s * (T : Int) = t) (hq : t.fdiv (A : Int) = q) (hw : t.fmod (A : Int) = w) :
    0 < G ∧ 0 < A ∧ y.natAbs = A * G ∧ (x = 0 → T = 0) ∧ ((G : Int) - x * w).tmod y = 0 ∧ GcdOf x y G w (((G : Int) - x * w).tdiv y) ∧ (0 ≤ w ∧ w < A) := by
  have e1 : x.natAbs = v * G := by have := k.e1; omega
  have e2 : y.natAbs = A * G := by have := k.e2; omega
  have hy1 : 0 < y.natAbs := Int.natAbs_pos.2 hy
  have hG : 0 < G := by
    rcases Nat.eq_zero_or_pos G with h | h
    · rw [h] at e2; simp at e2; omega
    · exact h
  have hA : 0 < A := by
    rcases Nat.eq_zero_or_pos A with h | h
    · rw [h] at e2; simp at e2; omega
    · exact h
  have hT : x = 0 → T = 0 := fun h => by
    rcases k.z (by rw [h]; rfl) with ⟨h1, _⟩ | ⟨_, h1⟩
    · omega
    · exact h1
  have hw0 : 0 ≤ w := by rw [← hw]; exact Int.fmod_nonneg_of_pos t (by omega)
  have hw1 : w < A := by rw [← hw]; exact Int.fmod_lt_of_pos t (by omega)
  have hdm : (A : Int) * q + w = t := by rw [← hq, ← hw]; exact Int.mul_fdiv_add_fmod t A
  have hxs : x * x.sign = (x.natAbs : Int) := Int.mul_sign_self x
  have hys : y * y.sign = (y.natAbs : Int) := Int.mul_sign_self y
  have hxa : (x.natAbs : Int) = (v : Int) * G := by rw [e1]; simp
  have hya : (y.natAbs : Int) = (A : Int) * G := by rw [e2]; simp
  have hxx : x.sign * (x.natAbs : Int) = x := Int.sign_mul_natAbs x
  have hyy : y.sign * (y.natAbs : Int) = y := Int.sign_mul_natAbs y
  -- the difference is a multiple of y
  have hdvd : ∃ c : Int, (G : Int) - x * w = (y.natAbs : Int) * c := by
    have hw2 : w = t - (A : Int) * q := by omega
    rcases k.det with ⟨rfl, hd⟩ | ⟨rfl, hd⟩
    · have hd' : (T : Int) * v = (u : Int) * A + 1 := by rw [← Int.natCast_mul, hd]; simp
      have hxt : x * t = (T : Int) * x.natAbs := by rw [← ht, ← hs, ← hxs]; simp; grind
      refine ⟨x.sign * v * q - u, ?_⟩
      have h1 : x * w = x * t - x * ((A : Int) * q) := by rw [hw2, Int.mul_sub]
      rw [h1, hxt, hxa, hya]
      have h2 : x * ((A : Int) * q) = x.sign * ((v : Int) * G) * (A * q) := by rw [← hxa, hxx]
      rw [h2]
      have h3 : (T : Int) * ((v : Int) * G) = ((u : Int) * A + 1) * G := by rw [← hd']; grind
      rw [h3]
      grind
    · have hd' : (u : Int) * A = (T : Int) * v + 1 := by rw [← Int.natCast_mul, hd]; simp
      have hxt : x * t = -((T : Int) * x.natAbs) := by rw [← ht, ← hs, ← hxs]; simp; grind
      refine ⟨x.sign * v * q + u, ?_⟩
      have h1 : x * w = x * t - x * ((A : Int) * q) := by rw [hw2, Int.mul_sub]
      rw [h1, hxt, hxa, hya]
      have h2 : x * ((A : Int) * q) = x.sign * ((v : Int) * G) * (A * q) := by rw [← hxa, hxx]
      rw [h2]
      have h3 : (T : Int) * ((v : Int) * G) = ((u : Int) * A - 1) * G := by rw [hd']; grind
      rw [h3]
      grind
  obtain ⟨c, hc⟩ := hdvd
  have hdy : (G : Int) - x * w = y * (y.sign * c) := by rw [hc, ← hys]; grind
  have hmod : ((G : Int) - x * w).tmod y = 0 := by rw [hdy]; exact Int.mul_tmod_right ..
  have hdiv : ((G : Int) - x * w).tdiv y = y.sign * c := by rw [hdy]; exact Int.mul_tdiv_cancel_left _ hy
  refine ⟨hG, hA, e2, hT, hmod, ⟨by omega, ?_, ?_, ?_, hw0, ?_⟩, hw0, hw1⟩
  · exact ⟨x.sign * v, by rw [← Int.mul_assoc, Int.mul_comm (G : Int), Int.mul_assoc, Int.mul_comm (G : Int), ← hxa, hxx]⟩
  · exact ⟨y.sign * A, by rw [← Int.mul_assoc, Int.mul_comm (G : Int), Int.mul_assoc, Int.mul_comm (G : Int), ← hya, hyy]⟩
  · rw [hdiv, ← hdy]; omega
  · rw [hya]
    exact Int.mul_lt_mul_of_pos_right hw1 (by omega)
end Wh

/- WALKS, the divisor 12: Combine at any numbers. -/
namespace Go.Proofs.YteaeloeebfdodaaGreatDoor
open Go.RowKit
theorem side_any (w : World) (wb : Nat) (odd : Bool) (so : Int) (hso : so = if odd then -1 else 1) (h : w.cell? ⟨wb, 4, none⟩ = some (.bool odd)) : Calls Tryz.prog 198 #[.pointer (some ⟨wb, 0, none⟩)] w fun e w' => e = .returned (.int .i64 so) ∧ Below w.heap.size w w' := by
  subst hso
  cases odd with
  | true => exact side_below w wb h
  | false =>
    go_enter Tryz.func198, Tryz.ntmps198
    go_wp2
    go_ret
    exact ⟨rfl, Below.refl _ _⟩
theorem sgn_range (x : Int) : -1 ≤ x.sign ∧ x.sign ≤ 1 := by
  rcases Int.lt_trichotomy x 0 with h | h | h
  · rw [Int.sign_eq_neg_one_of_neg h]; decide
  · rw [h]; decide
  · rw [Int.sign_eq_one_of_pos h]; decide
/-- what is known of the numbers -/
structure CEg (x y g ys p r0 so ss t q1 v m d u r1 : Int) (G T : Nat) (odd : Bool) : Prop where
  so0 : so = if odd then -1 else 1
  so1 : -1 ≤ so ∧ so ≤ 1
  hss : x.sign * so = ss
  hg : (G : Int) = g
  lG : (Wh.limbs G).length ≤ 3
  g0 : 0 < g.natAbs
  hys : ys = (y.natAbs : Int)
  lys : (Wh.limbs ys.natAbs).length < 8
  hp : ys.tdiv g = p
  hr0 : ys.tmod g = r0
  lT : (Wh.limbs T).length ≤ 3
  ts : ss = -1 ∨ ss = 1 ∨ Wh.val (Wh.limbs T) = 0
  ht : ss * (T : Int) = t
  ft : Fit t
  fp : Fit p
  p0 : p ≠ 0
  hq1 : t.fdiv p = q1
  hv : t.fmod p = v
  lx : (Wh.limbs x.natAbs).length ≤ 3
  lv : (Wh.limbs v.natAbs).length ≤ 3
  hm : x * v = m
  fg : Fit g
  fm : Fit m
  hd : g - m = d
  ld : (Wh.limbs d.natAbs).length < 8
  y0 : 0 < y.natAbs
  hu : d.tdiv y = u
  hr1 : d.tmod y = r1
  fin : Wh.GcdOf x y g v u
theorem combine_math {x y g ys p r0 so ss t q1 v m d u r1 : Int} {G T A eu ev M : Nat} {odd : Bool} (hy : y ≠ 0) (hxM : x.natAbs ≤ M) (hyM : y.natAbs ≤ M) (hM : (Wh.limbs M).length ≤ 3) (k : Wh.EuI x.natAbs y.natAbs M G 0 T A eu ev odd)
    (hso : so = if odd then -1 else 1) (hss : x.sign * so = ss) (hg : (G : Int) = g) (hys : ys = (y.natAbs : Int)) (hp : ys.tdiv g = p) (hr0 : ys.tmod g = r0) (ht : ss * (T : Int) = t) (hq1 : t.fdiv p = q1) (hv : t.fmod p = v) (hm : x * v = m) (hd : g - m = d) (hu : d.tdiv y = u) (hr1 : d.tmod y = r1) :
    CEg x y g ys p r0 so ss t q1 v m d u r1 G T odd := by
  have hM3 : M < Wh.R ^ 3 := Nat.lt_of_lt_of_le (Wh.lt_pow_limbs M) (Nat.pow_le_pow_right (by decide) hM)
  have hR3 : Wh.R ^ 3 = 1000000000000000000000000000 := by decide
  have hR7 : Wh.R ^ 7 = 1000000000000000000000000000000000000000000000000000000000000000 := by decide
  have hR6 : Wh.R ^ 6 = 1000000000000000000000000000000000000000000000000000000 := by decide
  rw [hR3] at hM3
  have up3 : ∀ n : Nat, n ≤ M → (Wh.limbs n).length ≤ 3 := fun n h => Nat.le_trans (Wh.limbs_length_mono h) hM
  have hpA : p = (A : Int) := by
    have e2 : y.natAbs = A * G := by have := k.e2; omega
    have hG : G ≠ 0 := by intro h; rw [h] at e2; have := Int.natAbs_pos.2 hy; simp at e2; omega
    rw [← hp, hys, ← hg, e2, Int.natCast_mul]
    exact Int.mul_tdiv_cancel _ (by omega)
  subst hpA
  obtain ⟨hG, hA, hyA, hx0, hmod, hfin, hw0, hw1⟩ := Wh.gcd_out hy k (s := ss) (t := t) (q := q1) (w := v) (by rw [← hso]; exact hss) ht hq1 hv
  have hvM : v.natAbs ≤ M := by have := k.mA; omega
  have hxv : x.natAbs * v.natAbs ≤ 1000000000000000000000000000 * 1000000000000000000000000000 := Nat.mul_le_mul (by omega) (by omega)
  have hmn : m.natAbs = x.natAbs * v.natAbs := by rw [← hm, Int.natAbs_mul]
  have hGM := k.mR
  have htn : t.natAbs ≤ M := by
    have := k.mT
    have hs := sgn_range x
    have h1 : ss.natAbs ≤ 1 := by
      rw [← hss, Int.natAbs_mul, hso]
      have : x.sign.natAbs ≤ 1 := by omega
      cases odd <;> simpa using this
    rw [← ht, Int.natAbs_mul, Int.natAbs_natCast]
    have h2 : ss.natAbs * T ≤ 1 * T := Nat.mul_le_mul_right T h1
    omega
  refine ⟨hso, by cases odd <;> simp at hso <;> rw [hso] <;> decide, hss, hg, up3 G hGM, by omega, hys, ?_, hp, hr0, up3 T k.mT, ?_, ht, ?_, ?_, by omega, hq1, hv, up3 _ hxM, up3 _ hvM, hm, ?_, ?_, hd, ?_, by omega, hu, hr1, ?_⟩
  · have := up3 _ hyM; rw [hys, Int.natAbs_natCast]; omega
  · rcases Int.lt_trichotomy x 0 with h | h | h
    · rw [← hss, Int.sign_eq_neg_one_of_neg h, hso]; cases odd <;> simp
    · rw [hx0 h]; exact .inr (.inr (Wh.val_limbs 0))
    · rw [← hss, Int.sign_eq_one_of_pos h, hso]; cases odd <;> simp
  · have := up3 _ htn; unfold Fit; omega
  · have := up3 _ k.mA; unfold Fit; rw [Int.natAbs_natCast]; omega
  · have := up3 _ hGM; unfold Fit; rw [← hg, Int.natAbs_natCast]; omega
  · unfold Fit
    have : (Wh.limbs m.natAbs).length ≤ 7 := Wh.limbs_length_le (by rw [hR7, hmn]; omega)
    omega
  · have : (Wh.limbs d.natAbs).length ≤ 7 := Wh.limbs_length_le (by rw [hR7]; omega)
    omega
  · rw [← hu, ← hd, ← hm, ← hg]; exact hfin
/-- the memory of Combine -/
structure CSg (G T A : Nat) (odd : Bool) (w W : World) (x y : Int) (g v u : Option Int) : Prop where
  a : NumBox W (w.heap.size) x
  b : NumBox W (w.heap.size + 1) y
  g : BoxO W (w.heap.size + 1 + 1) g
  v : BoxO W (w.heap.size + 1 + 1 + 1) v
  u : BoxO W (w.heap.size + 1 + 1 + 1 + 1) u
  k : WK W (w.heap.size + 1 + 1 + 1 + 1 + 1 + 1) G 0 T A odd
  below : Below w.heap.size w W
theorem CSg.size {G T A : Nat} {odd : Bool} {w W : World} {x y : Int} {g v u : Option Int} (h : CSg G T A odd w W x y g v u) : w.heap.size + 6 < W.heap.size := h.k.lt
theorem CSg.mono {G T A : Nat} {odd : Bool} {w W W' : World} {x y : Int} {g v u : Option Int} (h : CSg G T A odd w W x y g v u) (hb : Below W.heap.size W W') : CSg G T A odd w W' x y g v u := by
  have hs := h.size
  exact ⟨h.a.mono hb (by omega), h.b.mono hb (by omega), h.g.mono hb (by omega), h.v.mono hb (by omega), h.u.mono hb (by omega), h.k.mono hb, h.below.trans (hb.mono h.below.size)⟩

theorem CSg.putG {G T A : Nat} {odd : Bool} {w W : World} {x y z : Int} {v u : Option Int} {a : Option Addr} {c : Nat} (h : CSg G T A odd w W x y none v u) (hs : Sl W (.slice a (Wh.limbs z.natAbs).length c) (Wh.limbs z.natAbs)) : CSg G T A odd w ((W.setCell ⟨w.heap.size + 1 + 1, 0, none⟩ (.int .i64 z.sign)).setCell ⟨w.heap.size + 1 + 1, 1, none⟩ (.slice a (Wh.limbs z.natAbs).length c)) x y (some z) v u :=
  ⟨h.a.farB h.g (by omega) _ _, h.b.farB h.g (by omega) _ _, Blank.putBox h.g hs, h.v.farB h.g (by omega) _ _, h.u.farB h.g (by omega) _ _, h.k.farB h.g (by omega) _ _, (h.below.setCell (show w.heap.size ≤ w.heap.size + 1 + 1 by omega) _).setCell (show w.heap.size ≤ w.heap.size + 1 + 1 by omega) _⟩
theorem CSg.putV {G T A : Nat} {odd : Bool} {w W : World} {x y z : Int} {g u : Option Int} {a : Option Addr} {c : Nat} (h : CSg G T A odd w W x y g none u) (hs : Sl W (.slice a (Wh.limbs z.natAbs).length c) (Wh.limbs z.natAbs)) : CSg G T A odd w ((W.setCell ⟨w.heap.size + 1 + 1 + 1, 0, none⟩ (.int .i64 z.sign)).setCell ⟨w.heap.size + 1 + 1 + 1, 1, none⟩ (.slice a (Wh.limbs z.natAbs).length c)) x y g (some z) u :=
  ⟨h.a.farB h.v (by omega) _ _, h.b.farB h.v (by omega) _ _, h.g.farB h.v (by omega) _ _, Blank.putBox h.v hs, h.u.farB h.v (by omega) _ _, h.k.farB h.v (by omega) _ _, (h.below.setCell (show w.heap.size ≤ w.heap.size + 1 + 1 + 1 by omega) _).setCell (show w.heap.size ≤ w.heap.size + 1 + 1 + 1 by omega) _⟩
theorem CSg.putU {G T A : Nat} {odd : Bool} {w W : World} {x y z : Int} {g v : Option Int} {a : Option Addr} {c : Nat} (h : CSg G T A odd w W x y g v none) (hs : Sl W (.slice a (Wh.limbs z.natAbs).length c) (Wh.limbs z.natAbs)) : CSg G T A odd w ((W.setCell ⟨w.heap.size + 1 + 1 + 1 + 1, 0, none⟩ (.int .i64 z.sign)).setCell ⟨w.heap.size + 1 + 1 + 1 + 1, 1, none⟩ (.slice a (Wh.limbs z.natAbs).length c)) x y g v (some z) :=
  ⟨h.a.farB h.u (by omega) _ _, h.b.farB h.u (by omega) _ _, h.g.farB h.u (by omega) _ _, h.v.farB h.u (by omega) _ _, Blank.putBox h.u hs, h.k.farB h.u (by omega) _ _, (h.below.setCell (show w.heap.size ≤ w.heap.size + 1 + 1 + 1 + 1 by omega) _).setCell (show w.heap.size ≤ w.heap.size + 1 + 1 + 1 + 1 by omega) _⟩
def CAg (B : Nat) (y g ys p r0 : Int) : Nat → Value → World → Prop
  | 0, v, w => Num w v y
  | 1, v, w => Num w v ys
  | 2, v, w => Num w v g
  | 3, v, w | 4, v, w => ∃ vq vr, v = .tuple #[vq, vr] ∧ Num w vq p ∧ Num w vr r0
  | 5, v, w => Num w v p
  | 6, v, w => Num w v r0
  | 7, v, w | 8, v, w => Fresh B w v
  | _, v, _ => v = .bool true
theorem CA_staysg (B : Nat) (y g ys p r0 : Int) : ∀ i v w w', CAg B y g ys p r0 i v w → Below w.heap.size w w' → CAg B y g ys p r0 i v w' := by
  intro i v w w' h hb
  match i, h with
  | 0, h | 1, h | 2, h | 5, h | 6, h => exact Num.mono h hb
  | 3, h | 4, h => obtain ⟨p, q, e, h1, h2⟩ := h; exact ⟨p, q, e, h1.mono hb, h2.mono hb⟩
  | 7, h | 8, h => exact Fresh.mono h hb
  | _ + 9, h => exact h
theorem ca_oldg {B : Nat} {y g ys p r0 : Int} {w : World} : ∀ j u, CAg B y g ys p r0 j u w → ∀ c, u = .pointer (some ⟨c, 0, none⟩) → c < w.heap.size := by
  intro j u h c e
  match j, h with
  | 0, h | 1, h | 2, h | 5, h | 6, h => exact absurd e (num_np h _)
  | 3, h | 4, h => obtain ⟨p, q, e1, _, _⟩ := h; subst e; cases e1
  | 7, h | 8, h => exact fresh_old h c e
  | _ + 9, h => subst e; cases h
theorem CA_newg {B0 : Nat} {y g ys p r0 : Int} {w : World} (B : Nat) (hB : w.heap.size ≤ B) (j : Nat) (u : Value) (h : CAg B0 y g ys p r0 j u w) : Two2 (.pointer (some ⟨B, 0, none⟩)) u ∧ Two2 u (.pointer (some ⟨B, 0, none⟩)) := new_two ca_oldg B hB j u h
def CBg (s wb T : Nat) (xs so ss p t q1 vv : Int) : Nat → Value → World → Prop
  | 0, v, _ => v = .pointer (some ⟨s, 0, none⟩)
  | 1, v, _ => v = .int .i64 xs
  | 2, v, _ => v = .int .i64 so
  | 3, v, _ => v = .int .i64 ss
  | 4, v, _ => v = .pointer (some ⟨wb, 2, none⟩)
  | 5, v, w => SlV w v T
  | 6, v, w => Num w v t
  | 7, v, w => Num w v p
  | 8, v, w | 9, v, w => ∃ vq vr, v = .tuple #[vq, vr] ∧ Num w vq q1 ∧ Num w vr vv
  | 10, v, w => Num w v q1
  | 11, v, w => Num w v vv
  | _, _, _ => True
theorem CB_staysg (s wb T : Nat) (xs so ss p t q1 vv : Int) : ∀ i v w w', CBg s wb T xs so ss p t q1 vv i v w → Below w.heap.size w w' → CBg s wb T xs so ss p t q1 vv i v w' := by
  intro i v w w' h hb
  match i, h with
  | 0, h | 1, h | 2, h | 3, h | 4, h => exact h
  | 5, h => exact SlV.mono h hb
  | 6, h | 7, h | 10, h | 11, h => exact Num.mono h hb
  | 8, h | 9, h => obtain ⟨p, q, e, h1, h2⟩ := h; exact ⟨p, q, e, h1.mono hb, h2.mono hb⟩
  | _ + 12, h => trivial
def CCg (B : Nat) (x y g vv m d u r1 : Int) : Nat → Value → World → Prop
  | 0, v, w => Num w v g
  | 1, v, w => Num w v x
  | 2, v, w => Num w v vv
  | 3, v, w => ∃ (ab : Nat) (ea : Option Addr) (ec : Nat), v = .slice (some ⟨ab, 0, none⟩) 1 1 ∧ ab < w.heap.size ∧ B ≤ ab ∧ Holds w ab 0 vv.sign ea (Wh.limbs vv.natAbs).length ec vv
  | 4, v, w => Num w v m
  | 5, v, w => Num w v d
  | 6, v, w => Num w v y
  | 7, v, w | 8, v, w => ∃ vq vr, v = .tuple #[vq, vr] ∧ Num w vq u ∧ Num w vr r1
  | 9, v, w => Num w v u
  | 10, v, w => Num w v r1
  | _, _, _ => True
theorem CC_staysg (B : Nat) (x y g vv m d u r1 : Int) : ∀ i v w w', CCg B x y g vv m d u r1 i v w → Below w.heap.size w w' → CCg B x y g vv m d u r1 i v w' := by
  intro i v w w' h hb
  match i, h with
  | 0, h | 1, h | 2, h | 4, h | 5, h | 6, h | 9, h | 10, h => exact Num.mono h hb
  | 3, h => obtain ⟨ab, ea, ec, e, h1, h2, h3⟩ := h; exact ⟨ab, ea, ec, e, Nat.lt_of_lt_of_le h1 hb.size, h2, h3.mono h1 hb⟩
  | 7, h | 8, h => obtain ⟨p, q, e, h1, h2⟩ := h; exact ⟨p, q, e, h1.mono hb, h2.mono hb⟩
  | _ + 11, h => trivial

set_option maxRecDepth 100000 in
set_option maxHeartbeats 2000000 in
theorem combine_g (w : World) (x y : Int) (M : Nat) (hy0 : y ≠ 0) (hxM : x.natAbs ≤ M) (hyM : y.natAbs ≤ M) (hM : (Wh.limbs M).length ≤ 3) (xa ya : Option Addr) (xc yc : Nat) (hx : Sl w (.slice xa (Wh.limbs x.natAbs).length xc) (Wh.limbs x.natAbs)) (hy : Sl w (.slice ya (Wh.limbs y.natAbs).length yc) (Wh.limbs y.natAbs)) :
    Calls Tryz.prog 115 #[.agg #[.int .i64 x.sign, .slice xa (Wh.limbs x.natAbs).length xc], .agg #[.int .i64 y.sign, .slice ya (Wh.limbs y.natAbs).length yc]] w fun e w' => (∃ v1 v2 v3 g v u, e = .returned (.tuple #[v1, v2, v3]) ∧ Num w' v1 g ∧ Num w' v2 v ∧ Num w' v3 u ∧ Wh.GcdOf x y g v u) ∧ Below w.heap.size w w' := by
  have HX := Lib.hid hx; have HY := Lib.hid hy; clear hx hy
  have hys : (y.sign == 0) = false := by rw [beq_eq_false_iff_ne]; exact fun h => hy0 (Int.sign_eq_zero_iff_zero.1 h)
  have HPRE : Hid (y ≠ 0 ∧ x.natAbs ≤ M ∧ y.natAbs ≤ M ∧ (Wh.limbs M).length ≤ 3) := Lib.hid ⟨hy0, hxM, hyM, hM⟩
  have HST : Hid (Wh.EuI x.natAbs y.natAbs M x.natAbs y.natAbs 1 0 0 1 false) := Lib.hid (Wh.EuI.start hxM hyM (by have := Int.natAbs_pos.2 hy0; omega))
  clear hy0 hxM hyM hM
  go_enter Tryz.func115, Tryz.ntmps115
  go_wp2_with fail
  have hal : Below w.heap.size w (((((((w.alloc (Obj.cells #[.int .i64 x.sign, .slice xa (Wh.limbs x.natAbs).length xc] 83)).alloc (Obj.cells #[.int .i64 y.sign, .slice ya (Wh.limbs y.natAbs).length yc] 83)).alloc (Obj.cells #[.int .i64 0, .slice none 0 0] 83)).alloc (Obj.cells #[.int .i64 0, .slice none 0 0] 83)).alloc (Obj.cells #[.int .i64 0, .slice none 0 0] 83)).alloc (Obj.cells #[.int .u32 1] 181)).alloc (Obj.cells #[.slice xa (Wh.limbs x.natAbs).length xc, .slice ya (Wh.limbs y.natAbs).length yc, .slice (some ⟨w.heap.size + 1 + 1 + 1 + 1 + 1, 0, none⟩) 1 1, .slice none 0 0, .bool false] 194)) := ((((((Below.refl _ _).alloc (Nat.le_refl _) _).alloc (by simp) _).alloc (by simp; omega) _).alloc (by simp; omega) _).alloc (by simp; omega) _).alloc (by simp; omega) _ |>.alloc (by simp; omega) _
  have hx0 : (((((((((w.alloc (Obj.cells #[.int .i64 x.sign, .slice xa (Wh.limbs x.natAbs).length xc] 83)).alloc (Obj.cells #[.int .i64 y.sign, .slice ya (Wh.limbs y.natAbs).length yc] 83)).alloc (Obj.cells #[.int .i64 0, .slice none 0 0] 83)).alloc (Obj.cells #[.int .i64 0, .slice none 0 0] 83)).alloc (Obj.cells #[.int .i64 0, .slice none 0 0] 83)).alloc (Obj.cells #[.int .u32 1] 181)).alloc (Obj.cells #[.slice xa (Wh.limbs x.natAbs).length xc, .slice ya (Wh.limbs y.natAbs).length yc, .slice (some ⟨w.heap.size + 1 + 1 + 1 + 1 + 1, 0, none⟩) 1 1, .slice none 0 0, .bool false] 194))).cell? ⟨w.heap.size, 0, none⟩ = some (.int .i64 x.sign) ∧ ((((((((w.alloc (Obj.cells #[.int .i64 x.sign, .slice xa (Wh.limbs x.natAbs).length xc] 83)).alloc (Obj.cells #[.int .i64 y.sign, .slice ya (Wh.limbs y.natAbs).length yc] 83)).alloc (Obj.cells #[.int .i64 0, .slice none 0 0] 83)).alloc (Obj.cells #[.int .i64 0, .slice none 0 0] 83)).alloc (Obj.cells #[.int .i64 0, .slice none 0 0] 83)).alloc (Obj.cells #[.int .u32 1] 181)).alloc (Obj.cells #[.slice xa (Wh.limbs x.natAbs).length xc, .slice ya (Wh.limbs y.natAbs).length yc, .slice (some ⟨w.heap.size + 1 + 1 + 1 + 1 + 1, 0, none⟩) 1 1, .slice none 0 0, .bool false] 194))).cell? ⟨w.heap.size, 1, none⟩ = some (.slice xa (Wh.limbs x.natAbs).length xc)) ∧ ((((((((w.alloc (Obj.cells #[.int .i64 x.sign, .slice xa (Wh.limbs x.natAbs).length xc] 83)).alloc (Obj.cells #[.int .i64 y.sign, .slice ya (Wh.limbs y.natAbs).length yc] 83)).alloc (Obj.cells #[.int .i64 0, .slice none 0 0] 83)).alloc (Obj.cells #[.int .i64 0, .slice none 0 0] 83)).alloc (Obj.cells #[.int .i64 0, .slice none 0 0] 83)).alloc (Obj.cells #[.int .u32 1] 181)).alloc (Obj.cells #[.slice xa (Wh.limbs x.natAbs).length xc, .slice ya (Wh.limbs y.natAbs).length yc, .slice (some ⟨w.heap.size + 1 + 1 + 1 + 1 + 1, 0, none⟩) 1 1, .slice none 0 0, .bool false] 194))).frozen? ⟨w.heap.size, 0, none⟩ = false ∧ ((((((((w.alloc (Obj.cells #[.int .i64 x.sign, .slice xa (Wh.limbs x.natAbs).length xc] 83)).alloc (Obj.cells #[.int .i64 y.sign, .slice ya (Wh.limbs y.natAbs).length yc] 83)).alloc (Obj.cells #[.int .i64 0, .slice none 0 0] 83)).alloc (Obj.cells #[.int .i64 0, .slice none 0 0] 83)).alloc (Obj.cells #[.int .i64 0, .slice none 0 0] 83)).alloc (Obj.cells #[.int .u32 1] 181)).alloc (Obj.cells #[.slice xa (Wh.limbs x.natAbs).length xc, .slice ya (Wh.limbs y.natAbs).length yc, .slice (some ⟨w.heap.size + 1 + 1 + 1 + 1 + 1, 0, none⟩) 1 1, .slice none 0 0, .bool false] 194))).frozen? ⟨w.heap.size, 1, none⟩ = false := ⟨⟨by go_simp, by go_simp⟩, by go_simp, by go_simp⟩
  have hy0 : (((((((((w.alloc (Obj.cells #[.int .i64 x.sign, .slice xa (Wh.limbs x.natAbs).length xc] 83)).alloc (Obj.cells #[.int .i64 y.sign, .slice ya (Wh.limbs y.natAbs).length yc] 83)).alloc (Obj.cells #[.int .i64 0, .slice none 0 0] 83)).alloc (Obj.cells #[.int .i64 0, .slice none 0 0] 83)).alloc (Obj.cells #[.int .i64 0, .slice none 0 0] 83)).alloc (Obj.cells #[.int .u32 1] 181)).alloc (Obj.cells #[.slice xa (Wh.limbs x.natAbs).length xc, .slice ya (Wh.limbs y.natAbs).length yc, .slice (some ⟨w.heap.size + 1 + 1 + 1 + 1 + 1, 0, none⟩) 1 1, .slice none 0 0, .bool false] 194))).cell? ⟨w.heap.size + 1, 0, none⟩ = some (.int .i64 y.sign) ∧ ((((((((w.alloc (Obj.cells #[.int .i64 x.sign, .slice xa (Wh.limbs x.natAbs).length xc] 83)).alloc (Obj.cells #[.int .i64 y.sign, .slice ya (Wh.limbs y.natAbs).length yc] 83)).alloc (Obj.cells #[.int .i64 0, .slice none 0 0] 83)).alloc (Obj.cells #[.int .i64 0, .slice none 0 0] 83)).alloc (Obj.cells #[.int .i64 0, .slice none 0 0] 83)).alloc (Obj.cells #[.int .u32 1] 181)).alloc (Obj.cells #[.slice xa (Wh.limbs x.natAbs).length xc, .slice ya (Wh.limbs y.natAbs).length yc, .slice (some ⟨w.heap.size + 1 + 1 + 1 + 1 + 1, 0, none⟩) 1 1, .slice none 0 0, .bool false] 194))).cell? ⟨w.heap.size + 1, 1, none⟩ = some (.slice ya (Wh.limbs y.natAbs).length yc)) ∧ ((((((((w.alloc (Obj.cells #[.int .i64 x.sign, .slice xa (Wh.limbs x.natAbs).length xc] 83)).alloc (Obj.cells #[.int .i64 y.sign, .slice ya (Wh.limbs y.natAbs).length yc] 83)).alloc (Obj.cells #[.int .i64 0, .slice none 0 0] 83)).alloc (Obj.cells #[.int .i64 0, .slice none 0 0] 83)).alloc (Obj.cells #[.int .i64 0, .slice none 0 0] 83)).alloc (Obj.cells #[.int .u32 1] 181)).alloc (Obj.cells #[.slice xa (Wh.limbs x.natAbs).length xc, .slice ya (Wh.limbs y.natAbs).length yc, .slice (some ⟨w.heap.size + 1 + 1 + 1 + 1 + 1, 0, none⟩) 1 1, .slice none 0 0, .bool false] 194))).frozen? ⟨w.heap.size + 1, 0, none⟩ = false ∧ ((((((((w.alloc (Obj.cells #[.int .i64 x.sign, .slice xa (Wh.limbs x.natAbs).length xc] 83)).alloc (Obj.cells #[.int .i64 y.sign, .slice ya (Wh.limbs y.natAbs).length yc] 83)).alloc (Obj.cells #[.int .i64 0, .slice none 0 0] 83)).alloc (Obj.cells #[.int .i64 0, .slice none 0 0] 83)).alloc (Obj.cells #[.int .i64 0, .slice none 0 0] 83)).alloc (Obj.cells #[.int .u32 1] 181)).alloc (Obj.cells #[.slice xa (Wh.limbs x.natAbs).length xc, .slice ya (Wh.limbs y.natAbs).length yc, .slice (some ⟨w.heap.size + 1 + 1 + 1 + 1 + 1, 0, none⟩) 1 1, .slice none 0 0, .bool false] 194))).frozen? ⟨w.heap.size + 1, 1, none⟩ = false := ⟨⟨by go_simp, by go_simp⟩, by go_simp, by go_simp⟩
  have hb2 : Blank ((((((((w.alloc (Obj.cells #[.int .i64 x.sign, .slice xa (Wh.limbs x.natAbs).length xc] 83)).alloc (Obj.cells #[.int .i64 y.sign, .slice ya (Wh.limbs y.natAbs).length yc] 83)).alloc (Obj.cells #[.int .i64 0, .slice none 0 0] 83)).alloc (Obj.cells #[.int .i64 0, .slice none 0 0] 83)).alloc (Obj.cells #[.int .i64 0, .slice none 0 0] 83)).alloc (Obj.cells #[.int .u32 1] 181)).alloc (Obj.cells #[.slice xa (Wh.limbs x.natAbs).length xc, .slice ya (Wh.limbs y.natAbs).length yc, .slice (some ⟨w.heap.size + 1 + 1 + 1 + 1 + 1, 0, none⟩) 1 1, .slice none 0 0, .bool false] 194))) (w.heap.size + 1 + 1) := ⟨by go_simp, by go_simp, by go_simp, by go_simp⟩
  have hb3 : Blank ((((((((w.alloc (Obj.cells #[.int .i64 x.sign, .slice xa (Wh.limbs x.natAbs).length xc] 83)).alloc (Obj.cells #[.int .i64 y.sign, .slice ya (Wh.limbs y.natAbs).length yc] 83)).alloc (Obj.cells #[.int .i64 0, .slice none 0 0] 83)).alloc (Obj.cells #[.int .i64 0, .slice none 0 0] 83)).alloc (Obj.cells #[.int .i64 0, .slice none 0 0] 83)).alloc (Obj.cells #[.int .u32 1] 181)).alloc (Obj.cells #[.slice xa (Wh.limbs x.natAbs).length xc, .slice ya (Wh.limbs y.natAbs).length yc, .slice (some ⟨w.heap.size + 1 + 1 + 1 + 1 + 1, 0, none⟩) 1 1, .slice none 0 0, .bool false] 194))) (w.heap.size + 1 + 1 + 1) := ⟨by go_simp, by go_simp, by go_simp, by go_simp⟩
  have hb4 : Blank ((((((((w.alloc (Obj.cells #[.int .i64 x.sign, .slice xa (Wh.limbs x.natAbs).length xc] 83)).alloc (Obj.cells #[.int .i64 y.sign, .slice ya (Wh.limbs y.natAbs).length yc] 83)).alloc (Obj.cells #[.int .i64 0, .slice none 0 0] 83)).alloc (Obj.cells #[.int .i64 0, .slice none 0 0] 83)).alloc (Obj.cells #[.int .i64 0, .slice none 0 0] 83)).alloc (Obj.cells #[.int .u32 1] 181)).alloc (Obj.cells #[.slice xa (Wh.limbs x.natAbs).length xc, .slice ya (Wh.limbs y.natAbs).length yc, .slice (some ⟨w.heap.size + 1 + 1 + 1 + 1 + 1, 0, none⟩) 1 1, .slice none 0 0, .bool false] 194))) (w.heap.size + 1 + 1 + 1 + 1) := ⟨by go_simp, by go_simp, by go_simp, by go_simp⟩
  have hk0 : WK ((((((((w.alloc (Obj.cells #[.int .i64 x.sign, .slice xa (Wh.limbs x.natAbs).length xc] 83)).alloc (Obj.cells #[.int .i64 y.sign, .slice ya (Wh.limbs y.natAbs).length yc] 83)).alloc (Obj.cells #[.int .i64 0, .slice none 0 0] 83)).alloc (Obj.cells #[.int .i64 0, .slice none 0 0] 83)).alloc (Obj.cells #[.int .i64 0, .slice none 0 0] 83)).alloc (Obj.cells #[.int .u32 1] 181)).alloc (Obj.cells #[.slice xa (Wh.limbs x.natAbs).length xc, .slice ya (Wh.limbs y.natAbs).length yc, .slice (some ⟨w.heap.size + 1 + 1 + 1 + 1 + 1, 0, none⟩) 1 1, .slice none 0 0, .bool false] 194))) (w.heap.size + 1 + 1 + 1 + 1 + 1 + 1) x.natAbs y.natAbs 1 0 false := ⟨⟨xa, xc, by go_simp, HX.out.mono hal⟩, ⟨ya, yc, by go_simp, HY.out.mono hal⟩, ⟨some ⟨w.heap.size + 1 + 1 + 1 + 1 + 1, 0, none⟩, 1, by rw [limbs_one_of (n := 1) (by decide)]; go_simp, by rw [limbs_one_of (n := 1) (by decide)]; exact .inr ⟨w.heap.size + 1 + 1 + 1 + 1 + 1, 0, 1, rfl, by decide, by simp, fun i hi => by obtain rfl : i = 0 := (by simpa using hi); go_simp⟩⟩, ⟨none, 0, by rw [Wh.limbs_zero]; go_simp, by rw [Wh.limbs_zero]; exact .inl ⟨rfl, rfl⟩⟩, by go_simp, fun i hi => by rcases (by omega : i = 0 ∨ i = 1 ∨ i = 2 ∨ i = 3 ∨ i = 4) with rfl | rfl | rfl | rfl | rfl <;> go_simp, by simp⟩
  have HFI := Lib.hid (finish_gen _ _ x.natAbs y.natAbs M _ _ _ _ _ _ _ hk0 HST.out HPRE.out.2.2.1 (by have := HPRE.out.2.2.2; omega))
  have HM0 := Lib.hid (And.intro (And.intro hx0 hy0) (And.intro hb2 (And.intro hb3 hb4)))
  have HAL := Lib.hid hal
  clear hal hx0 hy0 hb2 hb3 hb4 hk0
  generalize ((((((((w.alloc (Obj.cells #[.int .i64 x.sign, .slice xa (Wh.limbs x.natAbs).length xc] 83)).alloc (Obj.cells #[.int .i64 y.sign, .slice ya (Wh.limbs y.natAbs).length yc] 83)).alloc (Obj.cells #[.int .i64 0, .slice none 0 0] 83)).alloc (Obj.cells #[.int .i64 0, .slice none 0 0] 83)).alloc (Obj.cells #[.int .i64 0, .slice none 0 0] 83)).alloc (Obj.cells #[.int .u32 1] 181)).alloc (Obj.cells #[.slice xa (Wh.limbs x.natAbs).length xc, .slice ya (Wh.limbs y.natAbs).length yc, .slice (some ⟨w.heap.size + 1 + 1 + 1 + 1 + 1, 0, none⟩) 1 1, .slice none 0 0, .bool false] 194))) = U0 at *
  refine HFI.out.mono ?_
  rintro e W ⟨⟨G, T, A, eu, ev, odd, rfl, hk1, hEU⟩, hbk⟩
  obtain ⟨so, hso⟩ : ∃ z : Int, z = (if odd then -1 else 1) := ⟨_, rfl⟩
  obtain ⟨ss, hss⟩ : ∃ z : Int, x.sign * so = z := ⟨_, rfl⟩
  obtain ⟨g, hg⟩ : ∃ z : Int, (G : Int) = z := ⟨_, rfl⟩
  obtain ⟨ys, hys'⟩ : ∃ z : Int, z = (y.natAbs : Int) := ⟨_, rfl⟩
  obtain ⟨p, hp⟩ : ∃ z : Int, ys.tdiv g = z := ⟨_, rfl⟩
  obtain ⟨r0, hr0⟩ : ∃ z : Int, ys.tmod g = z := ⟨_, rfl⟩
  obtain ⟨t, ht⟩ : ∃ z : Int, ss * (T : Int) = z := ⟨_, rfl⟩
  obtain ⟨q1, hq1⟩ : ∃ z : Int, t.fdiv p = z := ⟨_, rfl⟩
  obtain ⟨vv, hvv⟩ : ∃ z : Int, t.fmod p = z := ⟨_, rfl⟩
  obtain ⟨m, hm⟩ : ∃ z : Int, x * vv = z := ⟨_, rfl⟩
  obtain ⟨d, hd⟩ : ∃ z : Int, g - m = z := ⟨_, rfl⟩
  obtain ⟨u, hu⟩ : ∃ z : Int, d.tdiv y = z := ⟨_, rfl⟩
  obtain ⟨r1, hr1⟩ : ∃ z : Int, d.tmod y = z := ⟨_, rfl⟩
  have HE : Hid (CEg x y g ys p r0 so ss t q1 vv m d u r1 G T odd) := Lib.hid (combine_math HPRE.out.1 HPRE.out.2.1 HPRE.out.2.2.1 HPRE.out.2.2.2 hEU hso hss hg hys' hp hr0 ht hq1 hvv hm hd hu hr1)
  clear hso hss hg hys' hp hr0 ht hq1 hvv hm hd hu hr1 hEU HST HPRE
  have hBW : Below w.heap.size w W := HAL.out.trans (hbk.mono (by omega))
  have hsz : w.heap.size + 6 < W.heap.size := hk1.lt
  obtain ⟨⟨⟨⟨cx0, cx1⟩, fx0, fx1⟩, ⟨⟨cy0, cy1⟩, fy0, fy1⟩⟩, B2, B3, B4⟩ := HM0.out
  have up : ∀ b i, b < w.heap.size + 1 + 1 + 1 + 1 + 1 + 1 → W.cell? ⟨b, i, none⟩ = U0.cell? ⟨b, i, none⟩ := fun b i h => hbk.cell (p := ⟨b, i, none⟩) h
  have uf : ∀ b i, b < w.heap.size + 1 + 1 + 1 + 1 + 1 + 1 → W.frozen? ⟨b, i, none⟩ = U0.frozen? ⟨b, i, none⟩ := fun b i h => hbk.frozen (p := ⟨b, i, none⟩) h
  have ub : ∀ b, b < w.heap.size + 1 + 1 + 1 + 1 + 1 + 1 → Blank U0 b → Blank W b := fun b h k => ⟨(up b 0 h).trans k.c0, (up b 1 h).trans k.c1, (uf b 0 h).trans k.f0, (uf b 1 h).trans k.f1⟩
  have hC : CSg G T A odd w W x y none none none := ⟨⟨⟨xa, xc, (up _ _ (by omega)).trans cx0, (up _ _ (by omega)).trans cx1, HX.out.mono hBW⟩, (uf _ _ (by omega)).trans fx0, (uf _ _ (by omega)).trans fx1⟩,
    ⟨⟨ya, yc, (up _ _ (by omega)).trans cy0, (up _ _ (by omega)).trans cy1, HY.out.mono hBW⟩, (uf _ _ (by omega)).trans fy0, (uf _ _ (by omega)).trans fy1⟩, ub _ (by omega) B2, ub _ (by omega) B3, ub _ (by omega) B4, hk1, hBW⟩
  have HC0 := Lib.hid hC
  clear up uf ub B2 B3 B4 cx0 cx1 fx0 fx1 cy0 cy1 fy0 fy1 hk1 hbk hBW hC hsz HM0 HAL HFI HX HY
  obtain ⟨ga, gc, g0, gs⟩ := HC0.out.k.r
  have hsgn : Hid (Calls Tryz.prog 191 #[.int .i64 1, .slice ga (Wh.limbs G).length gc] W fun e w' => (∃ v', e = .returned v' ∧ Num w' v' g) ∧ Below W.heap.size W w') := Lib.hid (by
    have h := signed_len 1 _ _ W (Wh.ok_limbs G) gs (Nat.le_trans HE.out.lG (by decide)) (.inr (.inl rfl))
    rw [Wh.val_limbs, show (1 : Int) * ((G : Nat) : Int) = g by rw [Int.one_mul]; exact HE.out.hg] at h
    exact h)
  clear gs
  go_wp2_with fail
  refine hsgn.out.mono ?_
  rintro e W1 ⟨⟨v1, rfl, hn1⟩, hb1⟩
  obtain ⟨s1, rfl, k1⟩ := hn1
  obtain ⟨p1, c1, rfl⟩ := k1.len
  have hC1 := HC0.out.mono hb1
  obtain ⟨t0, t1, tf0, tf1⟩ := (show Blank W1 _ from hC1.g)
  have HC1 := Lib.hid (hC1.putG k1)
  clear hC1 hb1 k1 hsgn HC0 g0
  go_wp2_with fail
  clear t0 t1 tf0 tf1
  have hX : ((W1.setCell ⟨w.heap.size + 1 + 1, 0, none⟩ (.int .i64 g.sign)).setCell ⟨w.heap.size + 1 + 1, 1, none⟩ (.slice p1 (Wh.limbs g.natAbs).length c1)).heap.size = W1.heap.size := by simp
  clear hX
  generalize ((W1.setCell ⟨w.heap.size + 1 + 1, 0, none⟩ (.int .i64 g.sign)).setCell ⟨w.heap.size + 1 + 1, 1, none⟩ (.slice p1 (Wh.limbs g.natAbs).length c1)) = V at *
  have HC := HC1; clear HC1
  refine wp_mono (Q := fun e a' W' => e = .normal ∧ (∃ (vals : Nat → Value) (b8 : Nat), a' = { tmps := #[.agg #[.int .i64 x.sign, .slice xa (Wh.limbs x.natAbs).length xc], .agg #[.int .i64 y.sign, .slice ya (Wh.limbs y.natAbs).length yc], .pointer (some ⟨w.heap.size, 0, none⟩), .pointer (some ⟨w.heap.size + 1, 0, none⟩), .pointer (some ⟨w.heap.size + 1 + 1, 0, none⟩), .pointer (some ⟨w.heap.size + 1 + 1 + 1, 0, none⟩), .pointer (some ⟨w.heap.size + 1 + 1 + 1 + 1, 0, none⟩), .pointer (some ⟨w.heap.size + 1 + 1 + 1 + 1 + 1 + 1, 0, none⟩), vals 7, vals 8, .pointer (some ⟨w.heap.size + 1, 0, none⟩), .int .i64 y.sign, .bool false, undef, undef, undef, undef, undef, undef, undef, .pointer (some ⟨w.heap.size, 1, none⟩), .slice xa (Wh.limbs x.natAbs).length xc, .pointer (some ⟨w.heap.size + 1, 1, none⟩), .slice ya (Wh.limbs y.natAbs).length yc, .slice (some ⟨w.heap.size + 1 + 1 + 1 + 1 + 1, 0, none⟩) 1 1, .agg #[.slice xa (Wh.limbs x.natAbs).length xc, .slice ya (Wh.limbs y.natAbs).length yc, .slice (some ⟨w.heap.size + 1 + 1 + 1 + 1 + 1, 0, none⟩) 1 1, .slice none 0 0, .bool false], .tuple #[], .pointer (some ⟨w.heap.size + 1 + 1 + 1 + 1 + 1 + 1, 0, none⟩), .slice ga (Wh.limbs G).length gc, .agg #[.int .i64 g.sign, .slice p1 (Wh.limbs g.natAbs).length c1], vals 4, vals 0, vals 1, vals 2, vals 3, vals 5, vals 6, undef, undef, undef, undef, undef, undef, undef, undef, undef, undef, undef, undef, undef, undef, undef, undef, undef, undef, undef, undef, undef, undef, undef, undef, undef, undef], defers := [] } ∧ vals 7 = .pointer (some ⟨b8, 0, none⟩) ∧ V.heap.size ≤ b8 ∧ NumAt W' b8 p ∧ b8 < W'.heap.size) ∧ Below V.heap.size V W') ?_ ?_
  refine Rt.wp_region_pairs (n0 := 2) [9, 10] [6] 63 (fun vals => { tmps := #[.agg #[.int .i64 x.sign, .slice xa (Wh.limbs x.natAbs).length xc], .agg #[.int .i64 y.sign, .slice ya (Wh.limbs y.natAbs).length yc], .pointer (some ⟨w.heap.size, 0, none⟩), .pointer (some ⟨w.heap.size + 1, 0, none⟩), .pointer (some ⟨w.heap.size + 1 + 1, 0, none⟩), .pointer (some ⟨w.heap.size + 1 + 1 + 1, 0, none⟩), .pointer (some ⟨w.heap.size + 1 + 1 + 1 + 1, 0, none⟩), .pointer (some ⟨w.heap.size + 1 + 1 + 1 + 1 + 1 + 1, 0, none⟩), vals 7, vals 8, .pointer (some ⟨w.heap.size + 1, 0, none⟩), .int .i64 y.sign, .bool false, undef, undef, undef, undef, undef, undef, undef, .pointer (some ⟨w.heap.size, 1, none⟩), .slice xa (Wh.limbs x.natAbs).length xc, .pointer (some ⟨w.heap.size + 1, 1, none⟩), .slice ya (Wh.limbs y.natAbs).length yc, .slice (some ⟨w.heap.size + 1 + 1 + 1 + 1 + 1, 0, none⟩) 1 1, .agg #[.slice xa (Wh.limbs x.natAbs).length xc, .slice ya (Wh.limbs y.natAbs).length yc, .slice (some ⟨w.heap.size + 1 + 1 + 1 + 1 + 1, 0, none⟩) 1 1, .slice none 0 0, .bool false], .tuple #[], .pointer (some ⟨w.heap.size + 1 + 1 + 1 + 1 + 1 + 1, 0, none⟩), .slice ga (Wh.limbs G).length gc, .agg #[.int .i64 g.sign, .slice p1 (Wh.limbs g.natAbs).length c1], vals 4, vals 0, vals 1, vals 2, vals 3, vals 5, vals 6, undef, undef, undef, undef, undef, undef, undef, undef, undef, undef, undef, undef, undef, undef, undef, undef, undef, undef, undef, undef, undef, undef, undef, undef, undef, undef], defers := [] }) (CAg V.heap.size y g ys p r0) Two2 (by kernel_rfl) (by kernel_rfl) (by kernel_rfl) (by kernel_rfl) (fun _ _ _ _ _ h => absurd h.1 (by simp)) (by kernel_rfl) rfl (fun _ => by kernel_rfl) (by kernel_rfl) (by kernel_rfl) (CA_staysg _ _ _ _ _ _) ?_ ?_ ?_
  · intro i o d hi hT hW hd vals w' hb hf
    have hlt : i < 11 := (Array.getElem?_eq_some_iff.1 hi).1
    rcases i with _ | _ | _ | _ | _ | _ | _ | _ | _ | _ | _ | i
    · obtain rfl := Option.some.inj hi
      obtain rfl := Option.some.inj hd
      obtain ⟨ga, gc, z0, z1, zs⟩ := HC.out.b.see (by have := HC.out.size; omega) hb
      have ZS := Lib.hid zs; clear zs
      dsimp only
      go_simp
      exact ⟨⟨_, rfl, ZS.out⟩, Below.refl _ _, fun j u _ _ => two2_of (by intro p e; cases e)⟩
    · obtain rfl := Option.some.inj hi
      obtain rfl := Option.some.inj hd
      have h0 : Num w' (vals 0) _ := hf 0 (by kernel_rfl)
      have HP := size_any w' _ _ h0
      rw [← HE.out.hys] at HP
      obtain ⟨s0, e0, -⟩ := h0
      rw [e0] at HP
      have HP := Lib.hid HP
      dsimp only
      rw [e0]
      go_simp
      refine HP.out.mono ?_
      rintro e w5 ⟨⟨v5, rfl, hn5⟩, hb5⟩
      exact ⟨hn5, hb5, fun j u _ _ => two2_of (num_np hn5)⟩
    · obtain rfl := Option.some.inj hi
      obtain rfl := Option.some.inj hd
      obtain ⟨ga, gc, z0, z1, zs⟩ := (show NumBox V _ g from HC.out.g).see (by have := HC.out.size; omega) hb
      have ZS := Lib.hid zs; clear zs
      dsimp only
      go_simp
      exact ⟨⟨_, rfl, ZS.out⟩, Below.refl _ _, fun j u _ _ => two2_of (by intro p e; cases e)⟩
    · obtain rfl := Option.some.inj hi
      obtain rfl := Option.some.inj hd
      have h0 : Num w' (vals 1) _ := hf 1 (by kernel_rfl)
      have h4 : Num w' (vals 2) _ := hf 2 (by kernel_rfl)
      have HP := quo_gen w' _ _ _ _ h0 h4 HE.out.lys HE.out.g0
      rw [HE.out.hp, HE.out.hr0] at HP
      obtain ⟨s0, e0, -⟩ := h0
      obtain ⟨s4, e4, -⟩ := h4
      rw [e0, e4] at HP
      have HP := Lib.hid HP
      dsimp only
      rw [e0, e4]
      go_simp
      refine HP.out.mono ?_
      rintro e w5 ⟨⟨vq, vr, rfl, h6, h7⟩, hb5⟩
      exact ⟨⟨vq, vr, rfl, h6, h7⟩, hb5, fun j u _ _ => two2_of (by intro p e; cases e)⟩
    · obtain rfl := Option.some.inj hi
      obtain rfl := Option.some.inj hd
      obtain ⟨vq, vr, e5, h1, h2⟩ := hf 3 (by kernel_rfl)
      dsimp only
      rw [e5]
      go_simp
      exact ⟨⟨vq, vr, rfl, h1, h2⟩, Below.refl _ _, fun j u _ _ => two2_of (by intro p e; cases e)⟩
    · obtain rfl := Option.some.inj hi
      obtain rfl := Option.some.inj hd
      obtain ⟨vq, vr, e5, h1, h2⟩ := hf 4 (by kernel_rfl)
      dsimp only
      rw [e5]
      go_simp
      exact ⟨h1, Below.refl _ _, fun j u _ _ => two2_of (num_np h1)⟩
    · cases hW
    · obtain rfl := Option.some.inj hi
      obtain rfl := Option.some.inj hd
      dsimp only
      go_simp
      exact ⟨⟨w'.heap.size, rfl, hb.size, by simp, by go_simp, by go_simp, by go_simp, by go_simp⟩, (Below.refl _ _).alloc (Nat.le_refl _) _, fun j u _ hu => CA_newg _ (Nat.le_refl _) j u hu⟩
    · obtain rfl := Option.some.inj hi
      obtain rfl := Option.some.inj hd
      dsimp only
      go_simp
      exact ⟨⟨w'.heap.size, rfl, hb.size, by simp, by go_simp, by go_simp, by go_simp, by go_simp⟩, (Below.refl _ _).alloc (Nat.le_refl _) _, fun j u _ hu => CA_newg _ (Nat.le_refl _) j u hu⟩
    · cases hT
    · cases hT
    · omega
  · intro p o d hi hW hd vals w' hb hf
    have hlt : p < 11 := (Array.getElem?_eq_some_iff.1 hi).1
    rcases p with _ | _ | _ | _ | _ | _ | _ | _ | _ | _ | _ | p
    · cases hW
    · cases hW
    · cases hW
    · cases hW
    · cases hW
    · cases hW
    · obtain rfl := Option.some.inj hi
      obtain rfl := Option.some.inj hd
      obtain ⟨vq, vr, e5, h1, h2⟩ := hf 4 (by kernel_rfl)
      exact ⟨vr, fun w'' => by dsimp only; rw [e5]; go_simp, h2, fun j u _ _ => two2_of (num_np h2)⟩
    · cases hW
    · cases hW
    · cases hW
    · cases hW
    · omega
  · intro vals w' hb hf hp
    obtain ⟨s4, e4, h4⟩ := hf 5 (by decide) rfl
    obtain ⟨s5, e5, h5⟩ := hf 6 (by decide) rfl
    obtain ⟨b8, e6, n6, l6, B6⟩ := Fresh.blank (hf 7 (by decide) rfl)
    obtain ⟨b9, e7, n7, l7, B7⟩ := Fresh.blank (hf 8 (by decide) rfl)
    have h67 := hp 7 8 (by decide) (by decide) rfl rfl (by decide) _ _ e6 e7
    obtain ⟨p4, c4, rfl⟩ := h4.len
    obtain ⟨p5, c5, rfl⟩ := h5.len
    have HB := Lib.hid hb; clear hb hf hp
    have K4 := Lib.hid h4; clear h4 h5
    have BB6 := Lib.hid B6
    have BB7 := Lib.hid B7
    clear B7
    obtain ⟨x0, x1, f0, f1⟩ := B6
    rw [e4, e5, e6, e7]
    refine Rt.wpAny_step (i := 9) (by kernel_rfl) rfl (by rfl) (fun K hK => ?_)
    have HK := Lib.hid hK; clear hK
    go_simp
    refine HK.out _ _ ?_
    clear HK x0 x1 f0 f1
    have N6 := Lib.hid (BB6.out.put K4.out)
    have B7' := BB7.out.far h67 (.int .i64 p.sign) (.slice p4 (Wh.limbs p.natAbs).length c4)
    have HB' : Hid (Below V.heap.size V ((w'.setCell ⟨b8, 0, none⟩ (.int .i64 p.sign)).setCell ⟨b8, 1, none⟩ (.slice p4 (Wh.limbs p.natAbs).length c4))) := Lib.hid ((HB.out.setCell n6 _).setCell n6 _)
    have l6' : b8 < ((w'.setCell ⟨b8, 0, none⟩ (.int .i64 p.sign)).setCell ⟨b8, 1, none⟩ (.slice p4 (Wh.limbs p.natAbs).length c4)).heap.size := by simpa using l6
    clear BB6 BB7 HB K4
    generalize ((w'.setCell ⟨b8, 0, none⟩ (.int .i64 p.sign)).setCell ⟨b8, 1, none⟩ (.slice p4 (Wh.limbs p.natAbs).length c4)) = U at *
    have BB7 := Lib.hid B7'
    obtain ⟨x0, x1, f0, f1⟩ := B7'
    refine Rt.wpAny_step (i := 10) (by kernel_rfl) rfl (by rfl) (fun K hK => ?_)
    have HK := Lib.hid hK; clear hK
    go_simp
    refine HK.out _ _ ?_
    clear HK x0 x1 f0 f1
    exact Rt.wpAny_end (by kernel_rfl) ⟨rfl, ⟨vals, b8, by rw [e4, e5, e6, e7], e6, n6, N6.out.far BB7.out (Ne.symm h67) _ _, by simpa using l6'⟩, (HB'.out.setCell n7 _).setCell n7 _⟩
  rintro e a' W2 ⟨rfl, ⟨va, b8, rfl, ea, hV8, h8, hl8⟩, hb2⟩
  have HC2 := Lib.hid (HC.out.mono hb2)
  have H8 := Lib.hid h8
  clear hb2 h8 HC
  rw [ea]
  clear ea hV8
  go_wp2_with fail
  generalize W2 = V at *
  have HC := HC2; clear HC2
  refine wp_mono (Q := fun e a' W' => e = .normal ∧ (∃ (vals : Nat → Value), a' = { tmps := #[.agg #[.int .i64 x.sign, .slice xa (Wh.limbs x.natAbs).length xc], .agg #[.int .i64 y.sign, .slice ya (Wh.limbs y.natAbs).length yc], .pointer (some ⟨w.heap.size, 0, none⟩), .pointer (some ⟨w.heap.size + 1, 0, none⟩), .pointer (some ⟨w.heap.size + 1 + 1, 0, none⟩), .pointer (some ⟨w.heap.size + 1 + 1 + 1, 0, none⟩), .pointer (some ⟨w.heap.size + 1 + 1 + 1 + 1, 0, none⟩), .pointer (some ⟨w.heap.size + 1 + 1 + 1 + 1 + 1 + 1, 0, none⟩), .pointer (some ⟨b8, 0, none⟩), va 8, .pointer (some ⟨w.heap.size + 1, 0, none⟩), .int .i64 y.sign, .bool false, undef, undef, undef, undef, undef, undef, undef, .pointer (some ⟨w.heap.size, 1, none⟩), .slice xa (Wh.limbs x.natAbs).length xc, .pointer (some ⟨w.heap.size + 1, 1, none⟩), .slice ya (Wh.limbs y.natAbs).length yc, .slice (some ⟨w.heap.size + 1 + 1 + 1 + 1 + 1, 0, none⟩) 1 1, .agg #[.slice xa (Wh.limbs x.natAbs).length xc, .slice ya (Wh.limbs y.natAbs).length yc, .slice (some ⟨w.heap.size + 1 + 1 + 1 + 1 + 1, 0, none⟩) 1 1, .slice none 0 0, .bool false], .tuple #[], .pointer (some ⟨w.heap.size + 1 + 1 + 1 + 1 + 1 + 1, 0, none⟩), .slice ga (Wh.limbs G).length gc, .agg #[.int .i64 g.sign, .slice p1 (Wh.limbs g.natAbs).length c1], va 4, va 0, va 1, va 2, va 3, va 5, va 6, vals 9, vals 0, vals 1, vals 2, vals 3, vals 4, vals 5, vals 6, vals 7, vals 8, vals 10, vals 11, undef, undef, undef, undef, undef, undef, undef, undef, undef, undef, undef, undef, undef, undef], defers := [] }) ∧ CSg G T A odd w W' x y (some g) (some vv) none) ?_ ?_
  refine Rt.wp_region_grow (n0 := 1) [12] [] 63 (fun vals => { tmps := #[.agg #[.int .i64 x.sign, .slice xa (Wh.limbs x.natAbs).length xc], .agg #[.int .i64 y.sign, .slice ya (Wh.limbs y.natAbs).length yc], .pointer (some ⟨w.heap.size, 0, none⟩), .pointer (some ⟨w.heap.size + 1, 0, none⟩), .pointer (some ⟨w.heap.size + 1 + 1, 0, none⟩), .pointer (some ⟨w.heap.size + 1 + 1 + 1, 0, none⟩), .pointer (some ⟨w.heap.size + 1 + 1 + 1 + 1, 0, none⟩), .pointer (some ⟨w.heap.size + 1 + 1 + 1 + 1 + 1 + 1, 0, none⟩), .pointer (some ⟨b8, 0, none⟩), va 8, .pointer (some ⟨w.heap.size + 1, 0, none⟩), .int .i64 y.sign, .bool false, undef, undef, undef, undef, undef, undef, undef, .pointer (some ⟨w.heap.size, 1, none⟩), .slice xa (Wh.limbs x.natAbs).length xc, .pointer (some ⟨w.heap.size + 1, 1, none⟩), .slice ya (Wh.limbs y.natAbs).length yc, .slice (some ⟨w.heap.size + 1 + 1 + 1 + 1 + 1, 0, none⟩) 1 1, .agg #[.slice xa (Wh.limbs x.natAbs).length xc, .slice ya (Wh.limbs y.natAbs).length yc, .slice (some ⟨w.heap.size + 1 + 1 + 1 + 1 + 1, 0, none⟩) 1 1, .slice none 0 0, .bool false], .tuple #[], .pointer (some ⟨w.heap.size + 1 + 1 + 1 + 1 + 1 + 1, 0, none⟩), .slice ga (Wh.limbs G).length gc, .agg #[.int .i64 g.sign, .slice p1 (Wh.limbs g.natAbs).length c1], va 4, va 0, va 1, va 2, va 3, va 5, va 6, vals 9, vals 0, vals 1, vals 2, vals 3, vals 4, vals 5, vals 6, vals 7, vals 8, vals 10, vals 11, undef, undef, undef, undef, undef, undef, undef, undef, undef, undef, undef, undef, undef, undef], defers := [] }) (CBg (w.heap.size) (w.heap.size + 1 + 1 + 1 + 1 + 1 + 1) T x.sign so ss p t q1 vv) (by kernel_rfl) (by kernel_rfl) (by kernel_rfl) (by kernel_rfl) (fun _ _ _ _ _ h => absurd h.1 (by simp)) (by kernel_rfl) rfl (fun _ => by kernel_rfl) (by kernel_rfl) (by kernel_rfl) (CB_staysg _ _ _ _ _ _ _ _ _ _) ?_ ?_ ?_
  · intro i o d hi hT hW hd vals w' hb hf
    have hlt : i < 13 := (Array.getElem?_eq_some_iff.1 hi).1
    rcases i with _ | _ | _ | _ | _ | _ | _ | _ | _ | _ | _ | _ | _ | i
    · obtain rfl := Option.some.inj hi
      obtain rfl := Option.some.inj hd
      dsimp only
      go_simp
      exact ⟨rfl, Below.refl _ _⟩
    · obtain rfl := Option.some.inj hi
      obtain rfl := Option.some.inj hd
      have e0 : vals 0 = _ := hf 0 (by kernel_rfl)
      obtain ⟨⟨ga2, gc2, z0, z1, zs⟩, _, _⟩ := (HC.out.mono hb).a
      clear z1 zs
      dsimp only
      rw [e0]
      go_simp
      exact ⟨rfl, Below.refl _ _⟩
    · obtain rfl := Option.some.inj hi
      obtain rfl := Option.some.inj hd
      have HSD := Lib.hid (side_any w' _ odd so HE.out.so0 ((HC.out.mono hb).k.o))
      dsimp only
      go_simp
      refine HSD.out.mono ?_
      rintro e w5 ⟨rfl, hb5⟩
      exact ⟨rfl, hb5⟩
    · obtain rfl := Option.some.inj hi
      obtain rfl := Option.some.inj hd
      have e1 : vals 1 = _ := hf 1 (by kernel_rfl)
      have e2 : vals 2 = _ := hf 2 (by kernel_rfl)
      have HWI := Lib.hid (with_any x.sign so (sgn_range x) HE.out.so1 w')
      have HXS : Hid (x.sign * so = ss) := Lib.hid HE.out.hss
      dsimp only
      rw [e1, e2]
      go_simp
      refine HWI.out.mono ?_
      rintro e w5 ⟨rfl, rfl⟩
      exact ⟨congrArg (Value.int .i64) HXS.out, Below.refl _ _⟩
    · obtain rfl := Option.some.inj hi
      obtain rfl := Option.some.inj hd
      dsimp only
      go_simp
      exact ⟨rfl, Below.refl _ _⟩
    · obtain rfl := Option.some.inj hi
      obtain rfl := Option.some.inj hd
      have e4 : vals 4 = _ := hf 4 (by kernel_rfl)
      obtain ⟨v0, z0, zs⟩ := HC.out.k.t.see HC.out.k.lt hb
      have ZS := Lib.hid zs; clear zs
      dsimp only
      rw [e4]
      go_simp
      exact ⟨ZS.out, Below.refl _ _⟩
    · obtain rfl := Option.some.inj hi
      obtain rfl := Option.some.inj hd
      have e3 : vals 3 = _ := hf 3 (by kernel_rfl)
      obtain ⟨a5, c5, e5, k5⟩ := hf 5 (by kernel_rfl)
      have HP := signed_len ss _ _ w' (Wh.ok_limbs T) k5 (Nat.le_trans HE.out.lT (by decide)) HE.out.ts
      rw [Wh.val_limbs, HE.out.ht] at HP
      have HP := Lib.hid HP
      clear k5
      dsimp only
      rw [e3, e5]
      go_simp
      refine HP.out.mono ?_
      rintro e w5 ⟨⟨v5, rfl, hn5⟩, hb5⟩
      exact ⟨hn5, hb5⟩
    · obtain rfl := Option.some.inj hi
      obtain rfl := Option.some.inj hd
      obtain ⟨ga, gc, z0, z1, zs⟩ := H8.out.mono hb hl8
      have ZS := Lib.hid zs; clear zs
      dsimp only
      go_simp
      exact ⟨⟨_, rfl, ZS.out⟩, Below.refl _ _⟩
    · obtain rfl := Option.some.inj hi
      obtain rfl := Option.some.inj hd
      have h0 : Num w' (vals 6) _ := hf 6 (by kernel_rfl)
      have h4 : Num w' (vals 7) _ := hf 7 (by kernel_rfl)
      have HP := floor_gen w' _ _ _ _ h0 h4 HE.out.ft HE.out.fp HE.out.p0
      rw [HE.out.hq1, HE.out.hv] at HP
      obtain ⟨s0, e0, -⟩ := h0
      obtain ⟨s4, e4, -⟩ := h4
      rw [e0, e4] at HP
      have HP := Lib.hid HP
      dsimp only
      rw [e0, e4]
      go_simp
      refine HP.out.mono ?_
      rintro e w5 ⟨⟨vq, vr, rfl, h6, h7⟩, hb5⟩
      exact ⟨⟨vq, vr, rfl, h6, h7⟩, hb5⟩
    · obtain rfl := Option.some.inj hi
      obtain rfl := Option.some.inj hd
      obtain ⟨vq, vr, e5, h1, h2⟩ := hf 8 (by kernel_rfl)
      dsimp only
      rw [e5]
      go_simp
      exact ⟨⟨vq, vr, rfl, h1, h2⟩, Below.refl _ _⟩
    · obtain rfl := Option.some.inj hi
      obtain rfl := Option.some.inj hd
      obtain ⟨vq, vr, e5, h1, h2⟩ := hf 9 (by kernel_rfl)
      dsimp only
      rw [e5]
      go_simp
      exact ⟨h1, Below.refl _ _⟩
    · obtain rfl := Option.some.inj hi
      obtain rfl := Option.some.inj hd
      obtain ⟨vq, vr, e5, h1, h2⟩ := hf 9 (by kernel_rfl)
      dsimp only
      rw [e5]
      go_simp
      exact ⟨h2, Below.refl _ _⟩
    · cases hT
    · omega
  · intro p o d hi hW hd vals w' hb hf
    cases hW
  · intro vals w' hb hf
    obtain ⟨s4, e4, h4⟩ := hf 11 (by decide) rfl
    obtain ⟨p4, c4, rfl⟩ := h4.len
    have hC' := HC.out.mono hb
    obtain ⟨x0, x1, f0, f1⟩ := (show Blank w' _ from hC'.v)
    have HP := Lib.hid (hC'.putV h4)
    clear hb hf h4 hC'
    rw [e4]
    refine Rt.wpAny_step (i := 12) (by kernel_rfl) rfl (by rfl) (fun K hK => ?_)
    have HK := Lib.hid hK; clear hK
    go_simp
    refine HK.out _ _ ?_
    exact Rt.wpAny_end (by kernel_rfl) ⟨rfl, ⟨vals, by rw [e4]⟩, HP.out⟩
  rintro e a' W3 ⟨rfl, ⟨vb, rfl⟩, hC3⟩
  have HC3 := Lib.hid hC3; clear hC3 HC H8 hl8
  go_wp2_with fail
  generalize W3 = V at *
  have HC := HC3; clear HC3
  refine wp_mono (Q := fun e a' W' => e = .normal ∧ (∃ (vals : Nat → Value), a' = { tmps := #[.agg #[.int .i64 x.sign, .slice xa (Wh.limbs x.natAbs).length xc], .agg #[.int .i64 y.sign, .slice ya (Wh.limbs y.natAbs).length yc], .pointer (some ⟨w.heap.size, 0, none⟩), .pointer (some ⟨w.heap.size + 1, 0, none⟩), .pointer (some ⟨w.heap.size + 1 + 1, 0, none⟩), .pointer (some ⟨w.heap.size + 1 + 1 + 1, 0, none⟩), .pointer (some ⟨w.heap.size + 1 + 1 + 1 + 1, 0, none⟩), .pointer (some ⟨w.heap.size + 1 + 1 + 1 + 1 + 1 + 1, 0, none⟩), .pointer (some ⟨b8, 0, none⟩), va 8, .pointer (some ⟨w.heap.size + 1, 0, none⟩), .int .i64 y.sign, .bool false, undef, undef, undef, undef, undef, undef, undef, .pointer (some ⟨w.heap.size, 1, none⟩), .slice xa (Wh.limbs x.natAbs).length xc, .pointer (some ⟨w.heap.size + 1, 1, none⟩), .slice ya (Wh.limbs y.natAbs).length yc, .slice (some ⟨w.heap.size + 1 + 1 + 1 + 1 + 1, 0, none⟩) 1 1, .agg #[.slice xa (Wh.limbs x.natAbs).length xc, .slice ya (Wh.limbs y.natAbs).length yc, .slice (some ⟨w.heap.size + 1 + 1 + 1 + 1 + 1, 0, none⟩) 1 1, .slice none 0 0, .bool false], .tuple #[], .pointer (some ⟨w.heap.size + 1 + 1 + 1 + 1 + 1 + 1, 0, none⟩), .slice ga (Wh.limbs G).length gc, .agg #[.int .i64 g.sign, .slice p1 (Wh.limbs g.natAbs).length c1], va 4, va 0, va 1, va 2, va 3, va 5, va 6, vb 9, vb 0, vb 1, vb 2, vb 3, vb 4, vb 5, vb 6, vb 7, vb 8, vb 10, vb 11, vals 8, vals 0, vals 1, vals 2, vals 3, vals 4, vals 5, vals 6, vals 7, vals 9, vals 10, undef, undef, undef], defers := [] }) ∧ CSg G T A odd w W' x y (some g) (some vv) (some u)) ?_ ?_
  refine Rt.wp_region_grow (n0 := 1) [11] [10] 63 (fun vals => { tmps := #[.agg #[.int .i64 x.sign, .slice xa (Wh.limbs x.natAbs).length xc], .agg #[.int .i64 y.sign, .slice ya (Wh.limbs y.natAbs).length yc], .pointer (some ⟨w.heap.size, 0, none⟩), .pointer (some ⟨w.heap.size + 1, 0, none⟩), .pointer (some ⟨w.heap.size + 1 + 1, 0, none⟩), .pointer (some ⟨w.heap.size + 1 + 1 + 1, 0, none⟩), .pointer (some ⟨w.heap.size + 1 + 1 + 1 + 1, 0, none⟩), .pointer (some ⟨w.heap.size + 1 + 1 + 1 + 1 + 1 + 1, 0, none⟩), .pointer (some ⟨b8, 0, none⟩), va 8, .pointer (some ⟨w.heap.size + 1, 0, none⟩), .int .i64 y.sign, .bool false, undef, undef, undef, undef, undef, undef, undef, .pointer (some ⟨w.heap.size, 1, none⟩), .slice xa (Wh.limbs x.natAbs).length xc, .pointer (some ⟨w.heap.size + 1, 1, none⟩), .slice ya (Wh.limbs y.natAbs).length yc, .slice (some ⟨w.heap.size + 1 + 1 + 1 + 1 + 1, 0, none⟩) 1 1, .agg #[.slice xa (Wh.limbs x.natAbs).length xc, .slice ya (Wh.limbs y.natAbs).length yc, .slice (some ⟨w.heap.size + 1 + 1 + 1 + 1 + 1, 0, none⟩) 1 1, .slice none 0 0, .bool false], .tuple #[], .pointer (some ⟨w.heap.size + 1 + 1 + 1 + 1 + 1 + 1, 0, none⟩), .slice ga (Wh.limbs G).length gc, .agg #[.int .i64 g.sign, .slice p1 (Wh.limbs g.natAbs).length c1], va 4, va 0, va 1, va 2, va 3, va 5, va 6, vb 9, vb 0, vb 1, vb 2, vb 3, vb 4, vb 5, vb 6, vb 7, vb 8, vb 10, vb 11, vals 8, vals 0, vals 1, vals 2, vals 3, vals 4, vals 5, vals 6, vals 7, vals 9, vals 10, undef, undef, undef], defers := [] }) (CCg V.heap.size x y g vv m d u r1) (by kernel_rfl) (by kernel_rfl) (by kernel_rfl) (by kernel_rfl) (fun _ _ _ _ _ h => absurd h.1 (by simp)) (by kernel_rfl) rfl (fun _ => by kernel_rfl) (by kernel_rfl) (by kernel_rfl) (CC_staysg _ _ _ _ _ _ _ _ _) ?_ ?_ ?_
  · intro i o d hi hT hW hd vals w' hb hf
    have hlt : i < 12 := (Array.getElem?_eq_some_iff.1 hi).1
    rcases i with _ | _ | _ | _ | _ | _ | _ | _ | _ | _ | _ | _ | i
    · obtain rfl := Option.some.inj hi
      obtain rfl := Option.some.inj hd
      obtain ⟨ga, gc, z0, z1, zs⟩ := (show NumBox V _ g from HC.out.g).see (by have := HC.out.size; omega) hb
      have ZS := Lib.hid zs; clear zs
      dsimp only
      go_simp
      exact ⟨⟨_, rfl, ZS.out⟩, Below.refl _ _⟩
    · obtain rfl := Option.some.inj hi
      obtain rfl := Option.some.inj hd
      obtain ⟨ga, gc, z0, z1, zs⟩ := HC.out.a.see (by have := HC.out.size; omega) hb
      have ZS := Lib.hid zs; clear zs
      dsimp only
      go_simp
      exact ⟨⟨_, rfl, ZS.out⟩, Below.refl _ _⟩
    · obtain rfl := Option.some.inj hi
      obtain rfl := Option.some.inj hd
      obtain ⟨ga, gc, z0, z1, zs⟩ := (show NumBox V _ vv from HC.out.v).see (by have := HC.out.size; omega) hb
      have ZS := Lib.hid zs; clear zs
      dsimp only
      go_simp
      exact ⟨⟨_, rfl, ZS.out⟩, Below.refl _ _⟩
    · obtain rfl := Option.some.inj hi
      obtain rfl := Option.some.inj hd
      obtain ⟨s1, e1, k1⟩ := hf 2 (by kernel_rfl)
      obtain ⟨p9, c9, rfl⟩ := k1.len
      have al : Below w'.heap.size w' (w'.alloc (Obj.cells #[.int .i64 vv.sign, .slice p9 (Wh.limbs vv.natAbs).length c9] 83)) := (Below.refl _ _).alloc (Nat.le_refl _) _
      have K1 := Lib.hid (k1.mono al); clear k1 al
      dsimp only
      rw [e1]
      go_simp
      exact ⟨⟨w'.heap.size, p9, c9, rfl, by simp, hb.size, by go_simp, by go_simp, rfl, K1.out⟩, (Below.refl _ _).alloc (Nat.le_refl _) _⟩
    · obtain rfl := Option.some.inj hi
      obtain rfl := Option.some.inj hd
      have h0 : Num w' (vals 1) _ := hf 1 (by kernel_rfl)
      obtain ⟨ab, ea, ec, e2, hab1, hab2, hab3⟩ := hf 3 (by kernel_rfl)
      have HP := product_any w' ab _ vv hab1 _ h0 vv.sign ea (Wh.limbs vv.natAbs).length ec hab3 (Nat.le_trans HE.out.lx (by decide)) (Nat.le_trans HE.out.lv (by decide)) (.inl (Nat.lt_of_le_of_lt HE.out.lx (by decide)))
      rw [HE.out.hm] at HP
      obtain ⟨s0, e0, -⟩ := h0
      rw [e0] at HP
      have HP := Lib.hid HP
      clear hab3
      dsimp only
      rw [e0, e2]
      go_simp
      refine HP.out.mono ?_
      rintro e w5 ⟨⟨v5, rfl, hn5⟩, hb5⟩
      exact ⟨hn5, hb5⟩
    · obtain rfl := Option.some.inj hi
      obtain rfl := Option.some.inj hd
      have h0 : Num w' (vals 0) _ := hf 0 (by kernel_rfl)
      have h4 : Num w' (vals 4) _ := hf 4 (by kernel_rfl)
      have HP := sub_any w' _ _ _ _ h0 h4 HE.out.fg HE.out.fm
      rw [HE.out.hd] at HP
      obtain ⟨s0, e0, -⟩ := h0
      obtain ⟨s4, e4, -⟩ := h4
      rw [e0, e4] at HP
      have HP := Lib.hid HP
      dsimp only
      rw [e0, e4]
      go_simp
      refine HP.out.mono ?_
      rintro e w5 ⟨⟨v5, rfl, hn5⟩, hb5⟩
      exact ⟨hn5, hb5⟩
    · obtain rfl := Option.some.inj hi
      obtain rfl := Option.some.inj hd
      obtain ⟨ga, gc, z0, z1, zs⟩ := HC.out.b.see (by have := HC.out.size; omega) hb
      have ZS := Lib.hid zs; clear zs
      dsimp only
      go_simp
      exact ⟨⟨_, rfl, ZS.out⟩, Below.refl _ _⟩
    · obtain rfl := Option.some.inj hi
      obtain rfl := Option.some.inj hd
      have h0 : Num w' (vals 5) _ := hf 5 (by kernel_rfl)
      have h4 : Num w' (vals 6) _ := hf 6 (by kernel_rfl)
      have HP := quo_gen w' _ _ _ _ h0 h4 HE.out.ld HE.out.y0
      rw [HE.out.hu, HE.out.hr1] at HP
      obtain ⟨s0, e0, -⟩ := h0
      obtain ⟨s4, e4, -⟩ := h4
      rw [e0, e4] at HP
      have HP := Lib.hid HP
      dsimp only
      rw [e0, e4]
      go_simp
      refine HP.out.mono ?_
      rintro e w5 ⟨⟨vq, vr, rfl, h6, h7⟩, hb5⟩
      exact ⟨⟨vq, vr, rfl, h6, h7⟩, hb5⟩
    · obtain rfl := Option.some.inj hi
      obtain rfl := Option.some.inj hd
      obtain ⟨vq, vr, e5, h1, h2⟩ := hf 7 (by kernel_rfl)
      dsimp only
      rw [e5]
      go_simp
      exact ⟨⟨vq, vr, rfl, h1, h2⟩, Below.refl _ _⟩
    · obtain rfl := Option.some.inj hi
      obtain rfl := Option.some.inj hd
      obtain ⟨vq, vr, e5, h1, h2⟩ := hf 8 (by kernel_rfl)
      dsimp only
      rw [e5]
      go_simp
      exact ⟨h1, Below.refl _ _⟩
    · cases hW
    · cases hT
    · omega
  · intro p o d hi hW hd vals w' hb hf
    have hlt : p < 12 := (Array.getElem?_eq_some_iff.1 hi).1
    rcases p with _ | _ | _ | _ | _ | _ | _ | _ | _ | _ | _ | _ | p
    · cases hW
    · cases hW
    · cases hW
    · cases hW
    · cases hW
    · cases hW
    · cases hW
    · cases hW
    · cases hW
    · cases hW
    · obtain rfl := Option.some.inj hi
      obtain rfl := Option.some.inj hd
      obtain ⟨vq, vr, e5, h1, h2⟩ := hf 8 (by kernel_rfl)
      exact ⟨vr, fun w'' => by dsimp only; rw [e5]; go_simp, h2⟩
    · cases hW
    · omega
  · intro vals w' hb hf
    obtain ⟨s4, e4, h4⟩ := hf 9 (by decide) rfl
    obtain ⟨s5, e5, h5⟩ := hf 10 (by decide) rfl
    obtain ⟨p4, c4, rfl⟩ := h4.len
    have hC' := HC.out.mono hb
    obtain ⟨x0, x1, f0, f1⟩ := (show Blank w' _ from hC'.u)
    have HP := Lib.hid (hC'.putU h4)
    clear hb hf h4 h5 hC'
    rw [e4]
    refine Rt.wpAny_step (i := 11) (by kernel_rfl) rfl (by rfl) (fun K hK => ?_)
    have HK := Lib.hid hK; clear hK
    go_simp
    refine HK.out _ _ ?_
    exact Rt.wpAny_end (by kernel_rfl) ⟨rfl, ⟨vals, by rw [e4, e5]⟩, HP.out⟩
  rintro e a' W4 ⟨rfl, ⟨vc, rfl⟩, hC4⟩
  have HC4 := Lib.hid hC4; clear hC4 HC
  obtain ⟨⟨ga', gc', g0, g1, gs⟩, gf0, gf1⟩ := (show NumBox W4 _ g from HC4.out.g)
  obtain ⟨⟨va', vc', v0, v1, vs⟩, vf0, vf1⟩ := (show NumBox W4 _ vv from HC4.out.v)
  obtain ⟨⟨ua', uc', u0, u1, us⟩, uf0, uf1⟩ := (show NumBox W4 _ u from HC4.out.u)
  have HSL := Lib.hid (And.intro gs (And.intro vs us)); clear gs vs us
  have mixed : Tryz.prog.follows Departure.mixedOrders = true := by kernel_rfl
  go_wp2_with fail
  go_region_o
  have bg := (show NumBox W4 (w.heap.size + 1 + 1) g from HC4.out.g)
  have bv := (show NumBox W4 (w.heap.size + 1 + 1 + 1) vv from HC4.out.v)
  have bu := (show NumBox W4 (w.heap.size + 1 + 1 + 1 + 1) u from HC4.out.u)
  have a1 := bg.put HSL.out.1
  have d1 := bv.far bg (by omega) (.int .i64 g.sign) (.slice ga' (Wh.limbs g.natAbs).length gc')
  have e1 := bu.far bg (by omega) (.int .i64 g.sign) (.slice ga' (Wh.limbs g.natAbs).length gc')
  have s1 := HSL.out.2.1.two (w.heap.size + 1 + 1) g0 g1 (nl_int _) (nl_slice _ _ _) (.int .i64 g.sign) (.slice ga' (Wh.limbs g.natAbs).length gc')
  have t1 := HSL.out.2.2.two (w.heap.size + 1 + 1) g0 g1 (nl_int _) (nl_slice _ _ _) (.int .i64 g.sign) (.slice ga' (Wh.limbs g.natAbs).length gc')
  have b1 := (HC4.out.below.setCell (p := ⟨w.heap.size + 1 + 1, 0, none⟩) (show w.heap.size ≤ w.heap.size + 1 + 1 by omega) (.int .i64 g.sign)).setCell (p := ⟨w.heap.size + 1 + 1, 1, none⟩) (show w.heap.size ≤ w.heap.size + 1 + 1 by omega) (.slice ga' (Wh.limbs g.natAbs).length gc')
  have z1 : w.heap.size + 6 < ((W4.setCell ⟨w.heap.size + 1 + 1, 0, none⟩ (.int .i64 g.sign)).setCell ⟨w.heap.size + 1 + 1, 1, none⟩ (.slice ga' (Wh.limbs g.natAbs).length gc')).heap.size := by have := HC4.out.size; simpa using this
  generalize ((W4.setCell ⟨w.heap.size + 1 + 1, 0, none⟩ (.int .i64 g.sign)).setCell ⟨w.heap.size + 1 + 1, 1, none⟩ (.slice ga' (Wh.limbs g.natAbs).length gc')) = X1 at *
  have a2 := a1.far d1 (by omega) (.int .i64 vv.sign) (.slice va' (Wh.limbs vv.natAbs).length vc')
  have d2 := d1.put s1
  have e2 := e1.far d1 (by omega) (.int .i64 vv.sign) (.slice va' (Wh.limbs vv.natAbs).length vc')
  obtain ⟨⟨_, _, q0, q1', _⟩, _, _⟩ := d1
  have t2 := t1.two (w.heap.size + 1 + 1 + 1) q0 q1' (nl_int _) (nl_slice _ _ _) (.int .i64 vv.sign) (.slice va' (Wh.limbs vv.natAbs).length vc')
  have b2 := (b1.setCell (p := ⟨w.heap.size + 1 + 1 + 1, 0, none⟩) (show w.heap.size ≤ w.heap.size + 1 + 1 + 1 by omega) (.int .i64 vv.sign)).setCell (p := ⟨w.heap.size + 1 + 1 + 1, 1, none⟩) (show w.heap.size ≤ w.heap.size + 1 + 1 + 1 by omega) (.slice va' (Wh.limbs vv.natAbs).length vc')
  have z2 : w.heap.size + 6 < ((X1.setCell ⟨w.heap.size + 1 + 1 + 1, 0, none⟩ (.int .i64 vv.sign)).setCell ⟨w.heap.size + 1 + 1 + 1, 1, none⟩ (.slice va' (Wh.limbs vv.natAbs).length vc')).heap.size := by simpa using z1
  generalize ((X1.setCell ⟨w.heap.size + 1 + 1 + 1, 0, none⟩ (.int .i64 vv.sign)).setCell ⟨w.heap.size + 1 + 1 + 1, 1, none⟩ (.slice va' (Wh.limbs vv.natAbs).length vc')) = X2 at *
  have a3 := a2.far e2 (by omega) (.int .i64 u.sign) (.slice ua' (Wh.limbs u.natAbs).length uc')
  have d3 := d2.far e2 (by omega) (.int .i64 u.sign) (.slice ua' (Wh.limbs u.natAbs).length uc')
  have e3 := e2.put t2
  have b3 := (b2.setCell (p := ⟨w.heap.size + 1 + 1 + 1 + 1, 0, none⟩) (show w.heap.size ≤ w.heap.size + 1 + 1 + 1 + 1 by omega) (.int .i64 u.sign)).setCell (p := ⟨w.heap.size + 1 + 1 + 1 + 1, 1, none⟩) (show w.heap.size ≤ w.heap.size + 1 + 1 + 1 + 1 by omega) (.slice ua' (Wh.limbs u.natAbs).length uc')
  have z3 : w.heap.size + 6 < ((X2.setCell ⟨w.heap.size + 1 + 1 + 1 + 1, 0, none⟩ (.int .i64 u.sign)).setCell ⟨w.heap.size + 1 + 1 + 1 + 1, 1, none⟩ (.slice ua' (Wh.limbs u.natAbs).length uc')).heap.size := by simpa using z2
  generalize ((X2.setCell ⟨w.heap.size + 1 + 1 + 1 + 1, 0, none⟩ (.int .i64 u.sign)).setCell ⟨w.heap.size + 1 + 1 + 1 + 1, 1, none⟩ (.slice ua' (Wh.limbs u.natAbs).length uc')) = X3 at *
  have bd : Below X3.heap.size X3 X3.drew := (Below.refl _ _).drew
  obtain ⟨⟨p1', c1', m0, m1, ms⟩, _, _⟩ := a3.mono bd (by omega)
  obtain ⟨⟨p2', c2', n0, n1, ns⟩, _, _⟩ := d3.mono bd (by omega)
  obtain ⟨⟨p3', c3', o0, o1, os⟩, _, _⟩ := e3.mono bd (by omega)
  have HF := Lib.hid (And.intro (And.intro ms (And.intro ns os)) (b3.trans (bd.mono b3.size)))
  clear bg bv bu a1 e1 s1 t1 b1 z1 a2 d2 e2 t2 b2 z2 a3 d3 e3 b3 z3 bd ms ns os q0 q1' g0 g1 v0 v1 u0 u1 gf0 gf1 vf0 vf1 uf0 uf1 HC4 HSL
  generalize X3.drew = X4 at *
  go_wp2_with fail
  exact bodyPost_ret (v := .tuple #[.agg #[.int .i64 g.sign, .slice p1' (Wh.limbs g.natAbs).length c1'], .agg #[.int .i64 vv.sign, .slice p2' (Wh.limbs vv.natAbs).length c2'], .agg #[.int .i64 u.sign, .slice p3' (Wh.limbs u.natAbs).length c3']]) (by simp [results, Tryz.results115, go_sem, m0, m1, n0, n1, o0, o1]) rfl ⟨⟨_, _, _, g, vv, u, rfl, ⟨_, rfl, HF.out.1.1⟩, ⟨_, rfl, HF.out.1.2.1⟩, ⟨_, rfl, HF.out.1.2.2⟩, HE.out.fin⟩, HF.out.2⟩
end Go.Proofs.YteaeloeebfdodaaGreatDoor
