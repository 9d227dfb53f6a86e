/- Part 26 of the proofs that laws of package whole answer true at every input and leave the input as it was, where the library's variables start as the text lays them (the texts G2). -/
import Derived.Test.YteaeloeebfdodaaGreatDoorX25
set_option linter.unusedVariables false
set_option linter.unusedSimpArgs false
/- WALKS, the divisor 4: a step of Euclid's algorithm, by one limb. -/
namespace Go.Proofs.YteaeloeebfdodaaGreatDoor
open Go.RowKit
/-- a slice that is a number's limbs -/
def SlV (w : World) (v : Value) (x : Nat) : Prop := ∃ a c, v = .slice a (Wh.limbs x).length c ∧ Sl w (.slice a (Wh.limbs x).length c) (Wh.limbs x)
theorem SlV.mono {w w' : World} {v : Value} {x : Nat} (h : SlV w v x) (hb : Below w.heap.size w w') : SlV w' v x := by
  obtain ⟨a, c, e, h⟩ := h; exact ⟨a, c, e, h.mono hb⟩
theorem SlV.of {w : World} {v : Value} {x : Nat} (h : Sl w v (Wh.limbs x)) : SlV w v x := by
  obtain ⟨a, c, rfl⟩ := h.len; exact ⟨a, c, rfl, h⟩
theorem divide_sl (w : World) (va vb : Value) (R N : Nat) (ha : SlV w va R) (hb : SlV w vb N) (hR : (Wh.limbs R).length ≤ 1000) (hN : 0 < N ∧ N < 1000000000) :
    Calls Tryz.prog 190 #[va, vb] w fun e w' => (∃ vq vr, e = .returned (.tuple #[vq, vr]) ∧ SlV w' vq (R / N) ∧ SlV w' vr (R % N)) ∧ Below w.heap.size w w' := by
  obtain ⟨a1, c1, rfl, h1⟩ := ha
  obtain ⟨a2, c2, rfl, h2⟩ := hb
  have e1 : Wh.trimL (Wh.quo (Wh.limbs R) N) = Wh.limbs (R / N) := by rw [Wh.trimL, Wh.val_quo _ _ hN.1, Wh.val_limbs]
  have e2 : Wh.trimL [Wh.val (Wh.limbs R) % N] = Wh.limbs (R % N) := by rw [Wh.val_limbs, Wh.trimL]; simp [Wh.val]
  rw [limbs_one_of hN] at h2 ⊢
  refine (divideLimbs_fresh w _ _ _ N h1 (Wh.ok_limbs R) hR h2 ⟨hN.1, by omega⟩).mono ?_
  rintro e w' ⟨⟨aq, cq, ar, cr, rfl, _, hq, hr⟩, hb⟩
  rw [e1] at hq
  rw [e2] at hr
  exact ⟨⟨_, _, rfl, by rw [e1]; exact ⟨_, _, rfl, hq⟩, by rw [e2]; exact ⟨_, _, rfl, hr⟩⟩, hb⟩
theorem multiply_sl (w : World) (v1 v2 : Value) (a b : Nat) (h1 : SlV w v1 a) (h2 : SlV w v2 b) (hm : (Wh.limbs a).length + (Wh.limbs b).length ≤ 100000) (hmin : (Wh.limbs a).length < 32 ∨ (Wh.limbs b).length < 32) :
    Calls Tryz.prog 189 #[.slice none 0 0, v1, v2] w fun e w' => (∃ v', e = .returned v' ∧ SlV w' v' (a * b)) ∧ Below w.heap.size w w' := by
  obtain ⟨a1, c1, rfl, h1⟩ := h1
  obtain ⟨a2, c2, rfl, h2⟩ := h2
  refine (multiply_new w _ _ a b h1 h2 hm hmin).mono ?_
  rintro e w' ⟨⟨v', rfl, h, _⟩, hb⟩
  exact ⟨⟨v', rfl, SlV.of h⟩, hb⟩
theorem add_sl (w : World) (v1 v2 : Value) (a b : Nat) (h1 : SlV w v1 a) (h2 : SlV w v2 b) (hm : (Wh.limbs a).length ≤ 5000) (hm2 : (Wh.limbs b).length ≤ 5000) :
    Calls Tryz.prog 269 #[v1, v2] w fun e w' => (∃ v', e = .returned v' ∧ SlV w' v' (a + b)) ∧ Below w.heap.size w w' := by
  obtain ⟨a1, c1, rfl, h1⟩ := h1
  obtain ⟨a2, c2, rfl, h2⟩ := h2
  refine (addLimbs_any w _ _ a b h1 h2 hm hm2).mono ?_
  rintro e w' ⟨⟨v', rfl, _, h⟩, hb⟩
  exact ⟨⟨v', rfl, SlV.of h⟩, hb⟩
theorem blend_sl (w : World) (v1 v2 : Value) (a b : Nat) (x y : Int) (z : Nat) (h1 : SlV w v1 a) (h2 : SlV w v2 b) (hl1 : (Wh.limbs a).length ≤ 5000) (hl2 : (Wh.limbs b).length ≤ 5000)
    (hx : -1000000000 < x ∧ x < 1000000000) (hy : -1000000000 < y ∧ y < 1000000000) (hz : x * a + y * b = (z : Int)) :
    Calls Tryz.prog 306 #[v1, v2, .int .i64 x, .int .i64 y] w fun e w' => (∃ v', e = .returned v' ∧ SlV w' v' z) ∧ Below w.heap.size w w' := by
  obtain ⟨a1, c1, rfl, h1⟩ := h1
  obtain ⟨a2, c2, rfl, h2⟩ := h2
  have hv : x * (Wh.val (Wh.limbs a) : Nat) + y * (Wh.val (Wh.limbs b) : Nat) = (z : Int) := by rw [Wh.val_limbs, Wh.val_limbs]; exact hz
  refine (blend_any w _ _ _ _ x y h1 h2 (Wh.ok_limbs a) (Wh.ok_limbs b) hl1 hl2 hx hy (by rw [hv]; omega)).mono ?_
  rintro e w' ⟨⟨p, m, c, rfl, _, h⟩, hb⟩
  rw [hv, Int.natAbs_natCast] at h
  exact ⟨⟨_, rfl, SlV.of h⟩, hb⟩
theorem SlAt.see {w w' : World} {b i x : Nat} (h : SlAt w b i x) (hl : b < w.heap.size) (hb : Below w.heap.size w w') : ∃ v, w'.cell? ⟨b, i, none⟩ = some v ∧ SlV w' v x := by
  obtain ⟨a, c, h0, h1⟩ := h.mono hb hl; exact ⟨_, h0, a, c, rfl, h1⟩
def ST (wb R N : Nat) : Nat → Value → World → Prop
  | 0, v, _ | 1, v, _ | 2, v, _ | 4, v, _ | 5, v, _ => v = .pointer (some ⟨wb, 0, none⟩)
  | 3, v, w => SlV w v R
  | 6, v, _ => v = .pointer (some ⟨wb, 1, none⟩)
  | 7, v, w => SlV w v N
  | 8, v, w | 9, v, w => ∃ vq vr, v = .tuple #[vq, vr] ∧ SlV w vq (R / N) ∧ SlV w vr (R % N)
  | 10, v, w | 12, v, w => SlV w v (R / N)
  | 11, v, w | 13, v, w => SlV w v (R % N)
  | _, _, _ => True
theorem ST_stays (wb R N : Nat) : ∀ i v w w', ST wb R N i v w → Below w.heap.size w w' → ST wb R N i v w' := by
  intro i v w w' h hb
  match i, h with
  | 0, h | 1, h | 2, h | 4, h | 5, h | 6, h => exact h
  | 3, h | 7, h | 10, h | 11, h | 12, h | 13, h => exact SlV.mono h hb
  | 8, h | 9, h => obtain ⟨p, q, e, h1, h2⟩ := h; exact ⟨p, q, e, h1.mono hb, h2.mono hb⟩
  | _ + 14, h => trivial
def SU (wb Q T A : Nat) : Nat → Value → World → Prop
  | 0, v, _ | 1, v, _ | 2, v, _ | 3, v, _ | 6, v, _ | 7, v, _ | 11, v, _ | 12, v, _ | 17, v, _ | 20, v, _ => v = .pointer (some ⟨wb, 0, none⟩)
  | 4, v, _ | 13, v, _ | 21, v, _ => v = .pointer (some ⟨wb, 3, none⟩)
  | 8, v, _ | 18, v, _ => v = .pointer (some ⟨wb, 2, none⟩)
  | 5, v, w | 14, v, w => SlV w v A
  | 9, v, w => SlV w v T
  | 10, v, w => SlV w v Q
  | 15, v, w => SlV w v (Q * A)
  | 16, v, w => SlV w v (T + Q * A)
  | _, _, _ => True
theorem SU_stays (wb Q T A : Nat) : ∀ i v w w', SU wb Q T A i v w → Below w.heap.size w w' → SU wb Q T A i v w' := by
  intro i v w w' h hb
  match i, h with
  | 0, h | 1, h | 2, h | 3, h | 6, h | 7, h | 11, h | 12, h | 17, h | 20, h | 4, h | 13, h | 21, h | 8, h | 18, h => exact h
  | 5, h | 14, h | 9, h | 10, h | 15, h | 16, h => exact SlV.mono h hb
  | 19, h | 22, h | _ + 23, h => trivial

theorem WK.set0 {w : World} {wb R N T A x : Nat} {odd : Bool} {a : Option Addr} {c : Nat} (h : WK w wb R N T A odd) (hs : Sl w (.slice a (Wh.limbs x).length c) (Wh.limbs x)) : WK (w.setCell ⟨wb, 0, none⟩ (.slice a (Wh.limbs x).length c)) wb x N T A odd := by
  obtain ⟨ea, ec, e, _⟩ := h.r
  exact ⟨SlAt.put e (nl_slice _ _ _) hs, h.n.far e (nl_slice _ _ _) (off_ne (by decide)) _, h.t.far e (nl_slice _ _ _) (off_ne (by decide)) _, h.a.far e (nl_slice _ _ _) (off_ne (by decide)) _, by rw [World.cell?_setCell_other _ _ _ _ (off_ne (by decide))]; exact h.o, fun i hi => by rw [World.frozen?_setCell]; exact h.f i hi, by simpa using h.lt⟩
theorem WK.set1 {w : World} {wb R N T A x : Nat} {odd : Bool} {a : Option Addr} {c : Nat} (h : WK w wb R N T A odd) (hs : Sl w (.slice a (Wh.limbs x).length c) (Wh.limbs x)) : WK (w.setCell ⟨wb, 1, none⟩ (.slice a (Wh.limbs x).length c)) wb R x T A odd := by
  obtain ⟨ea, ec, e, _⟩ := h.n
  exact ⟨h.r.far e (nl_slice _ _ _) (off_ne (by decide)) _, SlAt.put e (nl_slice _ _ _) hs, h.t.far e (nl_slice _ _ _) (off_ne (by decide)) _, h.a.far e (nl_slice _ _ _) (off_ne (by decide)) _, by rw [World.cell?_setCell_other _ _ _ _ (off_ne (by decide))]; exact h.o, fun i hi => by rw [World.frozen?_setCell]; exact h.f i hi, by simpa using h.lt⟩
theorem WK.set2 {w : World} {wb R N T A x : Nat} {odd : Bool} {a : Option Addr} {c : Nat} (h : WK w wb R N T A odd) (hs : Sl w (.slice a (Wh.limbs x).length c) (Wh.limbs x)) : WK (w.setCell ⟨wb, 2, none⟩ (.slice a (Wh.limbs x).length c)) wb R N x A odd := by
  obtain ⟨ea, ec, e, _⟩ := h.t
  exact ⟨h.r.far e (nl_slice _ _ _) (off_ne (by decide)) _, h.n.far e (nl_slice _ _ _) (off_ne (by decide)) _, SlAt.put e (nl_slice _ _ _) hs, h.a.far e (nl_slice _ _ _) (off_ne (by decide)) _, by rw [World.cell?_setCell_other _ _ _ _ (off_ne (by decide))]; exact h.o, fun i hi => by rw [World.frozen?_setCell]; exact h.f i hi, by simpa using h.lt⟩
theorem WK.set3 {w : World} {wb R N T A x : Nat} {odd : Bool} {a : Option Addr} {c : Nat} (h : WK w wb R N T A odd) (hs : Sl w (.slice a (Wh.limbs x).length c) (Wh.limbs x)) : WK (w.setCell ⟨wb, 3, none⟩ (.slice a (Wh.limbs x).length c)) wb R N T x odd := by
  obtain ⟨ea, ec, e, _⟩ := h.a
  exact ⟨h.r.far e (nl_slice _ _ _) (off_ne (by decide)) _, h.n.far e (nl_slice _ _ _) (off_ne (by decide)) _, h.t.far e (nl_slice _ _ _) (off_ne (by decide)) _, SlAt.put e (nl_slice _ _ _) hs, by rw [World.cell?_setCell_other _ _ _ _ (off_ne (by decide))]; exact h.o, fun i hi => by rw [World.frozen?_setCell]; exact h.f i hi, by simpa using h.lt⟩
theorem nl_bool (b : Bool) : NoLimb (.bool b) := by intro n e; cases e
theorem WK.set4 {w : World} {wb R N T A : Nat} {odd : Bool} (h : WK w wb R N T A odd) (o : Bool) : WK (w.setCell ⟨wb, 4, none⟩ (.bool o)) wb R N T A o :=
  ⟨h.r.far h.o (nl_bool _) (off_ne (by decide)) _, h.n.far h.o (nl_bool _) (off_ne (by decide)) _, h.t.far h.o (nl_bool _) (off_ne (by decide)) _, h.a.far h.o (nl_bool _) (off_ne (by decide)) _, World.cell?_setCell_same _ _ _ h.o, fun i hi => by rw [World.frozen?_setCell]; exact h.f i hi, by simpa using h.lt⟩
set_option maxRecDepth 100000 in
set_option maxHeartbeats 1000000 in
theorem step_any (w : World) (wb R N T A : Nat) (odd : Bool) (h : WK w wb R N T A odd) (hN : 0 < N ∧ N < 1000000000) (hR : (Wh.limbs R).length ≤ 1000) (hTT : (Wh.limbs T).length ≤ 5000) (hA : (Wh.limbs A).length < 32) (hQ : (Wh.limbs (R / N)).length ≤ 5000) (hQA : (Wh.limbs (R / N * A)).length ≤ 5000) :
    Calls Tryz.prog 265 #[.pointer (some ⟨wb, 0, none⟩)] w fun e w' => e = .returned (.tuple #[]) ∧ WK w' wb N (R % N) A (T + R / N * A) (!odd) ∧ Below wb w w' := by
  have H := Lib.hid h; clear h
  have HLT := Lib.hid H.out.lt
  go_enter Tryz.func265, Tryz.ntmps265
  go_wp2_with fail
  refine wp_mono (Q := fun e a W' => e = .normal ∧ (∃ vals : Nat → Value, a = { tmps := #[.pointer (some ⟨wb, 0, none⟩), undef, vals 12, vals 13, vals 9, vals 0, vals 1, vals 2, vals 3, vals 4, vals 5, vals 6, vals 7, vals 8, vals 10, vals 11, undef, undef, undef, undef, undef, undef, undef, undef, undef, undef, undef, undef, undef, undef, undef, undef, undef, undef, undef, undef, undef, undef, undef, undef, undef, undef, undef, undef, undef, undef, undef, undef, undef, undef, undef, undef, undef, undef, undef, undef], defers := [] } ∧ SlV W' (vals 12) (R / N) ∧ SlV W' (vals 13) (R % N)) ∧ Below w.heap.size w W') ?_ ?_
  refine Rt.wp_region_grow (n0 := 0) [] [] 56 (fun vals => { tmps := #[.pointer (some ⟨wb, 0, none⟩), undef, vals 12, vals 13, vals 9, vals 0, vals 1, vals 2, vals 3, vals 4, vals 5, vals 6, vals 7, vals 8, vals 10, vals 11, undef, undef, undef, undef, undef, undef, undef, undef, undef, undef, undef, undef, undef, undef, undef, undef, undef, undef, undef, undef, undef, undef, undef, undef, undef, undef, undef, undef, undef, undef, undef, undef, undef, undef, undef, undef, undef, undef, undef, undef], defers := [] }) (ST wb R N) (by kernel_rfl) (by kernel_rfl) (by kernel_rfl) (by kernel_rfl) (fun _ _ _ _ _ h => absurd h.1 (by simp)) (by kernel_rfl) rfl (fun _ => by kernel_rfl) (by kernel_rfl) (by kernel_rfl) (ST_stays _ _ _) ?_ ?_ ?_
  · intro i o d hi hT hW hd vals w' hb hf
    have hlt : i < 14 := (Array.getElem?_eq_some_iff.1 hi).1
    rcases i with _ | _ | _ | _ | _ | _ | _ | _ | _ | _ | _ | _ | _ | _ | i
    · obtain rfl := Option.some.inj hi
      obtain rfl := Option.some.inj hd
      dsimp only
      go_simp
      exact ⟨rfl, Below.refl _ _⟩
    · obtain rfl := Option.some.inj hi
      obtain rfl := Option.some.inj hd
      have e0 : vals 0 = _ := hf 0 (by kernel_rfl)
      dsimp only
      rw [e0]
      go_simp
      exact ⟨rfl, Below.refl _ _⟩
    · obtain rfl := Option.some.inj hi
      obtain rfl := Option.some.inj hd
      have e1 : vals 1 = _ := hf 1 (by kernel_rfl)
      dsimp only
      rw [e1]
      go_simp
      exact ⟨rfl, Below.refl _ _⟩
    · obtain rfl := Option.some.inj hi
      obtain rfl := Option.some.inj hd
      have e2 : vals 2 = _ := hf 2 (by kernel_rfl)
      obtain ⟨v0, z0, zs⟩ := H.out.r.see H.out.lt hb
      have ZS := Lib.hid zs; clear zs
      dsimp only
      rw [e2]
      go_simp
      exact ⟨ZS.out, Below.refl _ _⟩
    · obtain rfl := Option.some.inj hi
      obtain rfl := Option.some.inj hd
      dsimp only
      go_simp
      exact ⟨rfl, Below.refl _ _⟩
    · obtain rfl := Option.some.inj hi
      obtain rfl := Option.some.inj hd
      have e4 : vals 4 = _ := hf 4 (by kernel_rfl)
      dsimp only
      rw [e4]
      go_simp
      exact ⟨rfl, Below.refl _ _⟩
    · obtain rfl := Option.some.inj hi
      obtain rfl := Option.some.inj hd
      have e5 : vals 5 = _ := hf 5 (by kernel_rfl)
      dsimp only
      rw [e5]
      go_simp
      exact ⟨rfl, Below.refl _ _⟩
    · obtain rfl := Option.some.inj hi
      obtain rfl := Option.some.inj hd
      have e6 : vals 6 = _ := hf 6 (by kernel_rfl)
      obtain ⟨v0, z0, zs⟩ := H.out.n.see H.out.lt hb
      have ZS := Lib.hid zs; clear zs
      dsimp only
      rw [e6]
      go_simp
      exact ⟨ZS.out, Below.refl _ _⟩
    · obtain rfl := Option.some.inj hi
      obtain rfl := Option.some.inj hd
      have h0 : SlV w' (vals 3) _ := hf 3 (by kernel_rfl)
      have h4 : SlV w' (vals 7) _ := hf 7 (by kernel_rfl)
      have HP := Lib.hid (divide_sl w' _ _ R N h0 h4 hR hN)
      obtain ⟨a3, c3, e3, -⟩ := h0
      obtain ⟨a7, c7, e7, -⟩ := h4
      rw [e3, e7] at HP
      dsimp only
      rw [e3, e7]
      go_simp
      refine HP.out.mono ?_
      rintro e w5 ⟨⟨vq, vr, rfl, h6, h7⟩, hb5⟩
      exact ⟨⟨vq, vr, rfl, h6, h7⟩, hb5⟩
    · obtain rfl := Option.some.inj hi
      obtain rfl := Option.some.inj hd
      obtain ⟨vq, vr, e8, h1, h2⟩ := hf 8 (by kernel_rfl)
      have H1 := Lib.hid h1; have H2 := Lib.hid h2; clear h1 h2
      dsimp only
      rw [e8]
      go_simp
      exact ⟨⟨vq, vr, rfl, H1.out, H2.out⟩, Below.refl _ _⟩
    · obtain rfl := Option.some.inj hi
      obtain rfl := Option.some.inj hd
      obtain ⟨vq, vr, e9, h1, h2⟩ := hf 9 (by kernel_rfl)
      have H1 := Lib.hid h1; have H2 := Lib.hid h2; clear h1 h2
      dsimp only
      rw [e9]
      go_simp
      exact ⟨H1.out, Below.refl _ _⟩
    · obtain rfl := Option.some.inj hi
      obtain rfl := Option.some.inj hd
      obtain ⟨vq, vr, e9, h1, h2⟩ := hf 9 (by kernel_rfl)
      have H1 := Lib.hid h1; have H2 := Lib.hid h2; clear h1 h2
      dsimp only
      rw [e9]
      go_simp
      exact ⟨H2.out, Below.refl _ _⟩
    · obtain rfl := Option.some.inj hi
      obtain rfl := Option.some.inj hd
      have h1 : SlV w' (vals 10) _ := hf 10 (by kernel_rfl)
      have H1 := Lib.hid h1; clear h1
      dsimp only
      generalize vals 10 = vv at *
      go_simp
      exact ⟨H1.out, Below.refl _ _⟩
    · obtain rfl := Option.some.inj hi
      obtain rfl := Option.some.inj hd
      have h1 : SlV w' (vals 11) _ := hf 11 (by kernel_rfl)
      have H1 := Lib.hid h1; clear h1
      dsimp only
      generalize vals 11 = vv at *
      go_simp
      exact ⟨H1.out, Below.refl _ _⟩
    · omega
  · intro p o d hi hW hd vals w' hb hf
    cases hW
  · intro vals w' hb hf
    exact Rt.wpAny_end (by kernel_rfl) ⟨rfl, ⟨vals, rfl, hf 12 (by decide) rfl, hf 13 (by decide) rfl⟩, hb⟩
  rintro e a W ⟨rfl, ⟨va, rfl, hq, hr⟩, hb⟩
  obtain ⟨qa, qc, eq, kq⟩ := hq
  obtain ⟨ra, rc, er, kr⟩ := hr
  have HW := Lib.hid (H.out.mono hb)
  have HB0 := Lib.hid hb; clear hb H
  have KQ := Lib.hid kq; have KR := Lib.hid kr; clear kq kr
  rw [eq, er]
  generalize va 0 = v0; generalize va 1 = v1; generalize va 2 = v2; generalize va 3 = v3; generalize va 4 = v4; generalize va 5 = v5; generalize va 6 = v6; generalize va 7 = v7; generalize va 8 = v8; generalize va 9 = v9
  generalize hv10 : va 10 = v10; generalize hv11 : va 11 = v11
  clear eq er hv10 hv11
  obtain ⟨na, nc, n0, ns⟩ := HW.out.n
  obtain ⟨oa, oc, o0, os⟩ := HW.out.r
  have f0 := HW.out.f 0 (by decide); have f1 := HW.out.f 1 (by decide)
  have H2 := Lib.hid ((HW.out.set0 ns).set1 (KR.out.store _ o0 (nl_slice _ _ _) (.slice na (Wh.limbs N).length nc)))
  have KQ2 := Lib.hid ((KQ.out.store _ o0 (nl_slice _ _ _) (.slice na (Wh.limbs N).length nc)).store ⟨wb, 1, none⟩ (u := .slice na (Wh.limbs N).length nc) (by rw [World.cell?_setCell_other _ _ _ _ (off_ne (by decide))]; exact n0) (nl_slice _ _ _) (.slice ra (Wh.limbs (R % N)).length rc))
  have HB1 : Hid (Below wb w _) := Lib.hid (((HB0.out.mono (by have := HLT.out; omega : wb ≤ _)).setCell (p := ⟨wb, 0, none⟩) (Nat.le_refl wb) (.slice na (Wh.limbs N).length nc)).setCell (p := ⟨wb, 1, none⟩) (Nat.le_refl wb) (.slice ra (Wh.limbs (R % N)).length rc))
  clear ns os KQ HW HB0
  generalize hQg : R / N = Q at *
  generalize hRg : R % N = RM at *
  go_wp2_with fail
  clear n0 o0 f0 f1
  generalize (W.setCell ⟨wb, 0, none⟩ (.slice na (Wh.limbs N).length nc)).setCell ⟨wb, 1, none⟩ (.slice ra (Wh.limbs RM).length rc) = Y at *
  have KQ := KQ2; clear KQ2
  refine wp_mono (Q := fun e a W' => e = .normal ∧ (∃ vals : Nat → Value, a = { tmps := #[.pointer (some ⟨wb, 0, none⟩), undef, .slice qa (Wh.limbs Q).length qc, .slice ra (Wh.limbs RM).length rc, v9, v0, v1, v2, v3, v4, v5, v6, v7, v8, v10, v11, .pointer (some ⟨wb, 0, none⟩), .pointer (some ⟨wb, 0, none⟩), .pointer (some ⟨wb, 0, none⟩), .pointer (some ⟨wb, 0, none⟩), .pointer (some ⟨wb, 1, none⟩), .slice na (Wh.limbs N).length nc, .slice ra (Wh.limbs RM).length rc, .pointer (some ⟨wb, 0, none⟩), .pointer (some ⟨wb, 0, none⟩), .pointer (some ⟨wb, 0, none⟩), .pointer (some ⟨wb, 1, none⟩), vals 0, .pointer (some ⟨wb, 0, none⟩), vals 2, vals 3, vals 4, vals 5, vals 6, vals 7, vals 8, vals 9, vals 10, vals 11, vals 12, vals 13, vals 14, vals 15, vals 16, vals 17, .pointer (some ⟨wb, 2, none⟩), .pointer (some ⟨wb, 0, none⟩), .pointer (some ⟨wb, 3, none⟩), undef, undef, undef, undef, undef, undef, undef, undef], defers := [] }) ∧ WK W' wb N RM A (T + Q * A) odd ∧ Below wb Y W') ?_ ?_
  refine Rt.wp_region_grow (n0 := 4) [19, 20, 21, 22] [1] 56 (fun vals => { tmps := #[.pointer (some ⟨wb, 0, none⟩), undef, .slice qa (Wh.limbs Q).length qc, .slice ra (Wh.limbs RM).length rc, v9, v0, v1, v2, v3, v4, v5, v6, v7, v8, v10, v11, .pointer (some ⟨wb, 0, none⟩), .pointer (some ⟨wb, 0, none⟩), .pointer (some ⟨wb, 0, none⟩), .pointer (some ⟨wb, 0, none⟩), .pointer (some ⟨wb, 1, none⟩), .slice na (Wh.limbs N).length nc, .slice ra (Wh.limbs RM).length rc, .pointer (some ⟨wb, 0, none⟩), .pointer (some ⟨wb, 0, none⟩), .pointer (some ⟨wb, 0, none⟩), .pointer (some ⟨wb, 1, none⟩), vals 0, vals 1, vals 2, vals 3, vals 4, vals 5, vals 6, vals 7, vals 8, vals 9, vals 10, vals 11, vals 12, vals 13, vals 14, vals 15, vals 16, vals 17, vals 18, undef, undef, undef, undef, undef, undef, undef, undef, undef, undef], defers := [] }) (SU wb Q T A) (by kernel_rfl) (by kernel_rfl) (by kernel_rfl) (by kernel_rfl) (fun _ _ _ _ _ h => absurd h.1 (by simp)) (by kernel_rfl) rfl (fun _ => by kernel_rfl) (by kernel_rfl) (by kernel_rfl) (SU_stays _ _ _ _) ?_ ?_ ?_
  · intro i o d hi hT hW hd vals w' hb hf
    have hlt : i < 23 := (Array.getElem?_eq_some_iff.1 hi).1
    rcases i with _ | _ | _ | _ | _ | _ | _ | _ | _ | _ | _ | _ | _ | _ | _ | _ | _ | _ | _ | _ | _ | _ | _ | i
    · obtain rfl := Option.some.inj hi
      obtain rfl := Option.some.inj hd
      dsimp only
      go_simp
      exact ⟨rfl, Below.refl _ _⟩
    · cases hW
    · obtain rfl := Option.some.inj hi
      obtain rfl := Option.some.inj hd
      dsimp only
      go_simp
      exact ⟨rfl, Below.refl _ _⟩
    · obtain rfl := Option.some.inj hi
      obtain rfl := Option.some.inj hd
      have e2 : vals 2 = _ := hf 2 (by kernel_rfl)
      dsimp only
      rw [e2]
      go_simp
      exact ⟨rfl, Below.refl _ _⟩
    · obtain rfl := Option.some.inj hi
      obtain rfl := Option.some.inj hd
      have e3 : vals 3 = _ := hf 3 (by kernel_rfl)
      dsimp only
      rw [e3]
      go_simp
      exact ⟨rfl, Below.refl _ _⟩
    · obtain rfl := Option.some.inj hi
      obtain rfl := Option.some.inj hd
      have e4 : vals 4 = _ := hf 4 (by kernel_rfl)
      obtain ⟨v0, z0, zs⟩ := H2.out.a.see H2.out.lt hb
      have ZS := Lib.hid zs; clear zs
      dsimp only
      rw [e4]
      go_simp
      exact ⟨ZS.out, Below.refl _ _⟩
    · obtain rfl := Option.some.inj hi
      obtain rfl := Option.some.inj hd
      dsimp only
      go_simp
      exact ⟨rfl, Below.refl _ _⟩
    · obtain rfl := Option.some.inj hi
      obtain rfl := Option.some.inj hd
      have e6 : vals 6 = _ := hf 6 (by kernel_rfl)
      dsimp only
      rw [e6]
      go_simp
      exact ⟨rfl, Below.refl _ _⟩
    · obtain rfl := Option.some.inj hi
      obtain rfl := Option.some.inj hd
      have e7 : vals 7 = _ := hf 7 (by kernel_rfl)
      dsimp only
      rw [e7]
      go_simp
      exact ⟨rfl, Below.refl _ _⟩
    · obtain rfl := Option.some.inj hi
      obtain rfl := Option.some.inj hd
      have e8 : vals 8 = _ := hf 8 (by kernel_rfl)
      obtain ⟨v0, z0, zs⟩ := H2.out.t.see H2.out.lt hb
      have ZS := Lib.hid zs; clear zs
      dsimp only
      rw [e8]
      go_simp
      exact ⟨ZS.out, Below.refl _ _⟩
    · obtain rfl := Option.some.inj hi
      obtain rfl := Option.some.inj hd
      dsimp only
      go_simp
      exact ⟨⟨_, _, rfl, KQ.out.mono hb⟩, Below.refl _ _⟩
    · obtain rfl := Option.some.inj hi
      obtain rfl := Option.some.inj hd
      dsimp only
      go_simp
      exact ⟨rfl, Below.refl _ _⟩
    · obtain rfl := Option.some.inj hi
      obtain rfl := Option.some.inj hd
      have e11 : vals 11 = _ := hf 11 (by kernel_rfl)
      dsimp only
      rw [e11]
      go_simp
      exact ⟨rfl, Below.refl _ _⟩
    · obtain rfl := Option.some.inj hi
      obtain rfl := Option.some.inj hd
      have e12 : vals 12 = _ := hf 12 (by kernel_rfl)
      dsimp only
      rw [e12]
      go_simp
      exact ⟨rfl, Below.refl _ _⟩
    · obtain rfl := Option.some.inj hi
      obtain rfl := Option.some.inj hd
      have e13 : vals 13 = _ := hf 13 (by kernel_rfl)
      obtain ⟨v0, z0, zs⟩ := H2.out.a.see H2.out.lt hb
      have ZS := Lib.hid zs; clear zs
      dsimp only
      rw [e13]
      go_simp
      exact ⟨ZS.out, Below.refl _ _⟩
    · obtain rfl := Option.some.inj hi
      obtain rfl := Option.some.inj hd
      have h0 : SlV w' (vals 10) _ := hf 10 (by kernel_rfl)
      have h4 : SlV w' (vals 14) _ := hf 14 (by kernel_rfl)
      have HP := Lib.hid (multiply_sl w' _ _ Q A h0 h4 (by omega) (.inr hA))
      obtain ⟨a10, c10, e10, -⟩ := h0
      obtain ⟨a14, c14, e14, -⟩ := h4
      rw [e10, e14] at HP
      dsimp only
      rw [e10, e14]
      go_simp
      refine HP.out.mono ?_
      rintro e w5 ⟨⟨v5, rfl, hn5⟩, hb5⟩
      exact ⟨hn5, hb5⟩
    · obtain rfl := Option.some.inj hi
      obtain rfl := Option.some.inj hd
      have h0 : SlV w' (vals 9) _ := hf 9 (by kernel_rfl)
      have h4 : SlV w' (vals 15) _ := hf 15 (by kernel_rfl)
      have HP := Lib.hid (add_sl w' _ _ T (Q * A) h0 h4 hTT hQA)
      obtain ⟨a9, c9, e9, -⟩ := h0
      obtain ⟨a15, c15, e15, -⟩ := h4
      rw [e9, e15] at HP
      dsimp only
      rw [e9, e15]
      go_simp
      refine HP.out.mono ?_
      rintro e w5 ⟨⟨v5, rfl, hn5⟩, hb5⟩
      exact ⟨hn5, hb5⟩
    · obtain rfl := Option.some.inj hi
      obtain rfl := Option.some.inj hd
      have e0 : vals 0 = _ := hf 0 (by kernel_rfl)
      dsimp only
      rw [e0]
      go_simp
      exact ⟨rfl, Below.refl _ _⟩
    · obtain rfl := Option.some.inj hi
      obtain rfl := Option.some.inj hd
      have e17 : vals 17 = _ := hf 17 (by kernel_rfl)
      dsimp only
      rw [e17]
      go_simp
      exact ⟨rfl, Below.refl _ _⟩
    · cases hT
    · cases hT
    · cases hT
    · cases hT
    · omega
  · intro p o d hi hW hd vals w' hb hf
    have hlt : p < 23 := (Array.getElem?_eq_some_iff.1 hi).1
    rcases p with _ | _ | _ | _ | _ | _ | _ | _ | _ | _ | _ | _ | _ | _ | _ | _ | _ | _ | _ | _ | _ | _ | _ | p
    · cases hW
    · obtain rfl := Option.some.inj hi
      obtain rfl := Option.some.inj hd
      exact ⟨_, fun w'' => by dsimp only; go_simp, rfl⟩
    · cases hW
    · cases hW
    · cases hW
    · cases hW
    · cases hW
    · cases hW
    · cases hW
    · cases hW
    · cases hW
    · cases hW
    · cases hW
    · cases hW
    · cases hW
    · cases hW
    · cases hW
    · cases hW
    · cases hW
    · cases hW
    · cases hW
    · cases hW
    · cases hW
    · omega
  · intro vals w' hb hf
    have e1 : vals 1 = _ := hf 1 (by decide) rfl
    obtain ⟨a5, c5, e5, k5⟩ := hf 5 (by decide) rfl
    obtain ⟨a16, c16, e16, k16⟩ := hf 16 (by decide) rfl
    have e18 : vals 18 = _ := hf 18 (by decide) rfl
    have HV := Lib.hid (H2.out.mono hb)
    have HBY := Lib.hid (hb.mono (Nat.le_of_lt H2.out.lt))
    have K5 := Lib.hid k5; have K16 := Lib.hid k16; clear k5 k16 hb hf
    obtain ⟨ta, tc, t0, _⟩ := HV.out.t
    have ft := HV.out.f 2 (by decide)
    rw [e1, e5, e16, e18]
    refine Rt.wpAny_step (i := 19) (by kernel_rfl) rfl (by rfl) (fun K hK => ?_)
    have HK := Lib.hid hK; clear hK
    go_simp
    refine HK.out _ _ ?_
    clear HK
    have HV2 := Lib.hid (HV.out.set2 K5.out)
    have K162 := Lib.hid (K16.out.store _ t0 (nl_slice _ _ _) (.slice a5 (Wh.limbs A).length c5))
    have HB2 : Hid (Below wb Y (w'.setCell ⟨wb, 2, none⟩ (.slice a5 (Wh.limbs A).length c5))) := Lib.hid (HBY.out.setCell (p := ⟨wb, 2, none⟩) (Nat.le_refl wb) _)
    clear t0 ft HV K16 K5 HBY
    generalize w'.setCell ⟨wb, 2, none⟩ (.slice a5 (Wh.limbs A).length c5) = U at *
    refine Rt.wpAny_step (i := 20) (by kernel_rfl) rfl (by rfl) (fun K hK => ?_)
    have HK := Lib.hid hK; clear hK
    go_simp
    refine HK.out _ _ ?_
    clear HK
    refine Rt.wpAny_step (i := 21) (by kernel_rfl) rfl (by rfl) (fun K hK => ?_)
    have HK := Lib.hid hK; clear hK
    go_simp
    refine HK.out _ _ ?_
    clear HK
    obtain ⟨ua, uc, u0, _⟩ := HV2.out.a
    have fu := HV2.out.f 3 (by decide)
    refine Rt.wpAny_step (i := 22) (by kernel_rfl) rfl (by rfl) (fun K hK => ?_)
    have HK := Lib.hid hK; clear hK
    go_simp
    refine HK.out _ _ ?_
    clear HK
    exact Rt.wpAny_end (by kernel_rfl) ⟨rfl, ⟨vals, by rw [e5, e16]⟩, HV2.out.set3 K162.out, HB2.out.setCell (p := ⟨wb, 3, none⟩) (Nat.le_refl wb) _⟩
  rintro e a W3 ⟨rfl, ⟨vb, rfl⟩, hW3, hb3⟩
  have HW3 := Lib.hid hW3; have HB3 := Lib.hid (HB1.out.trans hb3); clear hW3 hb3
  have o4 := HW3.out.o
  have f4 := HW3.out.f 4 (by decide)
  generalize vb 0 = vb0
  generalize vb 1 = vb1
  generalize vb 2 = vb2
  generalize vb 3 = vb3
  generalize vb 4 = vb4
  generalize vb 5 = vb5
  generalize vb 6 = vb6
  generalize vb 7 = vb7
  generalize vb 8 = vb8
  generalize vb 9 = vb9
  generalize vb 10 = vb10
  generalize vb 11 = vb11
  generalize vb 12 = vb12
  generalize vb 13 = vb13
  generalize vb 14 = vb14
  generalize vb 15 = vb15
  generalize vb 16 = vb16
  generalize vb 17 = vb17
  generalize vb 18 = vb18
  go_wp2
  go_end0
  exact ⟨rfl, by rw [hQg, hRg]; exact HW3.out.set4 (!odd), HB3.out.setCell (p := ⟨wb, 4, none⟩) (Nat.le_refl wb) _⟩
end Go.Proofs.YteaeloeebfdodaaGreatDoor
