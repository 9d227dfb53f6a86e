/- Part 15 of the proofs that laws of package whole answer true at every input and leave the input as it was, where the library's variables start as the text lays them (the texts Q3, Q4, Q6). -/
import Derived.Test.YteaeloeebfdodaaGreatDoorX12
import Derived.Test.YteaeloeebfdodaaGreatDoorX04
import Derived.Test.YteaeloeebfdodaaGreatDoorX13
set_option linter.unusedVariables false
set_option linter.unusedSimpArgs false
/- WALKS, PowerModulo 1: multiply and divideLimbs once more, saying also where the answers lie (made of A15, A16, D2). -/
namespace Go.Proofs.YteaeloeebfdodaaGreatDoor
open Go.RowKit
/-- v lies at the front of block rb, which is a call's own -/
def RoomAt (w : World) (rb : Nat) (v : Value) : Prop := ∃ n : Nat, ∃ l : List Nat, v = .slice (some ⟨rb, 0, none⟩) n l.length ∧ n ≤ l.length ∧ l.length ≤ 100000 ∧ Own w rb l
set_option maxRecDepth 100000 in
set_option maxHeartbeats 1000000 in
theorem multiply_made (w : World) (a0 : Option Addr) (n0 c0 : Nat) (v1 v2 : Value) (l1 l2 : List Nat) (h1 : Sl w v1 l1) (h2 : Sl w v2 l2) (ho1 : Wh.Ok l1) (ho2 : Wh.Ok l2)
    (hsz : c0 < l1.length + l2.length) (hm : l1.length + l2.length ≤ 100000) (hmin : l1.length < 32 ∨ l2.length < 32) :
    Calls Tryz.prog 189 #[.slice a0 n0 c0, v1, v2] w fun e w' => (∃ v', e = .returned v' ∧ Sl w' v' (Wh.limbs (Wh.val l1 * Wh.val l2)) ∧ RoomAt w' w.heap.size v') ∧ Below w.heap.size w w' := by
  obtain ⟨a1, c1, rfl⟩ := h1.len
  obtain ⟨a2, c2, rfl⟩ := h2.len
  have H1 := Lib.hid h1; clear h1
  have H2 := Lib.hid h2; clear h2
  have HO1 := Lib.hid ho1; clear ho1
  have HO2 := Lib.hid ho2; clear ho2
  generalize hn1 : l1.length = n1 at *
  generalize hn2 : l2.length = n2 at *
  have HN1 := Lib.hid hn1; clear hn1
  have HN2 := Lib.hid hn2; clear hn2
  have hmk := run_make_limbs (n1 + n2) hm w ((n1 : Int) + n2) (by omega)
  have hclr := run_clear_own (own_make w (n1 + n2)) (n1 + n2) (n1 + n2) (by simp)
  have hcl : Own ((w.alloc (.cells (zeros (n1 + n2)) 181)).setCells w.heap.size 0 (List.replicate (n1 + n2) (.int .u32 0))) w.heap.size (List.replicate (n1 + n2) 0) := own_cleared (own_make w (n1 + n2)) (by simp)
  have HCL := Lib.hid hcl; clear hcl
  have hbw : Below w.heap.size w ((w.alloc (.cells (zeros (n1 + n2)) 181)).setCells w.heap.size 0 (List.replicate (n1 + n2) (.int .u32 0))) := ((Below.refl _ _).alloc (Nat.le_refl _) _).trans ((only_setCells _ _ _ _).below (Nat.le_refl _) (by simp))
  have HBW := Lib.hid hbw; clear hbw
  by_cases hmm : n2 < n1
  all_goals
    go_enter Tryz.func189, Tryz.ntmps189
    go_wp2_with fail
    generalize (w.alloc (Obj.cells (zeros (n1 + n2)) 181)).setCells w.heap.size 0 (List.replicate (n1 + n2) (Value.int IntKind.u32 0)) = W at HCL HBW ⊢
    have hap := addProduct_any W w.heap.size (n1 + n2) _ _ l1 l2 (H1.out.mono HBW.out) (H2.out.mono HBW.out) (apart_of_sl H1.out (Nat.le_refl _)) (apart_of_sl H2.out (Nat.le_refl _)) HO1.out HO2.out (by rw [HN1.out, HN2.out]; exact HCL.out) (by rw [HN1.out, HN2.out]; exact Nat.le_refl _) hm
    rw [HN1.out, HN2.out] at hap
    refine hap.mono ?_
    rintro e w1 ⟨rfl, l, HL⟩
    clear hap hclr hmk
    have hb1 : Below w.heap.size w w1 := HBW.out.trans (HL.only.below (Nat.le_refl _) HBW.out.size)
    have hlen := HL.len
    rw [HN1.out, HN2.out] at hlen
    have hval := HL.val
    rw [← HN1.out, List.take_length] at hval
    have hok := HL.ok
    have hown := HL.own
    clear HL
    have hsl := hown.sl (n1 + n2) (by omega)
    rw [hlen] at hsl
    have HVAL := Lib.hid hval; clear hval
    have HLEN := Lib.hid hlen; clear hlen
    have HOWN := Lib.hid hown; clear hown
    go_wp2_with fail
    refine (trim_same _ _ _ _ l hok hsl hm).mono ?_
    rintro e w' ⟨rfl, hv, rfl⟩
    have htl : (Wh.trimL l).length ≤ l.length := Wh.trimL_length hok
    have hroom : RoomAt w1 w.heap.size (.slice (some ⟨w.heap.size, 0, none⟩) (Wh.trimL l).length (n1 + n2)) := ⟨_, l, by rw [HLEN.out], htl, by rw [HLEN.out]; exact hm, HOWN.out⟩
    have hT : Wh.trimL l = Wh.limbs (Wh.val l1 * Wh.val l2) := by unfold Wh.trimL; rw [HVAL.out]
    rw [hT] at hv hroom ⊢
    clear hT
    have HV := Lib.hid hv; clear hv hsl
    have HROOM := Lib.hid hroom; clear hroom htl
    go_wp2
    go_ret
    exact ⟨⟨_, rfl, HV.out, HROOM.out⟩, hb1⟩
set_option maxRecDepth 100000 in
set_option maxHeartbeats 1000000 in
theorem multiply_reused (w : World) (rb n0 : Nat) (lr : List Nat) (hr : Own w rb lr) (v1 v2 : Value) (l1 l2 : List Nat) (h1 : Sl w v1 l1) (h2 : Sl w v2 l2) (hp1 : Apart rb v1) (hp2 : Apart rb v2) (ho1 : Wh.Ok l1) (ho2 : Wh.Ok l2)
    (hsz : l1.length + l2.length ≤ lr.length) (hm : lr.length ≤ 100000) (hmin : l1.length < 32 ∨ l2.length < 32) :
    Calls Tryz.prog 189 #[.slice (some ⟨rb, 0, none⟩) n0 lr.length, v1, v2] w fun e w' => (∃ v', e = .returned v' ∧ Sl w' v' (Wh.limbs (Wh.val l1 * Wh.val l2)) ∧ RoomAt w' rb v') ∧ Only rb w w' := by
  obtain ⟨a1, c1, rfl⟩ := h1.len
  obtain ⟨a2, c2, rfl⟩ := h2.len
  have H1 := Lib.hid h1; clear h1
  have H2 := Lib.hid h2; clear h2
  have HO1 := Lib.hid ho1; clear ho1
  have HO2 := Lib.hid ho2; clear ho2
  have HA1 := Lib.hid hp1; clear hp1
  have HA2 := Lib.hid hp2; clear hp2
  have HRR := Lib.hid hr; clear hr
  generalize hc0 : lr.length = c0 at *
  have HC0 := Lib.hid hc0; clear hc0
  generalize hn1 : l1.length = n1 at *
  generalize hn2 : l2.length = n2 at *
  have HN1 := Lib.hid hn1; clear hn1
  have HN2 := Lib.hid hn2; clear hn2
  have hclr := run_clear_own HRR.out (n1 + n2) c0 (by rw [HC0.out]; exact hsz)
  have HCL := Lib.hid (own_cleared HRR.out (n := n1 + n2) (by rw [HC0.out]; exact hsz))
  have HBW := Lib.hid (only_setCells rb (List.replicate (n1 + n2) (.int .u32 0)) 0 w)
  have HREST := Lib.hid (rest_setCells rb (n1 + n2) w)
  by_cases hmm : n2 < n1
  all_goals
    go_enter Tryz.func189, Tryz.ntmps189
    go_wp2_with fail
    generalize w.setCells rb 0 (List.replicate (n1 + n2) (Value.int IntKind.u32 0)) = W at HCL HBW HREST ⊢
    have hap := addProduct_any W rb c0 _ _ l1 l2 (H1.out.only HBW.out HA1.out) (H2.out.only HBW.out HA2.out) HA1.out HA2.out HO1.out HO2.out (by rw [HN1.out, HN2.out]; exact HCL.out) (by rw [HN1.out, HN2.out]; exact hsz) hm
    rw [HN1.out, HN2.out] at hap
    refine hap.mono ?_
    rintro e w1 ⟨rfl, l, HL⟩
    clear hap hclr
    have hb1 : Only rb w w1 := HBW.out.trans HL.only
    have hlen := HL.len
    rw [HN1.out, HN2.out] at hlen
    have hval := HL.val
    rw [← HN1.out, List.take_length] at hval
    have hok := HL.ok
    have hown := HL.own
    have hroomy : ∃ lr', lr'.length = c0 ∧ Own w1 rb lr' := by
      have hrest := HL.rest
      rw [HN1.out, HN2.out] at hrest
      exact ⟨l ++ lr.drop (n1 + n2), by rw [List.length_append, List.length_drop, hlen, HC0.out]; omega, own_join hown hlen hrest HREST.out HRR.out⟩
    clear HL
    have hsl := hown.sl c0 (by omega)
    rw [hlen] at hsl
    have HVAL := Lib.hid hval; clear hval
    have HLEN := Lib.hid hlen; clear hlen
    have HOWN := Lib.hid hown; clear hown
    go_wp2_with fail
    refine (trim_same _ _ _ _ l hok hsl hm).mono ?_
    rintro e w' ⟨rfl, hv, rfl⟩
    have htl : (Wh.trimL l).length ≤ l.length := Wh.trimL_length hok
    have hroom : RoomAt w1 rb (.slice (some ⟨rb, 0, none⟩) (Wh.trimL l).length c0) := by
      obtain ⟨lr', e1, e2⟩ := hroomy
      exact ⟨_, lr', by rw [e1], by rw [e1]; have := HLEN.out; omega, by rw [e1]; exact hm, e2⟩
    have hT : Wh.trimL l = Wh.limbs (Wh.val l1 * Wh.val l2) := by unfold Wh.trimL; rw [HVAL.out]
    rw [hT] at hv hroom ⊢
    clear hT
    have HV := Lib.hid hv; clear hv hsl
    have HROOM := Lib.hid hroom; clear hroom htl
    go_wp2
    go_ret
    exact ⟨⟨_, rfl, HV.out, HROOM.out⟩, hb1⟩
set_option maxRecDepth 100000 in
set_option maxHeartbeats 1000000 in
theorem divideLimbs_fresh (w : World) (va vb : Value) (la : List Nat) (b : Nat) (ha : Sl w va la) (ho : Wh.Ok la) (hla : la.length ≤ 1000) (hvb : Sl w vb [b]) (hb : 0 < b ∧ b ≤ 1000000000) :
    Calls Tryz.prog 190 #[va, vb] w fun e w' => (∃ aq cq ar cr, e = .returned (.tuple #[.slice aq (Wh.trimL (Wh.quo la b)).length cq, .slice ar (Wh.trimL [Wh.val la % b]).length cr]) ∧ (∀ p, ar = some p → w.heap.size ≤ p.block) ∧ Sl w' (.slice aq (Wh.trimL (Wh.quo la b)).length cq) (Wh.trimL (Wh.quo la b)) ∧ Sl w' (.slice ar (Wh.trimL [Wh.val la % b]).length cr) (Wh.trimL [Wh.val la % b])) ∧ Below w.heap.size w w' := by
  obtain ⟨a2, c2, rfl, hc2⟩ := hvb.addr
  obtain ⟨a1, c1, rfl, hc1⟩ := ha.addr
  have HA := Lib.hid ha; clear ha
  clear hvb
  go_enter Tryz.func190, Tryz.ntmps190
  go_wp2_with fail
  refine (kindOf_any w a2 1 c2).mono ?_
  rintro e w' ⟨rfl, rfl⟩
  rw [show (min ((1 : Nat) : Int) 2) = 1 from by decide]
  have hmk := run_make_limbs la.length (by omega) w (la.length : Int) rfl
  have hB0 : Below w.heap.size w (w.alloc (.cells (zeros la.length) 181)) := (Below.refl _ _).alloc (Nat.le_refl _) _
  have hO0 := own_make w la.length
  obtain ⟨b2, off2, rfl, hlt2, hcell2⟩ := hc2 0 (by simp)
  have hcb : (w.alloc (.cells (zeros la.length) 181)).cell? ⟨b2, off2, none⟩ = some (.int .u32 b) := (hB0.cell (p := ⟨b2, off2, none⟩) hlt2).trans (hcell2 0 (by simp))
  clear hcell2 hc2 hc1
  have HB0 := Lib.hid hB0; clear hB0
  have HO0 := Lib.hid hO0; clear hO0
  have HOK := Lib.hid ho; clear ho
  go_wp2_with fail
  refine (divideShort_own _ w.heap.size la.length _ la (List.replicate la.length 0) b (HA.out.mono HB0.out) (apart_of_sl HA.out (Nat.le_refl _)) HOK.out HO0.out (by simp) (Nat.le_refl _) (by omega) hb).mono ?_
  rintro e w1 ⟨rfl, hO1, hQ⟩
  have hqs := hQ.sl la.length (by rw [Wh.quo_length]; exact Nat.le_refl _)
  rw [Wh.quo_length] at hqs
  have HQS := Lib.hid hqs; clear hqs hQ
  have hB1 : Below w.heap.size w w1 := HB0.out.trans (hO1.below (Nat.le_refl _) HB0.out.size)
  have HB1 := Lib.hid hB1; clear hB1 hO1 HB0 HO0 hmk hcb
  generalize hr : Wh.val la % b = r
  have hrb : r < 1000000000 := by have := Nat.mod_lt (Wh.val la) hb.1; omega
  go_wp2_with fail
  refine (trim_same _ _ _ _ (Wh.quo la b) (Wh.quo_ok la b hb.1 HOK.out) HQS.out (by omega)).mono ?_
  rintro e w2 ⟨rfl, hq2, rfl⟩
  have HQ2 := Lib.hid hq2; clear hq2
  go_wp2_with fail
  refine (trim_same _ _ _ _ [r] (Wh.ok_cons.2 ⟨hrb, Wh.ok_nil⟩) (sl_one w1 r _) (by omega)).mono ?_
  rintro e w3 ⟨rfl, hr3, rfl⟩
  have HR3 := Lib.hid hr3; clear hr3
  go_wp2_with fail
  go_ret2
  have hB2 : Below w1.heap.size w1 (w1.alloc (Obj.cells #[Value.int IntKind.u32 r] 181)) := (Below.refl _ _).alloc (Nat.le_refl _) _
  subst hr
  exact ⟨⟨_, _, _, _, rfl, (fun p e => by cases e; exact HB1.out.size), HQ2.out.mono hB2, HR3.out⟩, HB1.out.trans (hB2.mono HB1.out.size)⟩
end Go.Proofs.YteaeloeebfdodaaGreatDoor

/- WALKS, PowerModulo 2: what its loop keeps in memory. -/
namespace Go.Proofs.YteaeloeebfdodaaGreatDoor
open Go.RowKit Go.Proofs.Rf
/-- multiply, in what room there is, of two small numbers -/
theorem mul_room (w : World) (n : Nat) (vr v1 v2 : Value) (a b : Nat) (hn : n + 3 ≤ w.heap.size) (hr : vr = .slice none 0 0 ∨ ∃ rb, n + 3 ≤ rb ∧ RoomAt w rb vr ∧ Apart rb v1 ∧ Apart rb v2)
    (h1 : Sl w v1 (Wh.limbs a)) (h2 : Sl w v2 (Wh.limbs b)) (ha : (Wh.limbs a).length ≤ 1) (hb : (Wh.limbs b).length ≤ 1) :
    Calls Tryz.prog 189 #[vr, v1, v2] w fun e w' => (∃ p m c, e = .returned (.slice p m c) ∧ Sl w' (.slice p m c) (Wh.limbs (a * b)) ∧ (.slice p m c = Value.slice none 0 0 ∨ ∃ rb, n + 3 ≤ rb ∧ RoomAt w' rb (.slice p m c) ∧ (rb < w.heap.size → ∃ k c', vr = .slice (some ⟨rb, 0, none⟩) k c'))) ∧ OnlyS (fun k => n + 3 ≤ k ∧ ∃ m c, vr = .slice (some ⟨k, 0, none⟩) m c) w w' := by
  have new : ∀ (a0 : Option Addr) (n0 c0 : Nat), vr = .slice a0 n0 c0 → c0 < (Wh.limbs a).length + (Wh.limbs b).length → Calls Tryz.prog 189 #[vr, v1, v2] w fun e w' => (∃ p m c, e = .returned (.slice p m c) ∧ Sl w' (.slice p m c) (Wh.limbs (a * b)) ∧ (.slice p m c = Value.slice none 0 0 ∨ ∃ rb, n + 3 ≤ rb ∧ RoomAt w' rb (.slice p m c) ∧ (rb < w.heap.size → ∃ k c', vr = .slice (some ⟨rb, 0, none⟩) k c'))) ∧ OnlyS (fun k => n + 3 ≤ k ∧ ∃ m c, vr = .slice (some ⟨k, 0, none⟩) m c) w w' := by
    rintro a0 n0 c0 rfl hc
    refine (multiply_made w a0 n0 c0 v1 v2 _ _ h1 h2 (Wh.ok_limbs a) (Wh.ok_limbs b) hc (by omega) (.inl (by omega))).mono ?_
    rintro e w' ⟨⟨v', rfl, hs, hR⟩, hB⟩
    rw [Wh.val_limbs, Wh.val_limbs] at hs
    obtain ⟨k, l, rfl, h3, h4, h5⟩ := hR
    exact ⟨⟨_, _, _, rfl, hs, .inr ⟨w.heap.size, hn, ⟨k, l, rfl, h3, h4, h5⟩, fun h => absurd h (Nat.lt_irrefl _)⟩⟩, OnlyS.of_below hB⟩
  rcases hr with rfl | ⟨rb, hrb, ⟨k, l, rfl, hkl, hlm, hO⟩, p1, p2⟩
  · by_cases h0 : 0 < (Wh.limbs a).length + (Wh.limbs b).length
    · exact new _ _ _ rfl h0
    · have ha : Wh.limbs a = [] := List.eq_nil_of_length_eq_zero (by omega)
      have hb : Wh.limbs b = [] := List.eq_nil_of_length_eq_zero (by omega)
      obtain ⟨a1, c1, rfl⟩ := h1.len
      obtain ⟨a2, c2, rfl⟩ := h2.len
      rw [ha, hb]
      refine (multiply_nil w a1 a2 c1 c2).mono ?_
      rintro e w' ⟨rfl, rfl⟩
      rw [Wh.limbs_nil.1 ha, Nat.zero_mul, Wh.limbs_zero]
      exact ⟨⟨_, _, _, rfl, .inl ⟨rfl, rfl⟩, .inl rfl⟩, OnlyS.refl _ _⟩
  · by_cases hc : l.length < (Wh.limbs a).length + (Wh.limbs b).length
    · exact new _ _ _ rfl hc
    · refine (multiply_reused w rb k l hO v1 v2 _ _ h1 h2 p1 p2 (Wh.ok_limbs a) (Wh.ok_limbs b) (by omega) hlm (.inl (by omega))).mono ?_
      rintro e w' ⟨⟨v', rfl, hs, hR⟩, hB⟩
      rw [Wh.val_limbs, Wh.val_limbs] at hs
      obtain ⟨k', l', rfl, h3, h4, h5⟩ := hR
      refine ⟨⟨_, _, _, rfl, hs, .inr ⟨rb, hrb, ⟨k', l', rfl, h3, h4, h5⟩, fun _ => ⟨_, _, rfl⟩⟩⟩, hB.os, hB.tape, hB.output, hB.size, fun i h6 h7 => hB.block i (fun e => h6 ?_) h7⟩
      subst e
      exact ⟨hrb, _, _, rfl⟩
/-- away from the loop's own blocks n to n+2 -/
def Off (n : Nat) (v : Value) : Prop := ∀ k, n ≤ k → k ≤ n + 2 → Apart k v
theorem Sl.onlyS {S : Nat → Prop} {w w' : World} {v : Value} {l : List Nat} (h : Sl w v l) (ho : OnlyS S w w') (ha : ∀ k, S k → Apart k v) : Sl w' v l := by
  rcases h with h | ⟨b', off, cap, rfl, h2, h3, h4⟩
  · exact .inl h
  · have hne : ¬ S b' := fun e => ha _ e _ _ _ rfl rfl
    exact .inr ⟨b', off, cap, rfl, h2, Nat.lt_of_lt_of_le h3 ho.size, fun i hi => (ho.cell (p := ⟨b', off + i, none⟩) hne h3).trans (h4 i hi)⟩
/-- the state: square s, result t, each below M, and the room -/
structure PMS (w : World) (n b1 b2 b3 M s t : Nat) (v1 v2 v3 : Value) : Prop where
  c1 : w.cell? ⟨b1, 0, none⟩ = some v1
  c2 : w.cell? ⟨b2, 0, none⟩ = some v2
  c3 : w.cell? ⟨b3, 0, none⟩ = some v3
  f1 : w.frozen? ⟨b1, 0, none⟩ = false
  f2 : w.frozen? ⟨b2, 0, none⟩ = false
  f3 : w.frozen? ⟨b3, 0, none⟩ = false
  s1 : Sl w v1 (Wh.limbs s)
  s2 : Sl w v2 (Wh.limbs t)
  l1 : s < M
  l2 : t < M
  o1 : Off n v1
  o2 : Off n v2
  room : v3 = .slice none 0 0 ∨ ∃ rb, n + 3 ≤ rb ∧ RoomAt w rb v3 ∧ Apart rb v1 ∧ Apart rb v2
theorem RoomAt.onlyS {S : Nat → Prop} {w w' : World} {rb : Nat} {v : Value} (h : RoomAt w rb v) (ho : OnlyS S w w') (hs : ¬ S rb) : RoomAt w' rb v := by
  obtain ⟨k, l, e, h1, h2, h3⟩ := h
  exact ⟨k, l, e, h1, h2, Nat.lt_of_lt_of_le h3.lt ho.size, fun i hi => (ho.cell (p := ⟨rb, i, none⟩) hs h3.lt).trans (h3.cell i hi), fun i hi => (ho.frozen (p := ⟨rb, i, none⟩) hs h3.lt).trans (h3.free i hi)⟩
theorem RoomAt.lt {w : World} {rb : Nat} {v : Value} (h : RoomAt w rb v) : rb < w.heap.size := by
  obtain ⟨_, _, _, _, _, h3⟩ := h; exact h3.lt
/-- what the loop's own blocks do does not touch the state -/
theorem PMS.mine {w w' : World} {n b1 b2 b3 M s t : Nat} {v1 v2 v3 : Value} (h : PMS w n b1 b2 b3 M s t v1 v2 v3) (hb : b1 < n ∧ b2 < n ∧ b3 < n) (hw : n ≤ w.heap.size) (ho : OnlyS (Mine n) w w') : PMS w' n b1 b2 b3 M s t v1 v2 v3 := by
  obtain ⟨e1, e2, e3⟩ := hb
  have no : ∀ b, b < n → ¬ Mine n b := fun b hb hm => by have := hm.1; omega
  refine ⟨(ho.cell (p := ⟨b1, 0, none⟩) (no _ e1) (Nat.lt_of_lt_of_le e1 hw)).trans h.c1, (ho.cell (p := ⟨b2, 0, none⟩) (no _ e2) (Nat.lt_of_lt_of_le e2 hw)).trans h.c2, (ho.cell (p := ⟨b3, 0, none⟩) (no _ e3) (Nat.lt_of_lt_of_le e3 hw)).trans h.c3,
    (ho.frozen (p := ⟨b1, 0, none⟩) (no _ e1) (Nat.lt_of_lt_of_le e1 hw)).trans h.f1, (ho.frozen (p := ⟨b2, 0, none⟩) (no _ e2) (Nat.lt_of_lt_of_le e2 hw)).trans h.f2, (ho.frozen (p := ⟨b3, 0, none⟩) (no _ e3) (Nat.lt_of_lt_of_le e3 hw)).trans h.f3,
    h.s1.onlyS ho (fun k hk => h.o1 k hk.1 hk.2), h.s2.onlyS ho (fun k hk => h.o2 k hk.1 hk.2), h.l1, h.l2, h.o1, h.o2, ?_⟩
  rcases h.room with e | ⟨rb, h1, h2, h3, h4⟩
  · exact .inl e
  · exact .inr ⟨rb, h1, h2.onlyS ho (fun hm => by have := hm.2; omega), h3, h4⟩
/-- multiply's answer lies in the room -/
structure PMR (w : World) (n b1 b2 b3 M s t z : Nat) (v1 v2 v3 : Value) : Prop extends PMS w n b1 b2 b3 M s t v1 v2 v3 where
  s3 : Sl w v3 (Wh.limbs z)
/-- multiply in the state's room, and its answer stored there -/
theorem PMS.mul {w w1 : World} {n b1 b2 b3 M s t z : Nat} {v1 v2 v3 : Value} {p : Option Addr} {m c : Nat} (h : PMS w n b1 b2 b3 M s t v1 v2 v3) (hb : b1 < n ∧ b2 < n ∧ b3 < n) (hd : b3 ≠ b1 ∧ b3 ≠ b2) (hn : n + 3 ≤ w.heap.size)
    (hs : Sl w1 (.slice p m c) (Wh.limbs z)) (hr : .slice p m c = Value.slice none 0 0 ∨ ∃ rb, n + 3 ≤ rb ∧ RoomAt w1 rb (.slice p m c) ∧ (rb < w.heap.size → ∃ k c', v3 = .slice (some ⟨rb, 0, none⟩) k c'))
    (ho : OnlyS (fun k => n + 3 ≤ k ∧ ∃ m c, v3 = .slice (some ⟨k, 0, none⟩) m c) w w1) :
    PMR (w1.setCell ⟨b3, 0, none⟩ (.slice p m c)) n b1 b2 b3 M s t z v1 v2 (.slice p m c) := by
  obtain ⟨e1, e2, e3⟩ := hb
  have no : ∀ b, b < n → ¬ (n + 3 ≤ b ∧ ∃ m c, v3 = .slice (some ⟨b, 0, none⟩) m c) := fun b hb hm => by have := hm.1; omega
  have C1 := (ho.cell (p := ⟨b1, 0, none⟩) (no _ e1) (by show b1 < _; omega)).trans h.c1
  have C2 := (ho.cell (p := ⟨b2, 0, none⟩) (no _ e2) (by show b2 < _; omega)).trans h.c2
  have C3 := (ho.cell (p := ⟨b3, 0, none⟩) (no _ e3) (by show b3 < _; omega)).trans h.c3
  have F1 := (ho.frozen (p := ⟨b1, 0, none⟩) (no _ e1) (by show b1 < _; omega)).trans h.f1
  have F2 := (ho.frozen (p := ⟨b2, 0, none⟩) (no _ e2) (by show b2 < _; omega)).trans h.f2
  have F3 := (ho.frozen (p := ⟨b3, 0, none⟩) (no _ e3) (by show b3 < _; omega)).trans h.f3
  have ap : ∀ k, (n + 3 ≤ k ∧ ∃ m c, v3 = .slice (some ⟨k, 0, none⟩) m c) → Apart k v1 ∧ Apart k v2 := by
    rintro k ⟨_, m, c, e⟩
    rcases h.room with e' | ⟨rb, _, ⟨_, _, e', _⟩, h3, h4⟩
    · rw [e] at e'; cases e'
    · rw [e] at e'; cases e'; exact ⟨h3, h4⟩
  have S1 := h.s1.onlyS ho (fun k hk => (ap k hk).1)
  have S2 := h.s2.onlyS ho (fun k hk => (ap k hk).2)
  have nl : ∀ k, v3 ≠ .int .u32 k := by
    intro k e
    rcases h.room with e' | ⟨_, _, ⟨_, _, e', _⟩, _⟩ <;> rw [e] at e' <;> cases e'
  have store : ∀ (v : Value) (l : List Nat), Sl w1 v l → Sl (w1.setCell ⟨b3, 0, none⟩ (.slice p m c)) v l := fun v l hv => hv.store _ C3 nl _
  refine ⟨⟨?_, ?_, World.cell?_setCell_same _ _ _ C3, by rw [World.frozen?_setCell]; exact F1, by rw [World.frozen?_setCell]; exact F2, by rw [World.frozen?_setCell]; exact F3, store _ _ S1, store _ _ S2, h.l1, h.l2, h.o1, h.o2, ?_⟩, store _ _ hs⟩
  · rw [World.cell?_setCell_other _ _ _ _ (by intro e; exact hd.1 (congrArg Addr.block e))]; exact C1
  · rw [World.cell?_setCell_other _ _ _ _ (by intro e; exact hd.2 (congrArg Addr.block e))]; exact C2
  · rcases hr with e | ⟨rb, h1, h2, h3⟩
    · exact .inl e
    · refine .inr ⟨rb, h1, ?_, ?_⟩
      · obtain ⟨k, l, e, h5, h6, h7⟩ := h2
        have hne : rb ≠ b3 := by omega
        exact ⟨k, l, e, h5, h6, by simpa using h7.lt, fun i hi => by rw [World.cell?_setCell_other _ _ _ _ (by intro e; exact hne (congrArg Addr.block e).symm)]; exact h7.cell i hi, fun i hi => by rw [World.frozen?_setCell]; exact h7.free i hi⟩
      · by_cases hlt : rb < w.heap.size
        · obtain ⟨k, c', e⟩ := h3 hlt
          exact ap rb ⟨h1, k, c', e⟩
        · exact ⟨apart_of_sl h.s1 (by omega), apart_of_sl h.s2 (by omega)⟩
theorem PMR.mono {w w' : World} {n b1 b2 b3 M s t z : Nat} {v1 v2 v3 : Value} (h : PMR w n b1 b2 b3 M s t z v1 v2 v3) (hb : b1 < n ∧ b2 < n ∧ b3 < n) (hn : n + 3 ≤ w.heap.size) (hB : Below w.heap.size w w') : PMR w' n b1 b2 b3 M s t z v1 v2 v3 := by
  obtain ⟨e1, e2, e3⟩ := hb
  refine ⟨⟨(hB.cell (p := ⟨b1, 0, none⟩) (by show b1 < _; omega)).trans h.c1, (hB.cell (p := ⟨b2, 0, none⟩) (by show b2 < _; omega)).trans h.c2, (hB.cell (p := ⟨b3, 0, none⟩) (by show b3 < _; omega)).trans h.c3,
    (hB.frozen (p := ⟨b1, 0, none⟩) (by show b1 < _; omega)).trans h.f1, (hB.frozen (p := ⟨b2, 0, none⟩) (by show b2 < _; omega)).trans h.f2, (hB.frozen (p := ⟨b3, 0, none⟩) (by show b3 < _; omega)).trans h.f3,
    h.s1.mono hB, h.s2.mono hB, h.l1, h.l2, h.o1, h.o2, ?_⟩, h.s3.mono hB⟩
  rcases h.room with e | ⟨rb, h1, h2, h3, h4⟩
  · exact .inl e
  · exact .inr ⟨rb, h1, h2.onlyS (OnlyS.of_below (S := fun _ => False) hB) (fun hm => hm), h3, h4⟩
theorem sl_nl {w : World} {v : Value} {l : List Nat} (h : Sl w v l) : ∀ k, v ≠ .int .u32 k := by
  obtain ⟨a, c, rfl⟩ := h.len; intro k e; cases e
theorem RoomAt.store {w : World} {rb b : Nat} {v : Value} (h : RoomAt w rb v) (hne : b ≠ rb) (x : Value) : RoomAt (w.setCell ⟨b, 0, none⟩ x) rb v := by
  obtain ⟨k, l, e, h5, h6, h7⟩ := h
  exact ⟨k, l, e, h5, h6, by simpa using h7.lt, fun i hi => by rw [World.cell?_setCell_other _ _ _ _ (by intro e; exact hne (congrArg Addr.block e))]; exact h7.cell i hi, fun i hi => by rw [World.frozen?_setCell]; exact h7.free i hi⟩
theorem fresh_apart {p : Option Addr} {m c k B : Nat} (hf : ∀ q, p = some q → B ≤ q.block) (hk : k < B) : Apart k (.slice p m c) := by
  rintro q _ _ e; cases e; have := hf q rfl; omega
/-- the rest becomes the square -/
theorem PMR.rest1 {w w1 : World} {n b1 b2 b3 M s t z : Nat} {v1 v2 v3 : Value} {p : Option Addr} {m c : Nat} (h : PMR w n b1 b2 b3 M s t z v1 v2 v3) (hb : b1 < n ∧ b2 < n ∧ b3 < n) (hd : b1 ≠ b2 ∧ b1 ≠ b3) (hn : n + 3 ≤ w.heap.size) (hB : Below w.heap.size w w1) (hM : 0 < M)
    (hs : Sl w1 (.slice p m c) (Wh.limbs (z % M))) (hf : ∀ q, p = some q → w.heap.size ≤ q.block) : PMS (w1.setCell ⟨b1, 0, none⟩ (.slice p m c)) n b1 b2 b3 M (z % M) t (.slice p m c) v2 v3 := by
  have g := h.mono hb hn hB
  have nl := sl_nl g.s1
  refine ⟨World.cell?_setCell_same _ _ _ g.c1, ?_, ?_, by rw [World.frozen?_setCell]; exact g.f1, by rw [World.frozen?_setCell]; exact g.f2, by rw [World.frozen?_setCell]; exact g.f3, hs.store _ g.c1 nl _, g.s2.store _ g.c1 nl _, Nat.mod_lt _ hM, h.l2, fun k _ h2 => fresh_apart hf (by omega), h.o2, ?_⟩
  · rw [World.cell?_setCell_other _ _ _ _ (by intro e; exact hd.1 (congrArg Addr.block e))]; exact g.c2
  · rw [World.cell?_setCell_other _ _ _ _ (by intro e; exact hd.2 (congrArg Addr.block e))]; exact g.c3
  · rcases h.room with e | ⟨rb, h1, h2, h3, h4⟩
    · exact .inl e
    · rcases g.room with e | ⟨rb', h1', h2', h3', h4'⟩
      · exact .inl e
      · have e : rb' = rb := by
          obtain ⟨_, _, e, _⟩ := h2; obtain ⟨_, _, e', _⟩ := h2'; rw [e] at e'; injection e' with e' _ _; injection e' with e'; injection e' with e' _ _; exact e'.symm
        subst e
        exact .inr ⟨rb', h1, h2'.store (by omega) _, fresh_apart hf h2.lt, h4⟩
/-- the rest becomes the result -/
theorem PMR.rest2 {w w1 : World} {n b1 b2 b3 M s t z : Nat} {v1 v2 v3 : Value} {p : Option Addr} {m c : Nat} (h : PMR w n b1 b2 b3 M s t z v1 v2 v3) (hb : b1 < n ∧ b2 < n ∧ b3 < n) (hd : b2 ≠ b1 ∧ b2 ≠ b3) (hn : n + 3 ≤ w.heap.size) (hB : Below w.heap.size w w1) (hM : 0 < M)
    (hs : Sl w1 (.slice p m c) (Wh.limbs (z % M))) (hf : ∀ q, p = some q → w.heap.size ≤ q.block) : PMS (w1.setCell ⟨b2, 0, none⟩ (.slice p m c)) n b1 b2 b3 M s (z % M) v1 (.slice p m c) v3 := by
  have g := h.mono hb hn hB
  have nl := sl_nl g.s2
  refine ⟨?_, World.cell?_setCell_same _ _ _ g.c2, ?_, by rw [World.frozen?_setCell]; exact g.f1, by rw [World.frozen?_setCell]; exact g.f2, by rw [World.frozen?_setCell]; exact g.f3, g.s1.store _ g.c2 nl _, hs.store _ g.c2 nl _, h.l1, Nat.mod_lt _ hM, h.o1, fun k _ h2 => fresh_apart hf (by omega), ?_⟩
  · rw [World.cell?_setCell_other _ _ _ _ (by intro e; exact hd.1 (congrArg Addr.block e))]; exact g.c1
  · rw [World.cell?_setCell_other _ _ _ _ (by intro e; exact hd.2 (congrArg Addr.block e))]; exact g.c3
  · rcases h.room with e | ⟨rb, h1, h2, h3, h4⟩
    · exact .inl e
    · rcases g.room with e | ⟨rb', h1', h2', h3', h4'⟩
      · exact .inl e
      · have e : rb' = rb := by
          obtain ⟨_, _, e, _⟩ := h2; obtain ⟨_, _, e', _⟩ := h2'; rw [e] at e'; injection e' with e' _ _; injection e' with e'; injection e' with e' _ _; exact e'.symm
        subst e
        exact .inr ⟨rb', h1, h2'.store (by omega) _, h3, fresh_apart hf h2.lt⟩
/-- divideLimbs of the room by a number of one limb -/
theorem div_room (w : World) (va vb : Value) (z M : Nat) (ha : Sl w va (Wh.limbs z)) (hl : (Wh.limbs z).length ≤ 1000) (hvb : Sl w vb (Wh.limbs M)) (hM : 0 < M ∧ M < 1000000000) :
    Calls Tryz.prog 190 #[va, vb] w fun e w' => (∃ q k d p m c, e = .returned (.tuple #[.slice q k d, .slice p m c]) ∧ (∀ a, p = some a → w.heap.size ≤ a.block) ∧ Sl w' (.slice p m c) (Wh.limbs (z % M))) ∧ Below w.heap.size w w' := by
  have e : Wh.limbs M = [M] := limbs_one_of hM
  rw [e] at hvb
  refine (divideLimbs_fresh w va vb _ M ha (Wh.ok_limbs z) hl hvb ⟨hM.1, by omega⟩).mono ?_
  rintro e w' ⟨⟨aq, cq, ar, cr, rfl, hf, h1, h2⟩, hB⟩
  have e2 : Wh.trimL [Wh.val (Wh.limbs z) % M] = Wh.limbs (z % M) := by
    rw [Wh.val_limbs]; unfold Wh.trimL; simp [Wh.val]
  rw [e2] at h2 ⊢
  exact ⟨⟨_, _, _, _, _, _, rfl, hf, h2⟩, hB⟩
end Go.Proofs.YteaeloeebfdodaaGreatDoor

/- WALKS, PowerModulo 4: what its loop says from round to round. -/
namespace Wh
theorem emod_pow (x m : Int) (N : Nat) : (x % m) ^ N % m = x ^ N % m := by
  induction N with
  | zero => rw [Int.pow_zero, Int.pow_zero]
  | succ N ih => rw [Int.pow_succ, Int.pow_succ, Int.mul_emod, ih, Int.emod_emod, ← Int.mul_emod]
/-- the power as the loop makes it, by the rests alone -/
theorem pow_rests (x m : Int) (N : Nat) (hm : 0 < m) : ((1 : Int).fmod m).natAbs * (x.fmod m).natAbs ^ N % m.natAbs = ((x ^ N).fmod m).natAbs := by
  have h1 : 0 ≤ (1 : Int) % m := Int.emod_nonneg _ (by omega)
  have h2 : 0 ≤ x % m := Int.emod_nonneg _ (by omega)
  have h3 : 0 ≤ x ^ N % m := Int.emod_nonneg _ (by omega)
  rw [Int.fmod_eq_emod_of_nonneg _ (by omega), Int.fmod_eq_emod_of_nonneg _ (by omega), Int.fmod_eq_emod_of_nonneg _ (by omega)]
  apply Int.ofNat_inj.1
  rw [Int.natCast_emod, Int.natCast_mul, Int.natCast_pow, Int.natAbs_of_nonneg h1, Int.natAbs_of_nonneg h2, Int.natAbs_of_nonneg h3, Int.natAbs_of_nonneg (by omega), Int.mul_emod, Int.emod_emod, emod_pow, ← Int.mul_emod, Int.one_mul]
theorem fmod_natAbs_lt (x m : Int) (hm : 0 < m) : (x.fmod m).natAbs < m.natAbs := by
  have h1 := Int.fmod_nonneg_of_pos x hm
  have h2 := Int.fmod_lt_of_pos x hm
  omega
theorem dg_next {V N x : Nat} {pre : List Nat} (he : pre ++ dg 2 V = dg 2 N) (hp : pre ++ [x] <+: dg 2 N) : 0 < V ∧ x = V % 2 ∧ (pre ++ [x]) ++ dg 2 (V / 2) = dg 2 N := by
  obtain ⟨r, hr⟩ := hp
  rw [← he, List.append_assoc] at hr
  have h := List.append_cancel_left hr
  rcases Nat.eq_zero_or_pos V with e | e
  · subst e; rw [dg_zero] at h; simp at h
  · rw [dg_pos (by decide) e] at h
    simp only [List.singleton_append, List.cons.injEq] at h
    refine ⟨e, h.1, ?_⟩
    rw [← he, dg_pos (by decide) e, h.1]; simp
end Wh
namespace Go.Proofs.YteaeloeebfdodaaGreatDoor
open Go.RowKit Go.Proofs.Rf
/-- what a round may write, apart from memory that it makes -/
def Wrote (n b1 b2 b3 : Nat) : Nat → Prop := fun k => k = b1 ∨ k = b2 ∨ k = b3 ∨ n ≤ k
def PMI (W5 : World) (b1 b2 b3 M N T : Nat) (pre : List Nat) (W : World) : Prop :=
  ∃ V s t v1 v2 v3, pre ++ Wh.dg 2 V = Wh.dg 2 N ∧ t * s ^ V % M = T ∧ PMS W W5.heap.size b1 b2 b3 M s t v1 v2 v3 ∧ OnlyS (Wrote W5.heap.size b1 b2 b3) W5 W
theorem PMI.mine {W5 A B : World} {b1 b2 b3 M N T : Nat} {pre : List Nat} (h : PMI W5 b1 b2 b3 M N T pre A) (hb : b1 < W5.heap.size ∧ b2 < W5.heap.size ∧ b3 < W5.heap.size) (ho : OnlyS (Mine W5.heap.size) A B) : PMI W5 b1 b2 b3 M N T pre B := by
  obtain ⟨V, s, t, v1, v2, v3, h1, h2, h3, h4⟩ := h
  exact ⟨V, s, t, v1, v2, v3, h1, h2, h3.mine hb h4.size ho, h4.trans (ho.mono fun k _ hk => .inr (.inr (.inr hk.1)))⟩
/-- the room's cell after multiply -/
theorem PMS.kept {w w1 : World} {n b1 b2 b3 M s t : Nat} {v1 v2 v3 : Value} (h : PMS w n b1 b2 b3 M s t v1 v2 v3) (hb : b3 < n) (hn : n + 3 ≤ w.heap.size) (ho : OnlyS (fun k => n + 3 ≤ k ∧ ∃ m c, v3 = .slice (some ⟨k, 0, none⟩) m c) w w1) :
    w1.cell? ⟨b3, 0, none⟩ = some v3 ∧ w1.frozen? ⟨b3, 0, none⟩ = false := by
  have no : ¬ (n + 3 ≤ b3 ∧ ∃ m c, v3 = .slice (some ⟨b3, 0, none⟩) m c) := fun hm => by have := hm.1; omega
  exact ⟨(ho.cell (p := ⟨b3, 0, none⟩) no (by show b3 < _; omega)).trans h.c3, (ho.frozen (p := ⟨b3, 0, none⟩) no (by show b3 < _; omega)).trans h.f3⟩
end Go.Proofs.YteaeloeebfdodaaGreatDoor
