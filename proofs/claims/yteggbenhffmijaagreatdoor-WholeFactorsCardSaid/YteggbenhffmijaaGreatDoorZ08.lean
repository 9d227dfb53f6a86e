/- Part 8 of the proofs that laws of package whole answer true at every input and leave the input as it was, where the library's variables start as the text lays them (the texts D10, P2, Q5, Q3, Q4, Q6). -/
import Derived.Test.YteggbenhffmijaaGreatDoorZ07
import Derived.RangeFuncNested
import Derived.RangeFuncBound
import Derived.Shelf.Abstract
import Derived.Shelf.RegionOpen
import Derived.OwnWalkIn
import Derived.TacticsInMore
import Derived.LoopNIn
import Derived.LoopIn
import Derived.Deep.OwnRows
import Derived.WalkKit
import Derived.Test.YteggbenhffmijaaGreatDoorZ01
import Derived.Test.YteggbenhffmijaaGreatDoorZ02
set_option linter.unusedVariables false
set_option linter.unusedSimpArgs false
/- WALKS, digits in a base 3: the iterator. -/
namespace Go.Proofs.YteggbenhffmijaaGreatDoor
open Go.RowKit Go.Shelf Go.Proofs.Rf
attribute [local go_sem] Oper.semAt_some
/-- the limbs that a slice has in memory, read off the world -/
def limbsAt (w : World) : Value → List Nat
  | .slice (some p) n _ => (List.range n).map fun i => match w.cell? ⟨p.block, p.off + i, none⟩ with
    | some (.int _ z) => z.toNat
    | _ => 0
  | _ => []
theorem limbsAt_own {w : World} {b : Nat} {l : List Nat} (h : Own w b l) (c : Nat) : limbsAt w (.slice (some ⟨b, 0, none⟩) l.length c) = l := by
  unfold limbsAt
  apply List.ext_getElem
  · simp
  · intro i h1 h2
    have := h.cell i h2
    simp [this, List.getD, h2]
theorem Own.trim {w : World} {b : Nat} {l : List Nat} (h : Own w b l) (ho : Wh.Ok l) : Own w b (Wh.trimL l) := by
  have hl := Wh.trimL_length ho
  exact ⟨h.lt, fun i hi => by rw [h.cell i (by omega), Wh.trimL_getD ho hi], fun i hi => h.free i (by omega)⟩
theorem Own.keep {w w' : World} {b : Nat} {l : List Nat} (h : Own w b l) (hk : w'.heap[b]? = w.heap[b]?) (hs : w.heap.size ≤ w'.heap.size) : Own w' b l :=
  ⟨Nat.lt_of_lt_of_le h.lt hs, fun i hi => (World.cell?_of_block (a := ⟨b, i, none⟩) hk).trans (h.cell i hi), fun i hi => (World.frozen?_of_block (a := ⟨b, i, none⟩) hk).trans (h.free i hi)⟩
theorem Dig.keep {W W' : World} {n : Nat} {v : Value} {b u : Nat} (h : Dig W n v b u) (hk : ∀ k, n ≤ k → k ≤ n + 3 → W'.heap[k]? = W.heap[k]?) (hs : W.heap.size ≤ W'.heap.size) : Dig W' n v b u :=
  ⟨(World.cell?_of_block (a := ⟨n, 0, none⟩) (hk n (by omega) (by omega))).trans h.c0, (World.cell?_of_block (a := ⟨n + 1, 0, none⟩) (hk (n + 1) (by omega) (by omega))).trans h.c1, (World.cell?_of_block (a := ⟨n + 1 + 1, 0, none⟩) (hk (n + 1 + 1) (by omega) (by omega))).trans h.c2, (World.cell?_of_block (a := ⟨n + 1 + 1 + 1, 0, none⟩) (hk (n + 1 + 1 + 1) (by omega) (by omega))).trans h.c3,
    (World.frozen?_of_block (a := ⟨n + 1 + 1 + 1, 0, none⟩) (hk (n + 1 + 1 + 1) (by omega) (by omega))).trans h.f3, Nat.le_trans h.size hs⟩
theorem Only.toS {b : Nat} {w w' : World} (h : Only b w w') : OnlyS (fun k => k = b) w w' := ⟨h.os, h.tape, h.output, h.size, h.block⟩
/-- what the iterator keeps between two rounds: the rest q, what is still to come V -/
structure ItI (wr : World) (r n0 : Nat) (v : Value) (b N : Nat) (J : List Nat → World → Prop) (q V : Nat) : Prop where
  seen : ∃ pre, pre ++ Wh.dg b V = Wh.dg b N ∧ J pre wr
  own : Own wr r (Wh.limbs q)
  dig : Dig wr n0 v b (b ^ togN b)
theorem ItI.take {wr : World} {r n0 : Nat} {v : Value} {b N : Nat} {J : List Nat → World → Prop} {q p k : Nat} (h : ItI wr r n0 v b N J q (q * b ^ (k + 1) + p)) (hb : 2 ≤ b) (hv : 0 < q ∨ 0 < p) :
    ∃ pre, J pre wr ∧ (pre ++ [p % b]) ++ Wh.dg b (q * b ^ k + p / b) = Wh.dg b N ∧ pre ++ [p % b] <+: Wh.dg b N := by
  obtain ⟨pre, he, hJ⟩ := h.seen
  rw [Wh.dg_inner hb hv] at he
  refine ⟨pre, hJ, by rw [← he]; simp, ⟨Wh.dg b (q * b ^ k + p / b), by rw [← he]; simp⟩⟩
set_option maxRecDepth 100000 in
set_option maxHeartbeats 2000000 in
theorem iter_any (N b n0 l r n : Nat) (J : List Nat → World → Prop) (hb : 2 ≤ b ∧ b ≤ 36) (hn : 1 ≤ n) (v : Value) (W : World) (hr : W.heap.size = r) (hn0 : n0 + 4 ≤ r) (hd : Dig W n0 v b (b ^ togN b)) (hs : Sl W v (Wh.limbs N)) (hN : (Wh.limbs N).length ≤ 1000)
    (hJ : ∀ s A B, J s A → OnlyS (fun k => k = r) A B → J s B)
    (hY : ∀ pre x W1, J pre W1 → r < W1.heap.size → pre ++ [x] <+: Wh.dg b N → YieldAt Fence.wide (n - 1) Tryz.prog l #[.int .u32 (x : Nat)] W1 fun e W' => e = .returned (.bool true) ∧ J (pre ++ [x]) W' ∧ (∀ k, (k = r ∨ (n0 ≤ k ∧ k ≤ n0 + 3)) → k < W1.heap.size → W'.heap[k]? = W1.heap[k]?) ∧ W1.heap.size ≤ W'.heap.size)
    (h0 : J [] W) :
    CallsIn Fence.wide n Tryz.prog 311 #[.func (.yield l) #[] #[], .pointer (some ⟨n0, 0, none⟩), .pointer (some ⟨n0 + 1 + 1 + 1, 0, none⟩), .pointer (some ⟨n0 + 1, 0, none⟩), .pointer (some ⟨n0 + 1 + 1, 0, none⟩)] W fun e W' => (∃ v, e = .returned v) ∧ J (Wh.dg b N) W' := by
  have hpt := pow_tog b hb.2
  have htl := tog_le b
  have HJ := Lib.hid hJ; clear hJ
  have HY := Lib.hid hY; clear hY
  have HS := Lib.hid hs; clear hs
  have H0 := Lib.hid h0; clear h0
  have HD := Lib.hid hd
  have HPT := Lib.hid hpt; clear hpt
  obtain ⟨hb1, hb2⟩ := hb
  have d0 := hd.c0
  clear hd
  have HC := Lib.hid (copied_any W v (Wh.limbs N) HS.out (by omega))
  have HR := Lib.hid hr
  rw [hr] at HC
  clear hr
  refine callsIn_of_wp Tryz.func311 rfl trivial ?_ rfl
  simp only [Tryz.ntmps311, List.size_toArray, List.length_cons, List.length_nil, Nat.reduceAdd, Nat.reduceSub, Array.replicate_succ, Array.replicate_zero, List.push_toArray, List.append_toArray, List.nil_append, List.cons_append]
  gi_wp2_with (refine ⟨trivial, ?_⟩; gi_at_call 312; refine (callsIn_wide.2 HC.out).mono ?_; rintro e W1 ⟨rfl, hO1, hB1⟩)
  have HI1 : Hid (ItI W1 r n0 v b N J N N) := Lib.hid ⟨⟨[], rfl, HJ.out _ _ _ H0.out (OnlyS.of_below (by rw [HR.out]; exact hB1))⟩, hO1, HD.out.mono hB1 hn0⟩
  clear hO1 hB1 HC HD H0 HS d0
  have hu0 : 0 < b ^ togN b := Nat.pow_pos (by omega)
  have hu1 : b ^ togN b ≤ 1000000000 := HPT.out
  obtain ⟨u, hu⟩ : ∃ u, u = b ^ togN b := ⟨_, rfl⟩
  obtain ⟨T, hT⟩ : ∃ T, T = togN b := ⟨_, rfl⟩
  rw [← hu] at hu0 hu1
  rw [← hT] at htl hu
  have HU := Lib.hid hu; clear hu HPT
  have HT := Lib.hid hT; clear hT
  gi_loopw [6] (fun rest wr => ∃ q cap : Nat, rest = .slice (some ⟨r, 0, none⟩) (Wh.limbs q).length cap ∧ (Wh.limbs q).length ≤ cap ∧ cap ≤ 1000 ∧ Hid (ItI wr r n0 v b N J q q)) (fun rest wr => Wh.val (limbsAt wr rest))
  case atStart => exact ⟨N, (Wh.limbs N).length, rfl, Nat.le_refl _, hN, HI1⟩
  case round =>
    clear HI1 hN
    obtain ⟨q, cap, rfl, hc1, hc2, HI⟩ := hrel
    have HM := Lib.hid (limbsAt_own HI.out.own cap)
    obtain ⟨wo, rfl⟩ : ∃ wo : World, wo = wr := ⟨_, rfl⟩
    by_cases hq : q = 0
    · subst hq
      have hl0 : (Wh.limbs 0).length = 0 := by rw [Wh.limbs_zero]; rfl
      rw [hl0]
      obtain ⟨pre, he, hJp⟩ := HI.out.seen
      rw [Wh.dg_zero, List.append_nil] at he
      subst he
      gi_wp2
      go_end0
      exact ⟨⟨_, rfl⟩, hJp⟩
    · have hlp : 0 < (Wh.limbs q).length := by
        rcases Nat.eq_zero_or_pos (Wh.limbs q).length with e | e
        · exact absurd (Wh.limbs_nil.1 (List.eq_nil_of_length_eq_zero e)) hq
        · exact e
      have d3 := HI.out.dig.c3
      rw [← HT.out, ← HU.out] at d3
      have HDS := Lib.hid (divideShort_in wo r cap (Wh.limbs q) u (Wh.ok_limbs q) HI.out.own hc1 (by omega) ⟨hu0, hu1⟩)
      rw [Wh.val_limbs] at HDS
      have hp0 : q % u < u := Nat.mod_lt _ hu0
      have hqq : q / u < q := Nat.div_lt_self (by omega) (by
        have h1 : 0 < T := by rw [HT.out]; unfold togN; split <;> (try split) <;> (try split) <;> (try split) <;> omega
        have h2 : b ^ 1 ≤ b ^ T := Nat.pow_le_pow_right (by omega) h1
        rw [← HU.out, Nat.pow_one] at h2
        omega)
      have HV := Lib.hid (Nat.div_add_mod q u)
      generalize hp : q % u = p0 at *
      have HP := Lib.hid hp; clear hp
      generalize hq1 : q / u = q1 at *
      have HQ1 := Lib.hid hq1; clear hq1
      have hdq : decide (0 < (Wh.limbs q).length) = true := by simpa using hlp
      gi_wp2_with (refine ⟨trivial, ?_⟩; gi_at_call 313; refine (callsIn_wide.2 HDS.out).mono ?_; rintro e w2 ⟨rfl, hO2, hQ2⟩)
      have hsl2 := hQ2.sl cap (by rw [Wh.quo_length]; exact hc1)
      rw [Wh.quo_length] at hsl2
      have HTR := Lib.hid (trim_same w2 (some ⟨r, 0, none⟩) (Wh.limbs q).length cap (Wh.quo (Wh.limbs q) u) (Wh.quo_ok _ u hu0 (Wh.ok_limbs q)) hsl2 (by omega))
      have htl1 : Wh.trimL (Wh.quo (Wh.limbs q) u) = Wh.limbs q1 := by rw [Wh.trimL, Wh.val_quo _ _ hu0, Wh.val_limbs, HQ1.out]
      have hown2 := hQ2.trim (Wh.quo_ok _ u hu0 (Wh.ok_limbs q))
      rw [htl1] at HTR hown2
      refine ⟨trivial, ?_⟩
      refine (callsIn_wide.2 HTR.out).mono ?_
      rintro e w3 ⟨rfl, -, rfl⟩
      have hI2 : Hid (ItI w2 r n0 v b N J q1 (q1 * b ^ (T - 0) + p0)) := by
        obtain ⟨pre, he, hJp⟩ := HI.out.seen
        refine Lib.hid ⟨⟨pre, ?_, HJ.out _ _ _ hJp hO2.toS⟩, hown2, HI.out.dig.keep (fun k h1 h2 => hO2.block k (by omega) (by have := HI.out.dig.size; omega)) hO2.size⟩
        rw [Nat.sub_zero, ← HU.out, Nat.mul_comm, HV.out]; exact he
      have hcap1 : (Wh.limbs q1).length ≤ cap := Nat.le_trans (limbs_mono (Nat.le_of_lt hqq)) hc1
      clear HTR hown2 hsl2 hQ2 hO2 HDS d3 HV htl1
      have hlt0 : Hid (p0 < b ^ (T - 0)) := Lib.hid (by rw [Nat.sub_zero, ← HU.out]; exact hp0)
      gi_wp2
      gi_loopw [7, 8] (fun part i wi => ∃ j p : Nat, j ≤ T ∧ i = .int .i64 j ∧ part = .int .u32 p ∧ p < 1000000000 ∧ Hid (p < b ^ (T - j)) ∧ Hid (ItI wi r n0 v b N J q1 (q1 * b ^ (T - j) + p))) (fun _ i _ => T - (intOf i).toNat)
      case atStart => exact ⟨0, p0, Nat.zero_le _, rfl, rfl, by omega, hlt0, hI2⟩
      case round =>
        clear hI2 hlt0
        obtain ⟨j, p, hj, rfl, rfl, hp9, HPB, HI3⟩ := hrel
        have e1 := HI3.out.dig.c1
        have e2 := HI3.out.dig.c2
        rw [← HT.out] at e1
        by_cases hjT : j < T
        · have hdj : decide (j < T) = true := by simpa using hjT
          rcases Nat.eq_zero_or_pos q1 with hq0 | hq0
          · have hl0 : (Wh.limbs q1).length = 0 := by rw [hq0, Wh.limbs_zero]; rfl
            have HL0 := Lib.hid hl0
            rcases Nat.eq_zero_or_pos p with hp00 | hp00
            · have HF : Hid (ItI wr r n0 v b N J q1 q1) := by
                have := HI3.out
                rw [hq0, hp00, Nat.zero_mul, Nat.zero_add] at this
                rw [hq0]; exact Lib.hid this
              subst hp00
              rw [hl0]
              clear hl0 e2
              gi_wp2
              go_roundw
              case rel => exact ⟨q1, cap, by rw [HL0.out], hcap1, hc2, HF⟩
              case measure =>
                have hm := limbsAt_own HF.out.own cap
                rw [HL0.out] at hm
                rw [HM.out, hm, Wh.val_limbs, Wh.val_limbs]; exact hqq
            · have HV0 : 0 < q1 ∨ 0 < p := .inr hp00
              rw [hl0]
              clear hl0
              have hdp : decide ((0 : Int) < (p : Int)) = true := by simp; omega
              have hdp2 : decide (0 < p) = true := by simp; omega
              obtain ⟨k, hk⟩ : ∃ k, T - j = k + 1 := ⟨T - j - 1, by omega⟩
              have HI4 := HI3.out
              have hpb := HPB.out
              rw [hk] at HI4 hpb
              obtain ⟨pre, hJp, he, hpf⟩ := HI4.take hb1 HV0
              have hpb2 := Wh.part_lt hpb
              have hpd : p / b ≤ p := Nat.div_le_self p b
              have hwr : (p : Int) / (b : Int) % 4294967296 = (p : Int) / (b : Int) := by
                rw [show (p : Int) / (b : Int) = ((p / b : Nat) : Int) from rfl]
                generalize p / b = t at *
                omega
              have HWR := Lib.hid hwr; clear hwr
              have HE := Lib.hid he; clear he HI4 hpb
              have HPB2 := Lib.hid hpb2; clear hpb2
              have HK := Lib.hid hk; clear hk
              obtain ⟨fn, tmps, assign, body, hy, hR⟩ := HY.out pre (p % b) wr hJp HI3.out.own.lt hpf
              have hmod : ((p % b : Nat) : Int) = (p : Int) % (b : Int) := rfl
              rw [hmod] at hy
              have HR3 := Lib.hid hR; clear hR hmod hpf hJp
              have hb0 : (0 : Int) < (b : Int) := by omega
              gi_wp2
              refine HR3.out.mono ?_
              rintro e W3 ⟨rfl, hJ3, hk3, hs3⟩
              have hD3 := HI3.out.dig.keep (fun k h1 h2 => hk3 k (.inr ⟨h1, h2⟩) (by have := HI3.out.dig.size; omega)) hs3
              have hO3 := HI3.out.own.keep (hk3 r (.inl rfl) HI3.out.own.lt) hs3
              have HF : Hid (ItI W3 r n0 v b N J q1 (q1 * b ^ k + p / b)) := Lib.hid ⟨⟨_, HE.out, hJ3⟩, hO3, hD3⟩
              have g2 := hD3.c2
              clear hD3 hO3 hJ3 hk3 hs3 HR3 hy e1 e2
              gi_wp2
              go_roundw
              case rel => exact ⟨j + 1, p / b, by omega, by go_num, by simp; exact HWR.out, by omega, Lib.hid (by rw [show T - (j + 1) = k by have := HK.out; omega]; exact HPB2.out), Lib.hid (by rw [show T - (j + 1) = k by have := HK.out; omega]; exact HF.out)⟩
              case measure => simp [intOf]; omega
          · have HV0 : 0 < q1 ∨ 0 < p := .inl hq0
            have hlq : 0 < (Wh.limbs q1).length := by
              rcases Nat.eq_zero_or_pos (Wh.limbs q1).length with e | e
              · have := Wh.limbs_nil.1 (List.eq_nil_of_length_eq_zero e); omega
              · exact e
            have hdl : decide (0 < (Wh.limbs q1).length) = true := by simpa using hlq
            obtain ⟨k, hk⟩ : ∃ k, T - j = k + 1 := ⟨T - j - 1, by omega⟩
            have HI4 := HI3.out
            have hpb := HPB.out
            rw [hk] at HI4 hpb
            obtain ⟨pre, hJp, he, hpf⟩ := HI4.take hb1 HV0
            have hpb2 := Wh.part_lt hpb
            have hpd : p / b ≤ p := Nat.div_le_self p b
            have hwr : (p : Int) / (b : Int) % 4294967296 = (p : Int) / (b : Int) := by
              rw [show (p : Int) / (b : Int) = ((p / b : Nat) : Int) from rfl]
              generalize p / b = t at *
              omega
            have HWR := Lib.hid hwr; clear hwr
            have HE := Lib.hid he; clear he HI4 hpb
            have HPB2 := Lib.hid hpb2; clear hpb2
            have HK := Lib.hid hk; clear hk
            obtain ⟨fn, tmps, assign, body, hy, hR⟩ := HY.out pre (p % b) wr hJp HI3.out.own.lt hpf
            have hmod : ((p % b : Nat) : Int) = (p : Int) % (b : Int) := rfl
            rw [hmod] at hy
            have HR3 := Lib.hid hR; clear hR hmod hpf hJp
            have hb0 : (0 : Int) < (b : Int) := by omega
            gi_wp2
            refine HR3.out.mono ?_
            rintro e W3 ⟨rfl, hJ3, hk3, hs3⟩
            have hD3 := HI3.out.dig.keep (fun k h1 h2 => hk3 k (.inr ⟨h1, h2⟩) (by have := HI3.out.dig.size; omega)) hs3
            have hO3 := HI3.out.own.keep (hk3 r (.inl rfl) HI3.out.own.lt) hs3
            have HF : Hid (ItI W3 r n0 v b N J q1 (q1 * b ^ k + p / b)) := Lib.hid ⟨⟨_, HE.out, hJ3⟩, hO3, hD3⟩
            have g2 := hD3.c2
            clear hD3 hO3 hJ3 hk3 hs3 HR3 hy e1 e2
            gi_wp2
            go_roundw
            case rel => exact ⟨j + 1, p / b, by omega, by go_num, by simp; exact HWR.out, by omega, Lib.hid (by rw [show T - (j + 1) = k by have := HK.out; omega]; exact HPB2.out), Lib.hid (by rw [show T - (j + 1) = k by have := HK.out; omega]; exact HF.out)⟩
            case measure => simp [intOf]; omega
        · obtain rfl : j = T := by omega
          have hdj : decide (j < j) = false := by simp
          have HF : Hid (ItI wr r n0 v b N J q1 q1) := by
            have h1 := HPB.out
            have h2 := HI3.out
            rw [Nat.sub_self, Nat.pow_zero] at h1 h2
            obtain rfl : p = 0 := by omega
            rw [Nat.mul_one, Nat.add_zero] at h2
            exact Lib.hid h2
          gi_wp2
          go_roundw
          case rel => exact ⟨q1, cap, rfl, hcap1, hc2, HF⟩
          case measure => rw [HM.out, limbsAt_own HF.out.own cap, Wh.val_limbs, Wh.val_limbs]; exact hqq
end Go.Proofs.YteggbenhffmijaaGreatDoor

/- A region that draws its order and, but for a tail in one order, only makes memory: each operation is walked once, whatever the order. My own law, beside the library's. -/
namespace Go.Proofs.Rt
open Go Go.RowKit
variable {P : Program} {ops : Array Oper} {Q : Exit → Act → World → Prop} {md : Region.Mode} {T : List Nat}
/-- what an operation looks at it waits for; what it waits for stands before it; it has a slot of its own; it is wanted in any case -/
def plainB (md : Region.Mode) (ops : Array Oper) (T : List Nat) : Bool := (List.range ops.size).all fun i => T.contains i || match ops[i]? with
  | some o => o.guard.isNone && o.dst.isSome && (match o.dst with | some d => !((o.looksAt ops).contains d) | none => true) && (o.after.all fun e => !(Region.binds md e) || (decide (e.on < i) && !(T.contains e.on))) &&
      (List.range ops.size).all fun j => j == i || match ops[j]? with
        | some oj => (oj.dst.isNone || oj.dst != o.dst) && (T.contains j || match oj.dst with
          | some d => !((o.looksAt ops).contains d) || (o.after.any fun e => Region.binds md e && e.on == j)
          | none => true)
        | none => true
  | none => false
structure PlainAt (md : Region.Mode) (ops : Array Oper) (T : List Nat) (i : Nat) (o : Oper) : Prop where
  guard : o.guard = none
  dst : ∃ d, o.dst = some d
  before : ∀ e ∈ o.after, Region.binds md e = true → e.on < i
  noT : ∀ e ∈ o.after, Region.binds md e = true → T.contains e.on = false
  self : ∀ d, o.dst = some d → d ∉ o.looksAt ops
  own : ∀ j oj, ops[j]? = some oj → j ≠ i → ∀ d, oj.dst = some d → o.dst ≠ some d
  looks : ∀ j oj, ops[j]? = some oj → j ≠ i → T.contains j = false → ∀ d, oj.dst = some d → d ∈ o.looksAt ops → ∃ e ∈ o.after, Region.binds md e = true ∧ e.on = j
theorem plain_at (h : plainB md ops T = true) {i : Nat} {o : Oper} (hi : ops[i]? = some o) (hT : T.contains i = false) : PlainAt md ops T i o := by
  have hlt : i < ops.size := (Array.getElem?_eq_some_iff.1 hi).1
  have h1 := List.all_eq_true.1 h i (List.mem_range.2 hlt)
  rw [hT, Bool.false_or, hi] at h1
  simp only [Bool.and_eq_true] at h1
  obtain ⟨⟨⟨⟨h1, h2⟩, h5⟩, h3⟩, h4⟩ := h1
  refine ⟨by simpa using h1, Option.isSome_iff_exists.1 h2, fun e he hb => ?_, fun e he hb => ?_, fun d hd => ?_, fun j oj hj hne d hd => ?_, fun j oj hj hne hTj d hd hl => ?_⟩
  · have := Array.all_eq_true_iff_forall_mem.1 h3 e he
    rw [hb, Bool.not_true, Bool.false_or, Bool.and_eq_true] at this
    exact of_decide_eq_true this.1
  · have := Array.all_eq_true_iff_forall_mem.1 h3 e he
    rw [hb, Bool.not_true, Bool.false_or, Bool.and_eq_true] at this
    simpa using this.2
  · rw [hd] at h5
    simpa using h5
  · have hjl : j < ops.size := (Array.getElem?_eq_some_iff.1 hj).1
    have := List.all_eq_true.1 h4 j (List.mem_range.2 hjl)
    rw [show (j == i) = false from beq_eq_false_iff_ne.2 hne, Bool.false_or, hj] at this
    simp only [Bool.and_eq_true] at this
    have h5 := this.1
    rw [hd] at h5
    intro e
    rw [e] at h5
    simp at h5
  · have hjl : j < ops.size := (Array.getElem?_eq_some_iff.1 hj).1
    have := List.all_eq_true.1 h4 j (List.mem_range.2 hjl)
    rw [show (j == i) = false from beq_eq_false_iff_ne.2 hne, Bool.false_or, hj] at this
    simp only [Bool.and_eq_true] at this
    have h5 := this.2
    rw [hTj, Bool.false_or, hd] at h5
    simp only at h5
    rw [show (o.looksAt ops).contains d = true from by simpa using hl, Bool.not_true, Bool.false_or] at h5
    obtain ⟨e, he, h6⟩ := Array.any_eq_true'.1 h5
    rw [Bool.and_eq_true] at h6
    exact ⟨e, he, h6.1, by simpa using h6.2⟩
/-- every tail operation waits for every other one, but for those of W, which look at their slots alone -/
def tailB (md : Region.Mode) (ops : Array Oper) (T W : List Nat) : Bool := (List.range ops.size).all fun i => T.contains i || W.contains i || T.all fun j => waits md ops i ops.size j
/-- those of W are apart from whatever does not wait for them -/
def freeB (md : Region.Mode) (ops : Array Oper) (W : List Nat) : Bool := W.all fun p => match ops[p]? with
  | some op => (List.range ops.size).all fun j => j == p || (op.after.any fun e => Region.binds md e && e.on == j) || match ops[j]? with
    | some oj => (oj.after.any fun e => Region.binds md e && e.on == p) || op.apart ops oj
    | none => true
  | none => true
theorem free_at {md : Region.Mode} {ops : Array Oper} {W : List Nat} (h : freeB md ops W = true) {p : Nat} {op : Oper} (hp : ops[p]? = some op) (hW : W.contains p = true) {j : Nat} {oj : Oper} (hj : ops[j]? = some oj) (hne : j ≠ p)
    (h1 : ∀ e ∈ op.after, Region.binds md e = true → e.on ≠ j) (h2 : ∀ e ∈ oj.after, Region.binds md e = true → e.on ≠ p) : op.apart ops oj = true := by
  have h3 := List.all_eq_true.1 h p (by simpa using hW)
  rw [hp] at h3
  have hjl : j < ops.size := (Array.getElem?_eq_some_iff.1 hj).1
  have h4 := List.all_eq_true.1 h3 j (List.mem_range.2 hjl)
  rw [hj, show (j == p) = false from beq_eq_false_iff_ne.2 hne, Bool.false_or] at h4
  simp only [Bool.or_eq_true] at h4
  have no : ∀ (o : Oper) (k : Nat), (∀ e ∈ o.after, Region.binds md e = true → e.on ≠ k) → (o.after.any fun e => Region.binds md e && e.on == k) = true → False := fun o k hn ha => by
    obtain ⟨e, he, h⟩ := Array.any_eq_true'.1 ha
    rw [Bool.and_eq_true] at h
    exact hn e he h.1 (by simpa using h.2)
  rcases h4 with h4 | h4 | h4
  · exact (no op j h1 h4).elim
  · exact (no oj p h2 h4).elim
  · exact h4
def listedT (ops : Array Oper) (T : List Nat) : Array Bool := ((List.range ops.size).map fun i => !(T.contains i)).toArray
theorem wp_transfer {o : Oper} {a b : Act} {w : World} {d : Nat} {R : Value → World → Prop} (hd : o.dst = some d) (hs : d < a.tmps.size) (he : execOp b.eval o = execOp a.eval o)
    (h : o.wp P a w (fun a' w' => a'.defers = a.defers ∧ R (a'.eval (.tmp d)) w') (fun _ _ _ => False)) : o.wp P b w (fun b' w' => ∃ v, b' = b.put o.dst v ∧ R v w') Q := by
  have hput : ∀ v : Value, (a.put o.dst v).eval (.tmp d) = v := fun v => by
    rw [hd]; simp [Act.put, Act.eval, hs]
  unfold Oper.wp at *
  rw [he]
  generalize (execOp a.eval o).run P w = r at *
  cases r with
  | ok nx w' =>
    cases nx <;> simp only [Oper.upon] at h ⊢
    case value v => rw [hput] at h; exact ⟨v, rfl, h.2⟩
    case skip => rw [hput] at h; exact ⟨undef, rfl, h.2⟩
    case defer x =>
      obtain ⟨h, _⟩ := h
      rw [hd] at h
      simp only [Act.put] at h
      exact absurd (congrArg List.length h) (by simp)
    case enter f args =>
      refine Calls.mono h fun e w'' he => ?_
      cases e with
      | returned v => simp only at he ⊢; rw [hput] at he; exact ⟨v, rfl, he.2⟩
      | panicked c => exact he.elim
      | outgrown => simp only at he ⊢; exact absurd he (by intro h; obtain ⟨_, _, h⟩ := h; exact h)
    case row row args => exact Rows.mono h fun v w'' he => by rw [hput] at he; exact ⟨v, rfl, he.2⟩
  | halt x w' =>
    cases x <;> simp only [Oper.upon] at h ⊢
/-- the state when all but the tail have come up -/
def fillL (ops : Array Oper) (T : List Nat) (vals : Nat → Value) : List Nat → Act → Act
  | [], a => a
  | i :: l, a => fillL ops T vals l (if T.contains i then a else a.put ((ops[i]?).bind (·.dst)) (vals i))
def fillAll (ops : Array Oper) (T : List Nat) (vals : Nat → Value) (a : Act) : Act := fillL ops T vals (List.range ops.size) a
theorem put_defers (a : Act) (d : Option Tmp) (v : Value) : (a.put d v).defers = a.defers := by cases d <;> rfl
theorem put_size (a : Act) (d : Option Tmp) (v : Value) : (a.put d v).tmps.size = a.tmps.size := by cases d <;> simp [Act.put]
theorem put_get_ne {a : Act} {d : Option Tmp} {v : Value} {t : Nat} (h : d ≠ some t) : (a.put d v).tmps[t]? = a.tmps[t]? := by
  cases d with
  | none => rfl
  | some d => simp [Act.put, Array.getElem?_setIfInBounds_ne (show d ≠ t from fun e => h (by rw [e]))]
theorem put_get {a : Act} {d : Nat} {v : Value} (h : d < a.tmps.size) : (a.put (some d) v).tmps[d]? = some v := by simp [Act.put, h]
theorem fillL_defers (ops : Array Oper) (T : List Nat) (vals : Nat → Value) : ∀ (l : List Nat) (a : Act), (fillL ops T vals l a).defers = a.defers
  | [], _ => rfl
  | i :: l, a => by rw [fillL, fillL_defers]; split <;> simp [put_defers]
theorem fillL_size (ops : Array Oper) (T : List Nat) (vals : Nat → Value) : ∀ (l : List Nat) (a : Act), (fillL ops T vals l a).tmps.size = a.tmps.size
  | [], _ => rfl
  | i :: l, a => by rw [fillL, fillL_size]; split <;> simp [put_size]
theorem fillL_rest {t : Nat} {vals : Nat → Value} : ∀ (l : List Nat) (a : Act), (∀ i ∈ l, T.contains i = false → (ops[i]?).bind (·.dst) ≠ some t) → (fillL ops T vals l a).tmps[t]? = a.tmps[t]?
  | [], _, _ => rfl
  | i :: l, a, h => by
    rw [fillL, fillL_rest l _ fun j hj => h j (List.mem_cons_of_mem _ hj)]
    cases hT : T.contains i with
    | true => simp
    | false => simp only [Bool.false_eq_true, if_false]; exact put_get_ne (h i (List.mem_cons_self ..) hT)
theorem fillL_has {i d : Nat} {vals : Nat → Value} (hT : T.contains i = false) (hd : (ops[i]?).bind (·.dst) = some d) (hown : ∀ j, j ≠ i → (ops[j]?).bind (·.dst) ≠ some d) :
    ∀ (l : List Nat) (a : Act), i ∈ l → d < a.tmps.size → (fillL ops T vals l a).tmps[d]? = some (vals i)
  | [], _, h, _ => by cases h
  | x :: l, a, h, hs => by
    rw [fillL]
    by_cases hl : i ∈ l
    · exact fillL_has hT hd hown l _ hl (by split <;> simpa [put_size] using hs)
    · obtain rfl : i = x := by
        rcases List.mem_cons.1 h with h | h
        · exact h
        · exact absurd h hl
      rw [fillL_rest l _ fun j hj _ => hown j (fun e => hl (e ▸ hj))]
      simp only [hT, Bool.false_eq_true, if_false, hd]
      exact put_get hs
def dstLtB (ops : Array Oper) (m : Nat) : Bool := ops.all fun o => match o.dst with | some d => decide (d < m) | none => true
theorem dstLt {m : Nat} (h : dstLtB ops m = true) {i : Nat} {o : Oper} (hi : ops[i]? = some o) {d : Nat} (hd : o.dst = some d) : d < m := by
  have := Array.all_eq_true_iff_forall_mem.1 h o (Array.mem_of_getElem? hi)
  rw [hd] at this
  exact of_decide_eq_true this
/-- the state on the way -/
structure Grown (md : Region.Mode) (ops : Array Oper) (T : List Nat) (V : World) (a0 : Act) (Φ : Nat → Value → World → Prop) (vals : Nat → Value) (listed : Array Bool) (a : Act) (w : World) : Prop where
  defers : a.defers = a0.defers
  size : a.tmps.size = a0.tmps.size
  rest : ∀ t, (∀ i o, ops[i]? = some o → listed.getD i false = true → o.dst ≠ some t) → a.tmps[t]? = a0.tmps[t]?
  has : ∀ i o d, ops[i]? = some o → listed.getD i false = true → o.dst = some d → a.tmps[d]? = some (vals i)
  below : Below V.heap.size V w
  fact : ∀ i, listed.getD i false = true → Φ i (vals i) w
  closed : Closed md ops listed
  lsize : listed.size = ops.size
  tail : ∀ j, T.contains j = true → listed.getD j false = false
theorem eval_of_get {a b : Act} {x : Operand} (h : ∀ t, x = .tmp t → a.tmps[t]? = b.tmps[t]?) : a.eval x = b.eval x := by
  cases x with
  | tmp t => simp only [Act.eval, Array.getD_eq_getD_getElem?, h t rfl]
  | _ => rfl
theorem count_set {listed : Array Bool} {i : Nat} (hi : i < listed.size) (h : listed.getD i false = false) : (listed.setIfInBounds i true).toList.count true = listed.toList.count true + 1 := by
  have h' : listed.toList[i] = false := by simpa [hi] using h
  rw [Array.toList_setIfInBounds, List.count_set (by simpa using hi)]
  simp [h']
theorem wpAny_grow {n0 m : Nat} {W : List Nat} {V : World} {a0 : Act} {A : (Nat → Value) → Act} {Φ : Nat → Value → World → Prop} (hB : plainB md ops T = true) (hTl : tailB md ops T W = true) (hF : freeB md ops W = true) (hQ : ∀ (c : List PanicEntry) (a : Act) (d : Option Tmp) (v : Value) (w : World), Q (.panic c) (a.put d v) w → Q (.panic c) a w) (hsz : dstLtB ops m = true) (hms : a0.tmps.size = m)
    (hA : ∀ vals, A vals = fillAll ops T vals a0) (hsel : Region.noSelect ops = true) (hTc : (listedT ops T).toList.count true + n0 = ops.size)
    (hst : ∀ i v w w', Φ i v w → Below w.heap.size w w' → Φ i v w')
    (hop : ∀ i o d, ops[i]? = some o → T.contains i = false → W.contains i = false → o.dst = some d → ∀ vals w, Below V.heap.size V w → (∀ j, (o.after.any fun e => Region.binds md e && e.on == j) = true → Φ j (vals j) w) →
      o.wp P (A vals) w (fun a' w' => a'.defers = (A vals).defers ∧ Φ i (a'.eval (.tmp d)) w' ∧ Below w.heap.size w w') (fun _ _ _ => False))
    (hpure : ∀ p o d, ops[p]? = some o → W.contains p = true → o.dst = some d → ∀ vals w, Below V.heap.size V w → (∀ j, (o.after.any fun e => Region.binds md e && e.on == j) = true → Φ j (vals j) w) →
      ∃ v, (∀ w', (execOp (A vals).eval o).run P w' = .ok (.value v) w') ∧ Φ p v w)
    (hfin : ∀ vals w, Below V.heap.size V w → (∀ i, i < ops.size → T.contains i = false → Φ i (vals i) w) → wpAny P md ops Q n0 (listedT ops T) (A vals) w) :
    ∀ (fuel : Nat) (vals : Nat → Value) (listed : Array Bool) (a : Act) (w : World), listed.toList.count true + fuel = ops.size → Grown md ops T V a0 Φ vals listed a w → wpAny P md ops Q fuel listed a w := by
  have hopx : ∀ (i : Nat) (o : Oper), ops[i]? = some o → (ops[i]?).bind (·.dst) = o.dst := fun i o h => by rw [h]; rfl
  -- all but the tail are listed
  have full : ∀ (fuel : Nat) (vals : Nat → Value) (listed : Array Bool) (a : Act) (w : World), listed.toList.count true + fuel = ops.size → Grown md ops T V a0 Φ vals listed a w →
      (∀ i, i < ops.size → T.contains i = false → listed.getD i false = true) → wpAny P md ops Q fuel listed a w := by
    intro fuel vals listed a w hc g hall
    have hl : listed = listedT ops T := by
      apply Array.ext
      · rw [g.lsize]; simp [listedT]
      · intro i h1 h2
        have hi : i < ops.size := by rw [← g.lsize]; exact h1
        have e2 : (listedT ops T)[i] = !(T.contains i) := by simp [listedT]
        rw [e2]
        cases hT : T.contains i with
        | true => have := g.tail i hT; simpa [h1] using this
        | false => have := hall i hi hT; simpa [h1] using this
    have ha : a = A vals := by
      rw [hA]
      have hs : a.tmps.size = (fillAll ops T vals a0).tmps.size := by rw [g.size, fillAll, fillL_size]
      have hd : a.defers = (fillAll ops T vals a0).defers := by rw [g.defers, fillAll, fillL_defers]
      have ht : a.tmps = (fillAll ops T vals a0).tmps := by
        apply Array.ext_getElem?
        intro t
        by_cases hx : ∃ i o, ops[i]? = some o ∧ T.contains i = false ∧ o.dst = some t
        · obtain ⟨i, o, hi, hT, hd⟩ := hx
          have hlt : i < ops.size := (Array.getElem?_eq_some_iff.1 hi).1
          rw [g.has i o t hi (hall i hlt hT) hd]
          refine (fillL_has hT (by rw [hopx i o hi]; exact hd) (fun j hj => ?_) _ _ (List.mem_range.2 hlt) (by rw [hms]; exact dstLt hsz hi hd)).symm
          cases hj2 : ops[j]? with
          | none => simp
          | some oj => intro e; exact (plain_at hB hi hT).own j oj hj2 hj t (by simpa using e) hd
        · have hnt : ∀ i, listed.getD i false = true → T.contains i = false := fun i hli => by
            cases hT : T.contains i with
            | false => rfl
            | true => rw [g.tail i hT] at hli; cases hli
          rw [g.rest t fun i o hi hli hd => hx ⟨i, o, hi, hnt i hli, hd⟩]
          refine (fillL_rest _ _ fun i hi hT e => ?_).symm
          cases hi2 : ops[i]? with
          | none => rw [hi2] at e; cases e
          | some o => rw [hopx i o hi2] at e; exact hx ⟨i, o, hi2, hT, e⟩
      cases a; cases h : fillAll ops T vals a0; rw [h] at hd ht; simp only at hd ht; rw [hd, ht]
    rw [ha]
    rw [hl] at hc ⊢
    obtain rfl : fuel = n0 := by omega
    exact hfin vals w g.below fun i hi hT => g.fact i (hall i hi hT)
  intro fuel
  induction fuel with
  | zero =>
    intro vals listed a w hc g
    refine full 0 vals listed a w hc g fun i hi hT => ?_
    have : listed.toList.count true = listed.toList.length := by rw [Array.length_toList, g.lsize]; omega
    have h2 := List.count_eq_length.1 this
    have hi' : i < listed.size := by rw [g.lsize]; exact hi
    have := h2 listed[i] (by simp)
    simp [hi', ← this]
  | succ fuel ih =>
    intro vals listed a w hc g
    by_cases hall : ∀ i, i < ops.size → T.contains i = false → listed.getD i false = true
    · exact full (fuel + 1) vals listed a w hc g hall
    · obtain ⟨i0, hi0, hT0, hn0⟩ : ∃ i, i < ops.size ∧ T.contains i = false ∧ listed.getD i false = false := by
        refine Classical.byContradiction fun h => hall fun i hi hT => ?_
        cases hx : listed.getD i false with
        | true => rfl
        | false => exact absurd ⟨i, hi, hT, hx⟩ h
      obtain ⟨i1, hi1, hT1, hr1⟩ : ∃ i, i < ops.size ∧ T.contains i = false ∧ i ∈ Region.ready md ops listed := by
        refine Classical.byContradiction fun hnone => ?_
        have hno : ∀ i, i < ops.size → T.contains i = false → i ∉ Region.ready md ops listed := fun i h1 h2 h3 => hnone ⟨i, h1, h2, h3⟩
        -- the least that is not listed may come up
        have : ∀ k, ∀ i, i ≤ k → i < ops.size → T.contains i = false → listed.getD i false = true := by
          intro k
          induction k with
          | zero =>
            intro i hik hi hT
            obtain ⟨o, ho⟩ : ∃ o, ops[i]? = some o := ⟨ops[i], by simp [hi]⟩
            cases hx : listed.getD i false with
            | true => rfl
            | false =>
              have hm : i ∈ Region.ready md ops listed := mem_ready.2 ⟨by
                have hi' : i < listed.size := by rw [g.lsize]; exact hi
                simpa [hi'] using hx, o, ho, fun e he hb => by have := (plain_at hB ho hT).before e he hb; omega⟩
              exact absurd hm (hno i hi hT)
          | succ k ihk =>
            intro i hik hi hT
            obtain ⟨o, ho⟩ : ∃ o, ops[i]? = some o := ⟨ops[i], by simp [hi]⟩
            cases hx : listed.getD i false with
            | true => rfl
            | false =>
              have hm : i ∈ Region.ready md ops listed := mem_ready.2 ⟨by
                have hi' : i < listed.size := by rw [g.lsize]; exact hi
                simpa [hi'] using hx, o, ho, fun e he hb => by
                  have h1 := (plain_at hB ho hT).before e he hb
                  have hel : e.on < ops.size := by omega
                  refine ihk e.on (by omega) hel ?_
                  cases hy : T.contains e.on with
                  | false => rfl
                  | true => rw [(plain_at hB ho hT).noT e he hb] at hy; cases hy⟩
              exact absurd hm (hno i hi hT)
        rw [this i0 i0 (Nat.le_refl _) hi0 hT0] at hn0
        cases hn0
      -- what the state gives of one that may come up
      have evalEq : ∀ i, i ∈ Region.ready md ops listed → T.contains i = false → ∀ o, ops[i]? = some o → execOp a.eval o = execOp (A vals).eval o := by
        intro i hi hTi o0 ho0
        obtain ⟨hun, o, ho, hdeps⟩ := mem_ready.1 hi
        have hpl := plain_at hB ho hTi
        obtain ⟨d, hd⟩ := hpl.dst
        have hlt : i < ops.size := (Array.getElem?_eq_some_iff.1 ho).1
        have hlt' : i < listed.size := by rw [g.lsize]; exact hlt
        have hif : listed.getD i false = false := by simpa [hlt'] using hun
        rw [ho0] at ho
        obtain rfl := Option.some.inj ho
        have ho := ho0
        have hev : execOp a.eval o0 = execOp (A vals).eval o0 := by
          refine execOp_congr o0 (fun cs b => Region.noSelect_spec hsel i o0 cs b ho) fun x hx => eval_of_get fun t ht => ?_
          subst ht
          have hlk : t ∈ o0.looksAt ops := List.mem_append_left _ (List.mem_filterMap.2 ⟨.tmp t, by simpa using hx, rfl⟩)
          rw [hA]
          by_cases hex : ∃ j oj, ops[j]? = some oj ∧ T.contains j = false ∧ oj.dst = some t
          · obtain ⟨j, oj, hj, hTj, hdj⟩ := hex
            have hjl : j < ops.size := (Array.getElem?_eq_some_iff.1 hj).1
            have hlj : listed.getD j false = true := by
              by_cases hji : j = i
              · subst hji
                rw [ho] at hj
                obtain rfl := Option.some.inj hj
                exact absurd hlk (hpl.self t hdj)
              · obtain ⟨e, he, hb, heq⟩ := hpl.looks j oj hj hji hTj t hdj hlk
                rw [← heq]; exact hdeps e he hb
            rw [g.has j oj t hj hlj hdj]
            refine (fillL_has hTj (by rw [hopx j oj hj]; exact hdj) (fun k hk => ?_) _ _ (List.mem_range.2 hjl) (by rw [hms]; exact dstLt hsz hj hdj)).symm
            cases hk2 : ops[k]? with
            | none => simp
            | some ok => intro e; exact (plain_at hB hj hTj).own k ok hk2 hk t (by simpa using e) hdj
          · have hnt : ∀ i, listed.getD i false = true → T.contains i = false := fun i hli => by
              cases hT : T.contains i with
              | false => rfl
              | true => rw [g.tail i hT] at hli; cases hli
            rw [g.rest t fun j oj hj hlj hdj => hex ⟨j, oj, hj, hnt j hlj, hdj⟩]
            refine (fillL_rest _ _ fun j hj hT e => ?_).symm
            cases hj2 : ops[j]? with
            | none => rw [hj2] at e; cases e
            | some oj => rw [hopx j oj hj2] at e; exact hex ⟨j, oj, hj2, hT, e⟩
        exact hev
      have upd : ∀ i, i ∈ Region.ready md ops listed → T.contains i = false → ∀ o, ops[i]? = some o → ∀ v w', Φ i v w' → Below w.heap.size w w' →
          (listed.setIfInBounds i true).toList.count true = listed.toList.count true + 1 ∧ Grown md ops T V a0 Φ (fun k => if k = i then v else vals k) (listed.setIfInBounds i true) (a.put o.dst v) w' := by
        intro i hi hTi o0 ho0 v w' hΦ hbw
        obtain ⟨hun, o, ho, hdeps⟩ := mem_ready.1 hi
        rw [ho0] at ho
        obtain rfl := Option.some.inj ho
        have ho := ho0
        have hpl := plain_at hB ho hTi
        obtain ⟨d, hd⟩ := hpl.dst
        have hlt : i < ops.size := (Array.getElem?_eq_some_iff.1 ho).1
        have hlt' : i < listed.size := by rw [g.lsize]; exact hlt
        have hif : listed.getD i false = false := by simpa [hlt'] using hun
        refine ⟨count_set hlt' hif, ?_⟩
        have hlset : ∀ k, (listed.setIfInBounds i true).getD k false = true → k = i ∨ listed.getD k false = true := fun k hk => by
          by_cases hki : k = i
          · exact .inl hki
          · rw [getD_set_ne false (Ne.symm hki)] at hk; exact .inr hk
        refine ⟨by rw [put_defers]; exact g.defers, by rw [put_size]; exact g.size, fun t ht => ?_, fun k ok dk hk hlk hdk => ?_, g.below.trans (hbw.mono g.below.size), fun k hk => ?_, closed_set g.closed hi, by simpa using g.lsize, fun j hj => ?_⟩
        · rw [put_get_ne (ht i o0 ho (by simp [hlt']))]
          exact g.rest t fun k ok hk hlk => ht k ok hk (getD_set_true hlk)
        · rcases hlset k hlk with rfl | hlk'
          · rw [ho] at hk
            obtain rfl := Option.some.inj hk
            simp only [if_true]
            rw [hdk]
            exact put_get (by rw [g.size, hms]; exact dstLt hsz ho hdk)
          · have hki : k ≠ i := fun e => by rw [e, hif] at hlk'; cases hlk'
            simp only [if_neg hki]
            rw [put_get_ne (hpl.own k ok hk hki dk hdk)]
            exact g.has k ok dk hk hlk' hdk
        · rcases hlset k hk with rfl | hk'
          · simp only [if_true]; exact hΦ
          · have hki : k ≠ i := fun e => by rw [e, hif] at hk'; cases hk'
            simp only [if_neg hki]
            exact hst _ _ _ _ (g.fact k hk') hbw
        · have hji : i ≠ j := fun e => by rw [e, hj] at hTi; cases hTi
          rw [getD_set_ne false hji]; exact g.tail j hj
      by_cases hW : ∃ p ∈ Region.ready md ops listed, W.contains p = true ∧ T.contains p = false
      · obtain ⟨p, hp, hWp, hTp⟩ := hW
        obtain ⟨hun, o, ho, hdeps⟩ := mem_ready.1 hp
        have hpl := plain_at hB ho hTp
        obtain ⟨d, hd⟩ := hpl.dst
        obtain ⟨v, hv, hΦ⟩ := hpure p o d ho hWp hd vals w g.below fun j hj => by
          obtain ⟨e, he, h⟩ := Array.any_eq_true'.1 hj
          rw [Bool.and_eq_true] at h
          have : e.on = j := by simpa using h.2
          rw [← this]
          exact g.fact _ (hdeps e he h.1)
        obtain ⟨hcn, hg⟩ := upd p hp hTp o ho v w hΦ (Below.refl _ _)
        refine wpAny_first (v := v) ho (Region.noSelect_spec hsel) (fun c a w => hQ c a _ _ w) fuel listed a w (fun j oj hj hji hun hno => free_at hF ho hWp hj hji (fun e he hb heq => by
          have h1 := hdeps e he hb
          rw [heq] at h1
          have hjl : j < listed.size := by rw [g.lsize]; exact (Array.getElem?_eq_some_iff.1 hj).1
          simp [hjl] at h1 hun
          rw [h1] at hun; cases hun) hno) hp (.inl ⟨by simp [Region.wanted, hpl.guard], fun w' => by rw [evalEq p hp hTp o ho]; exact hv w'⟩) (ih _ _ _ _ (by rw [hcn]; omega) hg)
      · have hW1 : W.contains i1 = false := by
          cases hx : W.contains i1 with
          | false => rfl
          | true => exact absurd ⟨i1, hr1, hx, hT1⟩ hW
        have hn1 : listed.getD i1 false = false := by
          have h0 := (mem_ready.1 hr1).1
          have hl1 : i1 < listed.size := by rw [g.lsize]; exact hi1
          simpa [hl1] using h0
        refine ⟨fun hr => (by rw [hr] at hr1; cases hr1), fun i hi => ?_⟩
        have hTi : T.contains i = false := by
          obtain ⟨_, oj, hoj, hallj⟩ := mem_ready.1 hi
          cases hx : T.contains i with
          | false => rfl
          | true =>
            have h1 := List.all_eq_true.1 hTl i1 (List.mem_range.2 hi1)
            rw [hT1, hW1, Bool.false_or, Bool.false_or] at h1
            exact (waits_no g.closed hn1 _ i oj (List.all_eq_true.1 h1 i (by simpa using hx)) hoj hallj).elim
        obtain ⟨hun, o, ho, hdeps⟩ := mem_ready.1 hi
        have hpl := plain_at hB ho hTi
        obtain ⟨d, hd⟩ := hpl.dst
        have hev := evalEq i hi hTi o ho
        have hWi : W.contains i = false := by
          cases hx : W.contains i with
          | false => rfl
          | true => exact absurd ⟨i, hi, hx, hTi⟩ hW
        have hh := hop i o d ho hTi hWi hd vals w g.below fun j hj => by
          obtain ⟨e, he, h⟩ := Array.any_eq_true'.1 hj
          rw [Bool.and_eq_true] at h
          have : e.on = j := by simpa using h.2
          rw [← this]
          exact g.fact _ (hdeps e he h.1)
        have hds : d < (A vals).tmps.size := by rw [hA, fillAll, fillL_size, hms]; exact dstLt hsz ho hd
        have ht := wp_transfer (Q := Q) (b := a) (R := fun v w' => Φ i v w' ∧ Below w.heap.size w w') hd hds hev hh
        unfold wpOp
        simp only [ho]
        rw [show Region.wanted o (yielded ops a.tmps) = true from by simp [Region.wanted, hpl.guard]]
        simp only [if_true]
        refine .inl (Oper.wp_mono ?_ ht)
        rintro a' w' ⟨v, rfl, hΦ, hbw⟩
        obtain ⟨hcn, hg⟩ := upd i hi hTi o ho v w' hΦ hbw
        exact ih _ _ _ _ (by rw [hcn]; omega) hg
/-- THE LAW: each operation but the tail is walked once, at the state where all slots are filled, in a world in which what stood has stayed; what it yields is told by a fact that new memory does not turn -/
theorem wp_region_grow {id n0 : Nat} {a0 : Act} {w : World} (T W : List Nat) (m : Nat) (A : (Nat → Value) → Act) (Φ : Nat → Value → World → Prop) (hm : P.follows .mixedOrders = true) (hB : plainB .any ops T = true) (hTl : tailB .any ops T W = true) (hF : freeB .any ops W = true) (hQ : ∀ (c : List PanicEntry) (a : Act) (d : Option Tmp) (v : Value) (w : World), Q (.panic c) (a.put d v) w → Q (.panic c) a w) (hsz : dstLtB ops m = true) (hms : a0.tmps.size = m)
    (hA : ∀ vals, A vals = fillAll ops T vals a0) (hsel : Region.noSelect ops = true) (hTc : (listedT ops T).toList.count true + n0 = ops.size)
    (hst : ∀ i v w w', Φ i v w → Below w.heap.size w w' → Φ i v w')
    (hop : ∀ i o d, ops[i]? = some o → T.contains i = false → W.contains i = false → o.dst = some d → ∀ vals w', Below w.heap.size w w' → (∀ j, (o.after.any fun e => Region.binds .any e && e.on == j) = true → Φ j (vals j) w') →
      o.wp P (A vals) w' (fun a' w'' => a'.defers = (A vals).defers ∧ Φ i (a'.eval (.tmp d)) w'' ∧ Below w'.heap.size w' w'') (fun _ _ _ => False))
    (hpure : ∀ p o d, ops[p]? = some o → W.contains p = true → o.dst = some d → ∀ vals w', Below w.heap.size w w' → (∀ j, (o.after.any fun e => Region.binds .any e && e.on == j) = true → Φ j (vals j) w') →
      ∃ v, (∀ w'', (execOp (A vals).eval o).run P w'' = .ok (.value v) w'') ∧ Φ p v w')
    (hfin : ∀ vals w', Below w.heap.size w w' → (∀ i, i < ops.size → T.contains i = false → Φ i (vals i) w') → wpAny P .any ops Q n0 (listedT ops T) (A vals) w') :
    (Code.region id ops true).wp P Q a0 w := by
  refine wp_region_any hm ?_
  have e0 : ∀ j, (Array.replicate ops.size false).getD j false = false := fun j => by
    by_cases h : j < ops.size <;> simp [h]
  refine wpAny_grow (V := w.drew) hB hTl hF hQ hsz hms hA hsel hTc hst (fun i o d h1 h2 h3 h4 vals w' hb => hop i o d h1 h2 h3 h4 vals w' ((Below.refl _ _).drew.trans hb)) (fun p o d h1 h2 h3 vals w' hb => hpure p o d h1 h2 h3 vals w' ((Below.refl _ _).drew.trans hb)) (fun vals w' hb => hfin vals w' ((Below.refl _ _).drew.trans hb)) ops.size (fun _ => undef) (Array.replicate ops.size false) a0 w.drew (by simp [List.count_replicate]) ?_
  have no : ∀ j, (Array.replicate ops.size false).getD j false = true → False := fun j h => (by rw [e0] at h; cases h)
  exact ⟨rfl, rfl, fun _ _ => rfl, fun i _ _ _ h => (no i h).elim, Below.refl _ _, fun i h => (no i h).elim, fun k _ _ h => (no k h).elim, by simp, fun j _ => e0 j⟩
theorem wpAny_step {i : Nat} {o : Oper} {fuel : Nat} {listed : Array Bool} {a : Act} {w : World} (hr : Region.ready md ops listed = [i]) (ho : ops[i]? = some o) (hw : Region.wanted o (yielded ops a.tmps) = true)
    (h : ∀ K : Act → World → Prop, (∀ a' w', wpAny P md ops Q fuel (listed.setIfInBounds i true) a' w' → K a' w') → o.wp P a w K Q) : wpAny P md ops Q (fuel + 1) listed a w := by
  refine ⟨fun h0 => (by rw [hr] at h0; cases h0), fun j hj => ?_⟩
  rw [hr] at hj
  obtain rfl := List.mem_singleton.1 hj
  unfold wpOp
  simp only [ho, hw, if_true]
  exact .inl (h _ fun _ _ h => h)
theorem wpAny_end {listed : Array Bool} {a : Act} {w : World} (hr : Region.ready md ops listed = []) (h : Q .normal a w) : wpAny P md ops Q 0 listed a w := ⟨hr, h⟩
end Go.Proofs.Rt

/- WALKS, PowerModulo 3: signed, of any slice of a length that is not huge (made of A2, A3). -/
namespace Go.Proofs.YteggbenhffmijaaGreatDoor
open Go.RowKit
set_option maxHeartbeats 400000 in
theorem trim_len (w : World) (b off cap : Nat) (l : List Nat) (ho : Wh.Ok l) (hcap : l.length ≤ cap) (hm : l.length ≤ 100000) (hc : ∀ i, i < l.length → w.cell? ⟨b, off + i, none⟩ = some (.int .u32 (l.getD i 0))) :
    Calls Tryz.prog 253 #[.slice (some ⟨b, off, none⟩) l.length cap] w fun e w' => e = .returned (.slice (some ⟨b, off, none⟩) (Wh.trimL l).length cap) ∧ w = w' := by
  have HO := Lib.hid ho; clear ho
  generalize hn : l.length = n at *
  have HN := Lib.hid hn; clear hn
  have HC := Lib.hid hc; clear hc
  go_enter Tryz.func253, Tryz.ntmps253
  go_wp2
  go_loop [3] (fun k => ∃ j : Nat, j ≤ n ∧ k = .int .i64 j ∧ Hid (Wh.trimL (l.take j) = Wh.trimL l)) (fun k => (intOf k).toNat)
  case atStart => exact ⟨n, Nat.le_refl _, rfl, Lib.hid (by rw [List.take_of_length_le (by rw [HN.out]; exact Nat.le_refl _)])⟩
  case round =>
    obtain ⟨j, hj, rfl, HT⟩ := hrel
    by_cases h0 : j = 0
    · subst h0
      go_wp2
      go_ret
      have e := Wh.take_end (Nat.zero_le _) HO.out (.inl rfl) HT.out
      exact ⟨by rw [← e]; rfl, rfl⟩
    · obtain ⟨k, rfl⟩ : ∃ k, j = k + 1 := ⟨j - 1, by omega⟩
      have hc := HC.out k (by omega)
      by_cases hz : l.getD k 0 = 0
      · have HZ := Lib.hid hz
        rw [hz] at hc; clear hz
        go_wp2
        go_round
        case rel => exact ⟨k, by omega, by go_num, Lib.hid ((Wh.take_step (by rw [HN.out]; omega) HZ.out).symm.trans HT.out)⟩
        case measure => simp [intOf]
      · have HZ := Lib.hid hz
        generalize l.getD k 0 = x at hc hz
        have hx : ((x : Int) == 0) = false := by simpa using hz
        clear hz
        go_wp2
        go_ret
        have e := Wh.take_end (k := k + 1) (by rw [HN.out]; exact hj) HO.out (.inr HZ.out) HT.out
        exact ⟨by rw [← e, List.length_take, HN.out, Nat.min_eq_left hj]; rfl, rfl⟩
theorem trim_len_any (w : World) (v : Value) (l : List Nat) (ho : Wh.Ok l) (h : Sl w v l) (hm : l.length ≤ 100000) :
    Calls Tryz.prog 253 #[v] w fun e w' => (∃ a c, e = .returned (.slice a (Wh.trimL l).length c) ∧ ∀ w0, Sl w0 v l → Sl w0 (.slice a (Wh.trimL l).length c) (Wh.trimL l)) ∧ w = w' := by
  rcases h with ⟨rfl, rfl⟩ | ⟨b, off, cap, rfl, h2, h3, h4⟩
  · refine (trim_nil w).mono ?_
    rintro e w' ⟨rfl, rfl⟩
    have e0 : Wh.trimL [] = [] := by simp [Wh.trimL, Wh.val, Wh.limbs_zero]
    rw [e0]
    exact ⟨⟨_, _, rfl, fun w0 h => h⟩, rfl⟩
  · refine (trim_len w b off cap l ho h2 hm h4).mono ?_
    rintro e w' ⟨rfl, rfl⟩
    have hl := Wh.trimL_length ho
    refine ⟨⟨_, _, rfl, fun w0 h0 => ?_⟩, rfl⟩
    rcases h0 with ⟨_, h0⟩ | ⟨b', off', cap', e0, h2', h3', h4'⟩
    · cases h0
    · simp only [Value.slice.injEq, Option.some.injEq, Addr.mk.injEq] at e0
      obtain ⟨⟨rfl, rfl, _⟩, _, rfl⟩ := e0
      exact .inr ⟨b, off, cap, rfl, by omega, h3', fun i hi => by rw [h4' i (by omega), Wh.trimL_getD ho hi]⟩
set_option maxHeartbeats 400000 in
theorem signed_len_nil (s : Int) (v : Value) (l : List Nat) (w : World) (ho : Wh.Ok l) (h : Sl w v l) (hm : l.length ≤ 100000) (h0 : Wh.trimL l = []) :
    Calls Tryz.prog 187 #[.int .i64 s, v] w fun e w' => e = .returned (.agg #[.int .i64 0, .slice none 0 0]) ∧ Below w.heap.size w w' := by
  have H0 := Lib.hid h0; clear h0
  go_enter Tryz.func187, Tryz.ntmps187
  go_wp2_with fail
  refine (trim_len_any _ v l ho (h.mono ?_) hm).mono ?_
  · exact (Below.refl _ _).alloc (Nat.le_refl _) _
  rintro e w' ⟨⟨a, c, rfl, -⟩, rfl⟩
  rw [H0.out]
  simp only [List.length_nil]
  go_wp2
  exact bodyPost_ret (v := .agg #[.int .i64 0, .slice none 0 0]) (by simp [results, Tryz.results187, go_sem]) rfl ⟨rfl, (Below.refl _ _).alloc (Nat.le_refl _) _⟩
set_option maxHeartbeats 400000 in
theorem signed_len_some (s : Int) (v : Value) (l : List Nat) (w : World) (ho : Wh.Ok l) (h : Sl w v l) (hm : l.length ≤ 100000) (h0 : 0 < (Wh.trimL l).length) :
    Calls Tryz.prog 187 #[.int .i64 s, v] w fun e w' => (∃ v', e = .returned (.agg #[.int .i64 s, v']) ∧ Sl w' v' (Wh.trimL l)) ∧ Below w.heap.size w w' := by
  go_enter Tryz.func187, Tryz.ntmps187
  go_wp2_with fail
  refine (trim_len_any _ v l ho (h.mono ?_) hm).mono ?_
  · exact (Below.refl _ _).alloc (Nat.le_refl _) _
  rintro e w' ⟨⟨a, c, rfl, hv⟩, rfl⟩
  have HV := Lib.hid (hv w h); clear hv
  generalize hl : Wh.trimL l = m at *
  have HL := Lib.hid hl; clear hl
  have hne : ((m.length : Int) == 0) = false := by rw [beq_eq_false_iff_ne]; omega
  go_wp2
  exact bodyPost_ret (v := .agg #[.int .i64 s, .slice a m.length c]) (by simp [results, Tryz.results187, go_sem]) rfl ⟨⟨_, rfl, by rw [HL.out]; exact (HV.out).mono ((Below.refl _ _).alloc (Nat.le_refl _) _)⟩, (Below.refl _ _).alloc (Nat.le_refl _) _⟩
theorem signed_len (s : Int) (v : Value) (l : List Nat) (w : World) (ho : Wh.Ok l) (h : Sl w v l) (hm : l.length ≤ 100000) (hs : s = -1 ∨ s = 1 ∨ Wh.val l = 0) :
    Calls Tryz.prog 187 #[.int .i64 s, v] w fun e w' => (∃ v', e = .returned v' ∧ Num w' v' (s * (Wh.val l : Int))) ∧ Below w.heap.size w w' := by
  by_cases h0 : Wh.val l = 0
  · refine (signed_len_nil s v l w ho h hm (by rw [Wh.trimL, h0, Wh.limbs_zero])).mono ?_
    rintro e w' ⟨rfl, hb⟩
    refine ⟨⟨_, rfl, ⟨.slice none 0 0, ?_, .inl ⟨?_, rfl⟩⟩⟩, hb⟩
    · rw [h0]; simp
    · rw [h0]; simp [Wh.limbs_zero]
  · have hpos : 0 < (Wh.trimL l).length := by
      rcases Nat.eq_zero_or_pos (Wh.trimL l).length with e | e
      · exact absurd (Wh.limbs_nil.1 (List.eq_nil_of_length_eq_zero e)) h0
      · exact e
    refine (signed_len_some s v l w ho h hm hpos).mono ?_
    rintro e w' ⟨⟨v', rfl, hv'⟩, hb⟩
    have hs' : s = -1 ∨ s = 1 := by omega
    have e1 : (s * (Wh.val l : Int)).natAbs = Wh.val l := by rcases hs' with rfl | rfl <;> omega
    have e2 : Int.sign (s * (Wh.val l : Int)) = s := by
      rw [Int.sign_mul]
      have : Int.sign (Wh.val l : Int) = 1 := Int.sign_eq_one_of_pos (by omega)
      rw [this]; rcases hs' with rfl | rfl <;> rfl
    exact ⟨⟨_, rfl, ⟨v', by rw [e2], by rw [e1]; exact hv'⟩⟩, hb⟩
end Go.Proofs.YteggbenhffmijaaGreatDoor

/- WALKS, PowerModulo 1: multiply and divideLimbs once more, saying also where the answers lie (made of A15, A16, D2). -/
namespace Go.Proofs.YteggbenhffmijaaGreatDoor
open Go.RowKit
/-- v lies at the front of block rb, which is a call's own -/
def RoomAt (w : World) (rb : Nat) (v : Value) : Prop := ∃ n : Nat, ∃ l : List Nat, v = .slice (some ⟨rb, 0, none⟩) n l.length ∧ n ≤ l.length ∧ l.length ≤ 100000 ∧ Own w rb l
set_option maxRecDepth 100000 in
set_option maxHeartbeats 1000000 in
theorem multiply_made (w : World) (a0 : Option Addr) (n0 c0 : Nat) (v1 v2 : Value) (l1 l2 : List Nat) (h1 : Sl w v1 l1) (h2 : Sl w v2 l2) (ho1 : Wh.Ok l1) (ho2 : Wh.Ok l2)
    (hsz : c0 < l1.length + l2.length) (hm : l1.length + l2.length ≤ 100000) (hmin : l1.length < 32 ∨ l2.length < 32) :
    Calls Tryz.prog 245 #[.slice a0 n0 c0, v1, v2] w fun e w' => (∃ v', e = .returned v' ∧ Sl w' v' (Wh.limbs (Wh.val l1 * Wh.val l2)) ∧ RoomAt w' w.heap.size v') ∧ Below w.heap.size w w' := by
  obtain ⟨a1, c1, rfl⟩ := h1.len
  obtain ⟨a2, c2, rfl⟩ := h2.len
  have H1 := Lib.hid h1; clear h1
  have H2 := Lib.hid h2; clear h2
  have HO1 := Lib.hid ho1; clear ho1
  have HO2 := Lib.hid ho2; clear ho2
  generalize hn1 : l1.length = n1 at *
  generalize hn2 : l2.length = n2 at *
  have HN1 := Lib.hid hn1; clear hn1
  have HN2 := Lib.hid hn2; clear hn2
  have hmk := run_make_limbs (n1 + n2) hm w ((n1 : Int) + n2) (by omega)
  have hclr := run_clear_own (own_make w (n1 + n2)) (n1 + n2) (n1 + n2) (by simp)
  have hcl : Own ((w.alloc (.cells (zeros (n1 + n2)) 181)).setCells w.heap.size 0 (List.replicate (n1 + n2) (.int .u32 0))) w.heap.size (List.replicate (n1 + n2) 0) := own_cleared (own_make w (n1 + n2)) (by simp)
  have HCL := Lib.hid hcl; clear hcl
  have hbw : Below w.heap.size w ((w.alloc (.cells (zeros (n1 + n2)) 181)).setCells w.heap.size 0 (List.replicate (n1 + n2) (.int .u32 0))) := ((Below.refl _ _).alloc (Nat.le_refl _) _).trans ((only_setCells _ _ _ _).below (Nat.le_refl _) (by simp))
  have HBW := Lib.hid hbw; clear hbw
  by_cases hmm : n2 < n1
  all_goals
    go_enter Tryz.func245, Tryz.ntmps245
    go_wp2_with fail
    generalize (w.alloc (Obj.cells (zeros (n1 + n2)) 181)).setCells w.heap.size 0 (List.replicate (n1 + n2) (Value.int IntKind.u32 0)) = W at HCL HBW ⊢
    have hap := addProduct_any W w.heap.size (n1 + n2) _ _ l1 l2 (H1.out.mono HBW.out) (H2.out.mono HBW.out) (apart_of_sl H1.out (Nat.le_refl _)) (apart_of_sl H2.out (Nat.le_refl _)) HO1.out HO2.out (by rw [HN1.out, HN2.out]; exact HCL.out) (by rw [HN1.out, HN2.out]; exact Nat.le_refl _) hm
    rw [HN1.out, HN2.out] at hap
    refine hap.mono ?_
    rintro e w1 ⟨rfl, l, HL⟩
    clear hap hclr hmk
    have hb1 : Below w.heap.size w w1 := HBW.out.trans (HL.only.below (Nat.le_refl _) HBW.out.size)
    have hlen := HL.len
    rw [HN1.out, HN2.out] at hlen
    have hval := HL.val
    rw [← HN1.out, List.take_length] at hval
    have hok := HL.ok
    have hown := HL.own
    clear HL
    have hsl := hown.sl (n1 + n2) (by omega)
    rw [hlen] at hsl
    have HVAL := Lib.hid hval; clear hval
    have HLEN := Lib.hid hlen; clear hlen
    have HOWN := Lib.hid hown; clear hown
    go_wp2_with fail
    refine (trim_same _ _ _ _ l hok hsl hm).mono ?_
    rintro e w' ⟨rfl, hv, rfl⟩
    have htl : (Wh.trimL l).length ≤ l.length := Wh.trimL_length hok
    have hroom : RoomAt w1 w.heap.size (.slice (some ⟨w.heap.size, 0, none⟩) (Wh.trimL l).length (n1 + n2)) := ⟨_, l, by rw [HLEN.out], htl, by rw [HLEN.out]; exact hm, HOWN.out⟩
    have hT : Wh.trimL l = Wh.limbs (Wh.val l1 * Wh.val l2) := by unfold Wh.trimL; rw [HVAL.out]
    rw [hT] at hv hroom ⊢
    clear hT
    have HV := Lib.hid hv; clear hv hsl
    have HROOM := Lib.hid hroom; clear hroom htl
    go_wp2
    go_ret
    exact ⟨⟨_, rfl, HV.out, HROOM.out⟩, hb1⟩
set_option maxRecDepth 100000 in
set_option maxHeartbeats 1000000 in
theorem multiply_reused (w : World) (rb n0 : Nat) (lr : List Nat) (hr : Own w rb lr) (v1 v2 : Value) (l1 l2 : List Nat) (h1 : Sl w v1 l1) (h2 : Sl w v2 l2) (hp1 : Apart rb v1) (hp2 : Apart rb v2) (ho1 : Wh.Ok l1) (ho2 : Wh.Ok l2)
    (hsz : l1.length + l2.length ≤ lr.length) (hm : lr.length ≤ 100000) (hmin : l1.length < 32 ∨ l2.length < 32) :
    Calls Tryz.prog 245 #[.slice (some ⟨rb, 0, none⟩) n0 lr.length, v1, v2] w fun e w' => (∃ v', e = .returned v' ∧ Sl w' v' (Wh.limbs (Wh.val l1 * Wh.val l2)) ∧ RoomAt w' rb v') ∧ Only rb w w' := by
  obtain ⟨a1, c1, rfl⟩ := h1.len
  obtain ⟨a2, c2, rfl⟩ := h2.len
  have H1 := Lib.hid h1; clear h1
  have H2 := Lib.hid h2; clear h2
  have HO1 := Lib.hid ho1; clear ho1
  have HO2 := Lib.hid ho2; clear ho2
  have HA1 := Lib.hid hp1; clear hp1
  have HA2 := Lib.hid hp2; clear hp2
  have HRR := Lib.hid hr; clear hr
  generalize hc0 : lr.length = c0 at *
  have HC0 := Lib.hid hc0; clear hc0
  generalize hn1 : l1.length = n1 at *
  generalize hn2 : l2.length = n2 at *
  have HN1 := Lib.hid hn1; clear hn1
  have HN2 := Lib.hid hn2; clear hn2
  have hclr := run_clear_own HRR.out (n1 + n2) c0 (by rw [HC0.out]; exact hsz)
  have HCL := Lib.hid (own_cleared HRR.out (n := n1 + n2) (by rw [HC0.out]; exact hsz))
  have HBW := Lib.hid (only_setCells rb (List.replicate (n1 + n2) (.int .u32 0)) 0 w)
  have HREST := Lib.hid (rest_setCells rb (n1 + n2) w)
  by_cases hmm : n2 < n1
  all_goals
    go_enter Tryz.func245, Tryz.ntmps245
    go_wp2_with fail
    generalize w.setCells rb 0 (List.replicate (n1 + n2) (Value.int IntKind.u32 0)) = W at HCL HBW HREST ⊢
    have hap := addProduct_any W rb c0 _ _ l1 l2 (H1.out.only HBW.out HA1.out) (H2.out.only HBW.out HA2.out) HA1.out HA2.out HO1.out HO2.out (by rw [HN1.out, HN2.out]; exact HCL.out) (by rw [HN1.out, HN2.out]; exact hsz) hm
    rw [HN1.out, HN2.out] at hap
    refine hap.mono ?_
    rintro e w1 ⟨rfl, l, HL⟩
    clear hap hclr
    have hb1 : Only rb w w1 := HBW.out.trans HL.only
    have hlen := HL.len
    rw [HN1.out, HN2.out] at hlen
    have hval := HL.val
    rw [← HN1.out, List.take_length] at hval
    have hok := HL.ok
    have hown := HL.own
    have hroomy : ∃ lr', lr'.length = c0 ∧ Own w1 rb lr' := by
      have hrest := HL.rest
      rw [HN1.out, HN2.out] at hrest
      exact ⟨l ++ lr.drop (n1 + n2), by rw [List.length_append, List.length_drop, hlen, HC0.out]; omega, own_join hown hlen hrest HREST.out HRR.out⟩
    clear HL
    have hsl := hown.sl c0 (by omega)
    rw [hlen] at hsl
    have HVAL := Lib.hid hval; clear hval
    have HLEN := Lib.hid hlen; clear hlen
    have HOWN := Lib.hid hown; clear hown
    go_wp2_with fail
    refine (trim_same _ _ _ _ l hok hsl hm).mono ?_
    rintro e w' ⟨rfl, hv, rfl⟩
    have htl : (Wh.trimL l).length ≤ l.length := Wh.trimL_length hok
    have hroom : RoomAt w1 rb (.slice (some ⟨rb, 0, none⟩) (Wh.trimL l).length c0) := by
      obtain ⟨lr', e1, e2⟩ := hroomy
      exact ⟨_, lr', by rw [e1], by rw [e1]; have := HLEN.out; omega, by rw [e1]; exact hm, e2⟩
    have hT : Wh.trimL l = Wh.limbs (Wh.val l1 * Wh.val l2) := by unfold Wh.trimL; rw [HVAL.out]
    rw [hT] at hv hroom ⊢
    clear hT
    have HV := Lib.hid hv; clear hv hsl
    have HROOM := Lib.hid hroom; clear hroom htl
    go_wp2
    go_ret
    exact ⟨⟨_, rfl, HV.out, HROOM.out⟩, hb1⟩
set_option maxRecDepth 100000 in
set_option maxHeartbeats 1000000 in
theorem divideLimbs_fresh (w : World) (va vb : Value) (la : List Nat) (b : Nat) (ha : Sl w va la) (ho : Wh.Ok la) (hla : la.length ≤ 1000) (hvb : Sl w vb [b]) (hb : 0 < b ∧ b ≤ 1000000000) :
    Calls Tryz.prog 270 #[va, vb] w fun e w' => (∃ aq cq ar cr, e = .returned (.tuple #[.slice aq (Wh.trimL (Wh.quo la b)).length cq, .slice ar (Wh.trimL [Wh.val la % b]).length cr]) ∧ (∀ p, ar = some p → w.heap.size ≤ p.block) ∧ Sl w' (.slice aq (Wh.trimL (Wh.quo la b)).length cq) (Wh.trimL (Wh.quo la b)) ∧ Sl w' (.slice ar (Wh.trimL [Wh.val la % b]).length cr) (Wh.trimL [Wh.val la % b])) ∧ Below w.heap.size w w' := by
  obtain ⟨a2, c2, rfl, hc2⟩ := hvb.addr
  obtain ⟨a1, c1, rfl, hc1⟩ := ha.addr
  have HA := Lib.hid ha; clear ha
  clear hvb
  go_enter Tryz.func270, Tryz.ntmps270
  go_wp2_with fail
  refine (kindOf_any w a2 1 c2).mono ?_
  rintro e w' ⟨rfl, rfl⟩
  rw [show (min ((1 : Nat) : Int) 2) = 1 from by decide]
  have hmk := run_make_limbs la.length (by omega) w (la.length : Int) rfl
  have hB0 : Below w.heap.size w (w.alloc (.cells (zeros la.length) 181)) := (Below.refl _ _).alloc (Nat.le_refl _) _
  have hO0 := own_make w la.length
  obtain ⟨b2, off2, rfl, hlt2, hcell2⟩ := hc2 0 (by simp)
  have hcb : (w.alloc (.cells (zeros la.length) 181)).cell? ⟨b2, off2, none⟩ = some (.int .u32 b) := (hB0.cell (p := ⟨b2, off2, none⟩) hlt2).trans (hcell2 0 (by simp))
  clear hcell2 hc2 hc1
  have HB0 := Lib.hid hB0; clear hB0
  have HO0 := Lib.hid hO0; clear hO0
  have HOK := Lib.hid ho; clear ho
  go_wp2_with fail
  refine (divideShort_own _ w.heap.size la.length _ la (List.replicate la.length 0) b (HA.out.mono HB0.out) (apart_of_sl HA.out (Nat.le_refl _)) HOK.out HO0.out (by simp) (Nat.le_refl _) (by omega) hb).mono ?_
  rintro e w1 ⟨rfl, hO1, hQ⟩
  have hqs := hQ.sl la.length (by rw [Wh.quo_length]; exact Nat.le_refl _)
  rw [Wh.quo_length] at hqs
  have HQS := Lib.hid hqs; clear hqs hQ
  have hB1 : Below w.heap.size w w1 := HB0.out.trans (hO1.below (Nat.le_refl _) HB0.out.size)
  have HB1 := Lib.hid hB1; clear hB1 hO1 HB0 HO0 hmk hcb
  generalize hr : Wh.val la % b = r
  have hrb : r < 1000000000 := by have := Nat.mod_lt (Wh.val la) hb.1; omega
  go_wp2_with fail
  refine (trim_same _ _ _ _ (Wh.quo la b) (Wh.quo_ok la b hb.1 HOK.out) HQS.out (by omega)).mono ?_
  rintro e w2 ⟨rfl, hq2, rfl⟩
  have HQ2 := Lib.hid hq2; clear hq2
  go_wp2_with fail
  refine (trim_same _ _ _ _ [r] (Wh.ok_cons.2 ⟨hrb, Wh.ok_nil⟩) (sl_one w1 r _) (by omega)).mono ?_
  rintro e w3 ⟨rfl, hr3, rfl⟩
  have HR3 := Lib.hid hr3; clear hr3
  go_wp2_with fail
  go_ret2
  have hB2 : Below w1.heap.size w1 (w1.alloc (Obj.cells #[Value.int IntKind.u32 r] 181)) := (Below.refl _ _).alloc (Nat.le_refl _) _
  subst hr
  exact ⟨⟨_, _, _, _, rfl, (fun p e => by cases e; exact HB1.out.size), HQ2.out.mono hB2, HR3.out⟩, HB1.out.trans (hB2.mono HB1.out.size)⟩
end Go.Proofs.YteggbenhffmijaaGreatDoor

/- WALKS, PowerModulo 2: what its loop keeps in memory. -/
namespace Go.Proofs.YteggbenhffmijaaGreatDoor
open Go.RowKit Go.Proofs.Rf
/-- multiply, in what room there is, of two small numbers -/
theorem mul_room (w : World) (n : Nat) (vr v1 v2 : Value) (a b : Nat) (hn : n + 3 ≤ w.heap.size) (hr : vr = .slice none 0 0 ∨ ∃ rb, n + 3 ≤ rb ∧ RoomAt w rb vr ∧ Apart rb v1 ∧ Apart rb v2)
    (h1 : Sl w v1 (Wh.limbs a)) (h2 : Sl w v2 (Wh.limbs b)) (ha : (Wh.limbs a).length ≤ 1) (hb : (Wh.limbs b).length ≤ 1) :
    Calls Tryz.prog 245 #[vr, v1, v2] w fun e w' => (∃ p m c, e = .returned (.slice p m c) ∧ Sl w' (.slice p m c) (Wh.limbs (a * b)) ∧ (.slice p m c = Value.slice none 0 0 ∨ ∃ rb, n + 3 ≤ rb ∧ RoomAt w' rb (.slice p m c) ∧ (rb < w.heap.size → ∃ k c', vr = .slice (some ⟨rb, 0, none⟩) k c'))) ∧ OnlyS (fun k => n + 3 ≤ k ∧ ∃ m c, vr = .slice (some ⟨k, 0, none⟩) m c) w w' := by
  have new : ∀ (a0 : Option Addr) (n0 c0 : Nat), vr = .slice a0 n0 c0 → c0 < (Wh.limbs a).length + (Wh.limbs b).length → Calls Tryz.prog 245 #[vr, v1, v2] w fun e w' => (∃ p m c, e = .returned (.slice p m c) ∧ Sl w' (.slice p m c) (Wh.limbs (a * b)) ∧ (.slice p m c = Value.slice none 0 0 ∨ ∃ rb, n + 3 ≤ rb ∧ RoomAt w' rb (.slice p m c) ∧ (rb < w.heap.size → ∃ k c', vr = .slice (some ⟨rb, 0, none⟩) k c'))) ∧ OnlyS (fun k => n + 3 ≤ k ∧ ∃ m c, vr = .slice (some ⟨k, 0, none⟩) m c) w w' := by
    rintro a0 n0 c0 rfl hc
    refine (multiply_made w a0 n0 c0 v1 v2 _ _ h1 h2 (Wh.ok_limbs a) (Wh.ok_limbs b) hc (by omega) (.inl (by omega))).mono ?_
    rintro e w' ⟨⟨v', rfl, hs, hR⟩, hB⟩
    rw [Wh.val_limbs, Wh.val_limbs] at hs
    obtain ⟨k, l, rfl, h3, h4, h5⟩ := hR
    exact ⟨⟨_, _, _, rfl, hs, .inr ⟨w.heap.size, hn, ⟨k, l, rfl, h3, h4, h5⟩, fun h => absurd h (Nat.lt_irrefl _)⟩⟩, OnlyS.of_below hB⟩
  rcases hr with rfl | ⟨rb, hrb, ⟨k, l, rfl, hkl, hlm, hO⟩, p1, p2⟩
  · by_cases h0 : 0 < (Wh.limbs a).length + (Wh.limbs b).length
    · exact new _ _ _ rfl h0
    · have ha : Wh.limbs a = [] := List.eq_nil_of_length_eq_zero (by omega)
      have hb : Wh.limbs b = [] := List.eq_nil_of_length_eq_zero (by omega)
      obtain ⟨a1, c1, rfl⟩ := h1.len
      obtain ⟨a2, c2, rfl⟩ := h2.len
      rw [ha, hb]
      refine (multiply_nil w a1 a2 c1 c2).mono ?_
      rintro e w' ⟨rfl, rfl⟩
      rw [Wh.limbs_nil.1 ha, Nat.zero_mul, Wh.limbs_zero]
      exact ⟨⟨_, _, _, rfl, .inl ⟨rfl, rfl⟩, .inl rfl⟩, OnlyS.refl _ _⟩
  · by_cases hc : l.length < (Wh.limbs a).length + (Wh.limbs b).length
    · exact new _ _ _ rfl hc
    · refine (multiply_reused w rb k l hO v1 v2 _ _ h1 h2 p1 p2 (Wh.ok_limbs a) (Wh.ok_limbs b) (by omega) hlm (.inl (by omega))).mono ?_
      rintro e w' ⟨⟨v', rfl, hs, hR⟩, hB⟩
      rw [Wh.val_limbs, Wh.val_limbs] at hs
      obtain ⟨k', l', rfl, h3, h4, h5⟩ := hR
      refine ⟨⟨_, _, _, rfl, hs, .inr ⟨rb, hrb, ⟨k', l', rfl, h3, h4, h5⟩, fun _ => ⟨_, _, rfl⟩⟩⟩, hB.os, hB.tape, hB.output, hB.size, fun i h6 h7 => hB.block i (fun e => h6 ?_) h7⟩
      subst e
      exact ⟨hrb, _, _, rfl⟩
/-- away from the loop's own blocks n to n+2 -/
def Off (n : Nat) (v : Value) : Prop := ∀ k, n ≤ k → k ≤ n + 2 → Apart k v
theorem Sl.onlyS {S : Nat → Prop} {w w' : World} {v : Value} {l : List Nat} (h : Sl w v l) (ho : OnlyS S w w') (ha : ∀ k, S k → Apart k v) : Sl w' v l := by
  rcases h with h | ⟨b', off, cap, rfl, h2, h3, h4⟩
  · exact .inl h
  · have hne : ¬ S b' := fun e => ha _ e _ _ _ rfl rfl
    exact .inr ⟨b', off, cap, rfl, h2, Nat.lt_of_lt_of_le h3 ho.size, fun i hi => (ho.cell (p := ⟨b', off + i, none⟩) hne h3).trans (h4 i hi)⟩
/-- the state: square s, result t, each below M, and the room -/
structure PMS (w : World) (n b1 b2 b3 M s t : Nat) (v1 v2 v3 : Value) : Prop where
  c1 : w.cell? ⟨b1, 0, none⟩ = some v1
  c2 : w.cell? ⟨b2, 0, none⟩ = some v2
  c3 : w.cell? ⟨b3, 0, none⟩ = some v3
  f1 : w.frozen? ⟨b1, 0, none⟩ = false
  f2 : w.frozen? ⟨b2, 0, none⟩ = false
  f3 : w.frozen? ⟨b3, 0, none⟩ = false
  s1 : Sl w v1 (Wh.limbs s)
  s2 : Sl w v2 (Wh.limbs t)
  l1 : s < M
  l2 : t < M
  o1 : Off n v1
  o2 : Off n v2
  room : v3 = .slice none 0 0 ∨ ∃ rb, n + 3 ≤ rb ∧ RoomAt w rb v3 ∧ Apart rb v1 ∧ Apart rb v2
theorem RoomAt.onlyS {S : Nat → Prop} {w w' : World} {rb : Nat} {v : Value} (h : RoomAt w rb v) (ho : OnlyS S w w') (hs : ¬ S rb) : RoomAt w' rb v := by
  obtain ⟨k, l, e, h1, h2, h3⟩ := h
  exact ⟨k, l, e, h1, h2, Nat.lt_of_lt_of_le h3.lt ho.size, fun i hi => (ho.cell (p := ⟨rb, i, none⟩) hs h3.lt).trans (h3.cell i hi), fun i hi => (ho.frozen (p := ⟨rb, i, none⟩) hs h3.lt).trans (h3.free i hi)⟩
theorem RoomAt.lt {w : World} {rb : Nat} {v : Value} (h : RoomAt w rb v) : rb < w.heap.size := by
  obtain ⟨_, _, _, _, _, h3⟩ := h; exact h3.lt
/-- what the loop's own blocks do does not touch the state -/
theorem PMS.mine {w w' : World} {n b1 b2 b3 M s t : Nat} {v1 v2 v3 : Value} (h : PMS w n b1 b2 b3 M s t v1 v2 v3) (hb : b1 < n ∧ b2 < n ∧ b3 < n) (hw : n ≤ w.heap.size) (ho : OnlyS (Mine n) w w') : PMS w' n b1 b2 b3 M s t v1 v2 v3 := by
  obtain ⟨e1, e2, e3⟩ := hb
  have no : ∀ b, b < n → ¬ Mine n b := fun b hb hm => by have := hm.1; omega
  refine ⟨(ho.cell (p := ⟨b1, 0, none⟩) (no _ e1) (Nat.lt_of_lt_of_le e1 hw)).trans h.c1, (ho.cell (p := ⟨b2, 0, none⟩) (no _ e2) (Nat.lt_of_lt_of_le e2 hw)).trans h.c2, (ho.cell (p := ⟨b3, 0, none⟩) (no _ e3) (Nat.lt_of_lt_of_le e3 hw)).trans h.c3,
    (ho.frozen (p := ⟨b1, 0, none⟩) (no _ e1) (Nat.lt_of_lt_of_le e1 hw)).trans h.f1, (ho.frozen (p := ⟨b2, 0, none⟩) (no _ e2) (Nat.lt_of_lt_of_le e2 hw)).trans h.f2, (ho.frozen (p := ⟨b3, 0, none⟩) (no _ e3) (Nat.lt_of_lt_of_le e3 hw)).trans h.f3,
    h.s1.onlyS ho (fun k hk => h.o1 k hk.1 hk.2), h.s2.onlyS ho (fun k hk => h.o2 k hk.1 hk.2), h.l1, h.l2, h.o1, h.o2, ?_⟩
  rcases h.room with e | ⟨rb, h1, h2, h3, h4⟩
  · exact .inl e
  · exact .inr ⟨rb, h1, h2.onlyS ho (fun hm => by have := hm.2; omega), h3, h4⟩
/-- multiply's answer lies in the room -/
structure PMR (w : World) (n b1 b2 b3 M s t z : Nat) (v1 v2 v3 : Value) : Prop extends PMS w n b1 b2 b3 M s t v1 v2 v3 where
  s3 : Sl w v3 (Wh.limbs z)
/-- multiply in the state's room, and its answer stored there -/
theorem PMS.mul {w w1 : World} {n b1 b2 b3 M s t z : Nat} {v1 v2 v3 : Value} {p : Option Addr} {m c : Nat} (h : PMS w n b1 b2 b3 M s t v1 v2 v3) (hb : b1 < n ∧ b2 < n ∧ b3 < n) (hd : b3 ≠ b1 ∧ b3 ≠ b2) (hn : n + 3 ≤ w.heap.size)
    (hs : Sl w1 (.slice p m c) (Wh.limbs z)) (hr : .slice p m c = Value.slice none 0 0 ∨ ∃ rb, n + 3 ≤ rb ∧ RoomAt w1 rb (.slice p m c) ∧ (rb < w.heap.size → ∃ k c', v3 = .slice (some ⟨rb, 0, none⟩) k c'))
    (ho : OnlyS (fun k => n + 3 ≤ k ∧ ∃ m c, v3 = .slice (some ⟨k, 0, none⟩) m c) w w1) :
    PMR (w1.setCell ⟨b3, 0, none⟩ (.slice p m c)) n b1 b2 b3 M s t z v1 v2 (.slice p m c) := by
  obtain ⟨e1, e2, e3⟩ := hb
  have no : ∀ b, b < n → ¬ (n + 3 ≤ b ∧ ∃ m c, v3 = .slice (some ⟨b, 0, none⟩) m c) := fun b hb hm => by have := hm.1; omega
  have C1 := (ho.cell (p := ⟨b1, 0, none⟩) (no _ e1) (by show b1 < _; omega)).trans h.c1
  have C2 := (ho.cell (p := ⟨b2, 0, none⟩) (no _ e2) (by show b2 < _; omega)).trans h.c2
  have C3 := (ho.cell (p := ⟨b3, 0, none⟩) (no _ e3) (by show b3 < _; omega)).trans h.c3
  have F1 := (ho.frozen (p := ⟨b1, 0, none⟩) (no _ e1) (by show b1 < _; omega)).trans h.f1
  have F2 := (ho.frozen (p := ⟨b2, 0, none⟩) (no _ e2) (by show b2 < _; omega)).trans h.f2
  have F3 := (ho.frozen (p := ⟨b3, 0, none⟩) (no _ e3) (by show b3 < _; omega)).trans h.f3
  have ap : ∀ k, (n + 3 ≤ k ∧ ∃ m c, v3 = .slice (some ⟨k, 0, none⟩) m c) → Apart k v1 ∧ Apart k v2 := by
    rintro k ⟨_, m, c, e⟩
    rcases h.room with e' | ⟨rb, _, ⟨_, _, e', _⟩, h3, h4⟩
    · rw [e] at e'; cases e'
    · rw [e] at e'; cases e'; exact ⟨h3, h4⟩
  have S1 := h.s1.onlyS ho (fun k hk => (ap k hk).1)
  have S2 := h.s2.onlyS ho (fun k hk => (ap k hk).2)
  have nl : ∀ k, v3 ≠ .int .u32 k := by
    intro k e
    rcases h.room with e' | ⟨_, _, ⟨_, _, e', _⟩, _⟩ <;> rw [e] at e' <;> cases e'
  have store : ∀ (v : Value) (l : List Nat), Sl w1 v l → Sl (w1.setCell ⟨b3, 0, none⟩ (.slice p m c)) v l := fun v l hv => hv.store _ C3 nl _
  refine ⟨⟨?_, ?_, World.cell?_setCell_same _ _ _ C3, by rw [World.frozen?_setCell]; exact F1, by rw [World.frozen?_setCell]; exact F2, by rw [World.frozen?_setCell]; exact F3, store _ _ S1, store _ _ S2, h.l1, h.l2, h.o1, h.o2, ?_⟩, store _ _ hs⟩
  · rw [World.cell?_setCell_other _ _ _ _ (by intro e; exact hd.1 (congrArg Addr.block e))]; exact C1
  · rw [World.cell?_setCell_other _ _ _ _ (by intro e; exact hd.2 (congrArg Addr.block e))]; exact C2
  · rcases hr with e | ⟨rb, h1, h2, h3⟩
    · exact .inl e
    · refine .inr ⟨rb, h1, ?_, ?_⟩
      · obtain ⟨k, l, e, h5, h6, h7⟩ := h2
        have hne : rb ≠ b3 := by omega
        exact ⟨k, l, e, h5, h6, by simpa using h7.lt, fun i hi => by rw [World.cell?_setCell_other _ _ _ _ (by intro e; exact hne (congrArg Addr.block e).symm)]; exact h7.cell i hi, fun i hi => by rw [World.frozen?_setCell]; exact h7.free i hi⟩
      · by_cases hlt : rb < w.heap.size
        · obtain ⟨k, c', e⟩ := h3 hlt
          exact ap rb ⟨h1, k, c', e⟩
        · exact ⟨apart_of_sl h.s1 (by omega), apart_of_sl h.s2 (by omega)⟩
theorem PMR.mono {w w' : World} {n b1 b2 b3 M s t z : Nat} {v1 v2 v3 : Value} (h : PMR w n b1 b2 b3 M s t z v1 v2 v3) (hb : b1 < n ∧ b2 < n ∧ b3 < n) (hn : n + 3 ≤ w.heap.size) (hB : Below w.heap.size w w') : PMR w' n b1 b2 b3 M s t z v1 v2 v3 := by
  obtain ⟨e1, e2, e3⟩ := hb
  refine ⟨⟨(hB.cell (p := ⟨b1, 0, none⟩) (by show b1 < _; omega)).trans h.c1, (hB.cell (p := ⟨b2, 0, none⟩) (by show b2 < _; omega)).trans h.c2, (hB.cell (p := ⟨b3, 0, none⟩) (by show b3 < _; omega)).trans h.c3,
    (hB.frozen (p := ⟨b1, 0, none⟩) (by show b1 < _; omega)).trans h.f1, (hB.frozen (p := ⟨b2, 0, none⟩) (by show b2 < _; omega)).trans h.f2, (hB.frozen (p := ⟨b3, 0, none⟩) (by show b3 < _; omega)).trans h.f3,
    h.s1.mono hB, h.s2.mono hB, h.l1, h.l2, h.o1, h.o2, ?_⟩, h.s3.mono hB⟩
  rcases h.room with e | ⟨rb, h1, h2, h3, h4⟩
  · exact .inl e
  · exact .inr ⟨rb, h1, h2.onlyS (OnlyS.of_below (S := fun _ => False) hB) (fun hm => hm), h3, h4⟩
theorem sl_nl {w : World} {v : Value} {l : List Nat} (h : Sl w v l) : ∀ k, v ≠ .int .u32 k := by
  obtain ⟨a, c, rfl⟩ := h.len; intro k e; cases e
theorem RoomAt.store {w : World} {rb b : Nat} {v : Value} (h : RoomAt w rb v) (hne : b ≠ rb) (x : Value) : RoomAt (w.setCell ⟨b, 0, none⟩ x) rb v := by
  obtain ⟨k, l, e, h5, h6, h7⟩ := h
  exact ⟨k, l, e, h5, h6, by simpa using h7.lt, fun i hi => by rw [World.cell?_setCell_other _ _ _ _ (by intro e; exact hne (congrArg Addr.block e))]; exact h7.cell i hi, fun i hi => by rw [World.frozen?_setCell]; exact h7.free i hi⟩
theorem fresh_apart {p : Option Addr} {m c k B : Nat} (hf : ∀ q, p = some q → B ≤ q.block) (hk : k < B) : Apart k (.slice p m c) := by
  rintro q _ _ e; cases e; have := hf q rfl; omega
/-- the rest becomes the square -/
theorem PMR.rest1 {w w1 : World} {n b1 b2 b3 M s t z : Nat} {v1 v2 v3 : Value} {p : Option Addr} {m c : Nat} (h : PMR w n b1 b2 b3 M s t z v1 v2 v3) (hb : b1 < n ∧ b2 < n ∧ b3 < n) (hd : b1 ≠ b2 ∧ b1 ≠ b3) (hn : n + 3 ≤ w.heap.size) (hB : Below w.heap.size w w1) (hM : 0 < M)
    (hs : Sl w1 (.slice p m c) (Wh.limbs (z % M))) (hf : ∀ q, p = some q → w.heap.size ≤ q.block) : PMS (w1.setCell ⟨b1, 0, none⟩ (.slice p m c)) n b1 b2 b3 M (z % M) t (.slice p m c) v2 v3 := by
  have g := h.mono hb hn hB
  have nl := sl_nl g.s1
  refine ⟨World.cell?_setCell_same _ _ _ g.c1, ?_, ?_, by rw [World.frozen?_setCell]; exact g.f1, by rw [World.frozen?_setCell]; exact g.f2, by rw [World.frozen?_setCell]; exact g.f3, hs.store _ g.c1 nl _, g.s2.store _ g.c1 nl _, Nat.mod_lt _ hM, h.l2, fun k _ h2 => fresh_apart hf (by omega), h.o2, ?_⟩
  · rw [World.cell?_setCell_other _ _ _ _ (by intro e; exact hd.1 (congrArg Addr.block e))]; exact g.c2
  · rw [World.cell?_setCell_other _ _ _ _ (by intro e; exact hd.2 (congrArg Addr.block e))]; exact g.c3
  · rcases h.room with e | ⟨rb, h1, h2, h3, h4⟩
    · exact .inl e
    · rcases g.room with e | ⟨rb', h1', h2', h3', h4'⟩
      · exact .inl e
      · have e : rb' = rb := by
          obtain ⟨_, _, e, _⟩ := h2; obtain ⟨_, _, e', _⟩ := h2'; rw [e] at e'; injection e' with e' _ _; injection e' with e'; injection e' with e' _ _; exact e'.symm
        subst e
        exact .inr ⟨rb', h1, h2'.store (by omega) _, fresh_apart hf h2.lt, h4⟩
/-- the rest becomes the result -/
theorem PMR.rest2 {w w1 : World} {n b1 b2 b3 M s t z : Nat} {v1 v2 v3 : Value} {p : Option Addr} {m c : Nat} (h : PMR w n b1 b2 b3 M s t z v1 v2 v3) (hb : b1 < n ∧ b2 < n ∧ b3 < n) (hd : b2 ≠ b1 ∧ b2 ≠ b3) (hn : n + 3 ≤ w.heap.size) (hB : Below w.heap.size w w1) (hM : 0 < M)
    (hs : Sl w1 (.slice p m c) (Wh.limbs (z % M))) (hf : ∀ q, p = some q → w.heap.size ≤ q.block) : PMS (w1.setCell ⟨b2, 0, none⟩ (.slice p m c)) n b1 b2 b3 M s (z % M) v1 (.slice p m c) v3 := by
  have g := h.mono hb hn hB
  have nl := sl_nl g.s2
  refine ⟨?_, World.cell?_setCell_same _ _ _ g.c2, ?_, by rw [World.frozen?_setCell]; exact g.f1, by rw [World.frozen?_setCell]; exact g.f2, by rw [World.frozen?_setCell]; exact g.f3, g.s1.store _ g.c2 nl _, hs.store _ g.c2 nl _, h.l1, Nat.mod_lt _ hM, h.o1, fun k _ h2 => fresh_apart hf (by omega), ?_⟩
  · rw [World.cell?_setCell_other _ _ _ _ (by intro e; exact hd.1 (congrArg Addr.block e))]; exact g.c1
  · rw [World.cell?_setCell_other _ _ _ _ (by intro e; exact hd.2 (congrArg Addr.block e))]; exact g.c3
  · rcases h.room with e | ⟨rb, h1, h2, h3, h4⟩
    · exact .inl e
    · rcases g.room with e | ⟨rb', h1', h2', h3', h4'⟩
      · exact .inl e
      · have e : rb' = rb := by
          obtain ⟨_, _, e, _⟩ := h2; obtain ⟨_, _, e', _⟩ := h2'; rw [e] at e'; injection e' with e' _ _; injection e' with e'; injection e' with e' _ _; exact e'.symm
        subst e
        exact .inr ⟨rb', h1, h2'.store (by omega) _, h3, fresh_apart hf h2.lt⟩
/-- divideLimbs of the room by a number of one limb -/
theorem div_room (w : World) (va vb : Value) (z M : Nat) (ha : Sl w va (Wh.limbs z)) (hl : (Wh.limbs z).length ≤ 1000) (hvb : Sl w vb (Wh.limbs M)) (hM : 0 < M ∧ M < 1000000000) :
    Calls Tryz.prog 270 #[va, vb] w fun e w' => (∃ q k d p m c, e = .returned (.tuple #[.slice q k d, .slice p m c]) ∧ (∀ a, p = some a → w.heap.size ≤ a.block) ∧ Sl w' (.slice p m c) (Wh.limbs (z % M))) ∧ Below w.heap.size w w' := by
  have e : Wh.limbs M = [M] := limbs_one_of hM
  rw [e] at hvb
  refine (divideLimbs_fresh w va vb _ M ha (Wh.ok_limbs z) hl hvb ⟨hM.1, by omega⟩).mono ?_
  rintro e w' ⟨⟨aq, cq, ar, cr, rfl, hf, h1, h2⟩, hB⟩
  have e2 : Wh.trimL [Wh.val (Wh.limbs z) % M] = Wh.limbs (z % M) := by
    rw [Wh.val_limbs]; unfold Wh.trimL; simp [Wh.val]
  rw [e2] at h2 ⊢
  exact ⟨⟨_, _, _, _, _, _, rfl, hf, h2⟩, hB⟩
end Go.Proofs.YteggbenhffmijaaGreatDoor

/- WALKS, PowerModulo 4: what its loop says from round to round. -/
namespace Wh
theorem emod_pow (x m : Int) (N : Nat) : (x % m) ^ N % m = x ^ N % m := by
  induction N with
  | zero => rw [Int.pow_zero, Int.pow_zero]
  | succ N ih => rw [Int.pow_succ, Int.pow_succ, Int.mul_emod, ih, Int.emod_emod, ← Int.mul_emod]
/-- the power as the loop makes it, by the rests alone -/
theorem pow_rests (x m : Int) (N : Nat) (hm : 0 < m) : ((1 : Int).fmod m).natAbs * (x.fmod m).natAbs ^ N % m.natAbs = ((x ^ N).fmod m).natAbs := by
  have h1 : 0 ≤ (1 : Int) % m := Int.emod_nonneg _ (by omega)
  have h2 : 0 ≤ x % m := Int.emod_nonneg _ (by omega)
  have h3 : 0 ≤ x ^ N % m := Int.emod_nonneg _ (by omega)
  rw [Int.fmod_eq_emod_of_nonneg _ (by omega), Int.fmod_eq_emod_of_nonneg _ (by omega), Int.fmod_eq_emod_of_nonneg _ (by omega)]
  apply Int.ofNat_inj.1
  rw [Int.natCast_emod, Int.natCast_mul, Int.natCast_pow, Int.natAbs_of_nonneg h1, Int.natAbs_of_nonneg h2, Int.natAbs_of_nonneg h3, Int.natAbs_of_nonneg (by omega), Int.mul_emod, Int.emod_emod, emod_pow, ← Int.mul_emod, Int.one_mul]
theorem fmod_natAbs_lt (x m : Int) (hm : 0 < m) : (x.fmod m).natAbs < m.natAbs := by
  have h1 := Int.fmod_nonneg_of_pos x hm
  have h2 := Int.fmod_lt_of_pos x hm
  omega
theorem dg_next {V N x : Nat} {pre : List Nat} (he : pre ++ dg 2 V = dg 2 N) (hp : pre ++ [x] <+: dg 2 N) : 0 < V ∧ x = V % 2 ∧ (pre ++ [x]) ++ dg 2 (V / 2) = dg 2 N := by
  obtain ⟨r, hr⟩ := hp
  rw [← he, List.append_assoc] at hr
  have h := List.append_cancel_left hr
  rcases Nat.eq_zero_or_pos V with e | e
  · subst e; rw [dg_zero] at h; simp at h
  · rw [dg_pos (by decide) e] at h
    simp only [List.singleton_append, List.cons.injEq] at h
    refine ⟨e, h.1, ?_⟩
    rw [← he, dg_pos (by decide) e, h.1]; simp
end Wh
namespace Go.Proofs.YteggbenhffmijaaGreatDoor
open Go.RowKit Go.Proofs.Rf
/-- what a round may write, apart from memory that it makes -/
def Wrote (n b1 b2 b3 : Nat) : Nat → Prop := fun k => k = b1 ∨ k = b2 ∨ k = b3 ∨ n ≤ k
def PMI (W5 : World) (b1 b2 b3 M N T : Nat) (pre : List Nat) (W : World) : Prop :=
  ∃ V s t v1 v2 v3, pre ++ Wh.dg 2 V = Wh.dg 2 N ∧ t * s ^ V % M = T ∧ PMS W W5.heap.size b1 b2 b3 M s t v1 v2 v3 ∧ OnlyS (Wrote W5.heap.size b1 b2 b3) W5 W
theorem PMI.mine {W5 A B : World} {b1 b2 b3 M N T : Nat} {pre : List Nat} (h : PMI W5 b1 b2 b3 M N T pre A) (hb : b1 < W5.heap.size ∧ b2 < W5.heap.size ∧ b3 < W5.heap.size) (ho : OnlyS (Mine W5.heap.size) A B) : PMI W5 b1 b2 b3 M N T pre B := by
  obtain ⟨V, s, t, v1, v2, v3, h1, h2, h3, h4⟩ := h
  exact ⟨V, s, t, v1, v2, v3, h1, h2, h3.mine hb h4.size ho, h4.trans (ho.mono fun k _ hk => .inr (.inr (.inr hk.1)))⟩
/-- the room's cell after multiply -/
theorem PMS.kept {w w1 : World} {n b1 b2 b3 M s t : Nat} {v1 v2 v3 : Value} (h : PMS w n b1 b2 b3 M s t v1 v2 v3) (hb : b3 < n) (hn : n + 3 ≤ w.heap.size) (ho : OnlyS (fun k => n + 3 ≤ k ∧ ∃ m c, v3 = .slice (some ⟨k, 0, none⟩) m c) w w1) :
    w1.cell? ⟨b3, 0, none⟩ = some v3 ∧ w1.frozen? ⟨b3, 0, none⟩ = false := by
  have no : ¬ (n + 3 ≤ b3 ∧ ∃ m c, v3 = .slice (some ⟨b3, 0, none⟩) m c) := fun hm => by have := hm.1; omega
  exact ⟨(ho.cell (p := ⟨b3, 0, none⟩) no (by show b3 < _; omega)).trans h.c3, (ho.frozen (p := ⟨b3, 0, none⟩) no (by show b3 < _; omega)).trans h.f3⟩
end Go.Proofs.YteggbenhffmijaaGreatDoor
