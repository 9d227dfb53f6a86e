/- Part 13 of the proofs that laws of package whole answer true at every input and leave the input as it was, where the library's variables start as the text lays them (the texts V8, V7). -/
import Derived.Test.YteggbenhffmijaaGreatDoorZ08
import Derived.Test.YteggbenhffmijaaGreatDoorZ12
import Derived.Test.YteggbenhffmijaaGreatDoorZ02
import Derived.Test.YteggbenhffmijaaGreatDoorZ05
set_option linter.unusedVariables false
set_option linter.unusedSimpArgs false
/- WALKS, the divisor 2: blend. -/

namespace Go.Proofs.YteggbenhffmijaaGreatDoor
open Go.RowKit
theorem w64 (n : Int) (h : -9223372036854775808 ≤ n) (h' : n ≤ 9223372036854775807) : wrap64 n = n := by unfold wrap64; omega
theorem tq (t : Int) : (1000000000 * t.tdiv 1000000000 + t.tmod 1000000000 = t) ∧ -1000000000 < t.tmod 1000000000 ∧ t.tmod 1000000000 < 1000000000 := by
  have h := Int.natAbs_tmod t 1000000000
  have h2 : t.natAbs % (1000000000 : Int).natAbs < 1000000000 := Nat.mod_lt _ (by decide)
  exact ⟨Int.mul_tdiv_add_tmod t 1000000000, by omega, by omega⟩
theorem bl_neg (t : Int) (htr : -3000000000000000000 ≤ t ∧ t ≤ 3000000000000000000) (h : t.tmod 1000000000 < 0) : wrap64 (wrap64 (t.tdiv 1000000000) - 1) = t / 1000000000 ∧ wrap64 (t.tmod 1000000000 + 1000000000) % 4294967296 = (((t % 1000000000).toNat : Nat) : Int) := by
  obtain ⟨h1, h2, h3⟩ := tq t
  generalize t.tdiv 1000000000 = q at *
  generalize t.tmod 1000000000 = r at *
  rw [w64 q (by omega) (by omega), w64 (q - 1) (by omega) (by omega), w64 (r + 1000000000) (by omega) (by omega)]
  constructor <;> omega
theorem bl_pos (t : Int) (htr : -3000000000000000000 ≤ t ∧ t ≤ 3000000000000000000) (h : 0 ≤ t.tmod 1000000000) : wrap64 (t.tdiv 1000000000) = t / 1000000000 ∧ t.tmod 1000000000 % 4294967296 = (((t % 1000000000).toNat : Nat) : Int) := by
  obtain ⟨h1, h2, h3⟩ := tq t
  generalize t.tdiv 1000000000 = q at *
  generalize t.tmod 1000000000 = r at *
  rw [w64 q (by omega) (by omega)]
  constructor <;> omega
set_option maxRecDepth 100000 in
set_option maxHeartbeats 1000000 in
theorem blend_any (w : World) (v1 v2 : Value) (la lb : List Nat) (x y : Int) (h1 : Sl w v1 la) (h2 : Sl w v2 lb) (ho1 : Wh.Ok la) (ho2 : Wh.Ok lb) (hl1 : la.length ≤ 5000) (hl2 : lb.length ≤ 5000)
    (hx : -1000000000 < x ∧ x < 1000000000) (hy : -1000000000 < y ∧ y < 1000000000) (hZ : 0 ≤ x * (Wh.val la : Nat) + y * (Wh.val lb : Nat)) :
    Calls Tryz.prog 320 #[v1, v2, .int .i64 x, .int .i64 y] w fun e w' => (∃ p m c, e = .returned (.slice p m c) ∧ (∀ q, p = some q → w.heap.size ≤ q.block) ∧ Sl w' (.slice p m c) (Wh.limbs (x * (Wh.val la : Nat) + y * (Wh.val lb : Nat)).natAbs)) ∧ Below w.heap.size w w' := by
  obtain ⟨a1, c1, rfl, hc1⟩ := h1.addr
  obtain ⟨a2, c2, rfl, hc2⟩ := h2.addr
  have HC1 := Lib.hid hc1; clear hc1 h1
  have HC2 := Lib.hid hc2; clear hc2 h2
  have HEND := Lib.hid (fun n hna hnb => Wh.blend_end x y la lb n hx hy ho1 ho2 hna hnb hZ)
  have HRG := Lib.hid (Wh.blOn_range x y (la.getD · 0) (lb.getD · 0) hx hy (fun k => Wh.getD_lt ho1 k) (fun k => Wh.getD_lt ho2 k))
  have HO1 := Lib.hid ho1; clear ho1
  have HO2 := Lib.hid ho2; clear ho2
  clear hZ
  generalize hN : (x * (Wh.val la : Nat) + y * (Wh.val lb : Nat)).natAbs = Z at *
  clear hN
  generalize hn1 : la.length = n1 at *
  generalize hn2 : lb.length = n2 at *
  have HN1 := Lib.hid hn1; clear hn1
  have HN2 := Lib.hid hn2; clear hn2
  have hmk := run_make_limbs (max n1 n2 + 2) (by omega) w (max (n1 : Int) n2 + 2) (by omega)
  go_enter Tryz.func320, Tryz.ntmps320
  go_wp2_with fail
  generalize hn : max n1 n2 + 2 = n at *
  have hni : (max (n1 : Int) n2 + 2) = n := by omega
  try rw [hni]
  have hnj : (((max n1 n2 : Nat) : Int) + 2) = n := by omega
  try rw [hnj]
  have hN1 : n1 + 2 ≤ n := by omega
  have hN2 : n2 + 2 ≤ n := by omega
  have hnb : n ≤ 5002 := by omega
  clear hn hmk hni hnj
  go_loopw [10, 23] (fun on i wr => ∃ k : Nat, k ≤ n ∧ i = .int .i64 k ∧ on = .int .i64 (Wh.blOn x y (la.getD · 0) (lb.getD · 0) k) ∧ Below w.heap.size w wr ∧ Hid (Own wr w.heap.size (Wh.pre (Wh.blDig x y (la.getD · 0) (lb.getD · 0)) k n))) (fun _ i _ => n - (intOf i).toNat)
  case atStart => exact ⟨0, Nat.zero_le _, rfl, rfl, (Below.refl _ _).alloc (Nat.le_refl _) _, Lib.hid (by rw [Wh.pre_zero]; exact own_make w n)⟩
  case round =>
    obtain ⟨k, hk, rfl, rfl, hb, hown⟩ := hrel
    have hpl := Wh.pre_length (Wh.blDig x y (la.getD · 0) (lb.getD · 0)) hk
    by_cases hlt : k < n
    · have hset := Wh.pre_set (Wh.blDig x y (la.getD · 0) (lb.getD · 0)) hlt
      have hoc := hown.out.cell k (by rw [hpl]; omega)
      have hof := hown.out.free k (by rw [hpl]; omega)
      have hos := fun z => hown.out.set (i := k) (by rw [hpl]; omega) z
      have hrg := HRG.out k
      have hon : Wh.blOn x y (la.getD · 0) (lb.getD · 0) (k + 1) = (Wh.blOn x y (la.getD · 0) (lb.getD · 0) k + x * (la.getD k 0 : Nat) + y * (lb.getD k 0 : Nat)) / 1000000000 := rfl
      have hdg : Wh.blDig x y (la.getD · 0) (lb.getD · 0) k = ((Wh.blOn x y (la.getD · 0) (lb.getD · 0) k + x * (la.getD k 0 : Nat) + y * (lb.getD k 0 : Nat)) % 1000000000).toNat := rfl
      have hAl := Wh.getD_lt HO1.out k; have hBl := Wh.getD_lt HO2.out k
      rw [show Wh.R = 1000000000 from rfl] at hAl hBl
      have hpx := Wh.small_prod x (la.getD k 0) hx (Wh.getD_lt HO1.out k)
      have hpy := Wh.small_prod y (lb.getD k 0) hy (Wh.getD_lt HO2.out k)
      have hza : ¬ k < n1 → la.getD k 0 = 0 := fun h => Wh.getD_out (by rw [HN1.out]; omega)
      have hzb : ¬ k < n2 → lb.getD k 0 = 0 := fun h => Wh.getD_out (by rw [HN2.out]; omega)
      generalize hoo : Wh.blOn x y (la.getD · 0) (lb.getD · 0) (k + 1) = on' at *
      have HOO := Lib.hid hoo; clear hoo
      generalize Wh.pre (Wh.blDig x y (la.getD · 0) (lb.getD · 0)) k n = pk at *
      generalize Wh.blOn x y (la.getD · 0) (lb.getD · 0) k = on at *
      generalize hdd : Wh.blDig x y (la.getD · 0) (lb.getD · 0) k = dg at *
      clear hdd
      generalize hA : la.getD k 0 = A at *
      generalize hB : lb.getD k 0 = B at *
      have HOS := Lib.hid hos; have HSET := Lib.hid hset; clear hos hset hown hpl
      have FIN : Hid (Own (wr.setCell ⟨w.heap.size, k, none⟩ (.int .u32 dg)) w.heap.size (Wh.pre (Wh.blDig x y (la.getD · 0) (lb.getD · 0)) (k + 1) n)) := by
        have := HOS.out dg; rw [HSET.out] at this; exact Lib.hid this
      have hbl : Below w.heap.size w (wr.setCell ⟨w.heap.size, k, none⟩ (.int .u32 dg)) := hb.setCell (Nat.le_refl _) _
      have HFB := Lib.hid (And.intro FIN hbl); clear FIN hbl HOS HSET
      have hkd : decide (k < n) = true := by simpa using hlt
      obtain ⟨t, ht⟩ : ∃ t, t = on + x * (A : Int) + y * (B : Int) := ⟨_, rfl⟩
      rw [← ht] at hon hdg
      have HTR : Hid (-3000000000000000000 ≤ t ∧ t ≤ 3000000000000000000) := Lib.hid (by omega)
      have HON := Lib.hid hon; have HDG := Lib.hid hdg
      by_cases ha : k < n1
      · obtain ⟨b1, off1, rfl, hbl1, hcell1⟩ := HC1.out k ha
        have hcx := (hb.cell (p := ⟨b1, off1 + k, none⟩) hbl1).trans (hcell1 k ha)
        rw [hA] at hcx
        clear hcell1 hA hza
        have had : decide (k < n1) = true := by simpa using ha
        by_cases hbk : k < n2
        · obtain ⟨b2, off2, rfl, hbl2, hcell2⟩ := HC2.out k hbk
          have hcy := (hb.cell (p := ⟨b2, off2 + k, none⟩) hbl2).trans (hcell2 k hbk)
          rw [hB] at hcy
          clear hcell2 hB hzb
          have hbd : decide (k < n2) = true := by simpa using hbk
          have HW : Hid (wrap64 (wrap64 (on + wrap64 (x * (A : Int))) + wrap64 (y * (B : Int))) = t) := Lib.hid (by
            rw [w64 (x * (A : Int)) (by omega) (by omega), w64 (y * (B : Int)) (by omega) (by omega), w64 (on + x * (A : Int)) (by omega) (by omega), w64 _ (by omega) (by omega)]; exact ht.symm)
          clear hpx hpy hrg hon hdg ht
          go_wp2
          · rename_i hneg
            rw [HW.out] at hneg ⊢
            obtain ⟨e1, e2⟩ := bl_neg t HTR.out hneg
            rw [e1, e2, ← HON.out, ← HDG.out]
            exact ⟨⟨k + 1, by omega, by go_num, by rw [HOO.out], HFB.out.2, HFB.out.1⟩, by simp [intOf]; omega⟩
          · rename_i hneg
            rw [HW.out] at hneg ⊢
            obtain ⟨e1, e2⟩ := bl_pos t HTR.out hneg
            rw [e1, e2, ← HON.out, ← HDG.out]
            exact ⟨⟨k + 1, by omega, by go_num, by rw [HOO.out], HFB.out.2, HFB.out.1⟩, by simp [intOf]; omega⟩
        · have hB0 : B = 0 := hzb hbk
          clear hzb hB
          have hbd : decide (k < n2) = false := by simpa using hbk
          have HW : Hid (wrap64 (on + wrap64 (x * (A : Int))) = t) := Lib.hid (by
            rw [w64 (x * (A : Int)) (by omega) (by omega), w64 (on + x * (A : Int)) (by omega) (by omega)]; rw [ht, hB0]; simp)
          clear hpx hpy hrg hon hdg ht
          go_wp2
          · rename_i hneg
            rw [HW.out] at hneg ⊢
            obtain ⟨e1, e2⟩ := bl_neg t HTR.out hneg
            rw [e1, e2, ← HON.out, ← HDG.out]
            exact ⟨⟨k + 1, by omega, by go_num, by rw [HOO.out], HFB.out.2, HFB.out.1⟩, by simp [intOf]; omega⟩
          · rename_i hneg
            rw [HW.out] at hneg ⊢
            obtain ⟨e1, e2⟩ := bl_pos t HTR.out hneg
            rw [e1, e2, ← HON.out, ← HDG.out]
            exact ⟨⟨k + 1, by omega, by go_num, by rw [HOO.out], HFB.out.2, HFB.out.1⟩, by simp [intOf]; omega⟩
      · have hA0 : A = 0 := hza ha
        clear hza hA
        have had : decide (k < n1) = false := by simpa using ha
        by_cases hbk : k < n2
        · obtain ⟨b2, off2, rfl, hbl2, hcell2⟩ := HC2.out k hbk
          have hcy := (hb.cell (p := ⟨b2, off2 + k, none⟩) hbl2).trans (hcell2 k hbk)
          rw [hB] at hcy
          clear hcell2 hB hzb
          have hbd : decide (k < n2) = true := by simpa using hbk
          have HW : Hid (wrap64 (on + wrap64 (y * (B : Int))) = t) := Lib.hid (by
            rw [w64 (y * (B : Int)) (by omega) (by omega), w64 (on + y * (B : Int)) (by omega) (by omega)]; rw [ht, hA0]; simp)
          clear hpx hpy hrg hon hdg ht
          go_wp2
          · rename_i hneg
            rw [HW.out] at hneg ⊢
            obtain ⟨e1, e2⟩ := bl_neg t HTR.out hneg
            rw [e1, e2, ← HON.out, ← HDG.out]
            exact ⟨⟨k + 1, by omega, by go_num, by rw [HOO.out], HFB.out.2, HFB.out.1⟩, by simp [intOf]; omega⟩
          · rename_i hneg
            rw [HW.out] at hneg ⊢
            obtain ⟨e1, e2⟩ := bl_pos t HTR.out hneg
            rw [e1, e2, ← HON.out, ← HDG.out]
            exact ⟨⟨k + 1, by omega, by go_num, by rw [HOO.out], HFB.out.2, HFB.out.1⟩, by simp [intOf]; omega⟩
        · have hB0 : B = 0 := hzb hbk
          clear hzb hB
          have hbd : decide (k < n2) = false := by simpa using hbk
          have HW : Hid (on = t) := Lib.hid (by
            rw [ht, hA0, hB0]; simp)
          clear hpx hpy hrg hon hdg ht
          go_wp2
          · rename_i hneg
            rw [HW.out] at hneg ⊢
            obtain ⟨e1, e2⟩ := bl_neg t HTR.out hneg
            rw [e1, e2, ← HON.out, ← HDG.out]
            exact ⟨⟨k + 1, by omega, by go_num, by rw [HOO.out], HFB.out.2, HFB.out.1⟩, by simp [intOf]; omega⟩
          · rename_i hneg
            rw [HW.out] at hneg ⊢
            obtain ⟨e1, e2⟩ := bl_pos t HTR.out hneg
            rw [e1, e2, ← HON.out, ← HDG.out]
            exact ⟨⟨k + 1, by omega, by go_num, by rw [HOO.out], HFB.out.2, HFB.out.1⟩, by simp [intOf]; omega⟩
    · obtain rfl : k = n := by omega
      have hv := HEND.out k hN1 hN2
      have hok : Wh.Ok ((List.range k).map (Wh.blDig x y (la.getD · 0) (lb.getD · 0))) := fun d hd => by
        obtain ⟨i, _, rfl⟩ := List.mem_map.1 hd
        exact Wh.blDig_lt _ _ _ _ _
      have hpp : Wh.pre (Wh.blDig x y (la.getD · 0) (lb.getD · 0)) k k = (List.range k).map (Wh.blDig x y (la.getD · 0) (lb.getD · 0)) := by simp [Wh.pre]
      have hsl := hown.out.sl k (by rw [hpl]; exact Nat.le_refl _)
      rw [hpl, hpp] at hsl
      have HT := Lib.hid (trim_same wr _ k k _ hok hsl (by omega))
      have htr : Wh.trimL ((List.range k).map (Wh.blDig x y (la.getD · 0) (lb.getD · 0))) = Wh.limbs Z := by unfold Wh.trimL; rw [hv]
      rw [htr] at HT
      clear hpl hsl hpp hok hv hown htr
      go_wp2_with fail
      refine HT.out.mono ?_
      rintro e w' ⟨rfl, hs, rfl⟩
      have HS := Lib.hid hs; clear hs
      go_wp2
      go_ret
      exact ⟨⟨_, _, _, rfl, fun q e => by cases e; exact Nat.le_refl _, HS.out⟩, hb⟩
end Go.Proofs.YteggbenhffmijaaGreatDoor

/- WALKS, the divisor 1: side, empty, highest. -/
namespace Go.Proofs.YteggbenhffmijaaGreatDoor
open Go.RowKit
theorem empty_any (w : World) (a b c d : Int) (o : Value) :
    Calls Tryz.prog 280 #[.agg #[.int .i64 a, .int .i64 b, .int .i64 c, .int .i64 d, o]] w fun e w' => e = .returned (.bool (b == 0)) ∧ Below w.heap.size w w' := by
  go_enter Tryz.func280, Tryz.ntmps280
  go_wp2
  go_ret
  exact ⟨rfl, (Below.refl _ _).alloc (Nat.le_refl _) _⟩
set_option maxHeartbeats 400000 in
theorem highest_any (w : World) (v : Value) (l : List Nat) (h : Sl w v l) (ho : Wh.Ok l) (hl : l.length ≤ 2) :
    Calls Tryz.prog 319 #[v, .int .i64 0] w fun e w' => e = .returned (.int .i64 (Wh.val l : Nat)) ∧ w = w' := by
  obtain ⟨a, c, rfl, hc⟩ := h.addr
  clear h
  have HC := Lib.hid hc; clear hc
  have HO := Lib.hid ho; clear ho
  generalize hn : l.length = n at *
  have HN := Lib.hid hn; clear hn
  go_enter Tryz.func319, Tryz.ntmps319
  have hmin : min (2 : Int) n = n := by omega
  go_wp2_with fail
  go_loop [5, 6] (fun r i => ∃ j : Nat, j ≤ n ∧ i = .int .i64 ((j : Int) - 1) ∧ r = .int .i64 (Wh.val (l.drop j) : Nat)) (fun _ i => (intOf i + 1).toNat)
  case atStart => exact ⟨n, Nat.le_refl _, rfl, by rw [List.drop_of_length_le (by rw [HN.out]; exact Nat.le_refl _)]; rfl⟩
  case round =>
    obtain ⟨j, hj, rfl, rfl⟩ := hrel
    rcases Nat.eq_zero_or_pos j with h0 | h0
    · subst h0
      rw [List.drop_zero]
      generalize hV : Wh.val l = V at *
      go_wp2
      go_ret
      exact ⟨by first | rfl | (rw [hV]; rfl), rfl⟩
    · obtain ⟨k, rfl⟩ : ∃ k, j = k + 1 := ⟨j - 1, by omega⟩
      have hv := Wh.val_drop l k (by rw [HN.out]; omega)
      obtain ⟨b, off, rfl, hlt, hcell⟩ := HC.out k (by omega)
      have hck := hcell k (by omega)
      have hx : l.getD k 0 < 1000000000 := Wh.getD_lt HO.out k
      have hu : Wh.val (l.drop (k + 1)) < 1000000000 := by
        have := Wh.val_lt (l := l.drop (k + 1)) (fun y hy => HO.out y (List.mem_of_mem_drop hy))
        have h2 : Wh.R ^ (l.drop (k + 1)).length ≤ Wh.R ^ 1 := Nat.pow_le_pow_right (by decide) (by rw [List.length_drop, HN.out]; omega)
        have h3 : Wh.R ^ 1 = 1000000000 := by decide
        omega
      have HV := Lib.hid hv; clear hv hcell
      have HLT := Lib.hid hlt; clear hlt
      generalize l.getD k 0 = x at *
      generalize Wh.val (l.drop (k + 1)) = u at *
      have hk1 : (((k + 1 : Nat) : Int) - 1) = k := by omega
      rw [hk1]
      go_wp2
      go_round
      case rel => exact ⟨k, by omega, by go_num, by congr 1; rw [HV.out, show Wh.R = 1000000000 from rfl]; omega⟩
      case measure => simp [intOf]
end Go.Proofs.YteggbenhffmijaaGreatDoor
