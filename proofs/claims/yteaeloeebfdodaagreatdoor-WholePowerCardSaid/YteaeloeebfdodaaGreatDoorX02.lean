/- Part 2 of the proofs that laws of package whole answer true at every input and leave the input as it was, where the library's variables start as the text lays them (the texts A5, A6, M5, A7, A8). -/
import Derived.Test.YteaeloeebfdodaaGreatDoorX01
import Derived.Deep.QuietTactic
import Derived.BigQuiet
import Derived.Deep.RegionHeld3
set_option linter.unusedVariables false
set_option linter.unusedSimpArgs false
/- WALKS, part 5: combine, addLimbs, takeLimbs. -/
namespace Go.Proofs.YteaeloeebfdodaaGreatDoor
open Go.RowKit
theorem Sl.addr {w : World} {v : Value} {l : List Nat} (h : Sl w v l) : ∃ a c, v = .slice a l.length c ∧ ∀ k, k < l.length → ∃ b off, a = some ⟨b, off, none⟩ ∧ b < w.heap.size ∧ ∀ i, i < l.length → w.cell? ⟨b, off + i, none⟩ = some (.int .u32 (l.getD i 0)) := by
  rcases h with ⟨rfl, rfl⟩ | ⟨b, off, cap, rfl, h2, h3, h4⟩
  · exact ⟨_, _, rfl, fun k hk => absurd hk (by simp)⟩
  · exact ⟨_, _, rfl, fun k hk => ⟨b, off, rfl, h3, h4⟩⟩
set_option maxRecDepth 100000 in
set_option maxHeartbeats 400000 in
theorem combine_any (K : Nat) (f : Nat → Nat → Nat → Nat × Nat) (w : World) (v1 v2 : Value) (l1 l2 : List Nat) (h1 : Sl w v1 l1) (h2 : Sl w v2 l2) (ho1 : Wh.Ok l1) (ho2 : Wh.Ok l2) (hl : l2.length ≤ l1.length) (hm : l1.length ≤ 5000)
    (hf : ∀ k, Wh.car f (l1.getD · 0) (l2.getD · 0) k ≤ 1)
    (hok : Wh.Ok (Wh.comb f l1 l2)) (hkc : ∀ (args : Array Value) (w : World), (callFunc K args).run Tryz.prog w = .ok (.enter K args) w)
    (hstep : ∀ (x y c : Nat) (w : World), x < 1000000000 → y < 1000000000 → c ≤ 1 → Calls Tryz.prog K #[.int .u32 x, .int .u32 y, .int .u32 c] w fun e w' => e = .returned (pairV (f x y c)) ∧ w = w') :
    Calls Tryz.prog 308 #[v1, v2, .func (Fn.func K) #[] #[]] w fun e w' => (∃ v', e = .returned v' ∧ Small v' ∧ Sl w' v' (Wh.trimL (Wh.comb f l1 l2))) ∧ Below w.heap.size w w' := by
  obtain ⟨a1, c1, rfl, hc1⟩ := h1.addr
  obtain ⟨a2, c2, rfl, hc2⟩ := h2.addr
  have HC1 := Lib.hid hc1; clear hc1 h1
  have HC2 := Lib.hid hc2; clear hc2 h2
  have HO1 := Lib.hid ho1; clear ho1
  have HO2 := Lib.hid ho2; clear ho2
  have HF := Lib.hid hf; clear hf
  have HS := Lib.hid hstep; clear hstep
  generalize hn1 : l1.length = n1 at *
  generalize hn2 : l2.length = n2 at *
  have HN1 := Lib.hid hn1; clear hn1
  have HN2 := Lib.hid hn2; clear hn2
  have hmk := run_make_limbs (n1 + 1) (by omega) w ((n1 : Int) + 1) (by omega)
  go_enter Tryz.func308, Tryz.ntmps308
  go_wp2_with fail
  go_loopw [8, 18] (fun on i wr => ∃ k : Nat, k ≤ n1 ∧ i = .int .i64 k ∧ on = .int .u32 (Wh.car f (l1.getD · 0) (l2.getD · 0) k) ∧ Below w.heap.size w wr ∧ Hid (Own wr w.heap.size (Wh.pre (Wh.dig f (l1.getD · 0) (l2.getD · 0)) k (n1 + 1)))) (fun _ i _ => n1 - (intOf i).toNat)
  case atStart => exact ⟨0, Nat.zero_le _, rfl, rfl, (Below.refl _ _).alloc (Nat.le_refl _) _, Lib.hid (by rw [Wh.pre_zero]; exact own_make w (n1 + 1))⟩
  case round =>
    obtain ⟨k, hk, rfl, rfl, hb, hown⟩ := hrel
    have hcar : Wh.car f (l1.getD · 0) (l2.getD · 0) (k + 1) = (f (l1.getD k 0) (l2.getD k 0) (Wh.car f (l1.getD · 0) (l2.getD · 0) k)).2 := rfl
    have hdig : Wh.dig f (l1.getD · 0) (l2.getD · 0) k = (f (l1.getD k 0) (l2.getD k 0) (Wh.car f (l1.getD · 0) (l2.getD · 0) k)).1 := rfl
    have hc1 := HF.out k
    have hpl := Wh.pre_length (Wh.dig f (l1.getD · 0) (l2.getD · 0)) (show k ≤ n1 + 1 by omega)
    by_cases hlt : k < n1
    · have hset := Wh.pre_set (Wh.dig f (l1.getD · 0) (l2.getD · 0)) (show k < n1 + 1 by omega)
      have hoc := hown.out.cell k (by rw [hpl]; omega)
      have hof := hown.out.free k (by rw [hpl]; omega)
      have hos := fun x => hown.out.set (i := k) (by rw [hpl]; omega) x
      have hx := Wh.getD_lt HO1.out k
      have hy := Wh.getD_lt HO2.out k
      rw [hdig] at hset
      generalize Wh.pre (Wh.dig f (l1.getD · 0) (l2.getD · 0)) k (n1 + 1) = pk at *
      obtain ⟨b1, off1, rfl, hbl1, hcell1⟩ := HC1.out k hlt
      have hcx := (hb.cell (p := ⟨b1, off1 + k, none⟩) hbl1).trans (hcell1 k hlt)
      clear hcell1
      have hcall := HS.out (l1.getD k 0) (l2.getD k 0) _ wr hx hy hc1
      generalize Wh.car f (l1.getD · 0) (l2.getD · 0) k = c at *
      generalize hc' : Wh.car f (l1.getD · 0) (l2.getD · 0) (k + 1) = c' at *
      have HC' := Lib.hid hc'; clear hc'
      generalize hyy : l2.getD k 0 = y at *
      generalize l1.getD k 0 = x at *
      generalize hp : f x y c = p at *
      obtain ⟨d, o⟩ := p
      simp only at hcar hdig hset
      subst hcar
      have HSET := Lib.hid hset; clear hset hdig hp
      have HOS := Lib.hid hos; clear hos hown hpl
      have FIN : Hid (Own (wr.setCell ⟨w.heap.size, k, none⟩ (.int .u32 d)) w.heap.size (Wh.pre (Wh.dig f (l1.getD · 0) (l2.getD · 0)) (k + 1) (n1 + 1))) := by
        have := HOS.out d; rw [HSET.out] at this; exact Lib.hid this
      have hbl : Below w.heap.size w (wr.setCell ⟨w.heap.size, k, none⟩ (.int .u32 d)) := hb.setCell (Nat.le_refl _) _
      by_cases hk2 : k < n2
      · obtain ⟨b2, off2, rfl, hbl2, hcell2⟩ := HC2.out k hk2
        have hcy := (hb.cell (p := ⟨b2, off2 + k, none⟩) hbl2).trans (hcell2 k hk2)
        clear hcell2
        rw [hyy] at hcy
        clear hyy
        go_wp2_with fail
        refine hcall.mono ?_
        rintro e w' ⟨rfl, rfl⟩
        simp only [pairV]
        go_wp2
        go_roundw
        case rel => exact ⟨k + 1, by omega, by go_num, by rw [HC'.out], hbl, FIN⟩
        case measure => simp [intOf]; omega
      · have hy0 : y = 0 := by rw [← hyy]; exact Wh.getD_out (by rw [HN2.out]; omega)
        subst hy0
        clear hyy
        simp only [Int.natCast_zero] at hcall
        go_wp2_with fail
        refine hcall.mono ?_
        rintro e w' ⟨rfl, rfl⟩
        simp only [pairV]
        go_wp2
        go_roundw
        case rel => exact ⟨k + 1, by omega, by go_num, by rw [HC'.out], hbl, FIN⟩
        case measure => simp [intOf]; omega
    · obtain rfl : k = n1 := by omega
      have hpr := Wh.comb_pre f l1 l2
      rw [HN1.out] at hpr
      have hcl := Wh.comb_length f l1 l2
      rw [HN1.out] at hcl
      have hown2 := hown.out.set (i := k) (by rw [hpl]; omega) (Wh.car f (l1.getD · 0) (l2.getD · 0) k)
      have hoc := hown.out.cell k (by rw [hpl]; omega)
      have hof := hown.out.free k (by rw [hpl]; omega)
      rw [hpr] at hown2
      have HOW := Lib.hid hown2; clear hown2
      have HCL := Lib.hid hcl; clear hcl hpr hpl hown hcar hdig
      generalize Wh.pre (Wh.dig f (l1.getD · 0) (l2.getD · 0)) k (k + 1) = pk at *
      generalize Wh.car f (l1.getD · 0) (l2.getD · 0) k = c at *
      have HOK : Wh.Ok (Wh.comb f l1 l2) := hok
      have hbl : Below w.heap.size w (wr.setCell ⟨w.heap.size, k, none⟩ (.int .u32 c)) := hb.setCell (Nat.le_refl _) _
      go_wp2_with fail
      have hsl := HOW.out.sl (k + 1) (by rw [HCL.out]; exact Nat.le_refl _)
      rw [HCL.out] at hsl
      refine (trim_any _ _ _ HOK hsl (by intro a n c h; cases h; omega)).mono ?_
      rintro e w' ⟨⟨a, c, rfl, hc, hv⟩, rfl⟩
      have hfin := hv _ hsl
      have HFIN := Lib.hid hfin; clear hfin hv hsl
      go_wp2
      go_ret
      exact ⟨⟨_, rfl, by intro a' n' c' h; cases h; exact hc, HFIN.out⟩, hbl⟩
end Go.Proofs.YteaeloeebfdodaaGreatDoor

/- WALKS, part 6: addLimbs, takeLimbs. -/
namespace Go.Proofs.YteaeloeebfdodaaGreatDoor
open Go.RowKit
theorem plus_calls (w : World) (v1 v2 : Value) (l1 l2 : List Nat) (h1 : Sl w v1 l1) (h2 : Sl w v2 l2) (ho1 : Wh.Ok l1) (ho2 : Wh.Ok l2) (hl : l2.length ≤ l1.length) (hm : l1.length ≤ 5000) :
    Calls Tryz.prog 308 #[v1, v2, .func (Fn.func 310) #[] #[]] w fun e w' => (∃ v', e = .returned v' ∧ Small v' ∧ Sl w' v' (Wh.limbs (Wh.val l1 + Wh.val l2))) ∧ Below w.heap.size w w' := by
  obtain ⟨k1, k2⟩ := Wh.comb_plus ho1 ho2 hl
  have := combine_any 310 Wh.plusN w v1 v2 l1 l2 h1 h2 ho1 ho2 hl hm (fun k => (Wh.plus_sum (Wh.getD_lt ho1) (Wh.getD_lt ho2) k).1) k1 (fun _ _ => by kernel_rfl) (fun x y c w hx hy hc => plus_any x y c hx hy hc w)
  unfold Wh.trimL at this
  rw [k2] at this
  exact this
theorem minus_calls (w : World) (v1 v2 : Value) (l1 l2 : List Nat) (h1 : Sl w v1 l1) (h2 : Sl w v2 l2) (ho1 : Wh.Ok l1) (ho2 : Wh.Ok l2) (hl : l2.length ≤ l1.length) (hm : l1.length ≤ 5000) (hv : Wh.val l2 ≤ Wh.val l1) :
    Calls Tryz.prog 308 #[v1, v2, .func (Fn.func 309) #[] #[]] w fun e w' => (∃ v', e = .returned v' ∧ Small v' ∧ Sl w' v' (Wh.limbs (Wh.val l1 - Wh.val l2))) ∧ Below w.heap.size w w' := by
  obtain ⟨k1, k2⟩ := Wh.comb_minus ho1 ho2 hl hv
  have := combine_any 309 Wh.minusN w v1 v2 l1 l2 h1 h2 ho1 ho2 hl hm (fun k => (Wh.minus_sum (Wh.getD_lt ho1) (Wh.getD_lt ho2) k).1) k1 (fun _ _ => by kernel_rfl) (fun x y c w hx hy hc => minus_any x y c hx hy hc w)
  unfold Wh.trimL at this
  rw [k2] at this
  exact this
/-- takeLimbs: the difference of two numbers, of which the second one is not greater -/
theorem takeLimbs_any (w : World) (v1 v2 : Value) (a b : Nat) (h1 : Sl w v1 (Wh.limbs a)) (h2 : Sl w v2 (Wh.limbs b)) (hm : (Wh.limbs a).length ≤ 5000) (hv : b ≤ a) :
    Calls Tryz.prog 268 #[v1, v2] w fun e w' => (∃ v', e = .returned v' ∧ Small v' ∧ Sl w' v' (Wh.limbs (a - b))) ∧ Below w.heap.size w w' := by
  have hc := minus_calls w v1 v2 _ _ h1 h2 (Wh.ok_limbs a) (Wh.ok_limbs b) (Wh.limbs_length_mono hv) hm (by rw [Wh.val_limbs, Wh.val_limbs]; exact hv)
  rw [Wh.val_limbs, Wh.val_limbs] at hc
  have HC := Lib.hid hc; clear hc h1 h2
  go_enter Tryz.func268, Tryz.ntmps268
  go_wp2_with fail
  refine HC.out.mono ?_
  rintro e w' ⟨⟨v', rfl, hs, hv'⟩, hb⟩
  have HV := Lib.hid hv'; clear hv'
  have HS := Lib.hid hs; clear hs
  go_wp2
  go_ret
  exact ⟨⟨_, rfl, HS.out, HV.out⟩, hb⟩
set_option maxHeartbeats 400000 in
/-- addLimbs: the sum of two numbers -/
theorem addLimbs_any (w : World) (v1 v2 : Value) (a b : Nat) (h1 : Sl w v1 (Wh.limbs a)) (h2 : Sl w v2 (Wh.limbs b)) (hm : (Wh.limbs a).length ≤ 5000) (hm2 : (Wh.limbs b).length ≤ 5000) :
    Calls Tryz.prog 269 #[v1, v2] w fun e w' => (∃ v', e = .returned v' ∧ Small v' ∧ Sl w' v' (Wh.limbs (a + b))) ∧ Below w.heap.size w w' := by
  obtain ⟨x1, c1, rfl⟩ := h1.len
  obtain ⟨x2, c2, rfl⟩ := h2.len
  by_cases hl : (Wh.limbs a).length < (Wh.limbs b).length
  · have hc := plus_calls w _ _ _ _ h2 h1 (Wh.ok_limbs b) (Wh.ok_limbs a) (by omega) hm2
    rw [Wh.val_limbs, Wh.val_limbs, Nat.add_comm b a] at hc
    have HC := Lib.hid hc; clear hc h1 h2
    generalize (Wh.limbs a).length = n1 at *
    generalize (Wh.limbs b).length = n2 at *
    go_enter Tryz.func269, Tryz.ntmps269
    go_wp2_with fail
    refine HC.out.mono ?_
    rintro e w' ⟨⟨v', rfl, hs, hv'⟩, hb⟩
    have HV := Lib.hid hv'; clear hv'
    have HS := Lib.hid hs; clear hs
    go_wp2
    go_ret
    exact ⟨⟨_, rfl, HS.out, HV.out⟩, hb⟩
  · have hc := plus_calls w _ _ _ _ h1 h2 (Wh.ok_limbs a) (Wh.ok_limbs b) (by omega) hm
    rw [Wh.val_limbs, Wh.val_limbs] at hc
    have HC := Lib.hid hc; clear hc h1 h2
    generalize (Wh.limbs a).length = n1 at *
    generalize (Wh.limbs b).length = n2 at *
    go_enter Tryz.func269, Tryz.ntmps269
    go_wp2_with fail
    refine HC.out.mono ?_
    rintro e w' ⟨⟨v', rfl, hs, hv'⟩, hb⟩
    have HV := Lib.hid hv'; clear hv'
    have HS := Lib.hid hs; clear hs
    go_wp2
    go_ret
    exact ⟨⟨_, rfl, HS.out, HV.out⟩, hb⟩
end Go.Proofs.YteaeloeebfdodaaGreatDoor

namespace Wh
/-- the first limb that differs, from the high end, decides -/
theorem val_lt_of_top {l m : List Nat} (ho : Ok l) (i : Nat) (h1 : i < l.length) (h2 : i < m.length) (hd : l.drop (i + 1) = m.drop (i + 1)) (h : l.getD i 0 < m.getD i 0) : val l < val m := by
  rw [val_take_drop l i (by omega), val_take_drop m i (by omega), val_drop l i h1, val_drop m i h2, hd]
  have h3 : val (l.take i) < R ^ i := by
    have := val_lt (l := l.take i) (fun x hx => ho x (List.mem_of_mem_take hx))
    rwa [List.length_take, Nat.min_eq_left (by omega)] at this
  have h4 : R ^ i * (l.getD i 0 + R * val (m.drop (i + 1)) + 1) ≤ R ^ i * (m.getD i 0 + R * val (m.drop (i + 1))) := Nat.mul_le_mul_left _ (by omega)
  rw [Nat.mul_add, Nat.mul_one] at h4
  omega
def cmpN (a b : Nat) : Int := if a < b then -1 else if a = b then 0 else 1
theorem drop_step {l m : List Nat} {i : Nat} (h1 : i < l.length) (h2 : i < m.length) (h : l.getD i 0 = m.getD i 0) (hd : l.drop (i + 1) = m.drop (i + 1)) : l.drop i = m.drop i := by
  rw [List.drop_eq_getElem_cons h1, List.drop_eq_getElem_cons h2, hd]
  congr 1
  simpa [List.getD, h1, h2] using h
theorem cmpN_lt {a b : Nat} (h : a < b) : cmpN a b = -1 := by simp [cmpN, h]
theorem cmpN_gt {a b : Nat} (h : b < a) : cmpN a b = 1 := by simp [cmpN, show ¬ a < b by omega, show ¬ a = b by omega]
theorem cmpN_self (a : Nat) : cmpN a a = 0 := by simp [cmpN]
end Wh

/- WALKS, part 7: compareLimbs. -/
namespace Go.Proofs.YteaeloeebfdodaaGreatDoor
open Go.RowKit
theorem below_drewN (B : Nat) (w : World) (n : Nat) : Below B w (w.drewN n) := by
  induction n with
  | zero => exact Below.refl _ _
  | succ n ih => exact ih.drew
theorem drew3 (w : World) (a b c : Nat) : ∃ n, ((w.drewN a).drewN b).drewN c = w.drewN n := ⟨a + (b + c), by rw [World.drewN_drewN, World.drewN_drewN]⟩
/-- a callee that turns nothing, called behind draws that the walk has joined -/
theorem q_still {f : FuncId} {args : Array Value} {w : World} {a n : Nat} {v : Value} (h : ∀ W, Calls Tryz.prog f args W fun e W' => e = .returned v ∧ W = W') :
    Calls Tryz.prog f args (w.drewN (a + n)) fun e W' => e = .returned v ∧ ∃ m, W' = w.drewN (a + m) :=
  (h _).mono fun _ _ x => ⟨x.1, n, x.2.symm⟩
set_option maxHeartbeats 400000 in
theorem compare_short (w : World) (v1 v2 : Value) (l1 l2 : List Nat) (h1 : Sl w v1 l1) (h2 : Sl w v2 l2) (hl : l1.length ≠ l2.length) :
    Calls Tryz.prog 177 #[v1, v2] w fun e w' => e = .returned (.int .i64 (if l1.length < l2.length then -1 else 1)) ∧ w = w' := by
  obtain ⟨a1, c1, rfl⟩ := h1.len
  obtain ⟨a2, c2, rfl⟩ := h2.len
  clear h1 h2
  generalize l1.length = n1 at *
  generalize l2.length = n2 at *
  rcases Nat.lt_or_gt_of_ne hl with h | h
  · clear hl
    have h' : (n1 : Int) < n2 := by omega
    have hd : decide ((n1 : Int) < n2) = true := by simpa using h
    go_enter Tryz.func177, Tryz.ntmps177
    go_wp2_with fail
    refine (direction_any _ _).mono ?_
    rintro e w' ⟨rfl, rfl⟩
    go_wp2
    go_ret
    exact ⟨rfl, rfl⟩
  · clear hl
    have h' : (n2 : Int) < n1 := by omega
    have hd : decide ((n1 : Int) < n2) = false := by simp; omega
    go_enter Tryz.func177, Tryz.ntmps177
    go_wp2_with fail
    refine (direction_any _ _).mono ?_
    rintro e w' ⟨rfl, rfl⟩
    go_wp2
    go_ret
    exact ⟨rfl, rfl⟩
set_option maxRecDepth 100000 in
set_option maxHeartbeats 400000 in
theorem compare_same (w : World) (v1 v2 : Value) (l1 l2 : List Nat) (h1 : Sl w v1 l1) (h2 : Sl w v2 l2) (ho1 : Wh.Ok l1) (ho2 : Wh.Ok l2) (hl : l1.length = l2.length) (hm : l1.length < 8) :
    Calls Tryz.prog 177 #[v1, v2] w fun e w' => e = .returned (.int .i64 (Wh.cmpN (Wh.val l1) (Wh.val l2))) ∧ ∃ n, w' = w.drewN n := by
  obtain ⟨a1, c1, rfl, hc1⟩ := h1.addr
  obtain ⟨a2, c2, rfl, hc2⟩ := h2.addr
  clear h1 h2
  have HC1 := Lib.hid hc1; clear hc1
  have HC2 := Lib.hid hc2; clear hc2
  have HO1 := Lib.hid ho1; clear ho1
  have HO2 := Lib.hid ho2; clear ho2
  rw [← hl] at HC2 ⊢
  have HL := Lib.hid hl; clear hl
  generalize hn : l1.length = n at *
  have HN := Lib.hid hn; clear hn
  have h8 : (n : Int) < 8 := by omega
  go_enter Tryz.func177, Tryz.ntmps177
  go_wp2_with fail
  go_loop [5] (fun r => r = .int .i64 n) (fun _ => 0)
  case atStart => rfl
  case round =>
  subst hrel
  go_wp2_with fail
  go_loopw [6] (fun i wr => ∃ j m : Nat, j ≤ n ∧ i = .int .i64 ((j : Int) - 1) ∧ wr = w.drewN m ∧ Hid (l1.drop j = l2.drop j)) (fun i _ => (intOf i + 1).toNat)
  case atStart => exact ⟨n, 0, Nat.le_refl _, rfl, rfl, Lib.hid (by rw [List.drop_of_length_le (by rw [HN.out]; exact Nat.le_refl _), List.drop_of_length_le (by rw [← HL.out]; exact Nat.le_refl _)])⟩
  case round =>
    obtain ⟨j, m, hj, rfl, rfl, HD⟩ := hrel
    by_cases h0 : j = 0
    · subst h0
      go_wp2
      go_ret
      refine ⟨?_, m, rfl⟩
      have e : l1 = l2 := by simpa using HD.out
      rw [e, Wh.cmpN_self]
      rfl
    · obtain ⟨k, rfl⟩ : ∃ k, j = k + 1 := ⟨j - 1, by omega⟩
      obtain ⟨b1, off1, rfl, hbl1, hcell1⟩ := HC1.out k (by omega)
      obtain ⟨b2, off2, rfl, hbl2, hcell2⟩ := HC2.out k (by omega)
      have hcx := hcell1 k (by omega)
      have hcy := hcell2 k (by omega)
      clear hcell1 hcell2
      have hk : (0 : Int) ≤ (k : Int) ∧ (k : Int) < (n : Int) := by omega
      obtain ⟨hk1, hk2⟩ := hk
      have hkn : k < n := by omega
      rw [show (((k + 1 : Nat) : Int) - 1) = (k : Int) from by omega]
      clear h0 hj
      generalize hx : l1.getD k 0 = x at *
      generalize hy : l2.getD k 0 = y at *
      have HX := Lib.hid hx; clear hx
      have HY := Lib.hid hy; clear hy
      rcases Nat.lt_trichotomy x y with hc | hc | hc
      · have hne : ((x : Int) != (y : Int)) = true := by rw [bne_iff_ne]; omega
        have hlt : decide (x < y) = true := by simpa using hc
        have hfin : Wh.cmpN (Wh.val l1) (Wh.val l2) = -1 := Wh.cmpN_lt (Wh.val_lt_of_top HO1.out k (by rw [HN.out]; exact hkn) (by rw [← HL.out]; exact hkn) HD.out (by rw [HX.out, HY.out]; exact hc))
        have HF := Lib.hid hfin; clear hfin
        go_wp2
        go_quiet (fail)
        go_wp2
        go_quiet ((go_at_call 176; exact q_still (direction_any _)))
        go_wp2
        go_ret
        exact ⟨by rw [HF.out]; rfl, by first | exact drew3 .. | exact ⟨_, rfl⟩⟩
      · subst hc
        have hne : ((x : Int) != (x : Int)) = false := by simp
        have HD2 := Lib.hid (Wh.drop_step (by rw [HN.out]; exact hkn) (by rw [← HL.out]; exact hkn) (HX.out.trans HY.out.symm) HD.out)
        go_wp2
        go_quiet (fail)
        go_wp2
        go_roundw
        case rel => exact ⟨k, m + nq, by omega, rfl, rfl, HD2⟩
        case measure => simp [intOf]
      · have hne : ((x : Int) != (y : Int)) = true := by rw [bne_iff_ne]; omega
        have hlt : decide (x < y) = false := by simp; omega
        have hfin : Wh.cmpN (Wh.val l1) (Wh.val l2) = 1 := Wh.cmpN_gt (Wh.val_lt_of_top HO2.out k (by rw [← HL.out]; exact hkn) (by rw [HN.out]; exact hkn) HD.out.symm (by rw [HX.out, HY.out]; exact hc))
        have HF := Lib.hid hfin; clear hfin
        go_wp2
        go_quiet (fail)
        go_wp2
        go_quiet ((go_at_call 176; exact q_still (direction_any _)))
        go_wp2
        go_ret
        exact ⟨by rw [HF.out]; rfl, by first | exact drew3 .. | exact ⟨_, rfl⟩⟩
/-- compareLimbs: the order of the numbers -/
theorem compareLimbs_any (w : World) (v1 v2 : Value) (a b : Nat) (h1 : Sl w v1 (Wh.limbs a)) (h2 : Sl w v2 (Wh.limbs b)) (hm : (Wh.limbs a).length < 8 ∨ (Wh.limbs a).length ≠ (Wh.limbs b).length) :
    Calls Tryz.prog 177 #[v1, v2] w fun e w' => e = .returned (.int .i64 (Wh.cmpN a b)) ∧ ∃ n, w' = w.drewN n := by
  by_cases hl : (Wh.limbs a).length = (Wh.limbs b).length
  · have := compare_same w v1 v2 _ _ h1 h2 (Wh.ok_limbs a) (Wh.ok_limbs b) hl (by omega)
    rw [Wh.val_limbs, Wh.val_limbs] at this
    exact this
  · refine (compare_short w v1 v2 _ _ h1 h2 hl).mono ?_
    rintro e w' ⟨rfl, rfl⟩
    refine ⟨?_, 0, rfl⟩
    by_cases h : (Wh.limbs a).length < (Wh.limbs b).length
    · rw [if_pos h, Wh.cmpN_lt (Wh.limbs_lt_of_length h)]
    · rw [if_neg h, Wh.cmpN_gt (Wh.limbs_lt_of_length (by omega))]
end Go.Proofs.YteaeloeebfdodaaGreatDoor

/- WALKS, part 8: add. -/
namespace Go.Proofs.YteaeloeebfdodaaGreatDoor
open Go.RowKit
/-- limbs of at most this many -/
def Fit (x : Int) : Prop := (Wh.limbs x.natAbs).length < 8
/-- three new variables that hold numbers at work -/
structure Laid3 (w W : World) (a0 a1 b0 b1 c0 c1 : Value) : Prop where
  a0 : W.cell? ⟨w.heap.size, 0, none⟩ = some a0
  a1 : W.cell? ⟨w.heap.size, 1, none⟩ = some a1
  b0 : W.cell? ⟨w.heap.size + 1, 0, none⟩ = some b0
  b1 : W.cell? ⟨w.heap.size + 1, 1, none⟩ = some b1
  c0 : W.cell? ⟨w.heap.size + 1 + 1, 0, none⟩ = some c0
  c1 : W.cell? ⟨w.heap.size + 1 + 1, 1, none⟩ = some c1
  f0 : W.frozen? ⟨w.heap.size + 1 + 1, 0, none⟩ = false
  f1 : W.frozen? ⟨w.heap.size + 1 + 1, 1, none⟩ = false
  fa0 : W.frozen? ⟨w.heap.size, 0, none⟩ = false
  fa1 : W.frozen? ⟨w.heap.size, 1, none⟩ = false
  fb0 : W.frozen? ⟨w.heap.size + 1, 0, none⟩ = false
  fb1 : W.frozen? ⟨w.heap.size + 1, 1, none⟩ = false
  below : Below w.heap.size w W
  size : W.heap.size = w.heap.size + 1 + 1 + 1
theorem Laid3.keep {w W w' : World} {a0 a1 b0 b1 c0 c1 : Value} (L : Laid3 w W a0 a1 b0 b1 c0 c1) (h : Below W.heap.size W w') :
    w'.cell? ⟨w.heap.size, 0, none⟩ = some a0 ∧ w'.cell? ⟨w.heap.size, 1, none⟩ = some a1 ∧ w'.cell? ⟨w.heap.size + 1, 1, none⟩ = some b1 :=
  ⟨(h.cell (p := ⟨_, _, none⟩) (by rw [L.size]; show w.heap.size < _; omega)).trans L.a0, (h.cell (p := ⟨_, _, none⟩) (by rw [L.size]; show w.heap.size < _; omega)).trans L.a1, (h.cell (p := ⟨_, _, none⟩) (by rw [L.size]; show w.heap.size + 1 < _; omega)).trans L.b1⟩
theorem Laid3.result {w W w' : World} {a0 a1 b0 b1 c0 c1 : Value} (L : Laid3 w W a0 a1 b0 b1 c0 c1) (h : Below W.heap.size W w') :
    w'.cell? ⟨w.heap.size + 1 + 1, 0, none⟩ = some c0 ∧ w'.cell? ⟨w.heap.size + 1 + 1, 1, none⟩ = some c1 ∧ w'.frozen? ⟨w.heap.size + 1 + 1, 0, none⟩ = false ∧ w'.frozen? ⟨w.heap.size + 1 + 1, 1, none⟩ = false :=
  ⟨(h.cell (p := ⟨_, _, none⟩) (by rw [L.size]; show w.heap.size + 1 + 1 < _; omega)).trans L.c0, (h.cell (p := ⟨_, _, none⟩) (by rw [L.size]; show w.heap.size + 1 + 1 < _; omega)).trans L.c1,
   (h.frozen (p := ⟨_, _, none⟩) (by rw [L.size]; show w.heap.size + 1 + 1 < _; omega)).trans L.f0, (h.frozen (p := ⟨_, _, none⟩) (by rw [L.size]; show w.heap.size + 1 + 1 < _; omega)).trans L.f1⟩
theorem far1 {w : World} {b b0 i : Nat} {x y a : Value} (h : w.cell? ⟨b0, i, none⟩ = some a) (h0 : b ≠ b0) : ((w.setCell ⟨b, 0, none⟩ x).setCell ⟨b, 1, none⟩ y).cell? ⟨b0, i, none⟩ = some a := by
  rw [World.cell?_setCell_far _ _ _ _ h0, World.cell?_setCell_far _ _ _ _ h0]; exact h
theorem two_cells (w : World) (b : Nat) (x y : Value) {u v : Value} (h0 : w.cell? ⟨b, 0, none⟩ = some u) (h1 : w.cell? ⟨b, 1, none⟩ = some v) :
    ((w.setCell ⟨b, 0, none⟩ x).setCell ⟨b, 1, none⟩ y).cell? ⟨b, 0, none⟩ = some x ∧ ((w.setCell ⟨b, 0, none⟩ x).setCell ⟨b, 1, none⟩ y).cell? ⟨b, 1, none⟩ = some y := by
  constructor
  · rw [World.cell?_setCell_other _ _ _ _ (by intro e; have := congrArg Addr.off e; simp at this), World.cell?_setCell_same _ _ _ h0]
  · exact World.cell?_setCell_same _ _ _ (by rw [World.cell?_setCell_other _ _ _ _ (by intro e; have := congrArg Addr.off e; simp at this)]; exact h1)
/-- a store into a cell that holds no limb turns no limbs -/
theorem Sl.store {w : World} {v : Value} {l : List Nat} (h : Sl w v l) (p : Addr) {u : Value} (hu : w.cell? p = some u) (hn : ∀ n, u ≠ .int .u32 n) (z : Value) : Sl (w.setCell p z) v l := by
  rcases h with h | ⟨b, off, cap, h1, h2, h3, h4⟩
  · exact .inl h
  · refine .inr ⟨b, off, cap, h1, h2, by simpa using h3, fun i hi => ?_⟩
    rw [World.cell?_setCell_other _ _ _ _ (by intro e; rw [e] at hu; rw [h4 i hi] at hu; exact hn _ (Option.some.inj hu).symm)]
    exact h4 i hi
theorem Sl.store2 {w : World} {v : Value} {l : List Nat} (h : Sl w v l) (b : Nat) (k0 : w.cell? ⟨b, 0, none⟩ = some (.int .i64 0)) (k1 : w.cell? ⟨b, 1, none⟩ = some (.slice none 0 0)) (x y : Value) :
    Sl ((w.setCell ⟨b, 0, none⟩ x).setCell ⟨b, 1, none⟩ y) v l :=
  (h.store _ k0 (by intro n e; cases e) x).store _ (u := .slice none 0 0) (by rw [World.cell?_setCell_other _ _ _ _ (by intro e; have := congrArg Addr.off e; simp at this)]; exact k1) (by intro n e; cases e) y
/-- a draw turns no block -/
theorem drew_left {w w' : World} {B : Nat} (h : Below B w.drew w') : Below B w w' := (Below.refl B w).drew.trans h
theorem laid3 (w : World) (a0 a1 b0 b1 c0 c1 : Value) (t : TypeId) (m : Nat) :
    Laid3 w ((((w.alloc (.cells #[a0, a1] t)).alloc (.cells #[b0, b1] t)).alloc (.cells #[c0, c1] t)).drewN m) a0 a1 b0 b1 c0 c1 := by
  refine ⟨by go_simp, by go_simp, by go_simp, by go_simp, by go_simp, by go_simp, by go_simp, by go_simp, by go_simp, by go_simp, by go_simp, by go_simp, ?_, by simp⟩
  exact ((((Below.refl _ _).alloc (Nat.le_refl _) _).alloc (by simp) _).alloc (by simp; omega) _).trans (below_drewN _ _ _)
theorem sign_lt (x : Int) : (x < 0 ∧ Int.sign x = -1) ∨ (x = 0 ∧ Int.sign x = 0) ∨ (0 < x ∧ Int.sign x = 1) := by
  rcases Int.lt_trichotomy x 0 with h | h | h
  · exact .inl ⟨h, Int.sign_eq_neg_one_of_neg h⟩
  · exact .inr (.inl ⟨h, by rw [h]; rfl⟩)
  · exact .inr (.inr ⟨h, Int.sign_eq_one_of_pos h⟩)
theorem sum_take (x y : Int) (hle : y.natAbs ≤ x.natAbs) (hneg : Int.sign x * Int.sign y = -1) : Int.sign x * ((Wh.val (Wh.limbs (x.natAbs - y.natAbs)) : Nat) : Int) = x + y := by
  rw [Wh.val_limbs]
  rcases sign_lt x with ⟨h, e⟩ | ⟨h, e⟩ | ⟨h, e⟩ <;> rcases sign_lt y with ⟨k, f⟩ | ⟨k, f⟩ | ⟨k, f⟩ <;> rw [e] at hneg ⊢ <;> rw [f] at hneg <;> omega
theorem sum_add (x y : Int) (hle : y.natAbs ≤ x.natAbs) (hneg : Int.sign x * Int.sign y ≠ -1) : Int.sign x * ((Wh.val (Wh.limbs (x.natAbs + y.natAbs)) : Nat) : Int) = x + y := by
  rw [Wh.val_limbs]
  rcases sign_lt x with ⟨h, e⟩ | ⟨h, e⟩ | ⟨h, e⟩ <;> rcases sign_lt y with ⟨k, f⟩ | ⟨k, f⟩ | ⟨k, f⟩ <;> rw [e] at hneg ⊢ <;> rw [f] at hneg <;> omega
theorem sign_cases (x y : Int) : Int.sign x = -1 ∨ Int.sign x = 1 ∨ x.natAbs - y.natAbs = 0 := by
  rcases Int.lt_trichotomy x 0 with h | h | h
  · exact .inl (Int.sign_eq_neg_one_of_neg h)
  · subst h; exact .inr (.inr (by simp))
  · exact .inr (.inl (Int.sign_eq_one_of_pos h))
theorem sign_cases2 (x y : Int) (h : y.natAbs ≤ x.natAbs) : Int.sign x = -1 ∨ Int.sign x = 1 ∨ x.natAbs + y.natAbs = 0 := by
  rcases sign_lt x with ⟨_, e⟩ | ⟨k, _⟩ | ⟨_, e⟩
  · exact .inl e
  · exact .inr (.inr (by omega))
  · exact .inr (.inl e)
theorem sign_range (x : Int) : -1 ≤ Int.sign x ∧ Int.sign x ≤ 1 := by
  rcases sign_lt x with ⟨_, e⟩ | ⟨_, e⟩ | ⟨_, e⟩ <;> omega
theorem Laid3.swap {w W : World} {a0 a1 b0 b1 c0 c1 : Value} (L : Laid3 w W a0 a1 b0 b1 c0 c1) :
    Laid3 w ((((W.setCell ⟨w.heap.size, 0, none⟩ b0).setCell ⟨w.heap.size, 1, none⟩ b1).setCell ⟨w.heap.size + 1, 0, none⟩ a0).setCell ⟨w.heap.size + 1, 1, none⟩ a1) b0 b1 a0 a1 c0 c1 := by
  have e1 := two_cells W w.heap.size b0 b1 L.a0 L.a1
  have far : ∀ (V : World) (b i : Nat) (x y : Value), b ≠ w.heap.size → ((V.setCell ⟨w.heap.size, 0, none⟩ x).setCell ⟨w.heap.size, 1, none⟩ y).cell? ⟨b, i, none⟩ = V.cell? ⟨b, i, none⟩ := fun V b i x y hb => by
    rw [World.cell?_setCell_far _ _ _ _ (fun e => hb e.symm), World.cell?_setCell_far _ _ _ _ (fun e => hb e.symm)]
  have far' : ∀ (V : World) (b i : Nat) (x y : Value), b ≠ w.heap.size + 1 → ((V.setCell ⟨w.heap.size + 1, 0, none⟩ x).setCell ⟨w.heap.size + 1, 1, none⟩ y).cell? ⟨b, i, none⟩ = V.cell? ⟨b, i, none⟩ := fun V b i x y hb => by
    rw [World.cell?_setCell_far _ _ _ _ (fun e => hb e.symm), World.cell?_setCell_far _ _ _ _ (fun e => hb e.symm)]
  have e2 := two_cells ((W.setCell ⟨w.heap.size, 0, none⟩ b0).setCell ⟨w.heap.size, 1, none⟩ b1) (w.heap.size + 1) a0 a1 ((far _ _ _ _ _ (by omega)).trans L.b0) ((far _ _ _ _ _ (by omega)).trans L.b1)
  refine ⟨(far' _ _ _ _ _ (by omega)).trans e1.1, (far' _ _ _ _ _ (by omega)).trans e1.2, e2.1, e2.2, ((far' _ _ _ _ _ (by omega)).trans (far _ _ _ _ _ (by omega))).trans L.c0, ((far' _ _ _ _ _ (by omega)).trans (far _ _ _ _ _ (by omega))).trans L.c1, ?_, ?_, ?_, ?_, ?_, ?_, ?_, by simpa using L.size⟩
  iterate 6 (simp only [World.frozen?_setCell]; first | exact L.f0 | exact L.f1 | exact L.fa0 | exact L.fa1 | exact L.fb0 | exact L.fb1)
  exact (((L.below.setCell (Nat.le_refl _) _).setCell (Nat.le_refl _) _).setCell (by show w.heap.size ≤ w.heap.size + 1; omega) _).setCell (by show w.heap.size ≤ w.heap.size + 1; omega) _
end Go.Proofs.YteaeloeebfdodaaGreatDoor
