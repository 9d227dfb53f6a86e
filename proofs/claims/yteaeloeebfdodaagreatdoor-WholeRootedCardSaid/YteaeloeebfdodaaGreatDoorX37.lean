/- Part 37 of the proofs that laws of package whole answer true at every input and leave the input as it was, where the library's variables start as the text lays them (the texts U3). -/
import Derived.Test.YteaeloeebfdodaaGreatDoorX36
set_option linter.unusedVariables false
set_option linter.unusedSimpArgs false
/- WALKS: the reference's sum of limbs. -/
namespace Go.Proofs.YteaeloeebfdodaaGreatDoor
open Go.RowKit Go.Proofs.Rf
/-- what remains of a round of the sum: the digit is appended -/
theorem plus_bounds {x y c : Nat} (hx : x < 10000) (hy : y < 10000) (hc : c ≤ 1) : (c + x + y) / 10000 ≤ 1 ∧ ((c : Int) + x + y).tmod 10000 = (((c + x + y) % 10000 : Nat) : Int) ∧ ((c : Int) + x + y).tdiv 10000 = (((c + x + y) / 10000 : Nat) : Int) := by
  refine ⟨by omega, ?_, ?_⟩
  · rw [Int.tmod_eq_emod_of_nonneg (by omega)]; simp
  · rw [Int.tdiv_eq_ediv_of_nonneg (by omega)]; simp
set_option maxRecDepth 100000 in
set_option maxHeartbeats 1000000 in
theorem rplus_any (w : World) (v1 v2 : Value) (l1 l2 : List Nat) (h1 : RL4 w v1 l1) (h2 : RL4 w v2 l2) (s1 : Sm4 l1) (s2 : Sm4 l2) (hm : l1.length ≤ 100000) (hm2 : l2.length ≤ 100000) :
    Calls Tryz.prog 88 #[v1, v2] w fun e w' => (∃ v, ∃ l : List Nat, e = .returned v ∧ RL4 w' v l ∧ Sm4 l ∧ val4 l = val4 l1 + val4 l2 ∧ l.length ≤ max l1.length l2.length + 1 ∧ (l1.length ≤ l.length)) ∧ Below w.heap.size w w' := by
  obtain ⟨a1, c1, rfl, hc1, -⟩ := h1
  obtain ⟨a2, c2, rfl, hc2, -⟩ := h2
  have HC1 := Lib.hid hc1; clear hc1
  have HC2 := Lib.hid hc2; clear hc2
  have HS := Lib.hid (And.intro s1 s2); clear s1 s2
  have HI0 : Hid (PLI l1 l2 0 [] 0 ∧ w.ownsRow w.heap.size 3 1 (.slice none 0 0) ([] : List Nat).length (i64s []) ∧ Below w.heap.size w w) := Lib.hid ⟨PLI.start _ _, World.ownsRow_nil _ _ _ _, Below.refl _ _⟩
  generalize hn : l1.length = n at *
  generalize hk : l2.length = k at *
  have HN := Lib.hid (And.intro hn hk); clear hn hk
  obtain ⟨N, hN⟩ : ∃ N, N = max n k := ⟨_, rfl⟩
  have hN1 : n ≤ N := by omega
  have hN2 : k ≤ N := by omega
  have hN3 : N ≤ 100000 := by omega
  rw [← hN]
  clear hN
  go_enter Tryz.func88, Tryz.ntmps88
  go_wp2_with fail
  go_loopw [5, 6, 7] (fun ov bv iv wr => ∃ (i : Nat) (o : List Nat) (c : Nat), (i ≤ N ∨ i = N + 1 ∧ c = 0) ∧ c ≤ 1 ∧ iv = .int .i64 i ∧ bv = .int .i64 c ∧ Hid (PLI l1 l2 i o c ∧ wr.ownsRow w.heap.size 3 1 ov o.length (i64s o) ∧ Below w.heap.size w wr)) (fun _ _ iv _ => N + 2 - (intOf iv).toNat)
  case atStart => exact ⟨0, [], 0, .inl (Nat.zero_le _), by omega, rfl, rfl, HI0⟩
  case round =>
    clear HI0
    obtain ⟨i, o, c, hi, hc, rfl, rfl, HI⟩ := hrel
    obtain ⟨sa, sc, rfl⟩ := own_sl HI.out.2.1
    have hol : o.length = i := HI.out.1.len
    have hi2 : i ≤ N + 1 := by omega
    obtain ⟨x, hx⟩ : ∃ x, x = l1.getD i 0 := ⟨_, rfl⟩
    obtain ⟨y, hy⟩ : ∃ y, y = l2.getD i 0 := ⟨_, rfl⟩
    have hxl : x < 10000 := by rw [hx]; exact HS.out.1.getD i
    have hyl : y < 10000 := by rw [hy]; exact HS.out.2.getD i
    have HX := Lib.hid (And.intro hx hy)
    have hx0 : ¬ i < n → x = 0 := fun h => by rw [hx]; simp [List.getD, show l1.length ≤ i by rw [HN.out.1]; omega]
    have hy0 : ¬ i < k → y = 0 := fun h => by rw [hy]; simp [List.getD, show l2.length ≤ i by rw [HN.out.2]; omega]
    clear hx hy
    by_cases hgo : i < n ∨ i < k ∨ 0 < c
    · obtain ⟨hb1, hmd, hdv⟩ := plus_bounds hxl hyl hc
      have hNX := HI.out.1.next HS.out.1 HS.out.2
      rw [← HX.out.1, ← HX.out.2] at hNX
      have HNX := Lib.hid hNX; clear hNX
      have hmx := maxI (n := i) (by omega)
      obtain ⟨inf, i1, i2, i3, i4⟩ := infoI
      have HOB := Lib.hid HI.out.2
      have hin1 : i + 1 ≤ N ∨ i + 1 = N + 1 ∧ (c + x + y) / 10000 = 0 := by
        rcases Nat.lt_or_ge i N with h | h
        · exact .inl h
        · right
          have : x = 0 := hx0 (by omega)
          have : y = 0 := hy0 (by omega)
          omega
      have HIN := Lib.hid hin1; clear hin1
      have HOL := Lib.hid hol
      clear HI hi
      rw [hol]
      have HX0 := Lib.hid (And.intro hx0 hy0)
      have HHN := Lib.hid (And.intro hN1 hN2); clear hN1 hN2 hx0 hy0
      by_cases hin : i < n
      · by_cases hik : i < k
        · have hd1 : decide ((i : Int) < (n : Int)) = true := by rw [decide_eq_true_iff]; omega
          have hd2 : decide ((i : Int) < (k : Int)) = true := by rw [decide_eq_true_iff]; omega
          obtain ⟨b1, off1, rfl, hbl1, hcell1⟩ := HC1.out i hin
          have hcx := (HOB.out.2.cell (p := ⟨b1, off1 + i, none⟩) hbl1).trans (hcell1 i hin)
          rw [← HX.out.1] at hcx
          clear hcell1
          obtain ⟨b2, off2, rfl, hbl2, hcell2⟩ := HC2.out i hik
          have hcy := (HOB.out.2.cell (p := ⟨b2, off2 + i, none⟩) hbl2).trans (hcell2 i hik)
          rw [← HX.out.2] at hcy
          clear hcell2
          have HA := Lib.hid (appI (((c : Int) + (x : Int) + (y : Int)) % 10000) HOB.out.1 HOB.out.2.size)
          have hownA := HA.out.own; have hcellA := HA.out.cell; have honeA := HA.out.one; have hbigA := HA.out.big
          rw [HOL.out] at hownA
          go_wp2_with (at_builtin; refine wpList_append_own _ rfl _ _ 22 rfl w.heap.size 3 inf (.int .i64 0) 1 8 Tryz.underlying22 i1 i2 i3 i4 rfl (by decide) (.slice sa i sc) i _ rfl hownA ⟨wr.heap.size, 0, none⟩ 1 1 [Value.int .i64 (((c : Int) + (x : Int) + (y : Int)) % 10000)] rfl rfl hcellA honeA hmx.1 hmx.2 hbigA ?_)
          intro v' W3 ho3 hg3 hnil
          rw [← HOL.out] at ho3
          have HD := Lib.hid (app_done (x := (c + x + y) % 10000) (by omega) HA.out HOB.out.2 ho3 (by rw [HOL.out]; exact hg3))
          clear hnil ho3 hg3 hownA hcellA honeA hbigA i1 i2 i3 i4
          have hq : ((c : Int) + (x : Int) + (y : Int)) / 10000 = (((c + x + y) / 10000 : Nat) : Int) := by omega
          have HQ := Lib.hid hq; clear hq
          go_wp2_with fail
          refine ⟨⟨i + 1, _, (c + x + y) / 10000, HIN.out, hb1, by congr 1, ?_, Lib.hid ⟨HNX.out, HD.out⟩⟩, by simp [intOf]; omega⟩
          first | (rw [← HQ.out]) | trace_state
        · have hd1 : decide ((i : Int) < (n : Int)) = true := by rw [decide_eq_true_iff]; omega
          have hd2 : decide ((i : Int) < (k : Int)) = false := by rw [decide_eq_false_iff_not]; omega
          obtain ⟨b1, off1, rfl, hbl1, hcell1⟩ := HC1.out i hin
          have hcx := (HOB.out.2.cell (p := ⟨b1, off1 + i, none⟩) hbl1).trans (hcell1 i hin)
          rw [← HX.out.1] at hcx
          clear hcell1
          obtain rfl : y = 0 := HX0.out.2 hik
          have HA := Lib.hid (appI (((c : Int) + (x : Int)) % 10000) HOB.out.1 HOB.out.2.size)
          have hownA := HA.out.own; have hcellA := HA.out.cell; have honeA := HA.out.one; have hbigA := HA.out.big
          rw [HOL.out] at hownA
          go_wp2_with (at_builtin; refine wpList_append_own _ rfl _ _ 22 rfl w.heap.size 3 inf (.int .i64 0) 1 8 Tryz.underlying22 i1 i2 i3 i4 rfl (by decide) (.slice sa i sc) i _ rfl hownA ⟨wr.heap.size, 0, none⟩ 1 1 [Value.int .i64 (((c : Int) + (x : Int)) % 10000)] rfl rfl hcellA honeA hmx.1 hmx.2 hbigA ?_)
          intro v' W3 ho3 hg3 hnil
          rw [← HOL.out] at ho3
          have HD := Lib.hid (app_done (x := (c + x + 0) % 10000) (by omega) HA.out HOB.out.2 ho3 (by rw [HOL.out]; exact hg3))
          clear hnil ho3 hg3 hownA hcellA honeA hbigA i1 i2 i3 i4
          have hq : ((c : Int) + (x : Int)) / 10000 = (((c + x + 0) / 10000 : Nat) : Int) := by omega
          have HQ := Lib.hid hq; clear hq
          go_wp2_with fail
          refine ⟨⟨i + 1, _, (c + x + 0) / 10000, HIN.out, hb1, by congr 1, ?_, Lib.hid ⟨HNX.out, HD.out⟩⟩, by simp [intOf]; omega⟩
          first | (rw [← HQ.out]) | trace_state
      · by_cases hik : i < k
        · have hd1 : decide ((i : Int) < (n : Int)) = false := by rw [decide_eq_false_iff_not]; omega
          have hd2 : decide ((i : Int) < (k : Int)) = true := by rw [decide_eq_true_iff]; omega
          obtain rfl : x = 0 := HX0.out.1 hin
          obtain ⟨b2, off2, rfl, hbl2, hcell2⟩ := HC2.out i hik
          have hcy := (HOB.out.2.cell (p := ⟨b2, off2 + i, none⟩) hbl2).trans (hcell2 i hik)
          rw [← HX.out.2] at hcy
          clear hcell2
          have HA := Lib.hid (appI (((c : Int) + (y : Int)) % 10000) HOB.out.1 HOB.out.2.size)
          have hownA := HA.out.own; have hcellA := HA.out.cell; have honeA := HA.out.one; have hbigA := HA.out.big
          rw [HOL.out] at hownA
          go_wp2_with (at_builtin; refine wpList_append_own _ rfl _ _ 22 rfl w.heap.size 3 inf (.int .i64 0) 1 8 Tryz.underlying22 i1 i2 i3 i4 rfl (by decide) (.slice sa i sc) i _ rfl hownA ⟨wr.heap.size, 0, none⟩ 1 1 [Value.int .i64 (((c : Int) + (y : Int)) % 10000)] rfl rfl hcellA honeA hmx.1 hmx.2 hbigA ?_)
          intro v' W3 ho3 hg3 hnil
          rw [← HOL.out] at ho3
          have HD := Lib.hid (app_done (x := (c + 0 + y) % 10000) (by omega) HA.out HOB.out.2 ho3 (by rw [HOL.out]; exact hg3))
          clear hnil ho3 hg3 hownA hcellA honeA hbigA i1 i2 i3 i4
          have hq : ((c : Int) + (y : Int)) / 10000 = (((c + 0 + y) / 10000 : Nat) : Int) := by omega
          have HQ := Lib.hid hq; clear hq
          go_wp2_with fail
          refine ⟨⟨i + 1, _, (c + 0 + y) / 10000, HIN.out, hb1, by congr 1, ?_, Lib.hid ⟨HNX.out, HD.out⟩⟩, by simp [intOf]; omega⟩
          first | (rw [← HQ.out]) | trace_state
        · have hd1 : decide ((i : Int) < (n : Int)) = false := by rw [decide_eq_false_iff_not]; omega
          have hd2 : decide ((i : Int) < (k : Int)) = false := by rw [decide_eq_false_iff_not]; omega
          have hd3 : decide ((0 : Int) < (c : Int)) = true := by rw [decide_eq_true_iff]; omega
          obtain rfl : x = 0 := HX0.out.1 hin
          obtain rfl : y = 0 := HX0.out.2 hik
          have HA := Lib.hid (appI ((c : Int) % 10000) HOB.out.1 HOB.out.2.size)
          have hownA := HA.out.own; have hcellA := HA.out.cell; have honeA := HA.out.one; have hbigA := HA.out.big
          rw [HOL.out] at hownA
          go_wp2_with (at_builtin; refine wpList_append_own _ rfl _ _ 22 rfl w.heap.size 3 inf (.int .i64 0) 1 8 Tryz.underlying22 i1 i2 i3 i4 rfl (by decide) (.slice sa i sc) i _ rfl hownA ⟨wr.heap.size, 0, none⟩ 1 1 [Value.int .i64 ((c : Int) % 10000)] rfl rfl hcellA honeA hmx.1 hmx.2 hbigA ?_)
          intro v' W3 ho3 hg3 hnil
          rw [← HOL.out] at ho3
          have HD := Lib.hid (app_done (x := (c + 0 + 0) % 10000) (by omega) HA.out HOB.out.2 ho3 (by rw [HOL.out]; exact hg3))
          clear hnil ho3 hg3 hownA hcellA honeA hbigA i1 i2 i3 i4
          have hq : ((c : Int)) / 10000 = (((c + 0 + 0) / 10000 : Nat) : Int) := by omega
          have HQ := Lib.hid hq; clear hq
          go_wp2_with fail
          refine ⟨⟨i + 1, _, (c + 0 + 0) / 10000, HIN.out, hb1, by congr 1, ?_, Lib.hid ⟨HNX.out, HD.out⟩⟩, by simp [intOf]; omega⟩
          first | (rw [← HQ.out]) | trace_state
    · have hd1 : decide ((i : Int) < (n : Int)) = false := by rw [decide_eq_false_iff_not]; omega
      have hd2 : decide ((i : Int) < (k : Int)) = false := by rw [decide_eq_false_iff_not]; omega
      have hd3 : decide ((0 : Int) < (c : Int)) = false := by rw [decide_eq_false_iff_not]; omega
      have hc0 : c = 0 := by omega
      subst hc0
      have HF := Lib.hid (HI.out.1.fin (by rw [HN.out.1]; omega) (by rw [HN.out.2]; omega))
      have hRL := RL4.of_own HI.out.2.1
      rw [hol] at hRL
      have HRL := Lib.hid hRL; clear hRL
      have HW := Lib.hid (And.intro HI.out.1.sm HI.out.2.2)
      have HOL := Lib.hid hol
      rw [hol]
      clear HI hol hx0 hy0
      go_wp2_with fail
      go_ret
      exact ⟨⟨_, rfl, o, HRL.out, HW.out.1, HF.out, by rw [HOL.out]; omega, by rw [HOL.out]; omega⟩, HW.out.2⟩
end Go.Proofs.YteaeloeebfdodaaGreatDoor
