/- Part 40 of the proofs that laws of package whole answer true at every input and leave the input as it was, where the library's variables start as the text lays them (the texts K5). -/
import Derived.Test.YtmdfjnmakppknaaGreatDoorZ39
set_option linter.unusedVariables false
set_option linter.unusedSimpArgs false
/- WALKS: WholePrimes answers true. -/
namespace Go.Proofs.YtmdfjnmakppknaaGreatDoor
open Go.RowKit Go.Proofs.Rf
theorem cell_of_own {W : World} {base i : Nat} {v : Value} {L : List Nat} (h : W.ownsRow base 9 1 v L.length (L.map fun q : Nat => txt (q : Int))) (hi : i < L.length) :
    ∃ g c, v = .slice (some ⟨g, 0, none⟩) L.length c ∧ W.cell? ⟨g, i, none⟩ = some (txt ((L.getD i 0 : Nat) : Int)) := by
  obtain ⟨g, c, e, _, hc⟩ := own_cells h (by omega)
  refine ⟨g, c, e, ?_⟩
  rw [hc i hi]
  simp [List.getD, hi]
theorem own_slice {W : World} {base n size : Nat} {e : TypeId} {v : Value} {xs : List Value} (h : W.ownsRow base e size v n xs) : ∃ a c, v = .slice a n c := by
  rcases h.2 with ⟨rfl, rfl⟩ | ⟨g, cap, cur, rfl, _⟩
  · exact ⟨_, _, rfl⟩
  · exact ⟨_, _, rfl⟩
theorem pr_len_le : ∀ (f p n : Nat), 2 ≤ p → (pr f p n).length ≤ n := by
  intro f
  induction f with
  | zero => intro p n _; exact Nat.zero_le _
  | succ f ih =>
    intro p n hp
    rw [pr]
    split
    · exact Nat.zero_le _
    · rename_i h
      have h3 := prq_ge hp (show 1 < n by omega)
      have h4 : n / prq p n < n := Nat.div_lt_self (by omega) (by omega)
      have := ih (prq p n) (n / prq p n) h3
      simp only [List.length_cons]
      omega
theorem pr_short (N : Nat) (h : 1 ≤ N ∧ N ≤ 3000) : (pr (N + 1) 2 N).length ≤ 3000 := Nat.le_trans (pr_len_le _ _ _ (Nat.le_refl 2)) h.2
set_option maxRecDepth 100000 in
set_option maxHeartbeats 1000000 in
theorem primes_true (w : World) (a : Option Addr) (n c : Nat) (h : Nums w a n) (ht : Tab w) :
    Calls Tryz.prog 11 #[.slice a n c] w fun e w' => e = .returned (.bool true) ∧ Below w.heap.size w w' := by
  have HN := Lib.hid h; clear h
  have HT := Lib.hid ht; clear ht
  go_enter Tryz.func11, Tryz.ntmps11
  go_wp2_with fail
  refine (NewRod_any _ _ _ _ HN.out).mono ?_
  rintro e w1 ⟨rfl, hR, hB1⟩
  have HR := Lib.hid hR; clear hR
  have HB1 := Lib.hid hB1; clear hB1
  go_wp2_with fail
  refine (From_any _ _ _ _ _ _ _ _ HR.out (by omega) (by omega)).mono ?_
  rintro e w2 ⟨⟨m, rfl, hm⟩, hR2, hO2⟩
  have hB2 : Below w.heap.size w w2 := HB1.out.trans (hO2.below (Nat.le_refl _) HB1.out.size)
  clear hR2 hO2 HR HB1 HN
  obtain ⟨N, rfl⟩ : ∃ N : Nat, m = (N : Int) := ⟨m.toNat, by omega⟩
  have hN : 1 ≤ N ∧ N ≤ 3000 := by omega
  clear hm
  have HB2 := Lib.hid hB2; clear hB2
  go_wp2_with fail
  refine (Decimal_any N (by omega) _).mono ?_
  rintro e w3 ⟨rfl, hB3⟩
  have HB3 := Lib.hid (HB2.out.trans (hB3.mono HB2.out.size)); clear hB3 HB2
  go_wp2_with fail
  refine (Factor_nat _ N hN (HT.out.mono HB3.out)).mono ?_
  rintro e w4 ⟨⟨v, rfl, hv⟩, hB4⟩
  have HB4 := Lib.hid (HB3.out.trans (hB4.mono HB3.out.size)); clear hB4
  have HV := Lib.hid hv; clear hv HB3
  have hP : PAt N 0 1 2 N := PAt.start N hN.1
  have HP := Lib.hid hP; clear hP
  have hll : (pr (N + 1) 2 N).length ≤ 3000 := pr_short N hN
  obtain ⟨sa, sc, rfl⟩ := own_slice HV.out
  generalize hL : (pr (N + 1) 2 N).length = L at *
  have HLL := Lib.hid hL; clear hL
  go_wp2_with fail
  go_loopw [7, 8, 9] (fun p q i wr => ∃ k P Q m : Nat, k ≤ L ∧ p = .int .i64 P ∧ q = .int .i64 Q ∧ i = .int .i64 k ∧ Hid (PAt N k P Q m) ∧ wr = w4) (fun _ _ i _ => L - (intOf i).toNat)
  case atStart => exact ⟨0, 1, 2, N, Nat.zero_le _, rfl, rfl, rfl, HP, rfl⟩
  case round =>
    obtain ⟨k, P, Q, m, hk, rfl, rfl, rfl, HK, rfl⟩ := hrel
    by_cases hlt : k < L
    · have hd : decide ((k : Int) < (L : Nat)) = true := by rw [decide_eq_true_iff]; omega
      obtain ⟨hg, hge, hle, hpm, hPq, hnext⟩ := HK.out.get (by rw [HLL.out]; exact hlt)
      have hv := HV.out
      rw [← HLL.out] at hv
      obtain ⟨g, c2, hsl, hcell⟩ := cell_of_own hv (i := k) (by rw [HLL.out]; exact hlt)
      rw [show (pr (N + 1) 2 N).getD k 0 = prq Q m from by rw [List.getD_eq_getElem?_getD, hg]; rfl] at hcell
      simp only [Value.slice.injEq] at hsl
      obtain ⟨rfl, _, rfl⟩ := hsl
      have hq2 : 2 ≤ prq Q m := Nat.le_trans HK.out.last hge
      have HNX := Lib.hid hnext; clear hnext hv hg
      generalize prq Q m = q at *
      have HPM := Lib.hid hpm; clear hpm
      have TI := Lib.hid fun w => ToInt_txt q ⟨by omega, by omega⟩ w
      have g1 : decide ((q : Int) < (Q : Nat)) = false := by rw [decide_eq_false_iff_not]; omega
      have g2 : decide ((N : Int) < (q : Nat)) = false := by rw [decide_eq_false_iff_not]; omega
      have hPle : P * q ≤ 3000 := by omega
      have hcast : ((P * q : Nat) : Int) = (P : Int) * (q : Int) := by simp
      have g3 : wrap64 ((P : Int) * (q : Int)) = ((P * q : Nat) : Int) := by rw [← hcast]; simp only [wrap64]; omega
      generalize P * q = Z at *
      have g4 : decide ((N : Int) < (Z : Nat)) = false := by rw [decide_eq_false_iff_not]; omega
      clear hcast
      go_wp2_with fail
      refine (TI.out _).mono ?_
      rintro e w5 ⟨rfl, rfl⟩
      go_wp2_with fail
      go_loopw [12] (fun d wi => ∃ D : Nat, d = .int .i64 D ∧ 2 ≤ D ∧ D ≤ q ∧ wi = wr) (fun d _ => q - (intOf d).toNat)
      case atStart => exact ⟨2, rfl, Nat.le_refl 2, hq2, rfl⟩
      case round =>
        obtain ⟨D, rfl, hD2, hDq, rfl⟩ := hrel
        by_cases hlt2 : D < q
        · have hd2 : decide ((D : Int) < (q : Nat)) = true := by rw [decide_eq_true_iff]; omega
          have hdn := HPM.out D hD2 hlt2
          have hz : ((D : Int) == 0) = false := by rw [beq_eq_false_iff_ne]; omega
          have hr : ((q : Int) % (D : Int) == 0) = false := by rw [beq_eq_false_iff_ne]; omega
          clear hdn
          go_wp2
          go_roundw
          case rel => exact ⟨D + 1, by simp, by omega, by omega, trivial⟩
          case measure => simp [intOf]; omega
        · have hd2 : decide ((D : Int) < (q : Nat)) = false := by rw [decide_eq_false_iff_not]; omega
          go_wp2_with fail
          go_roundw
          case rel => exact ⟨k + 1, Z, q, _, by omega, by rw [g3], rfl, by simp, HNX, trivial⟩
          case measure => simp [intOf]; omega
    · have hd : decide ((k : Int) < (L : Nat)) = false := by rw [decide_eq_false_iff_not]; omega
      have hfin := HK.out.fin (by rw [HLL.out]; exact hlt)
      subst hfin
      have HC := Lib.hid (counted_holds wr (HT.out.mono HB4.out))
      clear hd
      go_wp2_with fail
      refine HC.out.mono ?_
      rintro e w5 ⟨rfl, hb5⟩
      go_wp2
      go_ret
      exact ⟨rfl, HB4.out.trans (hb5.mono HB4.out.size)⟩
end Go.Proofs.YtmdfjnmakppknaaGreatDoor
