/- Part 33 of the proofs that laws of package whole answer true at every input and leave the input as it was, where the library's variables start as the text lays them (the texts U14, W11). -/
import Derived.Test.YteaeloeebfdodaaGreatDoorF32
import Derived.Test.YteaeloeebfdodaaGreatDoorF06
import Derived.Test.YteaeloeebfdodaaGreatDoorF09
set_option linter.unusedVariables false
set_option linter.unusedSimpArgs false
/- WALKS: the reference's Floor. -/
namespace Go.Proofs.YteaeloeebfdodaaGreatDoor
open Go.RowKit Go.Proofs.Rf
end Go.Proofs.YteaeloeebfdodaaGreatDoor

/- WALKS: powers whose factors are not long. -/
namespace Go.Proofs.YteaeloeebfdodaaGreatDoor
open Go.RowKit
set_option maxRecDepth 100000 in
set_option maxHeartbeats 1000000 in
theorem power_wide (w : World) (x : Int) (n : Nat) (a : Option Addr) (c : Nat) (h : Sl w (.slice a (Wh.limbs x.natAbs).length c) (Wh.limbs x.natAbs)) (hn : n ≤ 100000) (hs0 : ∀ k, k ≤ n → (Wh.limbs (x ^ k).natAbs).length ≤ 2000) (hs2 : ∀ k, 2 * k ≤ n → (Wh.limbs (x ^ k).natAbs).length < 32) :
    Calls Tryz.prog 99 #[.agg #[.int .i64 x.sign, .slice a (Wh.limbs x.natAbs).length c], .int .i64 n] w fun e w' => (∃ v', e = .returned v' ∧ Num w' v' (x ^ n)) ∧ Below w.heap.size w w' := by
  have H := Lib.hid h; clear h
  have HS := Lib.hid hs0; clear hs0
  have HS2 := Lib.hid hs2; clear hs2
  go_enter Tryz.func99, Tryz.ntmps99
  go_wp2_with fail
  refine (small_any _ 1 (by decide)).mono ?_
  rintro e w1 ⟨⟨v1, rfl, hn1⟩, hb1⟩
  obtain ⟨s1, rfl, k1⟩ := hn1
  obtain ⟨p1, c1, rfl⟩ := k1.len
  go_wp2_with fail
  have hV : Below w1.heap.size w1 (w1.alloc (Obj.cells #[Value.int IntKind.i64 1, Value.slice p1 (Wh.limbs 1).length c1] 83)) := (Below.refl _ _).alloc (Nat.le_refl _) _
  have hn1 : w.heap.size + 2 ≤ w1.heap.size := by have := hb1.size; simpa using this
  have hM0 : PowM w (w1.alloc (Obj.cells #[Value.int IntKind.i64 1, Value.slice p1 (Wh.limbs 1).length c1] 83)) w1.heap.size 0 (x ^ 1) (x ^ 0) := by
    have hal : Below w.heap.size w ((w.alloc (Obj.cells #[.int .i64 x.sign, .slice a (Wh.limbs x.natAbs).length c] 83)).alloc (Obj.cells #[.int .i64 0, .slice none 0 0] 83)) := ((Below.refl _ _).alloc (Nat.le_refl _) _).alloc (by simp) _
    have hb2 := hb1.trans (hV.mono hb1.size)
    have e1 : x ^ 1 = x := by simp [Int.pow_succ]
    have e0 : x ^ 0 = 1 := by simp
    have cc : ∀ b i, b < w.heap.size + 2 → (w1.alloc (Obj.cells #[Value.int IntKind.i64 1, Value.slice p1 (Wh.limbs 1).length c1] 83)).cell? ⟨b, i, none⟩ = _ := fun b i h => hb2.cell (p := ⟨b, i, none⟩) (by simp; omega)
    have ff : ∀ b i, b < w.heap.size + 2 → (w1.alloc (Obj.cells #[Value.int IntKind.i64 1, Value.slice p1 (Wh.limbs 1).length c1] 83)).frozen? ⟨b, i, none⟩ = _ := fun b i h => hb2.frozen (p := ⟨b, i, none⟩) (by simp; omega)
    rw [e1, e0]
    refine ⟨⟨⟨a, c, (cc _ _ (by omega)).trans (by go_simp), (cc _ _ (by omega)).trans (by go_simp), (H.out.mono hal).mono hb2⟩, (ff _ _ (by omega)).trans (by go_simp), (ff _ _ (by omega)).trans (by go_simp)⟩,
      ⟨⟨p1, c1, by go_simp, by go_simp, k1.mono hV⟩, by go_simp, by go_simp⟩,
      ⟨(cc _ _ (by omega)).trans (by go_simp), (cc _ _ (by omega)).trans (by go_simp), (ff _ _ (by omega)).trans (by go_simp), (ff _ _ (by omega)).trans (by go_simp)⟩,
      hal.trans (hb2.mono hal.size), by omega, by simp⟩
  have HM0 := Lib.hid hM0
  clear hM0 hV hb1 k1
  generalize (w1.alloc (Obj.cells #[Value.int IntKind.i64 1, Value.slice p1 (Wh.limbs 1).length c1] 83)) = V at *
  obtain ⟨bR, hbR⟩ : ∃ bR, bR = w1.heap.size := ⟨_, rfl⟩
  rw [← hbR] at HM0 ⊢
  clear hbR hn1
  go_loopw [1] (fun i wr => ∃ v s m : Nat, i = .int .i64 v ∧ v ≤ n ∧ Hid (s * v + m = n ∧ (s ≤ n ∨ v = 0) ∧ (m < s ∨ v = 0)) ∧ Hid (PowM w wr bR 0 (x ^ s) (x ^ m))) (fun i _ => (intOf i).toNat)
  case atStart => exact ⟨n, 1, 0, rfl, Nat.le_refl _, Lib.hid ⟨by omega, by omega, by omega⟩, HM0⟩
  case round =>
    clear HM0
    obtain ⟨v, s, m, rfl, hv, HV, HM⟩ := hrel
    by_cases h0 : v = 0
    · subst h0
      have hm : m = n := by have := HV.out.1; omega
      subst hm
      have L := HM.out
      obtain ⟨⟨ra, rc, r0, r1, rs⟩, _, _⟩ := L.r
      obtain ⟨t0, t1, g0, g1⟩ := L.t
      have hst := rs.store2 (w.heap.size + 1) t0 t1 (.int .i64 (x ^ m).sign) (.slice ra (Wh.limbs (x ^ m).natAbs).length rc)
      have hbb := (L.below.setCell (p := ⟨w.heap.size + 1, 0, none⟩) (Nat.le_succ _) (.int .i64 (x ^ m).sign)).setCell (p := ⟨w.heap.size + 1, 1, none⟩) (Nat.le_succ _) (.slice ra (Wh.limbs (x ^ m).natAbs).length rc)
      have hcc := two_cells wr (w.heap.size + 1) (.int .i64 (x ^ m).sign) (.slice ra (Wh.limbs (x ^ m).natAbs).length rc) t0 t1
      have HST := Lib.hid (And.intro hst hbb); clear hst hbb rs L
      generalize hz : x ^ m = z at *
      have HZ := Lib.hid hz; clear hz
      go_wp2
      exact bodyPost_ret (v := .agg #[.int .i64 z.sign, .slice ra (Wh.limbs z.natAbs).length rc]) (by simp [results, Tryz.results99, go_sem, hcc]) rfl ⟨⟨_, rfl, by rw [HZ.out]; exact ⟨_, rfl, HST.out.1⟩⟩, HST.out.2⟩
    · have hsn : s ≤ n := by have := HV.out.2; omega
      have hmn : m ≤ n := by have := HV.out.1; omega
      have ly := HS.out s hsn
      have lz := HS.out m hmn
      have hvs : s ≤ s * v := Nat.le_mul_of_pos_right s (by omega)
      have lz2 := HS2.out m (by have := HV.out; omega)
      have hms : m < s := by have := HV.out.2.2; omega
      have ly2 : 1 < v → (Wh.limbs (x ^ s).natAbs).length < 32 := fun h1 => HS2.out s (by have := twice_le h1 HV.out.1; omega)
      have hdv : decide (0 < v) = true := by simp; omega
      have L := HM.out
      obtain ⟨⟨ya, yc, y0, y1, ys⟩, fa0, fa1⟩ := L.a
      obtain ⟨⟨za, zc, z0, z1, zs⟩, fr0, fr1⟩ := L.r
      clear L
      have HYS := Lib.hid ys; have HZS := Lib.hid zs; clear ys zs
      have hv2 : s * v + m = n := HV.out.1
      generalize hyx : x ^ s = y at *
      generalize hzx : x ^ m = z at *
      have HYX := Lib.hid hyx; have HZX := Lib.hid hzx; clear hyx hzx
      have LY := Lib.hid ly2; clear ly2
      by_cases ho : v % 2 = 1
      · have hod : ((v : Int) % 2 == 1) = true := by rw [beq_iff_eq]; omega
        have hal : Below wr.heap.size wr (wr.alloc (Obj.cells #[Value.int IntKind.i64 y.sign, Value.slice ya (Wh.limbs y.natAbs).length yc] 83)) := (Below.refl _ _).alloc (Nat.le_refl _) _
        have hq0 : (wr.alloc (Obj.cells #[Value.int IntKind.i64 y.sign, Value.slice ya (Wh.limbs y.natAbs).length yc] 83)).cell? ⟨wr.heap.size, 0, none⟩ = some (.int .i64 y.sign) := by go_simp
        have hq1 : (wr.alloc (Obj.cells #[Value.int IntKind.i64 y.sign, Value.slice ya (Wh.limbs y.natAbs).length yc] 83)).cell? ⟨wr.heap.size, 1, none⟩ = some (.slice ya (Wh.limbs y.natAbs).length yc) := by go_simp
        have HPR := Lib.hid (product_any _ wr.heap.size z y (by simp) _ ⟨_, rfl, HZS.out.mono hal⟩ y.sign ya (Wh.limbs y.natAbs).length yc ⟨hq0, hq1, rfl, HYS.out.mono hal⟩ (by omega) (by omega) (.inl lz2))
        have HAL := Lib.hid hal; clear hal hq0 hq1
        by_cases h1 : 1 < v
        · have hg1 : decide (1 < v) = true := by simpa using h1
          go_wp2_with fail
          refine HPR.out.mono ?_
          rintro e Wa ⟨⟨va, rfl, hna⟩, hba⟩
          have hMa := HM.out.mono (HAL.out.trans (hba.mono HAL.out.size))
          clear hba HAL HPR
          generalize hzy : z * y = zy at *
          have HZY := Lib.hid hzy; clear hzy
          obtain ⟨sa, rfl, ka⟩ := hna
          obtain ⟨pa, ca, rfl⟩ := ka.len
          have hMb := hMa.putR ka
          clear y0 y1 fa0 fa1 z0 z1 fr0 fr1
          obtain ⟨⟨_, _, z0, z1, _⟩, fr0, fr1⟩ := hMa.r
          obtain ⟨⟨ya', yc', y0, y1, ys⟩, fa0, fa1⟩ := hMb.a
          have HMB := Lib.hid hMb; have HYSB := Lib.hid ys
          clear hMa hMb ka ys
          go_wp2_with fail
          clear z0 z1 fr0 fr1 y0 y1 fa0 fa1
          have hX : ((Wa.setCell ⟨bR, 0, none⟩ (.int .i64 zy.sign)).setCell ⟨bR, 1, none⟩ (.slice pa (Wh.limbs zy.natAbs).length ca)).heap.size = Wa.heap.size := by simp
          generalize (Wa.setCell ⟨bR, 0, none⟩ (.int .i64 zy.sign)).setCell ⟨bR, 1, none⟩ (.slice pa (Wh.limbs zy.natAbs).length ca) = X at *
          rw [← hX]
          have halB : Below X.heap.size X (X.alloc (Obj.cells #[Value.int IntKind.i64 y.sign, Value.slice ya' (Wh.limbs y.natAbs).length yc'] 83)) := (Below.refl _ _).alloc (Nat.le_refl _) _
          have hq0B : (X.alloc (Obj.cells #[Value.int IntKind.i64 y.sign, Value.slice ya' (Wh.limbs y.natAbs).length yc'] 83)).cell? ⟨X.heap.size, 0, none⟩ = some (.int .i64 y.sign) := by go_simp
          have hq1B : (X.alloc (Obj.cells #[Value.int IntKind.i64 y.sign, Value.slice ya' (Wh.limbs y.natAbs).length yc'] 83)).cell? ⟨X.heap.size, 1, none⟩ = some (.slice ya' (Wh.limbs y.natAbs).length yc') := by go_simp
          refine (product_any _ X.heap.size y y (by simp) _ ⟨_, rfl, HYSB.out.mono halB⟩ y.sign ya' (Wh.limbs y.natAbs).length yc' ⟨hq0B, hq1B, rfl, HYSB.out.mono halB⟩ (by omega) (by omega) (.inl (LY.out h1))).mono ?_
          rintro e WB ⟨⟨vB, rfl, hnB⟩, hbB⟩
          have hMB := HMB.out.mono (halB.trans (hbB.mono halB.size))
          clear hq0B hq1B halB hbB
          generalize hyy : y * y = yy at *
          have HYY := Lib.hid hyy; clear hyy
          obtain ⟨sB, rfl, kB⟩ := hnB
          obtain ⟨pB, cB, rfl⟩ := kB.len
          have hNB := Lib.hid (hMB.putA kB)
          obtain ⟨⟨_, _, y0, y1, _⟩, fa0, fa1⟩ := hMB.a
          clear hMB kB
          go_wp2_with fail
          clear y0 y1 fa0 fa1
          refine ⟨⟨v / 2, 2 * s, (m + s), by simp, by omega, Lib.hid ⟨half_odd ho hv2, .inl (twice_le h1 hv2), by omega⟩, by rw [pow_twice, HYX.out, HYY.out, Int.pow_add, HYX.out, HZX.out, HZY.out]; exact hNB.out⟩, by simp [intOf]; omega⟩
        · have hg1 : decide (1 < v) = false := by simpa using h1
          go_wp2_with fail
          refine HPR.out.mono ?_
          rintro e Wa ⟨⟨va, rfl, hna⟩, hba⟩
          have hMa := HM.out.mono (HAL.out.trans (hba.mono HAL.out.size))
          clear hba HAL HPR
          generalize hzy : z * y = zy at *
          have HZY := Lib.hid hzy; clear hzy
          obtain ⟨sa, rfl, ka⟩ := hna
          obtain ⟨pa, ca, rfl⟩ := ka.len
          have hMb := Lib.hid (hMa.putR ka)
          clear y0 y1 fa0 fa1 z0 z1 fr0 fr1
          obtain ⟨⟨_, _, z0, z1, _⟩, fr0, fr1⟩ := hMa.r
          clear hMa ka
          go_wp2_with fail
          refine ⟨⟨v / 2, s, (m + s), by simp, by omega, Lib.hid ⟨half_odd1 ho h1 hv2, .inr (by omega), .inr (by omega)⟩, by rw [HYX.out, Int.pow_add, HYX.out, HZX.out, HZY.out]; exact hMb.out⟩, by simp [intOf]; omega⟩
      · have hod : ((v : Int) % 2 == 1) = false := by rw [beq_eq_false_iff_ne]; omega
        have hg1 : decide (1 < v) = true := by simp; omega
        · go_wp2_with fail
          have HMA := HM; have HYSA := HYS
          clear y0 y1 fa0 fa1 z0 z1 fr0 fr1
          have halA : Below wr.heap.size wr (wr.alloc (Obj.cells #[Value.int IntKind.i64 y.sign, Value.slice ya (Wh.limbs y.natAbs).length yc] 83)) := (Below.refl _ _).alloc (Nat.le_refl _) _
          have hq0A : (wr.alloc (Obj.cells #[Value.int IntKind.i64 y.sign, Value.slice ya (Wh.limbs y.natAbs).length yc] 83)).cell? ⟨wr.heap.size, 0, none⟩ = some (.int .i64 y.sign) := by go_simp
          have hq1A : (wr.alloc (Obj.cells #[Value.int IntKind.i64 y.sign, Value.slice ya (Wh.limbs y.natAbs).length yc] 83)).cell? ⟨wr.heap.size, 1, none⟩ = some (.slice ya (Wh.limbs y.natAbs).length yc) := by go_simp
          refine (product_any _ wr.heap.size y y (by simp) _ ⟨_, rfl, HYSA.out.mono halA⟩ y.sign ya (Wh.limbs y.natAbs).length yc ⟨hq0A, hq1A, rfl, HYSA.out.mono halA⟩ (by omega) (by omega) (.inl (LY.out (by omega)))).mono ?_
          rintro e WA ⟨⟨vA, rfl, hnA⟩, hbA⟩
          have hMA := HMA.out.mono (halA.trans (hbA.mono halA.size))
          clear hq0A hq1A halA hbA
          generalize hyy : y * y = yy at *
          have HYY := Lib.hid hyy; clear hyy
          obtain ⟨sA, rfl, kA⟩ := hnA
          obtain ⟨pA, cA, rfl⟩ := kA.len
          have hNA := Lib.hid (hMA.putA kA)
          obtain ⟨⟨_, _, y0, y1, _⟩, fa0, fa1⟩ := hMA.a
          clear hMA kA
          go_wp2_with fail
          clear y0 y1 fa0 fa1
          refine ⟨⟨v / 2, 2 * s, m, by simp, by omega, Lib.hid ⟨half_even ho hv2, .inl (twice_le (by omega) hv2), by omega⟩, by rw [pow_twice, HYX.out, HYY.out, HZX.out]; exact hNA.out⟩, by simp [intOf]; omega⟩
def PowFit (x : Int) (n : Nat) : Prop := (∀ k, k ≤ n → (Wh.limbs (x ^ k).natAbs).length ≤ 2000) ∧ (∀ k, 2 * k ≤ n → (Wh.limbs (x ^ k).natAbs).length < 32)
theorem power_widep (w : World) (x : Int) (n : Nat) (a : Option Addr) (c : Nat) (h : Sl w (.slice a (Wh.limbs x.natAbs).length c) (Wh.limbs x.natAbs)) (hn : n ≤ 100000) (hs : PowFit x n) :
    Calls Tryz.prog 99 #[.agg #[.int .i64 x.sign, .slice a (Wh.limbs x.natAbs).length c], .int .i64 n] w fun e w' => (∃ v', e = .returned v' ∧ Num w' v' (x ^ n)) ∧ Below w.heap.size w w' := power_wide w x n a c h hn hs.1 hs.2
def PWW (n : Nat) (x : Int) (p1 : Option Addr) (c1 : Nat) : Nat → Value → World → Prop
  | 0, v, _ => v = .agg #[.int .i64 x.sign, .slice p1 (Wh.limbs x.natAbs).length c1]
  | 1, v, _ => v = .int .i64 (Wh.decN x.natAbs).length
  | 2, v, _ => v = .int .i64 (((Wh.decN x.natAbs).length : Int) - 1)
  | 3, v, _ => v = .int .i64 n
  | 4, v, _ => v = .int .i64 ((((Wh.decN x.natAbs).length : Int) - 1) * n)
  | 5, v, _ => v = .bool true
  | _, v, _ => v = .tuple #[]
set_option maxRecDepth 100000 in
set_option maxHeartbeats 1000000 in
theorem powW_work (w : World) (pa pb : Addr) (x : Int) (n : Nat) (ha : w.cell? pa = some (txt x)) (hb : w.cell? pb = some (.int .i64 n)) (hla : pa.block < w.heap.size) (hlb : pb.block < w.heap.size) (hx : Valid x) (hn : n ≤ 1000) (hd : (((Wh.decN x.natAbs).length : Int) - 1) * n < 400) (hd0 : 0 ≤ (((Wh.decN x.natAbs).length : Int) - 1) * n)
    (hs : PowFit x n) (hz : Valid (x ^ n)) (htab : Tab w) :
    Calls Tryz.prog 94 #[.pointer (some pa), .pointer (some pb)] w fun e w' => e = .returned (txt (x ^ n)) ∧ Below w.heap.size w w' := by
  have H1 := Lib.hid (read_any x hx w)
  have HZ := Lib.hid hz; clear hz
  have HS := Lib.hid hs; clear hs
  have hl5 : (Wh.limbs x.natAbs).length ≤ 5000 := by have := limbs_valid hx; omega
  have hv4 : (Wh.decN x.natAbs).length ≤ 400 := hx
  have hn9 : decide ((n : Int) ≤ 1000) = true := by simp; omega
  unfold txt at *
  go_enter Tryz.func94, Tryz.ntmps94
  go_wp2_with fail
  refine H1.out.mono ?_
  rintro e w1 ⟨⟨v1, rfl, hn1⟩, hb1⟩
  obtain ⟨s1, rfl, k1⟩ := hn1
  obtain ⟨p1, c1, rfl⟩ := k1.len
  have hal : Below w1.heap.size w1 (w1.alloc (Obj.cells #[Value.int IntKind.i64 x.sign, Value.slice p1 (Wh.limbs x.natAbs).length c1] 83)) := (Below.refl _ _).alloc (Nat.le_refl _) _
  have hB := hb1.trans (hal.mono hb1.size)
  have kb := (hB.cell hlb).trans hb
  have ka : (w1.alloc (Obj.cells #[Value.int IntKind.i64 x.sign, Value.slice p1 (Wh.limbs x.natAbs).length c1] 83)).cell? ⟨w1.heap.size, 0, none⟩ = some (.int .i64 x.sign) := by go_simp
  have kc : (w1.alloc (Obj.cells #[Value.int IntKind.i64 x.sign, Value.slice p1 (Wh.limbs x.natAbs).length c1] 83)).cell? ⟨w1.heap.size, 1, none⟩ = some (.slice p1 (Wh.limbs x.natAbs).length c1) := by go_simp
  have hsz : (w1.alloc (Obj.cells #[Value.int IntKind.i64 x.sign, Value.slice p1 (Wh.limbs x.natAbs).length c1] 83)).heap.size = w1.heap.size + 1 := by simp
  have K1 := Lib.hid (k1.mono hal); have HB := Lib.hid hB
  have hpb : pb.block < w1.heap.size := Nat.lt_of_lt_of_le hlb hb1.size
  clear hal hB k1 hb1 ha hb
  go_wp2_with fail
  generalize w1.alloc (Obj.cells #[Value.int IntKind.i64 x.sign, Value.slice p1 (Wh.limbs x.natAbs).length c1] 83) = V at *
  refine (demand_yes _ _).mono ?_
  rintro e w2 ⟨rfl, rfl⟩
  go_wp2_with fail
  refine wp_mono (Q := fun e a W' => e = .normal ∧ (∃ vals : Nat → Value, a = { tmps := #[.pointer (some pa), .pointer (some pb), .string { data := #[] }, .pointer (some ⟨w1.heap.size, 0, none⟩), .string (str (Wh.decI x)), .agg #[.int .i64 x.sign, .slice p1 (Wh.limbs x.natAbs).length c1], .int .i64 n, .bool true, .bool true, .int .i64 n, .bool true, .bool true, .tuple #[], vals 0, vals 1, vals 2, vals 3, vals 4, vals 5, vals 6, undef, undef, undef, undef], defers := [] }) ∧ Below V.heap.size V W') ?_ ?_
  refine Rt.wp_region_grow (n0 := 0) [] [] 24 (fun vals => { tmps := #[.pointer (some pa), .pointer (some pb), .string { data := #[] }, .pointer (some ⟨w1.heap.size, 0, none⟩), .string (str (Wh.decI x)), .agg #[.int .i64 x.sign, .slice p1 (Wh.limbs x.natAbs).length c1], .int .i64 n, .bool true, .bool true, .int .i64 n, .bool true, .bool true, .tuple #[], vals 0, vals 1, vals 2, vals 3, vals 4, vals 5, vals 6, undef, undef, undef, undef], defers := [] }) (PWW n x p1 c1) (by kernel_rfl) (by kernel_rfl) (by kernel_rfl) (by kernel_rfl) (fun _ _ _ _ _ h => absurd h.1 (by simp)) (by kernel_rfl) rfl (fun _ => by kernel_rfl) (by kernel_rfl) (by kernel_rfl) (fun i v w w' h _ => by
    match i, h with
    | 0, h | 1, h | 2, h | 3, h | 4, h | 5, h | _ + 6, h => exact h) ?_ ?_ ?_
  · intro i o d hi hT hW hd' vals w' hb hf
    have hlt : i < 7 := (Array.getElem?_eq_some_iff.1 hi).1
    have z0 := (hb.cell (p := ⟨w1.heap.size, 0, none⟩) (by show w1.heap.size < _; omega)).trans ka
    have z1 := (hb.cell (p := ⟨w1.heap.size, 1, none⟩) (by show w1.heap.size < _; omega)).trans kc
    have u0 := (hb.cell (p := pb) (by omega)).trans kb
    have htb := Lib.hid ((htab.mono HB.out).mono hb)
    rcases i with _ | _ | _ | _ | _ | _ | _ | i
    · obtain rfl := Option.some.inj hi
      obtain rfl := Option.some.inj hd'
      dsimp only
      go_simp
      exact ⟨rfl, Below.refl _ _⟩
    · obtain rfl := Option.some.inj hi
      obtain rfl := Option.some.inj hd'
      have e0 : vals 0 = _ := hf 0 (by kernel_rfl)
      dsimp only
      rw [e0]
      go_simp
      refine (len_any w' _ x ⟨_, rfl, K1.out.mono hb⟩ htb.out hl5).mono ?_
      rintro e w5 ⟨rfl, hb5⟩
      exact ⟨rfl, hb5⟩
    · obtain rfl := Option.some.inj hi
      obtain rfl := Option.some.inj hd'
      have e0 : vals 1 = _ := hf 1 (by kernel_rfl)
      dsimp only
      rw [e0]
      have w1 : IntKind.i64.wrap (((Wh.decN x.natAbs).length : Int) - 1) = ((Wh.decN x.natAbs).length : Int) - 1 := wrap_i64 _ (by omega) (by omega)
      have W1 := Lib.hid w1; clear w1
      go_simp
      exact ⟨congrArg (Value.int .i64) W1.out, Below.refl _ _⟩
    · obtain rfl := Option.some.inj hi
      obtain rfl := Option.some.inj hd'
      dsimp only
      go_simp
      exact ⟨rfl, Below.refl _ _⟩
    · obtain rfl := Option.some.inj hi
      obtain rfl := Option.some.inj hd'
      have e0 : vals 2 = _ := hf 2 (by kernel_rfl)
      have e1 : vals 3 = _ := hf 3 (by kernel_rfl)
      dsimp only
      rw [e0, e1]
      have w1 : IntKind.i64.wrap ((((Wh.decN x.natAbs).length : Int) - 1) * n) = (((Wh.decN x.natAbs).length : Int) - 1) * n := wrap_i64 _ (by omega) (by omega)
      have W1 := Lib.hid w1; clear w1
      go_simp
      exact ⟨congrArg (Value.int .i64) W1.out, Below.refl _ _⟩
    · obtain rfl := Option.some.inj hi
      obtain rfl := Option.some.inj hd'
      have e0 : vals 4 = _ := hf 4 (by kernel_rfl)
      have hdd : decide ((((Wh.decN x.natAbs).length : Int) - 1) * n < 400) = true := by simpa using hd
      have HDD := Lib.hid hdd; clear hdd
      dsimp only
      rw [e0]
      go_simp
      exact ⟨by first | rfl | exact congrArg Value.bool HDD.out, Below.refl _ _⟩
    · obtain rfl := Option.some.inj hi
      obtain rfl := Option.some.inj hd'
      have e0 : vals 5 = _ := hf 5 (by kernel_rfl)
      dsimp only
      rw [e0]
      go_simp
      refine (demand_yes _ _).mono ?_
      rintro e w5 ⟨rfl, rfl⟩
      exact ⟨rfl, Below.refl _ _⟩
    · omega
  · intro p o d hi hW hd vals w' hb hf
    cases hW
  · intro vals w' hb hf
    exact Rt.wpAny_end (by kernel_rfl) ⟨rfl, ⟨vals, rfl⟩, hb⟩
  · rintro e a W ⟨rfl, ⟨vals, rfl⟩, hb⟩
    have z0 := (hb.cell (p := ⟨w1.heap.size, 0, none⟩) (by show w1.heap.size < _; omega)).trans ka
    have z1 := (hb.cell (p := ⟨w1.heap.size, 1, none⟩) (by show w1.heap.size < _; omega)).trans kc
    have u0 := (hb.cell (p := pb) (by omega)).trans kb
    have HBW := Lib.hid (HB.out.trans (hb.mono HB.out.size))
    have HP := Lib.hid (power_widep W x n p1 c1 (K1.out.mono hb) (by omega) HS.out)
    clear hb ka kc kb
    generalize vals 0 = v0; generalize vals 1 = v1; generalize vals 2 = v2; generalize vals 3 = v3; generalize vals 4 = v4; generalize vals 5 = v5; generalize vals 6 = v6
    go_wp2_with fail
    refine HP.out.mono ?_
    rintro e W5 ⟨⟨vz, rfl, hnz⟩, hb5⟩
    have HT := Lib.hid (wtext_any W5 vz _ hnz (htab.mono (HBW.out.trans (hb5.mono HBW.out.size))) HZ.out)
    have HB5 : Hid (Below w.heap.size w _) := Lib.hid (HBW.out.trans (hb5.mono HBW.out.size))
    obtain ⟨sz, rfl, -⟩ := hnz
    clear hb5
    go_wp2_with fail
    refine HT.out.mono ?_
    rintro e W6 ⟨rfl, hb6⟩
    have HB6 := HB5.out.trans (hb6.mono HB5.out.size)
    unfold txt
    go_wp2
    go_ret
    exact ⟨rfl, HB6⟩
set_option maxHeartbeats 400000 in
theorem PowW_any (w : World) (x : Int) (n : Nat) (hx : Valid x) (hn : n ≤ 1000) (hd : (((Wh.decN x.natAbs).length : Int) - 1) * n < 400) (hd0 : 0 ≤ (((Wh.decN x.natAbs).length : Int) - 1) * n)
    (hs : PowFit x n) (hz : Valid (x ^ n)) (htab : Tab w) :
    Calls Tryz.prog 25 #[txt x, .int .i64 n] w fun e w' => e = .returned (.tuple #[txt (x ^ n), .int .i64 0]) ∧ Below w.heap.size w w' := by
  have hmf : ∀ (fn : Fn) (first cap : Array Value) (w : World), (Instr.makeFunc fn first cap).run Tryz.prog w = .ok (.func fn first cap) w := fun _ _ _ _ => rfl
  have hat := fun (w : World) (pa pb : Addr) (ka : w.cell? pa = some (txt x)) (kb : w.cell? pb = some (.int .i64 n)) (htab : Tab w) (ha : pa.block < w.heap.size) (hb : pb.block < w.heap.size) => attempt_good 94 #[.pointer (some pa), .pointer (some pb)] (str (Wh.decI (x ^ n))) w (fun w => by kernel_rfl) (fun w' hb' => powW_work w' pa pb x n ((hb'.cell ha).trans ka) ((hb'.cell hb).trans kb) (Nat.lt_of_lt_of_le ha hb'.size) (Nat.lt_of_lt_of_le hb hb'.size) hx hn hd hd0 hs hz (htab.mono hb'))
  have HAT := Lib.hid hat; clear hat hs hz hd hd0 hn
  unfold txt at *
  go_enter Tryz.func25, Tryz.ntmps25
  go_wp2_with fail
  have hal : Below w.heap.size w ((w.alloc (.cells #[.string (str (Wh.decI x))] 9)).alloc (.cells #[.int .i64 n] 3)) := ((Below.refl _ _).alloc (Nat.le_refl _) _).alloc (by simp) _
  have b0 : ((w.alloc (.cells #[.string (str (Wh.decI x))] 9)).alloc (.cells #[.int .i64 n] 3)).cell? ⟨w.heap.size, 0, none⟩ = some (.string (str (Wh.decI x))) := by go_simp
  have b1 : ((w.alloc (.cells #[.string (str (Wh.decI x))] 9)).alloc (.cells #[.int .i64 n] 3)).cell? ⟨w.heap.size + 1, 0, none⟩ = some (.int .i64 n) := by go_simp
  refine (HAT.out _ _ _ b0 b1 (htab.mono hal) (by simp; omega) (by simp)).mono ?_
  rintro e w2 ⟨rfl, hb2⟩
  have hbb := hal.trans (hb2.mono hal.size)
  clear hal b0 b1 hb2
  go_wp2
  go_ret2
  exact ⟨rfl, hbb⟩
end Go.Proofs.YteaeloeebfdodaaGreatDoor
