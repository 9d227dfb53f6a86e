/- Part 21 of the proofs that laws of package whole answer true at every input and leave the input as it was, where the library's variables start as the text lays them (the texts Q8, V12, V13, T8). -/
import Derived.Test.YteaeloeebfdodaaGreatDoorX17
import Derived.Test.YteaeloeebfdodaaGreatDoorX19
import Derived.Test.YteaeloeebfdodaaGreatDoorX20
import Derived.Test.YteaeloeebfdodaaGreatDoorX10
import Derived.Defers
import Derived.Recover
set_option linter.unusedVariables false
set_option linter.unusedSimpArgs false
/- WALKS, PowMod 2: what the work answers. -/
namespace Go.Proofs.YteaeloeebfdodaaGreatDoor
open Go.RowKit
structure Captured3 (w : World) (pa pb pc : Addr) (x y z : Int) : Prop where
  a : w.cell? pa = some (txt x)
  b : w.cell? pb = some (txt y)
  c : w.cell? pc = some (txt z)
structure Lie3 (w : World) (pa pb pc : Addr) : Prop where
  a : pa.block < w.heap.size
  b : pb.block < w.heap.size
  c : pc.block < w.heap.size
set_option maxRecDepth 100000 in
set_option maxHeartbeats 4000000 in
theorem powmod_work (w : World) (pa pb pc : Addr) (x y m : Int) (hc : Captured3 w pa pb pc x y m) (hl : Lie3 w pa pb pc) (hx : Valid x) (hy : Valid y) (hm : Valid m) (hfx : Fit x) (hy0 : 0 ≤ y) (hm0 : 0 < m ∧ m < 1000000000) (hz : Valid ((x ^ y.natAbs).fmod m)) (htab : Tab w) :
    Calls Tryz.prog 102 #[.pointer (some pa), .pointer (some pb), .pointer (some pc)] w fun e w' => e = .returned (txt ((x ^ y.natAbs).fmod m)) ∧ Below w.heap.size w w' := by
  have ka := hc.a
  have kb := hc.b
  have kc := hc.c
  clear hc
  have HPL := Lib.hid hl; clear hl
  have HRX := Lib.hid (read_any x hx)
  have HRY := Lib.hid (read_any y hy)
  have HRM := Lib.hid (read_any m hm)
  have hyl : (Wh.limbs y.natAbs).length ≤ 1000 := by have := limbs_valid hy; omega
  have HPM := Lib.hid (fun (w : World) (a1 a2 a3 : Option Addr) (n1 n2 n3 c1 c2 c3 : Nat) h1 h2 h3 => powmod_any w x y m a1 a2 a3 n1 n2 n3 c1 c2 c3 h1 h2 h3 hfx hyl hm0)
  unfold txt at ka kb kc HRX HRY HRM
  have htx : ∀ z : Int, txt z = .string (str (Wh.decI z)) := fun _ => rfl
  have HZ := Lib.hid hz; clear hz
  have sy : decide (0 ≤ y.sign) = true := by
    rcases Int.lt_or_eq_of_le hy0 with h | h
    · rw [Int.sign_eq_one_of_pos h]; rfl
    · rw [← h]; rfl
  have sm : decide (0 < m.sign) = true := by rw [Int.sign_eq_one_of_pos hm0.1]; rfl
  go_enter Tryz.func102, Tryz.ntmps102
  go_wp2_with fail
  refine wp_mono (Q := fun e a W' => e = .normal ∧ ∃ (vals : Nat → Value) (b4 b5 b6 : Nat), a = { tmps := #[.pointer (some pa), .pointer (some pb), .pointer (some pc), .string { data := #[] }, vals 6, vals 7, vals 8, vals 0, vals 1, vals 2, vals 3, vals 4, vals 5, undef, undef, undef, undef, undef, undef, undef, undef, undef, undef, undef, undef, undef, undef], defers := [] } ∧ vals 6 = .pointer (some ⟨b4, 0, none⟩) ∧ vals 7 = .pointer (some ⟨b5, 0, none⟩) ∧ vals 8 = .pointer (some ⟨b6, 0, none⟩) ∧ NumAt W' b4 x ∧ NumAt W' b5 y ∧ NumAt W' b6 m ∧ b4 < W'.heap.size ∧ b5 < W'.heap.size ∧ b6 < W'.heap.size ∧ Below w.heap.size w W') ?_ ?_
  refine Rt.wp_region_pairs (n0 := 3) [9, 10, 11] [] 27 (fun vals => { tmps := #[.pointer (some pa), .pointer (some pb), .pointer (some pc), .string { data := #[] }, vals 6, vals 7, vals 8, vals 0, vals 1, vals 2, vals 3, vals 4, vals 5, undef, undef, undef, undef, undef, undef, undef, undef, undef, undef, undef, undef, undef, undef], defers := [] }) (PW w.heap.size x y m) Two2 (by kernel_rfl) (by kernel_rfl) (by kernel_rfl) (by kernel_rfl) (fun _ _ _ _ _ h => absurd h.1 (by simp)) (by kernel_rfl) rfl (fun _ => by kernel_rfl) (by kernel_rfl) (by kernel_rfl) (pw_stays _ _ _ _) ?_ ?_ ?_
  · intro i o d hi hT hW hd vals w' hb hf
    have hlt : i < 12 := (Array.getElem?_eq_some_iff.1 hi).1
    rcases i with _ | _ | _ | _ | _ | _ | _ | _ | _ | _ | _ | _ | i
    · obtain rfl := Option.some.inj hi
      obtain rfl := Option.some.inj hd
      have h0 := (hb.cell HPL.out.a).trans ka
      dsimp only
      go_simp
      exact ⟨by unfold PW txt; rfl, Below.refl _ _, fun j u _ _ => two2_of (by intro p e; cases e)⟩
    · obtain rfl := Option.some.inj hi
      obtain rfl := Option.some.inj hd
      have e0 : vals 0 = .string (str (Wh.decI x)) := hf 0 (by kernel_rfl)
      dsimp only
      rw [e0]
      go_simp
      refine (HRX.out _).mono ?_
      rintro e w5 ⟨⟨v5, rfl, hn5⟩, hb5⟩
      exact ⟨hn5, hb5, fun j u _ _ => two2_of (num_np hn5)⟩
    · obtain rfl := Option.some.inj hi
      obtain rfl := Option.some.inj hd
      have h0 := (hb.cell HPL.out.b).trans kb
      dsimp only
      go_simp
      exact ⟨by unfold PW txt; rfl, Below.refl _ _, fun j u _ _ => two2_of (by intro p e; cases e)⟩
    · obtain rfl := Option.some.inj hi
      obtain rfl := Option.some.inj hd
      have e0 : vals 2 = .string (str (Wh.decI y)) := hf 2 (by kernel_rfl)
      dsimp only
      rw [e0]
      go_simp
      refine (HRY.out _).mono ?_
      rintro e w5 ⟨⟨v5, rfl, hn5⟩, hb5⟩
      exact ⟨hn5, hb5, fun j u _ _ => two2_of (num_np hn5)⟩
    · obtain rfl := Option.some.inj hi
      obtain rfl := Option.some.inj hd
      have h0 := (hb.cell HPL.out.c).trans kc
      dsimp only
      go_simp
      exact ⟨by unfold PW txt; rfl, Below.refl _ _, fun j u _ _ => two2_of (by intro p e; cases e)⟩
    · obtain rfl := Option.some.inj hi
      obtain rfl := Option.some.inj hd
      have e0 : vals 4 = .string (str (Wh.decI m)) := hf 4 (by kernel_rfl)
      dsimp only
      rw [e0]
      go_simp
      refine (HRM.out _).mono ?_
      rintro e w5 ⟨⟨v5, rfl, hn5⟩, hb5⟩
      exact ⟨hn5, hb5, fun j u _ _ => two2_of (num_np hn5)⟩
    · obtain rfl := Option.some.inj hi
      obtain rfl := Option.some.inj hd
      dsimp only
      go_simp
      exact ⟨⟨w'.heap.size, rfl, hb.size, by simp, by go_simp, by go_simp, by go_simp, by go_simp⟩, (Below.refl _ _).alloc (Nat.le_refl _) _, fun j u _ hu => pw_new _ (Nat.le_refl _) j u hu⟩
    · obtain rfl := Option.some.inj hi
      obtain rfl := Option.some.inj hd
      dsimp only
      go_simp
      exact ⟨⟨w'.heap.size, rfl, hb.size, by simp, by go_simp, by go_simp, by go_simp, by go_simp⟩, (Below.refl _ _).alloc (Nat.le_refl _) _, fun j u _ hu => pw_new _ (Nat.le_refl _) j u hu⟩
    · obtain rfl := Option.some.inj hi
      obtain rfl := Option.some.inj hd
      dsimp only
      go_simp
      exact ⟨⟨w'.heap.size, rfl, hb.size, by simp, by go_simp, by go_simp, by go_simp, by go_simp⟩, (Below.refl _ _).alloc (Nat.le_refl _) _, fun j u _ hu => pw_new _ (Nat.le_refl _) j u hu⟩
    · cases hT
    · cases hT
    · cases hT
    · omega
  · intro p o d hi hW hd vals w' hb hf
    cases hW
  · intro vals w' hb hf hp
    obtain ⟨s1, e1, k1⟩ := hf 1 (by decide) rfl
    obtain ⟨s3, e3, k3⟩ := hf 3 (by decide) rfl
    obtain ⟨s5, e5, k5⟩ := hf 5 (by decide) rfl
    obtain ⟨b4, e6, n4, l4, B4⟩ := Fresh.blank (hf 6 (by decide) rfl)
    obtain ⟨b5, e7, n5, l5, B5⟩ := Fresh.blank (hf 7 (by decide) rfl)
    obtain ⟨b6, e8, n6, l6, B6⟩ := Fresh.blank (hf 8 (by decide) rfl)
    have h45 := hp 6 7 (by decide) (by decide) rfl rfl (by decide) _ _ e6 e7
    have h46 := hp 6 8 (by decide) (by decide) rfl rfl (by decide) _ _ e6 e8
    have h56 := hp 7 8 (by decide) (by decide) rfl rfl (by decide) _ _ e7 e8
    obtain ⟨p1, c1, rfl⟩ := k1.len
    obtain ⟨p3, c3, rfl⟩ := k3.len
    obtain ⟨p5, c5, rfl⟩ := k5.len
    have HB := Lib.hid hb; clear hb hf hp
    have K1 := Lib.hid k1; have K3 := Lib.hid k3; have K5 := Lib.hid k5; clear k1 k3 k5
    have BB4 := Lib.hid B4; have BB5 := Lib.hid B5; have BB6 := Lib.hid B6
    obtain ⟨x0, x1, f0, f1⟩ := B4
    clear B5 B6
    rw [e1, e3, e5, e6, e7, e8]
    refine Rt.wpAny_step (i := 9) (by kernel_rfl) rfl (by rfl) (fun K hK => ?_)
    have HK := Lib.hid hK; clear hK
    go_simp
    refine HK.out _ _ ?_
    clear HK x0 x1 f0 f1
    have N4 := Lib.hid (BB4.out.put K1.out)
    have B5' := BB5.out.far h45 (.int .i64 x.sign) (.slice p1 (Wh.limbs x.natAbs).length c1)
    have B6' := Lib.hid (BB6.out.far h46 (.int .i64 x.sign) (.slice p1 (Wh.limbs x.natAbs).length c1))
    have K3' := Lib.hid (K3.out.store2 b4 BB4.out.c0 BB4.out.c1 (.int .i64 x.sign) (.slice p1 (Wh.limbs x.natAbs).length c1))
    have K5' := Lib.hid (K5.out.store2 b4 BB4.out.c0 BB4.out.c1 (.int .i64 x.sign) (.slice p1 (Wh.limbs x.natAbs).length c1))
    have HB' : Hid (Below w.heap.size w ((w'.setCell ⟨b4, 0, none⟩ (.int .i64 x.sign)).setCell ⟨b4, 1, none⟩ (.slice p1 (Wh.limbs x.natAbs).length c1))) := Lib.hid ((HB.out.setCell n4 _).setCell n4 _)
    have l4' : b4 < ((w'.setCell ⟨b4, 0, none⟩ (.int .i64 x.sign)).setCell ⟨b4, 1, none⟩ (.slice p1 (Wh.limbs x.natAbs).length c1)).heap.size := by simpa using l4
    have l5' : b5 < ((w'.setCell ⟨b4, 0, none⟩ (.int .i64 x.sign)).setCell ⟨b4, 1, none⟩ (.slice p1 (Wh.limbs x.natAbs).length c1)).heap.size := by simpa using l5
    have l6' : b6 < ((w'.setCell ⟨b4, 0, none⟩ (.int .i64 x.sign)).setCell ⟨b4, 1, none⟩ (.slice p1 (Wh.limbs x.natAbs).length c1)).heap.size := by simpa using l6
    clear K1 K3 K5 BB4 BB5 BB6 HB l4 l5 l6
    generalize ((w'.setCell ⟨b4, 0, none⟩ (.int .i64 x.sign)).setCell ⟨b4, 1, none⟩ (.slice p1 (Wh.limbs x.natAbs).length c1)) = U at *
    have BB5 := Lib.hid B5'
    obtain ⟨x0, x1, f0, f1⟩ := B5'
    refine Rt.wpAny_step (i := 10) (by kernel_rfl) rfl (by rfl) (fun K hK => ?_)
    have HK := Lib.hid hK; clear hK
    go_simp
    refine HK.out _ _ ?_
    clear HK x0 x1 f0 f1
    have N5 := Lib.hid (BB5.out.put K3'.out)
    have N4' := Lib.hid (N4.out.far BB5.out (Ne.symm h45) (.int .i64 y.sign) (.slice p3 (Wh.limbs y.natAbs).length c3))
    have B6'' := B6'.out.far h56 (.int .i64 y.sign) (.slice p3 (Wh.limbs y.natAbs).length c3)
    have K5'' := Lib.hid (K5'.out.store2 b5 BB5.out.c0 BB5.out.c1 (.int .i64 y.sign) (.slice p3 (Wh.limbs y.natAbs).length c3))
    have HB'' : Hid (Below w.heap.size w ((U.setCell ⟨b5, 0, none⟩ (.int .i64 y.sign)).setCell ⟨b5, 1, none⟩ (.slice p3 (Wh.limbs y.natAbs).length c3))) := Lib.hid ((HB'.out.setCell n5 _).setCell n5 _)
    have l4 : b4 < ((U.setCell ⟨b5, 0, none⟩ (.int .i64 y.sign)).setCell ⟨b5, 1, none⟩ (.slice p3 (Wh.limbs y.natAbs).length c3)).heap.size := by simpa using l4'
    have l5 : b5 < ((U.setCell ⟨b5, 0, none⟩ (.int .i64 y.sign)).setCell ⟨b5, 1, none⟩ (.slice p3 (Wh.limbs y.natAbs).length c3)).heap.size := by simpa using l5'
    have l6 : b6 < ((U.setCell ⟨b5, 0, none⟩ (.int .i64 y.sign)).setCell ⟨b5, 1, none⟩ (.slice p3 (Wh.limbs y.natAbs).length c3)).heap.size := by simpa using l6'
    clear N4 K3' K5' BB5 B6' HB' l4' l5' l6'
    generalize ((U.setCell ⟨b5, 0, none⟩ (.int .i64 y.sign)).setCell ⟨b5, 1, none⟩ (.slice p3 (Wh.limbs y.natAbs).length c3)) = U2 at *
    have BB6 := Lib.hid B6''
    obtain ⟨x0, x1, f0, f1⟩ := B6''
    refine Rt.wpAny_step (i := 11) (by kernel_rfl) rfl (by rfl) (fun K hK => ?_)
    have HK := Lib.hid hK; clear hK
    go_simp
    refine HK.out _ _ ?_
    clear HK x0 x1 f0 f1
    exact Rt.wpAny_end (by kernel_rfl) ⟨rfl, vals, b4, b5, b6, by rw [e1, e3, e5, e6, e7, e8], e6, e7, e8, N4'.out.far BB6.out (Ne.symm h46) _ _, N5.out.far BB6.out (Ne.symm h56) _ _, BB6.out.put K5''.out, by simpa using l4, by simpa using l5, by simpa using l6, (HB''.out.setCell n6 _).setCell n6 _⟩
  · rintro e a W ⟨rfl, vals, b4, b5, b6, rfl, e6, e7, e8, N4, N5, N6, l4, l5, l6, hB⟩
    rw [e6, e7, e8]
    generalize vals 0 = v0; generalize vals 1 = v1; generalize vals 2 = v2; generalize vals 3 = v3; generalize vals 4 = v4; generalize vals 5 = v5
    obtain ⟨p5, c5, y0, y1, ys⟩ := N5
    have HYS := Lib.hid ys; clear ys
    have HN4 := Lib.hid N4; have HN6 := Lib.hid N6; have HB := Lib.hid hB; clear N4 N6 hB
    generalize hsy : y.sign = Y at *
    generalize hsm : m.sign = MS at *
    go_wp2_with fail
    refine (sign_any W Y _ _ _).mono ?_
    rintro e W2 ⟨rfl, hb2⟩
    have N4 := HN4.out.mono hb2 l4
    have N6 := HN6.out.mono hb2 l6
    have y0 := (hb2.cell (p := ⟨b5, 0, none⟩) l5).trans y0
    have y1 := (hb2.cell (p := ⟨b5, 1, none⟩) l5).trans y1
    have HYS := Lib.hid (HYS.out.mono hb2)
    have hs2 := hb2.size
    have HB : Hid (Below w.heap.size w _) := Lib.hid (HB.out.trans (hb2.mono HB.out.size))
    clear HN4 HN6 hb2
    have HN4 := Lib.hid N4; clear N4
    obtain ⟨p6, c6, m0, m1, ms⟩ := N6
    rw [hsm] at m0
    have HMS := Lib.hid ms; clear ms
    go_wp2_with fail
    refine (sign_any W2 MS _ _ _).mono ?_
    rintro e W3 ⟨rfl, hb3⟩
    have N4 := HN4.out.mono hb3 (by omega)
    have y0 := (hb3.cell (p := ⟨b5, 0, none⟩) (by show b5 < _; omega)).trans y0
    have y1 := (hb3.cell (p := ⟨b5, 1, none⟩) (by show b5 < _; omega)).trans y1
    have m0 := (hb3.cell (p := ⟨b6, 0, none⟩) (by show b6 < _; omega)).trans m0
    have m1 := (hb3.cell (p := ⟨b6, 1, none⟩) (by show b6 < _; omega)).trans m1
    have HYS := Lib.hid (HYS.out.mono hb3)
    have HMS := Lib.hid (HMS.out.mono hb3)
    have HB : Hid (Below w.heap.size w _) := Lib.hid (HB.out.trans (hb3.mono HB.out.size))
    clear HN4 hb3
    obtain ⟨p4, c4, x0, x1, xs⟩ := N4
    have HXS := Lib.hid xs; clear xs
    go_wp2_with fail
    refine (demand_yes _ _).mono ?_
    rintro e W4 ⟨rfl, rfl⟩
    rw [← hsy, ← hsm] at *
    go_wp2_with fail
    refine (HPM.out _ _ _ _ _ _ _ _ _ _ HXS.out HYS.out HMS.out).mono ?_
    rintro e W5 ⟨⟨vz, rfl, hnz⟩, hb5⟩
    have HT := Lib.hid (wtext_any W5 vz _ hnz (htab.mono (HB.out.trans (hb5.mono HB.out.size))) HZ.out)
    have HB : Hid (Below w.heap.size w _) := Lib.hid (HB.out.trans (hb5.mono HB.out.size))
    obtain ⟨sz, rfl, -⟩ := hnz
    clear hb5
    go_wp2_with fail
    refine HT.out.mono ?_
    rintro e W6 ⟨rfl, hb6⟩
    have HB := HB.out.trans (hb6.mono HB.out.size)
    unfold txt
    go_wp2
    go_ret
    exact ⟨rfl, HB⟩
end Go.Proofs.YteaeloeebfdodaaGreatDoor

/- WALKS, roots 2 and bases: whole.Root and whole.Base, over a contract of package exact's function. -/
namespace Go.Proofs.YteaeloeebfdodaaGreatDoor
open Go.RowKit

set_option maxRecDepth 100000 in
set_option maxHeartbeats 1000000 in
theorem root_work (w : World) (pa pb : Addr) (x : Int) (n : Nat) (r : Int) (ha : w.cell? pa = some (txt x)) (hb : w.cell? pb = some (.int .i64 n)) (hla : pa.block < w.heap.size) (hlb : pb.block < w.heap.size) (hx : Valid x) (hx0 : 0 ≤ x) (hn : 1 ≤ n ∧ n ≤ 20)
    (HR : ∀ (w : World) (xa : Option Addr) (xc : Nat), Sl w (.slice xa (Wh.limbs x.natAbs).length xc) (Wh.limbs x.natAbs) → Tab w → Calls Tryz.prog 117 #[.agg #[.int .i64 x.sign, .slice xa (Wh.limbs x.natAbs).length xc], .int .i64 n] w fun e w' => (∃ v', e = .returned v' ∧ Num w' v' r) ∧ Below w.heap.size w w')
    (hz : Valid r) (htab : Tab w) :
    Calls Tryz.prog 116 #[.pointer (some pa), .pointer (some pb)] w fun e w' => e = .returned (.string (str (Wh.decI r))) ∧ Below w.heap.size w w' := by
  have hs0 : decide (0 ≤ x.sign) = true := by
    rcases Int.lt_or_eq_of_le hx0 with h | h
    · rw [Int.sign_eq_one_of_pos h]; rfl
    · rw [← h]; rfl
  have hn1' : decide (1 ≤ (n : Int)) = true := by simp; omega
  have hn2' : decide ((n : Int) ≤ 20) = true := by simp; omega
  clear hn
  have H1 := Lib.hid (read_any x hx w)
  have HRR := Lib.hid HR; clear HR
  have HTB := Lib.hid htab; clear htab
  unfold txt at *
  go_enter Tryz.func116, Tryz.ntmps116
  go_wp2_with fail
  refine H1.out.mono ?_
  rintro e w1 ⟨⟨v1, rfl, hn1⟩, hb1⟩
  obtain ⟨s1, rfl, k1⟩ := hn1
  obtain ⟨p1, c1, rfl⟩ := k1.len
  have hal : Below w1.heap.size w1 (w1.alloc (Obj.cells #[Value.int IntKind.i64 x.sign, Value.slice p1 (Wh.limbs x.natAbs).length c1] 83)) := (Below.refl _ _).alloc (Nat.le_refl _) _
  have hB := hb1.trans (hal.mono hb1.size)
  have kb := (hB.cell hlb).trans hb
  have ka : (w1.alloc (Obj.cells #[Value.int IntKind.i64 x.sign, Value.slice p1 (Wh.limbs x.natAbs).length c1] 83)).cell? ⟨w1.heap.size, 0, none⟩ = some (.int .i64 x.sign) := by go_simp
  have kc : (w1.alloc (Obj.cells #[Value.int IntKind.i64 x.sign, Value.slice p1 (Wh.limbs x.natAbs).length c1] 83)).cell? ⟨w1.heap.size, 1, none⟩ = some (.slice p1 (Wh.limbs x.natAbs).length c1) := by go_simp
  have hsz : (w1.alloc (Obj.cells #[Value.int IntKind.i64 x.sign, Value.slice p1 (Wh.limbs x.natAbs).length c1] 83)).heap.size = w1.heap.size + 1 := by simp
  have K1 := Lib.hid (k1.mono hal); have HB := Lib.hid hB
  have hpb : pb.block < w1.heap.size := Nat.lt_of_lt_of_le hlb hb1.size
  clear hal hB k1 hb1 ha hb
  go_wp2_with fail
  generalize hX : (w1.alloc (Obj.cells #[Value.int IntKind.i64 x.sign, Value.slice p1 (Wh.limbs x.natAbs).length c1] 83)) = V at *
  clear hX
  generalize hsy : x.sign = Y at *
  generalize hnl : (Wh.limbs x.natAbs).length = NL at *
  refine (sign_any V Y _ _ _).mono ?_
  rintro e W2 ⟨rfl, hb2⟩
  have ka := (hb2.cell (p := ⟨w1.heap.size, 0, none⟩) (by show w1.heap.size < _; omega)).trans ka
  have kc := (hb2.cell (p := ⟨w1.heap.size, 1, none⟩) (by show w1.heap.size < _; omega)).trans kc
  have kb := (hb2.cell (p := pb) (by omega)).trans kb
  have K2 := Lib.hid (K1.out.mono hb2)
  have HB2 : Hid (Below w.heap.size w W2) := Lib.hid (HB.out.trans (hb2.mono HB.out.size))
  clear hb2 K1 HB
  go_wp2_with fail
  refine (demand_yes _ _).mono ?_
  rintro e W3 ⟨rfl, rfl⟩
  have HT2 := Lib.hid (HTB.out.mono HB2.out)
  have HRW := Lib.hid (HRR.out W2 p1 c1 K2.out HT2.out)
  clear HRR
  go_wp2_with fail
  refine HRW.out.mono ?_
  rintro e W5 ⟨⟨vz, rfl, hnz⟩, hb5⟩
  have HT := Lib.hid (wtext_any W5 vz _ hnz (HT2.out.mono hb5) hz)
  have HB5 : Hid (Below w.heap.size w W5) := Lib.hid (HB2.out.trans (hb5.mono HB2.out.size))
  obtain ⟨sz, rfl, -⟩ := hnz
  clear hb5
  go_wp2_with fail
  refine HT.out.mono ?_
  rintro e W6 ⟨rfl, hb6⟩
  have HB6 := HB5.out.trans (hb6.mono HB5.out.size)
  unfold txt
  go_wp2
  go_ret
  exact ⟨rfl, HB6⟩

set_option maxHeartbeats 400000 in
theorem Root_any (w : World) (x : Int) (n : Nat) (r : Int) (hx : Valid x) (hx0 : 0 ≤ x) (hn : 1 ≤ n ∧ n ≤ 20)
    (HR : ∀ (w : World) (xa : Option Addr) (xc : Nat), Sl w (.slice xa (Wh.limbs x.natAbs).length xc) (Wh.limbs x.natAbs) → Tab w → Calls Tryz.prog 117 #[.agg #[.int .i64 x.sign, .slice xa (Wh.limbs x.natAbs).length xc], .int .i64 n] w fun e w' => (∃ v', e = .returned v' ∧ Num w' v' r) ∧ Below w.heap.size w w')
    (hz : Valid r) (htab : Tab w) :
    Calls Tryz.prog 36 #[txt x, .int .i64 n] w fun e w' => e = .returned (.tuple #[.string (str (Wh.decI r)), .int .i64 0]) ∧ Below w.heap.size w w' := by
  have hmf : ∀ (fn : Fn) (first cap : Array Value) (w : World), (Instr.makeFunc fn first cap).run Tryz.prog w = .ok (.func fn first cap) w := fun _ _ _ _ => rfl
  have hat := fun (w : World) (pa pb : Addr) (ka : w.cell? pa = some (txt x)) (kb : w.cell? pb = some (.int .i64 n)) (htab : Tab w) (ha : pa.block < w.heap.size) (hb : pb.block < w.heap.size) => attempt_good 116 #[.pointer (some pa), .pointer (some pb)] (str (Wh.decI r)) w (fun w => by kernel_rfl) (fun w' hb' => root_work w' pa pb x n r ((hb'.cell ha).trans ka) ((hb'.cell hb).trans kb) (Nat.lt_of_lt_of_le ha hb'.size) (Nat.lt_of_lt_of_le hb hb'.size) hx hx0 hn HR hz (htab.mono hb'))
  have HAT := Lib.hid hat; clear hat
  have HTB := Lib.hid htab; clear htab
  clear hx hx0 hn HR hz
  unfold txt at *
  go_enter Tryz.func36, Tryz.ntmps36
  go_wp2_with fail
  have hal : Below w.heap.size w ((w.alloc (.cells #[.string (str (Wh.decI x))] 9)).alloc (.cells #[.int .i64 n] 3)) := ((Below.refl _ _).alloc (Nat.le_refl _) _).alloc (by simp) _
  have b0 : ((w.alloc (.cells #[.string (str (Wh.decI x))] 9)).alloc (.cells #[.int .i64 n] 3)).cell? ⟨w.heap.size, 0, none⟩ = some (.string (str (Wh.decI x))) := by go_simp
  have b1 : ((w.alloc (.cells #[.string (str (Wh.decI x))] 9)).alloc (.cells #[.int .i64 n] 3)).cell? ⟨w.heap.size + 1, 0, none⟩ = some (.int .i64 n) := by go_simp
  refine (HAT.out _ _ _ b0 b1 (HTB.out.mono hal) (by simp; omega) (by simp)).mono ?_
  rintro e w2 ⟨rfl, hb2⟩
  have hbb := hal.trans (hb2.mono hal.size)
  clear hal b0 b1 hb2
  go_wp2
  go_ret2
  exact ⟨rfl, hbb⟩

set_option maxRecDepth 100000 in
set_option maxHeartbeats 1000000 in
theorem base_work (w : World) (pa pb : Addr) (x : Int) (n : Nat) (s : ByteArray) (ha : w.cell? pa = some (txt x)) (hb : w.cell? pb = some (.int .i64 n)) (hla : pa.block < w.heap.size) (hlb : pb.block < w.heap.size) (hx : Valid x) (hn : 2 ≤ n ∧ n ≤ 36)
    (HR : ∀ (w : World) (xa : Option Addr) (xc : Nat), Sl w (.slice xa (Wh.limbs x.natAbs).length xc) (Wh.limbs x.natAbs) → Calls Tryz.prog 119 #[.agg #[.int .i64 x.sign, .slice xa (Wh.limbs x.natAbs).length xc], .int .i64 n] w fun e w' => e = .returned (.string s) ∧ Below w.heap.size w w')
    (htab : Tab w) :
    Calls Tryz.prog 118 #[.pointer (some pa), .pointer (some pb)] w fun e w' => e = .returned (.string s) ∧ Below w.heap.size w w' := by
  have hn1' : decide (2 ≤ (n : Int)) = true := by simp; omega
  have hn2' : decide ((n : Int) ≤ 36) = true := by simp; omega
  clear hn
  have H1 := Lib.hid (read_any x hx w)
  have HRR := Lib.hid HR; clear HR
  have HTB := Lib.hid htab; clear htab
  unfold txt at *
  go_enter Tryz.func118, Tryz.ntmps118
  go_wp2_with fail
  refine H1.out.mono ?_
  rintro e w1 ⟨⟨v1, rfl, hn1⟩, hb1⟩
  obtain ⟨s1, rfl, k1⟩ := hn1
  obtain ⟨p1, c1, rfl⟩ := k1.len
  have hal : Below w1.heap.size w1 (w1.alloc (Obj.cells #[Value.int IntKind.i64 x.sign, Value.slice p1 (Wh.limbs x.natAbs).length c1] 83)) := (Below.refl _ _).alloc (Nat.le_refl _) _
  have hB := hb1.trans (hal.mono hb1.size)
  have kb := (hB.cell hlb).trans hb
  have ka : (w1.alloc (Obj.cells #[Value.int IntKind.i64 x.sign, Value.slice p1 (Wh.limbs x.natAbs).length c1] 83)).cell? ⟨w1.heap.size, 0, none⟩ = some (.int .i64 x.sign) := by go_simp
  have kc : (w1.alloc (Obj.cells #[Value.int IntKind.i64 x.sign, Value.slice p1 (Wh.limbs x.natAbs).length c1] 83)).cell? ⟨w1.heap.size, 1, none⟩ = some (.slice p1 (Wh.limbs x.natAbs).length c1) := by go_simp
  have hsz : (w1.alloc (Obj.cells #[Value.int IntKind.i64 x.sign, Value.slice p1 (Wh.limbs x.natAbs).length c1] 83)).heap.size = w1.heap.size + 1 := by simp
  have K1 := Lib.hid (k1.mono hal); have HB := Lib.hid hB
  have hpb : pb.block < w1.heap.size := Nat.lt_of_lt_of_le hlb hb1.size
  clear hal hB k1 hb1 ha hb
  go_wp2_with fail
  generalize hX : (w1.alloc (Obj.cells #[Value.int IntKind.i64 x.sign, Value.slice p1 (Wh.limbs x.natAbs).length c1] 83)) = V at *
  clear hX
  generalize hsy : x.sign = Y at *
  generalize hnl : (Wh.limbs x.natAbs).length = NL at *
  refine (demand_yes _ _).mono ?_
  rintro e W3 ⟨rfl, rfl⟩
  have HRW := Lib.hid (HRR.out V p1 c1 K1.out)
  clear HRR
  go_wp2_with fail
  refine HRW.out.mono ?_
  rintro e W5 ⟨rfl, hb5⟩
  have HB6 : Below w.heap.size w W5 := HB.out.trans (hb5.mono HB.out.size)
  go_wp2
  go_ret
  exact ⟨rfl, HB6⟩

set_option maxHeartbeats 400000 in
theorem Base_any (w : World) (x : Int) (n : Nat) (s : ByteArray) (hx : Valid x) (hn : 2 ≤ n ∧ n ≤ 36)
    (HR : ∀ (w : World) (xa : Option Addr) (xc : Nat), Sl w (.slice xa (Wh.limbs x.natAbs).length xc) (Wh.limbs x.natAbs) → Calls Tryz.prog 119 #[.agg #[.int .i64 x.sign, .slice xa (Wh.limbs x.natAbs).length xc], .int .i64 n] w fun e w' => e = .returned (.string s) ∧ Below w.heap.size w w') (htab : Tab w) :
    Calls Tryz.prog 37 #[txt x, .int .i64 n] w fun e w' => e = .returned (.tuple #[.string s, .int .i64 0]) ∧ Below w.heap.size w w' := by
  have hmf : ∀ (fn : Fn) (first cap : Array Value) (w : World), (Instr.makeFunc fn first cap).run Tryz.prog w = .ok (.func fn first cap) w := fun _ _ _ _ => rfl
  have hat := fun (w : World) (pa pb : Addr) (ka : w.cell? pa = some (txt x)) (kb : w.cell? pb = some (.int .i64 n)) (htab : Tab w) (ha : pa.block < w.heap.size) (hb : pb.block < w.heap.size) => attempt_good 118 #[.pointer (some pa), .pointer (some pb)] s w (fun w => by kernel_rfl) (fun w' hb' => base_work w' pa pb x n s ((hb'.cell ha).trans ka) ((hb'.cell hb).trans kb) (Nat.lt_of_lt_of_le ha hb'.size) (Nat.lt_of_lt_of_le hb hb'.size) hx hn HR (htab.mono hb'))
  have HAT := Lib.hid hat; clear hat
  have HTB := Lib.hid htab; clear htab
  clear hx hn HR
  unfold txt at *
  go_enter Tryz.func37, Tryz.ntmps37
  go_wp2_with fail
  have hal : Below w.heap.size w ((w.alloc (.cells #[.string (str (Wh.decI x))] 9)).alloc (.cells #[.int .i64 n] 3)) := ((Below.refl _ _).alloc (Nat.le_refl _) _).alloc (by simp) _
  have b0 : ((w.alloc (.cells #[.string (str (Wh.decI x))] 9)).alloc (.cells #[.int .i64 n] 3)).cell? ⟨w.heap.size, 0, none⟩ = some (.string (str (Wh.decI x))) := by go_simp
  have b1 : ((w.alloc (.cells #[.string (str (Wh.decI x))] 9)).alloc (.cells #[.int .i64 n] 3)).cell? ⟨w.heap.size + 1, 0, none⟩ = some (.int .i64 n) := by go_simp
  refine (HAT.out _ _ _ b0 b1 (HTB.out.mono hal) (by simp; omega) (by simp)).mono ?_
  rintro e w2 ⟨rfl, hb2⟩
  have hbb := hal.trans (hb2.mono hal.size)
  clear hal b0 b1 hb2
  go_wp2
  go_ret2
  exact ⟨rfl, hbb⟩
end Go.Proofs.YteaeloeebfdodaaGreatDoor

/- WALKS: two of the chapter's examples: Root and Base. -/
namespace Go.Proofs.YteaeloeebfdodaaGreatDoor
open Go.RowKit
theorem limbs_small (z : Int) (h : z.natAbs < 1000000000) : (Wh.limbs z.natAbs).length ≤ 1 := Wh.limbs_length_le (k := 1) (by rw [Wh.R_one]; exact h)
theorem fit9 (z : Int) (h : z.natAbs < 1000000000) : Fit z := Nat.lt_of_le_of_lt (limbs_small z h) (by decide)
theorem valid9 (z : Int) (h : z.natAbs < 1000000000) : Valid z := Nat.le_trans (Wh.decN_length_le (k := 9) (by decide) (Nat.lt_of_lt_of_le h (by decide))) (by decide)
theorem valid_99 : Valid 99 := valid9 _ (by decide)
theorem dec_99 : (Wh.decN (99 : Int).natAbs).length = 2 := Wh.decN_length_eq (k := 2) (by decide) (by decide) (by decide)
theorem root_fit_99 (r : Int) (h : r = 10 ∨ r = 9) : RootFit 99 1 2 r := by
  rcases h with rfl | rfl
  · refine ⟨by decide, Nat.le_trans (limbs_small _ (by decide)) (by decide), fun j hj => ?_, fit9 _ (by decide), fit9 _ (by decide), fit9 _ (by decide), Nat.le_trans (limbs_small _ (by decide)) (by decide), fit9 _ (by decide), by decide⟩
    rcases (by omega : j = 0 ∨ j = 1) with rfl | rfl <;> exact Nat.lt_of_le_of_lt (limbs_small _ (by decide)) (by decide)
  · refine ⟨by decide, Nat.le_trans (limbs_small _ (by decide)) (by decide), fun j hj => ?_, fit9 _ (by decide), fit9 _ (by decide), fit9 _ (by decide), Nat.le_trans (limbs_small _ (by decide)) (by decide), fit9 _ (by decide), by decide⟩
    rcases (by omega : j = 0 ∨ j = 1) with rfl | rfl <;> exact Nat.lt_of_le_of_lt (limbs_small _ (by decide)) (by decide)
theorem Root_99 (w : World) (htab : Tab w) :
    Calls Tryz.prog 36 #[txt 99, .int .i64 2] w fun e w' => e = .returned (.tuple #[txt 9, .int .i64 0]) ∧ Below w.heap.size w w' := by
  refine Root_any w 99 2 9 valid_99 (by decide) (by decide) (fun w xa xc hs ht => ?_) (valid9 _ (by decide)) htab
  refine (root_from w 99 1 2 1 rfl (fun r => r = 10 ∨ r = 9) xa xc hs (by decide) (Nat.le_trans (limbs_small _ (by decide)) (by decide)) (by decide) ht (valid9 _ (by decide)) (fit9 _ (by decide)) (by rw [dec_99]; decide) (by rw [dec_99]; decide) (by decide) ?_ (.inl (by decide)) root_fit_99 ?_ ?_).mono ?_
  · intro j hj
    rcases (by omega : j = 0 ∨ j = 1) with rfl | rfl <;> exact Nat.lt_of_le_of_lt (limbs_small _ (by decide)) (by decide)
  · intro r h _
    rcases h with rfl | rfl
    · exact .inr (by decide)
    · exact .inl (by decide)
  · intro r h w va vb ha hb
    rcases h with rfl | rfl
    · exact quo_short w va vb 99 _ ha hb (Nat.le_trans (limbs_small _ (by decide)) (by decide)) (by decide)
    · exact quo_short w va vb 99 _ ha hb (Nat.le_trans (limbs_small _ (by decide)) (by decide)) (by decide)
  · rintro e w' ⟨⟨r, v', h, hle, rfl, hn⟩, hb⟩
    rcases h with rfl | rfl
    · exact absurd hle (by decide)
    · exact ⟨⟨v', rfl, hn⟩, hb⟩
theorem Base_255 (w : World) (htab : Tab w) :
    Calls Tryz.prog 37 #[txt (-255), .int .i64 16] w fun e w' => e = .returned (.tuple #[.string (str [45, 102, 102]), .int .i64 0]) ∧ Below w.heap.size w w' := by
  have hd : Wh.dg 16 255 = [15, 15] := by rw [Wh.dg_pos (by decide) (by decide), Wh.dg_pos (by decide) (by decide), show 255 / 16 / 16 = 0 by decide, Wh.dg]; simp
  have hb : baseL 16 (-255) = [45, 102, 102] := by
    unfold baseL
    rw [show (-255 : Int).natAbs = 255 from rfl, hd]
    decide
  refine Base_any w (-255) 16 _ (valid9 _ (by decide)) (by decide) (fun w xa xc hs => ?_) htab
  have h := inbase_any w (-255) 16 xa _ xc hs (by decide) (by decide) (Nat.le_trans (limbs_small _ (by decide)) (by decide)) (by rw [show (-255 : Int).natAbs = 255 from rfl, hd]; decide)
  rw [hb] at h
  exact h
end Go.Proofs.YteaeloeebfdodaaGreatDoor

/- WALKS, texts 8: attempt of []string, where the work ends well (made by tools/gen_attempt.py). -/
namespace Go.Proofs.YteaeloeebfdodaaGreatDoor
open Go.RowKit
theorem catch_idleL (p : Addr) (w : World) :
    CallsD Tryz.prog 207 #[.pointer (some p)] .returning w fun e u' w' => e = .returned (.tuple #[]) ∧ u' = .returning ∧ w' = w := by
  refine callsD_of_wpS Tryz.func207 rfl fun c₀ cs hu => ?_
  apply wpS_seq
  apply wpS_region
  simp [wpOpsS, go_sem, recoverD, hu, Tryz.ntmps207, Exit.thenS]
  apply wpS_seq
  apply wpS_region
  simp [wpOpsS, go_sem, Array.replicate, Exit.thenS]
  refine wpS_cond (t := false) (by simp [Act.eval]) ?_
  simp only [Bool.false_eq_true, if_false]
  refine wpS_of_wp (wp_skip ?_)
  cases c₀
  simp_all [bodyPostS, results, Tryz.results207]
end Go.Proofs.YteaeloeebfdodaaGreatDoor
