/- Part 38 of the proofs that laws of package whole answer true at every input and leave the input as it was, where the library's variables start as the text lays them (the texts U4, U5, K4). -/
import Derived.Test.YteaeloeebfdodaaGreatDoorX37
import Derived.Deep.OwnRows
import Derived.Test.YteaeloeebfdodaaGreatDoorX34
set_option linter.unusedVariables false
set_option linter.unusedSimpArgs false
/- WALKS: the reference's product of limbs. -/
namespace Go.Proofs.YteaeloeebfdodaaGreatDoor
open Go.RowKit Go.Proofs.Rf
/-- block b is the call's own, and has these numbers -/
structure OwnJ (w : World) (b : Nat) (l : List Nat) : Prop where
  lt : b < w.heap.size
  cell : ∀ i, i < l.length → w.cell? ⟨b, i, none⟩ = some (.int .i64 (l.getD i 0 : Nat))
  free : ∀ i, i < l.length → w.frozen? ⟨b, i, none⟩ = false
theorem OwnJ.mono {w w' : World} {b B : Nat} {l : List Nat} (h : OwnJ w b l) (hb : Below B w w') (hB : b < B) : OwnJ w' b l :=
  ⟨Nat.lt_of_lt_of_le h.lt hb.size, fun i hi => (hb.cell (p := ⟨b, i, none⟩) hB).trans (h.cell i hi), fun i hi => (hb.frozen (p := ⟨b, i, none⟩) hB).trans (h.free i hi)⟩
theorem OwnJ.set {w : World} {b : Nat} {l : List Nat} (h : OwnJ w b l) {i : Nat} (hi : i < l.length) (x : Nat) (z : Int) (hz : z = (x : Int)) : OwnJ (w.setCell ⟨b, i, none⟩ (.int .i64 z)) b (l.set i x) := by
  subst hz
  refine ⟨by simpa using h.lt, fun j hj => ?_, fun j hj => ?_⟩
  · rw [List.length_set] at hj
    by_cases e : i = j
    · subst e
      rw [World.cell?_setCell_same _ _ _ (h.cell i hi)]
      simp [List.getD, hi]
    · rw [World.cell?_setCell_other _ _ _ _ (by intro e'; exact e (congrArg Addr.off e')), h.cell j hj]
      simp [List.getD, List.getElem?_set_ne e]
  · rw [List.length_set] at hj
    rw [World.frozen?_setCell]; exact h.free j hj
theorem OwnJ.rl {w : World} {b : Nat} {l : List Nat} (h : OwnJ w b l) : RL4 w (.slice (some ⟨b, 0, none⟩) l.length l.length) l :=
  ⟨_, _, rfl, fun i hi => ⟨b, 0, rfl, h.lt, fun j hj => by rw [Nat.zero_add]; exact h.cell j hj⟩, Nat.le_refl _⟩
def zerosJ (n : Nat) : Array Value := Array.replicate n (.int .i64 0)
theorem madeCells_zeroJ (n : Nat) : madeCells #[Value.int .i64 0] n = zerosJ n := by
  apply Array.toList_inj.1
  rw [toList_madeCells_one, zerosJ, Array.toList_replicate]
theorem ownJ_make (w : World) (n : Nat) : OwnJ (w.alloc (.cells (zerosJ n) 3)) w.heap.size (List.replicate n 0) := by
  refine ⟨by simp, fun i hi => ?_, fun i hi => ?_⟩
  · simp only [List.length_replicate] at hi
    rw [World.cell?_alloc_at (hn := rfl)]
    simp [zerosJ, hi, List.getD]
  · exact World.frozen?_alloc_at (hn := rfl) ..
theorem info_int : (Tryz.prog.info? 3).map (fun i => (i.zero, i.size, i.bytes)) = some (some (.int .i64 0), 1, 8) := by kernel_rfl
theorem run_make_ints (n : Nat) (h : n ≤ 1000000) (w : World) (x : Int) (hx : x = n) :
    (Instr.makeSlice 22 (.int .i64 x) (.int .i64 x)).run Tryz.prog w = .ok (.slice (some ⟨w.heap.size, 0, none⟩) n n) (w.alloc (.cells (zerosJ n) 3)) := by
  subst hx
  have := run_make_row' (P := Tryz.prog) 22 3 (.int .i64 0) 8 Tryz.underlying22 info_int rfl .i64 .i64 n (by omega) (by omega) w
  rw [madeCells_zeroJ] at this
  exact this
theorem Il.only {w w' : World} {a : Option Addr} {n : Nat} {l : List Nat} {g : Nat} (h : Il w a n l) (ho : Only g w w') (hg : w.heap.size ≤ g) : Il w' a n l := fun i hi => by
  obtain ⟨b, off, e, hl, hc⟩ := h i hi
  exact ⟨b, off, e, Nat.lt_of_lt_of_le hl ho.size, fun j hj => (ho.cell (p := ⟨b, off + j, none⟩) (by show b ≠ g; omega) hl).trans (hc j hj)⟩
set_option maxRecDepth 100000 in
set_option maxHeartbeats 1000000 in
theorem rtimes_any (w : World) (v1 v2 : Value) (l1 l2 : List Nat) (h1 : RL4 w v1 l1) (h2 : RL4 w v2 l2) (s1 : Sm4 l1) (s2 : Sm4 l2) (hm : l1.length ≤ 40000) (hm2 : l2.length ≤ 40000) :
    Calls Tryz.prog 101 #[v1, v2] w fun e w' => (∃ v, ∃ l : List Nat, e = .returned v ∧ RL4 w' v l ∧ Sm4 l ∧ Top l ∧ val4 l = val4 l1 * val4 l2 ∧ l.length ≤ l1.length + l2.length) ∧ Below w.heap.size w w' := by
  obtain ⟨a1, c1, rfl, hc1, -⟩ := h1
  obtain ⟨a2, c2, rfl, hc2, -⟩ := h2
  have hmk := run_make_ints (l1.length + l2.length) (by omega) w ((l1.length : Int) + (l2.length : Int)) (by simp)
  have hal : Below w.heap.size w (w.alloc (.cells (zerosJ (l1.length + l2.length)) 3)) := (Below.refl _ _).alloc (Nat.le_refl _) _
  have HC1 := Lib.hid hc1; have HC2 := Lib.hid hc2; clear hc1 hc2
  have HS := Lib.hid (And.intro s1 s2); clear s1 s2
  have HI0 : Hid (TOI l1 l2 0 (List.replicate (l1.length + l2.length) 0) ∧ OwnJ (w.alloc (.cells (zerosJ (l1.length + l2.length)) 3)) w.heap.size (List.replicate (l1.length + l2.length) 0) ∧ Only w.heap.size w (w.alloc (.cells (zerosJ (l1.length + l2.length)) 3))) :=
    Lib.hid ⟨TOI.start _ _, ownJ_make _ _, Only.of_below hal⟩
  clear hal
  generalize hn : l1.length = n at *
  generalize hk : l2.length = k at *
  have HN := Lib.hid (And.intro hn hk); clear hn hk
  generalize w.alloc (.cells (zerosJ (n + k)) 3) = W0 at *
  go_enter Tryz.func101, Tryz.ntmps101
  go_wp2_with fail
  go_loopw [6] (fun iv wr => ∃ (i : Nat) (o : List Nat), i ≤ n ∧ iv = .int .i64 i ∧ Hid (TOI l1 l2 i o ∧ OwnJ wr w.heap.size o ∧ Only w.heap.size w wr)) (fun iv _ => n - (intOf iv).toNat)
  case atStart => exact ⟨0, _, Nat.zero_le _, rfl, HI0⟩
  case round =>
    clear HI0
    obtain ⟨i, o, hi, rfl, HI⟩ := hrel
    by_cases hin : i < n
    · have hd1 : decide ((i : Int) < (n : Int)) = true := by rw [decide_eq_true_iff]; omega
      have HJ0 := Lib.hid (And.intro (HI.out.1.row (by rw [HN.out.1]; exact hin)) (And.intro HI.out.2.1 HI.out.2.2))
      clear HI hi
      go_wp2_with fail
      go_loopw [7, 8] (fun cv kv wr => ∃ (j c : Nat) (o : List Nat), j ≤ k ∧ c < 10000 ∧ cv = .int .i64 c ∧ kv = .int .i64 j ∧ Hid (TII l1 l2 i j o c ∧ OwnJ wr w.heap.size o ∧ Only w.heap.size w wr)) (fun _ kv _ => k - (intOf kv).toNat)
      case atStart => exact ⟨0, 0, o, Nat.zero_le _, by decide, rfl, rfl, HJ0⟩
      case round =>
        clear HJ0
        obtain ⟨j, c, o, hj, hc, rfl, rfl, HJ⟩ := hrel
        have hol : o.length = n + k := by rw [HJ.out.1.len, HN.out.1, HN.out.2]
        by_cases hjk : j < k
        · have hd2 : decide ((j : Int) < (k : Int)) = true := by rw [decide_eq_true_iff]; omega
          have HNX := Lib.hid ((HJ.out.1.next (by rw [HN.out.2]; exact hjk)).resolve_right (fun h => h HS.out))
          obtain ⟨b1, off1, rfl, hbl1, hcell1⟩ := (HC1.out.only HJ.out.2.2 (Nat.le_refl _)) i hin
          obtain ⟨b2, off2, rfl, hbl2, hcell2⟩ := (HC2.out.only HJ.out.2.2 (Nat.le_refl _)) j hjk
          have hx := hcell1 i hin
          have hy := hcell2 j hjk
          have hij : i + j < o.length := by omega
          have ho := HJ.out.2.1.cell (i + j) hij
          have hf := HJ.out.2.1.free (i + j) hij
          have hxl : l1.getD i 0 < 10000 := HS.out.1.getD i
          have hyl : l2.getD j 0 < 10000 := HS.out.2.getD j
          have hol2 : o.getD (i + j) 0 < 10000 := HJ.out.1.sm.getD _
          have HOW := Lib.hid (fun x z hz => HJ.out.2.1.set hij x z hz)
          have HON := Lib.hid (fun v => HJ.out.2.2.setCell (i + j) v)
          clear hcell1 hcell2 HJ
          generalize l1.getD i 0 = x at *
          generalize l2.getD j 0 = y at *
          generalize o.getD (i + j) 0 = z at *
          have hpx : x * y ≤ 9999 * 9999 := Nat.mul_le_mul (by omega) (by omega)
          have hcast : ((x * y : Nat) : Int) = (x : Int) * (y : Int) := by simp
          have hp0 : 0 ≤ (x : Int) * (y : Int) ∧ (x : Int) * (y : Int) ≤ 99980001 := by omega
          obtain ⟨N, hN⟩ : ∃ N, z + x * y + c = N := ⟨_, rfl⟩
          rw [hN] at HNX
          have hNN : (z : Int) + (x : Int) * (y : Int) + (c : Int) = (N : Int) := by omega
          have hNl : N < 100000000 := by omega
          go_wp2_with fail
          go_quiet (fail)
          have hmd : (N : Int) % 10000 = ((N % 10000 : Nat) : Int) := by omega
          have hdv : (N : Int) / 10000 = ((N / 10000 : Nat) : Int) := by omega
          have HMD := Lib.hid (And.intro hmd hdv); clear hmd hdv
          have HRES : Hid (∀ m, OwnJ ((wr.drewN m).setCell ⟨w.heap.size, i + j, none⟩ (.int .i64 ((N : Int) % 10000))) w.heap.size (o.set (i + j) (N % 10000)) ∧ Only w.heap.size w ((wr.drewN m).setCell ⟨w.heap.size, i + j, none⟩ (.int .i64 ((N : Int) % 10000)))) := Lib.hid fun m => ⟨(HOW.out _ _ HMD.out.1).mono (below_drewN (w.heap.size + 1) _ m) (Nat.lt_succ_self _), (HON.out _).trans (Only.of_below (below_drewN _ _ m))⟩
          go_wp2_with fail
          refine ⟨⟨j + 1, N / 10000, _, by omega, by omega, by rw [← HMD.out.2], rfl, Lib.hid ⟨HNX.out.2.2 HS.out.1 HS.out.2, (HRES.out _).1, (HRES.out _).2⟩⟩, by simp [intOf]; omega⟩
        · obtain rfl : j = k := by omega
          have hd2 : decide ((j : Int) < (j : Int)) = false := by rw [decide_eq_false_iff_not]; omega
          have hJ1 := HJ.out.1
          rw [← HN.out.2] at hJ1
          obtain ⟨hl, hz, hT⟩ := hJ1.fin
          rw [HN.out.2] at hl hz hT
          have ho := HJ.out.2.1.cell (i + j) hl
          rw [hz] at ho hT
          have hf := HJ.out.2.1.free (i + j) hl
          have HRES := Lib.hid (And.intro hT (And.intro (HJ.out.2.1.set hl (0 + c) (0 + (c : Int)) (by omega)) (HJ.out.2.2.setCell (i + j) (.int .i64 (0 + (c : Int))))))
          rw [Nat.zero_add, Int.zero_add] at HRES
          clear hJ1 hl hz hT HJ hol
          go_wp2_with fail
          exact ⟨⟨i + 1, _, by omega, rfl, HRES⟩, by simp [intOf]; omega⟩
    · obtain rfl : i = n := by omega
      have hd1 : decide ((i : Int) < (i : Int)) = false := by rw [decide_eq_false_iff_not]; omega
      have hol : o.length = i + k := by rw [HI.out.1.len, HN.out.1, HN.out.2]
      have hT := HI.out.1
      rw [← HN.out.1] at hT
      have hF := hT.fin
      obtain ⟨a', c', e', hil, hlc⟩ := HI.out.2.1.rl
      rw [hol] at e' hil hlc
      simp only [Value.slice.injEq] at e'
      obtain ⟨rfl, _, rfl⟩ := e'
      have HT := Lib.hid (rtrim_any wr _ _ o (i + k) hil (by omega) hlc)
      have HF := Lib.hid (And.intro hF (And.intro HI.out.1.sm (HI.out.2.2.below (Nat.le_refl _) (Nat.le_refl _))))
      have HIL := Lib.hid (And.intro hil hlc)
      have HOL := Lib.hid hol
      clear hF hT hil hlc hol HI
      go_wp2_with fail
      refine HT.out.mono ?_
      rintro e w2 ⟨⟨m, rfl, hm1, hm2, hm3⟩, rfl⟩
      go_wp2
      go_ret
      have hIL := HIL.out.1
      rw [← HOL.out] at hIL
      exact ⟨⟨_, o.take m, rfl, RL4.cut hIL (by rw [HOL.out]; exact hm1) (by rw [HOL.out]; exact HIL.out.2), HF.out.2.1.take m, top_cut (by rw [HOL.out]; exact hm1) hm3, by rw [val4_zeros o m (fun j h1 h2 => hm2 j h1 (by rw [HOL.out] at h2; exact h2)), HF.out.1], by rw [List.length_take, HOL.out]; omega⟩, HF.out.2.2⟩
end Go.Proofs.YteaeloeebfdodaaGreatDoor

/- WALKS: the reference's text of limbs. -/
namespace Go.Proofs.YteaeloeebfdodaaGreatDoor
open Go.RowKit Go.Proofs.Rf
set_option maxRecDepth 100000 in
set_option maxHeartbeats 1000000 in
theorem rtext_any (w : World) (v : Value) (l : List Nat) (h : RL4 w v l) (s : Sm4 l) (hm : l.length ≤ 10000) :
    Calls Tryz.prog 181 #[v] w fun e w' => e = .returned (.string (str (Wh.decN (val4 l)))) ∧ Below w.heap.size w w' := by
  obtain ⟨a1, c1, rfl, hc1, -⟩ := h
  have HC := Lib.hid hc1; clear hc1
  have HS := Lib.hid s; clear s
  by_cases h0 : l.length = 0
  · have hl0 : l = [] := List.eq_nil_of_length_eq_zero h0
    subst hl0
    have e : str (Wh.decN (val4 [])) = ⟨#[48]⟩ := by
      show str (Wh.decN 0) = _
      rw [Wh.decN_zero]; rfl
    rw [e]
    go_enter Tryz.func181, Tryz.ntmps181
    go_wp2
    go_ret
    exact ⟨rfl, Below.refl _ _⟩
  · have hne : ((l.length : Int) == 0) = false := by rw [beq_eq_false_iff_ne]; omega
    have HI0 : Hid (TXI (val4 (l.take 0)) (4 * 0) [] ∧ Below w.heap.size w w) := Lib.hid ⟨by simpa [val4] using TXI.nil, Below.refl _ _⟩
    have HN : Hid (l.take l.length = l) := Lib.hid List.take_length
    generalize hn : l.length = n at *
    have HLN := Lib.hid hn; clear hn
    go_enter Tryz.func181, Tryz.ntmps181
    go_wp2_with fail
    go_loopw [3, 4] (fun sv iv wr => ∃ (i : Nat) (D : List UInt8), i ≤ n ∧ sv = .string (str D) ∧ iv = .int .i64 i ∧ Hid (TXI (val4 (l.take i)) (4 * i) D ∧ Below w.heap.size w wr)) (fun _ iv _ => n - (intOf iv).toNat)
    case atStart => exact ⟨0, [], Nat.zero_le _, rfl, rfl, HI0⟩
    case round =>
      clear HI0
      obtain ⟨i, D, hi, rfl, rfl, HI⟩ := hrel
      by_cases hin : i < n
      · have hd1 : decide ((i : Int) < (n : Int)) = true := by rw [decide_eq_true_iff]; omega
        obtain ⟨b1, off1, rfl, hbl1, hcell1⟩ := HC.out i hin
        have hx := (HI.out.2.cell (p := ⟨b1, off1 + i, none⟩) hbl1).trans (hcell1 i hin)
        have hxl : l.getD i 0 < 10000 := HS.out.getD i
        clear hcell1
        obtain ⟨x, hxx⟩ : ∃ x, x = l.getD i 0 := ⟨_, rfl⟩
        rw [← hxx] at hx hxl
        have HX := Lib.hid hxx; clear hxx
        have HJ0 : Hid (TXI (val4 (l.take i) + 10000 ^ i * (x % 10 ^ 0)) (4 * i + 0) D ∧ Below w.heap.size w wr) := Lib.hid ⟨by simpa [Nat.mod_one] using HI.out.1, HI.out.2⟩
        clear HI
        go_wp2_with fail
        go_loopw [3, 5, 6] (fun sv nv kv wr => ∃ (j : Nat) (D : List UInt8), j ≤ 4 ∧ sv = .string (str D) ∧ nv = .int .i64 (x / 10 ^ j : Nat) ∧ kv = .int .i64 j ∧ Hid (TXI (val4 (l.take i) + 10000 ^ i * (x % 10 ^ j)) (4 * i + j) D ∧ Below w.heap.size w wr)) (fun _ _ kv _ => 4 - (intOf kv).toNat)
        case atStart => exact ⟨0, D, Nat.zero_le _, rfl, by simp, rfl, HJ0⟩
        case round =>
          clear HJ0
          obtain ⟨j, D, hj, rfl, rfl, rfl, HJ⟩ := hrel
          by_cases hj4 : j < 4
          · have hd2 : decide ((j : Int) < 4) = true := by rw [decide_eq_true_iff]; omega
            have hN := HJ.out.1.cons (d := x / 10 ^ j % 10) (Nat.mod_lt _ (by decide))
            rw [limb4_step] at hN
            have hq1 : x / 10 ^ (j + 1) = x / 10 ^ j / 10 := by rw [Nat.pow_succ, Nat.div_div_eq_div_mul]
            have hyl : x / 10 ^ j < 10000 := Nat.lt_of_le_of_lt (Nat.div_le_self _ _) hxl
            have HN2 := Lib.hid (And.intro hN hq1)
            clear hN hq1
            generalize x / 10 ^ j = y at *
            have hr : y % 10 < 10 := Nat.mod_lt _ (by decide)
            have HDB := Lib.hid fun w : World => digit_block w (y % 10) hr 5 (UInt8.ofNat (48 + y % 10)) rfl
            have hDl : D.length = 4 * i + j := HJ.out.1.len
            have q1 : (y : Int) / 10 = ((y / 10 : Nat) : Int) := by omega
            have q2 : (y : Int) % 10 = ((y % 10 : Nat) : Int) := by omega
            have hap : str [UInt8.ofNat (48 + y % 10)] ++ str D = str (UInt8.ofNat (48 + y % 10) :: D) := str_app _ _
            have hsz : (str [UInt8.ofNat (48 + y % 10)]).size = 1 := rfl
            have hsD : (str D).size ≤ 100000 := by show D.length ≤ _; omega
            have hno : ¬ (9223372036854775807 < (str [UInt8.ofNat (48 + y % 10)]).size + (str D).size) := by omega
            have HAP := Lib.hid hap; clear hap
            have HB := Lib.hid HJ.out.2
            clear HJ hsz hsD hDl
            generalize UInt8.ofNat (48 + y % 10) = ch at *
            generalize y / 10 = m at *
            generalize y % 10 = r at *
            have HQ := Lib.hid q1
            go_wp2_with fail
            rw [run_string_back (HDB.out _) 1 1 rfl]
            go_wp2_with fail
            refine ⟨⟨j + 1, ch :: D, by omega, by rw [HAP.out], by rw [HN2.out.2], rfl, Lib.hid ⟨HN2.out.1, HB.out.trans ((Below.refl _ _).alloc HB.out.size _)⟩⟩, by simp [intOf]; omega⟩
          · obtain rfl : j = 4 := by omega
            have hT := HJ.out.1
            rw [show x % 10 ^ 4 = x from Nat.mod_eq_of_lt hxl] at hT
            have e := val4_take_succ l i
            rw [← HX.out] at e
            rw [← e] at hT
            have HT := Lib.hid (And.intro hT HJ.out.2)
            clear hT e HJ
            go_wp2_with fail
            exact ⟨⟨i + 1, D, by omega, rfl, rfl, HT⟩, by simp [intOf]; omega⟩
      · obtain rfl : i = n := by omega
        have hd1 : decide ((i : Int) < (i : Int)) = false := by rw [decide_eq_false_iff_not]; omega
        have hT := HI.out.1
        rw [HN.out] at hT
        have hDl : D.length = 4 * i := hT.len
        have HK0 : Hid (TXI (val4 l) D.length D) := Lib.hid (by rw [hDl]; exact hT)
        have hD0 : D ≠ [] := by intro e; rw [e] at hDl; simp at hDl; omega
        have hDm : D.length ≤ 100000 := by omega
        have HB := Lib.hid HI.out.2
        clear hT hDl HI
        go_wp2_with fail
        go_loopw [3] (fun sv wx => ∃ D : List UInt8, sv = .string (str D) ∧ wx = wr ∧ D ≠ [] ∧ D.length ≤ 100000 ∧ Hid (TXI (val4 l) D.length D)) (fun sv _ => szOf' sv)
        case atStart => exact ⟨D, rfl, rfl, hD0, hDm, HK0⟩
        case round =>
          clear HK0 hD0 hDm
          obtain ⟨E, rfl, rfl, hE, hEm, HE⟩ := hrel
          have hs : (str E).size = E.length := rfl
          match E, hE with
          | [c], _ =>
            have HF := Lib.hid (TXI.fin (D := []) HE.out (.inr rfl))
            have h1 : decide ((1 : Int) < ((str [c]).size : Nat)) = false := rfl
            clear hs HE
            go_wp2_with fail
            go_ret
            exact ⟨by rw [← HF.out]; rfl, HB.out⟩
          | c :: c2 :: r, _ =>
            have hs2 : (str (c :: c2 :: r)).size = r.length + 2 := rfl
            have hlt' : 0 < (str (c :: c2 :: r)).size := by rw [hs2]; omega
            obtain ⟨cn, hx, hcv⟩ : ∃ cn : Nat, (((str (c :: c2 :: r))[0]'hlt').toNat : Int) = (cn : Int) ∧ c.toNat = cn := ⟨_, by rw [str_get _ 0 hlt']; rfl, rfl⟩
            have h1 : decide ((1 : Int) < ((str (c :: c2 :: r)).size : Nat)) = true := by rw [decide_eq_true_iff, hs2]; omega
            have hex : (str (c :: c2 :: r)).extract 1 (str (c :: c2 :: r)).size = str (c2 :: r) := eq_str (by rw [Lib.extract_data, str_data, hs2]; simp)
            have hrl : r.length + 2 ≤ 100000 := by simpa using hEm
            by_cases hc : c.toNat = 48
            · have hcn : ((cn : Int) == 48) = true := by rw [beq_iff_eq]; omega
              have HN2 := Lib.hid (TXI.tail (by simpa using HE.out) hc)
              clear hs hE hEm HE
              go_wp2_with fail
              rw [hs2] at hex
              exact ⟨⟨c2 :: r, by rw [hex], trivial, by simp, by simp; omega, Lib.hid (by simpa using HN2.out)⟩, by first | (rw [hex]; show r.length + 1 < r.length + 2; omega) | (show r.length + 1 < r.length + 2; omega)⟩
            · have hcn : ((cn : Int) == 48) = false := by rw [beq_eq_false_iff_ne]; omega
              have HF := Lib.hid (TXI.fin (by simpa using HE.out) (.inl hc))
              clear hs hE hEm HE
              go_wp2_with fail
              go_ret
              exact ⟨by rw [← HF.out]; rfl, HB.out⟩
end Go.Proofs.YteaeloeebfdodaaGreatDoor

/- WALKS: the parts of the statement on primes: the text of a number under 1,000,000 is read back; Factor of it. -/
namespace Go.Proofs.YteaeloeebfdodaaGreatDoor
open Go.RowKit Go.Proofs.Rf
end Go.Proofs.YteaeloeebfdodaaGreatDoor
