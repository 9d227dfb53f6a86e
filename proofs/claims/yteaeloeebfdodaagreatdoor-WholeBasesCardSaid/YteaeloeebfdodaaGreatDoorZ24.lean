/- Part 24 of the proofs that laws of package whole answer true at every input and leave the input as it was, where the library's variables start as the text lays them (the texts U4, U5, K4, U6, U7, U8, U9). -/
import Derived.Test.YteaeloeebfdodaaGreatDoorZ23
import Derived.Deep.OwnRows
import Derived.Test.YteaeloeebfdodaaGreatDoorZ22
import Derived.Test.YteaeloeebfdodaaGreatDoorZ10
set_option linter.unusedVariables false
set_option linter.unusedSimpArgs false
namespace Go.Proofs.YteaeloeebfdodaaGreatDoor
open Go.RowKit Go.Proofs.Rf
structure OwnJ (w : World) (b : Nat) (l : List Nat) : Prop where
  lt : b < w.heap.size
  cell : ∀ i, i < l.length → w.cell? ⟨b, i, none⟩ = some (.int .i64 (l.getD i 0 : Nat))
  free : ∀ i, i < l.length → w.frozen? ⟨b, i, none⟩ = false
theorem OwnJ.mono {w w' : World} {b B : Nat} {l : List Nat} (h : OwnJ w b l) (hb : Below B w w') (hB : b < B) : OwnJ w' b l :=
  ⟨Nat.lt_of_lt_of_le h.lt hb.size, fun i hi => (hb.cell (p := ⟨b, i, none⟩) hB).trans (h.cell i hi), fun i hi => (hb.frozen (p := ⟨b, i, none⟩) hB).trans (h.free i hi)⟩
theorem OwnJ.set {w : World} {b : Nat} {l : List Nat} (h : OwnJ w b l) {i : Nat} (hi : i < l.length) (x : Nat) (z : Int) (hz : z = (x : Int)) : OwnJ (w.setCell ⟨b, i, none⟩ (.int .i64 z)) b (l.set i x) := by
  subst hz
  refine ⟨by simpa using h.lt, fun j hj => ?_, fun j hj => ?_⟩
  · rw [List.length_set] at hj
    by_cases e : i = j
    · subst e
      rw [World.cell?_setCell_same _ _ _ (h.cell i hi)]
      simp [List.getD, hi]
    · rw [World.cell?_setCell_other _ _ _ _ (by intro e'; exact e (congrArg Addr.off e')), h.cell j hj]
      simp [List.getD, List.getElem?_set_ne e]
  · rw [List.length_set] at hj
    rw [World.frozen?_setCell]; exact h.free j hj
theorem OwnJ.rl {w : World} {b : Nat} {l : List Nat} (h : OwnJ w b l) : RL4 w (.slice (some ⟨b, 0, none⟩) l.length l.length) l :=
  ⟨_, _, rfl, fun i hi => ⟨b, 0, rfl, h.lt, fun j hj => by rw [Nat.zero_add]; exact h.cell j hj⟩, Nat.le_refl _⟩
def zerosJ (n : Nat) : Array Value := Array.replicate n (.int .i64 0)
theorem madeCells_zeroJ (n : Nat) : madeCells #[Value.int .i64 0] n = zerosJ n := by
  apply Array.toList_inj.1
  rw [toList_madeCells_one, zerosJ, Array.toList_replicate]
theorem ownJ_make (w : World) (n : Nat) : OwnJ (w.alloc (.cells (zerosJ n) 3)) w.heap.size (List.replicate n 0) := by
  refine ⟨by simp, fun i hi => ?_, fun i hi => ?_⟩
  · simp only [List.length_replicate] at hi
    rw [World.cell?_alloc_at (hn := rfl)]
    simp [zerosJ, hi, List.getD]
  · exact World.frozen?_alloc_at (hn := rfl) ..
theorem info_int : (Tryz.prog.info? 3).map (fun i => (i.zero, i.size, i.bytes)) = some (some (.int .i64 0), 1, 8) := by kernel_rfl
theorem run_make_ints (n : Nat) (h : n ≤ 1000000) (w : World) (x : Int) (hx : x = n) :
    (Instr.makeSlice 22 (.int .i64 x) (.int .i64 x)).run Tryz.prog w = .ok (.slice (some ⟨w.heap.size, 0, none⟩) n n) (w.alloc (.cells (zerosJ n) 3)) := by
  subst hx
  have := run_make_row' (P := Tryz.prog) 22 3 (.int .i64 0) 8 Tryz.underlying22 info_int rfl .i64 .i64 n (by omega) (by omega) w
  rw [madeCells_zeroJ] at this
  exact this
theorem Il.only {w w' : World} {a : Option Addr} {n : Nat} {l : List Nat} {g : Nat} (h : Il w a n l) (ho : Only g w w') (hg : w.heap.size ≤ g) : Il w' a n l := fun i hi => by
  obtain ⟨b, off, e, hl, hc⟩ := h i hi
  exact ⟨b, off, e, Nat.lt_of_lt_of_le hl ho.size, fun j hj => (ho.cell (p := ⟨b, off + j, none⟩) (by show b ≠ g; omega) hl).trans (hc j hj)⟩
set_option maxRecDepth 100000 in
set_option maxHeartbeats 1000000 in
theorem rtimes_any (w : World) (v1 v2 : Value) (l1 l2 : List Nat) (h1 : RL4 w v1 l1) (h2 : RL4 w v2 l2) (s1 : Sm4 l1) (s2 : Sm4 l2) (hm : l1.length ≤ 40000) (hm2 : l2.length ≤ 40000) :
    Calls Tryz.prog 101 #[v1, v2] w fun e w' => (∃ v, ∃ l : List Nat, e = .returned v ∧ RL4 w' v l ∧ Sm4 l ∧ Top l ∧ val4 l = val4 l1 * val4 l2 ∧ l.length ≤ l1.length + l2.length) ∧ Below w.heap.size w w' := by
  obtain ⟨a1, c1, rfl, hc1, -⟩ := h1
  obtain ⟨a2, c2, rfl, hc2, -⟩ := h2
  have hmk := run_make_ints (l1.length + l2.length) (by omega) w ((l1.length : Int) + (l2.length : Int)) (by simp)
  have hal : Below w.heap.size w (w.alloc (.cells (zerosJ (l1.length + l2.length)) 3)) := (Below.refl _ _).alloc (Nat.le_refl _) _
  have HC1 := Lib.hid hc1; have HC2 := Lib.hid hc2; clear hc1 hc2
  have HS := Lib.hid (And.intro s1 s2); clear s1 s2
  have HI0 : Hid (TOI l1 l2 0 (List.replicate (l1.length + l2.length) 0) ∧ OwnJ (w.alloc (.cells (zerosJ (l1.length + l2.length)) 3)) w.heap.size (List.replicate (l1.length + l2.length) 0) ∧ Only w.heap.size w (w.alloc (.cells (zerosJ (l1.length + l2.length)) 3))) :=
    Lib.hid ⟨TOI.start _ _, ownJ_make _ _, Only.of_below hal⟩
  clear hal
  generalize hn : l1.length = n at *
  generalize hk : l2.length = k at *
  have HN := Lib.hid (And.intro hn hk); clear hn hk
  generalize w.alloc (.cells (zerosJ (n + k)) 3) = W0 at *
  go_enter Tryz.func101, Tryz.ntmps101
  go_wp2_with fail
  go_loopw [6] (fun iv wr => ∃ (i : Nat) (o : List Nat), i ≤ n ∧ iv = .int .i64 i ∧ Hid (TOI l1 l2 i o ∧ OwnJ wr w.heap.size o ∧ Only w.heap.size w wr)) (fun iv _ => n - (intOf iv).toNat)
  case atStart => exact ⟨0, _, Nat.zero_le _, rfl, HI0⟩
  case round =>
    clear HI0
    obtain ⟨i, o, hi, rfl, HI⟩ := hrel
    by_cases hin : i < n
    · have hd1 : decide ((i : Int) < (n : Int)) = true := by rw [decide_eq_true_iff]; omega
      have HJ0 := Lib.hid (And.intro (HI.out.1.row (by rw [HN.out.1]; exact hin)) (And.intro HI.out.2.1 HI.out.2.2))
      clear HI hi
      go_wp2_with fail
      go_loopw [7, 8] (fun cv kv wr => ∃ (j c : Nat) (o : List Nat), j ≤ k ∧ c < 10000 ∧ cv = .int .i64 c ∧ kv = .int .i64 j ∧ Hid (TII l1 l2 i j o c ∧ OwnJ wr w.heap.size o ∧ Only w.heap.size w wr)) (fun _ kv _ => k - (intOf kv).toNat)
      case atStart => exact ⟨0, 0, o, Nat.zero_le _, by decide, rfl, rfl, HJ0⟩
      case round =>
        clear HJ0
        obtain ⟨j, c, o, hj, hc, rfl, rfl, HJ⟩ := hrel
        have hol : o.length = n + k := by rw [HJ.out.1.len, HN.out.1, HN.out.2]
        by_cases hjk : j < k
        · have hd2 : decide ((j : Int) < (k : Int)) = true := by rw [decide_eq_true_iff]; omega
          have HNX := Lib.hid ((HJ.out.1.next (by rw [HN.out.2]; exact hjk)).resolve_right (fun h => h HS.out))
          obtain ⟨b1, off1, rfl, hbl1, hcell1⟩ := (HC1.out.only HJ.out.2.2 (Nat.le_refl _)) i hin
          obtain ⟨b2, off2, rfl, hbl2, hcell2⟩ := (HC2.out.only HJ.out.2.2 (Nat.le_refl _)) j hjk
          have hx := hcell1 i hin
          have hy := hcell2 j hjk
          have hij : i + j < o.length := by omega
          have ho := HJ.out.2.1.cell (i + j) hij
          have hf := HJ.out.2.1.free (i + j) hij
          have hxl : l1.getD i 0 < 10000 := HS.out.1.getD i
          have hyl : l2.getD j 0 < 10000 := HS.out.2.getD j
          have hol2 : o.getD (i + j) 0 < 10000 := HJ.out.1.sm.getD _
          have HOW := Lib.hid (fun x z hz => HJ.out.2.1.set hij x z hz)
          have HON := Lib.hid (fun v => HJ.out.2.2.setCell (i + j) v)
          clear hcell1 hcell2 HJ
          generalize l1.getD i 0 = x at *
          generalize l2.getD j 0 = y at *
          generalize o.getD (i + j) 0 = z at *
          have hpx : x * y ≤ 9999 * 9999 := Nat.mul_le_mul (by omega) (by omega)
          have hcast : ((x * y : Nat) : Int) = (x : Int) * (y : Int) := by simp
          have hp0 : 0 ≤ (x : Int) * (y : Int) ∧ (x : Int) * (y : Int) ≤ 99980001 := by omega
          obtain ⟨N, hN⟩ : ∃ N, z + x * y + c = N := ⟨_, rfl⟩
          rw [hN] at HNX
          have hNN : (z : Int) + (x : Int) * (y : Int) + (c : Int) = (N : Int) := by omega
          have hNl : N < 100000000 := by omega
          go_wp2_with fail
          go_quiet (fail)
          have hmd : (N : Int) % 10000 = ((N % 10000 : Nat) : Int) := by omega
          have hdv : (N : Int) / 10000 = ((N / 10000 : Nat) : Int) := by omega
          have HMD := Lib.hid (And.intro hmd hdv); clear hmd hdv
          have HRES : Hid (∀ m, OwnJ ((wr.drewN m).setCell ⟨w.heap.size, i + j, none⟩ (.int .i64 ((N : Int) % 10000))) w.heap.size (o.set (i + j) (N % 10000)) ∧ Only w.heap.size w ((wr.drewN m).setCell ⟨w.heap.size, i + j, none⟩ (.int .i64 ((N : Int) % 10000)))) := Lib.hid fun m => ⟨(HOW.out _ _ HMD.out.1).mono (below_drewN (w.heap.size + 1) _ m) (Nat.lt_succ_self _), (HON.out _).trans (Only.of_below (below_drewN _ _ m))⟩
          go_wp2_with fail
          refine ⟨⟨j + 1, N / 10000, _, by omega, by omega, by rw [← HMD.out.2], rfl, Lib.hid ⟨HNX.out.2.2 HS.out.1 HS.out.2, (HRES.out _).1, (HRES.out _).2⟩⟩, by simp [intOf]; omega⟩
        · obtain rfl : j = k := by omega
          have hd2 : decide ((j : Int) < (j : Int)) = false := by rw [decide_eq_false_iff_not]; omega
          have hJ1 := HJ.out.1
          rw [← HN.out.2] at hJ1
          obtain ⟨hl, hz, hT⟩ := hJ1.fin
          rw [HN.out.2] at hl hz hT
          have ho := HJ.out.2.1.cell (i + j) hl
          rw [hz] at ho hT
          have hf := HJ.out.2.1.free (i + j) hl
          have HRES := Lib.hid (And.intro hT (And.intro (HJ.out.2.1.set hl (0 + c) (0 + (c : Int)) (by omega)) (HJ.out.2.2.setCell (i + j) (.int .i64 (0 + (c : Int))))))
          rw [Nat.zero_add, Int.zero_add] at HRES
          clear hJ1 hl hz hT HJ hol
          go_wp2_with fail
          exact ⟨⟨i + 1, _, by omega, rfl, HRES⟩, by simp [intOf]; omega⟩
    · obtain rfl : i = n := by omega
      have hd1 : decide ((i : Int) < (i : Int)) = false := by rw [decide_eq_false_iff_not]; omega
      have hol : o.length = i + k := by rw [HI.out.1.len, HN.out.1, HN.out.2]
      have hT := HI.out.1
      rw [← HN.out.1] at hT
      have hF := hT.fin
      obtain ⟨a', c', e', hil, hlc⟩ := HI.out.2.1.rl
      rw [hol] at e' hil hlc
      simp only [Value.slice.injEq] at e'
      obtain ⟨rfl, _, rfl⟩ := e'
      have HT := Lib.hid (rtrim_any wr _ _ o (i + k) hil (by omega) hlc)
      have HF := Lib.hid (And.intro hF (And.intro HI.out.1.sm (HI.out.2.2.below (Nat.le_refl _) (Nat.le_refl _))))
      have HIL := Lib.hid (And.intro hil hlc)
      have HOL := Lib.hid hol
      clear hF hT hil hlc hol HI
      go_wp2_with fail
      refine HT.out.mono ?_
      rintro e w2 ⟨⟨m, rfl, hm1, hm2, hm3⟩, rfl⟩
      go_wp2
      go_ret
      have hIL := HIL.out.1
      rw [← HOL.out] at hIL
      exact ⟨⟨_, o.take m, rfl, RL4.cut hIL (by rw [HOL.out]; exact hm1) (by rw [HOL.out]; exact HIL.out.2), HF.out.2.1.take m, top_cut (by rw [HOL.out]; exact hm1) hm3, by rw [val4_zeros o m (fun j h1 h2 => hm2 j h1 (by rw [HOL.out] at h2; exact h2)), HF.out.1], by rw [List.length_take, HOL.out]; omega⟩, HF.out.2.2⟩
end Go.Proofs.YteaeloeebfdodaaGreatDoor

namespace Go.Proofs.YteaeloeebfdodaaGreatDoor
open Go.RowKit Go.Proofs.Rf
set_option maxRecDepth 100000 in
set_option maxHeartbeats 1000000 in
theorem rtext_any (w : World) (v : Value) (l : List Nat) (h : RL4 w v l) (s : Sm4 l) (hm : l.length ≤ 10000) :
    Calls Tryz.prog 181 #[v] w fun e w' => e = .returned (.string (str (Wh.decN (val4 l)))) ∧ Below w.heap.size w w' := by
  obtain ⟨a1, c1, rfl, hc1, -⟩ := h
  have HC := Lib.hid hc1; clear hc1
  have HS := Lib.hid s; clear s
  by_cases h0 : l.length = 0
  · have hl0 : l = [] := List.eq_nil_of_length_eq_zero h0
    subst hl0
    have e : str (Wh.decN (val4 [])) = ⟨#[48]⟩ := by
      show str (Wh.decN 0) = _
      rw [Wh.decN_zero]; rfl
    rw [e]
    go_enter Tryz.func181, Tryz.ntmps181
    go_wp2
    go_ret
    exact ⟨rfl, Below.refl _ _⟩
  · have hne : ((l.length : Int) == 0) = false := by rw [beq_eq_false_iff_ne]; omega
    have HI0 : Hid (TXI (val4 (l.take 0)) (4 * 0) [] ∧ Below w.heap.size w w) := Lib.hid ⟨by simpa [val4] using TXI.nil, Below.refl _ _⟩
    have HN : Hid (l.take l.length = l) := Lib.hid List.take_length
    generalize hn : l.length = n at *
    have HLN := Lib.hid hn; clear hn
    go_enter Tryz.func181, Tryz.ntmps181
    go_wp2_with fail
    go_loopw [3, 4] (fun sv iv wr => ∃ (i : Nat) (D : List UInt8), i ≤ n ∧ sv = .string (str D) ∧ iv = .int .i64 i ∧ Hid (TXI (val4 (l.take i)) (4 * i) D ∧ Below w.heap.size w wr)) (fun _ iv _ => n - (intOf iv).toNat)
    case atStart => exact ⟨0, [], Nat.zero_le _, rfl, rfl, HI0⟩
    case round =>
      clear HI0
      obtain ⟨i, D, hi, rfl, rfl, HI⟩ := hrel
      by_cases hin : i < n
      · have hd1 : decide ((i : Int) < (n : Int)) = true := by rw [decide_eq_true_iff]; omega
        obtain ⟨b1, off1, rfl, hbl1, hcell1⟩ := HC.out i hin
        have hx := (HI.out.2.cell (p := ⟨b1, off1 + i, none⟩) hbl1).trans (hcell1 i hin)
        have hxl : l.getD i 0 < 10000 := HS.out.getD i
        clear hcell1
        obtain ⟨x, hxx⟩ : ∃ x, x = l.getD i 0 := ⟨_, rfl⟩
        rw [← hxx] at hx hxl
        have HX := Lib.hid hxx; clear hxx
        have HJ0 : Hid (TXI (val4 (l.take i) + 10000 ^ i * (x % 10 ^ 0)) (4 * i + 0) D ∧ Below w.heap.size w wr) := Lib.hid ⟨by simpa [Nat.mod_one] using HI.out.1, HI.out.2⟩
        clear HI
        go_wp2_with fail
        go_loopw [3, 5, 6] (fun sv nv kv wr => ∃ (j : Nat) (D : List UInt8), j ≤ 4 ∧ sv = .string (str D) ∧ nv = .int .i64 (x / 10 ^ j : Nat) ∧ kv = .int .i64 j ∧ Hid (TXI (val4 (l.take i) + 10000 ^ i * (x % 10 ^ j)) (4 * i + j) D ∧ Below w.heap.size w wr)) (fun _ _ kv _ => 4 - (intOf kv).toNat)
        case atStart => exact ⟨0, D, Nat.zero_le _, rfl, by simp, rfl, HJ0⟩
        case round =>
          clear HJ0
          obtain ⟨j, D, hj, rfl, rfl, rfl, HJ⟩ := hrel
          by_cases hj4 : j < 4
          · have hd2 : decide ((j : Int) < 4) = true := by rw [decide_eq_true_iff]; omega
            have hN := HJ.out.1.cons (d := x / 10 ^ j % 10) (Nat.mod_lt _ (by decide))
            rw [limb4_step] at hN
            have hq1 : x / 10 ^ (j + 1) = x / 10 ^ j / 10 := by rw [Nat.pow_succ, Nat.div_div_eq_div_mul]
            have hyl : x / 10 ^ j < 10000 := Nat.lt_of_le_of_lt (Nat.div_le_self _ _) hxl
            have HN2 := Lib.hid (And.intro hN hq1)
            clear hN hq1
            generalize x / 10 ^ j = y at *
            have hr : y % 10 < 10 := Nat.mod_lt _ (by decide)
            have HDB := Lib.hid fun w : World => digit_block w (y % 10) hr 5 (UInt8.ofNat (48 + y % 10)) rfl
            have hDl : D.length = 4 * i + j := HJ.out.1.len
            have q1 : (y : Int) / 10 = ((y / 10 : Nat) : Int) := by omega
            have q2 : (y : Int) % 10 = ((y % 10 : Nat) : Int) := by omega
            have hap : str [UInt8.ofNat (48 + y % 10)] ++ str D = str (UInt8.ofNat (48 + y % 10) :: D) := str_app _ _
            have hsz : (str [UInt8.ofNat (48 + y % 10)]).size = 1 := rfl
            have hsD : (str D).size ≤ 100000 := by show D.length ≤ _; omega
            have hno : ¬ (9223372036854775807 < (str [UInt8.ofNat (48 + y % 10)]).size + (str D).size) := by omega
            have HAP := Lib.hid hap; clear hap
            have HB := Lib.hid HJ.out.2
            clear HJ hsz hsD hDl
            generalize UInt8.ofNat (48 + y % 10) = ch at *
            generalize y / 10 = m at *
            generalize y % 10 = r at *
            have HQ := Lib.hid q1
            go_wp2_with fail
            rw [run_string_back (HDB.out _) 1 1 rfl]
            go_wp2_with fail
            refine ⟨⟨j + 1, ch :: D, by omega, by rw [HAP.out], by rw [HN2.out.2], rfl, Lib.hid ⟨HN2.out.1, HB.out.trans ((Below.refl _ _).alloc HB.out.size _)⟩⟩, by simp [intOf]; omega⟩
          · obtain rfl : j = 4 := by omega
            have hT := HJ.out.1
            rw [show x % 10 ^ 4 = x from Nat.mod_eq_of_lt hxl] at hT
            have e := val4_take_succ l i
            rw [← HX.out] at e
            rw [← e] at hT
            have HT := Lib.hid (And.intro hT HJ.out.2)
            clear hT e HJ
            go_wp2_with fail
            exact ⟨⟨i + 1, D, by omega, rfl, rfl, HT⟩, by simp [intOf]; omega⟩
      · obtain rfl : i = n := by omega
        have hd1 : decide ((i : Int) < (i : Int)) = false := by rw [decide_eq_false_iff_not]; omega
        have hT := HI.out.1
        rw [HN.out] at hT
        have hDl : D.length = 4 * i := hT.len
        have HK0 : Hid (TXI (val4 l) D.length D) := Lib.hid (by rw [hDl]; exact hT)
        have hD0 : D ≠ [] := by intro e; rw [e] at hDl; simp at hDl; omega
        have hDm : D.length ≤ 100000 := by omega
        have HB := Lib.hid HI.out.2
        clear hT hDl HI
        go_wp2_with fail
        go_loopw [3] (fun sv wx => ∃ D : List UInt8, sv = .string (str D) ∧ wx = wr ∧ D ≠ [] ∧ D.length ≤ 100000 ∧ Hid (TXI (val4 l) D.length D)) (fun sv _ => szOf' sv)
        case atStart => exact ⟨D, rfl, rfl, hD0, hDm, HK0⟩
        case round =>
          clear HK0 hD0 hDm
          obtain ⟨E, rfl, rfl, hE, hEm, HE⟩ := hrel
          have hs : (str E).size = E.length := rfl
          match E, hE with
          | [c], _ =>
            have HF := Lib.hid (TXI.fin (D := []) HE.out (.inr rfl))
            have h1 : decide ((1 : Int) < ((str [c]).size : Nat)) = false := rfl
            clear hs HE
            go_wp2_with fail
            go_ret
            exact ⟨by rw [← HF.out]; rfl, HB.out⟩
          | c :: c2 :: r, _ =>
            have hs2 : (str (c :: c2 :: r)).size = r.length + 2 := rfl
            have hlt' : 0 < (str (c :: c2 :: r)).size := by rw [hs2]; omega
            obtain ⟨cn, hx, hcv⟩ : ∃ cn : Nat, (((str (c :: c2 :: r))[0]'hlt').toNat : Int) = (cn : Int) ∧ c.toNat = cn := ⟨_, by rw [str_get _ 0 hlt']; rfl, rfl⟩
            have h1 : decide ((1 : Int) < ((str (c :: c2 :: r)).size : Nat)) = true := by rw [decide_eq_true_iff, hs2]; omega
            have hex : (str (c :: c2 :: r)).extract 1 (str (c :: c2 :: r)).size = str (c2 :: r) := eq_str (by rw [Lib.extract_data, str_data, hs2]; simp)
            have hrl : r.length + 2 ≤ 100000 := by simpa using hEm
            by_cases hc : c.toNat = 48
            · have hcn : ((cn : Int) == 48) = true := by rw [beq_iff_eq]; omega
              have HN2 := Lib.hid (TXI.tail (by simpa using HE.out) hc)
              clear hs hE hEm HE
              go_wp2_with fail
              rw [hs2] at hex
              exact ⟨⟨c2 :: r, by rw [hex], trivial, by simp, by simp; omega, Lib.hid (by simpa using HN2.out)⟩, by first | (rw [hex]; show r.length + 1 < r.length + 2; omega) | (show r.length + 1 < r.length + 2; omega)⟩
            · have hcn : ((cn : Int) == 48) = false := by rw [beq_eq_false_iff_ne]; omega
              have HF := Lib.hid (TXI.fin (by simpa using HE.out) (.inl hc))
              clear hs hE hEm HE
              go_wp2_with fail
              go_ret
              exact ⟨by rw [← HF.out]; rfl, HB.out⟩
end Go.Proofs.YteaeloeebfdodaaGreatDoor

namespace Go.Proofs.YteaeloeebfdodaaGreatDoor
open Go.RowKit Go.Proofs.Rf
theorem decL_of (p : Nat) (h : 1 ≤ p ∧ p ≤ 1000000) : DecL (Wh.decN p) :=
  ⟨Wh.decN_ne p, Wh.decN_digits p, .inl (Wh.decN_head p h.1), Nat.le_trans (Wh.decN_length_le (k := 7) (by decide) (by have : (10 : Nat) ^ 7 = 10000000 := rfl; omega)) (by decide)⟩
end Go.Proofs.YteaeloeebfdodaaGreatDoor

namespace Go.Proofs.YteaeloeebfdodaaGreatDoor
open Go.RowKit Go.Proofs.Rf
theorem decL_lt (n : Nat) (h : n < 10 ^ 15) : DecL (Wh.decN n) := by
  refine ⟨Wh.decN_ne n, Wh.decN_digits n, ?_, Wh.decN_length_le (by decide) h⟩
  by_cases h0 : n = 0
  · subst h0; right; rw [Wh.decN_zero]; rfl
  · exact .inl (Wh.decN_head n (by omega))
theorem decI_neg {x : Int} (h : x < 0) : Wh.decI x = 45 :: Wh.decN x.natAbs := by unfold Wh.decI; rw [if_pos h]
theorem decI_pos {x : Int} (h : ¬ x < 0) : Wh.decI x = Wh.decN x.natAbs := by unfold Wh.decI; rw [if_neg h]
theorem decI_first (x : Int) : ∃ h : 0 < (str (Wh.decI x)).size, ((((str (Wh.decI x))[0]'h).toNat : Int) == 45) = decide (x < 0) := by
  by_cases h : x < 0
  · rw [decI_neg h]
    have hs : 0 < (str (45 :: Wh.decN x.natAbs)).size := by show 0 < (45 :: Wh.decN x.natAbs).length; simp
    refine ⟨hs, ?_⟩
    rw [str_get _ 0 hs, decide_eq_true h]
    rfl
  · rw [decI_pos h]
    have hs : 0 < (str (Wh.decN x.natAbs)).size := Wh.decN_length_pos _
    refine ⟨hs, ?_⟩
    rw [str_get _ 0 hs, decide_eq_false h, beq_eq_false_iff_ne]
    have hd : Wh.isD ((Wh.decN x.natAbs).getD 0 0) := by
      rw [List.getD_eq_getElem?_getD, List.getElem?_eq_getElem (Wh.decN_length_pos _)]
      exact Wh.decN_digits _ _ (List.getElem_mem _)
    unfold Wh.isD at hd
    omega
theorem decI_size (x : Int) : (str (Wh.decI x)).size = (Wh.decN x.natAbs).length + (if x < 0 then 1 else 0) := by
  by_cases h : x < 0
  · rw [decI_neg h, if_pos h]; rfl
  · rw [decI_pos h, if_neg h]; rfl
set_option maxHeartbeats 400000 in
theorem Neg_txt (x : Int) (w : World) :
    Calls Tryz.prog 41 #[txt x] w fun e w' => e = .returned (.bool (decide (x < 0))) ∧ w = w' := by
  unfold txt
  obtain ⟨hs0, h45⟩ := decI_first x
  have hd : decide ((0 : Int) < ((str (Wh.decI x)).size : Nat)) = true := by rw [decide_eq_true_iff]; omega
  generalize decide (x < 0) = b at *
  generalize str (Wh.decI x) = S at *
  cases b
  all_goals
    go_enter Tryz.func41, Tryz.ntmps41
    go_wp2
    go_ret
    exact ⟨rfl, rfl⟩
set_option maxHeartbeats 400000 in
theorem Abs_txt (x : Int) (w : World) :
    Calls Tryz.prog 20 #[txt x] w fun e w' => e = .returned (.string (str (Wh.decN x.natAbs))) ∧ w = w' := by
  have HN := Lib.hid (fun w => Neg_txt x w)
  by_cases h : x < 0
  · have hx : (str (Wh.decI x)).extract 1 (str (Wh.decI x)).size = str (Wh.decN x.natAbs) := eq_str (by rw [Lib.extract_data, str_data, decI_size, if_pos h, decI_neg h]; simp)
    have h1 : (1 : Int) ≤ ((str (Wh.decI x)).size : Nat) := by rw [decI_size]; have := Wh.decN_length_pos x.natAbs; omega
    rw [decide_eq_true h] at HN
    have HX := Lib.hid hx; clear hx
    unfold txt at *
    generalize str (Wh.decI x) = S at *
    go_enter Tryz.func20, Tryz.ntmps20
    go_wp2_with fail
    refine (HN.out _).mono ?_
    rintro e w' ⟨rfl, rfl⟩
    go_wp2_with fail
    go_ret
    exact ⟨by rw [← HX.out]; rfl, rfl⟩
  · rw [decide_eq_false h] at HN
    unfold txt at *
    rw [decI_pos h] at *
    generalize str (Wh.decN x.natAbs) = S at *
    go_enter Tryz.func20, Tryz.ntmps20
    go_wp2_with fail
    refine (HN.out _).mono ?_
    rintro e w' ⟨rfl, rfl⟩
    go_wp2_with fail
    go_ret
    exact ⟨rfl, rfl⟩
set_option maxHeartbeats 400000 in
theorem form_txt (x : Int) (hx : x.natAbs < 10 ^ 15) (w : World) :
    Calls Tryz.prog 186 #[txt x] w fun e w' => e = .returned (.bool true) ∧ w = w' := by
  have hb : ((str (Wh.decI x)).toList == [45, 48]) = false := by
    rw [Lib.toList_data, str_data, beq_eq_false_iff_ne]
    intro e
    by_cases h : x < 0
    · rw [decI_neg h] at e
      have e2 : Wh.decN x.natAbs = [48] := by injection e
      have := Wh.decN_head x.natAbs (by omega)
      rw [e2] at this
      exact this rfl
    · rw [decI_pos h] at e
      have := Wh.decN_digits x.natAbs 45 (by rw [e]; simp)
      exact absurd this.1 (by decide)
  have HA := Lib.hid (fun w => Abs_txt x w)
  have HD := Lib.hid (fun w => digits_dec _ (decL_lt _ hx) w)
  have HB := Lib.hid hb; clear hb hx
  unfold txt at *
  go_enter Tryz.func186, Tryz.ntmps186
  go_wp2_with fail
  refine (HA.out _).mono ?_
  rintro e w' ⟨rfl, rfl⟩
  go_wp2_with fail
  refine (HD.out _).mono ?_
  rintro e w' ⟨rfl, rfl⟩
  go_wp2_with fail
  rw [HB.out]
  go_wp2_with fail
  go_ret
  exact ⟨rfl, rfl⟩
set_option maxRecDepth 100000 in
set_option maxHeartbeats 400000 in
theorem ToInt_any (x : Int) (hx : x.natAbs < 10 ^ 15) (w : World) :
    Calls Tryz.prog 129 #[txt x] w fun e w' => e = .returned (.tuple #[.int .i64 x, .bool true]) ∧ w = w' := by
  have HA := Lib.hid (fun w => Abs_txt x w)
  have HF := Lib.hid (fun w => form_txt x hx w)
  have HNG := Lib.hid (fun w => Neg_txt x w)
  have hl := decL_lt _ hx
  have hv := Wh.numOf_decN x.natAbs
  have hxx : x.natAbs < 1000000000000000 := hx
  obtain ⟨b, hb⟩ : ∃ b, decide (x < 0) = b := ⟨_, rfl⟩
  have hsg : (if b then -((x.natAbs : Nat) : Int) else ((x.natAbs : Nat) : Int)) = x := by
    by_cases h : x < 0
    · rw [decide_eq_true h] at hb; subst hb; simp; omega
    · rw [decide_eq_false h] at hb; subst hb; simp; omega
  rw [hb] at HNG
  clear hb hx
  unfold txt at *
  generalize str (Wh.decI x) = S at *
  generalize Wh.decN x.natAbs = l at *
  generalize x.natAbs = n at *
  have hsz : (str l).size ≤ 15 := hl.len
  have H := Lib.hid hl; clear hl
  have HV := Lib.hid (And.intro hv hsg); clear hv hsg
  go_enter Tryz.func129, Tryz.ntmps129
  go_wp2_with fail
  refine (HA.out _).mono ?_
  rintro e w' ⟨rfl, rfl⟩
  go_wp2_with fail
  refine (HF.out _).mono ?_
  rintro e w' ⟨rfl, rfl⟩
  have h15 : decide ((15 : Int) < ((str l).size : Nat)) = false := by rw [decide_eq_false_iff_not]; omega
  go_wp2_with fail
  go_loopw [5, 6] (fun a i wr => ∃ k : Nat, k ≤ (str l).size ∧ i = .int .i64 k ∧ a = .int .i64 (Wh.numOf (l.take k) : Nat) ∧ wr = w) (fun _ i _ => (str l).size - (intOf i).toNat)
  case atStart => exact ⟨0, Nat.zero_le _, rfl, rfl, rfl⟩
  case round =>
    obtain ⟨k, hk, rfl, rfl, rfl⟩ := hrel
    by_cases hlt : k < (str l).size
    · have hd : decide ((k : Int) < ((str l).size : Nat)) = true := by rw [decide_eq_true_iff]; omega
      obtain ⟨c, hx, hcc, hc1, hc2⟩ := digits_loop l H k hlt
      have hnx : Wh.numOf (l.take (k + 1)) = 10 * Wh.numOf (l.take k) + (c - 48) := by
        rw [Wh.numOf_take_succ l k hlt, ← hcc]; rfl
      have hlim := numOf_take_le l k H.out.len H.out.dig
      have HNX := Lib.hid hnx; clear hnx hcc
      generalize Wh.numOf (l.take k) = v at *
      go_wp2_with fail
      go_roundw
      case rel => exact ⟨k + 1, by omega, by simp, by rw [HNX.out]; congr 1; omega, trivial⟩
      case measure => simp [intOf]; omega
    · have hd : decide ((k : Int) < ((str l).size : Nat)) = false := by rw [decide_eq_false_iff_not]; omega
      have hkl : l.take k = l := List.take_of_length_le (by have : (str l).size = l.length := rfl; omega)
      rw [hkl, HV.out.1]
      go_wp2_with fail
      refine (HNG.out _).mono ?_
      rintro e w' ⟨rfl, rfl⟩
      have hsg := HV.out.2
      cases b
      all_goals
        simp only [if_true, if_false, Bool.false_eq_true] at hsg
        go_wp2_with fail
        go_ret2
        exact ⟨by rw [← hsg]; rfl, rfl⟩
end Go.Proofs.YteaeloeebfdodaaGreatDoor

namespace Go.Proofs.YteaeloeebfdodaaGreatDoor
open Go.RowKit Go.Proofs.Rf
set_option maxHeartbeats 400000 in
theorem OfInt_int (n : Int) (h : n.natAbs ≤ 1000000000000000000) (w : World) :
    Calls Tryz.prog 85 #[.int .i64 n] w fun e w' => e = .returned (txt n) ∧ Below w.heap.size w w' := by
  by_cases hn : n < 0
  · have HO := Lib.hid (fun w => OfInt_any n.natAbs h w)
    have hc : ((n.natAbs : Nat) : Int) = -n := by omega
    rw [hc] at HO
    have hd : decide (n < 0) = true := decide_eq_true hn
    unfold txt
    rw [decI_neg hn]
    have hap : str [45] ++ str (Wh.decN n.natAbs) = str (45 :: Wh.decN n.natAbs) := str_app _ _
    have hsz : (str (Wh.decN n.natAbs)).size ≤ 19 := Wh.decN_length_le (k := 19) (by decide) (Nat.lt_of_le_of_lt h (by decide))
    have h45 : (⟨#[45]⟩ : ByteArray) = str [45] := rfl
    rw [← hap]
    clear hap
    generalize str (Wh.decN n.natAbs) = S at *
    have hno : ¬ (9223372036854775807 < (str [45]).size + S.size) := by have : (str [45]).size = 1 := rfl; omega
    have hno2 : ¬ (9223372036854775807 < (⟨#[45]⟩ : ByteArray).size + S.size) := by rw [h45]; exact hno
    go_enter Tryz.func85, Tryz.ntmps85
    go_wp2_with fail
    refine (HO.out _).mono ?_
    rintro e w' ⟨rfl, hb⟩
    go_wp2_with fail
    go_ret
    exact ⟨rfl, hb⟩
  · have := OfInt_any n.natAbs h w
    rw [show ((n.natAbs : Nat) : Int) = n by omega] at this
    unfold txt
    rw [decI_pos hn]
    exact this
theorem dec9 (n : Nat) : (Wh.decN n).length ≤ 9 ↔ n < 1000000000 := by
  constructor
  · intro h
    have h1 := Wh.lt_pow_decN n
    have h2 : 10 ^ (Wh.decN n).length ≤ 10 ^ 9 := Nat.pow_le_pow_right (by decide) h
    have : (10 : Nat) ^ 9 = 1000000000 := rfl
    generalize 10 ^ (Wh.decN n).length = z at *
    omega
  · intro h
    exact Wh.decN_length_le (by decide) h
set_option maxRecDepth 100000 in
set_option maxHeartbeats 600000 in
theorem small_yes (x y : Int) (hx : x.natAbs < 1000000000) (hy : y.natAbs < 1000000000) (w : World) :
    Calls Tryz.prog 84 #[txt x, txt y] w fun e w' => e = .returned (.tuple #[.int .i64 x, .int .i64 y, .bool true]) ∧ w = w' := by
  have HA := Lib.hid (fun w => Abs_txt x w)
  have HB := Lib.hid (fun w => Abs_txt y w)
  have HX := Lib.hid (fun w => ToInt_any x (by have : (10 : Nat) ^ 15 = 1000000000000000 := rfl; omega) w)
  have HY := Lib.hid (fun w => ToInt_any y (by have : (10 : Nat) ^ 15 = 1000000000000000 := rfl; omega) w)
  have h1 := (dec9 _).2 hx
  have h2 := (dec9 _).2 hy
  have d1 : decide ((10 : Int) < ((str (Wh.decI x)).size : Nat)) = false := by rw [decide_eq_false_iff_not, decI_size]; split <;> omega
  have d2 : decide ((10 : Int) < ((str (Wh.decI y)).size : Nat)) = false := by rw [decide_eq_false_iff_not, decI_size]; split <;> omega
  have d3 : decide ((9 : Int) < ((str (Wh.decN x.natAbs)).size : Nat)) = false := by rw [decide_eq_false_iff_not]; show ¬ (9 : Int) < ((Wh.decN x.natAbs).length : Nat); omega
  have d4 : decide ((9 : Int) < ((str (Wh.decN y.natAbs)).size : Nat)) = false := by rw [decide_eq_false_iff_not]; show ¬ (9 : Int) < ((Wh.decN y.natAbs).length : Nat); omega
  clear hx hy h1 h2
  unfold txt at *
  generalize str (Wh.decI x) = S at *
  generalize str (Wh.decI y) = T at *
  generalize str (Wh.decN x.natAbs) = S' at *
  generalize str (Wh.decN y.natAbs) = T' at *
  go_enter Tryz.func84, Tryz.ntmps84
  go_wp2_with fail
  refine (HA.out _).mono ?_
  rintro e w' ⟨rfl, rfl⟩
  go_wp2_with fail
  refine (HB.out _).mono ?_
  rintro e w' ⟨rfl, rfl⟩
  go_wp2_with fail
  refine (HX.out _).mono ?_
  rintro e w' ⟨rfl, rfl⟩
  go_wp2_with fail
  refine (HY.out _).mono ?_
  rintro e w' ⟨rfl, rfl⟩
  go_wp2_with fail
  go_ret3
  exact ⟨rfl, rfl⟩
set_option maxRecDepth 100000 in
set_option maxHeartbeats 600000 in
theorem small_no (x y : Int) (h : ¬ (x.natAbs < 1000000000 ∧ y.natAbs < 1000000000)) (w : World) :
    Calls Tryz.prog 84 #[txt x, txt y] w fun e w' => e = .returned (.tuple #[.int .i64 0, .int .i64 0, .bool false]) ∧ w = w' := by
  have HA := Lib.hid (fun w => Abs_txt x w)
  have HB := Lib.hid (fun w => Abs_txt y w)
  have e3 : ((str (Wh.decN x.natAbs)).size : Nat) = (Wh.decN x.natAbs).length := rfl
  have e4 : ((str (Wh.decN y.natAbs)).size : Nat) = (Wh.decN y.natAbs).length := rfl
  have d34 : 9 < (str (Wh.decN x.natAbs)).size ∨ 9 < (str (Wh.decN y.natAbs)).size := by
    rw [e3, e4]
    have h1 := dec9 x.natAbs
    have h2 := dec9 y.natAbs
    omega
  clear h e3 e4
  unfold txt at *
  generalize str (Wh.decI x) = S at *
  generalize str (Wh.decI y) = T at *
  generalize str (Wh.decN x.natAbs) = S' at *
  generalize str (Wh.decN y.natAbs) = T' at *
  by_cases c1 : 10 < S.size
  · have d1 : decide ((10 : Int) < (S.size : Nat)) = true := by rw [decide_eq_true_iff]; omega
    clear HA HB
    go_enter Tryz.func84, Tryz.ntmps84
    go_wp2_with fail
    go_ret3
    exact ⟨rfl, rfl⟩
  · have d1 : decide ((10 : Int) < (S.size : Nat)) = false := by rw [decide_eq_false_iff_not]; omega
    by_cases c2 : 10 < T.size
    · have d2 : decide ((10 : Int) < (T.size : Nat)) = true := by rw [decide_eq_true_iff]; omega
      clear HA HB
      go_enter Tryz.func84, Tryz.ntmps84
      go_wp2_with fail
      go_ret3
      exact ⟨rfl, rfl⟩
    · have d2 : decide ((10 : Int) < (T.size : Nat)) = false := by rw [decide_eq_false_iff_not]; omega
      by_cases c3 : 9 < S'.size
      · have d3 : decide ((9 : Int) < (S'.size : Nat)) = true := by rw [decide_eq_true_iff]; omega
        go_enter Tryz.func84, Tryz.ntmps84
        go_wp2_with fail
        refine (HA.out _).mono ?_
        rintro e w' ⟨rfl, rfl⟩
        go_wp2_with fail
        go_ret3
        exact ⟨rfl, rfl⟩
      · have d3 : decide ((9 : Int) < (S'.size : Nat)) = false := by rw [decide_eq_false_iff_not]; omega
        have d4 : decide ((9 : Int) < (T'.size : Nat)) = true := by rw [decide_eq_true_iff]; omega
        go_enter Tryz.func84, Tryz.ntmps84
        go_wp2_with fail
        refine (HA.out _).mono ?_
        rintro e w' ⟨rfl, rfl⟩
        go_wp2_with fail
        refine (HB.out _).mono ?_
        rintro e w' ⟨rfl, rfl⟩
        go_wp2_with fail
        go_ret3
        exact ⟨rfl, rfl⟩
theorem rlimbs_dec (n : Nat) (h : (Wh.decN n).length ≤ 400) (w : World) :
    Calls Tryz.prog 86 #[.string (str (Wh.decN n))] w fun e w' => (∃ v, ∃ l : List Nat, e = .returned v ∧ RL4 w' v l ∧ Sm4 l ∧ Top l ∧ val4 l = n ∧ l.length ≤ 400) ∧ Below w.heap.size w w' := by
  refine (rlimbs_any w (Wh.decN n) (Wh.decN_digits n) h).mono ?_
  rintro e w' ⟨⟨v, l, rfl, h1, h2, h3, h4, h5⟩, hb⟩
  exact ⟨⟨v, l, rfl, h1, h2, h3, by rw [h4, Wh.numOf_decN], by omega⟩, hb⟩
set_option maxRecDepth 100000 in
set_option maxHeartbeats 600000 in
theorem rsigned_any (w : World) (b : Bool) (v : Value) (l : List Nat) (h : RL4 w v l) (s : Sm4 l) (hm : l.length ≤ 1000) (z : Int) (hz : val4 l = z.natAbs) (h1 : b = true → (0 < l.length ↔ z < 0)) (h2 : b = false → ¬ z < 0) :
    Calls Tryz.prog 87 #[.bool b, v] w fun e w' => e = .returned (txt z) ∧ Below w.heap.size w w' := by
  have HT := Lib.hid (fun w (h : RL4 w v l) => rtext_any w v l h s (by omega))
  rw [hz] at HT
  have hdl : (Wh.decN z.natAbs).length ≤ 4 * l.length + 1 := by
    refine Wh.decN_length_le (by omega) ?_
    have := val4_lt s
    rw [hz] at this
    rw [Nat.pow_add, Nat.pow_mul]
    have e : (10 : Nat) ^ 4 = 10000 := rfl
    rw [e]
    omega
  have H := Lib.hid h
  obtain ⟨a, c, rfl, -, -⟩ := h
  clear s hz
  generalize hn : l.length = n at *
  clear hn
  have hap : str [45] ++ str (Wh.decN z.natAbs) = str (45 :: Wh.decN z.natAbs) := str_app _ _
  have hsz : (str (Wh.decN z.natAbs)).size ≤ 4001 := by show (Wh.decN z.natAbs).length ≤ _; omega
  have h45 : (⟨#[45]⟩ : ByteArray) = str [45] := rfl
  have hno2 : ¬ (9223372036854775807 < (⟨#[45]⟩ : ByteArray).size + (str (Wh.decN z.natAbs)).size) := by rw [h45]; have : (str [45]).size = 1 := rfl; omega
  clear hdl
  unfold txt at *
  cases b with
  | true =>
    have k1 := h1 rfl
    clear h1
    by_cases hl : 0 < n
    · have hd : decide ((0 : Int) < (n : Int)) = true := by rw [decide_eq_true_iff]; omega
      rw [decI_neg (k1.1 hl), ← hap]
      clear k1 h2 hap
      generalize str (Wh.decN z.natAbs) = S at *
      go_enter Tryz.func87, Tryz.ntmps87
      go_wp2_with fail
      refine (HT.out _ H.out).mono ?_
      rintro e w' ⟨rfl, hb⟩
      go_wp2_with fail
      go_ret
      exact ⟨rfl, hb⟩
    · have hd : decide ((0 : Int) < (n : Int)) = false := by rw [decide_eq_false_iff_not]; omega
      rw [decI_pos (fun h => hl (k1.2 h))]
      clear k1 h2 hap
      generalize str (Wh.decN z.natAbs) = S at *
      go_enter Tryz.func87, Tryz.ntmps87
      go_wp2_with fail
      refine (HT.out _ H.out).mono ?_
      rintro e w' ⟨rfl, hb⟩
      go_wp2_with fail
      go_ret
      exact ⟨rfl, hb⟩
  | false =>
    rw [decI_pos (h2 rfl)]
    clear h1 h2 hap
    generalize str (Wh.decN z.natAbs) = S at *
    go_enter Tryz.func87, Tryz.ntmps87
    go_wp2_with fail
    refine (HT.out _ H.out).mono ?_
    rintro e w' ⟨rfl, hb⟩
    go_wp2_with fail
    go_ret
    exact ⟨rfl, hb⟩
end Go.Proofs.YteaeloeebfdodaaGreatDoor

namespace Go.Proofs.YteaeloeebfdodaaGreatDoor
open Go.RowKit Go.Proofs.Rf
abbrev V400 (x : Int) : Prop := (Wh.decN x.natAbs).length ≤ 400
theorem top_pos {l : List Nat} (ht : Top l) {n : Nat} (hv : val4 l = n) : 0 < l.length ↔ 0 < n := by
  constructor
  · intro h
    have := val4_ge ht h
    have h1 : 0 < 10000 ^ (l.length - 1) := Nat.pow_pos (by decide)
    omega
  · intro h
    rcases Nat.eq_zero_or_pos l.length with h0 | h0
    · have := List.eq_nil_of_length_eq_zero h0
      subst this
      simp [val4] at hv
      omega
    · exact h0
theorem len_le_of {l m : List Nat} (s : Sm4 m) (t : Top l) (h : val4 l ≤ val4 m) : l.length ≤ m.length := by
  rcases Nat.lt_or_ge m.length l.length with h1 | h1
  · have := val4_lt_len s t h1; omega
  · exact h1
set_option maxRecDepth 100000 in
set_option maxHeartbeats 1000000 in
theorem rPlus_big (x y : Int) (hx : V400 x) (hy : V400 y) (h : ¬ (x.natAbs < 1000000000 ∧ y.natAbs < 1000000000)) (w : World) :
    Calls Tryz.prog 19 #[txt x, txt y] w fun e w' => e = .returned (txt (x + y)) ∧ Below w.heap.size w w' := by
  have HSM := Lib.hid (fun w => small_no x y h w)
  have HAX := Lib.hid (fun w => Abs_txt x w)
  have HAY := Lib.hid (fun w => Abs_txt y w)
  have HNX := Lib.hid (fun w => Neg_txt x w)
  have HNY := Lib.hid (fun w => Neg_txt y w)
  have HLX := Lib.hid (fun w => rlimbs_dec x.natAbs hx w)
  have HLY := Lib.hid (fun w => rlimbs_dec y.natAbs hy w)
  obtain ⟨bx, hbx⟩ : ∃ b, decide (x < 0) = b := ⟨_, rfl⟩
  obtain ⟨b2, hby⟩ : ∃ b, decide (y < 0) = b := ⟨_, rfl⟩
  rw [hbx] at HNX
  rw [hby] at HNY
  have HBX := Lib.hid hbx; have HBY := Lib.hid hby
  obtain ⟨z, hz⟩ : ∃ z, x + y = z := ⟨_, rfl⟩
  rw [hz]
  have HZ := Lib.hid hz
  clear hbx hby hz h hx hy
  unfold txt at HSM HAX HAY HNX HNY
  generalize hTX : str (Wh.decI x) = TX at *
  generalize hTY : str (Wh.decI y) = TY at *
  have HTX := Lib.hid (And.intro hTX hTY); clear hTX hTY
  show Calls Tryz.prog 19 #[txt x, txt y] w _
  unfold txt
  rw [HTX.out.1, HTX.out.2]
  generalize hTZ : str (Wh.decI z) = TZ at *
  have HTZ := Lib.hid hTZ; clear hTZ
  go_enter Tryz.func19, Tryz.ntmps19
  go_wp2_with fail
  refine (HSM.out _).mono ?_
  rintro e w' ⟨rfl, rfl⟩
  go_wp2_with fail
  refine (HAX.out _).mono ?_
  rintro e w' ⟨rfl, rfl⟩
  go_wp2_with fail
  refine (HLX.out _).mono ?_
  rintro e w1 ⟨⟨v1, l1, rfl, hr1, hs1, ht1, hv1, hn1⟩, hb1⟩
  go_wp2_with fail
  refine (HAY.out _).mono ?_
  rintro e w' ⟨rfl, rfl⟩
  go_wp2_with fail
  refine (HLY.out _).mono ?_
  rintro e w2 ⟨⟨v2, l2, rfl, hr2, hs2, ht2, hv2, hn2⟩, hb2⟩
  have hr1' := hr1.mono hb2
  have HB := Lib.hid (hb1.trans (hb2.mono hb1.size))
  have HPL := Lib.hid (fun _ : Unit => rplus_any w2 v1 v2 l1 l2 hr1' hr2 hs1 hs2 (by omega) (by omega))
  have HCM := Lib.hid (rcmp_any w2 v1 v2 l1 l2 hr1' hr2 hs1 hs2 ht1 ht2 (by omega))
  rw [hv1, hv2] at HPL HCM
  have HM12 := Lib.hid (fun (W : World) (hW : Below w2.heap.size w2 W) (hle : y.natAbs ≤ x.natAbs) => rminus_any W v1 v2 l1 l2 (hr1'.mono hW) (hr2.mono hW) hs1 hs2 (by omega) (len_le_of hs1 ht2 (by omega)) (by omega))
  have HM21 := Lib.hid (fun (W : World) (hW : Below w2.heap.size w2 W) (hle : x.natAbs ≤ y.natAbs) => rminus_any W v2 v1 l2 l1 (hr2.mono hW) (hr1'.mono hW) hs2 hs1 (by omega) (len_le_of hs2 ht1 (by omega)) (by omega))
  rw [hv1, hv2] at HM12 HM21
  have HL := Lib.hid (And.intro (top_pos ht1 hv1) (top_pos ht2 hv2))
  have hlen : l1.length ≤ 400 ∧ l2.length ≤ 400 := ⟨hn1, hn2⟩
  clear hr1 hr2 hr1' hs1 hs2 ht1 ht2 hv1 hv2 hn1 hn2 hb1 hb2
  by_cases hsame : bx = b2
  · subst hsame
    have hbb : (bx == bx) = true := by simp
    go_wp2_with fail
    refine (HNX.out _).mono ?_
    rintro e w' ⟨rfl, rfl⟩
    go_wp2_with fail
    refine (HNY.out _).mono ?_
    rintro e w' ⟨rfl, rfl⟩
    go_wp2_with fail
    refine (HNX.out _).mono ?_
    rintro e w' ⟨rfl, rfl⟩
    go_wp2_with fail
    refine (HPL.out ()).mono ?_
    rintro e w3 ⟨⟨v3, l3, rfl, hr3, hs3, hv3, hl3, hl31⟩, hb3⟩
    have HSG := Lib.hid (rsigned_any w3 bx v3 l3 hr3 hs3 (by omega) z (by
        rw [hv3, ← HZ.out]
        have h1 := HBX.out; have h2 := HBY.out
        cases bx
        · simp at h1 h2; omega
        · simp at h1 h2; omega)
      (fun e => by
        have h1 := HBX.out; have h2 := HBY.out; have h3 := HZ.out
        subst e
        simp at h1 h2
        have h4 := HL.out.1
        constructor
        · intro _; omega
        · intro _; have := h4.2 (by omega); omega)
      (fun e => by
        have h1 := HBX.out; have h2 := HBY.out; have h3 := HZ.out
        subst e
        simp at h1 h2
        omega))
    unfold txt at HSG
    rw [HTZ.out] at HSG
    have HB3 := Lib.hid (HB.out.trans (hb3.mono HB.out.size))
    clear hr3 hs3 hv3 hl3 hl31 hb3
    go_wp2_with fail
    refine HSG.out.mono ?_
    rintro e w4 ⟨rfl, hb4⟩
    go_wp2_with fail
    go_ret
    exact ⟨rfl, HB3.out.trans (hb4.mono HB3.out.size)⟩
  · have hbb : (bx == b2) = false := by rw [beq_eq_false_iff_ne]; exact hsame
    have HDF := Lib.hid hsame; clear hsame
    go_wp2_with fail
    refine (HNX.out _).mono ?_
    rintro e w' ⟨rfl, rfl⟩
    go_wp2_with fail
    refine (HNY.out _).mono ?_
    rintro e w' ⟨rfl, rfl⟩
    go_wp2_with fail
    refine HCM.out.mono ?_
    rintro e w' ⟨rfl, m, rfl⟩
    have hBM := below_drewN w2.heap.size w2 m
    have HBM := Lib.hid hBM
    by_cases hlt : x.natAbs < y.natAbs
    · have hcm : decide (Wh.cmpN x.natAbs y.natAbs < 0) = true := by rw [Wh.cmpN_lt hlt]; rfl
      have HMM := Lib.hid (HM21.out (w2.drewN m) HBM.out (by omega))
      have HLT := Lib.hid hlt; clear hlt
      generalize Wh.cmpN x.natAbs y.natAbs = cm at *
      clear hBM
      go_wp2_with fail
      refine (HNY.out _).mono ?_
      rintro e w' ⟨rfl, rfl⟩
      go_wp2_with fail
      refine HMM.out.mono ?_
      rintro e w3 ⟨⟨v3, l3, rfl, hr3, hs3, ht3, hv3, hl3⟩, hb3⟩
      have HSG := Lib.hid (rsigned_any w3 b2 v3 l3 hr3 hs3 (by omega) z (by
          rw [hv3, ← HZ.out]
          have h1 := HBX.out; have h2 := HBY.out; have h5 := HDF.out; have h6 := HLT.out
          cases bx <;> cases b2 <;> simp at h1 h2 h5 <;> omega)
        (fun e => by
          have h1 := HBX.out; have h2 := HBY.out; have h3 := HZ.out; have h5 := HDF.out; have h6 := HLT.out
          subst e
          have h4 := top_pos ht3 hv3
          cases bx <;> simp at h1 h2 h5
          rw [h4]
          omega)
        (fun e => by
          have h1 := HBX.out; have h2 := HBY.out; have h3 := HZ.out; have h5 := HDF.out; have h6 := HLT.out
          subst e
          cases bx <;> simp at h1 h2 h5
          omega))
      unfold txt at HSG
      rw [HTZ.out] at HSG
      have HB2 := Lib.hid (HB.out.trans (HBM.out.mono HB.out.size))
      have HB3 := Lib.hid (HB2.out.trans (hb3.mono HB2.out.size))
      clear hr3 hs3 hv3 hl3 hb3 ht3
      go_wp2_with fail
      refine HSG.out.mono ?_
      rintro e w4 ⟨rfl, hb4⟩
      go_wp2_with fail
      go_ret
      exact ⟨rfl, HB3.out.trans (hb4.mono HB3.out.size)⟩
    · have hcm : decide (Wh.cmpN x.natAbs y.natAbs < 0) = false := by
        have : Wh.cmpN x.natAbs y.natAbs = 0 ∨ Wh.cmpN x.natAbs y.natAbs = 1 := by
          unfold Wh.cmpN
          rw [if_neg hlt]
          split
          · exact .inl rfl
          · exact .inr rfl
        rcases this with h | h <;> rw [h] <;> rfl
      have HMM := Lib.hid (HM12.out (w2.drewN m) HBM.out (by omega))
      have HLT := Lib.hid hlt; clear hlt
      generalize Wh.cmpN x.natAbs y.natAbs = cm at *
      clear hBM
      go_wp2_with fail
      refine (HNX.out _).mono ?_
      rintro e w' ⟨rfl, rfl⟩
      go_wp2_with fail
      refine HMM.out.mono ?_
      rintro e w3 ⟨⟨v3, l3, rfl, hr3, hs3, ht3, hv3, hl3⟩, hb3⟩
      have HSG := Lib.hid (rsigned_any w3 bx v3 l3 hr3 hs3 (by omega) z (by
          rw [hv3, ← HZ.out]
          have h1 := HBX.out; have h2 := HBY.out; have h5 := HDF.out; have h6 := HLT.out
          cases bx <;> cases b2 <;> simp at h1 h2 h5 <;> omega)
        (fun e => by
          have h1 := HBX.out; have h2 := HBY.out; have h3 := HZ.out; have h5 := HDF.out; have h6 := HLT.out
          subst e
          have h4 := top_pos ht3 hv3
          cases b2 <;> simp at h1 h2 h5
          rw [h4]
          omega)
        (fun e => by
          have h1 := HBX.out; have h2 := HBY.out; have h3 := HZ.out; have h5 := HDF.out; have h6 := HLT.out
          subst e
          cases b2 <;> simp at h1 h2 h5
          omega))
      unfold txt at HSG
      rw [HTZ.out] at HSG
      have HB2 := Lib.hid (HB.out.trans (HBM.out.mono HB.out.size))
      have HB3 := Lib.hid (HB2.out.trans (hb3.mono HB2.out.size))
      clear hr3 hs3 hv3 hl3 hb3 ht3
      go_wp2_with fail
      refine HSG.out.mono ?_
      rintro e w4 ⟨rfl, hb4⟩
      go_wp2_with fail
      go_ret
      exact ⟨rfl, HB3.out.trans (hb4.mono HB3.out.size)⟩
set_option maxHeartbeats 600000 in
theorem rPlus_any (x y : Int) (hx : V400 x) (hy : V400 y) (w : World) :
    Calls Tryz.prog 19 #[txt x, txt y] w fun e w' => e = .returned (txt (x + y)) ∧ Below w.heap.size w w' := by
  by_cases h : x.natAbs < 1000000000 ∧ y.natAbs < 1000000000
  · have HSM := Lib.hid (fun w => small_yes x y h.1 h.2 w)
    have HO := Lib.hid (fun w => OfInt_int (x + y) (by omega) w)
    have h1 := h.1
    have h2 := h.2
    have b1 : -1000000000 < x ∧ x < 1000000000 := by omega
    have b2 : -1000000000 < y ∧ y < 1000000000 := by omega
    clear hx hy h h1 h2
    unfold txt at *
    generalize str (Wh.decI x) = TX at *
    generalize str (Wh.decI y) = TY at *
    generalize str (Wh.decI (x + y)) = TZ at *
    go_enter Tryz.func19, Tryz.ntmps19
    go_wp2_with fail
    refine (HSM.out _).mono ?_
    rintro e w' ⟨rfl, rfl⟩
    go_wp2_with fail
    refine (HO.out _).mono ?_
    rintro e w1 ⟨rfl, hb⟩
    go_wp2_with fail
    go_ret
    exact ⟨rfl, hb⟩
  · exact rPlus_big x y hx hy h w
end Go.Proofs.YteaeloeebfdodaaGreatDoor

namespace Go.Proofs.YteaeloeebfdodaaGreatDoor
open Go.RowKit Go.Proofs.Rf
set_option maxHeartbeats 400000 in
theorem rNegated_any (x : Int) (hx : V400 x) (w : World) :
    Calls Tryz.prog 60 #[txt x] w fun e w' => e = .returned (txt (-x)) ∧ Below w.heap.size w w' := by
  have HN := Lib.hid (fun w => Neg_txt x w)
  by_cases h0 : x = 0
  · subst h0
    have e : str (Wh.decI 0) = ⟨#[48]⟩ := by
      have : Wh.decI 0 = [48] := by unfold Wh.decI; simp [Wh.decN_zero]
      rw [this]; rfl
    unfold txt at *
    rw [show (-0 : Int) = 0 from rfl, e]
    go_enter Tryz.func60, Tryz.ntmps60
    go_wp2
    go_ret
    exact ⟨rfl, Below.refl _ _⟩
  · have hne : ((str (Wh.decI x)).toList == [48]) = false := by
      rw [Lib.toList_data, str_data, beq_eq_false_iff_ne]
      intro e
      by_cases h : x < 0
      · rw [decI_neg h] at e; injection e with e1 _; exact absurd e1 (by decide)
      · rw [decI_pos h] at e
        have := Wh.decN_head x.natAbs (by omega)
        rw [e] at this
        exact this rfl
    have hsz : (str (Wh.decI x)).size ≤ 401 := by rw [decI_size]; split <;> omega
    by_cases h : x < 0
    · rw [decide_eq_true h] at HN
      have hxx : (str (Wh.decI x)).extract 1 (str (Wh.decI x)).size = str (Wh.decI (-x)) := eq_str (by rw [Lib.extract_data, str_data, decI_size, if_pos h, decI_neg h, decI_pos (by omega : ¬ -x < 0), Int.natAbs_neg]; simp)
      have h1 : (1 : Int) ≤ ((str (Wh.decI x)).size : Nat) := by rw [decI_size]; have := Wh.decN_length_pos x.natAbs; omega
      have HX := Lib.hid hxx; clear hxx
      unfold txt at *
      generalize str (Wh.decI x) = S at *
      go_enter Tryz.func60, Tryz.ntmps60
      go_wp2_with fail
      refine (HN.out _).mono ?_
      rintro e w' ⟨rfl, rfl⟩
      go_wp2_with fail
      go_ret
      exact ⟨by rw [← HX.out]; rfl, Below.refl _ _⟩
    · rw [decide_eq_false h] at HN
      have hap : str [45] ++ str (Wh.decI x) = str (Wh.decI (-x)) := by rw [str_app, decI_neg (by omega : -x < 0), decI_pos h, Int.natAbs_neg]; rfl
      have h45 : (⟨#[45]⟩ : ByteArray) = str [45] := rfl
      have hno2 : ¬ (9223372036854775807 < (⟨#[45]⟩ : ByteArray).size + (str (Wh.decI x)).size) := by rw [h45]; have : (str [45]).size = 1 := rfl; omega
      have HAP := Lib.hid hap; clear hap
      unfold txt at *
      generalize str (Wh.decI x) = S at *
      go_enter Tryz.func60, Tryz.ntmps60
      go_wp2_with fail
      refine (HN.out _).mono ?_
      rintro e w' ⟨rfl, rfl⟩
      go_wp2_with fail
      go_ret
      exact ⟨by rw [← HAP.out]; rfl, Below.refl _ _⟩
theorem sign_prod_neg {x y z : Int} {bx b2 : Bool} (h1 : decide (x < 0) = bx) (h2 : decide (y < 0) = b2) (hz : x * y = z) (e : (bx != b2) = true) : 0 < x.natAbs * y.natAbs ↔ z < 0 := by
  have hn : z.natAbs = x.natAbs * y.natAbs := by rw [← hz, Int.natAbs_mul]
  have hle : z ≤ 0 := by
    rw [← hz]
    cases bx <;> cases b2 <;> simp at e h1 h2
    · exact Int.mul_nonpos_of_nonneg_of_nonpos h1 (by omega)
    · exact Int.mul_nonpos_of_nonpos_of_nonneg (by omega) h2
  rw [← hn]
  omega
theorem sign_prod_pos {x y z : Int} {bx b2 : Bool} (h1 : decide (x < 0) = bx) (h2 : decide (y < 0) = b2) (hz : x * y = z) (e : (bx != b2) = false) : ¬ z < 0 := by
  have hle : 0 ≤ z := by
    rw [← hz]
    cases bx <;> cases b2 <;> simp at e h1 h2
    · exact Int.mul_nonneg h1 h2
    · exact Int.mul_nonneg_of_nonpos_of_nonpos (by omega) (by omega)
  omega
set_option maxRecDepth 100000 in
set_option maxHeartbeats 1000000 in
theorem rTimes_big (x y : Int) (hx : V400 x) (hy : V400 y) (h : ¬ (x.natAbs < 1000000000 ∧ y.natAbs < 1000000000)) (w : World) :
    Calls Tryz.prog 27 #[txt x, txt y] w fun e w' => e = .returned (txt (x * y)) ∧ Below w.heap.size w w' := by
  have HSM := Lib.hid (fun w => small_no x y h w)
  have HAX := Lib.hid (fun w => Abs_txt x w)
  have HAY := Lib.hid (fun w => Abs_txt y w)
  have HNX := Lib.hid (fun w => Neg_txt x w)
  have HNY := Lib.hid (fun w => Neg_txt y w)
  have HLX := Lib.hid (fun w => rlimbs_dec x.natAbs hx w)
  have HLY := Lib.hid (fun w => rlimbs_dec y.natAbs hy w)
  obtain ⟨bx, hbx⟩ : ∃ b, decide (x < 0) = b := ⟨_, rfl⟩
  obtain ⟨b2, hby⟩ : ∃ b, decide (y < 0) = b := ⟨_, rfl⟩
  rw [hbx] at HNX
  rw [hby] at HNY
  obtain ⟨z, hz⟩ : ∃ z, x * y = z := ⟨_, rfl⟩
  rw [hz]
  have hsg : (bx != b2) = true → (0 < x.natAbs * y.natAbs ↔ z < 0) := by
    intro e
    exact sign_prod_neg hbx hby hz e
  have hsg2 : (bx != b2) = false → ¬ z < 0 := by
    intro e
    exact sign_prod_pos hbx hby hz e
  have hzn : z.natAbs = x.natAbs * y.natAbs := by rw [← hz, Int.natAbs_mul]
  have HSG := Lib.hid (And.intro hsg (And.intro hsg2 hzn))
  clear hsg hsg2 hzn hbx hby hz h hx hy
  unfold txt at HSM HAX HAY HNX HNY
  generalize hTX : str (Wh.decI x) = TX at *
  generalize hTY : str (Wh.decI y) = TY at *
  have HTX := Lib.hid (And.intro hTX hTY); clear hTX hTY
  show Calls Tryz.prog 27 #[txt x, txt y] w _
  unfold txt
  rw [HTX.out.1, HTX.out.2]
  generalize hTZ : str (Wh.decI z) = TZ at *
  have HTZ := Lib.hid hTZ; clear hTZ
  go_enter Tryz.func27, Tryz.ntmps27
  go_wp2_with fail
  refine (HSM.out _).mono ?_
  rintro e w' ⟨rfl, rfl⟩
  go_wp2_with fail
  refine (HNX.out _).mono ?_
  rintro e w' ⟨rfl, rfl⟩
  go_wp2_with fail
  refine (HNY.out _).mono ?_
  rintro e w' ⟨rfl, rfl⟩
  go_wp2_with fail
  refine (HAX.out _).mono ?_
  rintro e w' ⟨rfl, rfl⟩
  go_wp2_with fail
  refine (HLX.out _).mono ?_
  rintro e w1 ⟨⟨v1, l1, rfl, hr1, hs1, ht1, hv1, hn1⟩, hb1⟩
  go_wp2_with fail
  refine (HAY.out _).mono ?_
  rintro e w' ⟨rfl, rfl⟩
  go_wp2_with fail
  refine (HLY.out _).mono ?_
  rintro e w2 ⟨⟨v2, l2, rfl, hr2, hs2, ht2, hv2, hn2⟩, hb2⟩
  have hr1' := hr1.mono hb2
  have HB := Lib.hid (hb1.trans (hb2.mono hb1.size))
  have HTM := Lib.hid (rtimes_any w2 v1 v2 l1 l2 hr1' hr2 hs1 hs2 (by omega) (by omega))
  rw [hv1, hv2] at HTM
  have HL := Lib.hid (show l1.length + l2.length ≤ 800 by omega)
  clear hr1 hr2 hr1' hs1 hs2 ht1 ht2 hv1 hv2 hn1 hn2 hb1 hb2
  go_wp2_with fail
  refine HTM.out.mono ?_
  rintro e w3 ⟨⟨v3, l3, rfl, hr3, hs3, ht3, hv3, hl3⟩, hb3⟩
  have HSN := Lib.hid (rsigned_any w3 (bx != b2) v3 l3 hr3 hs3 (by have := HL.out; omega) z (by rw [hv3, HSG.out.2.2]) (fun e => (top_pos ht3 hv3).trans (HSG.out.1 e)) (fun e => by have := HSG.out.2.1 e; omega))
  unfold txt at HSN
  rw [HTZ.out] at HSN
  have HB3 := Lib.hid (HB.out.trans (hb3.mono HB.out.size))
  clear hr3 hs3 hv3 hl3 hb3 ht3
  go_wp2_with fail
  refine HSN.out.mono ?_
  rintro e w4 ⟨rfl, hb4⟩
  go_wp2_with fail
  go_ret
  exact ⟨rfl, HB3.out.trans (hb4.mono HB3.out.size)⟩
set_option maxHeartbeats 600000 in
theorem rTimes_any (x y : Int) (hx : V400 x) (hy : V400 y) (w : World) :
    Calls Tryz.prog 27 #[txt x, txt y] w fun e w' => e = .returned (txt (x * y)) ∧ Below w.heap.size w w' := by
  by_cases h : x.natAbs < 1000000000 ∧ y.natAbs < 1000000000
  · have HSM := Lib.hid (fun w => small_yes x y h.1 h.2 w)
    have hp : (x * y).natAbs ≤ 1000000000000000000 := by
      rw [Int.natAbs_mul]
      have : x.natAbs * y.natAbs ≤ 1000000000 * 1000000000 := Nat.mul_le_mul (by omega) (by omega)
      omega
    have HO := Lib.hid (fun w => OfInt_int (x * y) hp w)
    have b1 : -1000000000000000000 ≤ x * y ∧ x * y ≤ 1000000000000000000 := by omega
    clear hx hy h hp
    unfold txt at *
    generalize str (Wh.decI x) = TX at *
    generalize str (Wh.decI y) = TY at *
    generalize str (Wh.decI (x * y)) = TZ at *
    go_enter Tryz.func27, Tryz.ntmps27
    go_wp2_with fail
    refine (HSM.out _).mono ?_
    rintro e w' ⟨rfl, rfl⟩
    go_wp2_with fail
    refine (HO.out _).mono ?_
    rintro e w1 ⟨rfl, hb⟩
    go_wp2_with fail
    go_ret
    exact ⟨rfl, hb⟩
  · exact rTimes_big x y hx hy h w
end Go.Proofs.YteaeloeebfdodaaGreatDoor
