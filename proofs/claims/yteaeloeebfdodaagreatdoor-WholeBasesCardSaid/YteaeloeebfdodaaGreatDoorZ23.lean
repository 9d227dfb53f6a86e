/- Part 23 of the proofs that laws of package whole answer true at every input and leave the input as it was, where the library's variables start as the text lays them (the texts O4, U1, U2, U3). -/
import Derived.Test.YteaeloeebfdodaaGreatDoorZ22
import Derived.Deep.AppendLies
import Derived.Deep.RegionHeld3
set_option linter.unusedVariables false
set_option linter.unusedSimpArgs false
namespace Go.Proofs.YteaeloeebfdodaaGreatDoor
open Go.RowKit Go.Proofs.Rf
def szOf' : Value → Nat
  | .string s => s.size
  | _ => 0
set_option maxRecDepth 100000 in
set_option maxHeartbeats 1000000 in
theorem rlimbs_any (w : World) (d : List UInt8) (hd : ∀ c ∈ d, 48 ≤ c.toNat ∧ c.toNat ≤ 57) (hm : d.length ≤ 400) :
    Calls Tryz.prog 86 #[.string (str d)] w fun e w' => (∃ v, ∃ l : List Nat, e = .returned v ∧ RL4 w' v l ∧ Sm4 l ∧ Top l ∧ val4 l = Wh.numOf d ∧ l.length ≤ d.length) ∧ Below w.heap.size w w' := by
  have hs0 : (str d).size = d.length := rfl
  have hI0 : Hid (LI d d.length [] ∧ w.ownsRow w.heap.size 3 1 (.slice none 0 0) ([] : List Nat).length (i64s []) ∧ Below w.heap.size w w) := Lib.hid ⟨LI.start d, World.ownsRow_nil _ _ _ _, Below.refl _ _⟩
  have htk : d.take d.length = d := List.take_length
  have HD := Lib.hid hd; clear hd
  generalize hL : d.length = L at *
  have HL := Lib.hid hL; clear hL
  go_enter Tryz.func86, Tryz.ntmps86
  go_wp2_with fail
  go_loopw [0, 3] (fun sv v wr => ∃ k : Nat, ∃ l : List Nat, k ≤ L ∧ sv = .string (str (d.take k)) ∧ Hid (LI d k l ∧ wr.ownsRow w.heap.size 3 1 v l.length (i64s l) ∧ Below w.heap.size w wr)) (fun sv _ _ => szOf' sv)
  case atStart => exact ⟨L, [], Nat.le_refl _, by rw [htk], hI0⟩
  case round =>
    clear hI0 htk
    obtain ⟨k, l, hk, rfl, HI⟩ := hrel
    obtain ⟨sa, sc, rfl⟩ := own_sl HI.out.2.1
    have hsz : (str (d.take k)).size = k := by show (d.take k).length = k; rw [List.length_take, HL.out]; omega
    by_cases h0 : k = 0
    · subst h0
      obtain ⟨hi, ho, hb⟩ := HI.out
      obtain ⟨a', c', e', hil, hlc⟩ := il_of_own ho
      simp only [Value.slice.injEq] at e'
      obtain ⟨rfl, _, rfl⟩ := e'
      have hlen : l.length ≤ 400 := by have := hi.len; rw [HL.out] at this; omega
      have HT := Lib.hid (rtrim_any wr sa sc l l.length hil (by omega) hlc)
      have HV : Hid (val4 l = Wh.numOf d) := Lib.hid (by have := hi.val; rw [List.take_zero] at this; rw [this, show Wh.numOf [] = 0 from rfl, Nat.zero_mul, Nat.zero_add])
      have HLC := Lib.hid (And.intro hlc (show l.length ≤ L by have := hi.len; rw [HL.out] at this; omega))
      have HS := Lib.hid hi.small; have HB := Lib.hid hb; have HIL := Lib.hid hil
      clear hi ho hb HI
      go_wp2_with fail
      refine HT.out.mono ?_
      rintro e w2 ⟨⟨m, rfl, hm1, hm2, hm3⟩, rfl⟩
      go_wp2
      go_ret
      exact ⟨⟨_, l.take m, rfl, RL4.cut HIL.out hm1 HLC.out.1, Sm4.take HS.out m, top_cut hm1 hm3, by rw [val4_zeros l m hm2, HV.out], by rw [List.length_take]; have := HLC.out.2; omega⟩, HB.out⟩
    · have hgt : decide ((0 : Int) < (k : Int)) = true := by rw [decide_eq_true_iff]; omega
      obtain ⟨f, hf⟩ : ∃ f, f = k - 4 := ⟨_, rfl⟩
      have hmx : max (0 : Int) ((k : Int) - 4) = (f : Int) := by omega
      have hfk : f ≤ k := by omega
      have hdk : k ≤ d.length := by rw [HL.out]; exact hk
      have hlim : ∀ j, Wh.numOf (((d.take k).drop f).take j) < 10000 := fun j => by
        have h1 : (((d.take k).drop f).take j).length ≤ 4 := by rw [List.length_take, List.length_drop, List.length_take]; omega
        have := Wh.numOf_lt (l := ((d.take k).drop f).take j) (fun c hc => HD.out c (List.mem_of_mem_take (List.mem_of_mem_drop (List.mem_of_mem_take hc))))
        exact Nat.lt_of_lt_of_le this (Nat.le_trans (Nat.pow_le_pow_right (by decide) h1) (by decide : 10 ^ 4 ≤ 10000))
      have HLIM := Lib.hid hlim; clear hlim
      have HF := Lib.hid hf; clear hf
      go_wp2_with fail
      go_loopw [5, 6] (fun nv i wi => ∃ j : Nat, j ≤ k - f ∧ nv = .int .i64 (Wh.numOf (((d.take k).drop f).take j) : Nat) ∧ i = .int .i64 ((f + j : Nat) : Int) ∧ wi = wr) (fun _ i _ => k - (intOf i).toNat)
      case atStart => exact ⟨0, Nat.zero_le _, rfl, by simp, rfl⟩
      case round =>
        obtain ⟨j, hj, rfl, rfl, rfl⟩ := hrel
        generalize hp : f + j = p at *
        have HP := Lib.hid hp; clear hp
        by_cases hlt : p < k
        · have hlt' : p < (str (d.take k)).size := by rw [hsz]; exact hlt
          have hd1 : decide ((p : Int) < (k : Nat)) = true := by rw [decide_eq_true_iff]; omega
          have hgd : (d.take k).getD p 0 = d.getD p 0 := by simp [List.getD, hlt]
          have hcc := HD.out ((d.take k).getD p 0) (by
            have hl : p < (d.take k).length := by rw [List.length_take]; omega
            rw [List.getD_eq_getElem?_getD, List.getElem?_eq_getElem hl]
            exact List.mem_of_mem_take (List.getElem_mem hl))
          obtain ⟨c, hx, hcv⟩ : ∃ c : Nat, (((str (d.take k))[p]'hlt').toNat : Int) = (c : Int) ∧ ((d.take k).getD p 0).toNat = c := ⟨_, by rw [str_get _ p hlt'], rfl⟩
          rw [hcv] at hcc
          have hnx : Wh.numOf (((d.take k).drop f).take (j + 1)) = 10 * Wh.numOf (((d.take k).drop f).take j) + (c - 48) := by
            have hl : j < ((d.take k).drop f).length := by rw [List.length_drop, List.length_take]; have := HP.out; omega
            rw [Wh.numOf_take_succ _ j hl, ← hcv, ← HP.out]
            simp [Wh.dv, List.getD]
          have hvl := HLIM.out j
          have HNX := Lib.hid hnx; clear hnx hcv hgd
          generalize Wh.numOf (((d.take k).drop f).take j) = v at *
          go_wp2_with fail
          have hpp := HP.out
          refine ⟨⟨j + 1, by omega, by rw [HNX.out]; congr 1; omega, by congr 1; omega, trivial⟩, by simp [intOf]; omega⟩
        · have hd1 : decide ((p : Int) < (k : Nat)) = false := by rw [decide_eq_false_iff_not]; omega
          have hjk : j = k - f := by have := HP.out; omega
          have hnv : ((d.take k).drop f).take j = (d.take k).drop (k - 4) := by rw [hjk, HF.out]; exact List.take_of_length_le (by rw [List.length_drop, List.length_take]; omega)
          have hN := HI.out.1.next (fun c hc => HD.out c hc) (by omega)
          rw [← hnv, ← HF.out] at hN
          have hvl := HLIM.out j
          have HN := Lib.hid hN; clear hN hnv
          generalize Wh.numOf (((d.take k).drop f).take j) = v at *
          have hal : Below wr.heap.size wr (wr.alloc (Obj.cells #[.int .i64 v] 3)) := (Below.refl _ _).alloc (Nat.le_refl _) _
          have hownA : (wr.alloc (Obj.cells #[.int .i64 v] 3)).ownsRow w.heap.size 3 1 (.slice sa l.length sc) l.length (i64s l) := ownsRow_onlyS HI.out.2.1 (OnlyS.of_below (S := fun _ => False) hal) (fun _ _ h => h)
          obtain ⟨inf, i1, i2, i3, i4⟩ := infoI
          have hcellA : ∀ (j : Nat) (u : Value), [Value.int .i64 (v : Int)][j]? = some u → (wr.alloc (Obj.cells #[.int .i64 v] 3)).cell? ((⟨wr.heap.size, 0, none⟩ : Addr).add j) = some u := by
            intro j u hj
            cases j with
            | zero => cases hj; show (wr.alloc (Obj.cells #[.int .i64 v] 3)).cell? ⟨wr.heap.size, 0, none⟩ = _; go_simp
            | succ j => cases j <;> cases hj
          have hzA : w.heap.size ≤ (wr.alloc (Obj.cells #[.int .i64 v] 3)).heap.size := Nat.le_trans HI.out.2.2.size hal.size
          have hone : ∀ u ∈ [Value.int .i64 (v : Int)], u.oneCell' = true := by intro u hu; rw [List.mem_singleton.1 hu]; rfl
          have hll : l.length ≤ 400 := by have := HI.out.1.len; rw [HL.out] at this; omega
          have hmx : l.length + 1 ≤ maxLen := by simp only [maxLen]; omega
          have hbt : (l.length + 1) * 8 ≤ 140737488355328 := by omega
          have hx1 : (str (d.take k)).extract 0 f = str (d.take f) := eq_str (by rw [Lib.extract_data, str_data]; simp [List.take_take, Nat.min_eq_left hfk])
          go_wp2_with fail
          go_region_held3 (fun _ => True) (first | trivial | exact trivial)
            ((refine step_append_lies _ (by rfl) _ _ _ (by rfl) w.heap.size 3 inf (.int .i64 0) 1 8 Tryz.underlying22 i1 i2 i3 i4 rfl (by decide) (.slice sa l.length sc) l.length _ (by rfl) hownA.drew ⟨wr.heap.size, 0, none⟩ 1 1 [Value.int .i64 (v : Int)] (by rfl) (by rfl) hcellA hone (by decide) hmx hbt hzA (wr.heap.size + 1) (by simp) ?_; intro g cap w1 hown1 hgrow hat hlt))
          have hsh := hgrow
          have hgo := grownBy_onlyS hgrow
          have hdr : Below wr.heap.size wr (wr.alloc (Obj.cells #[.int .i64 v] 3)).drew := hal.drew
          have hbw := (HI.out.2.2.trans (hdr.mono HI.out.2.2.size)).trans (hgo.below (B := w.heap.size) (fun k hk => ownBlock_ge hownA hk) (by simpa using hzA))
          have HFIN : Hid (LI d f (l ++ [v]) ∧ w1.ownsRow w.heap.size 3 1 (.slice (some ⟨g, 0, none⟩) (l.length + 1 : Nat) cap) (l ++ [v]).length (i64s (l ++ [v])) ∧ Below w.heap.size w w1) := Lib.hid ⟨HN.out, by rw [i64s, List.map_append, List.length_append, List.length_singleton]; exact hown1, hbw⟩
          go_wp2
          refine ⟨⟨f, l ++ [v], by omega, rfl, HFIN⟩, ?_⟩
          show (str (d.take f)).size < (str (d.take k)).size
          rw [hsz]
          show (d.take f).length < k
          rw [List.length_take]
          have := HF.out
          omega
end Go.Proofs.YteaeloeebfdodaaGreatDoor

namespace Go.Proofs.YteaeloeebfdodaaGreatDoor
open Go.RowKit Go.Proofs.Rf
structure AppI (B : Nat) (wr A : World) (v : Value) (l : List Nat) (x : Int) : Prop where
  own : A.ownsRow B 3 1 v l.length (i64s l)
  cell : ∀ (j : Nat) (u : Value), [Value.int .i64 x][j]? = some u → A.cell? ((⟨wr.heap.size, 0, none⟩ : Addr).add j) = some u
  one : ∀ u ∈ [Value.int .i64 x], u.oneCell' = true
  big : B ≤ A.heap.size
  below : Below wr.heap.size wr A
theorem appI {B : Nat} {wr : World} {v : Value} {l : List Nat} (x : Int) (h : wr.ownsRow B 3 1 v l.length (i64s l)) (hB : B ≤ wr.heap.size) : AppI B wr (wr.alloc (Obj.cells #[.int .i64 x] 3)) v l x := by
  have hal : Below wr.heap.size wr (wr.alloc (Obj.cells #[.int .i64 x] 3)) := (Below.refl _ _).alloc (Nat.le_refl _) _
  refine ⟨ownsRow_onlyS h (OnlyS.of_below (S := fun _ => False) hal) (fun _ _ h => h), ?_, ?_, Nat.le_trans hB hal.size, hal⟩
  · intro j u hj
    cases j with
    | zero => cases hj; show (wr.alloc (Obj.cells #[.int .i64 x] 3)).cell? ⟨wr.heap.size, 0, none⟩ = _; go_simp
    | succ j => cases j <;> cases hj
  · intro u hu; rw [List.mem_singleton.1 hu]; rfl
theorem app_done {w wr A W3 : World} {v v' : Value} {l : List Nat} {x : Nat} {z : Int} (hz : z = (x : Int)) (hA : AppI w.heap.size wr A v l z) (hb : Below w.heap.size w wr) (ho : W3.ownsRow w.heap.size 3 1 v' (l.length + 1) (i64s l ++ [.int .i64 z])) (hg : A.grownBy W3 v.ownBlock) :
    W3.ownsRow w.heap.size 3 1 v' (l ++ [x]).length (i64s (l ++ [x])) ∧ Below w.heap.size w W3 := by
  subst hz
  refine ⟨by rw [i64s, List.map_append, List.length_append, List.length_singleton]; exact ho, ?_⟩
  exact (hb.trans (hA.below.mono hb.size)).trans ((grownBy_onlyS hg).below (B := w.heap.size) (fun k hk => ownBlock_ge hA.own hk) hA.big)
theorem maxI {n : Nat} (h : n ≤ 1000000) : n + 1 ≤ maxLen ∧ (n + 1) * 8 ≤ 140737488355328 := by
  constructor
  · simp only [maxLen]; omega
  · omega
set_option maxRecDepth 100000 in
set_option maxHeartbeats 600000 in
theorem rcmp_any (w : World) (v1 v2 : Value) (l1 l2 : List Nat) (h1 : RL4 w v1 l1) (h2 : RL4 w v2 l2) (s1 : Sm4 l1) (s2 : Sm4 l2) (t1 : Top l1) (t2 : Top l2) (hm : l1.length ≤ 1000000) :
    Calls Tryz.prog 89 #[v1, v2] w fun e w' => e = .returned (.int .i64 (Wh.cmpN (val4 l1) (val4 l2))) ∧ ∃ n, w' = w.drewN n := by
  obtain ⟨a1, c1, rfl, hc1, -⟩ := h1
  obtain ⟨a2, c2, rfl, hc2, -⟩ := h2
  have HC1 := Lib.hid hc1; clear hc1
  have HC2 := Lib.hid hc2; clear hc2
  have HS := Lib.hid (And.intro s1 s2); clear s1 s2
  have HT := Lib.hid (And.intro t1 t2); clear t1 t2
  by_cases hl : l1.length = l2.length
  · rw [← hl] at HC2 ⊢
    have HL := Lib.hid hl; clear hl
    generalize hn : l1.length = n at *
    have HN := Lib.hid hn; clear hn
    go_enter Tryz.func89, Tryz.ntmps89
    go_wp2_with fail
    go_loopw [5] (fun i wr => ∃ j m : Nat, j ≤ n ∧ i = .int .i64 ((j : Int) - 1) ∧ wr = w.drewN m ∧ Hid (l1.drop j = l2.drop j)) (fun i _ => (intOf i + 1).toNat)
    case atStart => exact ⟨n, 0, Nat.le_refl _, rfl, rfl, Lib.hid (by rw [List.drop_of_length_le (by rw [HN.out]; exact Nat.le_refl _), List.drop_of_length_le (by rw [← HL.out]; exact Nat.le_refl _)])⟩
    case round =>
      obtain ⟨j, m, hj, rfl, rfl, HD⟩ := hrel
      by_cases h0 : j = 0
      · subst h0
        go_wp2
        go_ret
        refine ⟨?_, m, rfl⟩
        have e : l1 = l2 := by simpa using HD.out
        rw [e, Wh.cmpN_self]
        rfl
      · obtain ⟨k, rfl⟩ : ∃ k, j = k + 1 := ⟨j - 1, by omega⟩
        obtain ⟨b1, off1, rfl, hbl1, hcell1⟩ := HC1.out k (by omega)
        obtain ⟨b2, off2, rfl, hbl2, hcell2⟩ := HC2.out k (by omega)
        have hcx := hcell1 k (by omega)
        have hcy := hcell2 k (by omega)
        clear hcell1 hcell2
        have hk : (0 : Int) ≤ (k : Int) ∧ (k : Int) < (n : Int) := by omega
        obtain ⟨hk1, hk2⟩ := hk
        have hkn : k < n := by omega
        rw [show (((k + 1 : Nat) : Int) - 1) = (k : Int) from by omega]
        clear h0 hj
        generalize hx : l1.getD k 0 = x at *
        generalize hy : l2.getD k 0 = y at *
        have HX := Lib.hid hx; clear hx
        have HY := Lib.hid hy; clear hy
        rcases Nat.lt_trichotomy x y with hc | hc | hc
        · have hlt : decide (x < y) = true := by simpa using hc
          have HF : Hid (Wh.cmpN (val4 l1) (val4 l2) = -1) := Lib.hid (Wh.cmpN_lt (val4_lt_at HS.out.1 HD.out (by rw [HX.out, HY.out]; exact hc)))
          go_wp2
          go_quiet (fail)
          go_wp2
          go_ret
          exact ⟨by rw [HF.out]; rfl, by first | exact ⟨_, rfl⟩ | exact drew3 .. | (rw [World.drewN_drewN]; exact ⟨_, rfl⟩)⟩
        · subst hc
          have hlt : decide (x < x) = false := by simp
          have HD2 := Lib.hid (drop4_step (by rw [HN.out]; exact hkn) (by rw [← HL.out]; exact hkn) (HX.out.trans HY.out.symm) HD.out)
          go_wp2
          go_quiet (fail)
          go_wp2
          go_quiet (fail)
          go_wp2
          exact ⟨⟨k, _, by omega, rfl, rfl, HD2⟩, by simp [intOf]⟩
        · have hlt : decide (x < y) = false := by simp; omega
          have hgt : decide (y < x) = true := by simpa using hc
          have HF : Hid (Wh.cmpN (val4 l1) (val4 l2) = 1) := Lib.hid (Wh.cmpN_gt (val4_lt_at HS.out.2 HD.out.symm (by rw [HX.out, HY.out]; exact hc)))
          go_wp2
          go_quiet (fail)
          go_wp2
          go_quiet (fail)
          go_wp2
          go_ret
          exact ⟨by rw [HF.out]; rfl, by first | exact ⟨_, rfl⟩ | exact drew3 .. | (rw [World.drewN_drewN]; exact ⟨_, rfl⟩)⟩
  · have hne : ((l1.length : Int) != (l2.length : Int)) = true := by rw [bne_iff_ne]; omega
    by_cases hlt : l1.length < l2.length
    · have hd : decide ((l1.length : Int) < (l2.length : Int)) = true := by rw [decide_eq_true_iff]; omega
      have HF : Hid (Wh.cmpN (val4 l1) (val4 l2) = -1) := Lib.hid (Wh.cmpN_lt (val4_lt_len HS.out.1 HT.out.2 hlt))
      generalize l1.length = n1 at *
      generalize l2.length = n2 at *
      go_enter Tryz.func89, Tryz.ntmps89
      go_wp2
      go_ret
      exact ⟨by rw [HF.out]; rfl, 0, rfl⟩
    · have hd : decide ((l1.length : Int) < (l2.length : Int)) = false := by rw [decide_eq_false_iff_not]; omega
      have HF : Hid (Wh.cmpN (val4 l1) (val4 l2) = 1) := Lib.hid (Wh.cmpN_gt (val4_lt_len HS.out.2 HT.out.1 (by omega)))
      generalize l1.length = n1 at *
      generalize l2.length = n2 at *
      go_enter Tryz.func89, Tryz.ntmps89
      go_wp2
      go_ret
      exact ⟨by rw [HF.out]; rfl, 0, rfl⟩
end Go.Proofs.YteaeloeebfdodaaGreatDoor

namespace Go.Proofs.YteaeloeebfdodaaGreatDoor
open Go.RowKit Go.Proofs.Rf
set_option maxRecDepth 100000 in
set_option maxHeartbeats 1000000 in
theorem rminus_any (w : World) (v1 v2 : Value) (l1 l2 : List Nat) (h1 : RL4 w v1 l1) (h2 : RL4 w v2 l2) (s1 : Sm4 l1) (s2 : Sm4 l2) (hle : val4 l2 ≤ val4 l1) (hlen : l2.length ≤ l1.length) (hm : l1.length ≤ 100000) :
    Calls Tryz.prog 90 #[v1, v2] w fun e w' => (∃ v, ∃ l : List Nat, e = .returned v ∧ RL4 w' v l ∧ Sm4 l ∧ Top l ∧ val4 l = val4 l1 - val4 l2 ∧ l.length ≤ l1.length) ∧ Below w.heap.size w w' := by
  obtain ⟨a1, c1, rfl, hc1, -⟩ := h1
  obtain ⟨a2, c2, rfl, hc2, -⟩ := h2
  have HC1 := Lib.hid hc1; clear hc1
  have HC2 := Lib.hid hc2; clear hc2
  have HS := Lib.hid (And.intro s1 s2); clear s1 s2
  have HV := Lib.hid (And.intro hle hlen); clear hle
  have HI0 : Hid (MII l1 l2 0 [] 0 ∧ w.ownsRow w.heap.size 3 1 (.slice none 0 0) ([] : List Nat).length (i64s []) ∧ Below w.heap.size w w) := Lib.hid ⟨MII.start _ _, World.ownsRow_nil _ _ _ _, Below.refl _ _⟩
  generalize hn : l1.length = n at *
  generalize hk : l2.length = k at *
  have HN := Lib.hid (And.intro hn hk); clear hn hk
  go_enter Tryz.func90, Tryz.ntmps90
  go_wp2_with fail
  go_loopw [5, 6, 7] (fun ov bv iv wr => ∃ (i : Nat) (o : List Nat) (c : Nat), i ≤ n ∧ c ≤ 1 ∧ iv = .int .i64 i ∧ bv = .int .i64 c ∧ Hid (MII l1 l2 i o c ∧ wr.ownsRow w.heap.size 3 1 ov o.length (i64s o) ∧ Below w.heap.size w wr)) (fun _ _ iv _ => n - (intOf iv).toNat)
  case atStart => exact ⟨0, [], 0, Nat.zero_le _, by omega, rfl, rfl, HI0⟩
  case round =>
    clear HI0
    obtain ⟨i, o, c, hi, hc, rfl, rfl, HI⟩ := hrel
    obtain ⟨sa, sc, rfl⟩ := own_sl HI.out.2.1
    by_cases hin : i < n
    · have hol : o.length = i := HI.out.1.len
      have hd1 : decide ((i : Int) < (n : Int)) = true := by rw [decide_eq_true_iff]; omega
      obtain ⟨b1, off1, rfl, hbl1, hcell1⟩ := HC1.out i hin
      have hx := (HI.out.2.2.cell (p := ⟨b1, off1 + i, none⟩) hbl1).trans (hcell1 i hin)
      have hxl : l1.getD i 0 < 10000 := HS.out.1.getD i
      clear hcell1
      generalize hxx : l1.getD i 0 = x at *
      have HX := Lib.hid hxx; clear hxx
      rw [hol]
      have hs1 : ∃ (y : Nat), y = l2.getD i 0 ∧ y < 10000 := ⟨_, rfl, HS.out.2.getD i⟩
      obtain ⟨y, hy, hyl⟩ := hs1
      have HY := Lib.hid hy; clear hy
      have hmx := maxI (n := i) (by omega)
      obtain ⟨inf, i1, i2, i3, i4⟩ := infoI
      have HMII := Lib.hid HI.out.1
      have HOB := Lib.hid HI.out.2
      clear HI
      by_cases hik : i < k
      · have hd2 : decide ((i : Int) < (k : Int)) = true := by rw [decide_eq_true_iff]; omega
        obtain ⟨b2, off2, rfl, hbl2, hcell2⟩ := HC2.out i hik
        have hyy := (HOB.out.2.cell (p := ⟨b2, off2 + i, none⟩) hbl2).trans (hcell2 i hik)
        rw [← HY.out] at hyy
        clear hcell2
        by_cases hneg : x < y + c
        · have hdn : decide ((x : Int) - (c : Int) - (y : Int) < 0) = true := by rw [decide_eq_true_iff]; omega
          obtain ⟨d, hdz⟩ : ∃ d : Nat, (x : Int) - (c : Int) - (y : Int) + 10000 = (d : Int) := ⟨((x : Int) - (c : Int) - (y : Int) + 10000).toNat, by omega⟩
          have hN := HMII.out.next (d := d) (e := 1) (by omega) (by omega) (by rw [HX.out, ← HY.out]; omega)
          have HN := Lib.hid hN; clear hN
          have HA := Lib.hid (appI ((x : Int) - (c : Int) - (y : Int) + 10000) HOB.out.1 HOB.out.2.size)
          have hownA := HA.out.own; have hcellA := HA.out.cell; have honeA := HA.out.one; have hbigA := HA.out.big
          rw [hol] at hownA
          have HDZ := Lib.hid hdz; clear hdz
          clear hol
          go_wp2_with (at_builtin; refine wpList_append_own _ rfl _ _ 22 rfl w.heap.size 3 inf (.int .i64 0) 1 8 Tryz.underlying22 i1 i2 i3 i4 rfl (by decide) (.slice sa i sc) i _ rfl hownA ⟨wr.heap.size, 0, none⟩ 1 1 [Value.int .i64 ((x : Int) - (c : Int) - (y : Int) + 10000)] rfl rfl hcellA honeA hmx.1 hmx.2 hbigA ?_)
          intro v' W3 ho3 hg3 hnil
          rw [← HMII.out.len] at ho3
          have HD := Lib.hid (app_done HDZ.out HA.out HOB.out.2 ho3 (by rw [HMII.out.len]; exact hg3))
          clear hnil ho3 hg3 hownA hcellA honeA hbigA i1 i2 i3 i4
          go_wp2
          refine ⟨⟨i + 1, o ++ [d], 1, by omega, by omega, by congr 1, rfl, Lib.hid ⟨HN.out, HD.out⟩⟩, by simp [intOf]; omega⟩

        · have hdn : decide ((x : Int) - (c : Int) - (y : Int) < 0) = false := by rw [decide_eq_false_iff_not]; omega
          obtain ⟨d, hdz⟩ : ∃ d : Nat, (x : Int) - (c : Int) - (y : Int) = (d : Int) := ⟨((x : Int) - (c : Int) - (y : Int)).toNat, by omega⟩
          have hN := HMII.out.next (d := d) (e := 0) (by omega) (by omega) (by rw [HX.out, ← HY.out]; omega)
          have HN := Lib.hid hN; clear hN
          have HA := Lib.hid (appI ((x : Int) - (c : Int) - (y : Int)) HOB.out.1 HOB.out.2.size)
          have hownA := HA.out.own; have hcellA := HA.out.cell; have honeA := HA.out.one; have hbigA := HA.out.big
          rw [hol] at hownA
          have HDZ := Lib.hid hdz; clear hdz
          clear hol
          go_wp2_with (at_builtin; refine wpList_append_own _ rfl _ _ 22 rfl w.heap.size 3 inf (.int .i64 0) 1 8 Tryz.underlying22 i1 i2 i3 i4 rfl (by decide) (.slice sa i sc) i _ rfl hownA ⟨wr.heap.size, 0, none⟩ 1 1 [Value.int .i64 ((x : Int) - (c : Int) - (y : Int))] rfl rfl hcellA honeA hmx.1 hmx.2 hbigA ?_)
          intro v' W3 ho3 hg3 hnil
          rw [← HMII.out.len] at ho3
          have HD := Lib.hid (app_done HDZ.out HA.out HOB.out.2 ho3 (by rw [HMII.out.len]; exact hg3))
          clear hnil ho3 hg3 hownA hcellA honeA hbigA i1 i2 i3 i4
          go_wp2
          refine ⟨⟨i + 1, o ++ [d], 0, by omega, by omega, by congr 1, rfl, Lib.hid ⟨HN.out, HD.out⟩⟩, by simp [intOf]; omega⟩

      · have hd2 : decide ((i : Int) < (k : Int)) = false := by rw [decide_eq_false_iff_not]; omega
        have hy0 : y = 0 := by rw [HY.out]; simp [List.getD, show l2.length ≤ i by rw [HN.out.2]; omega]
        subst hy0
        by_cases hneg : x < c
        · have hdn : decide ((x : Int) - (c : Int) < 0) = true := by rw [decide_eq_true_iff]; omega
          obtain ⟨d, hdz⟩ : ∃ d : Nat, (x : Int) - (c : Int) + 10000 = (d : Int) := ⟨((x : Int) - (c : Int) + 10000).toNat, by omega⟩
          have hN := HMII.out.next (d := d) (e := 1) (by omega) (by omega) (by rw [HX.out, ← HY.out]; omega)
          have HN := Lib.hid hN; clear hN
          have HA := Lib.hid (appI ((x : Int) - (c : Int) + 10000) HOB.out.1 HOB.out.2.size)
          have hownA := HA.out.own; have hcellA := HA.out.cell; have honeA := HA.out.one; have hbigA := HA.out.big
          rw [hol] at hownA
          have HDZ := Lib.hid hdz; clear hdz
          clear hol
          go_wp2_with (at_builtin; refine wpList_append_own _ rfl _ _ 22 rfl w.heap.size 3 inf (.int .i64 0) 1 8 Tryz.underlying22 i1 i2 i3 i4 rfl (by decide) (.slice sa i sc) i _ rfl hownA ⟨wr.heap.size, 0, none⟩ 1 1 [Value.int .i64 ((x : Int) - (c : Int) + 10000)] rfl rfl hcellA honeA hmx.1 hmx.2 hbigA ?_)
          intro v' W3 ho3 hg3 hnil
          rw [← HMII.out.len] at ho3
          have HD := Lib.hid (app_done HDZ.out HA.out HOB.out.2 ho3 (by rw [HMII.out.len]; exact hg3))
          clear hnil ho3 hg3 hownA hcellA honeA hbigA i1 i2 i3 i4
          go_wp2
          refine ⟨⟨i + 1, o ++ [d], 1, by omega, by omega, by congr 1, rfl, Lib.hid ⟨HN.out, HD.out⟩⟩, by simp [intOf]; omega⟩

        · have hdn : decide ((x : Int) - (c : Int) < 0) = false := by rw [decide_eq_false_iff_not]; omega
          obtain ⟨d, hdz⟩ : ∃ d : Nat, (x : Int) - (c : Int) = (d : Int) := ⟨((x : Int) - (c : Int)).toNat, by omega⟩
          have hN := HMII.out.next (d := d) (e := 0) (by omega) (by omega) (by rw [HX.out, ← HY.out]; omega)
          have HN := Lib.hid hN; clear hN
          have HA := Lib.hid (appI ((x : Int) - (c : Int)) HOB.out.1 HOB.out.2.size)
          have hownA := HA.out.own; have hcellA := HA.out.cell; have honeA := HA.out.one; have hbigA := HA.out.big
          rw [hol] at hownA
          have HDZ := Lib.hid hdz; clear hdz
          clear hol
          go_wp2_with (at_builtin; refine wpList_append_own _ rfl _ _ 22 rfl w.heap.size 3 inf (.int .i64 0) 1 8 Tryz.underlying22 i1 i2 i3 i4 rfl (by decide) (.slice sa i sc) i _ rfl hownA ⟨wr.heap.size, 0, none⟩ 1 1 [Value.int .i64 ((x : Int) - (c : Int))] rfl rfl hcellA honeA hmx.1 hmx.2 hbigA ?_)
          intro v' W3 ho3 hg3 hnil
          rw [← HMII.out.len] at ho3
          have HD := Lib.hid (app_done HDZ.out HA.out HOB.out.2 ho3 (by rw [HMII.out.len]; exact hg3))
          clear hnil ho3 hg3 hownA hcellA honeA hbigA i1 i2 i3 i4
          go_wp2
          refine ⟨⟨i + 1, o ++ [d], 0, by omega, by omega, by congr 1, rfl, Lib.hid ⟨HN.out, HD.out⟩⟩, by simp [intOf]; omega⟩

    · obtain rfl : i = n := by omega
      have hd1 : decide ((i : Int) < (i : Int)) = false := by rw [decide_eq_false_iff_not]; omega
      have hK := HI.out.1
      have hF : val4 o = val4 l1 - val4 l2 := by
        rw [← HN.out.1] at hK
        exact hK.fin (by rw [HN.out.1, HN.out.2]; exact HV.out.2) HV.out.1
      obtain ⟨a', c', e', hil, hlc⟩ := il_of_own HI.out.2.1
      have hol : o.length = i := hK.len
      rw [hol] at e' hlc hil ⊢
      simp only [Value.slice.injEq] at e'
      obtain ⟨rfl, _, rfl⟩ := e'
      have HT := Lib.hid (rtrim_any wr sa sc o i hil (by omega) hlc)
      have HF := Lib.hid (And.intro hF (And.intro hK.sm HI.out.2.2))
      have HIL := Lib.hid (And.intro hil hlc)
      have HOL := Lib.hid hol
      clear hF hK hil hlc hol HI
      go_wp2_with fail
      refine HT.out.mono ?_
      rintro e w2 ⟨⟨m, rfl, hm1, hm2, hm3⟩, rfl⟩
      go_wp2
      go_ret
      have hIL := HIL.out.1
      rw [← HOL.out] at hIL
      exact ⟨⟨_, o.take m, rfl, RL4.cut hIL (by rw [HOL.out]; exact hm1) (by rw [HOL.out]; exact HIL.out.2), HF.out.2.1.take m, top_cut (by rw [HOL.out]; exact hm1) hm3, by rw [val4_zeros o m (fun j h1 h2 => hm2 j h1 (by rw [HOL.out] at h2; exact h2)), HF.out.1], by rw [List.length_take, HOL.out]; omega⟩, HF.out.2.2⟩
end Go.Proofs.YteaeloeebfdodaaGreatDoor

namespace Go.Proofs.YteaeloeebfdodaaGreatDoor
open Go.RowKit Go.Proofs.Rf
theorem plus_bounds {x y c : Nat} (hx : x < 10000) (hy : y < 10000) (hc : c ≤ 1) : (c + x + y) / 10000 ≤ 1 ∧ ((c : Int) + x + y).tmod 10000 = (((c + x + y) % 10000 : Nat) : Int) ∧ ((c : Int) + x + y).tdiv 10000 = (((c + x + y) / 10000 : Nat) : Int) := by
  refine ⟨by omega, ?_, ?_⟩
  · rw [Int.tmod_eq_emod_of_nonneg (by omega)]; simp
  · rw [Int.tdiv_eq_ediv_of_nonneg (by omega)]; simp
set_option maxRecDepth 100000 in
set_option maxHeartbeats 1000000 in
theorem rplus_any (w : World) (v1 v2 : Value) (l1 l2 : List Nat) (h1 : RL4 w v1 l1) (h2 : RL4 w v2 l2) (s1 : Sm4 l1) (s2 : Sm4 l2) (hm : l1.length ≤ 100000) (hm2 : l2.length ≤ 100000) :
    Calls Tryz.prog 88 #[v1, v2] w fun e w' => (∃ v, ∃ l : List Nat, e = .returned v ∧ RL4 w' v l ∧ Sm4 l ∧ val4 l = val4 l1 + val4 l2 ∧ l.length ≤ max l1.length l2.length + 1 ∧ (l1.length ≤ l.length)) ∧ Below w.heap.size w w' := by
  obtain ⟨a1, c1, rfl, hc1, -⟩ := h1
  obtain ⟨a2, c2, rfl, hc2, -⟩ := h2
  have HC1 := Lib.hid hc1; clear hc1
  have HC2 := Lib.hid hc2; clear hc2
  have HS := Lib.hid (And.intro s1 s2); clear s1 s2
  have HI0 : Hid (PLI l1 l2 0 [] 0 ∧ w.ownsRow w.heap.size 3 1 (.slice none 0 0) ([] : List Nat).length (i64s []) ∧ Below w.heap.size w w) := Lib.hid ⟨PLI.start _ _, World.ownsRow_nil _ _ _ _, Below.refl _ _⟩
  generalize hn : l1.length = n at *
  generalize hk : l2.length = k at *
  have HN := Lib.hid (And.intro hn hk); clear hn hk
  obtain ⟨N, hN⟩ : ∃ N, N = max n k := ⟨_, rfl⟩
  have hN1 : n ≤ N := by omega
  have hN2 : k ≤ N := by omega
  have hN3 : N ≤ 100000 := by omega
  rw [← hN]
  clear hN
  go_enter Tryz.func88, Tryz.ntmps88
  go_wp2_with fail
  go_loopw [5, 6, 7] (fun ov bv iv wr => ∃ (i : Nat) (o : List Nat) (c : Nat), (i ≤ N ∨ i = N + 1 ∧ c = 0) ∧ c ≤ 1 ∧ iv = .int .i64 i ∧ bv = .int .i64 c ∧ Hid (PLI l1 l2 i o c ∧ wr.ownsRow w.heap.size 3 1 ov o.length (i64s o) ∧ Below w.heap.size w wr)) (fun _ _ iv _ => N + 2 - (intOf iv).toNat)
  case atStart => exact ⟨0, [], 0, .inl (Nat.zero_le _), by omega, rfl, rfl, HI0⟩
  case round =>
    clear HI0
    obtain ⟨i, o, c, hi, hc, rfl, rfl, HI⟩ := hrel
    obtain ⟨sa, sc, rfl⟩ := own_sl HI.out.2.1
    have hol : o.length = i := HI.out.1.len
    have hi2 : i ≤ N + 1 := by omega
    obtain ⟨x, hx⟩ : ∃ x, x = l1.getD i 0 := ⟨_, rfl⟩
    obtain ⟨y, hy⟩ : ∃ y, y = l2.getD i 0 := ⟨_, rfl⟩
    have hxl : x < 10000 := by rw [hx]; exact HS.out.1.getD i
    have hyl : y < 10000 := by rw [hy]; exact HS.out.2.getD i
    have HX := Lib.hid (And.intro hx hy)
    have hx0 : ¬ i < n → x = 0 := fun h => by rw [hx]; simp [List.getD, show l1.length ≤ i by rw [HN.out.1]; omega]
    have hy0 : ¬ i < k → y = 0 := fun h => by rw [hy]; simp [List.getD, show l2.length ≤ i by rw [HN.out.2]; omega]
    clear hx hy
    by_cases hgo : i < n ∨ i < k ∨ 0 < c
    · obtain ⟨hb1, hmd, hdv⟩ := plus_bounds hxl hyl hc
      have hNX := HI.out.1.next HS.out.1 HS.out.2
      rw [← HX.out.1, ← HX.out.2] at hNX
      have HNX := Lib.hid hNX; clear hNX
      have hmx := maxI (n := i) (by omega)
      obtain ⟨inf, i1, i2, i3, i4⟩ := infoI
      have HOB := Lib.hid HI.out.2
      have hin1 : i + 1 ≤ N ∨ i + 1 = N + 1 ∧ (c + x + y) / 10000 = 0 := by
        rcases Nat.lt_or_ge i N with h | h
        · exact .inl h
        · right
          have : x = 0 := hx0 (by omega)
          have : y = 0 := hy0 (by omega)
          omega
      have HIN := Lib.hid hin1; clear hin1
      have HOL := Lib.hid hol
      clear HI hi
      rw [hol]
      have HX0 := Lib.hid (And.intro hx0 hy0)
      have HHN := Lib.hid (And.intro hN1 hN2); clear hN1 hN2 hx0 hy0
      by_cases hin : i < n
      · by_cases hik : i < k
        · have hd1 : decide ((i : Int) < (n : Int)) = true := by rw [decide_eq_true_iff]; omega
          have hd2 : decide ((i : Int) < (k : Int)) = true := by rw [decide_eq_true_iff]; omega
          obtain ⟨b1, off1, rfl, hbl1, hcell1⟩ := HC1.out i hin
          have hcx := (HOB.out.2.cell (p := ⟨b1, off1 + i, none⟩) hbl1).trans (hcell1 i hin)
          rw [← HX.out.1] at hcx
          clear hcell1
          obtain ⟨b2, off2, rfl, hbl2, hcell2⟩ := HC2.out i hik
          have hcy := (HOB.out.2.cell (p := ⟨b2, off2 + i, none⟩) hbl2).trans (hcell2 i hik)
          rw [← HX.out.2] at hcy
          clear hcell2
          have HA := Lib.hid (appI (((c : Int) + (x : Int) + (y : Int)) % 10000) HOB.out.1 HOB.out.2.size)
          have hownA := HA.out.own; have hcellA := HA.out.cell; have honeA := HA.out.one; have hbigA := HA.out.big
          rw [HOL.out] at hownA
          go_wp2_with (at_builtin; refine wpList_append_own _ rfl _ _ 22 rfl w.heap.size 3 inf (.int .i64 0) 1 8 Tryz.underlying22 i1 i2 i3 i4 rfl (by decide) (.slice sa i sc) i _ rfl hownA ⟨wr.heap.size, 0, none⟩ 1 1 [Value.int .i64 (((c : Int) + (x : Int) + (y : Int)) % 10000)] rfl rfl hcellA honeA hmx.1 hmx.2 hbigA ?_)
          intro v' W3 ho3 hg3 hnil
          rw [← HOL.out] at ho3
          have HD := Lib.hid (app_done (x := (c + x + y) % 10000) (by omega) HA.out HOB.out.2 ho3 (by rw [HOL.out]; exact hg3))
          clear hnil ho3 hg3 hownA hcellA honeA hbigA i1 i2 i3 i4
          have hq : ((c : Int) + (x : Int) + (y : Int)) / 10000 = (((c + x + y) / 10000 : Nat) : Int) := by omega
          have HQ := Lib.hid hq; clear hq
          go_wp2_with fail
          refine ⟨⟨i + 1, _, (c + x + y) / 10000, HIN.out, hb1, by congr 1, ?_, Lib.hid ⟨HNX.out, HD.out⟩⟩, by simp [intOf]; omega⟩
          first | (rw [← HQ.out]) | trace_state
        · have hd1 : decide ((i : Int) < (n : Int)) = true := by rw [decide_eq_true_iff]; omega
          have hd2 : decide ((i : Int) < (k : Int)) = false := by rw [decide_eq_false_iff_not]; omega
          obtain ⟨b1, off1, rfl, hbl1, hcell1⟩ := HC1.out i hin
          have hcx := (HOB.out.2.cell (p := ⟨b1, off1 + i, none⟩) hbl1).trans (hcell1 i hin)
          rw [← HX.out.1] at hcx
          clear hcell1
          obtain rfl : y = 0 := HX0.out.2 hik
          have HA := Lib.hid (appI (((c : Int) + (x : Int)) % 10000) HOB.out.1 HOB.out.2.size)
          have hownA := HA.out.own; have hcellA := HA.out.cell; have honeA := HA.out.one; have hbigA := HA.out.big
          rw [HOL.out] at hownA
          go_wp2_with (at_builtin; refine wpList_append_own _ rfl _ _ 22 rfl w.heap.size 3 inf (.int .i64 0) 1 8 Tryz.underlying22 i1 i2 i3 i4 rfl (by decide) (.slice sa i sc) i _ rfl hownA ⟨wr.heap.size, 0, none⟩ 1 1 [Value.int .i64 (((c : Int) + (x : Int)) % 10000)] rfl rfl hcellA honeA hmx.1 hmx.2 hbigA ?_)
          intro v' W3 ho3 hg3 hnil
          rw [← HOL.out] at ho3
          have HD := Lib.hid (app_done (x := (c + x + 0) % 10000) (by omega) HA.out HOB.out.2 ho3 (by rw [HOL.out]; exact hg3))
          clear hnil ho3 hg3 hownA hcellA honeA hbigA i1 i2 i3 i4
          have hq : ((c : Int) + (x : Int)) / 10000 = (((c + x + 0) / 10000 : Nat) : Int) := by omega
          have HQ := Lib.hid hq; clear hq
          go_wp2_with fail
          refine ⟨⟨i + 1, _, (c + x + 0) / 10000, HIN.out, hb1, by congr 1, ?_, Lib.hid ⟨HNX.out, HD.out⟩⟩, by simp [intOf]; omega⟩
          first | (rw [← HQ.out]) | trace_state
      · by_cases hik : i < k
        · have hd1 : decide ((i : Int) < (n : Int)) = false := by rw [decide_eq_false_iff_not]; omega
          have hd2 : decide ((i : Int) < (k : Int)) = true := by rw [decide_eq_true_iff]; omega
          obtain rfl : x = 0 := HX0.out.1 hin
          obtain ⟨b2, off2, rfl, hbl2, hcell2⟩ := HC2.out i hik
          have hcy := (HOB.out.2.cell (p := ⟨b2, off2 + i, none⟩) hbl2).trans (hcell2 i hik)
          rw [← HX.out.2] at hcy
          clear hcell2
          have HA := Lib.hid (appI (((c : Int) + (y : Int)) % 10000) HOB.out.1 HOB.out.2.size)
          have hownA := HA.out.own; have hcellA := HA.out.cell; have honeA := HA.out.one; have hbigA := HA.out.big
          rw [HOL.out] at hownA
          go_wp2_with (at_builtin; refine wpList_append_own _ rfl _ _ 22 rfl w.heap.size 3 inf (.int .i64 0) 1 8 Tryz.underlying22 i1 i2 i3 i4 rfl (by decide) (.slice sa i sc) i _ rfl hownA ⟨wr.heap.size, 0, none⟩ 1 1 [Value.int .i64 (((c : Int) + (y : Int)) % 10000)] rfl rfl hcellA honeA hmx.1 hmx.2 hbigA ?_)
          intro v' W3 ho3 hg3 hnil
          rw [← HOL.out] at ho3
          have HD := Lib.hid (app_done (x := (c + 0 + y) % 10000) (by omega) HA.out HOB.out.2 ho3 (by rw [HOL.out]; exact hg3))
          clear hnil ho3 hg3 hownA hcellA honeA hbigA i1 i2 i3 i4
          have hq : ((c : Int) + (y : Int)) / 10000 = (((c + 0 + y) / 10000 : Nat) : Int) := by omega
          have HQ := Lib.hid hq; clear hq
          go_wp2_with fail
          refine ⟨⟨i + 1, _, (c + 0 + y) / 10000, HIN.out, hb1, by congr 1, ?_, Lib.hid ⟨HNX.out, HD.out⟩⟩, by simp [intOf]; omega⟩
          first | (rw [← HQ.out]) | trace_state
        · have hd1 : decide ((i : Int) < (n : Int)) = false := by rw [decide_eq_false_iff_not]; omega
          have hd2 : decide ((i : Int) < (k : Int)) = false := by rw [decide_eq_false_iff_not]; omega
          have hd3 : decide ((0 : Int) < (c : Int)) = true := by rw [decide_eq_true_iff]; omega
          obtain rfl : x = 0 := HX0.out.1 hin
          obtain rfl : y = 0 := HX0.out.2 hik
          have HA := Lib.hid (appI ((c : Int) % 10000) HOB.out.1 HOB.out.2.size)
          have hownA := HA.out.own; have hcellA := HA.out.cell; have honeA := HA.out.one; have hbigA := HA.out.big
          rw [HOL.out] at hownA
          go_wp2_with (at_builtin; refine wpList_append_own _ rfl _ _ 22 rfl w.heap.size 3 inf (.int .i64 0) 1 8 Tryz.underlying22 i1 i2 i3 i4 rfl (by decide) (.slice sa i sc) i _ rfl hownA ⟨wr.heap.size, 0, none⟩ 1 1 [Value.int .i64 ((c : Int) % 10000)] rfl rfl hcellA honeA hmx.1 hmx.2 hbigA ?_)
          intro v' W3 ho3 hg3 hnil
          rw [← HOL.out] at ho3
          have HD := Lib.hid (app_done (x := (c + 0 + 0) % 10000) (by omega) HA.out HOB.out.2 ho3 (by rw [HOL.out]; exact hg3))
          clear hnil ho3 hg3 hownA hcellA honeA hbigA i1 i2 i3 i4
          have hq : ((c : Int)) / 10000 = (((c + 0 + 0) / 10000 : Nat) : Int) := by omega
          have HQ := Lib.hid hq; clear hq
          go_wp2_with fail
          refine ⟨⟨i + 1, _, (c + 0 + 0) / 10000, HIN.out, hb1, by congr 1, ?_, Lib.hid ⟨HNX.out, HD.out⟩⟩, by simp [intOf]; omega⟩
          first | (rw [← HQ.out]) | trace_state
    · have hd1 : decide ((i : Int) < (n : Int)) = false := by rw [decide_eq_false_iff_not]; omega
      have hd2 : decide ((i : Int) < (k : Int)) = false := by rw [decide_eq_false_iff_not]; omega
      have hd3 : decide ((0 : Int) < (c : Int)) = false := by rw [decide_eq_false_iff_not]; omega
      have hc0 : c = 0 := by omega
      subst hc0
      have HF := Lib.hid (HI.out.1.fin (by rw [HN.out.1]; omega) (by rw [HN.out.2]; omega))
      have hRL := RL4.of_own HI.out.2.1
      rw [hol] at hRL
      have HRL := Lib.hid hRL; clear hRL
      have HW := Lib.hid (And.intro HI.out.1.sm HI.out.2.2)
      have HOL := Lib.hid hol
      rw [hol]
      clear HI hol hx0 hy0
      go_wp2_with fail
      go_ret
      exact ⟨⟨_, rfl, o, HRL.out, HW.out.1, HF.out, by rw [HOL.out]; omega, by rw [HOL.out]; omega⟩, HW.out.2⟩
end Go.Proofs.YteaeloeebfdodaaGreatDoor
