/- Part 12 of the proofs that laws of package whole answer true at every input and leave the input as it was, where the library's variables start as the text lays them (the texts F1, F3, M12). -/
import Derived.Test.YteggbenhffmijaaGreatDoorZ11
import Derived.Test.YteggbenhffmijaaGreatDoorZ06
import Derived.Maps.AppendAt
import Derived.Test.YteggbenhffmijaaGreatDoorZ10
import Derived.Lib.SmallJoins
import Derived.Test.YteggbenhffmijaaGreatDoorZ01
set_option linter.unusedVariables false
set_option linter.unusedSimpArgs false
/- WALKS, primes 1: the closure, least, primes. -/
namespace Go.Proofs.YteggbenhffmijaaGreatDoor
open Go.RowKit Go.Proofs.Rf
def lst : Nat → Nat → Nat → Nat
  | 0, p, _ => p
  | f + 1, p, n => if n % p = 0 ∨ n < p * p then p else lst f (p + 1) n
theorem lst_more : ∀ (f g p n : Nat), 0 < p → n + 1 - p < f → n + 1 - p < g → lst f p n = lst g p n := by
  intro f
  induction f with
  | zero => intro g p n _ h; omega
  | succ f ih =>
    intro g p n hp h h2
    cases g with
    | zero => omega
    | succ g =>
      rw [lst, lst]
      by_cases hc : n % p = 0 ∨ n < p * p
      · rw [if_pos hc, if_pos hc]
      · rw [if_neg hc, if_neg hc]
        have h3 : p ≤ n := by
          have h4 : p * p ≤ n := by omega
          exact Nat.le_trans (Nat.le_mul_of_pos_left p hp) h4
        exact ih g (p + 1) n (by omega) (by omega) (by omega)
theorem lst_step (p n : Nat) (hp : 0 < p) : lst (n + 1) p n = if n % p = 0 ∨ n < p * p then p else lst (n + 1) (p + 1) n := by
  rw [lst]
  by_cases hc : n % p = 0 ∨ n < p * p
  · rw [if_pos hc, if_pos hc]
  · rw [if_neg hc, if_neg hc]
    have h3 : p ≤ n := Nat.le_trans (Nat.le_mul_of_pos_left p hp) (by omega)
    exact lst_more n (n + 1) (p + 1) n (by omega) (by omega) (by omega)
theorem lst_ge : ∀ (f p n : Nat), p ≤ lst f p n := by
  intro f
  induction f with
  | zero => intro p n; exact Nat.le_refl _
  | succ f ih =>
    intro p n
    rw [lst]
    split
    · exact Nat.le_refl _
    · exact Nat.le_trans (Nat.le_succ p) (ih _ _)
theorem sq_le {p n : Nat} (h : p * p ≤ n) (hn : n ≤ 1000000) : p ≤ 1000 := by
  rcases Nat.lt_or_ge 1000 p with h1 | h1
  · have := Nat.mul_le_mul (show 1001 ≤ p from h1) (show 1001 ≤ p from h1); omega
  · exact h1
set_option maxHeartbeats 400000 in
theorem prime1_any (w : World) (pa : Addr) (d n : Nat) (hc : w.cell? pa = some (.int .i64 n)) (hd : 1 ≤ d ∧ d ≤ 1000001) (hn : n ≤ 1000000) :
    Calls Tryz.prog 235 #[.int .i64 d, .pointer (some pa)] w fun e w' => e = .returned (.bool (decide (n % d = 0 ∨ n < d * d))) ∧ w = w' := by
  have hz : ((d : Int) == 0) = false := by rw [beq_eq_false_iff_ne]; omega
  by_cases h0 : n % d = 0
  · have h1 : ((n : Int) % (d : Int) == 0) = true := by rw [beq_iff_eq]; omega
    rw [decide_eq_true (Or.inl h0 : n % d = 0 ∨ n < d * d)]
    clear h0
    go_enter Tryz.func235, Tryz.ntmps235
    go_wp2
    go_ret
    exact ⟨rfl, rfl⟩
  · have h1 : ((n : Int) % (d : Int) == 0) = false := by rw [beq_eq_false_iff_ne]; omega
    have hdd : d * d ≤ 1000001 * 1000001 := Nat.mul_le_mul hd.2 hd.2
    have h2 : decide ((n : Int) < (d : Int) * (d : Int)) = decide (n % d = 0 ∨ n < d * d) := by
      by_cases h : n < d * d
      · rw [decide_eq_true (Or.inr h : n % d = 0 ∨ n < d * d), decide_eq_true (by exact_mod_cast h)]
      · rw [decide_eq_false (by omega : ¬ (n % d = 0 ∨ n < d * d)), decide_eq_false (by exact_mod_cast h)]
    have hw : wrap64 ((d : Int) * (d : Int)) = (d : Int) * (d : Int) := by
      have : ((d * d : Nat) : Int) = (d : Int) * (d : Int) := by simp
      rw [← this]; simp only [wrap64]; omega
    have HW := Lib.hid hw
    rw [← h2]
    clear h0 h2
    go_enter Tryz.func235, Tryz.ntmps235
    go_wp2
    go_ret
    exact ⟨rfl, rfl⟩
set_option maxHeartbeats 400000 in
theorem least_any (w : World) (pa : Addr) (p n : Nat) (hc : w.cell? pa = some (.int .i64 n)) (hp : 1 ≤ p ∧ p ≤ 1000001) (hn : n ≤ 1000000) :
    Calls Tryz.prog 234 #[.int .i64 p, .func (.func 235) #[] #[.pointer (some pa)]] w fun e w' => e = .returned (.int .i64 (lst (n + 1) p n : Nat)) ∧ w = w' := by
  have hcall : ∀ (d : Int) (w : World), (callFunc 235 #[.int .i64 d, .pointer (some pa)]).run Tryz.prog w = .ok (.enter 235 #[.int .i64 d, .pointer (some pa)]) w := fun d w => by kernel_rfl
  go_enter Tryz.func234, Tryz.ntmps234
  go_wp2_with fail
  go_loopw [0] (fun i wr => ∃ d : Nat, i = .int .i64 d ∧ 1 ≤ d ∧ d ≤ 1000001 ∧ lst (n + 1) d n = lst (n + 1) p n ∧ wr = w) (fun i _ => n + 1 - (intOf i).toNat)
  case atStart => exact ⟨p, rfl, hp.1, hp.2, rfl, rfl⟩
  case round =>
    obtain ⟨d, rfl, hd1, hd2, he, rfl⟩ := hrel
    have HE := Lib.hid he; clear he
    have HP1 := Lib.hid (prime1_any wr pa d n hc ⟨hd1, hd2⟩ hn)
    by_cases hb : n % d = 0 ∨ n < d * d
    · rw [decide_eq_true hb] at HP1
      have hl : lst (n + 1) p n = d := by rw [← HE.out, lst_step d n hd1, if_pos hb]
      have HL := Lib.hid hl
      clear hb HE hl hc
      go_wp2_with fail
      refine HP1.out.mono ?_
      rintro e W ⟨rfl, rfl⟩
      go_wp2
      go_ret
      exact ⟨by rw [HL.out]; rfl, rfl⟩
    · rw [decide_eq_false hb] at HP1
      have hd3 := sq_le (show d * d ≤ n by omega) hn
      have hdn : d ≤ n := Nat.le_trans (Nat.le_mul_of_pos_left d hd1) (show d * d ≤ n by omega)
      have hl : Hid (lst (n + 1) (d + 1) n = lst (n + 1) p n) := Lib.hid (by rw [← HE.out, lst_step d n hd1, if_neg hb])
      clear hb HE hc
      go_wp2_with fail
      refine HP1.out.mono ?_
      rintro e W ⟨rfl, rfl⟩
      go_wp2
      exact ⟨⟨d + 1, by simp, by omega, by omega, hl.out, trivial⟩, by simp [intOf]; omega⟩
def prq (p n : Nat) : Nat := if n % lst (n + 1) p n = 0 then lst (n + 1) p n else n
def pr : Nat → Nat → Nat → List Nat
  | 0, _, _ => []
  | f + 1, p, n => if n ≤ 1 then [] else prq p n :: pr f (prq p n) (n / prq p n)
theorem prq_ge {p n : Nat} (hp : 2 ≤ p) (hn : 1 < n) : 2 ≤ prq p n := by
  unfold prq; split
  · exact Nat.le_trans hp (lst_ge _ _ _)
  · omega
theorem prq_le {p n : Nat} (hn : 1 < n) : prq p n ≤ n := by
  unfold prq; split
  · rename_i h; exact Nat.le_of_dvd (by omega) (Nat.dvd_of_mod_eq_zero h)
  · exact Nat.le_refl _
theorem pr_more : ∀ (f g p n : Nat), 2 ≤ p → n < f → n < g → pr f p n = pr g p n := by
  intro f
  induction f with
  | zero => intro g p n _ h; omega
  | succ f ih =>
    intro g p n hp h h2
    cases g with
    | zero => omega
    | succ g =>
      rw [pr, pr]
      by_cases hc : n ≤ 1
      · rw [if_pos hc, if_pos hc]
      · rw [if_neg hc, if_neg hc]
        have h3 := prq_ge hp (show 1 < n by omega)
        have h4 : n / prq p n < n := Nat.div_lt_self (by omega) (by omega)
        rw [ih g _ _ h3 (by omega) (by omega)]
theorem pr_step {p n : Nat} (hp : 2 ≤ p) (hn : 1 < n) : pr (n + 1) p n = prq p n :: pr (n / prq p n + 1) (prq p n) (n / prq p n) := by
  rw [pr, if_neg (by omega)]
  have h4 : n / prq p n < n := Nat.div_lt_self (by omega) (by have := prq_ge hp hn; omega)
  rw [pr_more n (n / prq p n + 1) _ _ (prq_ge hp hn) (by omega) (by omega)]
theorem pr_len : ∀ (f p n : Nat), 2 ≤ p → (pr f p n).length ≤ n := by
  intro f
  induction f with
  | zero => intro p n _; exact Nat.zero_le _
  | succ f ih =>
    intro p n hp
    rw [pr]
    by_cases hc : n ≤ 1
    · rw [if_pos hc]; exact Nat.zero_le _
    · rw [if_neg hc, List.length_cons]
      have h3 := prq_ge hp (show 1 < n by omega)
      have h4 : n / prq p n < n := Nat.div_lt_self (by omega) (by omega)
      have := ih (prq p n) (n / prq p n) h3
      omega
theorem div_ge_one {p n : Nat} (hp : 2 ≤ p) (hn : 1 < n) : 1 ≤ n / prq p n := Nat.div_pos (prq_le hn) (by have := prq_ge hp hn; omega)
theorem info_string : (Tryz.prog.info? 9).map (fun i => (i.zero, i.size, i.bytes)) = some (some (.string ⟨#[]⟩), 1, 16) := by kernel_rfl
theorem infoS : ∃ i, Tryz.prog.info? 9 = some i ∧ i.zero = some (.string ⟨#[]⟩) ∧ i.size = 1 ∧ i.bytes = 16 := by
  have h := info_string
  cases hi : Tryz.prog.info? 9 with
  | none => rw [hi] at h; cases h
  | some i => rw [hi] at h; simp at h; exact ⟨i, rfl, h.1, h.2.1, h.2.2⟩
/-- the memory of primes: the number that is left in its box, the texts so far in memory of their own -/
structure PrM (w wr : World) (v : Value) (n : Nat) (pre : List Nat) : Prop where
  c : wr.cell? ⟨w.heap.size, 0, none⟩ = some (.int .i64 n)
  f : wr.frozen? ⟨w.heap.size, 0, none⟩ = false
  own : wr.ownsRow (w.heap.size + 1) 9 1 v pre.length (pre.map fun q : Nat => txt (q : Int))
  below : Below w.heap.size w wr
  size : w.heap.size + 1 ≤ wr.heap.size
theorem own_shape {w : World} {base n : Nat} {e : TypeId} {v : Value} {xs : List Value} (h : w.ownsRow base e 1 v n xs) : ∃ a c, v = .slice a n c := by
  rcases h.2 with ⟨h, h0⟩ | ⟨g, c, _, h, _⟩
  · exact ⟨none, 0, by rw [h, h0]⟩
  · exact ⟨_, c, h⟩
set_option maxRecDepth 100000 in
set_option maxHeartbeats 1000000 in
theorem primes_any (w : World) (n : Nat) (hn : 1 ≤ n ∧ n ≤ 1000000) (htab : Tab w) :
    Calls Tryz.prog 150 #[.int .i64 n] w fun e w' => (∃ v, e = .returned v ∧ w'.ownsRow (w.heap.size + 1) 9 1 v (pr (n + 1) 2 n).length ((pr (n + 1) 2 n).map fun q : Nat => txt (q : Int))) ∧ Below w.heap.size w w' := by
  have hmf : ∀ (fn : Fn) (first cap : Array Value) (w : World), (Instr.makeFunc fn first cap).run Tryz.prog w = .ok (.func fn first cap) w := fun _ _ _ _ => rfl
  have HT := Lib.hid htab; clear htab
  go_enter Tryz.func150, Tryz.ntmps150
  go_wp2_with fail
  have hM0 : Hid (PrM w (w.alloc (Obj.cells #[.int .i64 n] 3)) (.slice none 0 0) n []) := Lib.hid ⟨by go_simp, by go_simp, World.ownsRow_nil _ _ _ _, (Below.refl _ _).alloc (Nat.le_refl _) _, by simp⟩
  generalize w.alloc (Obj.cells #[.int .i64 n] 3) = V at *
  have hLl : (pr (n + 1) 2 n).length ≤ 1000000 := Nat.le_trans (pr_len _ _ _ (by decide)) hn.2
  generalize hL : pr (n + 1) 2 n = L at *
  go_loopw [3, 4] (fun v3 v4 wr => ∃ (m p : Nat) (pre : List Nat), Hid (PrM w wr v3 m pre) ∧ v4 = .int .i64 p ∧ 2 ≤ p ∧ p ≤ 1000000 ∧ 1 ≤ m ∧ m ≤ 1000000 ∧ Hid (pre ++ pr (m + 1) p m = L)) (fun _ _ wr => match wr.cell? ⟨w.heap.size, 0, none⟩ with | some (.int _ z) => z.toNat | _ => 0)
  case atStart => exact ⟨n, 2, [], hM0, rfl, by decide, by decide, hn.1, hn.2, Lib.hid (by simpa using hL)⟩
  case round =>
    obtain ⟨m, p, pre, HM, rfl, hp1, hp2, hm1, hm2, HL⟩ := hrel
    have hpl : pre.length ≤ 1000000 := by have := congrArg List.length HL.out; rw [List.length_append] at this; omega
    obtain ⟨va, vc, rfl⟩ := own_shape HM.out.own
    have mc := HM.out.c
    have mf := HM.out.f
    have MC := Lib.hid mc
    by_cases hm : 1 < m
    · have hmd : decide (1 < (m : Int)) = true := by simp; omega
      have HLE := Lib.hid (least_any wr ⟨w.heap.size, 0, none⟩ p m mc ⟨by omega, by omega⟩ hm2)
      obtain ⟨d, hd⟩ : ∃ d, d = lst (m + 1) p m := ⟨_, rfl⟩
      obtain ⟨q, hq⟩ : ∃ q, q = prq p m := ⟨_, rfl⟩
      have hq2 := prq_ge hp1 hm
      have hqm := prq_le (p := p) hm
      have hst := pr_step hp1 hm
      have hm1' := div_ge_one hp1 hm
      rw [← hq] at hq2 hqm hst hm1'
      rw [← hd] at HLE
      rw [hst] at HL
      have hd2 : 2 ≤ d := by rw [hd]; exact Nat.le_trans hp1 (lst_ge _ _ _)
      have hdz : ((d : Int) == 0) = false := by rw [beq_eq_false_iff_ne]; omega
      have hqz : ((q : Int) == 0) = false := by rw [beq_eq_false_iff_ne]; omega
      have hml : m / q < m := Nat.div_lt_self (by omega) (by omega)
      have HTW := HT.out.mono HM.out.below
      have HIT := Lib.hid (itoa_txt q (by omega) wr HTW)
      clear HTW hst
      unfold txt at HIT
      by_cases h0 : m % d = 0
      · have hmb : ((m : Int) % (d : Int) != 0) = false := by rw [bne_eq_false_iff_eq]; omega
        have hqd : q = d := by rw [hq]; unfold prq; rw [← hd, if_pos h0]
        subst hqd
        have HQ := Lib.hid (And.intro hq hd); clear hq hd h0
        go_wp2_with fail
        refine HLE.out.mono ?_
        rintro e W ⟨rfl, rfl⟩
        go_wp2_with fail
        refine HIT.out.mono ?_
        rintro e W2 ⟨rfl, hb2⟩
        have hlw : w.heap.size < wr.heap.size := HM.out.size
        have hal : Below W2.heap.size W2 (W2.alloc (Obj.cells #[.string (str (Wh.decI (q : Int)))] 9)) := (Below.refl _ _).alloc (Nat.le_refl _) _
        have hbA : Below wr.heap.size wr (W2.alloc (Obj.cells #[.string (str (Wh.decI (q : Int)))] 9)) := hb2.trans (hal.mono hb2.size)
        have hownA : (W2.alloc (Obj.cells #[.string (str (Wh.decI (q : Int)))] 9)).ownsRow (w.heap.size + 1) 9 1 (.slice va pre.length vc) pre.length (pre.map fun q : Nat => txt (q : Int)) := ownsRow_onlyS HM.out.own (OnlyS.of_below (S := fun _ => False) hbA) (fun _ _ h => h)
        obtain ⟨inf, i1, i2, i3, i4⟩ := infoS
        have hcellA : ∀ (j : Nat) (u : Value), [Value.string (str (Wh.decI (q : Int)))][j]? = some u → (W2.alloc (Obj.cells #[.string (str (Wh.decI (q : Int)))] 9)).cell? ((⟨W2.heap.size, 0, none⟩ : Addr).add j) = some u := by
          intro j u hj
          cases j with
          | zero => cases hj; show (W2.alloc (Obj.cells #[.string (str (Wh.decI (q : Int)))] 9)).cell? ⟨W2.heap.size, 0, none⟩ = _; go_simp
          | succ j => cases j <;> cases hj
        have hzA : w.heap.size + 1 ≤ (W2.alloc (Obj.cells #[.string (str (Wh.decI (q : Int)))] 9)).heap.size := Nat.le_trans HM.out.size hbA.size
        have cA := (hbA.cell (p := ⟨w.heap.size, 0, none⟩) hlw).trans HM.out.c
        have fA := (hbA.frozen (p := ⟨w.heap.size, 0, none⟩) hlw).trans HM.out.f
        have hone : ∀ u ∈ [Value.string (str (Wh.decI (q : Int)))], u.oneCell' = true := by intro u hu; rw [List.mem_singleton.1 hu]; rfl
        have hmx : pre.length + 1 ≤ maxLen := by simp only [maxLen]; omega
        have hbt : (pre.length + 1) * 16 ≤ 140737488355328 := by omega
        go_wp2_with (at_builtin; refine wpList_append_own _ rfl _ _ 46 rfl (w.heap.size + 1) 9 inf (.string ⟨#[]⟩) 1 16 Tryz.underlying46 i1 i2 i3 i4 rfl (by decide) (.slice va pre.length vc) pre.length _ rfl hownA ⟨W2.heap.size, 0, none⟩ 1 1 [Value.string (str (Wh.decI (q : Int)))] rfl rfl hcellA hone hmx hbt hzA ?_)
        intro v' W3 ho3 hg3 hnil
        clear hnil hone hmx hbt
        have hgo := grownBy_onlyS hg3
        have hnob : ¬ ((Value.slice va pre.length vc).ownBlock = some w.heap.size) := fun e => by have := ownBlock_ge hownA e; omega
        have c3 := (hgo.cell (p := ⟨w.heap.size, 0, none⟩) hnob (by show w.heap.size < _; omega)).trans cA
        have f3 := (hgo.frozen (p := ⟨w.heap.size, 0, none⟩) hnob (by show w.heap.size < _; omega)).trans fA
        have hb3 : Below w.heap.size w W3 := (HM.out.below.trans (hbA.mono HM.out.below.size)).trans (hgo.below (B := w.heap.size) (fun k hk => by have := ownBlock_ge hownA hk; omega) (by omega))
        have HP3 : Hid (W3.ownsRow (w.heap.size + 1) 9 1 v' (pre.length + 1) (pre.map (fun q : Nat => txt (q : Int)) ++ [txt (q : Int)]) ∧ Below w.heap.size w W3 ∧ w.heap.size + 1 ≤ W3.heap.size) := Lib.hid ⟨ho3, hb3, Nat.le_trans hzA hgo.size⟩
        clear hal hbA hownA hcellA hzA cA fA hgo hg3 ho3 hb3 hb2 HM hnob i1 i2 i3 i4 mc mf
        go_wp2_with fail
        have hcs : (W3.setCell ⟨w.heap.size, 0, none⟩ (.int .i64 ((m / q : Nat) : Int))).cell? ⟨w.heap.size, 0, none⟩ = some (.int .i64 ((m / q : Nat) : Int)) := World.cell?_setCell_same _ _ _ c3
        have hPM : PrM w (W3.setCell ⟨w.heap.size, 0, none⟩ (.int .i64 ((m / q : Nat) : Int))) v' (m / q) (pre ++ [q]) := ⟨hcs, by rw [World.frozen?_setCell]; exact f3, by simpa using ownsRow_onlyS HP3.out.1 ((OnlyS.refl (fun k => k = w.heap.size) W3).setCell (p := ⟨w.heap.size, 0, none⟩) rfl _) (fun k hk e => by omega), HP3.out.2.1.setCell (Nat.le_refl _) _, by simpa using HP3.out.2.2⟩
        have hdv : ((m / q : Nat) : Int) = (m : Int) / (q : Int) := Int.natCast_ediv _ _
        rw [← hdv]
        refine ⟨⟨m / q, q, pre ++ [q], Lib.hid hPM, rfl, hq2, by omega, hm1', by omega, Lib.hid (by rw [List.append_assoc]; exact HL.out)⟩, ?_⟩
        rw [hcs, MC.out]
        show ((m / q : Nat) : Int).toNat < ((m : Nat) : Int).toNat
        omega

      · have hmb : ((m : Int) % (d : Int) != 0) = true := by rw [bne_iff_ne]; omega
        have hqd : q = m := by rw [hq]; unfold prq; rw [← hd, if_neg h0]
        subst hqd
        have HQ := Lib.hid (And.intro hq hd); clear hq hd h0
        go_wp2_with fail
        refine HLE.out.mono ?_
        rintro e W ⟨rfl, rfl⟩
        go_wp2_with fail
        refine HIT.out.mono ?_
        rintro e W2 ⟨rfl, hb2⟩
        have hlw : w.heap.size < wr.heap.size := HM.out.size
        have hal : Below W2.heap.size W2 (W2.alloc (Obj.cells #[.string (str (Wh.decI (q : Int)))] 9)) := (Below.refl _ _).alloc (Nat.le_refl _) _
        have hbA : Below wr.heap.size wr (W2.alloc (Obj.cells #[.string (str (Wh.decI (q : Int)))] 9)) := hb2.trans (hal.mono hb2.size)
        have hownA : (W2.alloc (Obj.cells #[.string (str (Wh.decI (q : Int)))] 9)).ownsRow (w.heap.size + 1) 9 1 (.slice va pre.length vc) pre.length (pre.map fun q : Nat => txt (q : Int)) := ownsRow_onlyS HM.out.own (OnlyS.of_below (S := fun _ => False) hbA) (fun _ _ h => h)
        obtain ⟨inf, i1, i2, i3, i4⟩ := infoS
        have hcellA : ∀ (j : Nat) (u : Value), [Value.string (str (Wh.decI (q : Int)))][j]? = some u → (W2.alloc (Obj.cells #[.string (str (Wh.decI (q : Int)))] 9)).cell? ((⟨W2.heap.size, 0, none⟩ : Addr).add j) = some u := by
          intro j u hj
          cases j with
          | zero => cases hj; show (W2.alloc (Obj.cells #[.string (str (Wh.decI (q : Int)))] 9)).cell? ⟨W2.heap.size, 0, none⟩ = _; go_simp
          | succ j => cases j <;> cases hj
        have hzA : w.heap.size + 1 ≤ (W2.alloc (Obj.cells #[.string (str (Wh.decI (q : Int)))] 9)).heap.size := Nat.le_trans HM.out.size hbA.size
        have cA := (hbA.cell (p := ⟨w.heap.size, 0, none⟩) hlw).trans HM.out.c
        have fA := (hbA.frozen (p := ⟨w.heap.size, 0, none⟩) hlw).trans HM.out.f
        have hone : ∀ u ∈ [Value.string (str (Wh.decI (q : Int)))], u.oneCell' = true := by intro u hu; rw [List.mem_singleton.1 hu]; rfl
        have hmx : pre.length + 1 ≤ maxLen := by simp only [maxLen]; omega
        have hbt : (pre.length + 1) * 16 ≤ 140737488355328 := by omega
        go_wp2_with (at_builtin; refine wpList_append_own _ rfl _ _ 46 rfl (w.heap.size + 1) 9 inf (.string ⟨#[]⟩) 1 16 Tryz.underlying46 i1 i2 i3 i4 rfl (by decide) (.slice va pre.length vc) pre.length _ rfl hownA ⟨W2.heap.size, 0, none⟩ 1 1 [Value.string (str (Wh.decI (q : Int)))] rfl rfl hcellA hone hmx hbt hzA ?_)
        intro v' W3 ho3 hg3 hnil
        clear hnil hone hmx hbt
        have hgo := grownBy_onlyS hg3
        have hnob : ¬ ((Value.slice va pre.length vc).ownBlock = some w.heap.size) := fun e => by have := ownBlock_ge hownA e; omega
        have c3 := (hgo.cell (p := ⟨w.heap.size, 0, none⟩) hnob (by show w.heap.size < _; omega)).trans cA
        have f3 := (hgo.frozen (p := ⟨w.heap.size, 0, none⟩) hnob (by show w.heap.size < _; omega)).trans fA
        have hb3 : Below w.heap.size w W3 := (HM.out.below.trans (hbA.mono HM.out.below.size)).trans (hgo.below (B := w.heap.size) (fun k hk => by have := ownBlock_ge hownA hk; omega) (by omega))
        have HP3 : Hid (W3.ownsRow (w.heap.size + 1) 9 1 v' (pre.length + 1) (pre.map (fun q : Nat => txt (q : Int)) ++ [txt (q : Int)]) ∧ Below w.heap.size w W3 ∧ w.heap.size + 1 ≤ W3.heap.size) := Lib.hid ⟨ho3, hb3, Nat.le_trans hzA hgo.size⟩
        clear hal hbA hownA hcellA hzA cA fA hgo hg3 ho3 hb3 hb2 HM hnob i1 i2 i3 i4 mc mf
        go_wp2_with fail
        have hcs : (W3.setCell ⟨w.heap.size, 0, none⟩ (.int .i64 ((q / q : Nat) : Int))).cell? ⟨w.heap.size, 0, none⟩ = some (.int .i64 ((q / q : Nat) : Int)) := World.cell?_setCell_same _ _ _ c3
        have hPM : PrM w (W3.setCell ⟨w.heap.size, 0, none⟩ (.int .i64 ((q / q : Nat) : Int))) v' (q / q) (pre ++ [q]) := ⟨hcs, by rw [World.frozen?_setCell]; exact f3, by simpa using ownsRow_onlyS HP3.out.1 ((OnlyS.refl (fun k => k = w.heap.size) W3).setCell (p := ⟨w.heap.size, 0, none⟩) rfl _) (fun k hk e => by omega), HP3.out.2.1.setCell (Nat.le_refl _) _, by simpa using HP3.out.2.2⟩
        have hdv : ((q / q : Nat) : Int) = (q : Int) / (q : Int) := Int.natCast_ediv _ _
        rw [← hdv]
        refine ⟨⟨q / q, q, pre ++ [q], Lib.hid hPM, rfl, hq2, by omega, hm1', by omega, Lib.hid (by rw [List.append_assoc]; exact HL.out)⟩, ?_⟩
        rw [hcs, MC.out]
        show ((q / q : Nat) : Int).toNat < ((q : Nat) : Int).toNat
        omega

    · have hmd : decide (1 < (m : Int)) = false := by simp; omega
      obtain rfl : m = 1 := by omega
      have hL2 : pre = L := by have := HL.out; rw [pr, if_pos (by decide), List.append_nil] at this; exact this
      subst hL2
      have HP := Lib.hid (And.intro HM.out.own HM.out.below)
      clear HM HL MC hmd
      go_wp2
      go_ret
      exact ⟨⟨_, rfl, by rw [hL]; exact HP.out.1⟩, HP.out.2⟩
end Go.Proofs.YteggbenhffmijaaGreatDoor

/- WALKS, primes 2: whole.Factor. -/
namespace Go.Proofs.YteggbenhffmijaaGreatDoor
open Go.RowKit Go.Proofs.Rf
theorem ownsRow_base {W : World} {base base' size n : Nat} {e : TypeId} {v : Value} {xs : List Value} (h : W.ownsRow base e size v n xs) (hb : base' ≤ base) : W.ownsRow base' e size v n xs := by
  refine ⟨h.1, ?_⟩
  rcases h.2 with h | ⟨g, cap, cur, h1, h2, h3⟩
  · exact .inl h
  · exact .inr ⟨g, cap, cur, h1, Nat.le_trans hb h2, h3⟩
set_option maxRecDepth 100000 in
set_option maxHeartbeats 400000 in
theorem attempt_goodR (K : Nat) (caps : Array Value) (n : Nat) (xs : List Value) (w : World) (hkc : ∀ (w : World), (callFunc K caps).run Tryz.prog w = .ok (.enter K caps) w)
    (hwork : ∀ w', Below w.heap.size w w' → w.heap.size + 1 ≤ w'.heap.size → Calls Tryz.prog K caps w' fun e w'' => (∃ v, e = .returned v ∧ w''.ownsRow (w.heap.size + 1) 9 1 v n xs) ∧ Below w'.heap.size w' w'') :
    Calls Tryz.prog 115 #[.func (Fn.func K) #[] caps] w fun e w' => (∃ v, e = .returned (.tuple #[v, .int .i64 0]) ∧ w'.ownsRow (w.heap.size + 1) 9 1 v n xs) ∧ Below w.heap.size w w' := by
  have hmf : ∀ (fn : Fn) (first cap : Array Value) (w : World), (Instr.makeFunc fn first cap).run Tryz.prog w = .ok (.func fn first cap) w := fun _ _ _ _ => rfl
  have HW := Lib.hid hwork; clear hwork
  go_enter_defers Tryz.func115, Tryz.ntmps115
  go_wp2_with fail
  refine (HW.out _ ((Below.refl _ _).alloc (Nat.le_refl _) _) (by simp)).mono ?_
  rintro e w1 ⟨⟨v, rfl, ho1⟩, hb1⟩
  obtain ⟨va, vc, rfl⟩ := own_shape ho1
  have hc : w1.cell? ⟨w.heap.size, 0, none⟩ = some (.int .i64 0) := (hb1.cell (p := ⟨w.heap.size, 0, none⟩) (by simp)).trans (by go_simp)
  have hf : w1.frozen? ⟨w.heap.size, 0, none⟩ = false := (hb1.frozen (p := ⟨w.heap.size, 0, none⟩) (by simp)).trans (by go_simp)
  have hbb : Below w.heap.size w w1 := ((Below.refl _ _).alloc (Nat.le_refl _) _).trans (hb1.mono (by simp))
  have hbs : Below w.heap.size w (w1.setCell ⟨w.heap.size, 0, none⟩ (.int .i64 0)) := hbb.setCell (Nat.le_refl _) _
  have hcs : (w1.setCell ⟨w.heap.size, 0, none⟩ (.int .i64 0)).cell? ⟨w.heap.size, 0, none⟩ = some (.int .i64 0) := World.cell?_setCell_same _ _ _ hc
  have HO : Hid ((w1.setCell ⟨w.heap.size, 0, none⟩ (.int .i64 0)).ownsRow (w.heap.size + 1) 9 1 (.slice va n vc) n xs) := Lib.hid (ownsRow_onlyS ho1 ((OnlyS.refl (fun k => k = w.heap.size) w1).setCell (p := ⟨w.heap.size, 0, none⟩) rfl _) (fun k hk e => by omega))
  clear hb1 hbb ho1
  go_wp2
  refine leaves_cons (f := 207) (args := #[.pointer (some ⟨w.heap.size, 0, none⟩)]) (by simp) (by simp [go_sem]) ?_
  refine (catch_idleL _ _).mono ?_
  rintro e u' w'' ⟨rfl, rfl, rfl⟩
  refine ⟨.tuple #[.slice va n vc, .int .i64 0], ?_, ⟨_, rfl, HO.out⟩, hbs⟩
  simp [results, Tryz.results115, go_sem, hcs]

def FCK (x lim : Int) : Nat → Value → World → Prop
  | 0, v, w => Num w v x
  | 1, v, w => Num w v lim
  | 2, v, _ => v = .int .i64 (cmpI x lim)
  | 3, v, _ => v = .bool true
  | 4, v, _ => v = .tuple #[]
  | _, _, _ => True
theorem FCK_stays (x lim : Int) : ∀ i v w w', FCK x lim i v w → Below w.heap.size w w' → FCK x lim i v w' := by
  intro i v w w' h hb
  match i, h with
  | 0, h | 1, h => exact Num.mono h hb
  | 2, h | 3, h | 4, h => exact h
  | _ + 5, h => trivial

set_option maxRecDepth 100000 in
set_option maxHeartbeats 1000000 in
theorem factor_work (w : World) (pa : Addr) (x : Int) (n B : Nat) (hxn : x = (n : Int)) (ha : w.cell? pa = some (txt x)) (hla : pa.block < w.heap.size) (hn : 1 ≤ n ∧ n ≤ 1000000) (hB : B ≤ w.heap.size) (hx : Valid x) (hv6 : Valid (1000000 : Int)) (hfx : Fit x) (hat : Lib.atoi (Wh.decI x) = some x) (hsz : (str (Wh.decI x)).size ≤ 18) (htab : Tab w) :
    Calls Tryz.prog 145 #[.pointer (some pa)] w fun e w' => (∃ v, e = .returned v ∧ w'.ownsRow B 9 1 v (pr (n + 1) 2 n).length ((pr (n + 1) 2 n).map fun q : Nat => txt (q : Int))) ∧ Below w.heap.size w w' := by
  have HPR := Lib.hid (fun (w : World) (ht : Tab w) => primes_any w n hn ht)
  obtain ⟨lim, hlim⟩ : ∃ lim : Int, lim = 1000000 := ⟨_, rfl⟩
  have HOF : Hid (∀ w, Tab w → Calls Tryz.prog 125 #[.int .i64 1000000] w fun e w' => (∃ v', e = .returned v' ∧ Num w' v' lim) ∧ Below w.heap.size w w') := Lib.hid (by rw [hlim]; exact fun w ht => of_any 1000000 (by decide) hv6 w ht)
  have HAT := Lib.hid (fun w : World => Tryz.strconv_Atoi (str (Wh.decI x)) x hsz hat w)
  have hci : Hid (decide (cmpI x lim ≤ 0) = true) := Lib.hid (by rw [hlim]; unfold cmpI; split <;> (try split) <;> first | rfl | omega)
  have HFX := Lib.hid hfx; clear hat hsz hfx hv6
  have hs1 : decide (0 < x.sign) = true := by rw [Int.sign_eq_one_of_pos (by omega)]; rfl
  have HCI := hci; clear hci hlim
  have HN := Lib.hid hn; clear hn
  have HXN := Lib.hid hxn; clear hxn
  have H1 := Lib.hid (read_any x hx w)
  have HTB := Lib.hid htab; clear htab
  unfold txt at ha H1
  go_enter Tryz.func145, Tryz.ntmps145
  go_wp2_with fail
  refine H1.out.mono ?_
  rintro e w1 ⟨⟨v1, rfl, hn1⟩, hb1⟩
  obtain ⟨s1, rfl, k1⟩ := hn1
  obtain ⟨p1, c1, rfl⟩ := k1.len
  have hal : Below w1.heap.size w1 (w1.alloc (Obj.cells #[Value.int IntKind.i64 x.sign, Value.slice p1 (Wh.limbs x.natAbs).length c1] 92)) := (Below.refl _ _).alloc (Nat.le_refl _) _
  have hBB := hb1.trans (hal.mono hb1.size)
  have kb := (hBB.cell hla).trans ha
  have ka : (w1.alloc (Obj.cells #[Value.int IntKind.i64 x.sign, Value.slice p1 (Wh.limbs x.natAbs).length c1] 92)).cell? ⟨w1.heap.size, 0, none⟩ = some (.int .i64 x.sign) := by go_simp
  have kc : (w1.alloc (Obj.cells #[Value.int IntKind.i64 x.sign, Value.slice p1 (Wh.limbs x.natAbs).length c1] 92)).cell? ⟨w1.heap.size, 1, none⟩ = some (.slice p1 (Wh.limbs x.natAbs).length c1) := by go_simp
  have hsz : (w1.alloc (Obj.cells #[Value.int IntKind.i64 x.sign, Value.slice p1 (Wh.limbs x.natAbs).length c1] 92)).heap.size = w1.heap.size + 1 := by simp
  have K1 := Lib.hid (k1.mono hal); have HB := Lib.hid hBB
  have hpb : pa.block < w1.heap.size := Nat.lt_of_lt_of_le hla hb1.size
  have hbw := hb1.size
  clear hal hBB k1 hb1 ha
  go_wp2_with fail
  generalize hX : (w1.alloc (Obj.cells #[Value.int IntKind.i64 x.sign, Value.slice p1 (Wh.limbs x.natAbs).length c1] 92)) = V at *
  clear hX
  generalize hsy : x.sign = Y at *
  have HSY := Lib.hid hsy; clear hsy
  generalize hnl : (Wh.limbs x.natAbs).length = NL at *
  refine (sign_any V Y _ _ _).mono ?_
  rintro e W2 ⟨rfl, hb2⟩
  have ka := (hb2.cell (p := ⟨w1.heap.size, 0, none⟩) (by show w1.heap.size < _; omega)).trans ka
  have kc := (hb2.cell (p := ⟨w1.heap.size, 1, none⟩) (by show w1.heap.size < _; omega)).trans kc
  have kb := (hb2.cell (p := pa) (by omega)).trans kb
  have K2 := Lib.hid (K1.out.mono hb2)
  have HB2 : Hid (Below w.heap.size w W2) := Lib.hid (HB.out.trans (hb2.mono HB.out.size))
  have hs2 := hb2.size
  clear hb2 K1 HB
  go_wp2_with fail
  refine (demand_yes _ _).mono ?_
  rintro e W3 ⟨rfl, rfl⟩
  have HT2 := Lib.hid (HTB.out.mono HB2.out)
  go_wp2_with fail
  refine wp_mono (Q := fun e a W' => e = .normal ∧ (∃ vals : Nat → Value, a = { tmps := #[.pointer (some pa), .slice none 0 0, .pointer (some ⟨w1.heap.size, 0, none⟩), undef, undef, .string (str (Wh.decI x)), .agg #[.int .i64 Y, .slice p1 NL c1], .agg #[.int .i64 Y, .slice p1 NL c1], .int .i64 Y, .bool true, .tuple #[], vals 0, vals 1, vals 2, vals 3, vals 4, undef, undef, undef, undef, undef, undef, undef], defers := [] }) ∧ Below W2.heap.size W2 W') ?_ ?_
  refine Rt.wp_region_grow (n0 := 0) [] [] 23 (fun vals => { tmps := #[.pointer (some pa), .slice none 0 0, .pointer (some ⟨w1.heap.size, 0, none⟩), undef, undef, .string (str (Wh.decI x)), .agg #[.int .i64 Y, .slice p1 NL c1], .agg #[.int .i64 Y, .slice p1 NL c1], .int .i64 Y, .bool true, .tuple #[], vals 0, vals 1, vals 2, vals 3, vals 4, undef, undef, undef, undef, undef, undef, undef], defers := [] }) (FCK x lim) (by kernel_rfl) (by kernel_rfl) (by kernel_rfl) (by kernel_rfl) (fun _ _ _ _ _ h => absurd h.1 (by simp)) (by kernel_rfl) rfl (fun _ => by kernel_rfl) (by kernel_rfl) (by kernel_rfl) (FCK_stays _ _) ?_ ?_ ?_
  · intro i o d hi hT hW hd vals w' hb hf
    have hlt : i < 5 := (Array.getElem?_eq_some_iff.1 hi).1
    rcases i with _ | _ | _ | _ | _ | i
    · obtain rfl := Option.some.inj hi
      obtain rfl := Option.some.inj hd
      have z0 := (hb.cell (p := ⟨w1.heap.size, 0, none⟩) (by show w1.heap.size < _; omega)).trans ka
      have z1 := (hb.cell (p := ⟨w1.heap.size, 1, none⟩) (by show w1.heap.size < _; omega)).trans kc
      have ZS := Lib.hid (K2.out.mono hb)
      dsimp only
      go_simp
      exact ⟨⟨_, congrArg (fun s => Value.agg #[.int .i64 s, Value.slice p1 NL c1]) HSY.out.symm, ZS.out⟩, Below.refl _ _⟩
    · obtain rfl := Option.some.inj hi
      obtain rfl := Option.some.inj hd
      dsimp only
      go_simp
      refine (HOF.out w' (HT2.out.mono hb)).mono ?_
      rintro e w5 ⟨⟨v5, rfl, hn5⟩, hb5⟩
      exact ⟨hn5, hb5⟩
    · obtain rfl := Option.some.inj hi
      obtain rfl := Option.some.inj hd
      have h0 : Num w' (vals 0) _ := hf 0 (by kernel_rfl)
      have h4 : Num w' (vals 1) _ := hf 1 (by kernel_rfl)
      have HP := compare_any w' _ _ _ _ h0 h4 HFX.out
      obtain ⟨s0, e0, -⟩ := h0
      obtain ⟨s4, e4, -⟩ := h4
      rw [e0, e4] at HP
      have HP := Lib.hid HP
      dsimp only
      rw [e0, e4]
      go_simp
      refine HP.out.mono ?_
      rintro e w5 ⟨rfl, hb5⟩
      exact ⟨rfl, hb5⟩
    · obtain rfl := Option.some.inj hi
      obtain rfl := Option.some.inj hd
      have e0 : vals 2 = _ := hf 2 (by kernel_rfl)
      dsimp only
      rw [e0]
      go_simp
      exact ⟨by first | rfl | exact congrArg Value.bool HCI.out, Below.refl _ _⟩
    · obtain rfl := Option.some.inj hi
      obtain rfl := Option.some.inj hd
      have e3 : vals 3 = _ := hf 3 (by kernel_rfl)
      dsimp only
      rw [e3]
      go_simp
      refine (demand_yes _ _).mono ?_
      rintro e w5 ⟨rfl, rfl⟩
      exact ⟨rfl, Below.refl _ _⟩
    · omega
  · intro p o d hi hW hd vals w' hb hf
    cases hW
  · intro vals w' hb hf
    exact Rt.wpAny_end (by kernel_rfl) ⟨rfl, ⟨vals, rfl⟩, hb⟩
  rintro e a W5 ⟨rfl, ⟨vals, rfl⟩, hb5⟩
  have kb := (hb5.cell (p := pa) (by omega)).trans kb
  have HB5 : Hid (Below w.heap.size w W5) := Lib.hid (HB2.out.trans (hb5.mono HB2.out.size))
  have hs5 := hb5.size
  have HA5 := Lib.hid (HAT.out W5)
  generalize vals 0 = v0; generalize vals 1 = v1; generalize vals 2 = v2; generalize vals 3 = v3; generalize vals 4 = v4
  clear hb5 HAT ka kc
  go_wp2_with fail
  refine HA5.out.mono ?_
  rintro e W6 ⟨rfl, t, rfl⟩
  have HB6 : Hid (Below w.heap.size w (Lib.bytesWorld W5 5 t)) := Lib.hid (HB5.out.trans (Joins.below_bytesWorld _ _ _ _ HB5.out.size))
  clear HA5 HB5
  generalize Lib.bytesWorld W5 5 t = W6 at *
  have HP6 := Lib.hid (HPR.out W6 (HTB.out.mono HB6.out))
  rw [HXN.out]
  go_wp2_with fail
  refine HP6.out.mono ?_
  rintro e W7 ⟨⟨v, rfl, ho⟩, hb7⟩
  have HO := Lib.hid (And.intro (ownsRow_base ho (Nat.le_trans hB (Nat.le_trans HB6.out.size (Nat.le_succ _)))) (HB6.out.trans (hb7.mono HB6.out.size)))
  clear ho hb7
  go_wp2
  go_ret
  exact ⟨⟨_, rfl, HO.out.1⟩, HO.out.2⟩

set_option maxRecDepth 100000 in
set_option maxHeartbeats 400000 in
theorem Factor_any (w : World) (x : Int) (n : Nat) (hxn : x = (n : Int)) (hn : 1 ≤ n ∧ n ≤ 1000000) (hx : Valid x) (hv6 : Valid (1000000 : Int)) (hfx : Fit x) (hat : Lib.atoi (Wh.decI x) = some x) (hsz : (str (Wh.decI x)).size ≤ 18) (htab : Tab w) :
    Calls Tryz.prog 68 #[txt x] w fun e w' => (∃ v, e = .returned (.tuple #[v, .int .i64 0]) ∧ w'.ownsRow w.heap.size 9 1 v (pr (n + 1) 2 n).length ((pr (n + 1) 2 n).map fun q : Nat => txt (q : Int))) ∧ Below w.heap.size w w' := by
  have hmf : ∀ (fn : Fn) (first cap : Array Value) (w : World), (Instr.makeFunc fn first cap).run Tryz.prog w = .ok (.func fn first cap) w := fun _ _ _ _ => rfl
  have HAT := Lib.hid (fun (w : World) (pa : Addr) (ka : w.cell? pa = some (txt x)) (htab : Tab w) (ha : pa.block < w.heap.size) => attempt_goodR 145 #[.pointer (some pa)] (pr (n + 1) 2 n).length ((pr (n + 1) 2 n).map fun q : Nat => txt (q : Int)) w (fun w => by kernel_rfl) (fun w' hb' hs' => factor_work w' pa x n (w.heap.size + 1) hxn ((hb'.cell ha).trans ka) (Nat.lt_of_lt_of_le ha hb'.size) hn hs' hx hv6 hfx hat hsz (htab.mono hb')))
  have HTB := Lib.hid htab; clear htab hat hsz hfx hv6 hx hn hxn
  generalize (pr (n + 1) 2 n).map (fun q : Nat => txt (q : Int)) = xs at *
  generalize (pr (n + 1) 2 n).length = nl at *
  unfold txt at *
  go_enter Tryz.func68, Tryz.ntmps68
  go_wp2_with fail
  have hal : Below w.heap.size w (w.alloc (.cells #[.string (str (Wh.decI x))] 9)) := (Below.refl _ _).alloc (Nat.le_refl _) _
  have b0 : (w.alloc (.cells #[.string (str (Wh.decI x))] 9)).cell? ⟨w.heap.size, 0, none⟩ = some (.string (str (Wh.decI x))) := by go_simp
  refine (HAT.out _ _ b0 (HTB.out.mono hal) (by simp)).mono ?_
  rintro e w2 ⟨⟨v, rfl, ho⟩, hb2⟩
  have hbb := hal.trans (hb2.mono hal.size)
  have HO := Lib.hid (And.intro (ownsRow_base ho (by simp; omega : w.heap.size ≤ _)) hbb)
  clear hal b0 hb2 ho hbb
  go_wp2
  go_ret2
  exact ⟨⟨_, rfl, HO.out.1⟩, HO.out.2⟩
theorem dec_360 : Wh.decI 360 = [51, 54, 48] := by
  unfold Wh.decI
  rw [if_neg (by decide), show (360 : Int).natAbs = 360 from rfl, Wh.decN_big (by decide), Wh.decN_big (by decide), Wh.decN_small (by decide)]
  rfl
theorem pr_360 : pr 361 2 360 = [2, 2, 2, 3, 3, 5] := by kernel_rfl
theorem Factor_360 (w : World) (htab : Tab w) :
    Calls Tryz.prog 68 #[txt 360] w fun e w' => (∃ v, e = .returned (.tuple #[v, .int .i64 0]) ∧ w'.ownsRow w.heap.size 9 1 v 6 ([2, 2, 2, 3, 3, 5].map fun q : Nat => txt (q : Int))) ∧ Below w.heap.size w w' := by
  have h := Factor_any w 360 360 rfl (by decide) (valid9 _ (by decide)) (valid9 _ (by decide)) (fit9 _ (by decide)) (by rw [dec_360]; rfl) (by rw [dec_360]; decide) htab
  rw [pr_360] at h
  exact h
end Go.Proofs.YteggbenhffmijaaGreatDoor

/- ARITHMETIC: blend, x a + y b by limbs. -/
namespace Wh
/-- what goes on to the limb k -/
def blOn (x y : Int) (a b : Nat → Nat) : Nat → Int
  | 0 => 0
  | k + 1 => (blOn x y a b k + x * a k + y * b k) / 1000000000
/-- the limb k -/
def blDig (x y : Int) (a b : Nat → Nat) (k : Nat) : Nat := ((blOn x y a b k + x * a k + y * b k) % 1000000000).toNat
theorem blDig_lt (x y : Int) (a b : Nat → Nat) (k : Nat) : blDig x y a b k < 1000000000 := by
  unfold blDig
  have h1 := Int.emod_nonneg (blOn x y a b k + x * a k + y * b k) (show (1000000000 : Int) ≠ 0 by decide)
  have h2 := Int.emod_lt_of_pos (blOn x y a b k + x * a k + y * b k) (show (0 : Int) < 1000000000 by decide)
  omega
/-- a product of two numbers that are nearer to 0 than the radix -/
theorem small_prod (x : Int) (a : Nat) (hx : -1000000000 < x ∧ x < 1000000000) (ha : a < 1000000000) : -1000000000000000000 ≤ x * a ∧ x * a ≤ 1000000000000000000 := by
  have h1 : (x * a).natAbs = x.natAbs * a := by rw [Int.natAbs_mul, Int.natAbs_natCast]
  have h2 : x.natAbs * a ≤ 1000000000 * 1000000000 := Nat.mul_le_mul (by omega) (by omega)
  omega
theorem blOn_range (x y : Int) (a b : Nat → Nat) (hx : -1000000000 < x ∧ x < 1000000000) (hy : -1000000000 < y ∧ y < 1000000000) (ha : ∀ k, a k < 1000000000) (hb : ∀ k, b k < 1000000000) : ∀ k, -3000000000 ≤ blOn x y a b k ∧ blOn x y a b k ≤ 3000000000 := by
  intro k
  induction k with
  | zero => unfold blOn; omega
  | succ k ih =>
    unfold blOn
    have h1 := small_prod x (a k) hx (ha k)
    have h2 := small_prod y (b k) hy (hb k)
    omega
theorem bl_sum (x y : Int) (a b : Nat → Nat) : ∀ n, (sum (blDig x y a b) n : Int) + (R : Int) ^ n * blOn x y a b n = x * (sum a n : Nat) + y * (sum b n : Nat) := by
  intro n
  induction n with
  | zero => simp [sum, blOn]
  | succ n ih =>
    have e : (blDig x y a b n : Int) + 1000000000 * blOn x y a b (n + 1) = blOn x y a b n + x * a n + y * b n := by
      unfold blDig
      rw [show blOn x y a b (n + 1) = (blOn x y a b n + x * a n + y * b n) / 1000000000 from rfl]
      generalize blOn x y a b n + x * a n + y * b n = t
      omega
    have hR : (R : Int) = 1000000000 := rfl
    simp only [sum, Int.natCast_add, Int.natCast_mul, Int.natCast_pow]
    rw [Int.pow_succ]
    generalize (R : Int) ^ n = P at *
    rw [hR]
    have e2 : P * (blDig x y a b n : Int) + P * 1000000000 * blOn x y a b (n + 1) = P * (blOn x y a b n + x * a n + y * b n) := by rw [← e, Int.mul_add, Int.mul_assoc]
    rw [Int.mul_add, Int.mul_add] at e2
    rw [Int.mul_add, Int.mul_add]
    have c1 : P * (x * (a n : Int)) = x * (P * a n) := by rw [← Int.mul_assoc, Int.mul_comm P x, Int.mul_assoc]
    have c2 : P * (y * (b n : Int)) = y * (P * b n) := by rw [← Int.mul_assoc, Int.mul_comm P y, Int.mul_assoc]
    rw [c1, c2] at e2
    omega
theorem blend_end (x y : Int) (la lb : List Nat) (n : Nat) (hx : -1000000000 < x ∧ x < 1000000000) (hy : -1000000000 < y ∧ y < 1000000000) (ha : Ok la) (hb : Ok lb) (hna : la.length + 2 ≤ n) (hnb : lb.length + 2 ≤ n) (hZ : 0 ≤ x * (val la : Nat) + y * (val lb : Nat)) :
    val ((List.range n).map (blDig x y (la.getD · 0) (lb.getD · 0))) = (x * (val la : Nat) + y * (val lb : Nat)).natAbs := by
  have h := bl_sum x y (la.getD · 0) (lb.getD · 0) n
  rw [← val_sum_ge la n (by omega), ← val_sum_ge lb n (by omega)] at h
  have hlt : sum (blDig x y (la.getD · 0) (lb.getD · 0)) n < R ^ n := sum_lt fun i _ => blDig_lt _ _ _ _ _
  rw [val_map_range]
  have bound : ∀ (z : Int) (l : List Nat), -1000000000 < z ∧ z < 1000000000 → Ok l → l.length + 2 ≤ n → z * (val l : Nat) < (R ^ (n - 1) : Nat) := by
    intro z l hz hl hn
    have h1 := val_lt hl
    have h2 : R ^ l.length ≤ R ^ (n - 2) := Nat.pow_le_pow_right (by decide) (by omega)
    have h3 : R ^ (n - 1) = 1000000000 * R ^ (n - 2) := by rw [show n - 1 = (n - 2) + 1 by omega, Nat.pow_succ, Nat.mul_comm]; rfl
    have h4 : (z * (val l : Nat)).natAbs = z.natAbs * val l := by rw [Int.natAbs_mul, Int.natAbs_natCast]
    have h5 : z.natAbs * val l ≤ 1000000000 * val l := Nat.mul_le_mul_right _ (by omega)
    omega
  have b1 := bound x la hx ha hna
  have b2 := bound y lb hy hb hnb
  have h3 : R ^ n = 1000000000 * R ^ (n - 1) := by rw [show n = (n - 1) + 1 by omega, Nat.pow_succ, Nat.mul_comm]; rfl
  have e : ((R : Int) ^ n) = ((R ^ n : Nat) : Int) := by rw [Int.natCast_pow]
  rw [e] at h
  generalize R ^ n = P at *
  generalize x * (val la : Nat) = X at *
  generalize y * (val lb : Nat) = Y at *
  generalize sum (blDig x y (la.getD · 0) (lb.getD · 0)) n = S at *
  generalize blOn x y (la.getD · 0) (lb.getD · 0) n = o at *
  have ho : o = 0 := by
    rcases Int.lt_trichotomy o 0 with h0 | h0 | h0
    · have : (P : Int) * o ≤ P * (-1) := Int.mul_le_mul_of_nonneg_left (by omega) (by omega)
      omega
    · exact h0
    · have : (P : Int) * 1 ≤ P * o := Int.mul_le_mul_of_nonneg_left (by omega) (by omega)
      omega
  subst ho
  rw [Int.mul_zero] at h
  omega
end Wh
