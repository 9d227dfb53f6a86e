/- Part 32 of the proofs that laws of package whole answer true at every input and leave the input as it was, where the library's variables start as the text lays them (the texts U12, U13, U14, X4, X6, R8). -/
import Derived.Test.YteaeloeebfdodaaGreatDoorZ31
import Derived.Laws.AppendOwnNone
import Derived.Test.YteaeloeebfdodaaGreatDoorZ25
import Derived.Test.YteaeloeebfdodaaGreatDoorZ06
import Derived.Test.YteaeloeebfdodaaGreatDoorZ27
import Derived.Test.YteaeloeebfdodaaGreatDoorZ26
set_option linter.unusedVariables false
set_option linter.unusedSimpArgs false
namespace Go.Proofs.YteaeloeebfdodaaGreatDoor
open Go.RowKit Go.Proofs.Rf
theorem run_append_none_c {P : Program} {w : World} (base : Nat) (t ty e : TypeId) (i : TypeInfo) (size : Nat) (ht : P.underlying t = some (.slice e)) (hi : P.info? e = some i)
    (v : Value) (n : Nat) (xs : List Value) (hown : w.ownsRow base e size v n xs) (c : Nat) :
    (Builtin.append_ #[t, t] ty #[v, .slice none 0 c]).run P w = .ok v w := by
  rcases hown.2 with ⟨rfl, rfl⟩ | ⟨g, cap, cur, rfl, _, _, hnc, _⟩
  · simp [Builtin.append_, run_underlying ht, sizeOf, typeInfo, hi, Builtin.lenOf, Builtin.firstCells]
  · simp [Builtin.append_, run_underlying ht, sizeOf, typeInfo, hi, Builtin.lenOf, Builtin.firstCells, hnc, storeCells]
theorem wpList_append_il {w : World} {ops : Array Oper} {rest : List Oper} {o : Oper} {a : Act} {Q : Exit → Act → World → Prop} (hgd : o.guard = none) (s x : Operand)
    (ho : o.op = .call { callee := .builtin .append, args := #[s, x], argTypes := #[22, 22] })
    (base : Nat) (v : Value) (l : List Nat) (hs : a.eval s = v) (hown : w.ownsRow base 3 1 v l.length (i64s l))
    (ra : Option Addr) (c : Nat) (r : List Nat) (hx : a.eval x = .slice ra r.length c) (hr : Il w ra r.length r)
    (hm : l.length + r.length ≤ 1000000) (hbase : base ≤ w.heap.size)
    (h : ∀ v' w', w'.ownsRow base 3 1 v' (l ++ r).length (i64s (l ++ r)) → w.grownBy w' v.ownBlock → wpList Tryz.prog ops Q rest (a.put o.dst v') w') : wpList Tryz.prog ops Q (o :: rest) a w := by
  obtain ⟨inf, i1, i2, i3, i4⟩ := infoI
  have hap : i64s l ++ i64s r = i64s (l ++ r) := by simp [i64s]
  cases r with
  | nil =>
    have hdone : wpList Tryz.prog ops Q rest (a.put o.dst v) w := h v w (by rw [List.append_nil]; exact hown) (World.grownBy.refl _ _)
    cases ra with
    | none =>
      refine wpList_plain hgd fun K hK => ?_
      have hrun := run_append_none_c (P := Tryz.prog) (w := w) base 22 o.type 3 inf 1 Tryz.underlying22 i1 v l.length (i64s l) hown c
      unfold Oper.wp
      simp [execOp, ho, resolve, invoke, builtin, hs, hx, hrun, Result.andThen]
      exact hK _ _ hdone
    | some p =>
      refine wpList_append_own _ hgd s x 22 ho base 3 inf (.int .i64 0) 1 8 Tryz.underlying22 i1 i2 i3 i4 rfl (by decide) v l.length _ hs hown p 0 c [] hx rfl (fun j u hj => by cases j <;> cases hj) (fun u hu => by cases hu) (maxI (n := l.length) (by omega) |>.1 |> fun q => by omega) (by omega) hbase ?_
      intro v' w' h1 h2 _
      exact h v' w' (by simpa using h1) h2
  | cons y r =>
    obtain ⟨b, off, rfl, hb, hc⟩ := hr 0 (by simp)
    refine wpList_append_own _ hgd s x 22 ho base 3 inf (.int .i64 0) 1 8 Tryz.underlying22 i1 i2 i3 i4 rfl (by decide) v l.length _ hs hown ⟨b, off, none⟩ (y :: r).length c (i64s (y :: r)) hx (by simp [i64s]) ?_ ?_ (by simp only [maxLen]; omega) (by omega) hbase ?_
    · intro j u hj
      have hlt : j < (y :: r).length := by
        have := (List.getElem?_eq_some_iff.1 hj).1
        simpa [i64s] using this
      rw [show (⟨b, off, none⟩ : Addr).add j = ⟨b, off + j, none⟩ from by simp [Addr.add], hc j hlt, ← hj]
      simp only [i64s, List.getElem?_map, List.getElem?_eq_getElem hlt, Option.map_some, List.getD_eq_getElem?_getD, Option.getD_some]
    · intro u hu
      obtain ⟨q, _, rfl⟩ := List.mem_map.1 hu
      rfl
    · intro v' w' h1 h2 _
      rw [hap] at h1
      exact h v' w' (by rw [List.length_append]; exact h1) h2
structure OVS (w wr : World) (l1 l2 : List Nat) (i : Nat) (rv : Value) (quo r : List Nat) : Prop where
  ov : OVI l1 l2 i quo (val4 r)
  own : OwnJ wr w.heap.size quo
  rl : RL4 wr rv r
  sr : Sm4 r
  tr : Top r
  only : Only w.heap.size w wr
structure OVG (w wr : World) (l2 : List Nat) (rv : Value) (quo r : List Nat) (g : Nat) : Prop where
  ge : val4 r / val4 l2 ≤ g
  lt : g ≤ 9999
  own : OwnJ wr w.heap.size quo
  rl : RL4 wr rv r
  far : ∀ b off k c, rv = .slice (some ⟨b, off, none⟩) k c → w.heap.size < b
  only : Only w.heap.size w wr
theorem rem_len {r m : List Nat} (sm : Sm4 m) (tr : Top r) (h : val4 r < val4 m) : r.length ≤ m.length := by
  rcases Nat.lt_or_ge m.length r.length with h1 | h1
  · have := val4_lt_len sm tr h1; omega
  · exact h1
theorem Il.setCell_far {w : World} {a : Option Addr} {n : Nat} {l : List Nat} {g : Nat} (j : Nat) (v : Value) (h : Il w a n l) (hf : ∀ b off, a = some ⟨b, off, none⟩ → g < b) : Il (w.setCell ⟨g, j, none⟩ v) a n l := fun i hi => by
  obtain ⟨b, off, e, hl, hc⟩ := h i hi
  have hg := hf b off e
  refine ⟨b, off, e, by simpa using hl, fun q hq => ?_⟩
  rw [World.cell?_setCell_other _ _ _ _ (by intro e'; have := congrArg Addr.block e'; simp at this; omega)]
  exact hc q hq
theorem OVG.stored {w wr : World} {l1 l2 quo r : List Nat} {rv : Value} {g j : Nat} (h : OVG w wr l2 rv quo r g) (hj : j < quo.length) :
    wr.cell? ⟨w.heap.size, j, none⟩ = some (.int .i64 (quo.getD j 0 : Nat)) ∧ wr.frozen? ⟨w.heap.size, j, none⟩ = false ∧
    OwnJ (wr.setCell ⟨w.heap.size, j, none⟩ (.int .i64 g)) w.heap.size (quo.set j g) ∧ Only w.heap.size w (wr.setCell ⟨w.heap.size, j, none⟩ (.int .i64 g)) ∧ RL4 (wr.setCell ⟨w.heap.size, j, none⟩ (.int .i64 g)) rv r := by
  refine ⟨h.own.cell j hj, h.own.free j hj, h.own.set hj g _ rfl, h.only.setCell j _, ?_⟩
  obtain ⟨a, c, rfl, hil, hc⟩ := h.rl
  exact ⟨a, c, rfl, hil.setCell_far j _ (fun b off e => h.far b off _ _ (by rw [e])), hc⟩
set_option maxRecDepth 100000 in
set_option maxHeartbeats 4000000 in
theorem rover_any (w : World) (v1 v2 : Value) (l1 l2 : List Nat) (h1 : RL4 w v1 l1) (h2 : RL4 w v2 l2) (s1 : Sm4 l1) (s2 : Sm4 l2) (t2 : Top l2) (h0 : 0 < l2.length) (hm : l1.length ≤ 10000) (hm2 : l2.length ≤ 10000) :
    Calls Tryz.prog 128 #[v1, v2] w fun e w' => (∃ qv rv, ∃ q r : List Nat, e = .returned (.tuple #[qv, rv]) ∧ RL4 w' qv q ∧ RL4 w' rv r ∧ Sm4 q ∧ Sm4 r ∧ Top q ∧ Top r ∧ val4 q = val4 l1 / val4 l2 ∧ val4 r = val4 l1 % val4 l2 ∧ q.length ≤ l1.length ∧ r.length ≤ l2.length) ∧ Below w.heap.size w w' := by
  have hpos : 0 < val4 l2 := by
    rcases Nat.eq_zero_or_pos (val4 l2) with h | h
    · rw [(val4_eq_zero t2).1 h] at h0; simp at h0
    · exact h
  obtain ⟨a1, c1, rfl, hc1, -⟩ := h1
  have hmk := run_make_ints l1.length (by omega) w (l1.length : Int) rfl
  have hal : Below w.heap.size w (w.alloc (.cells (zerosJ l1.length) 3)) := (Below.refl _ _).alloc (Nat.le_refl _) _
  have HC1 := Lib.hid hc1; clear hc1
  have H2 := Lib.hid h2; clear h2
  have HS := Lib.hid (And.intro s1 (And.intro s2 (And.intro t2 hpos))); clear s1 s2 t2 hpos
  have HI0 : Hid (OVS w (w.alloc (.cells (zerosJ l1.length) 3)) l1 l2 l1.length (.slice none 0 0) (List.replicate l1.length 0) []) :=
    Lib.hid ⟨OVI.start _ _ HS.out.2.2.2, ownJ_make _ _, RL4.nil _, Sm4.nil, .inl rfl, Only.of_below hal⟩
  clear hal
  generalize hn : l1.length = n at *
  generalize hk : l2.length = k at *
  have HN := Lib.hid (And.intro hn hk); clear hn hk
  generalize w.alloc (.cells (zerosJ n) 3) = W0 at *
  go_enter Tryz.func128, Tryz.ntmps128
  go_wp2_with fail
  go_loopw [7, 8] (fun rv iv wr => ∃ (i : Nat) (quo r : List Nat), i ≤ n ∧ iv = .int .i64 ((i : Int) - 1) ∧ Hid (OVS w wr l1 l2 i rv quo r)) (fun _ iv _ => (intOf iv + 1).toNat)
  case atStart => exact ⟨n, _, [], Nat.le_refl _, rfl, HI0⟩
  case round =>
    clear HI0
    obtain ⟨i, quo, r, hi, rfl, HI⟩ := hrel
    by_cases hi0 : i = 0
    · subst hi0
      have hd1 : decide ((0 : Int) ≤ ((0 : Nat) : Int) - 1) = false := by decide
      have hql : quo.length = n := by rw [HI.out.ov.len, HN.out.1]
      obtain ⟨a', c', e', hil, hlc⟩ := HI.out.own.rl
      rw [hql] at e' hil hlc
      simp only [Value.slice.injEq] at e'
      obtain ⟨rfl, _, rfl⟩ := e'
      have HT := Lib.hid (rtrim_any wr _ _ quo n hil (by omega) hlc)
      have HIL := Lib.hid (And.intro hil (And.intro hlc hql))
      clear hil hlc hql
      go_wp2_with fail
      refine HT.out.mono ?_
      rintro e w2 ⟨⟨m, rfl, hq1, hq2, hq3⟩, rfl⟩
      go_wp2
      go_ret2
      obtain ⟨e1, e2, e3⟩ := HIL.out
      have hf := HI.out.ov.eq
      have hlt := HI.out.ov.lt
      rw [List.drop_zero, List.drop_zero] at hf
      have hvt : val4 (quo.take m) = val4 quo := val4_zeros quo m (fun j h1 h2 => hq2 j h1 (by rw [e3] at h2; exact h2))
      refine ⟨⟨_, _, quo.take m, r, rfl, RL4.cut (by rw [e3]; exact e1) (by rw [e3]; exact hq1) (by rw [e3]; exact e2), HI.out.rl, HI.out.ov.sm.take m, HI.out.sr, top_cut (by rw [e3]; exact hq1) hq3, HI.out.tr, ?_, ?_, ?_, ?_⟩, HI.out.only.below (Nat.le_refl _) (Nat.le_refl _)⟩
      · rw [hvt, hf, Nat.mul_comm, Nat.mul_add_div HS.out.2.2.2, Nat.div_eq_of_lt hlt, Nat.add_zero]
      · rw [hf, Nat.mul_comm, Nat.mul_add_mod, Nat.mod_eq_of_lt hlt]
      · rw [List.length_take, e3]; omega
      · rw [← HN.out.2]; exact rem_len HS.out.2.1 HI.out.tr hlt
    · obtain ⟨j, rfl⟩ : ∃ j, i = j + 1 := ⟨i - 1, by omega⟩
      have hji : ((j + 1 : Nat) : Int) - 1 = (j : Int) := by omega
      rw [hji]
      have hd1 : decide ((0 : Int) ≤ (j : Int)) = true := by rw [decide_eq_true_iff]; omega
      obtain ⟨b1, off1, rfl, hbl1, hcell1⟩ := (HC1.out.only HI.out.only (Nat.le_refl _)) j (by omega)
      have hx := hcell1 j (by omega)
      clear hcell1
      have hxl : l1.getD j 0 < 10000 := HS.out.1.getD j
      generalize hxx : l1.getD j 0 = x at *
      have HX := Lib.hid hxx; clear hxx
      obtain ⟨ra, rc, hrv, hil, hrc⟩ := HI.out.rl
      subst hrv
      have HIL := Lib.hid (And.intro hil hrc); clear hil hrc
      have hgb : w.heap.size < wr.heap.size := HI.out.own.lt
      have hAb : Below wr.heap.size wr (wr.alloc (Obj.cells #[.int .i64 x] 3)) := (Below.refl _ _).alloc (Nat.le_refl _) _
      have hownA : (wr.alloc (Obj.cells #[.int .i64 x] 3)).ownsRow wr.heap.size 3 1 (.slice (some ⟨wr.heap.size, 0, none⟩) 1 1) [x].length (i64s [x]) := World.ownsRow_lit (size := 1) _ _ 1 (Nat.le_refl _) (by simp [maxLen]) rfl
      have hilA : Il (wr.alloc (Obj.cells #[.int .i64 x] 3)) ra r.length r := HIL.out.1.mono hAb
      have hrl : r.length ≤ k := by rw [← HN.out.2]; exact rem_len HS.out.2.1 HI.out.tr HI.out.ov.lt
      have hbigA : wr.heap.size ≤ (wr.alloc (Obj.cells #[.int .i64 x] 3)).heap.size := hAb.size
      have HAB := Lib.hid hAb; clear hAb
      have hlen : [x].length + r.length ≤ 1000000 := by rw [List.length_singleton]; omega
      go_wp2_with (at_builtin; refine wpList_append_il rfl _ _ rfl wr.heap.size (.slice (some ⟨wr.heap.size, 0, none⟩) 1 1) [x] rfl hownA ra rc r rfl hilA hlen hbigA ?_)
      intro v' W3 ho3 hg3
      obtain ⟨sa, sc, rfl⟩ := own_sl ho3
      obtain ⟨a', c', e', hil3, hlc3⟩ := il_of_own (l := x :: r) ho3
      have hfar : ∀ b off, sa = some ⟨b, off, none⟩ → w.heap.size < b := by
        intro b off e
        subst e
        rcases ho3.2 with ⟨h, _⟩ | ⟨g, cap, cur, h, hbg, _⟩
        · cases h
        · cases h; omega
      have hB3 : Below wr.heap.size wr W3 := HAB.out.trans ((grownBy_onlyS hg3).below (B := wr.heap.size) (fun k hk => ownBlock_ge hownA hk) hbigA)
      have e1 : (x :: r).length = r.length + 1 := rfl
      simp only [Value.slice.injEq] at e'
      obtain ⟨rfl, -, rfl⟩ := e'
      rw [e1] at hil3 hlc3
      have HT := Lib.hid (rtrim_any W3 sa sc (x :: r) (r.length + 1) hil3 (by omega) hlc3)
      have HIL3 := Lib.hid (And.intro hil3 (And.intro hlc3 (And.intro hfar hB3)))
      clear ho3 hg3 hil3 hlc3 hfar hB3 hownA hilA hbigA hlen e1
      go_wp2_with fail
      refine HT.out.mono ?_
      rintro e w2 ⟨⟨m, rfl, hq1, hq2, hq3⟩, rfl⟩
      obtain ⟨r2, hr2⟩ : ∃ r2, r2 = (x :: r).take m := ⟨_, rfl⟩
      have e1 : (x :: r).length = r.length + 1 := rfl
      have hr2l : r2.length = m := by rw [hr2, List.length_take, e1]; omega
      have hrl2 : RL4 W3 (.slice sa m sc) r2 := by
        rw [hr2]; exact RL4.cut (by rw [e1]; exact HIL3.out.1) (by rw [e1]; exact hq1) (by rw [e1]; exact HIL3.out.2.1)
      have hsm2 : Sm4 r2 := by
        rw [hr2]
        refine Sm4.take (fun y hy => ?_) m
        rcases List.mem_cons.1 hy with h | h
        · rw [h]; exact hxl
        · exact HI.out.sr y h
      have htr2 : Top r2 := by rw [hr2]; exact top_cut (by rw [e1]; exact hq1) hq3
      have hval : val4 r2 = x + 10000 * val4 r := by
        rw [hr2, val4_zeros (x :: r) m (fun j h1 h2 => hq2 j h1 (by rw [e1] at h2; exact h2))]
        rfl
      obtain ⟨hlt, hnext⟩ := HI.out.ov.next (by rw [HN.out.1]; omega) HS.out.1
      rw [HX.out] at hlt hnext
      rw [← hval] at hlt hnext
      have hon3 : Only w.heap.size w W3 := HI.out.only.trans (Only.of_below HIL3.out.2.2.2)
      have how3 : OwnJ W3 w.heap.size quo := HI.out.own.mono HIL3.out.2.2.2 hgb
      have H23 : RL4 W3 v2 l2 := by
        obtain ⟨a2, c2, e2, h2, h2'⟩ := H2.out
        exact ⟨a2, c2, e2, h2.only hon3 (Nat.le_refl _), h2'⟩
      have HGU := Lib.hid (rguess_any W3 _ _ r2 l2 hrl2 H23 hsm2 HS.out.2.1 htr2 HS.out.2.2.1 (by rw [HN.out.2]; exact h0) hlt (by rw [HN.out.2]; exact hm2))
      have HR2 := Lib.hid (And.intro hrl2 (And.intro hsm2 (And.intro htr2 (And.intro hnext (And.intro hon3 how3)))))
      have hm1' : m ≤ k + 1 := by omega
      have HFAR := Lib.hid HIL3.out.2.2.1
      have HR2L := Lib.hid hr2l
      clear hq1 hq2 hq3 hr2l hrl2 hsm2 htr2 hval hlt hnext hon3 how3 H23 e1 hr2 HT HIL3 HI HIL hgb HAB hrl
      go_wp2_with fail
      refine HGU.out.mono ?_
      rintro e w2 ⟨⟨g0, rfl, hg1, hg2⟩, rfl⟩
      have HJ0 := Lib.hid (OVG.mk (w := w) (wr := w2) (l2 := l2) (rv := .slice sa m sc) (quo := quo) (r := r2) (g := g0) hg1 hg2 HR2.out.2.2.2.2.2 HR2.out.1 (by rintro b off k c e; cases e; exact HFAR.out _ _ rfl) HR2.out.2.2.2.2.1)
      clear hg1 hg2
      go_wp2_with fail
      go_loopw [9] (fun gv wr => ∃ g : Nat, gv = .int .i64 (g : Int) ∧ Hid (OVG w wr l2 (.slice sa m sc) quo r2 g)) (fun gv _ => (intOf gv).toNat)
      case atStart => exact ⟨g0, rfl, HJ0⟩
      case round =>
        clear HJ0
        obtain ⟨g, rfl, HG⟩ := hrel
        have hgl : g < 10000 := by have := HG.out.lt; omega
        go_wp2_with fail
        refine (rlimbsOf_any g hgl _).mono ?_
        rintro e w4 ⟨⟨v4, l4, rfl, hr4, hs4, ht4, hv4, hn4⟩, hb4⟩
        have H24 : RL4 w4 v2 l2 := by
          obtain ⟨a2, c2, e2, h2, h2'⟩ := H2.out
          exact ⟨a2, c2, e2, (h2.only HG.out.only (Nat.le_refl _)).mono hb4, h2'⟩
        have HT4 := Lib.hid (rtimes_any w4 v2 v4 l2 l4 H24 hr4 HS.out.2.1 hs4 (by rw [HN.out.2]; omega) (by omega))
        have HB4 := Lib.hid (And.intro hb4 (And.intro hv4 hn4))
        clear H24 hr4 hs4 ht4 hv4 hn4 hb4
        go_wp2_with fail
        refine HT4.out.mono ?_
        rintro e w5 ⟨⟨v5, l5, rfl, hr5, hs5, ht5, hv5, hn5⟩, hb5⟩
        have hb45 := HB4.out.1.trans (hb5.mono HB4.out.1.size)
        have HC5 := Lib.hid (rcmp_any w5 v5 (.slice sa m sc) l5 r2 hr5 (HG.out.rl.mono hb45) hs5 HR2.out.2.1 ht5 HR2.out.2.2.1 (by rw [HN.out.2] at hn5; have := HB4.out.2.2; omega))
        rw [HB4.out.2.1] at hv5
        have HB5 := Lib.hid (And.intro hb45 hv5)
        clear HT4 hr5 hs5 ht5 hv5 hn5 hb5 hb45
        go_wp2_with fail
        refine HC5.out.mono ?_
        rintro e w6 ⟨rfl, nn, rfl⟩
        clear HC5
        by_cases hgt : val4 r2 < val4 l2 * g
        · have hd3 : decide ((0 : Int) < Wh.cmpN (val4 l5) (val4 r2)) = true := by
            rw [HB5.out.2, Wh.cmpN_gt hgt]; decide
          have hg0 : val4 r2 / val4 l2 < g := by
            rw [Nat.div_lt_iff_lt_mul HS.out.2.2.2, Nat.mul_comm]; exact hgt
          have HJ := Lib.hid (OVG.mk (w := w) (wr := w5.drewN nn) (l2 := l2) (rv := .slice sa m sc) (quo := quo) (r := r2) (g := g - 1) (by omega) (by have := HG.out.lt; omega) ((HG.out.own.mono HB5.out.1 HG.out.own.lt).mono (below_drewN (w.heap.size + 1) _ nn) (Nat.lt_succ_self _)) ((HG.out.rl.mono HB5.out.1).mono (below_drewN _ _ nn)) HG.out.far ((HG.out.only.trans (Only.of_below HB5.out.1)).trans (Only.of_below (below_drewN _ _ nn))))
          have hgp : 0 < g := Nat.lt_of_le_of_lt (Nat.zero_le _) hg0
          clear hg0
          go_wp2_with fail
          exact ⟨⟨g - 1, by congr 1; omega, HJ⟩, by simp [intOf]; omega⟩
        · have hd3 : decide ((0 : Int) < Wh.cmpN (val4 l5) (val4 r2)) = false := by
            rw [HB5.out.2]
            rcases Nat.lt_or_ge (val4 l2 * g) (val4 r2) with h | h
            · rw [Wh.cmpN_lt h]; decide
            · rw [show val4 l2 * g = val4 r2 by omega, Wh.cmpN_self]; decide
          have hgq : g = val4 r2 / val4 l2 := by
            refine Nat.le_antisymm ?_ HG.out.ge
            rw [Nat.le_div_iff_mul_le HS.out.2.2.2, Nat.mul_comm]; omega
          have HG6 : OVG w (w5.drewN nn) l2 (.slice sa m sc) quo r2 g := ⟨HG.out.ge, HG.out.lt, ((HG.out.own.mono HB5.out.1 HG.out.own.lt).mono (below_drewN (w.heap.size + 1) _ nn) (Nat.lt_succ_self _)), ((HG.out.rl.mono HB5.out.1).mono (below_drewN _ _ nn)), HG.out.far, ((HG.out.only.trans (Only.of_below HB5.out.1)).trans (Only.of_below (below_drewN _ _ nn)))⟩
          have hql : quo.length = n := by
            have := HR2.out.2.2.2.1.len
            rw [List.length_set, HN.out.1] at this; exact this
          obtain ⟨hce, hfr, how, hon, hrl⟩ := HG6.stored (l1 := l1) (j := j) (by omega)
          have hnx := HR2.out.2.2.2.1
          rw [← hgq] at hnx
          have HE := Lib.hid (And.intro hnx (And.intro how (And.intro hon (And.intro hrl hgq))))
          have hle : val4 l2 * g ≤ val4 r2 := by omega
          clear HG6 how hon hrl hql HG HB5 hnx hgq hgt
          go_wp2_with fail
          generalize (w5.drewN nn).setCell ⟨w.heap.size, j, none⟩ (.int .i64 (g : Int)) = W6 at HE ⊢
          clear hce hfr
          refine (rlimbsOf_any g hgl _).mono ?_
          rintro e w7 ⟨⟨v7, l7, rfl, hr7, hs7, ht7, hv7, hn7⟩, hb7⟩
          have H27 : RL4 w7 v2 l2 := by
            obtain ⟨a2, c2, e2, h2, h2'⟩ := H2.out
            exact ⟨a2, c2, e2, (h2.only HE.out.2.2.1 (Nat.le_refl _)).mono hb7, h2'⟩
          have HT7 := Lib.hid (rtimes_any w7 v2 v7 l2 l7 H27 hr7 HS.out.2.1 hs7 (by rw [HN.out.2]; omega) (by omega))
          have HB7 := Lib.hid (And.intro hb7 (And.intro hv7 hn7))
          clear H27 hr7 hs7 ht7 hv7 hn7 hb7
          go_wp2_with fail
          refine HT7.out.mono ?_
          rintro e w8 ⟨⟨v8, l8, rfl, hr8, hs8, ht8, hv8, hn8⟩, hb8⟩
          have hb78 := HB7.out.1.trans (hb8.mono HB7.out.1.size)
          rw [HB7.out.2.1] at hv8
          have hlen8 : l8.length ≤ r2.length := by
            rcases Nat.lt_or_ge r2.length l8.length with h | h
            · have := val4_lt_len HR2.out.2.1 ht8 h; omega
            · exact h
          have HM8 := Lib.hid (rminus_any w8 (.slice sa m sc) v8 r2 l8 (HE.out.2.2.2.1.mono hb78) hr8 HR2.out.2.1 hs8 (by rw [hv8]; exact hle) hlen8 (by rw [HR2L.out]; omega))
          rw [hv8] at HM8
          have HB8 := Lib.hid hb78
          clear HT7 hr8 hs8 ht8 hv8 hn8 hb8 hb78 hlen8 HB7
          go_wp2_with fail
          refine HM8.out.mono ?_
          rintro e w9 ⟨⟨v9, l9, rfl, hr9, hs9, ht9, hv9, hn9⟩, hb9⟩
          have hb69 := HB8.out.trans (hb9.mono HB8.out.size)
          have hmod : val4 l9 = val4 r2 % val4 l2 := by
            rw [hv9]
            have h1 := Nat.div_add_mod (val4 r2) (val4 l2)
            rw [← HE.out.2.2.2.2] at h1
            omega
          have hov := HE.out.1
          rw [← hmod] at hov
          have HF := Lib.hid (OVS.mk (w := w) (wr := w9) (l1 := l1) (l2 := l2) (i := j) (rv := v9) (quo := quo.set j g) (r := l9) hov (HE.out.2.1.mono hb69 HE.out.2.1.lt) hr9 hs9 ht9 (HE.out.2.2.1.trans (Only.of_below hb69)))
          clear hr9 hs9 ht9 hv9 hn9 hb9 hb69 hmod hov HM8 HE HR2 HGU
          go_wp2_with fail
          exact ⟨⟨j, _, l9, by omega, rfl, HF⟩, by simp [intOf]⟩
end Go.Proofs.YteaeloeebfdodaaGreatDoor

namespace Go.Proofs.YteaeloeebfdodaaGreatDoor
open Go.RowKit Go.Proofs.Rf
theorem sign_quo_neg {x y z : Int} {bx b2 : Bool} (h1 : decide (x < 0) = bx) (h2 : decide (y < 0) = b2) (hz : x.tdiv y = z) (e : (bx != b2) = true) : 0 < x.natAbs / y.natAbs ↔ z < 0 := by
  have hn : z.natAbs = x.natAbs / y.natAbs := by rw [← hz]; exact Int.natAbs_tdiv ..
  have hle : z ≤ 0 := by
    rw [← hz]
    cases bx <;> cases b2 <;> simp at e h1 h2
    · have := Int.tdiv_nonneg h1 (show (0 : Int) ≤ -y by omega)
      rw [Int.tdiv_neg] at this; omega
    · have := Int.tdiv_nonneg (show (0 : Int) ≤ -x by omega) h2
      rw [Int.neg_tdiv] at this; omega
  rw [← hn]
  omega
theorem sign_quo_pos {x y z : Int} {bx b2 : Bool} (h1 : decide (x < 0) = bx) (h2 : decide (y < 0) = b2) (hz : x.tdiv y = z) (e : (bx != b2) = false) : ¬ z < 0 := by
  have hle : 0 ≤ z := by
    rw [← hz]
    cases bx <;> cases b2 <;> simp at e h1 h2
    · exact Int.tdiv_nonneg h1 h2
    · have := Int.tdiv_nonneg (show (0 : Int) ≤ -x by omega) (show (0 : Int) ≤ -y by omega)
      rw [Int.neg_tdiv, Int.tdiv_neg] at this; omega
  omega
theorem sign_rem_neg {x y z : Int} {bx : Bool} (h1 : decide (x < 0) = bx) (hz : x.tmod y = z) (e : bx = true) : 0 < x.natAbs % y.natAbs ↔ z < 0 := by
  have hn : z.natAbs = x.natAbs % y.natAbs := by rw [← hz]; exact Int.natAbs_tmod ..
  have hle : z ≤ 0 := by
    rw [← hz]
    subst e
    simp at h1
    have := Int.tmod_nonneg y (show (0 : Int) ≤ -x by omega)
    rw [Int.neg_tmod] at this; omega
  rw [← hn]
  omega
theorem sign_rem_pos {x y z : Int} {bx : Bool} (h1 : decide (x < 0) = bx) (hz : x.tmod y = z) (e : bx = false) : ¬ z < 0 := by
  have hle : 0 ≤ z := by
    rw [← hz]
    subst e
    simp at h1
    exact Int.tmod_nonneg y h1
  omega
def QSV (x y : Int) (TZ TM : ByteArray) : Nat → Value → World → Prop
  | 0, v, _ => v = .int .i64 x
  | 1, v, _ => v = .int .i64 y
  | 2, v, _ => v = .int .i64 (x.tdiv y)
  | 3, v, _ => v = .string TZ
  | 4, v, _ => v = .int .i64 x
  | 5, v, _ => v = .int .i64 y
  | 6, v, _ => v = .int .i64 (x.tmod y)
  | _, v, _ => v = .string TM
set_option maxRecDepth 100000 in
set_option maxHeartbeats 1000000 in
theorem rQuo_small (x y : Int) (h : x.natAbs < 1000000000 ∧ y.natAbs < 1000000000) (hy0 : y ≠ 0) (w : World) :
    Calls Tryz.prog 44 #[txt x, txt y] w fun e w' => e = .returned (.tuple #[txt (x.tdiv y), txt (x.tmod y)]) ∧ Below w.heap.size w w' := by
  have HSM := Lib.hid (fun w => small_yes x y h.1 h.2 w)
  have hp1 : (x.tdiv y).natAbs ≤ x.natAbs := by rw [show (x.tdiv y).natAbs = x.natAbs / y.natAbs from Int.natAbs_tdiv ..]; exact Nat.div_le_self _ _
  have hp2 : (x.tmod y).natAbs ≤ x.natAbs := by rw [show (x.tmod y).natAbs = x.natAbs % y.natAbs from Int.natAbs_tmod ..]; exact Nat.mod_le _ _
  have HO1 := Lib.hid (fun w => OfInt_int (x.tdiv y) (by omega) w)
  have HO2 := Lib.hid (fun w => OfInt_int (x.tmod y) (by omega) w)
  have hne : (y == 0) = false := by rw [beq_eq_false_iff_ne]; exact hy0
  have hne2 : ¬ y = 0 := hy0
  unfold txt at *
  generalize str (Wh.decI x) = TX at *
  generalize str (Wh.decI y) = TY at *
  generalize str (Wh.decI (x.tdiv y)) = TZ at *
  generalize str (Wh.decI (x.tmod y)) = TM at *
  go_enter Tryz.func44, Tryz.ntmps44
  go_wp2_with fail
  refine (HSM.out _).mono ?_
  rintro e w' ⟨rfl, rfl⟩
  go_wp2_with fail
  have hw1 : IntKind.i64.wrap (x.tdiv y) = x.tdiv y := wrap_i64 _ (by omega) (by omega)
  have hw2 : IntKind.i64.wrap (x.tmod y) = x.tmod y := wrap_i64 _ (by omega) (by omega)
  refine wp_mono (Q := fun e a W' => e = .normal ∧ (∃ vals : Nat → Value, a = { tmps := #[.string TX, .string TY, undef, undef, .string TZ, .string TM, .int .i64 x, .int .i64 y, .bool true, undef, undef, .tuple #[.int .i64 x, .int .i64 y, .bool true], .string TX, .string TY, .tuple #[.int .i64 x, .int .i64 y, .bool true], .int .i64 x, .int .i64 y, .bool true, .bool true, vals 0, vals 1, vals 2, vals 3, vals 4, vals 5, vals 6, vals 7, undef, undef, undef, undef, undef, undef, undef, undef, undef, undef, undef, undef, undef, undef, undef, undef, undef, undef, undef, undef, undef], defers := [] }) ∧ Below w.heap.size w W') ?_ ?_
  refine Rt.wp_region_grow (n0 := 2) [8, 9] [] 48 (fun vals => { tmps := #[.string TX, .string TY, undef, undef, .string { data := #[] }, .string { data := #[] }, .int .i64 x, .int .i64 y, .bool true, undef, undef, .tuple #[.int .i64 x, .int .i64 y, .bool true], .string TX, .string TY, .tuple #[.int .i64 x, .int .i64 y, .bool true], .int .i64 x, .int .i64 y, .bool true, .bool true, vals 0, vals 1, vals 2, vals 3, vals 4, vals 5, vals 6, vals 7, undef, undef, undef, undef, undef, undef, undef, undef, undef, undef, undef, undef, undef, undef, undef, undef, undef, undef, undef, undef, undef], defers := [] }) (QSV x y TZ TM) (by kernel_rfl) (by kernel_rfl) (by kernel_rfl) (by kernel_rfl) (fun _ _ _ _ _ h => absurd h.1 (by simp)) (by kernel_rfl) rfl (fun _ => by kernel_rfl) (by kernel_rfl) (by kernel_rfl) (fun i v w w' h _ => by
    match i, h with
    | 0, h | 1, h | 2, h | 3, h | 4, h | 5, h | 6, h | _ + 7, h => exact h) ?_ ?_ ?_
  · intro i o d hi hT hW hd' vals w' hb hf
    have hlt : i < 10 := (Array.getElem?_eq_some_iff.1 hi).1
    rcases i with _ | _ | _ | _ | _ | _ | _ | _ | _ | _ | i
    · obtain rfl := Option.some.inj hi
      obtain rfl := Option.some.inj hd'
      dsimp only
      go_simp
      exact ⟨rfl, Below.refl _ _⟩
    · obtain rfl := Option.some.inj hi
      obtain rfl := Option.some.inj hd'
      dsimp only
      go_simp
      exact ⟨rfl, Below.refl _ _⟩
    · obtain rfl := Option.some.inj hi
      obtain rfl := Option.some.inj hd'
      have e0 : vals 0 = _ := hf 0 (by kernel_rfl)
      have e1 : vals 1 = _ := hf 1 (by kernel_rfl)
      dsimp only
      rw [e0, e1]
      go_simp
      exact ⟨rfl, Below.refl _ _⟩
    · obtain rfl := Option.some.inj hi
      obtain rfl := Option.some.inj hd'
      have e2 : vals 2 = _ := hf 2 (by kernel_rfl)
      dsimp only
      rw [e2]
      go_simp
      refine (HO1.out _).mono ?_
      rintro e W ⟨rfl, hb2⟩
      exact ⟨rfl, hb2⟩
    · obtain rfl := Option.some.inj hi
      obtain rfl := Option.some.inj hd'
      dsimp only
      go_simp
      exact ⟨rfl, Below.refl _ _⟩
    · obtain rfl := Option.some.inj hi
      obtain rfl := Option.some.inj hd'
      dsimp only
      go_simp
      exact ⟨rfl, Below.refl _ _⟩
    · obtain rfl := Option.some.inj hi
      obtain rfl := Option.some.inj hd'
      have e4 : vals 4 = _ := hf 4 (by kernel_rfl)
      have e5 : vals 5 = _ := hf 5 (by kernel_rfl)
      dsimp only
      rw [e4, e5]
      go_simp
      exact ⟨rfl, Below.refl _ _⟩
    · obtain rfl := Option.some.inj hi
      obtain rfl := Option.some.inj hd'
      have e6 : vals 6 = _ := hf 6 (by kernel_rfl)
      dsimp only
      rw [e6]
      go_simp
      refine (HO2.out _).mono ?_
      rintro e W ⟨rfl, hb2⟩
      exact ⟨rfl, hb2⟩
    · cases hT
    · cases hT
    · omega
  · intro p o d hi hW hd vals w' hb hf
    cases hW
  · intro vals w' hb hf
    have e3 : vals 3 = .string TZ := hf 3 (by decide) rfl
    have e7 : vals 7 = .string TM := hf 7 (by decide) rfl
    rw [e3, e7]
    refine Rt.wpAny_step (i := 8) (by kernel_rfl) rfl (by rfl) (fun K hK => ?_)
    have HK := Lib.hid hK; clear hK
    go_simp
    refine HK.out _ _ ?_
    clear HK
    refine Rt.wpAny_step (i := 9) (by kernel_rfl) rfl (by rfl) (fun K hK => ?_)
    have HK := Lib.hid hK; clear hK
    go_simp
    refine HK.out _ _ ?_
    exact Rt.wpAny_end (by kernel_rfl) ⟨rfl, ⟨vals, by rw [e3, e7]⟩, hb⟩
  · rintro e a W ⟨rfl, ⟨vals, rfl⟩, hB⟩
    go_wp2
    go_ret2
    exact ⟨rfl, hB⟩
set_option maxRecDepth 100000 in
set_option maxHeartbeats 1000000 in
theorem rQuo_big (x y : Int) (hx : V400 x) (hy : V400 y) (hy0 : y ≠ 0) (h : ¬ (x.natAbs < 1000000000 ∧ y.natAbs < 1000000000)) (w : World) :
    Calls Tryz.prog 44 #[txt x, txt y] w fun e w' => e = .returned (.tuple #[txt (x.tdiv y), txt (x.tmod y)]) ∧ Below w.heap.size w w' := by
  have HSM := Lib.hid (fun w => small_no x y h w)
  have HAX := Lib.hid (fun w => Abs_txt x w)
  have HAY := Lib.hid (fun w => Abs_txt y w)
  have HNX := Lib.hid (fun w => Neg_txt x w)
  have HNY := Lib.hid (fun w => Neg_txt y w)
  have HLX := Lib.hid (fun w => rlimbs_dec x.natAbs hx w)
  have HLY := Lib.hid (fun w => rlimbs_dec y.natAbs hy w)
  obtain ⟨bx, hbx⟩ : ∃ b, decide (x < 0) = b := ⟨_, rfl⟩
  obtain ⟨b2, hby⟩ : ∃ b, decide (y < 0) = b := ⟨_, rfl⟩
  rw [hbx] at HNX
  rw [hby] at HNY
  obtain ⟨z, hz⟩ : ∃ z, x.tdiv y = z := ⟨_, rfl⟩
  obtain ⟨m, hm⟩ : ∃ m, x.tmod y = m := ⟨_, rfl⟩
  rw [hz, hm]
  have HSG := Lib.hid (And.intro (fun e => sign_quo_neg hbx hby hz e) (And.intro (fun e => sign_quo_pos hbx hby hz e) (show z.natAbs = x.natAbs / y.natAbs by rw [← hz]; exact Int.natAbs_tdiv ..)))
  have HSR := Lib.hid (And.intro (fun e => sign_rem_neg hbx hm e) (And.intro (fun e => sign_rem_pos hbx hm e) (show m.natAbs = x.natAbs % y.natAbs by rw [← hm]; exact Int.natAbs_tmod ..)))
  have HY0 := Lib.hid (show y.natAbs ≠ 0 by omega)
  clear hbx hby hz hm h hx hy hy0
  unfold txt at HSM HAX HAY HNX HNY
  generalize hTX : str (Wh.decI x) = TX at *
  generalize hTY : str (Wh.decI y) = TY at *
  have HTX := Lib.hid (And.intro hTX hTY); clear hTX hTY
  show Calls Tryz.prog 44 #[txt x, txt y] w _
  unfold txt
  rw [HTX.out.1, HTX.out.2]
  generalize hTZ : str (Wh.decI z) = TZ at *
  generalize hTM : str (Wh.decI m) = TM at *
  have HTZ := Lib.hid (And.intro hTZ hTM); clear hTZ hTM
  go_enter Tryz.func44, Tryz.ntmps44
  go_wp2_with fail
  refine (HSM.out _).mono ?_
  rintro e w' ⟨rfl, rfl⟩
  go_wp2_with fail
  refine (HAX.out _).mono ?_
  rintro e w' ⟨rfl, rfl⟩
  go_wp2_with fail
  refine (HLX.out _).mono ?_
  rintro e w1 ⟨⟨v1, l1, rfl, hr1, hs1, ht1, hv1, hn1⟩, hb1⟩
  go_wp2_with fail
  refine (HAY.out _).mono ?_
  rintro e w' ⟨rfl, rfl⟩
  go_wp2_with fail
  refine (HLY.out _).mono ?_
  rintro e w2 ⟨⟨v2, l2, rfl, hr2, hs2, ht2, hv2, hn2⟩, hb2⟩
  have hr1' := hr1.mono hb2
  have HB := Lib.hid (hb1.trans (hb2.mono hb1.size))
  have h2l : 0 < l2.length := (top_pos ht2 hv2).2 (by have := HY0.out; omega)
  have HTM := Lib.hid (rover_any w2 v1 v2 l1 l2 hr1' hr2 hs1 hs2 ht2 h2l (by omega) (by omega))
  rw [hv1, hv2] at HTM
  have HL := Lib.hid (show l1.length ≤ 400 ∧ l2.length ≤ 400 by omega)
  clear hr1 hr2 hr1' hs1 hs2 ht1 ht2 hv1 hv2 hn1 hn2 hb1 hb2 h2l
  go_wp2_with fail
  refine HTM.out.mono ?_
  rintro e w3 ⟨⟨qv, rv, q, r, rfl, hqr, hrr, hqs, hrs, hqt, hrt, hqv, hrv, hql, hrl⟩, hb3⟩
  have HQN := Lib.hid (fun W (hW : Below w3.heap.size w3 W) => rsigned_any W (bx != b2) qv q (hqr.mono hW) hqs (by have := HL.out; omega) z (by rw [hqv, HSG.out.2.2]) (fun e => (top_pos hqt hqv).trans (HSG.out.1 e)) (fun e => by have := HSG.out.2.1 e; omega))
  have HRN := Lib.hid (fun W (hW : Below w3.heap.size w3 W) => rsigned_any W bx rv r (hrr.mono hW) hrs (by have := HL.out; omega) m (by rw [hrv, HSR.out.2.2]) (fun e => (top_pos hrt hrv).trans (HSR.out.1 e)) (fun e => by have := HSR.out.2.1 e; omega))
  unfold txt at HQN HRN
  rw [HTZ.out.1] at HQN
  rw [HTZ.out.2] at HRN
  have HB3 := Lib.hid (HB.out.trans (hb3.mono HB.out.size))
  clear hqr hrr hqs hrs hqt hrt hqv hrv hql hrl hb3
  go_wp2_with fail
  refine (HNX.out _).mono ?_
  rintro e w' ⟨rfl, rfl⟩
  go_wp2_with fail
  refine (HNY.out _).mono ?_
  rintro e w' ⟨rfl, rfl⟩
  go_wp2_with fail
  refine (HQN.out _ (Below.refl _ _)).mono ?_
  rintro e w4 ⟨rfl, hb4⟩
  have HB4 := Lib.hid hb4; clear hb4
  go_wp2_with fail
  refine (HNX.out _).mono ?_
  rintro e w' ⟨rfl, rfl⟩
  go_wp2_with fail
  refine (HRN.out _ HB4.out).mono ?_
  rintro e w5 ⟨rfl, hb5⟩
  go_wp2_with fail
  go_ret2
  exact ⟨rfl, HB3.out.trans ((HB4.out.trans (hb5.mono HB4.out.size)).mono HB3.out.size)⟩
theorem rQuo_any (x y : Int) (hx : V400 x) (hy : V400 y) (hy0 : y ≠ 0) (w : World) :
    Calls Tryz.prog 44 #[txt x, txt y] w fun e w' => e = .returned (.tuple #[txt (x.tdiv y), txt (x.tmod y)]) ∧ Below w.heap.size w w' := by
  by_cases h : x.natAbs < 1000000000 ∧ y.natAbs < 1000000000
  · exact rQuo_small x y h hy0 w
  · exact rQuo_big x y hx hy hy0 h w
end Go.Proofs.YteaeloeebfdodaaGreatDoor

namespace Go.Proofs.YteaeloeebfdodaaGreatDoor
open Go.RowKit Go.Proofs.Rf
end Go.Proofs.YteaeloeebfdodaaGreatDoor

namespace Go.Proofs.YteaeloeebfdodaaGreatDoor
open Go.RowKit Go.Proofs.Rf
set_option maxRecDepth 100000 in
set_option maxHeartbeats 800000 in
theorem rBase_bad (l : List UInt8) (b c : Int) (hlen : l.length ≤ 2000) (hc : c = 1 ∨ c = 13) (h : Bad l c) (w : World) :
    Calls Tryz.prog 45 #[.string (str l), .int .i64 b] w fun e w' => e = .returned (.tuple #[.string ⟨#[]⟩, .int .i64 c]) ∧ w = w' := by
  have HC := Lib.hid (fun w => Check_not l c hlen h w)
  have hne : ((c : Int) == 0) = false := by rw [beq_eq_false_iff_ne]; omega
  clear h hlen hc
  generalize str l = S at *
  go_enter Tryz.func45, Tryz.ntmps45
  go_wp2_with fail
  refine (HC.out _).mono ?_
  rintro e w' ⟨rfl, rfl⟩
  go_wp2_with fail
  go_ret2
  exact ⟨rfl, rfl⟩
set_option maxRecDepth 100000 in
set_option maxHeartbeats 800000 in
theorem rBase_lo (x b : Int) (hx : V400 x) (h : b < 2) (w : World) :
    Calls Tryz.prog 45 #[txt x, .int .i64 b] w fun e w' => e = .returned (.tuple #[.string ⟨#[]⟩, .int .i64 2]) ∧ w = w' := by
  have HC := Lib.hid (fun w => Check_txt x hx w)
  have g1 : decide (b < 2) = true := by rw [decide_eq_true_iff]; omega
  clear h hx
  unfold txt at *
  generalize str (Wh.decI x) = S at *
  go_enter Tryz.func45, Tryz.ntmps45
  go_wp2_with fail
  refine (HC.out _).mono ?_
  rintro e w' ⟨rfl, rfl⟩
  go_wp2_with fail
  go_ret2
  exact ⟨rfl, rfl⟩
set_option maxRecDepth 100000 in
set_option maxHeartbeats 800000 in
theorem rBase_hi (x b : Int) (hx : V400 x) (h : 36 < b) (w : World) :
    Calls Tryz.prog 45 #[txt x, .int .i64 b] w fun e w' => e = .returned (.tuple #[.string ⟨#[]⟩, .int .i64 2]) ∧ w = w' := by
  have HC := Lib.hid (fun w => Check_txt x hx w)
  have g1 : decide (b < 2) = false := by rw [decide_eq_false_iff_not]; omega
  have g2 : decide (36 < b) = true := by rw [decide_eq_true_iff]; omega
  clear h hx
  unfold txt at *
  generalize str (Wh.decI x) = S at *
  go_enter Tryz.func45, Tryz.ntmps45
  go_wp2_with fail
  refine (HC.out _).mono ?_
  rintro e w' ⟨rfl, rfl⟩
  go_wp2_with fail
  go_ret2
  exact ⟨rfl, rfl⟩
def txtNum : Value → Nat
  | .string s => Wh.numOf s.data.toList
  | _ => 0
theorem txtNum_dec (n : Nat) : txtNum (.string (str (Wh.decN n))) = n := by
  show Wh.numOf (str (Wh.decN n)).data.toList = n
  rw [str_data]; exact Wh.numOf_decN n
theorem ToInt_small (p : Nat) (h : p ≤ 1000000) (w : World) :
    Calls Tryz.prog 129 #[.string (str (Wh.decN p))] w fun e w' => e = .returned (.tuple #[.int .i64 p, .bool true]) ∧ w = w' := by
  have hd : DecL (Wh.decN p) := by
    by_cases h0 : p = 0
    · subst h0
      rw [Wh.decN_zero]
      exact ⟨by decide, by decide, .inr rfl, by decide⟩
    · exact decL_of p ⟨by omega, h⟩
  have := ToInt_dec _ hd w
  rw [Wh.numOf_decN] at this
  exact this
theorem lets_slice (r : Nat) (h : r < 36) : (str lets).extract r (r + 1) = str [charU r] := by
  have : ∀ r : Fin 36, ((str lets).extract r.val (r.val + 1)).data.toList = [charU r.val] := by decide
  exact eq_str (this ⟨r, h⟩)
set_option maxRecDepth 100000 in
set_option maxHeartbeats 4000000 in
theorem rBase_good (x : Int) (b : Nat) (hb : 2 ≤ b ∧ b ≤ 36) (hx : V400 x) (hlen : (dgs b x.natAbs).length ≤ 2000) (w : World) :
    Calls Tryz.prog 45 #[txt x, .int .i64 b] w fun e w' => e = .returned (.tuple #[.string (str (inB b x)), .int .i64 0]) ∧ Below w.heap.size w w' := by
  have HC := Lib.hid (fun w => Check_txt x hx w)
  have HA := Lib.hid (fun w => Abs_txt x w)
  have HNG := Lib.hid (fun w => Neg_txt x w)
  have g1 : decide ((b : Int) < 2) = false := by rw [decide_eq_false_iff_not]; omega
  have g2 : decide ((36 : Int) < (b : Int)) = false := by rw [decide_eq_false_iff_not]; omega
  have HOB := Lib.hid (fun w => OfInt_int (b : Int) (by omega) w)
  have HX : Hid (V400 (x.natAbs : Int)) := Lib.hid (by unfold V400; rw [Int.natAbs_natCast]; exact hx)
  have HVB : Hid (V400 (b : Int)) := Lib.hid (show (Wh.decN ((b : Nat) : Int).natAbs).length ≤ 400 from Nat.le_trans (Wh.decN_length_le (k := 9) (by decide) (by have : (10 : Nat) ^ 9 = 1000000000 := rfl; omega)) (by decide))
  have HLEN := Lib.hid hlen
  have HLB : Hid (∀ r : Nat, r < 36 → ({ data := #[48, 49, 50, 51, 52, 53, 54, 55, 56, 57, 97, 98, 99, 100, 101, 102, 103, 104, 105, 106, 107, 108, 109, 110, 111, 112, 113, 114, 115, 116, 117, 118, 119, 120, 121, 122] } : ByteArray).extract r (r + 1) = str [charU r]) := Lib.hid (fun r h => lets_slice r h)
  have hls : ({ data := #[48, 49, 50, 51, 52, 53, 54, 55, 56, 57, 97, 98, 99, 100, 101, 102, 103, 104, 105, 106, 107, 108, 109, 110, 111, 112, 113, 114, 115, 116, 117, 118, 119, 120, 121, 122] } : ByteArray).size = 36 := rfl
  obtain ⟨res, hres⟩ : ∃ res, str (inB b x) = res := ⟨_, rfl⟩
  rw [hres]
  have HRES := Lib.hid hres
  clear hx hlen hres
  unfold txt at HC HA HNG ⊢
  generalize str (Wh.decI x) = S at *
  go_enter Tryz.func45, Tryz.ntmps45
  go_wp2_with fail
  refine (HC.out _).mono ?_
  rintro e w' ⟨rfl, rfl⟩
  go_wp2_with fail
  refine (HA.out _).mono ?_
  rintro e w' ⟨rfl, rfl⟩
  go_wp2_with fail
  generalize ({ data := #[48, 49, 50, 51, 52, 53, 54, 55, 56, 57, 97, 98, 99, 100, 101, 102, 103, 104, 105, 106, 107, 108, 109, 110, 111, 112, 113, 114, 115, 116, 117, 118, 119, 120, 121, 122] } : ByteArray) = LB at *
  go_loopw [7, 8, 9, 10, 11, 12] (fun ov nv _ _ _ _ wr => ∃ (n : Nat) (out : List UInt8), n ≤ x.natAbs ∧ nv = .string (str (Wh.decN n)) ∧ ov = .string (str out) ∧ Hid (dgs b x.natAbs = dgs b n ++ out) ∧ Hid (Below w.heap.size w wr)) (fun _ nv _ _ _ _ _ => txtNum nv)
  case atStart => exact ⟨x.natAbs, [], Nat.le_refl _, rfl, rfl, Lib.hid (by rw [List.append_nil]), Lib.hid (Below.refl _ _)⟩
  case round =>
    obtain ⟨n, out, hn, rfl, rfl, HD, HI⟩ := hrel
    have hz := txt_eqz (n : Int)
    rw [decI_pos (by omega), Int.natAbs_natCast] at hz
    by_cases hn0 : n = 0
    · subst hn0
      rw [decide_eq_true (by rfl)] at hz
      have hd0 := HD.out
      rw [dgs_zero, List.nil_append] at hd0
      have hle : (str out).size ≤ 2000 := by rw [str_size, ← hd0]; exact HLEN.out
      by_cases hx0 : x = 0
      · have ho : out = [] := by rw [← hd0, hx0]; exact dgs_zero b
        have hemp : ((str out).toList == []) = true := by rw [Lib.toList_data, str_data, ho]; rfl
        obtain rfl : res = ⟨#[48]⟩ := by rw [← HRES.out]; unfold inB; rw [if_pos hx0]; rfl
        clear hd0 HD hle
        generalize str out = SO at *
        generalize str (Wh.decN 0) = S0 at *
        go_wp2_with fail
        go_ret2
        exact ⟨rfl, HI.out⟩
      · have hemp : ((str out).toList == []) = false := by
          rw [Lib.toList_data, str_data, beq_eq_false_iff_ne, ← hd0]
          obtain ⟨c, r, e, _, _⟩ := dgs_head hb x.natAbs (by omega)
          rw [e]; simp
        by_cases hneg : x < 0
        · obtain rfl : res = ⟨#[45]⟩ ++ str out := by
            rw [← HRES.out]; unfold inB
            rw [if_neg hx0, if_pos hneg, hd0]
            exact (eq_str (by simp [str])).symm
          rw [decide_eq_true hneg] at HNG
          clear hd0 HD HRES
          generalize hSO : str out = SO at *
          have HSO := Lib.hid hSO; clear hSO
          generalize str (Wh.decN 0) = S0 at *
          have hcat : ¬ (9223372036854775807 < (⟨#[45]⟩ : ByteArray).size + SO.size) := by
            have : (⟨#[45]⟩ : ByteArray).size = 1 := rfl
            omega
          go_wp2_with fail
          refine (HNG.out _).mono ?_
          rintro e w' ⟨rfl, rfl⟩
          go_wp2_with fail
          go_ret2
          exact ⟨by rw [HSO.out]; rfl, HI.out⟩
        · obtain rfl : res = str out := by
            rw [← HRES.out]; unfold inB
            rw [if_neg hx0, if_neg hneg, hd0]; rfl
          rw [decide_eq_false hneg] at HNG
          clear hd0 HD HRES
          generalize hSO : str out = SO at *
          have HSO := Lib.hid hSO; clear hSO
          generalize str (Wh.decN 0) = S0 at *
          go_wp2_with fail
          refine (HNG.out _).mono ?_
          rintro e w' ⟨rfl, rfl⟩
          go_wp2_with fail
          go_ret2
          exact ⟨by rw [HSO.out]; rfl, HI.out⟩
    · rw [decide_eq_false (by omega)] at hz
      have HQ := Lib.hid (fun w => rQuo_any (n : Int) (b : Int) (v400_le HX.out hn) HVB.out (by omega) w)
      rw [show (n : Int).tdiv (b : Int) = ((n / b : Nat) : Int) from rfl, show (n : Int).tmod (b : Int) = ((n % b : Nat) : Int) from rfl, txt_pos n, txt_pos (n / b), txt_pos (n % b)] at HQ
      have hr36 : n % b < 36 := Nat.lt_of_lt_of_le (Nat.mod_lt n (by omega)) hb.2
      have HTI := Lib.hid (fun w => ToInt_small (n % b) (by omega) w)
      have HDN : Hid (dgs b x.natAbs = dgs b (n / b) ++ (charU (n % b) :: out)) := Lib.hid (by
        rw [HD.out, dgs_pos hb.1 (Nat.pos_of_ne_zero hn0), List.append_assoc]; rfl)
      have hle : (str out).size ≤ 2000 := by
        rw [str_size]
        have h1 := HLEN.out
        rw [HD.out, List.length_append] at h1
        omega
      have hsl := HLB.out (n % b) hr36
      have hnb : n / b < n := Nat.div_lt_self (Nat.pos_of_ne_zero hn0) hb.1
      have HT0 := Lib.hid (txtNum_dec n)
      have HT1 := Lib.hid (txtNum_dec (n / b))
      have HCAT : Hid (str [charU (n % b)] ++ str out = str (charU (n % b) :: out)) := Lib.hid (eq_str (by simp [str]))
      have hs1 : (str [charU (n % b)]).size = 1 := rfl
      clear HD
      generalize hSN : str (charU (n % b) :: out) = SN at *
      generalize str [charU (n % b)] = SC at *
      generalize str out = SO at *
      generalize n % b = r at *
      generalize str (Wh.decN n) = TN at *
      generalize hTQ : str (Wh.decN (n / b)) = TQ at *
      generalize n / b = q at *
      go_wp2_with fail
      refine (HOB.out _).mono ?_
      rintro e w1 ⟨rfl, hb1⟩
      have HI1 := Lib.hid (HI.out.trans (hb1.mono HI.out.size)); clear hb1
      unfold txt at *
      go_wp2_with fail
      refine (HQ.out _).mono ?_
      rintro e w2 ⟨rfl, hb2⟩
      have HI2 := Lib.hid (HI1.out.trans (hb2.mono HI1.out.size)); clear hb2
      go_wp2_with fail
      refine (HTI.out _).mono ?_
      rintro e w' ⟨rfl, rfl⟩
      have hc1 : decide ((r : Int) + 1 ≤ 36) = true := by rw [decide_eq_true_iff]; omega
      have hcat : ¬ (9223372036854775807 < SC.size + SO.size) := by omega
      go_wp2_with fail
      go_quiet (fail)
      go_wp2_with fail
      refine ⟨⟨q, charU r :: out, by omega, by rw [hTQ], ?_, HDN, Lib.hid (HI2.out.trans (below_drewN _ _ _))⟩, ?_⟩
      · rw [hSN, ← HCAT.out]
      · first
          | (rw [HT1.out, HT0.out]; exact hnb)
          | (show txtNum (.string TQ) < txtNum (.string TN); rw [HT1.out, HT0.out]; exact hnb)
end Go.Proofs.YteaeloeebfdodaaGreatDoor

namespace Go.Proofs.YteaeloeebfdodaaGreatDoor
open Go.RowKit Go.Proofs.Rf
theorem valid_lt {x : Int} (h : x.natAbs < 10 ^ 400) : Valid x := Wh.decN_length_le (by decide) h
theorem behind_len (l : List UInt8) : (behind l).length ≤ l.length := by
  unfold behind
  split
  · rw [List.length_tail]; omega
  · exact Nat.le_refl _
theorem numB_all {b : Nat} {d : List UInt8} (h : Digs b d) : numB b d < b ^ d.length := by
  have := numB_lt (b := b) (l := d) (fun i hi => (h.at hi).2) d.length (Nat.le_refl _)
  rwa [List.take_length] at this
theorem frombase_same (l : List UInt8) (b : Int) (hlen : l.length ≤ 1300) (hv : 2 ≤ b → b ≤ 36 → b.toNat ^ l.length < 10 ^ 400) : ∃ (s : ByteArray) (c : Int),
    (∀ w, Tab w → ErrT w → Calls Tryz.prog 38 #[.string (str l), .int .i64 b] w fun e w' => e = .returned (.tuple #[.string s, .int .i64 c]) ∧ Below w.heap.size w w') ∧
    (∀ w, Calls Tryz.prog 47 #[.string (str l), .int .i64 b] w fun e w' => e = .returned (.tuple #[.string s, .int .i64 c]) ∧ Below w.heap.size w w') := by
  have still : ∀ {f : Nat} {args : Array Value} {s : ByteArray} {c : Int}, (∀ w, Calls Tryz.prog f args w fun e w' => e = .returned (.tuple #[.string s, .int .i64 c]) ∧ w = w') → ∀ w, Calls Tryz.prog f args w fun e w' => e = .returned (.tuple #[.string s, .int .i64 c]) ∧ Below w.heap.size w w' := fun h w => (h w).mono fun e w' he => ⟨he.1, by rw [← he.2]; exact Below.refl _ _⟩
  by_cases h1 : b < 2
  · exact ⟨_, 2, fun w _ hE => FromBase_range w _ b (.inl h1) hE, still fun w => rFromBase_lo _ b h1 w⟩
  · by_cases h2 : 36 < b
    · exact ⟨_, 2, fun w _ hE => FromBase_range w _ b (.inr h2) hE, still fun w => rFromBase_hi _ b h2 w⟩
    · obtain ⟨n, rfl⟩ : ∃ n : Nat, b = (n : Int) := ⟨b.toNat, by omega⟩
      have hn : 2 ≤ n ∧ n ≤ 36 := by omega
      have hv' := hv (by omega) (by omega)
      rw [Int.toNat_natCast] at hv'
      by_cases hf : Form n l
      · have hbl := behind_len l
        have hlt : numB n (behind l) < 10 ^ 400 := Nat.lt_of_lt_of_le (numB_all hf.digs) (Nat.le_of_lt (Nat.lt_of_le_of_lt (Nat.pow_le_pow_right (by omega) hbl) hv'))
        have hV : V400 (numB n (behind l) : Int) := valid_lt (by rw [Int.natAbs_natCast]; exact hlt)
        have hz : Valid ((if l.head? = some 45 then -1 else 1) * (numB n (behind l) : Int)) := valid_lt (by
          rw [Int.natAbs_mul, Int.natAbs_natCast]
          split
          · rw [show ((-1 : Int)).natAbs = 1 from rfl, Nat.one_mul]; exact hlt
          · rw [show ((1 : Int)).natAbs = 1 from rfl, Nat.one_mul]; exact hlt)
        refine ⟨_, 0, fun w hT _ => FromBase_any w (str l) _ (behind l) n (fun w => split_form l n hf (by omega) w) hn hf.digs (by omega) (by split <;> simp) _ rfl hz hT, fun w => rFromBase_good l n hn (by omega) hf hV _ rfl w⟩
      · exact ⟨_, 1, fun w _ hE => FromBase_form w l (n : Int) (by omega) (by omega) (by rw [Int.toNat_natCast]; exact hf) hE, still fun w => rFromBase_bad l n hn (by omega) hf w⟩
theorem inbase_all (x : Int) (b : Nat) (hb : 2 ≤ b ∧ b ≤ 36) (hl : (Wh.limbs x.natAbs).length ≤ 1000) (hdl : (dgs b x.natAbs).length ≤ 100000) (w : World) (xa : Option Addr) (xc : Nat) (h : Sl w (.slice xa (Wh.limbs x.natAbs).length xc) (Wh.limbs x.natAbs)) :
    Calls Tryz.prog 119 #[.agg #[.int .i64 x.sign, .slice xa (Wh.limbs x.natAbs).length xc], .int .i64 b] w fun e w' => e = .returned (.string (str (inB b x))) ∧ Below w.heap.size w w' := by
  unfold inB
  by_cases h0 : x = 0
  · subst h0
    rw [if_pos rfl, Int.sign_zero]
    exact inbase_zero w xa _ xc b
  · rw [if_neg h0]
    exact inbase_any w x b xa _ xc h hb h0 hl (by unfold dgs at hdl; simpa using hdl)
theorem dgs_pow {b : Nat} (hb : 2 ≤ b) (n : Nat) : (dgs b n).length = 0 ∨ b ^ ((dgs b n).length - 1) ≤ n := by
  by_cases h : (dgs b n).length = 0
  · exact .inl h
  · right
    rcases Nat.lt_or_ge n (b ^ ((dgs b n).length - 1)) with h1 | h1
    · have := Wh.dg_length hb n h1
      have e : (dgs b n).length = (Wh.dg b n).length := by unfold dgs; simp
      omega
    · exact h1
theorem base_same (l : List UInt8) (b : Int) (hlen : l.length ≤ 150) : ∃ (q : List UInt8) (c : Int), q.length ≤ 600 ∧ (2 ≤ b → b ≤ 36 → b.toNat ^ (q.length + 1) < 10 ^ 400) ∧
    (∀ w, Tab w → ErrT w → Calls Tryz.prog 37 #[.string (str l), .int .i64 b] w fun e w' => e = .returned (.tuple #[.string (str q), .int .i64 c]) ∧ Below w.heap.size w w') ∧
    (∀ w, Calls Tryz.prog 45 #[.string (str l), .int .i64 b] w fun e w' => e = .returned (.tuple #[.string (str q), .int .i64 c]) ∧ Below w.heap.size w w') := by
  have still : ∀ {f : Nat} {args : Array Value} {s : ByteArray} {c : Int}, (∀ w, Calls Tryz.prog f args w fun e w' => e = .returned (.tuple #[.string s, .int .i64 c]) ∧ w = w') → ∀ w, Calls Tryz.prog f args w fun e w' => e = .returned (.tuple #[.string s, .int .i64 c]) ∧ Below w.heap.size w w' := fun h w => (h w).mono fun e w' he => ⟨he.1, by rw [← he.2]; exact Below.refl _ _⟩
  have e36 : ∀ k, k ≤ 36 → k ^ 1 < 10 ^ 400 := fun k hk => by
    rw [Nat.pow_one]
    exact Nat.lt_of_le_of_lt hk (by decide +kernel)
  have small : 2 ≤ b → b ≤ 36 → b.toNat ^ (([] : List UInt8).length + 1) < 10 ^ 400 := fun _ h2 => e36 _ (by omega)
  rcases good_or_bad l with ⟨x, rfl, hx⟩ | ⟨c, hc⟩
  · by_cases h1 : b < 2
    · exact ⟨[], 2, by simp, small, fun w _ hE => Base_value w x b hx (.inl h1) hE, still fun w => rBase_lo x b hx h1 w⟩
    · by_cases h2 : 36 < b
      · exact ⟨[], 2, by simp, small, fun w _ hE => Base_value w x b hx (.inr h2) hE, still fun w => rBase_hi x b hx h2 w⟩
      · obtain ⟨n, rfl⟩ : ∃ n : Nat, b = (n : Int) := ⟨b.toNat, by omega⟩
        have hn : 2 ≤ n ∧ n ≤ 36 := by omega
        have hd : (Wh.decN x.natAbs).length ≤ 150 := Nat.le_trans (decI_len x) hlen
        have hxl : x.natAbs < 10 ^ 150 := by
          have h3 := Wh.numOf_lt (l := Wh.decN x.natAbs) (Wh.decN_digits _)
          rw [Wh.numOf_decN] at h3
          exact Nat.lt_of_lt_of_le h3 (Nat.pow_le_pow_right (by decide) hd)
        have hdl : (dgs n x.natAbs).length ≤ 500 := by
          have h3 : x.natAbs < n ^ 500 := Nat.lt_of_lt_of_le hxl (Nat.le_trans (by decide +kernel : (10 : Nat) ^ 150 ≤ 2 ^ 500) (Nat.pow_le_pow_left hn.1 500))
          have := Wh.dg_length hn.1 x.natAbs h3
          unfold dgs; simpa using this
        have hll : (Wh.limbs x.natAbs).length ≤ 1000 := by have := limbs_valid hx; omega
        have hq : (inB n x).length ≤ (dgs n x.natAbs).length + 1 := by
          unfold inB
          split
          · simp
          · rw [List.length_append]
            split <;> simp <;> omega
        refine ⟨inB n x, 0, by omega, fun _ _ => ?_, fun w hT _ => Base_any w x n _ hx hn (fun w xa xc h => inbase_all x n hn hll (by omega) w xa xc h) hT, fun w => rBase_good x n hn hx (by omega) w⟩
        rw [Int.toNat_natCast]
        have h3 : n ^ ((inB n x).length + 1) ≤ n ^ ((dgs n x.natAbs).length + 2) := Nat.pow_le_pow_right (by omega) (by omega)
        refine Nat.lt_of_le_of_lt h3 ?_
        have h36 : n ^ 3 ≤ 36 ^ 3 := Nat.pow_le_pow_left hn.2 3
        rcases dgs_pow hn.1 x.natAbs with h0 | h0
        · rw [h0]
          exact Nat.lt_of_le_of_lt (Nat.le_trans (Nat.pow_le_pow_right (by omega) (by omega : 0 + 2 ≤ 3)) h36) (by decide +kernel)
        · by_cases h00 : (dgs n x.natAbs).length = 0
          · rw [h00]
            exact Nat.lt_of_le_of_lt (Nat.le_trans (Nat.pow_le_pow_right (by omega) (by omega : 0 + 2 ≤ 3)) h36) (by decide +kernel)
          · rw [show (dgs n x.natAbs).length + 2 = ((dgs n x.natAbs).length - 1) + 3 by omega, Nat.pow_add]
            have h4 : n ^ ((dgs n x.natAbs).length - 1) * n ^ 3 ≤ 10 ^ 150 * 36 ^ 3 := Nat.mul_le_mul (by omega) h36
            exact Nat.lt_of_le_of_lt h4 (by decide +kernel)
  · have hc13 : c = 1 ∨ c = 13 := by rcases hc with ⟨_, h⟩ | ⟨_, _, _, h⟩ <;> omega
    exact ⟨[], c, by simp, small, fun w _ hE => Base_bad w l b c (by omega) hc hE, still fun w => rBase_bad l b c (by omega) hc13 hc w⟩
end Go.Proofs.YteaeloeebfdodaaGreatDoor

namespace Go.Proofs.YteaeloeebfdodaaGreatDoor
open Go.RowKit
theorem natAbs_ltD (m j M D : Nat) (h : m < 10 ^ j) (hj : j ≤ M) (hM : M ≤ D) : (m : Int).natAbs < 10 ^ D := by
  rw [Int.natAbs_natCast]
  exact Nat.lt_of_lt_of_le h (Nat.pow_le_pow_right (by decide) (by omega))
set_option maxRecDepth 100000 in
set_option maxHeartbeats 4000000 in
theorem Whole_bd (w : World) (rb : Nat) (a : Option Addr) (n c k D : Nat) (h : IsRod w rb a n c k) (hk : k ≤ 1000) (hD : D ≤ 30) :
    Calls Tryz.prog 23 #[.pointer (some ⟨rb, 0, none⟩), .int .i64 (D : Int)] w fun e w' => (∃ x : Int, e = .returned (txt x) ∧ x.natAbs < 10 ^ D) ∧ RAt w w' rb a n c k 40 := by
  have HH := Lib.hid h; clear h
  go_enter Tryz.func23, Tryz.ntmps23
  go_wp2_with fail
  refine (Up_any _ _ _ _ _ _ _ HH.out (by omega) (by omega)).mono ?_
  rintro e w1 ⟨⟨m, rfl, hm⟩, hR, hO⟩
  obtain ⟨M, hM, rfl⟩ : ∃ M : Nat, M ≤ D ∧ m = (M : Int) := ⟨m.toNat, by unfold UpTo at hm; omega, by unfold UpTo at hm; omega⟩
  clear hm
  have HR := Lib.hid hR; clear hR
  have HO := Lib.hid hO; clear hO
  go_wp2_with fail
  go_loopw [6, 7] (fun s i wr => ∃ j : Nat, ∃ l : List UInt8, j ≤ M ∧ i = .int .i64 j ∧ s = .string (str l) ∧ Hid (l.length = j) ∧ Hid (WTxt j l ∧ RAt w1 wr rb a n c (k + 1) j)) (fun _ i _ => M - (intOf i).toNat)
  case atStart => exact ⟨0, [], Nat.zero_le _, rfl, rfl, Lib.hid rfl, Lib.hid ⟨.inl ⟨rfl, rfl⟩, Only.refl _ _, k + 1, by omega, HR.out⟩⟩
  case round =>
    obtain ⟨j, l, hj, rfl, rfl, HLEN, HI⟩ := hrel
    by_cases hlt : j < M
    · have hjd : decide (j < M) = true := by simpa using hlt
      obtain ⟨hW, hO1, k1, hk1, hR1⟩ := HI.out
      clear HI
      have HW := Lib.hid hW; clear hW
      have HR1 := Lib.hid hR1; clear hR1
      have HO1 := Lib.hid hO1; clear hO1
      go_wp2_with fail
      refine (Up_any _ _ _ _ _ _ _ HR1.out (by omega) (by omega)).mono ?_
      rintro e w2 ⟨⟨q, rfl, hq⟩, hR2, hO2⟩
      have hq9 : 0 ≤ q ∧ q ≤ 9 := by unfold UpTo at hq; omega
      have HR2 := Lib.hid hR2; clear hR2
      have HO2 := Lib.hid (HO1.out.trans hO2); clear hO2 HO1
      clear hq
      go_wp2_with fail
      have hb3 : Below w2.heap.size w2 (w2.alloc (Obj.cells #[Value.int IntKind.i64 0, Value.int IntKind.i64 9, Value.int IntKind.i64 q] 3)) := (Below.refl _ _).alloc (Nat.le_refl _) _
      refine (Pick_any _ rb a n c (k1 + 1) w2.heap.size 3 (HR2.out.mono hb3) (by omega) (by omega) (fun z => 0 ≤ z ∧ z ≤ 9) ⟨by have := HR2.out.lt; omega, by simp⟩ (three_cells w2 q 3 hq9)).mono ?_
      rintro e w3 ⟨⟨d, rfl, hd⟩, hR3, hO3⟩
      have HR3 := Lib.hid hR3; clear hR3
      have HO3 := Lib.hid ((HO2.out.trans (Only.of_below hb3)).trans hO3); clear hO3 HO2 hb3 HR2 HR1
      have HH3 : Hid (0 ≤ d ∧ d ≤ 9) := Lib.hid hd
      clear hd
      by_cases hj0 : j = 0
      · have hz : ((j : Int) == 0) = true := by simp [hj0]
        have hl : l = [] := by
          obtain ⟨_, h⟩ | ⟨h, _⟩ := HW.out
          · exact h
          · omega
        have HL := Lib.hid hl; clear hl HH3
        go_wp2_with fail
        refine (From_any _ rb a n c (k1 + 1 + 1) 1 9 HR3.out (by omega) (by omega)).mono ?_
        rintro e w4 ⟨⟨d1, rfl, hd1⟩, hR4, hO4⟩
        have HR4 := Lib.hid hR4; clear hR4
        have HO4 := Lib.hid (HO3.out.trans hO4); clear hO4 HO3 HR3
        obtain ⟨D1, hD1, rfl⟩ : ∃ D1 : Nat, (1 ≤ D1 ∧ D1 ≤ 9) ∧ d1 = (D1 : Int) := ⟨d1.toNat, by omega, by omega⟩
        clear hd1
        obtain ⟨ch, hch⟩ : ∃ ch : UInt8, ch = UInt8.ofNat (48 + D1) := ⟨_, rfl⟩
        have HT := Lib.hid (WTxt.first D1 hD1 ch hch)
        have HC := Lib.hid hch; clear hch
        have hsz : ¬ (9223372036854775807 < (str l).size + (str [ch]).size) := by rw [str_size, str_size, HLEN.out]; simp; omega
        go_wp2_with fail
        refine (Digit_any _ D1 (by omega) ch HC.out).mono ?_
        rintro e w5 ⟨rfl, hb5⟩
        have HB5 := Lib.hid hb5; clear hb5
        go_wp2_with fail
        refine ⟨⟨1, [ch], by omega, rfl, ?_, Lib.hid rfl, Lib.hid ⟨HT.out, HO4.out.trans (Only.of_below HB5.out), _, ?_, HR4.out.mono HB5.out⟩⟩, ?_⟩
        · rw [str_app, HL.out]; rfl
        · omega
        · simp [intOf]; omega
      · have hz : ((j : Int) == 0) = false := by simp; omega
        obtain ⟨D1, hD1, rfl⟩ : ∃ D1 : Nat, D1 ≤ 9 ∧ d = (D1 : Int) := ⟨d.toNat, by have := HH3.out; omega, by have := HH3.out; omega⟩
        clear HH3
        obtain ⟨ch, hch⟩ : ∃ ch : UInt8, ch = UInt8.ofNat (48 + D1) := ⟨_, rfl⟩
        have HT := Lib.hid (WTxt.next j l HW.out (by omega) D1 (by omega) ch hch)
        have HC := Lib.hid hch; clear hch
        have hsz : ¬ (9223372036854775807 < (str l).size + (str [ch]).size) := by rw [str_size, str_size, HLEN.out]; simp; omega
        go_wp2_with fail
        refine (Digit_any _ D1 (by omega) ch HC.out).mono ?_
        rintro e w5 ⟨rfl, hb5⟩
        have HB5 := Lib.hid hb5; clear hb5
        go_wp2_with fail
        refine ⟨⟨j + 1, l ++ [ch], by omega, by simp, by rw [str_app], Lib.hid (by rw [List.length_append, HLEN.out]; rfl), Lib.hid ⟨HT.out, HO3.out.trans (Only.of_below HB5.out), _, ?_, HR3.out.mono HB5.out⟩⟩, ?_⟩
        · omega
        · simp [intOf]; omega
    · have hjd : decide (j < M) = false := by simpa using hlt
      by_cases hj0 : j = 0
      · have hl : l = [] := by
          obtain ⟨_, h⟩ | ⟨h, _⟩ := HI.out.1
          · exact h
          · omega
        have hem : (str l).toList.isEmpty = true := by rw [Lib.toList_data, str_data, hl]; rfl
        clear hl
        go_wp2_with fail
        go_ret
        obtain ⟨_, hO1, k1, hk1, hR1⟩ := HI.out
        exact ⟨⟨0, by rw [txt_zero]; rfl, Nat.pow_pos (by decide)⟩, HO.out.trans hO1, k1, by omega, hR1⟩
      · obtain ⟨h0, _⟩ | ⟨_, m, hm, hlt', hl⟩ := HI.out.1
        · omega
        have hem : (str l).toList.isEmpty = false := by
          rw [Lib.toList_data, str_data, hl]
          have := Wh.decN_ne m
          cases h : Wh.decN m
          · exact absurd h this
          · rfl
        have HL := Lib.hid hl; clear hl
        have HM := Lib.hid hlt'; clear hlt'
        obtain ⟨_, hO1, k1, hk1, hR1⟩ := HI.out
        have HO1 := Lib.hid (HO.out.trans hO1); clear hO1
        clear HI
        go_wp2_with fail
        refine (Once_any _ rb a n c k1 3 hR1 (by omega) (by omega)).mono ?_
        rintro e w2 ⟨⟨b, rfl⟩, hR2, hO2⟩
        have HR2 := Lib.hid hR2; clear hR2
        have HO2 := Lib.hid (HO1.out.trans hO2); clear hO2 HO1
        cases b
        · go_wp2_with fail
          go_ret
          exact ⟨⟨m, by rw [txt_pos, ← HL.out]; rfl, natAbs_ltD m j M D HM.out hj hM⟩, HO2.out, k1 + 1, by omega, HR2.out⟩
        · have hsz : ¬ (9223372036854775807 < 1 + (str l).size) := by rw [str_size, HLEN.out]; omega
          go_wp2_with fail
          go_ret
          exact ⟨⟨-(m : Int), by rw [txt_neg m hm, ← HL.out]; rfl, by rw [Int.natAbs_neg]; exact natAbs_ltD m j M D HM.out hj hM⟩, HO2.out, k1 + 1, by omega, HR2.out⟩
end Go.Proofs.YteaeloeebfdodaaGreatDoor
