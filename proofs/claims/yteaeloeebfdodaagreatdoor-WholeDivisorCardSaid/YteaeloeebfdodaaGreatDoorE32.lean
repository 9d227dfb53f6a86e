/- Part 32 of the proofs that laws of package whole answer true at every input and leave the input as it was, where the library's variables start as the text lays them (the texts U12, U13, U14, Y5). -/
import Derived.Test.YteaeloeebfdodaaGreatDoorE31
import Derived.Laws.AppendOwnNone
import Derived.Test.YteaeloeebfdodaaGreatDoorE29
import Derived.Test.YteaeloeebfdodaaGreatDoorE06
import Derived.Test.YteaeloeebfdodaaGreatDoorE25
import Derived.Test.YteaeloeebfdodaaGreatDoorE26
set_option linter.unusedVariables false
set_option linter.unusedSimpArgs false
/- WALKS: the reference's division of limbs. -/
namespace Go.Proofs.YteaeloeebfdodaaGreatDoor
open Go.RowKit Go.Proofs.Rf
theorem run_append_none_c {P : Program} {w : World} (base : Nat) (t ty e : TypeId) (i : TypeInfo) (size : Nat) (ht : P.underlying t = some (.slice e)) (hi : P.info? e = some i)
    (v : Value) (n : Nat) (xs : List Value) (hown : w.ownsRow base e size v n xs) (c : Nat) :
    (Builtin.append_ #[t, t] ty #[v, .slice none 0 c]).run P w = .ok v w := by
  rcases hown.2 with ⟨rfl, rfl⟩ | ⟨g, cap, cur, rfl, _, _, hnc, _⟩
  · simp [Builtin.append_, run_underlying ht, sizeOf, typeInfo, hi, Builtin.lenOf, Builtin.firstCells]
  · simp [Builtin.append_, run_underlying ht, sizeOf, typeInfo, hi, Builtin.lenOf, Builtin.firstCells, hnc, storeCells]
/-- an append of limbs, nil or not -/
theorem wpList_append_il {w : World} {ops : Array Oper} {rest : List Oper} {o : Oper} {a : Act} {Q : Exit → Act → World → Prop} (hgd : o.guard = none) (s x : Operand)
    (ho : o.op = .call { callee := .builtin .append, args := #[s, x], argTypes := #[22, 22] })
    (base : Nat) (v : Value) (l : List Nat) (hs : a.eval s = v) (hown : w.ownsRow base 3 1 v l.length (i64s l))
    (ra : Option Addr) (c : Nat) (r : List Nat) (hx : a.eval x = .slice ra r.length c) (hr : Il w ra r.length r)
    (hm : l.length + r.length ≤ 1000000) (hbase : base ≤ w.heap.size)
    (h : ∀ v' w', w'.ownsRow base 3 1 v' (l ++ r).length (i64s (l ++ r)) → w.grownBy w' v.ownBlock → wpList Tryz.prog ops Q rest (a.put o.dst v') w') : wpList Tryz.prog ops Q (o :: rest) a w := by
  obtain ⟨inf, i1, i2, i3, i4⟩ := infoI
  have hap : i64s l ++ i64s r = i64s (l ++ r) := by simp [i64s]
  cases r with
  | nil =>
    have hdone : wpList Tryz.prog ops Q rest (a.put o.dst v) w := h v w (by rw [List.append_nil]; exact hown) (World.grownBy.refl _ _)
    cases ra with
    | none =>
      refine wpList_plain hgd fun K hK => ?_
      have hrun := run_append_none_c (P := Tryz.prog) (w := w) base 22 o.type 3 inf 1 Tryz.underlying22 i1 v l.length (i64s l) hown c
      unfold Oper.wp
      simp [execOp, ho, resolve, invoke, builtin, hs, hx, hrun, Result.andThen]
      exact hK _ _ hdone
    | some p =>
      refine wpList_append_own _ hgd s x 22 ho base 3 inf (.int .i64 0) 1 8 Tryz.underlying22 i1 i2 i3 i4 rfl (by decide) v l.length _ hs hown p 0 c [] hx rfl (fun j u hj => by cases j <;> cases hj) (fun u hu => by cases hu) (maxI (n := l.length) (by omega) |>.1 |> fun q => by omega) (by omega) hbase ?_
      intro v' w' h1 h2 _
      exact h v' w' (by simpa using h1) h2
  | cons y r =>
    obtain ⟨b, off, rfl, hb, hc⟩ := hr 0 (by simp)
    refine wpList_append_own _ hgd s x 22 ho base 3 inf (.int .i64 0) 1 8 Tryz.underlying22 i1 i2 i3 i4 rfl (by decide) v l.length _ hs hown ⟨b, off, none⟩ (y :: r).length c (i64s (y :: r)) hx (by simp [i64s]) ?_ ?_ (by simp only [maxLen]; omega) (by omega) hbase ?_
    · intro j u hj
      have hlt : j < (y :: r).length := by
        have := (List.getElem?_eq_some_iff.1 hj).1
        simpa [i64s] using this
      rw [show (⟨b, off, none⟩ : Addr).add j = ⟨b, off + j, none⟩ from by simp [Addr.add], hc j hlt, ← hj]
      simp only [i64s, List.getElem?_map, List.getElem?_eq_getElem hlt, Option.map_some, List.getD_eq_getElem?_getD, Option.getD_some]
    · intro u hu
      obtain ⟨q, _, rfl⟩ := List.mem_map.1 hu
      rfl
    · intro v' w' h1 h2 _
      rw [hap] at h1
      exact h v' w' (by rw [List.length_append]; exact h1) h2
/-- the state of the division: at position i -/
structure OVS (w wr : World) (l1 l2 : List Nat) (i : Nat) (rv : Value) (quo r : List Nat) : Prop where
  ov : OVI l1 l2 i quo (val4 r)
  own : OwnJ wr w.heap.size quo
  rl : RL4 wr rv r
  sr : Sm4 r
  tr : Top r
  only : Only w.heap.size w wr
/-- within a round: the guess g is not too small -/
structure OVG (w wr : World) (l2 : List Nat) (rv : Value) (quo r : List Nat) (g : Nat) : Prop where
  ge : val4 r / val4 l2 ≤ g
  lt : g ≤ 9999
  own : OwnJ wr w.heap.size quo
  rl : RL4 wr rv r
  far : ∀ b off k c, rv = .slice (some ⟨b, off, none⟩) k c → w.heap.size < b
  only : Only w.heap.size w wr
theorem rem_len {r m : List Nat} (sm : Sm4 m) (tr : Top r) (h : val4 r < val4 m) : r.length ≤ m.length := by
  rcases Nat.lt_or_ge m.length r.length with h1 | h1
  · have := val4_lt_len sm tr h1; omega
  · exact h1
theorem Il.setCell_far {w : World} {a : Option Addr} {n : Nat} {l : List Nat} {g : Nat} (j : Nat) (v : Value) (h : Il w a n l) (hf : ∀ b off, a = some ⟨b, off, none⟩ → g < b) : Il (w.setCell ⟨g, j, none⟩ v) a n l := fun i hi => by
  obtain ⟨b, off, e, hl, hc⟩ := h i hi
  have hg := hf b off e
  refine ⟨b, off, e, by simpa using hl, fun q hq => ?_⟩
  rw [World.cell?_setCell_other _ _ _ _ (by intro e'; have := congrArg Addr.block e'; simp at this; omega)]
  exact hc q hq
theorem OVG.stored {w wr : World} {l1 l2 quo r : List Nat} {rv : Value} {g j : Nat} (h : OVG w wr l2 rv quo r g) (hj : j < quo.length) :
    wr.cell? ⟨w.heap.size, j, none⟩ = some (.int .i64 (quo.getD j 0 : Nat)) ∧ wr.frozen? ⟨w.heap.size, j, none⟩ = false ∧
    OwnJ (wr.setCell ⟨w.heap.size, j, none⟩ (.int .i64 g)) w.heap.size (quo.set j g) ∧ Only w.heap.size w (wr.setCell ⟨w.heap.size, j, none⟩ (.int .i64 g)) ∧ RL4 (wr.setCell ⟨w.heap.size, j, none⟩ (.int .i64 g)) rv r := by
  refine ⟨h.own.cell j hj, h.own.free j hj, h.own.set hj g _ rfl, h.only.setCell j _, ?_⟩
  obtain ⟨a, c, rfl, hil, hc⟩ := h.rl
  exact ⟨a, c, rfl, hil.setCell_far j _ (fun b off e => h.far b off _ _ (by rw [e])), hc⟩
set_option maxRecDepth 100000 in
set_option maxHeartbeats 4000000 in
theorem rover_any (w : World) (v1 v2 : Value) (l1 l2 : List Nat) (h1 : RL4 w v1 l1) (h2 : RL4 w v2 l2) (s1 : Sm4 l1) (s2 : Sm4 l2) (t2 : Top l2) (h0 : 0 < l2.length) (hm : l1.length ≤ 10000) (hm2 : l2.length ≤ 10000) :
    Calls Tryz.prog 128 #[v1, v2] w fun e w' => (∃ qv rv, ∃ q r : List Nat, e = .returned (.tuple #[qv, rv]) ∧ RL4 w' qv q ∧ RL4 w' rv r ∧ Sm4 q ∧ Sm4 r ∧ Top q ∧ Top r ∧ val4 q = val4 l1 / val4 l2 ∧ val4 r = val4 l1 % val4 l2 ∧ q.length ≤ l1.length ∧ r.length ≤ l2.length) ∧ Below w.heap.size w w' := by
  have hpos : 0 < val4 l2 := by
    rcases Nat.eq_zero_or_pos (val4 l2) with h | h
    · rw [(val4_eq_zero t2).1 h] at h0; simp at h0
    · exact h
  obtain ⟨a1, c1, rfl, hc1, -⟩ := h1
  have hmk := run_make_ints l1.length (by omega) w (l1.length : Int) rfl
  have hal : Below w.heap.size w (w.alloc (.cells (zerosJ l1.length) 3)) := (Below.refl _ _).alloc (Nat.le_refl _) _
  have HC1 := Lib.hid hc1; clear hc1
  have H2 := Lib.hid h2; clear h2
  have HS := Lib.hid (And.intro s1 (And.intro s2 (And.intro t2 hpos))); clear s1 s2 t2 hpos
  have HI0 : Hid (OVS w (w.alloc (.cells (zerosJ l1.length) 3)) l1 l2 l1.length (.slice none 0 0) (List.replicate l1.length 0) []) :=
    Lib.hid ⟨OVI.start _ _ HS.out.2.2.2, ownJ_make _ _, RL4.nil _, Sm4.nil, .inl rfl, Only.of_below hal⟩
  clear hal
  generalize hn : l1.length = n at *
  generalize hk : l2.length = k at *
  have HN := Lib.hid (And.intro hn hk); clear hn hk
  generalize w.alloc (.cells (zerosJ n) 3) = W0 at *
  go_enter Tryz.func128, Tryz.ntmps128
  go_wp2_with fail
  go_loopw [7, 8] (fun rv iv wr => ∃ (i : Nat) (quo r : List Nat), i ≤ n ∧ iv = .int .i64 ((i : Int) - 1) ∧ Hid (OVS w wr l1 l2 i rv quo r)) (fun _ iv _ => (intOf iv + 1).toNat)
  case atStart => exact ⟨n, _, [], Nat.le_refl _, rfl, HI0⟩
  case round =>
    clear HI0
    obtain ⟨i, quo, r, hi, rfl, HI⟩ := hrel
    by_cases hi0 : i = 0
    · subst hi0
      have hd1 : decide ((0 : Int) ≤ ((0 : Nat) : Int) - 1) = false := by decide
      have hql : quo.length = n := by rw [HI.out.ov.len, HN.out.1]
      obtain ⟨a', c', e', hil, hlc⟩ := HI.out.own.rl
      rw [hql] at e' hil hlc
      simp only [Value.slice.injEq] at e'
      obtain ⟨rfl, _, rfl⟩ := e'
      have HT := Lib.hid (rtrim_any wr _ _ quo n hil (by omega) hlc)
      have HIL := Lib.hid (And.intro hil (And.intro hlc hql))
      clear hil hlc hql
      go_wp2_with fail
      refine HT.out.mono ?_
      rintro e w2 ⟨⟨m, rfl, hq1, hq2, hq3⟩, rfl⟩
      go_wp2
      go_ret2
      obtain ⟨e1, e2, e3⟩ := HIL.out
      have hf := HI.out.ov.eq
      have hlt := HI.out.ov.lt
      rw [List.drop_zero, List.drop_zero] at hf
      have hvt : val4 (quo.take m) = val4 quo := val4_zeros quo m (fun j h1 h2 => hq2 j h1 (by rw [e3] at h2; exact h2))
      refine ⟨⟨_, _, quo.take m, r, rfl, RL4.cut (by rw [e3]; exact e1) (by rw [e3]; exact hq1) (by rw [e3]; exact e2), HI.out.rl, HI.out.ov.sm.take m, HI.out.sr, top_cut (by rw [e3]; exact hq1) hq3, HI.out.tr, ?_, ?_, ?_, ?_⟩, HI.out.only.below (Nat.le_refl _) (Nat.le_refl _)⟩
      · rw [hvt, hf, Nat.mul_comm, Nat.mul_add_div HS.out.2.2.2, Nat.div_eq_of_lt hlt, Nat.add_zero]
      · rw [hf, Nat.mul_comm, Nat.mul_add_mod, Nat.mod_eq_of_lt hlt]
      · rw [List.length_take, e3]; omega
      · rw [← HN.out.2]; exact rem_len HS.out.2.1 HI.out.tr hlt
    · obtain ⟨j, rfl⟩ : ∃ j, i = j + 1 := ⟨i - 1, by omega⟩
      have hji : ((j + 1 : Nat) : Int) - 1 = (j : Int) := by omega
      rw [hji]
      have hd1 : decide ((0 : Int) ≤ (j : Int)) = true := by rw [decide_eq_true_iff]; omega
      obtain ⟨b1, off1, rfl, hbl1, hcell1⟩ := (HC1.out.only HI.out.only (Nat.le_refl _)) j (by omega)
      have hx := hcell1 j (by omega)
      clear hcell1
      have hxl : l1.getD j 0 < 10000 := HS.out.1.getD j
      generalize hxx : l1.getD j 0 = x at *
      have HX := Lib.hid hxx; clear hxx
      obtain ⟨ra, rc, hrv, hil, hrc⟩ := HI.out.rl
      subst hrv
      have HIL := Lib.hid (And.intro hil hrc); clear hil hrc
      have hgb : w.heap.size < wr.heap.size := HI.out.own.lt
      have hAb : Below wr.heap.size wr (wr.alloc (Obj.cells #[.int .i64 x] 3)) := (Below.refl _ _).alloc (Nat.le_refl _) _
      have hownA : (wr.alloc (Obj.cells #[.int .i64 x] 3)).ownsRow wr.heap.size 3 1 (.slice (some ⟨wr.heap.size, 0, none⟩) 1 1) [x].length (i64s [x]) := World.ownsRow_lit (size := 1) _ _ 1 (Nat.le_refl _) (by simp [maxLen]) rfl
      have hilA : Il (wr.alloc (Obj.cells #[.int .i64 x] 3)) ra r.length r := HIL.out.1.mono hAb
      have hrl : r.length ≤ k := by rw [← HN.out.2]; exact rem_len HS.out.2.1 HI.out.tr HI.out.ov.lt
      have hbigA : wr.heap.size ≤ (wr.alloc (Obj.cells #[.int .i64 x] 3)).heap.size := hAb.size
      have HAB := Lib.hid hAb; clear hAb
      have hlen : [x].length + r.length ≤ 1000000 := by rw [List.length_singleton]; omega
      go_wp2_with (at_builtin; refine wpList_append_il rfl _ _ rfl wr.heap.size (.slice (some ⟨wr.heap.size, 0, none⟩) 1 1) [x] rfl hownA ra rc r rfl hilA hlen hbigA ?_)
      intro v' W3 ho3 hg3
      obtain ⟨sa, sc, rfl⟩ := own_sl ho3
      obtain ⟨a', c', e', hil3, hlc3⟩ := il_of_own (l := x :: r) ho3
      have hfar : ∀ b off, sa = some ⟨b, off, none⟩ → w.heap.size < b := by
        intro b off e
        subst e
        rcases ho3.2 with ⟨h, _⟩ | ⟨g, cap, cur, h, hbg, _⟩
        · cases h
        · cases h; omega
      have hB3 : Below wr.heap.size wr W3 := HAB.out.trans ((grownBy_onlyS hg3).below (B := wr.heap.size) (fun k hk => ownBlock_ge hownA hk) hbigA)
      have e1 : (x :: r).length = r.length + 1 := rfl
      simp only [Value.slice.injEq] at e'
      obtain ⟨rfl, -, rfl⟩ := e'
      rw [e1] at hil3 hlc3
      have HT := Lib.hid (rtrim_any W3 sa sc (x :: r) (r.length + 1) hil3 (by omega) hlc3)
      have HIL3 := Lib.hid (And.intro hil3 (And.intro hlc3 (And.intro hfar hB3)))
      clear ho3 hg3 hil3 hlc3 hfar hB3 hownA hilA hbigA hlen e1
      go_wp2_with fail
      refine HT.out.mono ?_
      rintro e w2 ⟨⟨m, rfl, hq1, hq2, hq3⟩, rfl⟩
      obtain ⟨r2, hr2⟩ : ∃ r2, r2 = (x :: r).take m := ⟨_, rfl⟩
      have e1 : (x :: r).length = r.length + 1 := rfl
      have hr2l : r2.length = m := by rw [hr2, List.length_take, e1]; omega
      have hrl2 : RL4 W3 (.slice sa m sc) r2 := by
        rw [hr2]; exact RL4.cut (by rw [e1]; exact HIL3.out.1) (by rw [e1]; exact hq1) (by rw [e1]; exact HIL3.out.2.1)
      have hsm2 : Sm4 r2 := by
        rw [hr2]
        refine Sm4.take (fun y hy => ?_) m
        rcases List.mem_cons.1 hy with h | h
        · rw [h]; exact hxl
        · exact HI.out.sr y h
      have htr2 : Top r2 := by rw [hr2]; exact top_cut (by rw [e1]; exact hq1) hq3
      have hval : val4 r2 = x + 10000 * val4 r := by
        rw [hr2, val4_zeros (x :: r) m (fun j h1 h2 => hq2 j h1 (by rw [e1] at h2; exact h2))]
        rfl
      obtain ⟨hlt, hnext⟩ := HI.out.ov.next (by rw [HN.out.1]; omega) HS.out.1
      rw [HX.out] at hlt hnext
      rw [← hval] at hlt hnext
      have hon3 : Only w.heap.size w W3 := HI.out.only.trans (Only.of_below HIL3.out.2.2.2)
      have how3 : OwnJ W3 w.heap.size quo := HI.out.own.mono HIL3.out.2.2.2 hgb
      have H23 : RL4 W3 v2 l2 := by
        obtain ⟨a2, c2, e2, h2, h2'⟩ := H2.out
        exact ⟨a2, c2, e2, h2.only hon3 (Nat.le_refl _), h2'⟩
      have HGU := Lib.hid (rguess_any W3 _ _ r2 l2 hrl2 H23 hsm2 HS.out.2.1 htr2 HS.out.2.2.1 (by rw [HN.out.2]; exact h0) hlt (by rw [HN.out.2]; exact hm2))
      have HR2 := Lib.hid (And.intro hrl2 (And.intro hsm2 (And.intro htr2 (And.intro hnext (And.intro hon3 how3)))))
      have hm1' : m ≤ k + 1 := by omega
      have HFAR := Lib.hid HIL3.out.2.2.1
      have HR2L := Lib.hid hr2l
      clear hq1 hq2 hq3 hr2l hrl2 hsm2 htr2 hval hlt hnext hon3 how3 H23 e1 hr2 HT HIL3 HI HIL hgb HAB hrl
      go_wp2_with fail
      refine HGU.out.mono ?_
      rintro e w2 ⟨⟨g0, rfl, hg1, hg2⟩, rfl⟩
      have HJ0 := Lib.hid (OVG.mk (w := w) (wr := w2) (l2 := l2) (rv := .slice sa m sc) (quo := quo) (r := r2) (g := g0) hg1 hg2 HR2.out.2.2.2.2.2 HR2.out.1 (by rintro b off k c e; cases e; exact HFAR.out _ _ rfl) HR2.out.2.2.2.2.1)
      clear hg1 hg2
      go_wp2_with fail
      go_loopw [9] (fun gv wr => ∃ g : Nat, gv = .int .i64 (g : Int) ∧ Hid (OVG w wr l2 (.slice sa m sc) quo r2 g)) (fun gv _ => (intOf gv).toNat)
      case atStart => exact ⟨g0, rfl, HJ0⟩
      case round =>
        clear HJ0
        obtain ⟨g, rfl, HG⟩ := hrel
        have hgl : g < 10000 := by have := HG.out.lt; omega
        go_wp2_with fail
        refine (rlimbsOf_any g hgl _).mono ?_
        rintro e w4 ⟨⟨v4, l4, rfl, hr4, hs4, ht4, hv4, hn4⟩, hb4⟩
        have H24 : RL4 w4 v2 l2 := by
          obtain ⟨a2, c2, e2, h2, h2'⟩ := H2.out
          exact ⟨a2, c2, e2, (h2.only HG.out.only (Nat.le_refl _)).mono hb4, h2'⟩
        have HT4 := Lib.hid (rtimes_any w4 v2 v4 l2 l4 H24 hr4 HS.out.2.1 hs4 (by rw [HN.out.2]; omega) (by omega))
        have HB4 := Lib.hid (And.intro hb4 (And.intro hv4 hn4))
        clear H24 hr4 hs4 ht4 hv4 hn4 hb4
        go_wp2_with fail
        refine HT4.out.mono ?_
        rintro e w5 ⟨⟨v5, l5, rfl, hr5, hs5, ht5, hv5, hn5⟩, hb5⟩
        have hb45 := HB4.out.1.trans (hb5.mono HB4.out.1.size)
        have HC5 := Lib.hid (rcmp_any w5 v5 (.slice sa m sc) l5 r2 hr5 (HG.out.rl.mono hb45) hs5 HR2.out.2.1 ht5 HR2.out.2.2.1 (by rw [HN.out.2] at hn5; have := HB4.out.2.2; omega))
        rw [HB4.out.2.1] at hv5
        have HB5 := Lib.hid (And.intro hb45 hv5)
        clear HT4 hr5 hs5 ht5 hv5 hn5 hb5 hb45
        go_wp2_with fail
        refine HC5.out.mono ?_
        rintro e w6 ⟨rfl, nn, rfl⟩
        clear HC5
        by_cases hgt : val4 r2 < val4 l2 * g
        · have hd3 : decide ((0 : Int) < Wh.cmpN (val4 l5) (val4 r2)) = true := by
            rw [HB5.out.2, Wh.cmpN_gt hgt]; decide
          have hg0 : val4 r2 / val4 l2 < g := by
            rw [Nat.div_lt_iff_lt_mul HS.out.2.2.2, Nat.mul_comm]; exact hgt
          have HJ := Lib.hid (OVG.mk (w := w) (wr := w5.drewN nn) (l2 := l2) (rv := .slice sa m sc) (quo := quo) (r := r2) (g := g - 1) (by omega) (by have := HG.out.lt; omega) ((HG.out.own.mono HB5.out.1 HG.out.own.lt).mono (below_drewN (w.heap.size + 1) _ nn) (Nat.lt_succ_self _)) ((HG.out.rl.mono HB5.out.1).mono (below_drewN _ _ nn)) HG.out.far ((HG.out.only.trans (Only.of_below HB5.out.1)).trans (Only.of_below (below_drewN _ _ nn))))
          have hgp : 0 < g := Nat.lt_of_le_of_lt (Nat.zero_le _) hg0
          clear hg0
          go_wp2_with fail
          exact ⟨⟨g - 1, by congr 1; omega, HJ⟩, by simp [intOf]; omega⟩
        · have hd3 : decide ((0 : Int) < Wh.cmpN (val4 l5) (val4 r2)) = false := by
            rw [HB5.out.2]
            rcases Nat.lt_or_ge (val4 l2 * g) (val4 r2) with h | h
            · rw [Wh.cmpN_lt h]; decide
            · rw [show val4 l2 * g = val4 r2 by omega, Wh.cmpN_self]; decide
          have hgq : g = val4 r2 / val4 l2 := by
            refine Nat.le_antisymm ?_ HG.out.ge
            rw [Nat.le_div_iff_mul_le HS.out.2.2.2, Nat.mul_comm]; omega
          have HG6 : OVG w (w5.drewN nn) l2 (.slice sa m sc) quo r2 g := ⟨HG.out.ge, HG.out.lt, ((HG.out.own.mono HB5.out.1 HG.out.own.lt).mono (below_drewN (w.heap.size + 1) _ nn) (Nat.lt_succ_self _)), ((HG.out.rl.mono HB5.out.1).mono (below_drewN _ _ nn)), HG.out.far, ((HG.out.only.trans (Only.of_below HB5.out.1)).trans (Only.of_below (below_drewN _ _ nn)))⟩
          have hql : quo.length = n := by
            have := HR2.out.2.2.2.1.len
            rw [List.length_set, HN.out.1] at this; exact this
          obtain ⟨hce, hfr, how, hon, hrl⟩ := HG6.stored (l1 := l1) (j := j) (by omega)
          have hnx := HR2.out.2.2.2.1
          rw [← hgq] at hnx
          have HE := Lib.hid (And.intro hnx (And.intro how (And.intro hon (And.intro hrl hgq))))
          have hle : val4 l2 * g ≤ val4 r2 := by omega
          clear HG6 how hon hrl hql HG HB5 hnx hgq hgt
          go_wp2_with fail
          generalize (w5.drewN nn).setCell ⟨w.heap.size, j, none⟩ (.int .i64 (g : Int)) = W6 at HE ⊢
          clear hce hfr
          refine (rlimbsOf_any g hgl _).mono ?_
          rintro e w7 ⟨⟨v7, l7, rfl, hr7, hs7, ht7, hv7, hn7⟩, hb7⟩
          have H27 : RL4 w7 v2 l2 := by
            obtain ⟨a2, c2, e2, h2, h2'⟩ := H2.out
            exact ⟨a2, c2, e2, (h2.only HE.out.2.2.1 (Nat.le_refl _)).mono hb7, h2'⟩
          have HT7 := Lib.hid (rtimes_any w7 v2 v7 l2 l7 H27 hr7 HS.out.2.1 hs7 (by rw [HN.out.2]; omega) (by omega))
          have HB7 := Lib.hid (And.intro hb7 (And.intro hv7 hn7))
          clear H27 hr7 hs7 ht7 hv7 hn7 hb7
          go_wp2_with fail
          refine HT7.out.mono ?_
          rintro e w8 ⟨⟨v8, l8, rfl, hr8, hs8, ht8, hv8, hn8⟩, hb8⟩
          have hb78 := HB7.out.1.trans (hb8.mono HB7.out.1.size)
          rw [HB7.out.2.1] at hv8
          have hlen8 : l8.length ≤ r2.length := by
            rcases Nat.lt_or_ge r2.length l8.length with h | h
            · have := val4_lt_len HR2.out.2.1 ht8 h; omega
            · exact h
          have HM8 := Lib.hid (rminus_any w8 (.slice sa m sc) v8 r2 l8 (HE.out.2.2.2.1.mono hb78) hr8 HR2.out.2.1 hs8 (by rw [hv8]; exact hle) hlen8 (by rw [HR2L.out]; omega))
          rw [hv8] at HM8
          have HB8 := Lib.hid hb78
          clear HT7 hr8 hs8 ht8 hv8 hn8 hb8 hb78 hlen8 HB7
          go_wp2_with fail
          refine HM8.out.mono ?_
          rintro e w9 ⟨⟨v9, l9, rfl, hr9, hs9, ht9, hv9, hn9⟩, hb9⟩
          have hb69 := HB8.out.trans (hb9.mono HB8.out.size)
          have hmod : val4 l9 = val4 r2 % val4 l2 := by
            rw [hv9]
            have h1 := Nat.div_add_mod (val4 r2) (val4 l2)
            rw [← HE.out.2.2.2.2] at h1
            omega
          have hov := HE.out.1
          rw [← hmod] at hov
          have HF := Lib.hid (OVS.mk (w := w) (wr := w9) (l1 := l1) (l2 := l2) (i := j) (rv := v9) (quo := quo.set j g) (r := l9) hov (HE.out.2.1.mono hb69 HE.out.2.1.lt) hr9 hs9 ht9 (HE.out.2.2.1.trans (Only.of_below hb69)))
          clear hr9 hs9 ht9 hv9 hn9 hb9 hb69 hmod hov HM8 HE HR2 HGU
          go_wp2_with fail
          exact ⟨⟨j, _, l9, by omega, rfl, HF⟩, by simp [intOf]⟩
end Go.Proofs.YteaeloeebfdodaaGreatDoor

/- WALKS: the reference's quotient and remainder of numbers. -/
namespace Go.Proofs.YteaeloeebfdodaaGreatDoor
open Go.RowKit Go.Proofs.Rf
theorem sign_quo_neg {x y z : Int} {bx b2 : Bool} (h1 : decide (x < 0) = bx) (h2 : decide (y < 0) = b2) (hz : x.tdiv y = z) (e : (bx != b2) = true) : 0 < x.natAbs / y.natAbs ↔ z < 0 := by
  have hn : z.natAbs = x.natAbs / y.natAbs := by rw [← hz]; exact Int.natAbs_tdiv ..
  have hle : z ≤ 0 := by
    rw [← hz]
    cases bx <;> cases b2 <;> simp at e h1 h2
    · have := Int.tdiv_nonneg h1 (show (0 : Int) ≤ -y by omega)
      rw [Int.tdiv_neg] at this; omega
    · have := Int.tdiv_nonneg (show (0 : Int) ≤ -x by omega) h2
      rw [Int.neg_tdiv] at this; omega
  rw [← hn]
  omega
theorem sign_quo_pos {x y z : Int} {bx b2 : Bool} (h1 : decide (x < 0) = bx) (h2 : decide (y < 0) = b2) (hz : x.tdiv y = z) (e : (bx != b2) = false) : ¬ z < 0 := by
  have hle : 0 ≤ z := by
    rw [← hz]
    cases bx <;> cases b2 <;> simp at e h1 h2
    · exact Int.tdiv_nonneg h1 h2
    · have := Int.tdiv_nonneg (show (0 : Int) ≤ -x by omega) (show (0 : Int) ≤ -y by omega)
      rw [Int.neg_tdiv, Int.tdiv_neg] at this; omega
  omega
theorem sign_rem_neg {x y z : Int} {bx : Bool} (h1 : decide (x < 0) = bx) (hz : x.tmod y = z) (e : bx = true) : 0 < x.natAbs % y.natAbs ↔ z < 0 := by
  have hn : z.natAbs = x.natAbs % y.natAbs := by rw [← hz]; exact Int.natAbs_tmod ..
  have hle : z ≤ 0 := by
    rw [← hz]
    subst e
    simp at h1
    have := Int.tmod_nonneg y (show (0 : Int) ≤ -x by omega)
    rw [Int.neg_tmod] at this; omega
  rw [← hn]
  omega
theorem sign_rem_pos {x y z : Int} {bx : Bool} (h1 : decide (x < 0) = bx) (hz : x.tmod y = z) (e : bx = false) : ¬ z < 0 := by
  have hle : 0 ≤ z := by
    rw [← hz]
    subst e
    simp at h1
    exact Int.tmod_nonneg y h1
  omega
/-- what each operation of the quotient's region yields -/
def QSV (x y : Int) (TZ TM : ByteArray) : Nat → Value → World → Prop
  | 0, v, _ => v = .int .i64 x
  | 1, v, _ => v = .int .i64 y
  | 2, v, _ => v = .int .i64 (x.tdiv y)
  | 3, v, _ => v = .string TZ
  | 4, v, _ => v = .int .i64 x
  | 5, v, _ => v = .int .i64 y
  | 6, v, _ => v = .int .i64 (x.tmod y)
  | _, v, _ => v = .string TM
set_option maxRecDepth 100000 in
set_option maxHeartbeats 1000000 in
theorem rQuo_small (x y : Int) (h : x.natAbs < 1000000000 ∧ y.natAbs < 1000000000) (hy0 : y ≠ 0) (w : World) :
    Calls Tryz.prog 44 #[txt x, txt y] w fun e w' => e = .returned (.tuple #[txt (x.tdiv y), txt (x.tmod y)]) ∧ Below w.heap.size w w' := by
  have HSM := Lib.hid (fun w => small_yes x y h.1 h.2 w)
  have hp1 : (x.tdiv y).natAbs ≤ x.natAbs := by rw [show (x.tdiv y).natAbs = x.natAbs / y.natAbs from Int.natAbs_tdiv ..]; exact Nat.div_le_self _ _
  have hp2 : (x.tmod y).natAbs ≤ x.natAbs := by rw [show (x.tmod y).natAbs = x.natAbs % y.natAbs from Int.natAbs_tmod ..]; exact Nat.mod_le _ _
  have HO1 := Lib.hid (fun w => OfInt_int (x.tdiv y) (by omega) w)
  have HO2 := Lib.hid (fun w => OfInt_int (x.tmod y) (by omega) w)
  have hne : (y == 0) = false := by rw [beq_eq_false_iff_ne]; exact hy0
  have hne2 : ¬ y = 0 := hy0
  unfold txt at *
  generalize str (Wh.decI x) = TX at *
  generalize str (Wh.decI y) = TY at *
  generalize str (Wh.decI (x.tdiv y)) = TZ at *
  generalize str (Wh.decI (x.tmod y)) = TM at *
  go_enter Tryz.func44, Tryz.ntmps44
  go_wp2_with fail
  refine (HSM.out _).mono ?_
  rintro e w' ⟨rfl, rfl⟩
  go_wp2_with fail
  have hw1 : IntKind.i64.wrap (x.tdiv y) = x.tdiv y := wrap_i64 _ (by omega) (by omega)
  have hw2 : IntKind.i64.wrap (x.tmod y) = x.tmod y := wrap_i64 _ (by omega) (by omega)
  refine wp_mono (Q := fun e a W' => e = .normal ∧ (∃ vals : Nat → Value, a = { tmps := #[.string TX, .string TY, undef, undef, .string TZ, .string TM, .int .i64 x, .int .i64 y, .bool true, undef, undef, .tuple #[.int .i64 x, .int .i64 y, .bool true], .string TX, .string TY, .tuple #[.int .i64 x, .int .i64 y, .bool true], .int .i64 x, .int .i64 y, .bool true, .bool true, vals 0, vals 1, vals 2, vals 3, vals 4, vals 5, vals 6, vals 7, undef, undef, undef, undef, undef, undef, undef, undef, undef, undef, undef, undef, undef, undef, undef, undef, undef, undef, undef, undef, undef], defers := [] }) ∧ Below w.heap.size w W') ?_ ?_
  refine Rt.wp_region_grow (n0 := 2) [8, 9] [] 48 (fun vals => { tmps := #[.string TX, .string TY, undef, undef, .string { data := #[] }, .string { data := #[] }, .int .i64 x, .int .i64 y, .bool true, undef, undef, .tuple #[.int .i64 x, .int .i64 y, .bool true], .string TX, .string TY, .tuple #[.int .i64 x, .int .i64 y, .bool true], .int .i64 x, .int .i64 y, .bool true, .bool true, vals 0, vals 1, vals 2, vals 3, vals 4, vals 5, vals 6, vals 7, undef, undef, undef, undef, undef, undef, undef, undef, undef, undef, undef, undef, undef, undef, undef, undef, undef, undef, undef, undef, undef], defers := [] }) (QSV x y TZ TM) (by kernel_rfl) (by kernel_rfl) (by kernel_rfl) (by kernel_rfl) (fun _ _ _ _ _ h => absurd h.1 (by simp)) (by kernel_rfl) rfl (fun _ => by kernel_rfl) (by kernel_rfl) (by kernel_rfl) (fun i v w w' h _ => by
    match i, h with
    | 0, h | 1, h | 2, h | 3, h | 4, h | 5, h | 6, h | _ + 7, h => exact h) ?_ ?_ ?_
  · intro i o d hi hT hW hd' vals w' hb hf
    have hlt : i < 10 := (Array.getElem?_eq_some_iff.1 hi).1
    rcases i with _ | _ | _ | _ | _ | _ | _ | _ | _ | _ | i
    · obtain rfl := Option.some.inj hi
      obtain rfl := Option.some.inj hd'
      dsimp only
      go_simp
      exact ⟨rfl, Below.refl _ _⟩
    · obtain rfl := Option.some.inj hi
      obtain rfl := Option.some.inj hd'
      dsimp only
      go_simp
      exact ⟨rfl, Below.refl _ _⟩
    · obtain rfl := Option.some.inj hi
      obtain rfl := Option.some.inj hd'
      have e0 : vals 0 = _ := hf 0 (by kernel_rfl)
      have e1 : vals 1 = _ := hf 1 (by kernel_rfl)
      dsimp only
      rw [e0, e1]
      go_simp
      exact ⟨rfl, Below.refl _ _⟩
    · obtain rfl := Option.some.inj hi
      obtain rfl := Option.some.inj hd'
      have e2 : vals 2 = _ := hf 2 (by kernel_rfl)
      dsimp only
      rw [e2]
      go_simp
      refine (HO1.out _).mono ?_
      rintro e W ⟨rfl, hb2⟩
      exact ⟨rfl, hb2⟩
    · obtain rfl := Option.some.inj hi
      obtain rfl := Option.some.inj hd'
      dsimp only
      go_simp
      exact ⟨rfl, Below.refl _ _⟩
    · obtain rfl := Option.some.inj hi
      obtain rfl := Option.some.inj hd'
      dsimp only
      go_simp
      exact ⟨rfl, Below.refl _ _⟩
    · obtain rfl := Option.some.inj hi
      obtain rfl := Option.some.inj hd'
      have e4 : vals 4 = _ := hf 4 (by kernel_rfl)
      have e5 : vals 5 = _ := hf 5 (by kernel_rfl)
      dsimp only
      rw [e4, e5]
      go_simp
      exact ⟨rfl, Below.refl _ _⟩
    · obtain rfl := Option.some.inj hi
      obtain rfl := Option.some.inj hd'
      have e6 : vals 6 = _ := hf 6 (by kernel_rfl)
      dsimp only
      rw [e6]
      go_simp
      refine (HO2.out _).mono ?_
      rintro e W ⟨rfl, hb2⟩
      exact ⟨rfl, hb2⟩
    · cases hT
    · cases hT
    · omega
  · intro p o d hi hW hd vals w' hb hf
    cases hW
  · intro vals w' hb hf
    have e3 : vals 3 = .string TZ := hf 3 (by decide) rfl
    have e7 : vals 7 = .string TM := hf 7 (by decide) rfl
    rw [e3, e7]
    refine Rt.wpAny_step (i := 8) (by kernel_rfl) rfl (by rfl) (fun K hK => ?_)
    have HK := Lib.hid hK; clear hK
    go_simp
    refine HK.out _ _ ?_
    clear HK
    refine Rt.wpAny_step (i := 9) (by kernel_rfl) rfl (by rfl) (fun K hK => ?_)
    have HK := Lib.hid hK; clear hK
    go_simp
    refine HK.out _ _ ?_
    exact Rt.wpAny_end (by kernel_rfl) ⟨rfl, ⟨vals, by rw [e3, e7]⟩, hb⟩
  · rintro e a W ⟨rfl, ⟨vals, rfl⟩, hB⟩
    go_wp2
    go_ret2
    exact ⟨rfl, hB⟩
set_option maxRecDepth 100000 in
set_option maxHeartbeats 1000000 in
theorem rQuo_big (x y : Int) (hx : V400 x) (hy : V400 y) (hy0 : y ≠ 0) (h : ¬ (x.natAbs < 1000000000 ∧ y.natAbs < 1000000000)) (w : World) :
    Calls Tryz.prog 44 #[txt x, txt y] w fun e w' => e = .returned (.tuple #[txt (x.tdiv y), txt (x.tmod y)]) ∧ Below w.heap.size w w' := by
  have HSM := Lib.hid (fun w => small_no x y h w)
  have HAX := Lib.hid (fun w => Abs_txt x w)
  have HAY := Lib.hid (fun w => Abs_txt y w)
  have HNX := Lib.hid (fun w => Neg_txt x w)
  have HNY := Lib.hid (fun w => Neg_txt y w)
  have HLX := Lib.hid (fun w => rlimbs_dec x.natAbs hx w)
  have HLY := Lib.hid (fun w => rlimbs_dec y.natAbs hy w)
  obtain ⟨bx, hbx⟩ : ∃ b, decide (x < 0) = b := ⟨_, rfl⟩
  obtain ⟨b2, hby⟩ : ∃ b, decide (y < 0) = b := ⟨_, rfl⟩
  rw [hbx] at HNX
  rw [hby] at HNY
  obtain ⟨z, hz⟩ : ∃ z, x.tdiv y = z := ⟨_, rfl⟩
  obtain ⟨m, hm⟩ : ∃ m, x.tmod y = m := ⟨_, rfl⟩
  rw [hz, hm]
  have HSG := Lib.hid (And.intro (fun e => sign_quo_neg hbx hby hz e) (And.intro (fun e => sign_quo_pos hbx hby hz e) (show z.natAbs = x.natAbs / y.natAbs by rw [← hz]; exact Int.natAbs_tdiv ..)))
  have HSR := Lib.hid (And.intro (fun e => sign_rem_neg hbx hm e) (And.intro (fun e => sign_rem_pos hbx hm e) (show m.natAbs = x.natAbs % y.natAbs by rw [← hm]; exact Int.natAbs_tmod ..)))
  have HY0 := Lib.hid (show y.natAbs ≠ 0 by omega)
  clear hbx hby hz hm h hx hy hy0
  unfold txt at HSM HAX HAY HNX HNY
  generalize hTX : str (Wh.decI x) = TX at *
  generalize hTY : str (Wh.decI y) = TY at *
  have HTX := Lib.hid (And.intro hTX hTY); clear hTX hTY
  show Calls Tryz.prog 44 #[txt x, txt y] w _
  unfold txt
  rw [HTX.out.1, HTX.out.2]
  generalize hTZ : str (Wh.decI z) = TZ at *
  generalize hTM : str (Wh.decI m) = TM at *
  have HTZ := Lib.hid (And.intro hTZ hTM); clear hTZ hTM
  go_enter Tryz.func44, Tryz.ntmps44
  go_wp2_with fail
  refine (HSM.out _).mono ?_
  rintro e w' ⟨rfl, rfl⟩
  go_wp2_with fail
  refine (HAX.out _).mono ?_
  rintro e w' ⟨rfl, rfl⟩
  go_wp2_with fail
  refine (HLX.out _).mono ?_
  rintro e w1 ⟨⟨v1, l1, rfl, hr1, hs1, ht1, hv1, hn1⟩, hb1⟩
  go_wp2_with fail
  refine (HAY.out _).mono ?_
  rintro e w' ⟨rfl, rfl⟩
  go_wp2_with fail
  refine (HLY.out _).mono ?_
  rintro e w2 ⟨⟨v2, l2, rfl, hr2, hs2, ht2, hv2, hn2⟩, hb2⟩
  have hr1' := hr1.mono hb2
  have HB := Lib.hid (hb1.trans (hb2.mono hb1.size))
  have h2l : 0 < l2.length := (top_pos ht2 hv2).2 (by have := HY0.out; omega)
  have HTM := Lib.hid (rover_any w2 v1 v2 l1 l2 hr1' hr2 hs1 hs2 ht2 h2l (by omega) (by omega))
  rw [hv1, hv2] at HTM
  have HL := Lib.hid (show l1.length ≤ 400 ∧ l2.length ≤ 400 by omega)
  clear hr1 hr2 hr1' hs1 hs2 ht1 ht2 hv1 hv2 hn1 hn2 hb1 hb2 h2l
  go_wp2_with fail
  refine HTM.out.mono ?_
  rintro e w3 ⟨⟨qv, rv, q, r, rfl, hqr, hrr, hqs, hrs, hqt, hrt, hqv, hrv, hql, hrl⟩, hb3⟩
  have HQN := Lib.hid (fun W (hW : Below w3.heap.size w3 W) => rsigned_any W (bx != b2) qv q (hqr.mono hW) hqs (by have := HL.out; omega) z (by rw [hqv, HSG.out.2.2]) (fun e => (top_pos hqt hqv).trans (HSG.out.1 e)) (fun e => by have := HSG.out.2.1 e; omega))
  have HRN := Lib.hid (fun W (hW : Below w3.heap.size w3 W) => rsigned_any W bx rv r (hrr.mono hW) hrs (by have := HL.out; omega) m (by rw [hrv, HSR.out.2.2]) (fun e => (top_pos hrt hrv).trans (HSR.out.1 e)) (fun e => by have := HSR.out.2.1 e; omega))
  unfold txt at HQN HRN
  rw [HTZ.out.1] at HQN
  rw [HTZ.out.2] at HRN
  have HB3 := Lib.hid (HB.out.trans (hb3.mono HB.out.size))
  clear hqr hrr hqs hrs hqt hrt hqv hrv hql hrl hb3
  go_wp2_with fail
  refine (HNX.out _).mono ?_
  rintro e w' ⟨rfl, rfl⟩
  go_wp2_with fail
  refine (HNY.out _).mono ?_
  rintro e w' ⟨rfl, rfl⟩
  go_wp2_with fail
  refine (HQN.out _ (Below.refl _ _)).mono ?_
  rintro e w4 ⟨rfl, hb4⟩
  have HB4 := Lib.hid hb4; clear hb4
  go_wp2_with fail
  refine (HNX.out _).mono ?_
  rintro e w' ⟨rfl, rfl⟩
  go_wp2_with fail
  refine (HRN.out _ HB4.out).mono ?_
  rintro e w5 ⟨rfl, hb5⟩
  go_wp2_with fail
  go_ret2
  exact ⟨rfl, HB3.out.trans ((HB4.out.trans (hb5.mono HB4.out.size)).mono HB3.out.size)⟩
theorem rQuo_any (x y : Int) (hx : V400 x) (hy : V400 y) (hy0 : y ≠ 0) (w : World) :
    Calls Tryz.prog 44 #[txt x, txt y] w fun e w' => e = .returned (.tuple #[txt (x.tdiv y), txt (x.tmod y)]) ∧ Below w.heap.size w w' := by
  by_cases h : x.natAbs < 1000000000 ∧ y.natAbs < 1000000000
  · exact rQuo_small x y h hy0 w
  · exact rQuo_big x y hx hy hy0 h w
end Go.Proofs.YteaeloeebfdodaaGreatDoor

/- WALKS: the reference's Floor. -/
namespace Go.Proofs.YteaeloeebfdodaaGreatDoor
open Go.RowKit Go.Proofs.Rf
end Go.Proofs.YteaeloeebfdodaaGreatDoor

/- WALKS, the law WholeDivisor. -/
namespace Go.Proofs.YteaeloeebfdodaaGreatDoor
open Go.RowKit
theorem pick_cells15 (w : World) (t : TypeId) : ∀ i, i < 2 → ∃ z, (w.alloc (Obj.cells #[Value.int IntKind.i64 2, Value.int IntKind.i64 15] t)).cell? ⟨w.heap.size, i, none⟩ = some (.int .i64 z) ∧ 0 ≤ z ∧ z ≤ 15 := by
  intro i hi
  obtain rfl | rfl : i = 0 ∨ i = 1 := by omega
  · exact ⟨2, by go_simp, by omega⟩
  · exact ⟨15, by go_simp, by omega⟩
set_option maxRecDepth 100000 in
set_option maxHeartbeats 8000000 in
theorem divisor_true (w : World) (a : Option Addr) (n c : Nat) (h : Nums w a n) (ht : Tab w) :
    Calls Tryz.prog 8 #[.slice a n c] w fun e w' => e = .returned (.bool true) ∧ Below w.heap.size w w' := by
  have HN := Lib.hid h; clear h
  have HT := Lib.hid ht; clear ht
  go_enter Tryz.func8, Tryz.ntmps8
  go_wp2_with fail
  refine (NewRod_any _ _ _ _ HN.out).mono ?_
  rintro e w1 ⟨rfl, hR, hB1⟩
  have HR := Lib.hid hR; clear hR
  have HB1 := Lib.hid hB1; clear hB1
  go_wp2_with fail
  refine (Whole_bd _ _ a n c _ 5 HR.out (by omega) (by omega)).mono ?_
  rintro e w2 ⟨⟨z, rfl, hz⟩, hO, k1, hk1, hR⟩
  have HB2 := Lib.hid (HB1.out.trans (hO.below (Nat.le_refl _) HB1.out.size))
  clear HR HB1 hO HN
  have HR := Lib.hid hR; clear hR
  have HZ : Hid (Bd 5 z) := Lib.hid hz; clear hz
  unfold txt
  go_wp2_with fail
  have hb1 : Below w2.heap.size w2 (w2.alloc (Obj.cells #[Value.int IntKind.i64 2, Value.int IntKind.i64 15] 3)) := (Below.refl _ _).alloc (Nat.le_refl _) _
  refine (Pick_any _ _ a n c _ w2.heap.size 2 (HR.out.mono hb1) (by omega) (by omega) (fun z => 0 ≤ z ∧ z ≤ 15) ⟨by have := HR.out.lt; omega, by simp⟩ (pick_cells15 w2 3)).mono ?_
  rintro e w3 ⟨⟨d, rfl, hd⟩, hR, hO⟩
  obtain ⟨D, hD, rfl⟩ : ∃ D : Nat, D ≤ 15 ∧ d = (D : Int) := ⟨d.toNat, by omega, by omega⟩
  have HB3 := Lib.hid ((HB2.out.trans (hb1.mono HB2.out.size)).trans (hO.below (Nat.le_refl _) (HB2.out.trans (hb1.mono HB2.out.size)).size))
  clear hd HR hb1 hO HB2
  have HR := Lib.hid hR; clear hR
  go_wp2_with fail
  refine (Whole_bd _ _ a n c _ D HR.out (by omega) (by omega)).mono ?_
  rintro e w4 ⟨⟨p, rfl, hp⟩, hO, k2, hk2, hR⟩
  have HB4 := Lib.hid (HB3.out.trans (hO.below (Nat.le_refl _) HB3.out.size))
  clear HR hO HB3
  have HR := Lib.hid hR; clear hR
  have Hp : Hid (Bd 15 p) := Lib.hid (Bd.mono (show Bd D p from hp) hD); clear hp hD
  have HTM := Lib.hid (fun w => rTimes_any p z (Hp.out.v400 (by decide) (by decide)) (HZ.out.v400 (by decide) (by decide)) w)
  unfold txt at HTM ⊢
  go_wp2_with fail
  refine (HTM.out _).mono ?_
  rintro e w5 ⟨rfl, hb⟩
  have HB5 := Lib.hid (HB4.out.trans (hb.mono HB4.out.size))
  have HR' := Lib.hid (HR.out.mono hb)
  clear hb HB4 HR HTM
  have HR := HR'; clear HR'
  go_wp2_with fail
  have hb1 : Below w5.heap.size w5 (w5.alloc (Obj.cells #[Value.int IntKind.i64 2, Value.int IntKind.i64 15] 3)) := (Below.refl _ _).alloc (Nat.le_refl _) _
  refine (Pick_any _ _ a n c _ w5.heap.size 2 (HR.out.mono hb1) (by omega) (by omega) (fun z => 0 ≤ z ∧ z ≤ 15) ⟨by have := HR.out.lt; omega, by simp⟩ (pick_cells15 w5 3)).mono ?_
  rintro e w6 ⟨⟨d, rfl, hd⟩, hR, hO⟩
  obtain ⟨D, hD, rfl⟩ : ∃ D : Nat, D ≤ 15 ∧ d = (D : Int) := ⟨d.toNat, by omega, by omega⟩
  have HB6 := Lib.hid ((HB5.out.trans (hb1.mono HB5.out.size)).trans (hO.below (Nat.le_refl _) (HB5.out.trans (hb1.mono HB5.out.size)).size))
  clear hd HR hb1 hO HB5
  have HR := Lib.hid hR; clear hR
  go_wp2_with fail
  refine (Whole_bd _ _ a n c _ D HR.out (by omega) (by omega)).mono ?_
  rintro e w7 ⟨⟨q, rfl, hq⟩, hO, k3, hk3, hR⟩
  have HB7 := Lib.hid (HB6.out.trans (hO.below (Nat.le_refl _) HB6.out.size))
  clear HR hO HB6
  have HR := Lib.hid hR; clear hR
  have Hq : Hid (Bd 15 q) := Lib.hid (Bd.mono (show Bd D q from hq) hD); clear hq hD
  have HTM := Lib.hid (fun w => rTimes_any q z (Hq.out.v400 (by decide) (by decide)) (HZ.out.v400 (by decide) (by decide)) w)
  unfold txt at HTM ⊢
  go_wp2_with fail
  refine (HTM.out _).mono ?_
  rintro e w8 ⟨rfl, hb⟩
  have HB8 := Lib.hid (HB7.out.trans (hb.mono HB7.out.size))
  have HR' := Lib.hid (HR.out.mono hb)
  clear hb HB7 HR HTM
  have HR := HR'; clear HR'
  obtain ⟨x, hxp⟩ : ∃ s, p * z = s := ⟨_, rfl⟩
  obtain ⟨y, hyq⟩ : ∃ s, q * z = s := ⟨_, rfl⟩
  have hx : Bd 20 x := by rw [← hxp]; exact Hp.out.mul HZ.out
  have hy : Bd 20 y := by rw [← hyq]; exact Hq.out.mul HZ.out
  rw [hxp, hyq]
  clear hxp hyq Hp Hq HR HZ
  obtain ⟨g, v, u, gf, bg, bv, bu, hcall⟩ := Gcd_all x y hx hy
  have C1 := Lib.hid hcall
  have I1 := Lib.hid (fun w => isForm_txt g (bg.v400 (by decide) (by decide)) w)
  have I2 := Lib.hid (fun w => isForm_txt v (bv.v400 (by decide) (by decide)) w)
  have I3 := Lib.hid (fun w => isForm_txt u (bu.v400 (by decide) (by decide)) w)
  have N1 := Lib.hid (fun w => Neg_txt g w)
  rw [decide_eq_false (show ¬ g < 0 from by have := gf.g0; omega)] at N1
  have N2 := Lib.hid (fun w => Neg_txt v w)
  have T1 := Lib.hid (fun w => rTimes_any x v (hx.v400 (by decide) (by decide)) (bv.v400 (by decide) (by decide)) w)
  have T2 := Lib.hid (fun w => rTimes_any y u (hy.v400 (by decide) (by decide)) (bu.v400 (by decide) (by decide)) w)
  have P1 := Lib.hid (fun w => rPlus_any (x * v) (y * u) ((hx.mul bv).v400 (by decide) (by decide)) ((hy.mul bu).v400 (by decide) (by decide)) w)
  rw [gf.sum] at P1
  have Q1 := Lib.hid (fun (h : g ≠ 0) w => rQuo_any x g (hx.v400 (by decide) (by decide)) (bg.v400 (by decide) (by decide)) h w)
  have Q2 := Lib.hid (fun (h : g ≠ 0) w => rQuo_any y g (hy.v400 (by decide) (by decide)) (bg.v400 (by decide) (by decide)) h w)
  have T3 := Lib.hid (fun w => rTimes_any v g (bv.v400 (by decide) (by decide)) (bg.v400 (by decide) (by decide)) w)
  have A1 := Lib.hid (fun w => Abs_txt y w)
  have M1 := Lib.hid (fun w => rCmp_any (v * g) ((y.natAbs : Nat) : Int) ((bv.mul bg).v400 (by decide) (by decide)) (by unfold V400; rw [Int.natAbs_natCast]; exact hy.v400 (by decide) (by decide)) w)
  rw [txt_pos] at M1
  have zx := txt_eqz x
  have zy := txt_eqz y
  have zg := txt_eqz g
  have zv := txt_eqz v
  have zu := txt_eqz u
  have zp := txt_eqz (x.tmod g)
  have zq := txt_eqz (y.tmod g)
  have GF := Lib.hid gf
  clear hcall bg bv bu gf hx hy
  unfold txt at *
  generalize str (Wh.decI x) = TX at *
  generalize str (Wh.decI y) = TY at *
  generalize str (Wh.decI g) = TG at *
  generalize str (Wh.decI v) = TV at *
  generalize str (Wh.decI u) = TU at *
  generalize str (Wh.decI (x * v)) = TXV at *
  generalize str (Wh.decI (y * u)) = TYU at *
  generalize str (Wh.decI (v * g)) = TVG at *
  generalize str (Wh.decI (x.tdiv g)) = TD1 at *
  generalize str (Wh.decI (x.tmod g)) = TM1 at *
  generalize str (Wh.decI (y.tdiv g)) = TD2 at *
  generalize str (Wh.decI (y.tmod g)) = TM2 at *
  generalize str (Wh.decN y.natAbs) = TAY at *
  have HZS := Lib.hid (And.intro zx (And.intro zy (And.intro zg (And.intro zv (And.intro zu (And.intro zp zq))))))
  clear zx zy zg zv zu zp zq
  go_wp2_with fail
  refine (C1.out _ (HT.out.mono HB8.out)).mono ?_
  rintro e w9 ⟨rfl, hb⟩
  have HB9 := Lib.hid (HB8.out.trans (hb.mono HB8.out.size)); clear hb
  go_wp2_with fail
  refine (I1.out _).mono ?_
  rintro e w' ⟨rfl, rfl⟩
  go_wp2_with fail
  refine (I2.out _).mono ?_
  rintro e w' ⟨rfl, rfl⟩
  go_wp2_with fail
  refine (I3.out _).mono ?_
  rintro e w' ⟨rfl, rfl⟩
  go_wp2_with fail
  refine (N1.out _).mono ?_
  rintro e w' ⟨rfl, rfl⟩
  go_wp2_with fail
  refine (T1.out _).mono ?_
  rintro e w10 ⟨rfl, hb⟩
  have HB10 := Lib.hid (HB9.out.trans (hb.mono HB9.out.size)); clear hb
  go_wp2_with fail
  refine (T2.out _).mono ?_
  rintro e w11 ⟨rfl, hb⟩
  have HB11 := Lib.hid (HB10.out.trans (hb.mono HB10.out.size)); clear hb
  go_wp2_with fail
  refine (P1.out _).mono ?_
  rintro e w12 ⟨rfl, hb⟩
  have HB12 := Lib.hid (HB11.out.trans (hb.mono HB11.out.size)); clear hb
  by_cases hx0 : x = 0 ∧ y = 0
  · obtain ⟨g0, v0, u0⟩ := GF.out.z hx0.1 hx0.2
    have zx := HZS.out.1; have zy := HZS.out.2.1; have zg := HZS.out.2.2.1; have zv := HZS.out.2.2.2.1; have zu := HZS.out.2.2.2.2.1
    rw [decide_eq_true hx0.1] at zx
    rw [decide_eq_true hx0.2] at zy
    rw [decide_eq_true g0] at zg
    rw [decide_eq_true v0] at zv
    rw [decide_eq_true u0] at zu
    clear hx0 g0 v0 u0 HZS GF
    go_wp2_with fail
    refine (counted_all _ (HT.out.mono HB12.out)).mono ?_
    rintro e wz ⟨rfl, hb⟩
    go_wp2_with fail
    go_ret
    exact ⟨rfl, HB12.out.trans (hb.mono HB12.out.size)⟩
  · obtain ⟨g0, m1, m2⟩ := GF.out.nz hx0
    have Q1' := Lib.hid (Q1.out g0)
    have Q2' := Lib.hid (Q2.out g0)
    have zg := HZS.out.2.2.1; have zp := HZS.out.2.2.2.2.2.1; have zq := HZS.out.2.2.2.2.2.2
    rw [decide_eq_false g0] at zg
    rw [decide_eq_true m1] at zp
    rw [decide_eq_true m2] at zq
    obtain ⟨bx, hbx⟩ : ∃ b, decide (x = 0) = b := ⟨_, rfl⟩
    obtain ⟨by', hby⟩ : ∃ b, decide (y = 0) = b := ⟨_, rfl⟩
    have zx := HZS.out.1; have zy := HZS.out.2.1
    rw [hbx] at zx
    rw [hby] at zy
    cases by' with
    | true =>
      have hy0 : y = 0 := of_decide_eq_true hby
      have hbxf : bx = false := by rw [← hbx]; exact decide_eq_false fun h => hx0 ⟨h, hy0⟩
      subst hbxf
      have zu := HZS.out.2.2.2.2.1
      rw [decide_eq_true (GF.out.y0 hy0)] at zu
      clear hx0 g0 m1 m2 HZS GF hbx hby hy0 Q1 Q2
      go_wp2_with fail
      refine (Q1'.out _).mono ?_
      rintro e w13 ⟨rfl, hb⟩
      have HB13 := Lib.hid (HB12.out.trans (hb.mono HB12.out.size)); clear hb
      go_wp2_with fail
      refine (Q2'.out _).mono ?_
      rintro e w14 ⟨rfl, hb⟩
      have HB14 := Lib.hid (HB13.out.trans (hb.mono HB13.out.size)); clear hb
      go_wp2_with fail
      refine (counted_all _ (HT.out.mono HB14.out)).mono ?_
      rintro e wz ⟨rfl, hb⟩
      go_wp2_with fail
      go_ret
      exact ⟨rfl, HB14.out.trans (hb.mono HB14.out.size)⟩
    | false =>
      have hy0 : y ≠ 0 := of_decide_eq_false hby
      obtain ⟨v0, v1⟩ := GF.out.y1 hy0
      rw [decide_eq_false (show ¬ v < 0 by omega)] at N2
      rw [cmpI_lt v1] at M1
      clear hx0 g0 m1 m2 HZS GF hbx hby hy0 Q1 Q2 v0 v1
      cases bx
      · go_wp2_with fail
        refine (Q1'.out _).mono ?_
        rintro e w13 ⟨rfl, hb⟩
        have HB13 := Lib.hid (HB12.out.trans (hb.mono HB12.out.size)); clear hb
        go_wp2_with fail
        refine (Q2'.out _).mono ?_
        rintro e w14 ⟨rfl, hb⟩
        have HB14 := Lib.hid (HB13.out.trans (hb.mono HB13.out.size)); clear hb
        go_wp2_with fail
        refine (N2.out _).mono ?_
        rintro e w' ⟨rfl, rfl⟩
        go_wp2_with fail
        refine (T3.out _).mono ?_
        rintro e w15 ⟨rfl, hb⟩
        have HB15 := Lib.hid (HB14.out.trans (hb.mono HB14.out.size)); clear hb
        go_wp2_with fail
        refine (A1.out _).mono ?_
        rintro e w' ⟨rfl, rfl⟩
        go_wp2_with fail
        refine (M1.out _).mono ?_
        rintro e w16 ⟨rfl, hb⟩
        have HB16 := Lib.hid (HB15.out.trans (hb.mono HB15.out.size)); clear hb
        go_wp2_with fail
        refine (counted_all _ (HT.out.mono HB16.out)).mono ?_
        rintro e wz ⟨rfl, hb⟩
        go_wp2_with fail
        go_ret
        exact ⟨rfl, HB16.out.trans (hb.mono HB16.out.size)⟩
      · go_wp2_with fail
        refine (Q1'.out _).mono ?_
        rintro e w13 ⟨rfl, hb⟩
        have HB13 := Lib.hid (HB12.out.trans (hb.mono HB12.out.size)); clear hb
        go_wp2_with fail
        refine (Q2'.out _).mono ?_
        rintro e w14 ⟨rfl, hb⟩
        have HB14 := Lib.hid (HB13.out.trans (hb.mono HB13.out.size)); clear hb
        go_wp2_with fail
        refine (N2.out _).mono ?_
        rintro e w' ⟨rfl, rfl⟩
        go_wp2_with fail
        refine (T3.out _).mono ?_
        rintro e w15 ⟨rfl, hb⟩
        have HB15 := Lib.hid (HB14.out.trans (hb.mono HB14.out.size)); clear hb
        go_wp2_with fail
        refine (A1.out _).mono ?_
        rintro e w' ⟨rfl, rfl⟩
        go_wp2_with fail
        refine (M1.out _).mono ?_
        rintro e w16 ⟨rfl, hb⟩
        have HB16 := Lib.hid (HB15.out.trans (hb.mono HB15.out.size)); clear hb
        go_wp2_with fail
        refine (counted_all _ (HT.out.mono HB16.out)).mono ?_
        rintro e wz ⟨rfl, hb⟩
        go_wp2_with fail
        go_ret
        exact ⟨rfl, HB16.out.trans (hb.mono HB16.out.size)⟩
end Go.Proofs.YteaeloeebfdodaaGreatDoor
