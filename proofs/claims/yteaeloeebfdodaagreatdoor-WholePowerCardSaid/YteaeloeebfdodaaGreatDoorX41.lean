/- Part 41 of the proofs that laws of package whole answer true at every input and leave the input as it was, where the library's variables start as the text lays them (the texts U12, U10). -/
import Derived.Test.YteaeloeebfdodaaGreatDoorX40
import Derived.Laws.AppendOwnNone
import Derived.Test.YteaeloeebfdodaaGreatDoorX39
set_option linter.unusedVariables false
set_option linter.unusedSimpArgs false
/- WALKS: the reference's division of limbs. -/
namespace Go.Proofs.YteaeloeebfdodaaGreatDoor
open Go.RowKit Go.Proofs.Rf
theorem run_append_none_c {P : Program} {w : World} (base : Nat) (t ty e : TypeId) (i : TypeInfo) (size : Nat) (ht : P.underlying t = some (.slice e)) (hi : P.info? e = some i)
    (v : Value) (n : Nat) (xs : List Value) (hown : w.ownsRow base e size v n xs) (c : Nat) :
    (Builtin.append_ #[t, t] ty #[v, .slice none 0 c]).run P w = .ok v w := by
  rcases hown.2 with ⟨rfl, rfl⟩ | ⟨g, cap, cur, rfl, _, _, hnc, _⟩
  · simp [Builtin.append_, run_underlying ht, sizeOf, typeInfo, hi, Builtin.lenOf, Builtin.firstCells]
  · simp [Builtin.append_, run_underlying ht, sizeOf, typeInfo, hi, Builtin.lenOf, Builtin.firstCells, hnc, storeCells]
/-- an append of limbs, nil or not -/
theorem wpList_append_il {w : World} {ops : Array Oper} {rest : List Oper} {o : Oper} {a : Act} {Q : Exit → Act → World → Prop} (hgd : o.guard = none) (s x : Operand)
    (ho : o.op = .call { callee := .builtin .append, args := #[s, x], argTypes := #[22, 22] })
    (base : Nat) (v : Value) (l : List Nat) (hs : a.eval s = v) (hown : w.ownsRow base 3 1 v l.length (i64s l))
    (ra : Option Addr) (c : Nat) (r : List Nat) (hx : a.eval x = .slice ra r.length c) (hr : Il w ra r.length r)
    (hm : l.length + r.length ≤ 1000000) (hbase : base ≤ w.heap.size)
    (h : ∀ v' w', w'.ownsRow base 3 1 v' (l ++ r).length (i64s (l ++ r)) → w.grownBy w' v.ownBlock → wpList Tryz.prog ops Q rest (a.put o.dst v') w') : wpList Tryz.prog ops Q (o :: rest) a w := by
  obtain ⟨inf, i1, i2, i3, i4⟩ := infoI
  have hap : i64s l ++ i64s r = i64s (l ++ r) := by simp [i64s]
  cases r with
  | nil =>
    have hdone : wpList Tryz.prog ops Q rest (a.put o.dst v) w := h v w (by rw [List.append_nil]; exact hown) (World.grownBy.refl _ _)
    cases ra with
    | none =>
      refine wpList_plain hgd fun K hK => ?_
      have hrun := run_append_none_c (P := Tryz.prog) (w := w) base 22 o.type 3 inf 1 Tryz.underlying22 i1 v l.length (i64s l) hown c
      unfold Oper.wp
      simp [execOp, ho, resolve, invoke, builtin, hs, hx, hrun, Result.andThen]
      exact hK _ _ hdone
    | some p =>
      refine wpList_append_own _ hgd s x 22 ho base 3 inf (.int .i64 0) 1 8 Tryz.underlying22 i1 i2 i3 i4 rfl (by decide) v l.length _ hs hown p 0 c [] hx rfl (fun j u hj => by cases j <;> cases hj) (fun u hu => by cases hu) (maxI (n := l.length) (by omega) |>.1 |> fun q => by omega) (by omega) hbase ?_
      intro v' w' h1 h2 _
      exact h v' w' (by simpa using h1) h2
  | cons y r =>
    obtain ⟨b, off, rfl, hb, hc⟩ := hr 0 (by simp)
    refine wpList_append_own _ hgd s x 22 ho base 3 inf (.int .i64 0) 1 8 Tryz.underlying22 i1 i2 i3 i4 rfl (by decide) v l.length _ hs hown ⟨b, off, none⟩ (y :: r).length c (i64s (y :: r)) hx (by simp [i64s]) ?_ ?_ (by simp only [maxLen]; omega) (by omega) hbase ?_
    · intro j u hj
      have hlt : j < (y :: r).length := by
        have := (List.getElem?_eq_some_iff.1 hj).1
        simpa [i64s] using this
      rw [show (⟨b, off, none⟩ : Addr).add j = ⟨b, off + j, none⟩ from by simp [Addr.add], hc j hlt, ← hj]
      simp only [i64s, List.getElem?_map, List.getElem?_eq_getElem hlt, Option.map_some, List.getD_eq_getElem?_getD, Option.getD_some]
    · intro u hu
      obtain ⟨q, _, rfl⟩ := List.mem_map.1 hu
      rfl
    · intro v' w' h1 h2 _
      rw [hap] at h1
      exact h v' w' (by rw [List.length_append]; exact h1) h2
/-- the state of the division: at position i -/
structure OVS (w wr : World) (l1 l2 : List Nat) (i : Nat) (rv : Value) (quo r : List Nat) : Prop where
  ov : OVI l1 l2 i quo (val4 r)
  own : OwnJ wr w.heap.size quo
  rl : RL4 wr rv r
  sr : Sm4 r
  tr : Top r
  only : Only w.heap.size w wr
/-- within a round: the guess g is not too small -/
structure OVG (w wr : World) (l2 : List Nat) (rv : Value) (quo r : List Nat) (g : Nat) : Prop where
  ge : val4 r / val4 l2 ≤ g
  lt : g ≤ 9999
  own : OwnJ wr w.heap.size quo
  rl : RL4 wr rv r
  far : ∀ b off k c, rv = .slice (some ⟨b, off, none⟩) k c → w.heap.size < b
  only : Only w.heap.size w wr
theorem rem_len {r m : List Nat} (sm : Sm4 m) (tr : Top r) (h : val4 r < val4 m) : r.length ≤ m.length := by
  rcases Nat.lt_or_ge m.length r.length with h1 | h1
  · have := val4_lt_len sm tr h1; omega
  · exact h1
theorem Il.setCell_far {w : World} {a : Option Addr} {n : Nat} {l : List Nat} {g : Nat} (j : Nat) (v : Value) (h : Il w a n l) (hf : ∀ b off, a = some ⟨b, off, none⟩ → g < b) : Il (w.setCell ⟨g, j, none⟩ v) a n l := fun i hi => by
  obtain ⟨b, off, e, hl, hc⟩ := h i hi
  have hg := hf b off e
  refine ⟨b, off, e, by simpa using hl, fun q hq => ?_⟩
  rw [World.cell?_setCell_other _ _ _ _ (by intro e'; have := congrArg Addr.block e'; simp at this; omega)]
  exact hc q hq
theorem OVG.stored {w wr : World} {l1 l2 quo r : List Nat} {rv : Value} {g j : Nat} (h : OVG w wr l2 rv quo r g) (hj : j < quo.length) :
    wr.cell? ⟨w.heap.size, j, none⟩ = some (.int .i64 (quo.getD j 0 : Nat)) ∧ wr.frozen? ⟨w.heap.size, j, none⟩ = false ∧
    OwnJ (wr.setCell ⟨w.heap.size, j, none⟩ (.int .i64 g)) w.heap.size (quo.set j g) ∧ Only w.heap.size w (wr.setCell ⟨w.heap.size, j, none⟩ (.int .i64 g)) ∧ RL4 (wr.setCell ⟨w.heap.size, j, none⟩ (.int .i64 g)) rv r := by
  refine ⟨h.own.cell j hj, h.own.free j hj, h.own.set hj g _ rfl, h.only.setCell j _, ?_⟩
  obtain ⟨a, c, rfl, hil, hc⟩ := h.rl
  exact ⟨a, c, rfl, hil.setCell_far j _ (fun b off e => h.far b off _ _ (by rw [e])), hc⟩
set_option maxRecDepth 100000 in
set_option maxHeartbeats 4000000 in
theorem rover_any (w : World) (v1 v2 : Value) (l1 l2 : List Nat) (h1 : RL4 w v1 l1) (h2 : RL4 w v2 l2) (s1 : Sm4 l1) (s2 : Sm4 l2) (t2 : Top l2) (h0 : 0 < l2.length) (hm : l1.length ≤ 10000) (hm2 : l2.length ≤ 10000) :
    Calls Tryz.prog 128 #[v1, v2] w fun e w' => (∃ qv rv, ∃ q r : List Nat, e = .returned (.tuple #[qv, rv]) ∧ RL4 w' qv q ∧ RL4 w' rv r ∧ Sm4 q ∧ Sm4 r ∧ Top q ∧ Top r ∧ val4 q = val4 l1 / val4 l2 ∧ val4 r = val4 l1 % val4 l2 ∧ q.length ≤ l1.length ∧ r.length ≤ l2.length) ∧ Below w.heap.size w w' := by
  have hpos : 0 < val4 l2 := by
    rcases Nat.eq_zero_or_pos (val4 l2) with h | h
    · rw [(val4_eq_zero t2).1 h] at h0; simp at h0
    · exact h
  obtain ⟨a1, c1, rfl, hc1, -⟩ := h1
  have hmk := run_make_ints l1.length (by omega) w (l1.length : Int) rfl
  have hal : Below w.heap.size w (w.alloc (.cells (zerosJ l1.length) 3)) := (Below.refl _ _).alloc (Nat.le_refl _) _
  have HC1 := Lib.hid hc1; clear hc1
  have H2 := Lib.hid h2; clear h2
  have HS := Lib.hid (And.intro s1 (And.intro s2 (And.intro t2 hpos))); clear s1 s2 t2 hpos
  have HI0 : Hid (OVS w (w.alloc (.cells (zerosJ l1.length) 3)) l1 l2 l1.length (.slice none 0 0) (List.replicate l1.length 0) []) :=
    Lib.hid ⟨OVI.start _ _ HS.out.2.2.2, ownJ_make _ _, RL4.nil _, Sm4.nil, .inl rfl, Only.of_below hal⟩
  clear hal
  generalize hn : l1.length = n at *
  generalize hk : l2.length = k at *
  have HN := Lib.hid (And.intro hn hk); clear hn hk
  generalize w.alloc (.cells (zerosJ n) 3) = W0 at *
  go_enter Tryz.func128, Tryz.ntmps128
  go_wp2_with fail
  go_loopw [7, 8] (fun rv iv wr => ∃ (i : Nat) (quo r : List Nat), i ≤ n ∧ iv = .int .i64 ((i : Int) - 1) ∧ Hid (OVS w wr l1 l2 i rv quo r)) (fun _ iv _ => (intOf iv + 1).toNat)
  case atStart => exact ⟨n, _, [], Nat.le_refl _, rfl, HI0⟩
  case round =>
    clear HI0
    obtain ⟨i, quo, r, hi, rfl, HI⟩ := hrel
    by_cases hi0 : i = 0
    · subst hi0
      have hd1 : decide ((0 : Int) ≤ ((0 : Nat) : Int) - 1) = false := by decide
      have hql : quo.length = n := by rw [HI.out.ov.len, HN.out.1]
      obtain ⟨a', c', e', hil, hlc⟩ := HI.out.own.rl
      rw [hql] at e' hil hlc
      simp only [Value.slice.injEq] at e'
      obtain ⟨rfl, _, rfl⟩ := e'
      have HT := Lib.hid (rtrim_any wr _ _ quo n hil (by omega) hlc)
      have HIL := Lib.hid (And.intro hil (And.intro hlc hql))
      clear hil hlc hql
      go_wp2_with fail
      refine HT.out.mono ?_
      rintro e w2 ⟨⟨m, rfl, hq1, hq2, hq3⟩, rfl⟩
      go_wp2
      go_ret2
      obtain ⟨e1, e2, e3⟩ := HIL.out
      have hf := HI.out.ov.eq
      have hlt := HI.out.ov.lt
      rw [List.drop_zero, List.drop_zero] at hf
      have hvt : val4 (quo.take m) = val4 quo := val4_zeros quo m (fun j h1 h2 => hq2 j h1 (by rw [e3] at h2; exact h2))
      refine ⟨⟨_, _, quo.take m, r, rfl, RL4.cut (by rw [e3]; exact e1) (by rw [e3]; exact hq1) (by rw [e3]; exact e2), HI.out.rl, HI.out.ov.sm.take m, HI.out.sr, top_cut (by rw [e3]; exact hq1) hq3, HI.out.tr, ?_, ?_, ?_, ?_⟩, HI.out.only.below (Nat.le_refl _) (Nat.le_refl _)⟩
      · rw [hvt, hf, Nat.mul_comm, Nat.mul_add_div HS.out.2.2.2, Nat.div_eq_of_lt hlt, Nat.add_zero]
      · rw [hf, Nat.mul_comm, Nat.mul_add_mod, Nat.mod_eq_of_lt hlt]
      · rw [List.length_take, e3]; omega
      · rw [← HN.out.2]; exact rem_len HS.out.2.1 HI.out.tr hlt
    · obtain ⟨j, rfl⟩ : ∃ j, i = j + 1 := ⟨i - 1, by omega⟩
      have hji : ((j + 1 : Nat) : Int) - 1 = (j : Int) := by omega
      rw [hji]
      have hd1 : decide ((0 : Int) ≤ (j : Int)) = true := by rw [decide_eq_true_iff]; omega
      obtain ⟨b1, off1, rfl, hbl1, hcell1⟩ := (HC1.out.only HI.out.only (Nat.le_refl _)) j (by omega)
      have hx := hcell1 j (by omega)
      clear hcell1
      have hxl : l1.getD j 0 < 10000 := HS.out.1.getD j
      generalize hxx : l1.getD j 0 = x at *
      have HX := Lib.hid hxx; clear hxx
      obtain ⟨ra, rc, hrv, hil, hrc⟩ := HI.out.rl
      subst hrv
      have HIL := Lib.hid (And.intro hil hrc); clear hil hrc
      have hgb : w.heap.size < wr.heap.size := HI.out.own.lt
      have hAb : Below wr.heap.size wr (wr.alloc (Obj.cells #[.int .i64 x] 3)) := (Below.refl _ _).alloc (Nat.le_refl _) _
      have hownA : (wr.alloc (Obj.cells #[.int .i64 x] 3)).ownsRow wr.heap.size 3 1 (.slice (some ⟨wr.heap.size, 0, none⟩) 1 1) [x].length (i64s [x]) := World.ownsRow_lit (size := 1) _ _ 1 (Nat.le_refl _) (by simp [maxLen]) rfl
      have hilA : Il (wr.alloc (Obj.cells #[.int .i64 x] 3)) ra r.length r := HIL.out.1.mono hAb
      have hrl : r.length ≤ k := by rw [← HN.out.2]; exact rem_len HS.out.2.1 HI.out.tr HI.out.ov.lt
      have hbigA : wr.heap.size ≤ (wr.alloc (Obj.cells #[.int .i64 x] 3)).heap.size := hAb.size
      have HAB := Lib.hid hAb; clear hAb
      have hlen : [x].length + r.length ≤ 1000000 := by rw [List.length_singleton]; omega
      go_wp2_with (at_builtin; refine wpList_append_il rfl _ _ rfl wr.heap.size (.slice (some ⟨wr.heap.size, 0, none⟩) 1 1) [x] rfl hownA ra rc r rfl hilA hlen hbigA ?_)
      intro v' W3 ho3 hg3
      obtain ⟨sa, sc, rfl⟩ := own_sl ho3
      obtain ⟨a', c', e', hil3, hlc3⟩ := il_of_own (l := x :: r) ho3
      have hfar : ∀ b off, sa = some ⟨b, off, none⟩ → w.heap.size < b := by
        intro b off e
        subst e
        rcases ho3.2 with ⟨h, _⟩ | ⟨g, cap, cur, h, hbg, _⟩
        · cases h
        · cases h; omega
      have hB3 : Below wr.heap.size wr W3 := HAB.out.trans ((grownBy_onlyS hg3).below (B := wr.heap.size) (fun k hk => ownBlock_ge hownA hk) hbigA)
      have e1 : (x :: r).length = r.length + 1 := rfl
      simp only [Value.slice.injEq] at e'
      obtain ⟨rfl, -, rfl⟩ := e'
      rw [e1] at hil3 hlc3
      have HT := Lib.hid (rtrim_any W3 sa sc (x :: r) (r.length + 1) hil3 (by omega) hlc3)
      have HIL3 := Lib.hid (And.intro hil3 (And.intro hlc3 (And.intro hfar hB3)))
      clear ho3 hg3 hil3 hlc3 hfar hB3 hownA hilA hbigA hlen e1
      go_wp2_with fail
      refine HT.out.mono ?_
      rintro e w2 ⟨⟨m, rfl, hq1, hq2, hq3⟩, rfl⟩
      obtain ⟨r2, hr2⟩ : ∃ r2, r2 = (x :: r).take m := ⟨_, rfl⟩
      have e1 : (x :: r).length = r.length + 1 := rfl
      have hr2l : r2.length = m := by rw [hr2, List.length_take, e1]; omega
      have hrl2 : RL4 W3 (.slice sa m sc) r2 := by
        rw [hr2]; exact RL4.cut (by rw [e1]; exact HIL3.out.1) (by rw [e1]; exact hq1) (by rw [e1]; exact HIL3.out.2.1)
      have hsm2 : Sm4 r2 := by
        rw [hr2]
        refine Sm4.take (fun y hy => ?_) m
        rcases List.mem_cons.1 hy with h | h
        · rw [h]; exact hxl
        · exact HI.out.sr y h
      have htr2 : Top r2 := by rw [hr2]; exact top_cut (by rw [e1]; exact hq1) hq3
      have hval : val4 r2 = x + 10000 * val4 r := by
        rw [hr2, val4_zeros (x :: r) m (fun j h1 h2 => hq2 j h1 (by rw [e1] at h2; exact h2))]
        rfl
      obtain ⟨hlt, hnext⟩ := HI.out.ov.next (by rw [HN.out.1]; omega) HS.out.1
      rw [HX.out] at hlt hnext
      rw [← hval] at hlt hnext
      have hon3 : Only w.heap.size w W3 := HI.out.only.trans (Only.of_below HIL3.out.2.2.2)
      have how3 : OwnJ W3 w.heap.size quo := HI.out.own.mono HIL3.out.2.2.2 hgb
      have H23 : RL4 W3 v2 l2 := by
        obtain ⟨a2, c2, e2, h2, h2'⟩ := H2.out
        exact ⟨a2, c2, e2, h2.only hon3 (Nat.le_refl _), h2'⟩
      have HGU := Lib.hid (rguess_any W3 _ _ r2 l2 hrl2 H23 hsm2 HS.out.2.1 htr2 HS.out.2.2.1 (by rw [HN.out.2]; exact h0) hlt (by rw [HN.out.2]; exact hm2))
      have HR2 := Lib.hid (And.intro hrl2 (And.intro hsm2 (And.intro htr2 (And.intro hnext (And.intro hon3 how3)))))
      have hm1' : m ≤ k + 1 := by omega
      have HFAR := Lib.hid HIL3.out.2.2.1
      have HR2L := Lib.hid hr2l
      clear hq1 hq2 hq3 hr2l hrl2 hsm2 htr2 hval hlt hnext hon3 how3 H23 e1 hr2 HT HIL3 HI HIL hgb HAB hrl
      go_wp2_with fail
      refine HGU.out.mono ?_
      rintro e w2 ⟨⟨g0, rfl, hg1, hg2⟩, rfl⟩
      have HJ0 := Lib.hid (OVG.mk (w := w) (wr := w2) (l2 := l2) (rv := .slice sa m sc) (quo := quo) (r := r2) (g := g0) hg1 hg2 HR2.out.2.2.2.2.2 HR2.out.1 (by rintro b off k c e; cases e; exact HFAR.out _ _ rfl) HR2.out.2.2.2.2.1)
      clear hg1 hg2
      go_wp2_with fail
      go_loopw [9] (fun gv wr => ∃ g : Nat, gv = .int .i64 (g : Int) ∧ Hid (OVG w wr l2 (.slice sa m sc) quo r2 g)) (fun gv _ => (intOf gv).toNat)
      case atStart => exact ⟨g0, rfl, HJ0⟩
      case round =>
        clear HJ0
        obtain ⟨g, rfl, HG⟩ := hrel
        have hgl : g < 10000 := by have := HG.out.lt; omega
        go_wp2_with fail
        refine (rlimbsOf_any g hgl _).mono ?_
        rintro e w4 ⟨⟨v4, l4, rfl, hr4, hs4, ht4, hv4, hn4⟩, hb4⟩
        have H24 : RL4 w4 v2 l2 := by
          obtain ⟨a2, c2, e2, h2, h2'⟩ := H2.out
          exact ⟨a2, c2, e2, (h2.only HG.out.only (Nat.le_refl _)).mono hb4, h2'⟩
        have HT4 := Lib.hid (rtimes_any w4 v2 v4 l2 l4 H24 hr4 HS.out.2.1 hs4 (by rw [HN.out.2]; omega) (by omega))
        have HB4 := Lib.hid (And.intro hb4 (And.intro hv4 hn4))
        clear H24 hr4 hs4 ht4 hv4 hn4 hb4
        go_wp2_with fail
        refine HT4.out.mono ?_
        rintro e w5 ⟨⟨v5, l5, rfl, hr5, hs5, ht5, hv5, hn5⟩, hb5⟩
        have hb45 := HB4.out.1.trans (hb5.mono HB4.out.1.size)
        have HC5 := Lib.hid (rcmp_any w5 v5 (.slice sa m sc) l5 r2 hr5 (HG.out.rl.mono hb45) hs5 HR2.out.2.1 ht5 HR2.out.2.2.1 (by rw [HN.out.2] at hn5; have := HB4.out.2.2; omega))
        rw [HB4.out.2.1] at hv5
        have HB5 := Lib.hid (And.intro hb45 hv5)
        clear HT4 hr5 hs5 ht5 hv5 hn5 hb5 hb45
        go_wp2_with fail
        refine HC5.out.mono ?_
        rintro e w6 ⟨rfl, nn, rfl⟩
        clear HC5
        by_cases hgt : val4 r2 < val4 l2 * g
        · have hd3 : decide ((0 : Int) < Wh.cmpN (val4 l5) (val4 r2)) = true := by
            rw [HB5.out.2, Wh.cmpN_gt hgt]; decide
          have hg0 : val4 r2 / val4 l2 < g := by
            rw [Nat.div_lt_iff_lt_mul HS.out.2.2.2, Nat.mul_comm]; exact hgt
          have HJ := Lib.hid (OVG.mk (w := w) (wr := w5.drewN nn) (l2 := l2) (rv := .slice sa m sc) (quo := quo) (r := r2) (g := g - 1) (by omega) (by have := HG.out.lt; omega) ((HG.out.own.mono HB5.out.1 HG.out.own.lt).mono (below_drewN (w.heap.size + 1) _ nn) (Nat.lt_succ_self _)) ((HG.out.rl.mono HB5.out.1).mono (below_drewN _ _ nn)) HG.out.far ((HG.out.only.trans (Only.of_below HB5.out.1)).trans (Only.of_below (below_drewN _ _ nn))))
          have hgp : 0 < g := Nat.lt_of_le_of_lt (Nat.zero_le _) hg0
          clear hg0
          go_wp2_with fail
          exact ⟨⟨g - 1, by congr 1; omega, HJ⟩, by simp [intOf]; omega⟩
        · have hd3 : decide ((0 : Int) < Wh.cmpN (val4 l5) (val4 r2)) = false := by
            rw [HB5.out.2]
            rcases Nat.lt_or_ge (val4 l2 * g) (val4 r2) with h | h
            · rw [Wh.cmpN_lt h]; decide
            · rw [show val4 l2 * g = val4 r2 by omega, Wh.cmpN_self]; decide
          have hgq : g = val4 r2 / val4 l2 := by
            refine Nat.le_antisymm ?_ HG.out.ge
            rw [Nat.le_div_iff_mul_le HS.out.2.2.2, Nat.mul_comm]; omega
          have HG6 : OVG w (w5.drewN nn) l2 (.slice sa m sc) quo r2 g := ⟨HG.out.ge, HG.out.lt, ((HG.out.own.mono HB5.out.1 HG.out.own.lt).mono (below_drewN (w.heap.size + 1) _ nn) (Nat.lt_succ_self _)), ((HG.out.rl.mono HB5.out.1).mono (below_drewN _ _ nn)), HG.out.far, ((HG.out.only.trans (Only.of_below HB5.out.1)).trans (Only.of_below (below_drewN _ _ nn)))⟩
          have hql : quo.length = n := by
            have := HR2.out.2.2.2.1.len
            rw [List.length_set, HN.out.1] at this; exact this
          obtain ⟨hce, hfr, how, hon, hrl⟩ := HG6.stored (l1 := l1) (j := j) (by omega)
          have hnx := HR2.out.2.2.2.1
          rw [← hgq] at hnx
          have HE := Lib.hid (And.intro hnx (And.intro how (And.intro hon (And.intro hrl hgq))))
          have hle : val4 l2 * g ≤ val4 r2 := by omega
          clear HG6 how hon hrl hql HG HB5 hnx hgq hgt
          go_wp2_with fail
          generalize (w5.drewN nn).setCell ⟨w.heap.size, j, none⟩ (.int .i64 (g : Int)) = W6 at HE ⊢
          clear hce hfr
          refine (rlimbsOf_any g hgl _).mono ?_
          rintro e w7 ⟨⟨v7, l7, rfl, hr7, hs7, ht7, hv7, hn7⟩, hb7⟩
          have H27 : RL4 w7 v2 l2 := by
            obtain ⟨a2, c2, e2, h2, h2'⟩ := H2.out
            exact ⟨a2, c2, e2, (h2.only HE.out.2.2.1 (Nat.le_refl _)).mono hb7, h2'⟩
          have HT7 := Lib.hid (rtimes_any w7 v2 v7 l2 l7 H27 hr7 HS.out.2.1 hs7 (by rw [HN.out.2]; omega) (by omega))
          have HB7 := Lib.hid (And.intro hb7 (And.intro hv7 hn7))
          clear H27 hr7 hs7 ht7 hv7 hn7 hb7
          go_wp2_with fail
          refine HT7.out.mono ?_
          rintro e w8 ⟨⟨v8, l8, rfl, hr8, hs8, ht8, hv8, hn8⟩, hb8⟩
          have hb78 := HB7.out.1.trans (hb8.mono HB7.out.1.size)
          rw [HB7.out.2.1] at hv8
          have hlen8 : l8.length ≤ r2.length := by
            rcases Nat.lt_or_ge r2.length l8.length with h | h
            · have := val4_lt_len HR2.out.2.1 ht8 h; omega
            · exact h
          have HM8 := Lib.hid (rminus_any w8 (.slice sa m sc) v8 r2 l8 (HE.out.2.2.2.1.mono hb78) hr8 HR2.out.2.1 hs8 (by rw [hv8]; exact hle) hlen8 (by rw [HR2L.out]; omega))
          rw [hv8] at HM8
          have HB8 := Lib.hid hb78
          clear HT7 hr8 hs8 ht8 hv8 hn8 hb8 hb78 hlen8 HB7
          go_wp2_with fail
          refine HM8.out.mono ?_
          rintro e w9 ⟨⟨v9, l9, rfl, hr9, hs9, ht9, hv9, hn9⟩, hb9⟩
          have hb69 := HB8.out.trans (hb9.mono HB8.out.size)
          have hmod : val4 l9 = val4 r2 % val4 l2 := by
            rw [hv9]
            have h1 := Nat.div_add_mod (val4 r2) (val4 l2)
            rw [← HE.out.2.2.2.2] at h1
            omega
          have hov := HE.out.1
          rw [← hmod] at hov
          have HF := Lib.hid (OVS.mk (w := w) (wr := w9) (l1 := l1) (l2 := l2) (i := j) (rv := v9) (quo := quo.set j g) (r := l9) hov (HE.out.2.1.mono hb69 HE.out.2.1.lt) hr9 hs9 ht9 (HE.out.2.2.1.trans (Only.of_below hb69)))
          clear hr9 hs9 ht9 hv9 hn9 hb9 hb69 hmod hov HM8 HE HR2 HGU
          go_wp2_with fail
          exact ⟨⟨j, _, l9, by omega, rfl, HF⟩, by simp [intOf]⟩
end Go.Proofs.YteaeloeebfdodaaGreatDoor

/- WALKS: the reference's check of a number. -/
namespace Go.Proofs.YteaeloeebfdodaaGreatDoor
open Go.RowKit Go.Proofs.Rf
structure DecG (l : List UInt8) : Prop where
  ne : l ≠ []
  dig : ∀ c ∈ l, 48 ≤ c.toNat ∧ c.toNat ≤ 57
  head : l.headD 0 ≠ 48 ∨ l.length = 1
  len : l.length ≤ 2000
theorem DecG.at {l : List UInt8} (h : DecG l) {i : Nat} (hi : i < l.length) : 48 ≤ (l.getD i 0).toNat ∧ (l.getD i 0).toNat ≤ 57 := by
  rw [List.getD_eq_getElem?_getD, List.getElem?_eq_getElem hi]; exact h.dig _ (List.getElem_mem hi)
theorem DecG.pos {l : List UInt8} (h : DecG l) : 0 < l.length := List.length_pos_iff.2 h.ne
theorem digits_loopg (l : List UInt8) (H : Hid (DecG l)) (k : Nat) (hlt : k < (str l).size) : ∃ c : Nat, (((str l)[k]'hlt).toNat : Int) = (c : Int) ∧ (l.getD k 0).toNat = c ∧ 48 ≤ c ∧ c ≤ 57 := by
  have hc := H.out.at (i := k) hlt
  exact ⟨(l.getD k 0).toNat, by rw [str_get l k hlt], rfl, hc.1, hc.2⟩
set_option maxHeartbeats 400000 in
theorem digits_decg (l : List UInt8) (h : DecG l) (w : World) :
    Calls Tryz.prog 254 #[.string (str l)] w fun e w' => e = .returned (.bool true) ∧ w = w' := by
  have hs0 : 0 < (str l).size := h.pos
  have hsz : (str l).size ≤ 2000 := h.len
  have H := Lib.hid h
  have hh : ((str l).size = 1) ∨ (1 < (str l).size ∧ ((((str l)[0]'hs0).toNat : Int) == 48) = false) := by
    by_cases h1 : (str l).size = 1
    · exact .inl h1
    · right
      refine ⟨by omega, ?_⟩
      rcases h.head with h2 | h2
      · rw [beq_eq_false_iff_ne, str_get l 0 hs0]
        intro e
        apply h2
        have e2 : l.getD 0 0 = 48 := UInt8.toNat_inj.1 (show (l.getD 0 0).toNat = 48 by omega)
        rw [← e2]; cases l <;> rfl
      · exact absurd h2 h1
  clear h
  rcases hh with h1 | ⟨h1, h2⟩
  case' inr =>
    have h0 : ((((str l).size : Nat) : Int) == 0) = false := by rw [beq_eq_false_iff_ne]; omega
    have h3 : decide ((1 : Int) < ((str l).size : Nat)) = true := by rw [decide_eq_true_iff]; omega
  all_goals
    go_enter Tryz.func254, Tryz.ntmps254
    go_wp2_with fail
    go_loopw [3] (fun i wr => ∃ k : Nat, k ≤ (str l).size ∧ i = .int .i64 k ∧ wr = w) (fun i _ => (str l).size - (intOf i).toNat)
    case atStart => exact ⟨0, Nat.zero_le _, rfl, rfl⟩
    case round =>
      obtain ⟨k, hk, rfl, rfl⟩ := hrel
      by_cases hlt : k < (str l).size
      · have hd : decide ((k : Int) < ((str l).size : Nat)) = true := by simpa using hlt
        obtain ⟨c, hx, _, hc1, hc2⟩ := digits_loopg l H k hlt
        have hlo : decide ((c : Int) < 48) = false := by rw [decide_eq_false_iff_not]; omega
        have hhi : decide ((57 : Int) < (c : Int)) = false := by rw [decide_eq_false_iff_not]; omega
        go_wp2_with fail
        go_roundw
        case rel => exact ⟨k + 1, by omega, by simp, trivial⟩
        case measure => simp [intOf]; omega
      · have hd : decide ((k : Int) < ((str l).size : Nat)) = false := by simpa using hlt
        go_wp2_with fail
        go_ret
        exact ⟨rfl, rfl⟩
theorem decG_of (n : Nat) (h : (Wh.decN n).length ≤ 2000) : DecG (Wh.decN n) := by
  refine ⟨Wh.decN_ne n, Wh.decN_digits n, ?_, h⟩
  by_cases h0 : n = 0
  · subst h0; right; rw [Wh.decN_zero]; rfl
  · exact .inl (Wh.decN_head n (by omega))
set_option maxHeartbeats 400000 in
theorem form_txtg (x : Int) (hx : V400 x) (w : World) :
    Calls Tryz.prog 186 #[txt x] w fun e w' => e = .returned (.bool true) ∧ w = w' := by
  have hb : ((str (Wh.decI x)).toList == [45, 48]) = false := by
    rw [Lib.toList_data, str_data, beq_eq_false_iff_ne]
    intro e
    by_cases h : x < 0
    · rw [decI_neg h] at e
      have e2 : Wh.decN x.natAbs = [48] := by injection e
      have := Wh.decN_head x.natAbs (by omega)
      rw [e2] at this
      exact this rfl
    · rw [decI_pos h] at e
      have := Wh.decN_digits x.natAbs 45 (by rw [e]; simp)
      exact absurd this.1 (by decide)
  have HA := Lib.hid (fun w => Abs_txt x w)
  have HD := Lib.hid (fun w => digits_decg _ (decG_of _ (Nat.le_trans hx (by decide))) w)
  have HB := Lib.hid hb; clear hb hx
  unfold txt at *
  go_enter Tryz.func186, Tryz.ntmps186
  go_wp2_with fail
  refine (HA.out _).mono ?_
  rintro e w' ⟨rfl, rfl⟩
  go_wp2_with fail
  refine (HD.out _).mono ?_
  rintro e w' ⟨rfl, rfl⟩
  go_wp2_with fail
  rw [HB.out]
  go_wp2_with fail
  go_ret
  exact ⟨rfl, rfl⟩
set_option maxHeartbeats 400000 in
theorem Check_txt (x : Int) (hx : V400 x) (w : World) :
    Calls Tryz.prog 100 #[txt x] w fun e w' => e = .returned (.int .i64 0) ∧ w = w' := by
  have HF := Lib.hid (fun w => form_txtg x hx w)
  have HA := Lib.hid (fun w => Abs_txt x w)
  have hs : decide ((400 : Int) < ((str (Wh.decN x.natAbs)).size : Nat)) = false := by rw [decide_eq_false_iff_not]; show ¬ (400 : Int) < ((Wh.decN x.natAbs).length : Nat); have : (Wh.decN x.natAbs).length ≤ 400 := hx; omega
  clear hx
  unfold txt at *
  generalize str (Wh.decN x.natAbs) = S' at *
  go_enter Tryz.func100, Tryz.ntmps100
  go_wp2_with fail
  refine (HF.out _).mono ?_
  rintro e w' ⟨rfl, rfl⟩
  go_wp2_with fail
  refine (HA.out _).mono ?_
  rintro e w' ⟨rfl, rfl⟩
  go_wp2_with fail
  go_ret
  exact ⟨rfl, rfl⟩
set_option maxHeartbeats 400000 in
theorem isForm_txt (x : Int) (hx : V400 x) (w : World) :
    Calls Tryz.prog 26 #[txt x] w fun e w' => e = .returned (.bool true) ∧ w = w' := by
  have HF := Lib.hid (fun w => Check_txt x hx w)
  clear hx
  unfold txt at *
  go_enter Tryz.func26, Tryz.ntmps26
  go_wp2_with fail
  refine (HF.out _).mono ?_
  rintro e w' ⟨rfl, rfl⟩
  go_wp2_with fail
  go_ret
  exact ⟨rfl, rfl⟩
end Go.Proofs.YteaeloeebfdodaaGreatDoor
