/- Part 53 of the proofs that laws of package whole answer true at every input and leave the input as it was, where the library's variables start as the text lays them (the texts W6, W7). -/
import Derived.Test.YteaeloeebfdodaaGreatDoorX52
import Derived.Test.YteaeloeebfdodaaGreatDoorX13
set_option linter.unusedVariables false
set_option linter.unusedSimpArgs false
/- WALKS, long division: divideLong. -/
namespace Go.Proofs.YteaeloeebfdodaaGreatDoor
open Go.RowKit Go.Proofs.Rf
theorem scale_facts {lb L3 : List Nat} {k f : Nat} (ob : Wh.Ok lb) (hl : lb.length = k + 2) (htop : 0 < lb.getD (k + 1) 0) (hf : f = Wh.R / (lb.getD (k + 1) 0 + 1)) (o3 : Wh.Ok L3) (hl3 : L3.length = k + 3) (hv : Wh.val L3 = f * Wh.val lb) :
    1 ≤ f ∧ f ≤ Wh.R ∧ Wh.val (L3.take (k + 2)) = f * Wh.val lb ∧ 0 < (L3.take (k + 2)).getD (k + 1) 0 ∧ f * Wh.val lb < Wh.R ^ (k + 2) ∧ Wh.R ^ (k + 1) ≤ Wh.val lb := by
  have ht := Wh.okD ob (k + 1)
  have h1 : 1 ≤ f := by rw [hf, Nat.le_div_iff_mul_le (by omega)]; omega
  have h2 : f ≤ Wh.R := by rw [hf]; exact Nat.div_le_self _ _
  have e1 : Wh.val lb = Wh.sum (lb.getD · 0) (k + 1) + Wh.R ^ (k + 1) * lb.getD (k + 1) 0 := by rw [Wh.val_sum, hl, Wh.sum]
  have hs : Wh.sum (lb.getD · 0) (k + 1) < Wh.R ^ (k + 1) := Wh.sum_lt fun i _ => Wh.okD ob i
  have h3 : f * (lb.getD (k + 1) 0 + 1) ≤ Wh.R := by rw [hf]; exact Nat.div_mul_le_self _ _
  have hlt : Wh.val lb < Wh.R ^ (k + 1) * (lb.getD (k + 1) 0 + 1) := by rw [e1, Nat.mul_add, Nat.mul_one]; omega
  have hge : Wh.R ^ (k + 1) ≤ Wh.val lb := by
    have : Wh.R ^ (k + 1) * 1 ≤ Wh.R ^ (k + 1) * lb.getD (k + 1) 0 := Nat.mul_le_mul_left _ htop
    omega
  have hfl : f * Wh.val lb < Wh.R ^ (k + 2) := by
    have h4 : f * Wh.val lb < f * (Wh.R ^ (k + 1) * (lb.getD (k + 1) 0 + 1)) := Nat.mul_lt_mul_of_pos_left hlt h1
    have h5 : f * (Wh.R ^ (k + 1) * (lb.getD (k + 1) 0 + 1)) = Wh.R ^ (k + 1) * (f * (lb.getD (k + 1) 0 + 1)) := Nat.mul_left_comm ..
    have h6 : Wh.R ^ (k + 1) * (f * (lb.getD (k + 1) 0 + 1)) ≤ Wh.R ^ (k + 1) * Wh.R := Nat.mul_le_mul_left _ h3
    rw [Nat.pow_succ Wh.R (k + 1)]
    omega
  have e3 : Wh.val L3 = Wh.val (L3.take (k + 2)) + Wh.R ^ (k + 2) * L3.getD (k + 2) 0 := by
    rw [Wh.val_take, Wh.val_sum, hl3, Wh.sum]
  have hz : L3.getD (k + 2) 0 = 0 := by
    rcases Nat.eq_zero_or_pos (L3.getD (k + 2) 0) with h | h
    · exact h
    · have : Wh.R ^ (k + 2) * 1 ≤ Wh.R ^ (k + 2) * L3.getD (k + 2) 0 := Nat.mul_le_mul_left _ h
      omega
  have hv3 : Wh.val (L3.take (k + 2)) = f * Wh.val lb := by rw [hz] at e3; omega
  refine ⟨h1, h2, hv3, ?_, hfl, hge⟩
  have e4 : (L3.take (k + 2)).getD (k + 1) 0 = L3.getD (k + 1) 0 := by simp [List.getD]
  rw [e4]
  rw [Wh.val_take, Wh.sum] at hv3
  have hs3 : Wh.sum (L3.getD · 0) (k + 1) < Wh.R ^ (k + 1) := Wh.sum_lt fun i _ => Wh.okD o3 i
  rcases Nat.eq_zero_or_pos (L3.getD (k + 1) 0) with h | h
  · rw [h] at hv3
    have : Wh.R ^ (k + 1) * 1 ≤ f * Wh.val lb := by rw [Nat.mul_comm]; exact Nat.mul_le_mul h1 hge
    omega
  · exact h
theorem scale_at {lb L3 : List Nat} {j f : Nat} (hj : 1 ≤ j) (ob : Wh.Ok lb) (hl : lb.length = j + 1) (htop : 0 < lb.getD j 0) (hf : f = Wh.R / (lb.getD j 0 + 1)) (o3 : Wh.Ok L3) (hl3 : L3.length = j + 2) (hv : Wh.val L3 = f * Wh.val lb) :
    1 ≤ f ∧ f ≤ Wh.R ∧ Wh.val (L3.take (j + 1)) = f * Wh.val lb ∧ 0 < (L3.take (j + 1)).getD j 0 ∧ f * Wh.val lb < Wh.R ^ (j + 1) ∧ Wh.R ^ j ≤ Wh.val lb := by
  obtain ⟨k, rfl⟩ : ∃ k, j = k + 1 := ⟨j - 1, by omega⟩
  exact scale_facts ob hl htop hf o3 hl3 hv
theorem start_lt {la A0 : List Nat} {n m f B : Nat} (oa : Wh.Ok la) (hl : la.length = n) (hA : A0.length = n + 1) (hv : Wh.val A0 = f * Wh.val la) (hf : 1 ≤ f) (hm : 1 ≤ m) (hmn : m ≤ n) (hB : Wh.R ^ (m - 1) ≤ B) :
    Wh.win A0 (A0.length - m) m < f * B := by
  have e := Wh.win_drop A0 (A0.length - m)
  rw [show A0.length - (A0.length - m) = m by omega] at e
  rw [e]
  have h1 := Wh.val_take_drop A0 (A0.length - m) (by omega)
  have h2 := Wh.val_lt oa
  rw [hl] at h2
  have h3 : Wh.R ^ n = Wh.R ^ (A0.length - m) * Wh.R ^ (m - 1) := by rw [← Nat.pow_add]; congr 1; omega
  have h4 : Wh.R ^ (A0.length - m) * Wh.val (A0.drop (A0.length - m)) < Wh.R ^ (A0.length - m) * (f * Wh.R ^ (m - 1)) := by
    have h5 : f * Wh.val la < f * Wh.R ^ n := Nat.mul_lt_mul_of_pos_left h2 hf
    rw [h3, Nat.mul_left_comm] at h5
    omega
  have h6 := Nat.lt_of_mul_lt_mul_left h4
  have h7 : f * Wh.R ^ (m - 1) ≤ f * B := Nat.mul_le_mul_left _ hB
  omega
theorem Own.apart {w w' : World} {b b' : Nat} {l : List Nat} (h : Own w b l) (ho : Only b' w w') (hne : b ≠ b') : Own w' b l :=
  ⟨Nat.lt_of_lt_of_le h.lt ho.size, fun i hi => (ho.cell (p := ⟨b, i, none⟩) hne h.lt).trans (h.cell i hi), fun i hi => (ho.frozen (p := ⟨b, i, none⟩) hne h.lt).trans (h.free i hi)⟩
theorem Own.take_sl {w : World} {b : Nat} {l : List Nat} (h : Own w b l) (k c : Nat) (hk : k ≤ l.length) (hc : k ≤ c) : Sl w (.slice (some ⟨b, 0, none⟩) k c) (l.take k) := by
  have e : (l.take k).length = k := by rw [List.length_take, Nat.min_eq_left hk]
  refine .inr ⟨b, 0, c, by rw [e], by omega, h.lt, fun i hi => ?_⟩
  rw [e] at hi
  rw [Nat.zero_add, h.cell i (by omega)]
  simp [List.getD, hi]
/-- the state of the division -/
structure DLI (w wr : World) (g1 g2 : Nat) (vd : Value) (d A0 : List Nat) (p : Nat) (L Q : List Nat) : Prop where
  dv : Wh.DV A0 d.length (Wh.val d) p L Q
  o1 : Own wr g1 L
  o2 : Own wr g2 Q
  sd : Sl wr vd d
  below : Below w.heap.size w wr
/-- within a round -/
structure DLR (w wr : World) (g1 g2 : Nat) (vd : Value) (d : List Nat) (p P : Nat) (L L' Q : List Nat) (g : Nat) : Prop where
  ge : P / Wh.val d ≤ g
  lt : g < 1000000000
  te : Wh.TE L p d.length L'
  win : Wh.win L' p (d.length + 1) = P
  o1 : Own wr g1 L'
  o2 : Own wr g2 Q
  sd : Sl wr vd d
  below : Below w.heap.size w wr
theorem set_zero {Q : List Nat} {q : Nat} (h : Q.getD q 0 = 0) : Q.set q 0 = Q := by
  apply List.ext_getElem
  · simp
  · intro i h1 h2
    rw [List.getElem_set]
    split
    · next e => subst e; simpa [List.getD, h2] using h.symm
    · rfl
theorem DLR.zero {w wr : World} {g1 g2 : Nat} {vd : Value} {d A0 L L' Q : List Nat} {q : Nat} (h : DLR w wr g1 g2 vd d q (Wh.win L q (d.length + 1)) L L' Q 0) (hv : Wh.DV A0 d.length (Wh.val d) (q + 1) L Q) (hq : q + d.length < A0.length) (hD : Wh.val d ≤ Wh.R ^ d.length) : DLI w wr g1 g2 vd d A0 q L' Q := by
  have hpos : 0 < Wh.val d := by have := hv.lt; omega
  have h0 : Wh.win L q (d.length + 1) / Wh.val d = 0 := Nat.le_zero.1 h.ge
  have hlt : Wh.win L q (d.length + 1) < Wh.val d := by
    rcases Nat.lt_or_ge (Wh.win L q (d.length + 1)) (Wh.val d) with h1 | h1
    · exact h1
    · have := Nat.div_pos h1 hpos; omega
  have := hv.next hq hD h.te (by rw [h.win, Nat.mod_eq_of_lt hlt])
  rw [h0, set_zero (hv.qlow q (by omega))] at this
  exact ⟨this, h.o1, h.o2, h.sd, h.below⟩
theorem DLR.hit {w wr w2 : World} {g1 g2 : Nat} {vd : Value} {d A0 L L' L2 Q : List Nat} {q g : Nat} (h : DLR w wr g1 g2 vd d q (Wh.win L q (d.length + 1)) L L' Q g) (hv : Wh.DV A0 d.length (Wh.val d) (q + 1) L Q) (hq : q + d.length < A0.length) (hD : Wh.val d ≤ Wh.R ^ d.length)
    (ho : Only g1 wr w2) (hne : g2 ≠ g1) (ha : Apart g1 vd) (hg1 : w.heap.size ≤ g1) (hg2 : w.heap.size ≤ g2) (hav : Apart g2 vd) (o1 : Own w2 g1 L2) (hte : Wh.TE L' q d.length L2) (he0 : Wh.TkEq L' L2 q d.length g (Wh.val d) 0) :
    q < Q.length ∧ w2.cell? ⟨g2, q, none⟩ = some (.int .u32 (Q.getD q 0 : Nat)) ∧ w2.frozen? ⟨g2, q, none⟩ = false ∧ DLI w (w2.setCell ⟨g2, q, none⟩ (.int .u32 g)) g1 g2 vd d A0 q L2 (Q.set q g) := by
  have hpos : 0 < Wh.val d := by have := hv.lt; omega
  have he := he0.zero
  rw [h.win] at he
  obtain ⟨e1, e2⟩ := Wh.take_right he h.ge hpos
  have hql : q < Q.length := by have := hv.qlen; omega
  have o2 := h.o2.apart ho hne
  have hn := hv.next hq hD (h.te.trans hte) e2
  rw [← e1] at hn
  have hb2 : Below w.heap.size w w2 := h.below.trans (ho.below hg1 h.below.size)
  have hon2 : Only g2 w2 (w2.setCell ⟨g2, q, none⟩ (.int .u32 g)) := (Only.refl _ _).setCell q _
  exact ⟨hql, o2.cell q hql, o2.free q hql, hn, o1.apart hon2 (Ne.symm hne), o2.set hql g, (h.sd.only ho ha).only hon2 hav, hb2.trans (hon2.below hg2 hb2.size)⟩
theorem DLR.miss {w wr w2 w3 : World} {g1 g2 : Nat} {vd : Value} {d L L' L2 L3 Q : List Nat} {q g b c P : Nat} (h : DLR w wr g1 g2 vd d q P L L' Q g) (hb : b ≤ 1) (hb0 : b ≠ 0) (hc : c ≤ 1)
    (ho : Only g1 wr w2) (ho3 : Only g1 w2 w3) (hne : g2 ≠ g1) (ha : Apart g1 vd) (hg1 : w.heap.size ≤ g1) (o1 : Own w3 g1 L3) (hte : Wh.TE L' q d.length L2) (hte3 : Wh.TE L2 q d.length L3)
    (he0 : Wh.TkEq L' L2 q d.length g (Wh.val d) b) (he30 : Wh.GvEq L2 L3 q d.length g (Wh.val d) c) :
    0 < g ∧ DLR w w3 g1 g2 vd d q P L L3 Q (g - 1) := by
  have he := he0.eq
  have he3 := he30.eq
  rw [h.win] at he
  obtain ⟨e1, e2, e3⟩ := Wh.give_back hb hc hb0 he he3 (Wh.win_lt hte3.ok q _) (Wh.win_lt hte.ok q _)
  have ho' := ho.trans ho3
  exact ⟨e3, e2, by have := h.lt; omega, (h.te.trans hte).trans hte3, e1, o1, h.o2.apart ho' hne, h.sd.only ho' ha, h.below.trans (ho'.below hg1 h.below.size)⟩
theorem guess_at (w : World) (rb p pc : Nat) (lr : List Nat) (hr : Own w rb lr) (hok : Wh.Ok lr) (vd : Value) (d : List Nat) (hd : Sl w vd d) (hod : Wh.Ok d) (k : Nat) (hk : 1 ≤ k) (hdl : d.length = k + 1) (hp : p + (k + 1) < lr.length) (hpc : k + 2 ≤ pc) (hm : lr.length ≤ 100000)
    (hP : Wh.win lr p (k + 2) < Wh.R * Wh.val d) (hf : 0 < d.getD k 0) :
    Calls Tryz.prog 302 #[.slice (some ⟨rb, p, none⟩) (k + 2 : Nat) pc, vd] w fun e w' => (∃ g : Nat, e = .returned (.int .u32 g) ∧ Wh.win lr p (k + 2) / Wh.val d ≤ g ∧ g < 1000000000) ∧ ∃ n, w' = w.drewN n := by
  obtain ⟨m, rfl⟩ : ∃ m, k = m + 1 := ⟨k - 1, by omega⟩
  exact guess_any w rb p pc lr hr hok vd d hd hod m hdl hp hpc hm hP hf
set_option maxRecDepth 100000 in
set_option maxHeartbeats 4000000 in
theorem divideLong_any (w : World) (va vb : Value) (la lb : List Nat) (ha : Sl w va la) (hb : Sl w vb lb) (oa : Wh.Ok la) (ob : Wh.Ok lb) (k : Nat) (hk1 : 1 ≤ k) (hlb : lb.length = k + 1) (hle : lb.length ≤ la.length) (htop : 0 < lb.getD k 0) (hm : la.length ≤ 1000) :
    Calls Tryz.prog 262 #[va, vb] w fun e w' => (∃ aq cq ar cr, e = .returned (.tuple #[.slice aq (Wh.limbs (Wh.val la / Wh.val lb)).length cq, .slice ar (Wh.limbs (Wh.val la % Wh.val lb)).length cr]) ∧ cq ≤ 100000 ∧ cr ≤ 100000 ∧ (∀ p, ar = some p → w.heap.size ≤ p.block) ∧ Sl w' (.slice aq (Wh.limbs (Wh.val la / Wh.val lb)).length cq) (Wh.limbs (Wh.val la / Wh.val lb)) ∧ Sl w' (.slice ar (Wh.limbs (Wh.val la % Wh.val lb)).length cr) (Wh.limbs (Wh.val la % Wh.val lb))) ∧ Below w.heap.size w w' := by
  obtain ⟨a1, c1, rfl, -⟩ := ha.addr
  obtain ⟨a2, c2, rfl, hc2⟩ := hb.addr
  obtain ⟨b2, off2, rfl, hbl2, hcell2⟩ := hc2 0 (by omega)
  have hx := hcell2 k (by omega)
  have htl : lb.getD k 0 < 1000000000 := Wh.okD ob _
  obtain ⟨f, hf⟩ : ∃ f, f = Wh.R / (lb.getD k 0 + 1) := ⟨_, rfl⟩
  have hff : f ≤ 1000000000 := by rw [hf]; exact Nat.div_le_self _ _
  have htd : (1000000000 : Int).tdiv ((lb.getD k 0 : Int) + 1) = (f : Int) := by rw [Int.tdiv_eq_ediv_of_nonneg (by omega), hf]; simp [Wh.R]
  have hne : (((lb.getD k 0 : Nat) : Int) + 1 == 0) = false := by rw [beq_eq_false_iff_ne]; omega
  have HSF := Lib.hid (fun L3 o3 hl3 hv => scale_at (L3 := L3) hk1 ob hlb htop hf o3 hl3 hv)
  have HS1 := Lib.hid (fun W (hB : Below w.heap.size w W) => scaled_any W _ la (ha.mono hB) oa f hff (by omega))
  have HS2 := Lib.hid (fun W (hB : Below w.heap.size w W) => scaled_any W _ lb (hb.mono hB) ob f hff (by omega))
  have HST := Lib.hid (fun A0 B h1 h2 h3 h4 => start_lt (la := la) (A0 := A0) (n := la.length) (m := k + 1) (f := f) (B := B) oa rfl h1 h2 h3 (by omega) (by omega) h4)
  clear hc2 hcell2 ha hb htop
  generalize lb.getD k 0 = top at *
  have HLB := Lib.hid hlb
  rw [hlb] at HS2 hle ⊢
  generalize hn : la.length = n at *
  have HN := Lib.hid hn; clear hn
  have HOO := Lib.hid (And.intro oa ob); clear oa ob
  clear hlb
  generalize hX : Wh.val la = X at *
  generalize hY : Wh.val lb = Y at *
  have HF := Lib.hid hf; clear hf
  go_enter Tryz.func262, Tryz.ntmps262
  go_wp2_with fail
  refine wp_scope_straight ?_
  go_wp2_with fail
  refine (HS1.out _ (Below.refl _ _)).mono ?_
  rintro e w1 ⟨⟨A0, g1, rfl, hg1, ho1, hok1, hl1, hv1⟩, hB1⟩
  have HB1 := Lib.hid hB1
  go_wp2_with fail
  refine (HS2.out _ HB1.out).mono ?_
  rintro e w2 ⟨⟨L3, g3, rfl, hg3, ho3, hok3, hl3, hv3⟩, hB2⟩
  obtain ⟨hf1, hf2, hv4, hfirst, hDl, hRY⟩ := HSF.out L3 hok3 hl3 hv3
  have hst := HST.out A0 Y hl1 hv1 hf1 (by rw [Nat.add_sub_cancel]; exact hRY)
  obtain ⟨d, hd⟩ : ∃ d, d = L3.take (k + 1) := ⟨_, rfl⟩
  have hdl : d.length = k + 1 := by rw [hd, List.length_take, hl3]; omega
  have hokd : Wh.Ok d := by rw [hd]; exact fun x hx => hok3 x (List.mem_of_mem_take hx)
  rw [← hd] at hv4 hfirst
  have hB2' : Below w.heap.size w w2 := HB1.out.trans (hB2.mono HB1.out.size)
  have hsd : Sl w2 (.slice (some ⟨g3, 0, none⟩) (k + 1 : Nat) (k + 1 : Nat)) d := by rw [hd]; exact ho3.take_sl (k + 1) (k + 1) (by omega) (Nat.le_refl _)
  have hmk := run_make_limbs (n - k) (by omega) w2 ((n : Int) - ((k : Int) + 1) + 1) (by omega)
  have hB3 : Below w2.heap.size w2 (w2.alloc (.cells (zeros (n - k)) 181)) := (Below.refl _ _).alloc (Nat.le_refl _) _
  have hg1s : g1 < w2.heap.size := Nat.lt_of_lt_of_le ho1.lt hB2.size
  have hdv : Wh.DV A0 d.length (Wh.val d) (n - k) A0 (List.replicate (n - k) 0) := by
    have := Wh.DV.start (m := k + 1) (D := f * Y) hok1 (by omega) hst
    rw [hdl, hv4]
    rwa [show A0.length - (k + 1) = n - k by omega] at this
  have HI0 : Hid (DLI w (w2.alloc (.cells (zeros (n - k)) 181)) g1 w2.heap.size (.slice (some ⟨g3, 0, none⟩) (k + 1 : Nat) (k + 1 : Nat)) d A0 (n - k) A0 (List.replicate (n - k) 0)) :=
    Lib.hid ⟨hdv, (ho1.mono hB2 ho1.lt).mono hB3 hg1s, own_make w2 (n - k), hsd.mono hB3, hB2'.trans (hB3.mono hB2'.size)⟩
  have HG : Hid (g1 < w2.heap.size ∧ g3 < w2.heap.size ∧ g3 ≠ g1 ∧ w.heap.size ≤ g1 ∧ w2.heap.size ≠ g1) := Lib.hid ⟨hg1s, ho3.lt, by have := ho1.lt; omega, hg1, by omega⟩
  have HD := Lib.hid (And.intro hdl (And.intro hokd (And.intro hfirst (And.intro hv4 hDl))))
  have HA := Lib.hid (And.intro hl1 (And.intro hv1 (And.intro hf1 hff)))
  generalize hz : w2.heap.size = g2 at *
  generalize w2.alloc (.cells (zeros (n - k)) 181) = V0 at *
  clear hf1 hf2 hv4 hfirst hDl hRY hst hd hdl hokd hB2' hsd hB3 hg1s hdv ho1 ho3 hB1 hB2 hok1 hok3 hl1 hl3 hv1 hv3 hg1 hg3 hz HS1 HS2 HSF HST HB1 hx htd hne
  have hkn : k + 1 ≤ n := hle
  go_wp2_with fail
  refine wp_label ?_
  go_wp2_with fail
  go_loopw [8] (fun av wr => ∃ (p : Nat) (L Q : List Nat), p ≤ n - k ∧ av = .int .i64 ((p : Int) - 1) ∧ Hid (DLI w wr g1 g2 (.slice (some ⟨g3, 0, none⟩) (k + 1 : Nat) (k + 1 : Nat)) d A0 p L Q)) (fun av _ => (intOf av + 1).toNat)
  case atStart => exact ⟨n - k, _, _, Nat.le_refl _, by congr 1; omega, HI0⟩
  case round =>
    clear HI0
    obtain ⟨p, L, Q, hp, rfl, HI⟩ := hrel
    by_cases h0 : p = 0
    · subst h0
      have hdv := HI.out.dv
      rw [HD.out.1] at hdv
      obtain ⟨hq, hr⟩ := hdv.fin
      have hL : L.length = n + 1 := by rw [hdv.len]; exact HA.out.1
      have hQl : Q.length = n - k := by have := hdv.qlen; rw [HA.out.1] at this; omega
      rw [HD.out.2.2.2.1, HA.out.2.1] at hq hr
      rw [Nat.mul_div_mul_left _ _ HA.out.2.2.1] at hq
      rw [Nat.mul_mod_mul_left] at hr
      have HDS := Lib.hid (divideShort_in wr g1 (n + 1) L f hdv.ok HI.out.o1 (by omega) (by omega) ⟨by have := HA.out.2.2.1; omega, hff⟩)
      rw [hL] at HDS
      have HQQ := Lib.hid (And.intro hq (And.intro hr (And.intro hL (And.intro hQl (And.intro hdv.ok hdv.qok)))))
      clear hdv hq hr hL hQl
      go_wp2_with fail
      refine HDS.out.mono ?_
      rintro e w5 ⟨rfl, hon, how⟩
      have hne : g2 ≠ g1 := HG.out.2.2.2.2
      have hQs : Sl w5 (.slice (some ⟨g2, 0, none⟩) (n - k : Nat) (n - k : Nat)) Q := by
        have := (HI.out.o2.apart hon hne).sl (n - k) (by rw [HQQ.out.2.2.2.1]; exact Nat.le_refl _)
        rwa [HQQ.out.2.2.2.1] at this
      have hRs : Sl w5 (.slice (some ⟨g1, 0, none⟩) (n + 1 : Nat) (n + 1 : Nat)) (Wh.quo L f) := by
        have := how.sl (n + 1) (by rw [Wh.quo_length, HQQ.out.2.2.1]; exact Nat.le_refl _)
        rwa [Wh.quo_length, HQQ.out.2.2.1] at this
      have HB5 := Lib.hid (HI.out.below.trans (hon.below HG.out.2.2.2.1 HI.out.below.size))
      have e1 : Wh.trimL Q = Wh.limbs (X / Y) := by rw [Wh.trimL, HQQ.out.1]
      have e2 : Wh.trimL (Wh.quo L f) = Wh.limbs (X % Y) := by
        rw [Wh.trimL, Wh.val_quo _ _ (by have := HA.out.2.2.1; omega), HQQ.out.2.1, Nat.mul_div_cancel_left _ (by have := HA.out.2.2.1; omega)]
      have HT1 := Lib.hid (trim_same w5 _ _ _ Q HQQ.out.2.2.2.2.2 hQs (by omega))
      have HT2 := Lib.hid (trim_same w5 _ _ _ (Wh.quo L f) (Wh.quo_ok L f (by have := HA.out.2.2.1; omega) HQQ.out.2.2.2.2.1) hRs (by omega))
      rw [e1] at HT1
      rw [e2] at HT2
      clear hne hQs hRs e1 e2 hon how HI HDS
      go_wp2_with fail
      refine HT1.out.mono ?_
      rintro e w6 ⟨rfl, hs6, rfl⟩
      have HS6 := Lib.hid hs6; clear hs6
      go_wp2_with fail
      refine HT2.out.mono ?_
      rintro e w7 ⟨rfl, hs7, rfl⟩
      have HS7 := Lib.hid hs7; clear hs7
      go_wp2_with fail
      dsimp only [Exit.noGoto]
      go_ret2
      exact ⟨⟨_, _, _, _, rfl, by omega, by omega, fun p e => by cases e; exact HG.out.2.2.2.1, HS6.out, HS7.out⟩, HB5.out⟩
    · obtain ⟨q, rfl⟩ : ∃ q, p = q + 1 := ⟨p - 1, by omega⟩
      rw [show (((q + 1 : Nat) : Int) - 1) = (q : Int) from by omega]
      have hdv := HI.out.dv
      obtain ⟨hP1, -⟩ := hdv.part
      have hL : L.length = n + 1 := by rw [hdv.len]; exact HA.out.1
      have HGU := Lib.hid (guess_at wr g1 q (k + 2) L HI.out.o1 hdv.ok (.slice (some ⟨g3, 0, none⟩) (k + 1 : Nat) (k + 1 : Nat)) d HI.out.sd HD.out.2.1 k hk1 HD.out.1 (by omega) (Nat.le_refl _) (by omega) (by rw [HD.out.1] at hP1; exact hP1) HD.out.2.2.1)
      have HV := Lib.hid (And.intro hdv (And.intro hL HI.out))
      clear hdv hP1 hL HI
      have hqn : q + k + 2 ≤ n + 1 := by omega
      have hqk : q + (k + 1) + 1 - q = k + 2 := by omega
      go_wp2_with fail
      rw [hqk]
      refine HGU.out.mono ?_
      rintro e w5 ⟨⟨g, rfl, hg1, hg2⟩, m5, rfl⟩
      have hDX : Wh.val d ≤ Wh.R ^ d.length := by rw [HD.out.2.2.2.1, HD.out.1]; exact Nat.le_of_lt HD.out.2.2.2.2
      have hqa : q + d.length < A0.length := by rw [HD.out.1, HA.out.1]; omega
      have HR0 : Hid (DLR w (wr.drewN m5) g1 g2 (.slice (some ⟨g3, 0, none⟩) (k + 1 : Nat) (k + 1 : Nat)) d q (Wh.win L q (d.length + 1)) L L Q g) :=
        Lib.hid ⟨by rw [HD.out.1]; exact hg1, hg2, ⟨rfl, HV.out.1.ok, fun _ _ => rfl⟩, rfl, HV.out.2.2.o1.mono (below_drewN _ _ _) HV.out.2.2.o1.lt, HV.out.2.2.o2.mono (below_drewN _ _ _) HV.out.2.2.o2.lt, HV.out.2.2.sd.mono (below_drewN _ _ _), HV.out.2.2.below.trans (below_drewN _ _ _)⟩
      have HQ := Lib.hid (And.intro hDX hqa); clear hDX hqa HGU hg1
      go_wp2_with fail
      go_loopw [10] (fun dv wi => ∃ (g : Nat) (L' : List Nat), g < 1000000000 ∧ dv = .int .u32 g ∧ Hid (DLR w wi g1 g2 (.slice (some ⟨g3, 0, none⟩) (k + 1 : Nat) (k + 1 : Nat)) d q (Wh.win L q (d.length + 1)) L L' Q g)) (fun dv _ => (intOf dv).toNat)
      case atStart => exact ⟨g, L, hg2, rfl, HR0⟩
      case round =>
        clear HR0 hg2
        obtain ⟨g', L', hgl, rfl, HJ⟩ := hrel
        by_cases h0 : g' = 0
        · subst h0
          have HZ := Lib.hid (HJ.out.zero HV.out.1 HQ.out.2 HQ.out.1)
          go_wp2_with fail
          exact ⟨⟨q, L', Q, by omega, rfl, HZ⟩, by simp [intOf]⟩
        · have hpos : decide ((0 : Int) < (g' : Int)) = true := by rw [decide_eq_true_iff]; omega
          have hap1 : Apart g1 (.slice (some ⟨g3, 0, none⟩) (k + 1 : Nat) (k + 1 : Nat)) := by intro p n c h; cases h; exact HG.out.2.2.1
          have hap2 : Apart g2 (.slice (some ⟨g3, 0, none⟩) (k + 1 : Nat) (k + 1 : Nat)) := by intro p n c h; cases h; have := HG.out.2.1; show g3 ≠ g2; omega
          have hL' : L'.length = n + 1 := by rw [HJ.out.te.len]; exact HV.out.2.1
          have HTT := Lib.hid (takeTimes_any wr g1 q (k + 2) L' HJ.out.o1 HJ.out.te.ok (.slice (some ⟨g3, 0, none⟩) (k + 1 : Nat) (k + 1 : Nat)) d HJ.out.sd hap1 HD.out.2.1 g' hgl (by rw [HD.out.1, hL']; omega) (by rw [HD.out.1]; omega) (by omega))
          rw [HD.out.1] at HTT
          have HAP := Lib.hid (And.intro hap1 (And.intro hap2 hL')); clear hap1 hap2 hL'
          go_wp2_with fail
          refine HTT.out.mono ?_
          rintro e w6 ⟨⟨L2, b, rfl, hb1, ho6, hte6, he6⟩, hon6⟩
          have hg2w : w.heap.size ≤ g2 := by have := HV.out.2.2.below.size; have := HG.out.1; have := HG.out.2.2.2.1; omega
          by_cases hb : b = 0
          · subst hb
            have hH := HJ.out.hit (A0 := A0) (L2 := L2) HV.out.1 HQ.out.2 HQ.out.1 hon6 HG.out.2.2.2.2 HAP.out.1 HG.out.2.2.2.1 hg2w HAP.out.2.1 ho6 (by rw [HD.out.1]; exact hte6) (by rw [HD.out.1]; exact he6)
            obtain ⟨hql, hc6, hf6, hH⟩ := hH
            have HH := Lib.hid hH
            generalize Q.getD q 0 = old at *
            clear hH he6 hte6 ho6 hon6 HTT HJ
            have hqk2 : q < n - k := by omega
            go_wp2_with fail
            exact ⟨⟨q, L2, Q.set q g', by omega, rfl, HH⟩, by simp [intOf]⟩
          · have hbf : (b == 0) = false := by rw [beq_eq_false_iff_ne]; exact hb
            have hL2 : L2.length = n + 1 := by rw [hte6.len]; exact HAP.out.2.2
            have HGT := Lib.hid (giveTimes_any w6 g1 q (k + 2) L2 ho6 hte6.ok (.slice (some ⟨g3, 0, none⟩) (k + 1 : Nat) (k + 1 : Nat)) d (HJ.out.sd.only hon6 HAP.out.1) HAP.out.1 HD.out.2.1 g' hgl (by rw [HD.out.1, hL2]; omega) (by rw [HD.out.1]; omega) (by omega))
            rw [HD.out.1] at HGT
            rw [hbf]
            have HM := Lib.hid (And.intro he6 (And.intro hte6 hon6))
            clear he6 hte6 hon6 ho6 HTT hL2
            go_wp2_with fail
            refine HGT.out.mono ?_
            rintro e w7 ⟨⟨L3', c, rfl, hc1, ho7, hte7, he7⟩, hon7⟩
            have hmi := HJ.out.miss hb1 hb hc1 HM.out.2.2 hon7 HG.out.2.2.2.2 HAP.out.1 HG.out.2.2.2.1 ho7 (by rw [HD.out.1]; exact HM.out.2.1) (by rw [HD.out.1]; exact hte7) (by rw [HD.out.1]; exact HM.out.1) (by rw [HD.out.1]; exact he7)
            obtain ⟨hg0, hmi⟩ := hmi
            have HMI := Lib.hid hmi
            clear hmi he7 hte7 ho7 hon7 HM HGT HJ
            go_wp2_with fail
            go_roundw
            case rel => exact ⟨g' - 1, L3', by omega, by rw [show ((g' - 1 : Nat) : Int) = (g' : Int) - 1 from by omega], HMI⟩
            case measure => simp [intOf]; omega
end Go.Proofs.YteaeloeebfdodaaGreatDoor

/- WALKS, division by any number: divideLimbs, Quo. -/
namespace Go.Proofs.YteaeloeebfdodaaGreatDoor
open Go.RowKit Go.Proofs.Rf
set_option maxRecDepth 100000 in
set_option maxHeartbeats 1000000 in
theorem divideLimbs_long (w : World) (va vb : Value) (X Y : Nat) (ha : Sl w va (Wh.limbs X)) (hb : Sl w vb (Wh.limbs Y)) (k : Nat) (hk : 1 ≤ k) (hl : (Wh.limbs Y).length = k + 1) (hf : (Wh.limbs X).length < 8 ∨ (Wh.limbs X).length ≠ (Wh.limbs Y).length) (hX : (Wh.limbs X).length ≤ 1000) :
    Calls Tryz.prog 190 #[va, vb] w fun e w' => (∃ aq cq ar cr, e = .returned (.tuple #[.slice aq (Wh.limbs (X / Y)).length cq, .slice ar (Wh.limbs (X % Y)).length cr]) ∧ cq ≤ 100000 ∧ cr ≤ 100000 ∧ (∀ p, ar = some p → w.heap.size ≤ p.block) ∧ Sl w' (.slice aq (Wh.limbs (X / Y)).length cq) (Wh.limbs (X / Y)) ∧ Sl w' (.slice ar (Wh.limbs (X % Y)).length cr) (Wh.limbs (X % Y))) ∧ Below w.heap.size w w' := by
  have HC := Lib.hid (compareLimbs_any w va vb X Y ha hb hf)
  have HCP := Lib.hid (fun W (h : Below w.heap.size w W) => copied_any W va (Wh.limbs X) (ha.mono h) (by omega))
  have HDL := Lib.hid (fun W (h : Below w.heap.size w W) (hle : Y ≤ X) => divideLong_any W va vb (Wh.limbs X) (Wh.limbs Y) (ha.mono h) (hb.mono h) (Wh.ok_limbs X) (Wh.ok_limbs Y) k hk hl (Wh.limbs_length_mono hle) (by
    have h1 := Wh.limbs_last Y (by intro e; rw [e] at hl; cases hl)
    have h2 : (Wh.limbs Y).getLastD 0 = (Wh.limbs Y).getD k 0 := by
      rw [List.getLastD_eq_getLast?, List.getLast?_eq_getElem?, hl, List.getD_eq_getElem?_getD]; rfl
    rw [h2] at h1; omega) hX)
  simp only [Wh.val_limbs] at HDL
  obtain ⟨a1, c1, rfl⟩ := ha.len
  obtain ⟨a2, c2, rfl⟩ := hb.len
  have hmin : min (((Wh.limbs Y).length : Nat) : Int) 2 = 2 := by rw [hl]; omega
  clear ha hb hf
  generalize (Wh.limbs Y).length = n2 at *
  have HL := Lib.hid hl; clear hl
  by_cases hlt : X < Y
  · have e1 : Wh.limbs (X / Y) = [] := by rw [Nat.div_eq_of_lt hlt]; exact Wh.limbs_zero
    have e2 : X % Y = X := Nat.mod_eq_of_lt hlt
    rw [e1, e2]
    rw [Wh.cmpN_lt hlt] at HC
    generalize Wh.limbs X = lx at *
    go_enter Tryz.func190, Tryz.ntmps190
    go_wp2_with fail
    refine (kindOf_any w a2 n2 c2).mono ?_
    rintro e w' ⟨rfl, rfl⟩
    rw [hmin]
    go_wp2_with fail
    refine HC.out.mono ?_
    rintro e w' ⟨rfl, m, rfl⟩
    go_wp2_with fail
    refine (HCP.out _ (below_drewN _ _ _)).mono ?_
    rintro e w3 ⟨rfl, how, hb3⟩
    have HS := Lib.hid (how.sl lx.length (Nat.le_refl _))
    have HB := Lib.hid ((below_drewN w.heap.size w m).trans (hb3.mono (below_drewN w.heap.size w m).size))
    clear how hb3
    go_wp2_with fail
    go_ret2
    exact ⟨⟨none, 0, _, _, rfl, by omega, by omega, fun p e => by cases e; exact (below_drewN w.heap.size w m).size, .inl ⟨rfl, rfl⟩, HS.out⟩, HB.out⟩
  · have hge : Wh.cmpN X Y = 0 ∨ Wh.cmpN X Y = 1 := by
      unfold Wh.cmpN
      rw [if_neg hlt]
      split
      · exact .inl rfl
      · exact .inr rfl
    have hd : decide (Wh.cmpN X Y < 0) = false := by rcases hge with h | h <;> rw [h] <;> rfl
    generalize Wh.cmpN X Y = cm at *
    go_enter Tryz.func190, Tryz.ntmps190
    go_wp2_with fail
    refine (kindOf_any w a2 n2 c2).mono ?_
    rintro e w' ⟨rfl, rfl⟩
    rw [hmin]
    go_wp2_with fail
    refine HC.out.mono ?_
    rintro e w' ⟨rfl, m, rfl⟩
    have HB1 := Lib.hid (below_drewN w.heap.size w m)
    have HDL2 := Lib.hid (HDL.out (w.drewN m) HB1.out (by omega))
    go_wp2_with fail
    refine HDL2.out.mono ?_
    rintro e w3 ⟨⟨aq, cq, ar, cr, rfl, h1, h2, h3, h4, h5⟩, hb3⟩
    have HR := Lib.hid (And.intro h1 (And.intro h2 (And.intro h3 (And.intro h4 (And.intro h5 (HB1.out.trans (hb3.mono HB1.out.size)))))))
    clear h1 h2 h3 h4 h5 hb3
    go_wp2_with fail
    go_ret2
    exact ⟨⟨_, _, _, _, rfl, HR.out.1, HR.out.2.1, HR.out.2.2.1, HR.out.2.2.2.1, HR.out.2.2.2.2.1⟩, HR.out.2.2.2.2.2⟩
end Go.Proofs.YteaeloeebfdodaaGreatDoor
