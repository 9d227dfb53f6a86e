/- Part 22 of the proofs that laws of package whole answer true at every input and leave the input as it was, where the library's variables start as the text lays them (the texts W6, W7, W8, G9). -/
import Derived.Test.YteaeloeebfdodaaGreatDoorE21
import Derived.Test.YteaeloeebfdodaaGreatDoorE07
import Derived.Test.YteaeloeebfdodaaGreatDoorE14
set_option linter.unusedVariables false
set_option linter.unusedSimpArgs false
/- WALKS, long division: divideLong. -/
namespace Go.Proofs.YteaeloeebfdodaaGreatDoor
open Go.RowKit Go.Proofs.Rf
theorem scale_facts {lb L3 : List Nat} {k f : Nat} (ob : Wh.Ok lb) (hl : lb.length = k + 2) (htop : 0 < lb.getD (k + 1) 0) (hf : f = Wh.R / (lb.getD (k + 1) 0 + 1)) (o3 : Wh.Ok L3) (hl3 : L3.length = k + 3) (hv : Wh.val L3 = f * Wh.val lb) :
    1 ≤ f ∧ f ≤ Wh.R ∧ Wh.val (L3.take (k + 2)) = f * Wh.val lb ∧ 0 < (L3.take (k + 2)).getD (k + 1) 0 ∧ f * Wh.val lb < Wh.R ^ (k + 2) ∧ Wh.R ^ (k + 1) ≤ Wh.val lb := by
  have ht := Wh.okD ob (k + 1)
  have h1 : 1 ≤ f := by rw [hf, Nat.le_div_iff_mul_le (by omega)]; omega
  have h2 : f ≤ Wh.R := by rw [hf]; exact Nat.div_le_self _ _
  have e1 : Wh.val lb = Wh.sum (lb.getD · 0) (k + 1) + Wh.R ^ (k + 1) * lb.getD (k + 1) 0 := by rw [Wh.val_sum, hl, Wh.sum]
  have hs : Wh.sum (lb.getD · 0) (k + 1) < Wh.R ^ (k + 1) := Wh.sum_lt fun i _ => Wh.okD ob i
  have h3 : f * (lb.getD (k + 1) 0 + 1) ≤ Wh.R := by rw [hf]; exact Nat.div_mul_le_self _ _
  have hlt : Wh.val lb < Wh.R ^ (k + 1) * (lb.getD (k + 1) 0 + 1) := by rw [e1, Nat.mul_add, Nat.mul_one]; omega
  have hge : Wh.R ^ (k + 1) ≤ Wh.val lb := by
    have : Wh.R ^ (k + 1) * 1 ≤ Wh.R ^ (k + 1) * lb.getD (k + 1) 0 := Nat.mul_le_mul_left _ htop
    omega
  have hfl : f * Wh.val lb < Wh.R ^ (k + 2) := by
    have h4 : f * Wh.val lb < f * (Wh.R ^ (k + 1) * (lb.getD (k + 1) 0 + 1)) := Nat.mul_lt_mul_of_pos_left hlt h1
    have h5 : f * (Wh.R ^ (k + 1) * (lb.getD (k + 1) 0 + 1)) = Wh.R ^ (k + 1) * (f * (lb.getD (k + 1) 0 + 1)) := Nat.mul_left_comm ..
    have h6 : Wh.R ^ (k + 1) * (f * (lb.getD (k + 1) 0 + 1)) ≤ Wh.R ^ (k + 1) * Wh.R := Nat.mul_le_mul_left _ h3
    rw [Nat.pow_succ Wh.R (k + 1)]
    omega
  have e3 : Wh.val L3 = Wh.val (L3.take (k + 2)) + Wh.R ^ (k + 2) * L3.getD (k + 2) 0 := by
    rw [Wh.val_take, Wh.val_sum, hl3, Wh.sum]
  have hz : L3.getD (k + 2) 0 = 0 := by
    rcases Nat.eq_zero_or_pos (L3.getD (k + 2) 0) with h | h
    · exact h
    · have : Wh.R ^ (k + 2) * 1 ≤ Wh.R ^ (k + 2) * L3.getD (k + 2) 0 := Nat.mul_le_mul_left _ h
      omega
  have hv3 : Wh.val (L3.take (k + 2)) = f * Wh.val lb := by rw [hz] at e3; omega
  refine ⟨h1, h2, hv3, ?_, hfl, hge⟩
  have e4 : (L3.take (k + 2)).getD (k + 1) 0 = L3.getD (k + 1) 0 := by simp [List.getD]
  rw [e4]
  rw [Wh.val_take, Wh.sum] at hv3
  have hs3 : Wh.sum (L3.getD · 0) (k + 1) < Wh.R ^ (k + 1) := Wh.sum_lt fun i _ => Wh.okD o3 i
  rcases Nat.eq_zero_or_pos (L3.getD (k + 1) 0) with h | h
  · rw [h] at hv3
    have : Wh.R ^ (k + 1) * 1 ≤ f * Wh.val lb := by rw [Nat.mul_comm]; exact Nat.mul_le_mul h1 hge
    omega
  · exact h
theorem scale_at {lb L3 : List Nat} {j f : Nat} (hj : 1 ≤ j) (ob : Wh.Ok lb) (hl : lb.length = j + 1) (htop : 0 < lb.getD j 0) (hf : f = Wh.R / (lb.getD j 0 + 1)) (o3 : Wh.Ok L3) (hl3 : L3.length = j + 2) (hv : Wh.val L3 = f * Wh.val lb) :
    1 ≤ f ∧ f ≤ Wh.R ∧ Wh.val (L3.take (j + 1)) = f * Wh.val lb ∧ 0 < (L3.take (j + 1)).getD j 0 ∧ f * Wh.val lb < Wh.R ^ (j + 1) ∧ Wh.R ^ j ≤ Wh.val lb := by
  obtain ⟨k, rfl⟩ : ∃ k, j = k + 1 := ⟨j - 1, by omega⟩
  exact scale_facts ob hl htop hf o3 hl3 hv
theorem start_lt {la A0 : List Nat} {n m f B : Nat} (oa : Wh.Ok la) (hl : la.length = n) (hA : A0.length = n + 1) (hv : Wh.val A0 = f * Wh.val la) (hf : 1 ≤ f) (hm : 1 ≤ m) (hmn : m ≤ n) (hB : Wh.R ^ (m - 1) ≤ B) :
    Wh.win A0 (A0.length - m) m < f * B := by
  have e := Wh.win_drop A0 (A0.length - m)
  rw [show A0.length - (A0.length - m) = m by omega] at e
  rw [e]
  have h1 := Wh.val_take_drop A0 (A0.length - m) (by omega)
  have h2 := Wh.val_lt oa
  rw [hl] at h2
  have h3 : Wh.R ^ n = Wh.R ^ (A0.length - m) * Wh.R ^ (m - 1) := by rw [← Nat.pow_add]; congr 1; omega
  have h4 : Wh.R ^ (A0.length - m) * Wh.val (A0.drop (A0.length - m)) < Wh.R ^ (A0.length - m) * (f * Wh.R ^ (m - 1)) := by
    have h5 : f * Wh.val la < f * Wh.R ^ n := Nat.mul_lt_mul_of_pos_left h2 hf
    rw [h3, Nat.mul_left_comm] at h5
    omega
  have h6 := Nat.lt_of_mul_lt_mul_left h4
  have h7 : f * Wh.R ^ (m - 1) ≤ f * B := Nat.mul_le_mul_left _ hB
  omega
theorem Own.apart {w w' : World} {b b' : Nat} {l : List Nat} (h : Own w b l) (ho : Only b' w w') (hne : b ≠ b') : Own w' b l :=
  ⟨Nat.lt_of_lt_of_le h.lt ho.size, fun i hi => (ho.cell (p := ⟨b, i, none⟩) hne h.lt).trans (h.cell i hi), fun i hi => (ho.frozen (p := ⟨b, i, none⟩) hne h.lt).trans (h.free i hi)⟩
theorem Own.take_sl {w : World} {b : Nat} {l : List Nat} (h : Own w b l) (k c : Nat) (hk : k ≤ l.length) (hc : k ≤ c) : Sl w (.slice (some ⟨b, 0, none⟩) k c) (l.take k) := by
  have e : (l.take k).length = k := by rw [List.length_take, Nat.min_eq_left hk]
  refine .inr ⟨b, 0, c, by rw [e], by omega, h.lt, fun i hi => ?_⟩
  rw [e] at hi
  rw [Nat.zero_add, h.cell i (by omega)]
  simp [List.getD, hi]
/-- the state of the division -/
structure DLI (w wr : World) (g1 g2 : Nat) (vd : Value) (d A0 : List Nat) (p : Nat) (L Q : List Nat) : Prop where
  dv : Wh.DV A0 d.length (Wh.val d) p L Q
  o1 : Own wr g1 L
  o2 : Own wr g2 Q
  sd : Sl wr vd d
  below : Below w.heap.size w wr
/-- within a round -/
structure DLR (w wr : World) (g1 g2 : Nat) (vd : Value) (d : List Nat) (p P : Nat) (L L' Q : List Nat) (g : Nat) : Prop where
  ge : P / Wh.val d ≤ g
  lt : g < 1000000000
  te : Wh.TE L p d.length L'
  win : Wh.win L' p (d.length + 1) = P
  o1 : Own wr g1 L'
  o2 : Own wr g2 Q
  sd : Sl wr vd d
  below : Below w.heap.size w wr
theorem set_zero {Q : List Nat} {q : Nat} (h : Q.getD q 0 = 0) : Q.set q 0 = Q := by
  apply List.ext_getElem
  · simp
  · intro i h1 h2
    rw [List.getElem_set]
    split
    · next e => subst e; simpa [List.getD, h2] using h.symm
    · rfl
theorem DLR.zero {w wr : World} {g1 g2 : Nat} {vd : Value} {d A0 L L' Q : List Nat} {q : Nat} (h : DLR w wr g1 g2 vd d q (Wh.win L q (d.length + 1)) L L' Q 0) (hv : Wh.DV A0 d.length (Wh.val d) (q + 1) L Q) (hq : q + d.length < A0.length) (hD : Wh.val d ≤ Wh.R ^ d.length) : DLI w wr g1 g2 vd d A0 q L' Q := by
  have hpos : 0 < Wh.val d := by have := hv.lt; omega
  have h0 : Wh.win L q (d.length + 1) / Wh.val d = 0 := Nat.le_zero.1 h.ge
  have hlt : Wh.win L q (d.length + 1) < Wh.val d := by
    rcases Nat.lt_or_ge (Wh.win L q (d.length + 1)) (Wh.val d) with h1 | h1
    · exact h1
    · have := Nat.div_pos h1 hpos; omega
  have := hv.next hq hD h.te (by rw [h.win, Nat.mod_eq_of_lt hlt])
  rw [h0, set_zero (hv.qlow q (by omega))] at this
  exact ⟨this, h.o1, h.o2, h.sd, h.below⟩
theorem DLR.hit {w wr w2 : World} {g1 g2 : Nat} {vd : Value} {d A0 L L' L2 Q : List Nat} {q g : Nat} (h : DLR w wr g1 g2 vd d q (Wh.win L q (d.length + 1)) L L' Q g) (hv : Wh.DV A0 d.length (Wh.val d) (q + 1) L Q) (hq : q + d.length < A0.length) (hD : Wh.val d ≤ Wh.R ^ d.length)
    (ho : Only g1 wr w2) (hne : g2 ≠ g1) (ha : Apart g1 vd) (hg1 : w.heap.size ≤ g1) (hg2 : w.heap.size ≤ g2) (hav : Apart g2 vd) (o1 : Own w2 g1 L2) (hte : Wh.TE L' q d.length L2) (he0 : Wh.TkEq L' L2 q d.length g (Wh.val d) 0) :
    q < Q.length ∧ w2.cell? ⟨g2, q, none⟩ = some (.int .u32 (Q.getD q 0 : Nat)) ∧ w2.frozen? ⟨g2, q, none⟩ = false ∧ DLI w (w2.setCell ⟨g2, q, none⟩ (.int .u32 g)) g1 g2 vd d A0 q L2 (Q.set q g) := by
  have hpos : 0 < Wh.val d := by have := hv.lt; omega
  have he := he0.zero
  rw [h.win] at he
  obtain ⟨e1, e2⟩ := Wh.take_right he h.ge hpos
  have hql : q < Q.length := by have := hv.qlen; omega
  have o2 := h.o2.apart ho hne
  have hn := hv.next hq hD (h.te.trans hte) e2
  rw [← e1] at hn
  have hb2 : Below w.heap.size w w2 := h.below.trans (ho.below hg1 h.below.size)
  have hon2 : Only g2 w2 (w2.setCell ⟨g2, q, none⟩ (.int .u32 g)) := (Only.refl _ _).setCell q _
  exact ⟨hql, o2.cell q hql, o2.free q hql, hn, o1.apart hon2 (Ne.symm hne), o2.set hql g, (h.sd.only ho ha).only hon2 hav, hb2.trans (hon2.below hg2 hb2.size)⟩
theorem DLR.miss {w wr w2 w3 : World} {g1 g2 : Nat} {vd : Value} {d L L' L2 L3 Q : List Nat} {q g b c P : Nat} (h : DLR w wr g1 g2 vd d q P L L' Q g) (hb : b ≤ 1) (hb0 : b ≠ 0) (hc : c ≤ 1)
    (ho : Only g1 wr w2) (ho3 : Only g1 w2 w3) (hne : g2 ≠ g1) (ha : Apart g1 vd) (hg1 : w.heap.size ≤ g1) (o1 : Own w3 g1 L3) (hte : Wh.TE L' q d.length L2) (hte3 : Wh.TE L2 q d.length L3)
    (he0 : Wh.TkEq L' L2 q d.length g (Wh.val d) b) (he30 : Wh.GvEq L2 L3 q d.length g (Wh.val d) c) :
    0 < g ∧ DLR w w3 g1 g2 vd d q P L L3 Q (g - 1) := by
  have he := he0.eq
  have he3 := he30.eq
  rw [h.win] at he
  obtain ⟨e1, e2, e3⟩ := Wh.give_back hb hc hb0 he he3 (Wh.win_lt hte3.ok q _) (Wh.win_lt hte.ok q _)
  have ho' := ho.trans ho3
  exact ⟨e3, e2, by have := h.lt; omega, (h.te.trans hte).trans hte3, e1, o1, h.o2.apart ho' hne, h.sd.only ho' ha, h.below.trans (ho'.below hg1 h.below.size)⟩
theorem guess_at (w : World) (rb p pc : Nat) (lr : List Nat) (hr : Own w rb lr) (hok : Wh.Ok lr) (vd : Value) (d : List Nat) (hd : Sl w vd d) (hod : Wh.Ok d) (k : Nat) (hk : 1 ≤ k) (hdl : d.length = k + 1) (hp : p + (k + 1) < lr.length) (hpc : k + 2 ≤ pc) (hm : lr.length ≤ 100000)
    (hP : Wh.win lr p (k + 2) < Wh.R * Wh.val d) (hf : 0 < d.getD k 0) :
    Calls Tryz.prog 302 #[.slice (some ⟨rb, p, none⟩) (k + 2 : Nat) pc, vd] w fun e w' => (∃ g : Nat, e = .returned (.int .u32 g) ∧ Wh.win lr p (k + 2) / Wh.val d ≤ g ∧ g < 1000000000) ∧ ∃ n, w' = w.drewN n := by
  obtain ⟨m, rfl⟩ : ∃ m, k = m + 1 := ⟨k - 1, by omega⟩
  exact guess_any w rb p pc lr hr hok vd d hd hod m hdl hp hpc hm hP hf
set_option maxRecDepth 100000 in
set_option maxHeartbeats 4000000 in
theorem divideLong_any (w : World) (va vb : Value) (la lb : List Nat) (ha : Sl w va la) (hb : Sl w vb lb) (oa : Wh.Ok la) (ob : Wh.Ok lb) (k : Nat) (hk1 : 1 ≤ k) (hlb : lb.length = k + 1) (hle : lb.length ≤ la.length) (htop : 0 < lb.getD k 0) (hm : la.length ≤ 1000) :
    Calls Tryz.prog 262 #[va, vb] w fun e w' => (∃ aq cq ar cr, e = .returned (.tuple #[.slice aq (Wh.limbs (Wh.val la / Wh.val lb)).length cq, .slice ar (Wh.limbs (Wh.val la % Wh.val lb)).length cr]) ∧ cq ≤ 100000 ∧ cr ≤ 100000 ∧ (∀ p, ar = some p → w.heap.size ≤ p.block) ∧ Sl w' (.slice aq (Wh.limbs (Wh.val la / Wh.val lb)).length cq) (Wh.limbs (Wh.val la / Wh.val lb)) ∧ Sl w' (.slice ar (Wh.limbs (Wh.val la % Wh.val lb)).length cr) (Wh.limbs (Wh.val la % Wh.val lb))) ∧ Below w.heap.size w w' := by
  obtain ⟨a1, c1, rfl, -⟩ := ha.addr
  obtain ⟨a2, c2, rfl, hc2⟩ := hb.addr
  obtain ⟨b2, off2, rfl, hbl2, hcell2⟩ := hc2 0 (by omega)
  have hx := hcell2 k (by omega)
  have htl : lb.getD k 0 < 1000000000 := Wh.okD ob _
  obtain ⟨f, hf⟩ : ∃ f, f = Wh.R / (lb.getD k 0 + 1) := ⟨_, rfl⟩
  have hff : f ≤ 1000000000 := by rw [hf]; exact Nat.div_le_self _ _
  have htd : (1000000000 : Int).tdiv ((lb.getD k 0 : Int) + 1) = (f : Int) := by rw [Int.tdiv_eq_ediv_of_nonneg (by omega), hf]; simp [Wh.R]
  have hne : (((lb.getD k 0 : Nat) : Int) + 1 == 0) = false := by rw [beq_eq_false_iff_ne]; omega
  have HSF := Lib.hid (fun L3 o3 hl3 hv => scale_at (L3 := L3) hk1 ob hlb htop hf o3 hl3 hv)
  have HS1 := Lib.hid (fun W (hB : Below w.heap.size w W) => scaled_any W _ la (ha.mono hB) oa f hff (by omega))
  have HS2 := Lib.hid (fun W (hB : Below w.heap.size w W) => scaled_any W _ lb (hb.mono hB) ob f hff (by omega))
  have HST := Lib.hid (fun A0 B h1 h2 h3 h4 => start_lt (la := la) (A0 := A0) (n := la.length) (m := k + 1) (f := f) (B := B) oa rfl h1 h2 h3 (by omega) (by omega) h4)
  clear hc2 hcell2 ha hb htop
  generalize lb.getD k 0 = top at *
  have HLB := Lib.hid hlb
  rw [hlb] at HS2 hle ⊢
  generalize hn : la.length = n at *
  have HN := Lib.hid hn; clear hn
  have HOO := Lib.hid (And.intro oa ob); clear oa ob
  clear hlb
  generalize hX : Wh.val la = X at *
  generalize hY : Wh.val lb = Y at *
  have HF := Lib.hid hf; clear hf
  go_enter Tryz.func262, Tryz.ntmps262
  go_wp2_with fail
  refine wp_scope_straight ?_
  go_wp2_with fail
  refine (HS1.out _ (Below.refl _ _)).mono ?_
  rintro e w1 ⟨⟨A0, g1, rfl, hg1, ho1, hok1, hl1, hv1⟩, hB1⟩
  have HB1 := Lib.hid hB1
  go_wp2_with fail
  refine (HS2.out _ HB1.out).mono ?_
  rintro e w2 ⟨⟨L3, g3, rfl, hg3, ho3, hok3, hl3, hv3⟩, hB2⟩
  obtain ⟨hf1, hf2, hv4, hfirst, hDl, hRY⟩ := HSF.out L3 hok3 hl3 hv3
  have hst := HST.out A0 Y hl1 hv1 hf1 (by rw [Nat.add_sub_cancel]; exact hRY)
  obtain ⟨d, hd⟩ : ∃ d, d = L3.take (k + 1) := ⟨_, rfl⟩
  have hdl : d.length = k + 1 := by rw [hd, List.length_take, hl3]; omega
  have hokd : Wh.Ok d := by rw [hd]; exact fun x hx => hok3 x (List.mem_of_mem_take hx)
  rw [← hd] at hv4 hfirst
  have hB2' : Below w.heap.size w w2 := HB1.out.trans (hB2.mono HB1.out.size)
  have hsd : Sl w2 (.slice (some ⟨g3, 0, none⟩) (k + 1 : Nat) (k + 1 : Nat)) d := by rw [hd]; exact ho3.take_sl (k + 1) (k + 1) (by omega) (Nat.le_refl _)
  have hmk := run_make_limbs (n - k) (by omega) w2 ((n : Int) - ((k : Int) + 1) + 1) (by omega)
  have hB3 : Below w2.heap.size w2 (w2.alloc (.cells (zeros (n - k)) 181)) := (Below.refl _ _).alloc (Nat.le_refl _) _
  have hg1s : g1 < w2.heap.size := Nat.lt_of_lt_of_le ho1.lt hB2.size
  have hdv : Wh.DV A0 d.length (Wh.val d) (n - k) A0 (List.replicate (n - k) 0) := by
    have := Wh.DV.start (m := k + 1) (D := f * Y) hok1 (by omega) hst
    rw [hdl, hv4]
    rwa [show A0.length - (k + 1) = n - k by omega] at this
  have HI0 : Hid (DLI w (w2.alloc (.cells (zeros (n - k)) 181)) g1 w2.heap.size (.slice (some ⟨g3, 0, none⟩) (k + 1 : Nat) (k + 1 : Nat)) d A0 (n - k) A0 (List.replicate (n - k) 0)) :=
    Lib.hid ⟨hdv, (ho1.mono hB2 ho1.lt).mono hB3 hg1s, own_make w2 (n - k), hsd.mono hB3, hB2'.trans (hB3.mono hB2'.size)⟩
  have HG : Hid (g1 < w2.heap.size ∧ g3 < w2.heap.size ∧ g3 ≠ g1 ∧ w.heap.size ≤ g1 ∧ w2.heap.size ≠ g1) := Lib.hid ⟨hg1s, ho3.lt, by have := ho1.lt; omega, hg1, by omega⟩
  have HD := Lib.hid (And.intro hdl (And.intro hokd (And.intro hfirst (And.intro hv4 hDl))))
  have HA := Lib.hid (And.intro hl1 (And.intro hv1 (And.intro hf1 hff)))
  generalize hz : w2.heap.size = g2 at *
  generalize w2.alloc (.cells (zeros (n - k)) 181) = V0 at *
  clear hf1 hf2 hv4 hfirst hDl hRY hst hd hdl hokd hB2' hsd hB3 hg1s hdv ho1 ho3 hB1 hB2 hok1 hok3 hl1 hl3 hv1 hv3 hg1 hg3 hz HS1 HS2 HSF HST HB1 hx htd hne
  have hkn : k + 1 ≤ n := hle
  go_wp2_with fail
  refine wp_label ?_
  go_wp2_with fail
  go_loopw [8] (fun av wr => ∃ (p : Nat) (L Q : List Nat), p ≤ n - k ∧ av = .int .i64 ((p : Int) - 1) ∧ Hid (DLI w wr g1 g2 (.slice (some ⟨g3, 0, none⟩) (k + 1 : Nat) (k + 1 : Nat)) d A0 p L Q)) (fun av _ => (intOf av + 1).toNat)
  case atStart => exact ⟨n - k, _, _, Nat.le_refl _, by congr 1; omega, HI0⟩
  case round =>
    clear HI0
    obtain ⟨p, L, Q, hp, rfl, HI⟩ := hrel
    by_cases h0 : p = 0
    · subst h0
      have hdv := HI.out.dv
      rw [HD.out.1] at hdv
      obtain ⟨hq, hr⟩ := hdv.fin
      have hL : L.length = n + 1 := by rw [hdv.len]; exact HA.out.1
      have hQl : Q.length = n - k := by have := hdv.qlen; rw [HA.out.1] at this; omega
      rw [HD.out.2.2.2.1, HA.out.2.1] at hq hr
      rw [Nat.mul_div_mul_left _ _ HA.out.2.2.1] at hq
      rw [Nat.mul_mod_mul_left] at hr
      have HDS := Lib.hid (divideShort_in wr g1 (n + 1) L f hdv.ok HI.out.o1 (by omega) (by omega) ⟨by have := HA.out.2.2.1; omega, hff⟩)
      rw [hL] at HDS
      have HQQ := Lib.hid (And.intro hq (And.intro hr (And.intro hL (And.intro hQl (And.intro hdv.ok hdv.qok)))))
      clear hdv hq hr hL hQl
      go_wp2_with fail
      refine HDS.out.mono ?_
      rintro e w5 ⟨rfl, hon, how⟩
      have hne : g2 ≠ g1 := HG.out.2.2.2.2
      have hQs : Sl w5 (.slice (some ⟨g2, 0, none⟩) (n - k : Nat) (n - k : Nat)) Q := by
        have := (HI.out.o2.apart hon hne).sl (n - k) (by rw [HQQ.out.2.2.2.1]; exact Nat.le_refl _)
        rwa [HQQ.out.2.2.2.1] at this
      have hRs : Sl w5 (.slice (some ⟨g1, 0, none⟩) (n + 1 : Nat) (n + 1 : Nat)) (Wh.quo L f) := by
        have := how.sl (n + 1) (by rw [Wh.quo_length, HQQ.out.2.2.1]; exact Nat.le_refl _)
        rwa [Wh.quo_length, HQQ.out.2.2.1] at this
      have HB5 := Lib.hid (HI.out.below.trans (hon.below HG.out.2.2.2.1 HI.out.below.size))
      have e1 : Wh.trimL Q = Wh.limbs (X / Y) := by rw [Wh.trimL, HQQ.out.1]
      have e2 : Wh.trimL (Wh.quo L f) = Wh.limbs (X % Y) := by
        rw [Wh.trimL, Wh.val_quo _ _ (by have := HA.out.2.2.1; omega), HQQ.out.2.1, Nat.mul_div_cancel_left _ (by have := HA.out.2.2.1; omega)]
      have HT1 := Lib.hid (trim_same w5 _ _ _ Q HQQ.out.2.2.2.2.2 hQs (by omega))
      have HT2 := Lib.hid (trim_same w5 _ _ _ (Wh.quo L f) (Wh.quo_ok L f (by have := HA.out.2.2.1; omega) HQQ.out.2.2.2.2.1) hRs (by omega))
      rw [e1] at HT1
      rw [e2] at HT2
      clear hne hQs hRs e1 e2 hon how HI HDS
      go_wp2_with fail
      refine HT1.out.mono ?_
      rintro e w6 ⟨rfl, hs6, rfl⟩
      have HS6 := Lib.hid hs6; clear hs6
      go_wp2_with fail
      refine HT2.out.mono ?_
      rintro e w7 ⟨rfl, hs7, rfl⟩
      have HS7 := Lib.hid hs7; clear hs7
      go_wp2_with fail
      dsimp only [Exit.noGoto]
      go_ret2
      exact ⟨⟨_, _, _, _, rfl, by omega, by omega, fun p e => by cases e; exact HG.out.2.2.2.1, HS6.out, HS7.out⟩, HB5.out⟩
    · obtain ⟨q, rfl⟩ : ∃ q, p = q + 1 := ⟨p - 1, by omega⟩
      rw [show (((q + 1 : Nat) : Int) - 1) = (q : Int) from by omega]
      have hdv := HI.out.dv
      obtain ⟨hP1, -⟩ := hdv.part
      have hL : L.length = n + 1 := by rw [hdv.len]; exact HA.out.1
      have HGU := Lib.hid (guess_at wr g1 q (k + 2) L HI.out.o1 hdv.ok (.slice (some ⟨g3, 0, none⟩) (k + 1 : Nat) (k + 1 : Nat)) d HI.out.sd HD.out.2.1 k hk1 HD.out.1 (by omega) (Nat.le_refl _) (by omega) (by rw [HD.out.1] at hP1; exact hP1) HD.out.2.2.1)
      have HV := Lib.hid (And.intro hdv (And.intro hL HI.out))
      clear hdv hP1 hL HI
      have hqn : q + k + 2 ≤ n + 1 := by omega
      have hqk : q + (k + 1) + 1 - q = k + 2 := by omega
      go_wp2_with fail
      rw [hqk]
      refine HGU.out.mono ?_
      rintro e w5 ⟨⟨g, rfl, hg1, hg2⟩, m5, rfl⟩
      have hDX : Wh.val d ≤ Wh.R ^ d.length := by rw [HD.out.2.2.2.1, HD.out.1]; exact Nat.le_of_lt HD.out.2.2.2.2
      have hqa : q + d.length < A0.length := by rw [HD.out.1, HA.out.1]; omega
      have HR0 : Hid (DLR w (wr.drewN m5) g1 g2 (.slice (some ⟨g3, 0, none⟩) (k + 1 : Nat) (k + 1 : Nat)) d q (Wh.win L q (d.length + 1)) L L Q g) :=
        Lib.hid ⟨by rw [HD.out.1]; exact hg1, hg2, ⟨rfl, HV.out.1.ok, fun _ _ => rfl⟩, rfl, HV.out.2.2.o1.mono (below_drewN _ _ _) HV.out.2.2.o1.lt, HV.out.2.2.o2.mono (below_drewN _ _ _) HV.out.2.2.o2.lt, HV.out.2.2.sd.mono (below_drewN _ _ _), HV.out.2.2.below.trans (below_drewN _ _ _)⟩
      have HQ := Lib.hid (And.intro hDX hqa); clear hDX hqa HGU hg1
      go_wp2_with fail
      go_loopw [10] (fun dv wi => ∃ (g : Nat) (L' : List Nat), g < 1000000000 ∧ dv = .int .u32 g ∧ Hid (DLR w wi g1 g2 (.slice (some ⟨g3, 0, none⟩) (k + 1 : Nat) (k + 1 : Nat)) d q (Wh.win L q (d.length + 1)) L L' Q g)) (fun dv _ => (intOf dv).toNat)
      case atStart => exact ⟨g, L, hg2, rfl, HR0⟩
      case round =>
        clear HR0 hg2
        obtain ⟨g', L', hgl, rfl, HJ⟩ := hrel
        by_cases h0 : g' = 0
        · subst h0
          have HZ := Lib.hid (HJ.out.zero HV.out.1 HQ.out.2 HQ.out.1)
          go_wp2_with fail
          exact ⟨⟨q, L', Q, by omega, rfl, HZ⟩, by simp [intOf]⟩
        · have hpos : decide ((0 : Int) < (g' : Int)) = true := by rw [decide_eq_true_iff]; omega
          have hap1 : Apart g1 (.slice (some ⟨g3, 0, none⟩) (k + 1 : Nat) (k + 1 : Nat)) := by intro p n c h; cases h; exact HG.out.2.2.1
          have hap2 : Apart g2 (.slice (some ⟨g3, 0, none⟩) (k + 1 : Nat) (k + 1 : Nat)) := by intro p n c h; cases h; have := HG.out.2.1; show g3 ≠ g2; omega
          have hL' : L'.length = n + 1 := by rw [HJ.out.te.len]; exact HV.out.2.1
          have HTT := Lib.hid (takeTimes_any wr g1 q (k + 2) L' HJ.out.o1 HJ.out.te.ok (.slice (some ⟨g3, 0, none⟩) (k + 1 : Nat) (k + 1 : Nat)) d HJ.out.sd hap1 HD.out.2.1 g' hgl (by rw [HD.out.1, hL']; omega) (by rw [HD.out.1]; omega) (by omega))
          rw [HD.out.1] at HTT
          have HAP := Lib.hid (And.intro hap1 (And.intro hap2 hL')); clear hap1 hap2 hL'
          go_wp2_with fail
          refine HTT.out.mono ?_
          rintro e w6 ⟨⟨L2, b, rfl, hb1, ho6, hte6, he6⟩, hon6⟩
          have hg2w : w.heap.size ≤ g2 := by have := HV.out.2.2.below.size; have := HG.out.1; have := HG.out.2.2.2.1; omega
          by_cases hb : b = 0
          · subst hb
            have hH := HJ.out.hit (A0 := A0) (L2 := L2) HV.out.1 HQ.out.2 HQ.out.1 hon6 HG.out.2.2.2.2 HAP.out.1 HG.out.2.2.2.1 hg2w HAP.out.2.1 ho6 (by rw [HD.out.1]; exact hte6) (by rw [HD.out.1]; exact he6)
            obtain ⟨hql, hc6, hf6, hH⟩ := hH
            have HH := Lib.hid hH
            generalize Q.getD q 0 = old at *
            clear hH he6 hte6 ho6 hon6 HTT HJ
            have hqk2 : q < n - k := by omega
            go_wp2_with fail
            exact ⟨⟨q, L2, Q.set q g', by omega, rfl, HH⟩, by simp [intOf]⟩
          · have hbf : (b == 0) = false := by rw [beq_eq_false_iff_ne]; exact hb
            have hL2 : L2.length = n + 1 := by rw [hte6.len]; exact HAP.out.2.2
            have HGT := Lib.hid (giveTimes_any w6 g1 q (k + 2) L2 ho6 hte6.ok (.slice (some ⟨g3, 0, none⟩) (k + 1 : Nat) (k + 1 : Nat)) d (HJ.out.sd.only hon6 HAP.out.1) HAP.out.1 HD.out.2.1 g' hgl (by rw [HD.out.1, hL2]; omega) (by rw [HD.out.1]; omega) (by omega))
            rw [HD.out.1] at HGT
            rw [hbf]
            have HM := Lib.hid (And.intro he6 (And.intro hte6 hon6))
            clear he6 hte6 hon6 ho6 HTT hL2
            go_wp2_with fail
            refine HGT.out.mono ?_
            rintro e w7 ⟨⟨L3', c, rfl, hc1, ho7, hte7, he7⟩, hon7⟩
            have hmi := HJ.out.miss hb1 hb hc1 HM.out.2.2 hon7 HG.out.2.2.2.2 HAP.out.1 HG.out.2.2.2.1 ho7 (by rw [HD.out.1]; exact HM.out.2.1) (by rw [HD.out.1]; exact hte7) (by rw [HD.out.1]; exact HM.out.1) (by rw [HD.out.1]; exact he7)
            obtain ⟨hg0, hmi⟩ := hmi
            have HMI := Lib.hid hmi
            clear hmi he7 hte7 ho7 hon7 HM HGT HJ
            go_wp2_with fail
            go_roundw
            case rel => exact ⟨g' - 1, L3', by omega, by rw [show ((g' - 1 : Nat) : Int) = (g' : Int) - 1 from by omega], HMI⟩
            case measure => simp [intOf]; omega
end Go.Proofs.YteaeloeebfdodaaGreatDoor

/- WALKS, division by any number: divideLimbs, Quo. -/
namespace Go.Proofs.YteaeloeebfdodaaGreatDoor
open Go.RowKit Go.Proofs.Rf
set_option maxRecDepth 100000 in
set_option maxHeartbeats 1000000 in
theorem divideLimbs_long (w : World) (va vb : Value) (X Y : Nat) (ha : Sl w va (Wh.limbs X)) (hb : Sl w vb (Wh.limbs Y)) (k : Nat) (hk : 1 ≤ k) (hl : (Wh.limbs Y).length = k + 1) (hf : (Wh.limbs X).length < 8 ∨ (Wh.limbs X).length ≠ (Wh.limbs Y).length) (hX : (Wh.limbs X).length ≤ 1000) :
    Calls Tryz.prog 190 #[va, vb] w fun e w' => (∃ aq cq ar cr, e = .returned (.tuple #[.slice aq (Wh.limbs (X / Y)).length cq, .slice ar (Wh.limbs (X % Y)).length cr]) ∧ cq ≤ 100000 ∧ cr ≤ 100000 ∧ (∀ p, ar = some p → w.heap.size ≤ p.block) ∧ Sl w' (.slice aq (Wh.limbs (X / Y)).length cq) (Wh.limbs (X / Y)) ∧ Sl w' (.slice ar (Wh.limbs (X % Y)).length cr) (Wh.limbs (X % Y))) ∧ Below w.heap.size w w' := by
  have HC := Lib.hid (compareLimbs_any w va vb X Y ha hb hf)
  have HCP := Lib.hid (fun W (h : Below w.heap.size w W) => copied_any W va (Wh.limbs X) (ha.mono h) (by omega))
  have HDL := Lib.hid (fun W (h : Below w.heap.size w W) (hle : Y ≤ X) => divideLong_any W va vb (Wh.limbs X) (Wh.limbs Y) (ha.mono h) (hb.mono h) (Wh.ok_limbs X) (Wh.ok_limbs Y) k hk hl (Wh.limbs_length_mono hle) (by
    have h1 := Wh.limbs_last Y (by intro e; rw [e] at hl; cases hl)
    have h2 : (Wh.limbs Y).getLastD 0 = (Wh.limbs Y).getD k 0 := by
      rw [List.getLastD_eq_getLast?, List.getLast?_eq_getElem?, hl, List.getD_eq_getElem?_getD]; rfl
    rw [h2] at h1; omega) hX)
  simp only [Wh.val_limbs] at HDL
  obtain ⟨a1, c1, rfl⟩ := ha.len
  obtain ⟨a2, c2, rfl⟩ := hb.len
  have hmin : min (((Wh.limbs Y).length : Nat) : Int) 2 = 2 := by rw [hl]; omega
  clear ha hb hf
  generalize (Wh.limbs Y).length = n2 at *
  have HL := Lib.hid hl; clear hl
  by_cases hlt : X < Y
  · have e1 : Wh.limbs (X / Y) = [] := by rw [Nat.div_eq_of_lt hlt]; exact Wh.limbs_zero
    have e2 : X % Y = X := Nat.mod_eq_of_lt hlt
    rw [e1, e2]
    rw [Wh.cmpN_lt hlt] at HC
    generalize Wh.limbs X = lx at *
    go_enter Tryz.func190, Tryz.ntmps190
    go_wp2_with fail
    refine (kindOf_any w a2 n2 c2).mono ?_
    rintro e w' ⟨rfl, rfl⟩
    rw [hmin]
    go_wp2_with fail
    refine HC.out.mono ?_
    rintro e w' ⟨rfl, m, rfl⟩
    go_wp2_with fail
    refine (HCP.out _ (below_drewN _ _ _)).mono ?_
    rintro e w3 ⟨rfl, how, hb3⟩
    have HS := Lib.hid (how.sl lx.length (Nat.le_refl _))
    have HB := Lib.hid ((below_drewN w.heap.size w m).trans (hb3.mono (below_drewN w.heap.size w m).size))
    clear how hb3
    go_wp2_with fail
    go_ret2
    exact ⟨⟨none, 0, _, _, rfl, by omega, by omega, fun p e => by cases e; exact (below_drewN w.heap.size w m).size, .inl ⟨rfl, rfl⟩, HS.out⟩, HB.out⟩
  · have hge : Wh.cmpN X Y = 0 ∨ Wh.cmpN X Y = 1 := by
      unfold Wh.cmpN
      rw [if_neg hlt]
      split
      · exact .inl rfl
      · exact .inr rfl
    have hd : decide (Wh.cmpN X Y < 0) = false := by rcases hge with h | h <;> rw [h] <;> rfl
    generalize Wh.cmpN X Y = cm at *
    go_enter Tryz.func190, Tryz.ntmps190
    go_wp2_with fail
    refine (kindOf_any w a2 n2 c2).mono ?_
    rintro e w' ⟨rfl, rfl⟩
    rw [hmin]
    go_wp2_with fail
    refine HC.out.mono ?_
    rintro e w' ⟨rfl, m, rfl⟩
    have HB1 := Lib.hid (below_drewN w.heap.size w m)
    have HDL2 := Lib.hid (HDL.out (w.drewN m) HB1.out (by omega))
    go_wp2_with fail
    refine HDL2.out.mono ?_
    rintro e w3 ⟨⟨aq, cq, ar, cr, rfl, h1, h2, h3, h4, h5⟩, hb3⟩
    have HR := Lib.hid (And.intro h1 (And.intro h2 (And.intro h3 (And.intro h4 (And.intro h5 (HB1.out.trans (hb3.mono HB1.out.size)))))))
    clear h1 h2 h3 h4 h5 hb3
    go_wp2_with fail
    go_ret2
    exact ⟨⟨_, _, _, _, rfl, HR.out.1, HR.out.2.1, HR.out.2.2.1, HR.out.2.2.2.1, HR.out.2.2.2.2.1⟩, HR.out.2.2.2.2.2⟩
end Go.Proofs.YteaeloeebfdodaaGreatDoor

/- WALKS, division by any number: divideLimbs, Quo, whole. -/
namespace Go.Proofs.YteaeloeebfdodaaGreatDoor
open Go.RowKit Go.Proofs.Rf
theorem divideLimbs_gen (w : World) (va vb : Value) (X Y : Nat) (ha : Sl w va (Wh.limbs X)) (hb : Sl w vb (Wh.limbs Y)) (hY : 0 < Y) (hX : (Wh.limbs X).length < 8) :
    Calls Tryz.prog 190 #[va, vb] w fun e w' => (∃ aq cq ar cr, e = .returned (.tuple #[.slice aq (Wh.limbs (X / Y)).length cq, .slice ar (Wh.limbs (X % Y)).length cr]) ∧ cq ≤ 100000 ∧ cr ≤ 100000 ∧ Sl w' (.slice aq (Wh.limbs (X / Y)).length cq) (Wh.limbs (X / Y)) ∧ Sl w' (.slice ar (Wh.limbs (X % Y)).length cr) (Wh.limbs (X % Y))) ∧ Below w.heap.size w w' := by
  by_cases h9 : Y < 1000000000
  · have e1 : Wh.trimL (Wh.quo (Wh.limbs X) Y) = Wh.limbs (X / Y) := by rw [Wh.trimL, Wh.val_quo _ _ hY, Wh.val_limbs]
    have e2 : Wh.trimL [Wh.val (Wh.limbs X) % Y] = Wh.limbs (X % Y) := by rw [Wh.val_limbs, Wh.trimL]; simp [Wh.val]
    rw [limbs_one_of ⟨hY, h9⟩] at hb
    have := divideLimbs_short w va vb (Wh.limbs X) Y ha (Wh.ok_limbs X) (by omega) hb ⟨hY, by omega⟩
    rw [e1, e2] at this
    exact this
  · have hlen : 2 ≤ (Wh.limbs Y).length := by
      rcases Nat.lt_or_ge (Wh.limbs Y).length 2 with h | h
      · have h1 := Wh.lt_pow_limbs Y
        have h2 : Wh.R ^ (Wh.limbs Y).length ≤ Wh.R ^ 1 := Nat.pow_le_pow_right Wh.R_pos (by omega)
        rw [Nat.pow_one] at h2
        have h3 : Wh.R = 1000000000 := rfl
        generalize Wh.R ^ (Wh.limbs Y).length = z at *
        omega
      · exact h
    refine (divideLimbs_long w va vb X Y ha hb ((Wh.limbs Y).length - 1) (by omega) (by omega) (.inl hX) (by omega)).mono ?_
    rintro e w' ⟨⟨aq, cq, ar, cr, h1, h2, h3, -, h4, h5⟩, hb⟩
    exact ⟨⟨aq, cq, ar, cr, h1, h2, h3, h4, h5⟩, hb⟩
set_option maxRecDepth 100000 in
set_option maxHeartbeats 2000000 in
theorem quo_gen (w : World) (va vb : Value) (x y : Int) (ha : Num w va x) (hb : Num w vb y) (hla : (Wh.limbs x.natAbs).length < 8) (hy : 0 < y.natAbs) :
    Calls Tryz.prog 196 #[va, vb] w fun e w' => (∃ vq vr, e = .returned (.tuple #[vq, vr]) ∧ Num w' vq (x.tdiv y) ∧ Num w' vr (x.tmod y)) ∧ Below w.heap.size w w' := by
  obtain ⟨sa, rfl, hsa⟩ := ha
  obtain ⟨sb, rfl, hsb⟩ := hb
  obtain ⟨aa, ca, rfl⟩ := hsa.len
  obtain ⟨ab, cb, rfl⟩ := hsb.len
  have HL := laid4_new w (.int .i64 x.sign) (.slice aa (Wh.limbs x.natAbs).length ca) (.int .i64 y.sign) (.slice ab (Wh.limbs y.natAbs).length cb) (.int .i64 0) (.slice none 0 0) (.int .i64 0) (.slice none 0 0) 83
  generalize hsx : x.sign = sx at *
  generalize hsy : y.sign = sy at *
  have HSX := Lib.hid hsx; clear hsx
  have HSY := Lib.hid hsy; clear hsy
  have HA := Lib.hid hsa; clear hsa
  have HB := Lib.hid hsb; clear hsb
  go_enter Tryz.func196, Tryz.ntmps196
  go_wp2_with fail
  generalize (((w.alloc (Obj.cells #[Value.int IntKind.i64 sx, Value.slice aa (Wh.limbs x.natAbs).length ca] 83)).alloc (Obj.cells #[Value.int IntKind.i64 sy, Value.slice ab (Wh.limbs y.natAbs).length cb] 83)).alloc (Obj.cells #[Value.int IntKind.i64 0, Value.slice none 0 0] 83)).alloc (Obj.cells #[Value.int IntKind.i64 0, Value.slice none 0 0] 83) = W at *
  refine (divideLimbs_gen W _ _ x.natAbs y.natAbs (HA.out.mono HL.below) (HB.out.mono HL.below) hy hla).mono ?_
  rintro e w1 ⟨⟨aq, cq, ar, cr, rfl, hcq, hcr, hq, hr⟩, hb1⟩
  have L1 := HL.mono hb1
  clear HL hb1
  have hvq : Wh.val (Wh.limbs (x.natAbs / y.natAbs)) = x.natAbs / y.natAbs := Wh.val_limbs _
  have hoq : Wh.Ok (Wh.limbs (x.natAbs / y.natAbs)) := Wh.ok_limbs _
  have hvr : Wh.val (Wh.limbs (x.natAbs % y.natAbs)) = x.natAbs % y.natAbs := Wh.val_limbs _
  have hor : Wh.Ok (Wh.limbs (x.natAbs % y.natAbs)) := Wh.ok_limbs _
  generalize Wh.limbs (x.natAbs / y.natAbs) = lq at *
  generalize Wh.limbs (x.natAbs % y.natAbs) = lr at *
  have HQ := Lib.hid hq; clear hq
  have HR := Lib.hid hr; clear hr
  have HVQ := Lib.hid hvq; clear hvq
  have HVR := Lib.hid hvr; clear hvr
  have HOQ := Lib.hid hoq; clear hoq
  have HOR := Lib.hid hor; clear hor
  have k0 := L1.a0
  have k1 := L1.b0
  have HL1 := Lib.hid L1; clear L1
  have hxs : -1 ≤ sx ∧ sx ≤ 1 := by rw [← HSX.out]; rcases Int.lt_trichotomy x 0 with h | h | h <;> simp [Int.sign_eq_neg_one_of_neg, Int.sign_eq_one_of_pos, h]
  have hys : -1 ≤ sy ∧ sy ≤ 1 := by rw [← HSY.out]; rcases Int.lt_trichotomy y 0 with h | h | h <;> simp [Int.sign_eq_neg_one_of_neg, Int.sign_eq_one_of_pos, h]
  obtain ⟨td, htd⟩ : ∃ t, x.tdiv y = t := ⟨_, rfl⟩
  obtain ⟨tm, htm⟩ : ∃ t, x.tmod y = t := ⟨_, rfl⟩
  have hvq : sx * sy * (Wh.val lq : Int) = td := by rw [HVQ.out, ← HSX.out, ← HSY.out, tdiv_signs, htd]
  have hvr : sx * (Wh.val lr : Int) = tm := by rw [HVR.out, ← HSX.out, tmod_signs, htm]
  have hcq1 : sx * sy = -1 ∨ sx * sy = 1 ∨ Wh.val lq = 0 := by
    rw [HVQ.out, ← HSX.out, ← HSY.out]
    exact sign_cases_q x y hy
  have hcr1 : sx = -1 ∨ sx = 1 ∨ Wh.val lr = 0 := by
    rw [HVR.out, ← HSX.out]
    rcases Int.lt_trichotomy x 0 with h | h | h
    · exact .inl (Int.sign_eq_neg_one_of_neg h)
    · subst h; simp
    · exact .inr (.inl (Int.sign_eq_one_of_pos h))
  have HTQ := Lib.hid hvq; clear hvq
  have HTR := Lib.hid hvr; clear hvr
  have HCQ := Lib.hid hcq1; clear hcq1
  have HCR := Lib.hid hcr1; clear hcr1
  have HTD := Lib.hid htd
  have HTM := Lib.hid htm
  clear htd htm
  go_wp2_with fail
  have hsmq : Small (.slice aq lq.length cq) := by intro p n c h; cases h; exact hcq
  have hsmr : Small (.slice ar lr.length cr) := by intro p n c h; cases h; exact hcr
  go_region_held3 (fun w' => w'.cell? ⟨w.heap.size, 0, none⟩ = some (.int .i64 sx) ∧ w'.cell? ⟨w.heap.size + 1, 0, none⟩ = some (.int .i64 sy)) (first | exact q3 | exact q2 | exact ⟨far1 q3.1 (by omega), far1 q3.2 (by omega)⟩ | exact ⟨far1 (far1 q3.1 (by omega)) (by omega), far1 (far1 q3.2 (by omega)) (by omega)⟩ | go_keep) (first
    | ((with_reducible go_at_call 197); (with_reducible refine (with_any _ _ hxs hys _).mono ?_); rintro e w' ⟨rfl, rfl⟩)
    | ((go_at_call 191); (have hdl : Below w1.heap.size w1 _ := drew_left hb2); (with_reducible refine (signed_any sx (.slice ar lr.length cr) lr _ HOR.out (HR.out.mono hdl) hsmr HCR.out).mono ?_); rintro e w3 ⟨⟨v3, rfl, hn⟩, hb3⟩; rw [HTR.out] at hn; obtain ⟨sl3, rfl, hsl3⟩ := hn; obtain ⟨xa3, xc3, rfl⟩ := hsl3.len; have L3 := HL2.out.mono hb3; have q3 := And.intro L3.a0 L3.b0; obtain ⟨-, -, -, -, m0, m1, n0, n1, i0, i1, j0, j1, -, -⟩ := L3)
    | ((go_at_call 191); (with_reducible refine (signed_any (sx * sy) (.slice aq lq.length cq) lq _ HOQ.out (HQ.out.mono (Below.refl _ _).drew) hsmq HCQ.out).mono ?_); rintro e w2 ⟨⟨v2, rfl, hn⟩, hb2⟩; rw [HTQ.out] at hn; obtain ⟨sl2, rfl, hsl2⟩ := hn; obtain ⟨xa2, xc2, rfl⟩ := hsl2.len; have L2 := HL1.out.mono (drew_left hb2); have q2 := And.intro L2.a0 L2.b0; have HL2 := Lib.hid L2; clear L2))
  go_wp2
  have hT : Two w3 (w.heap.size + 1 + 1) := ⟨m0, m1, n0, n1, i0, i1, j0, j1⟩
  have hB3 : Below w.heap.size w w3 := (HL2.out.mono hb3).below
  obtain ⟨r0, r1, r2, r3⟩ := hT.read (.int .i64 td.sign) (.slice xa2 (Wh.limbs td.natAbs).length xc2) (.int .i64 tm.sign) (.slice xa3 (Wh.limbs tm.natAbs).length xc3)
  have S2 := hT.sl (hsl2.mono hb3) (.int .i64 td.sign) (.slice xa2 (Wh.limbs td.natAbs).length xc2) (.int .i64 tm.sign) (.slice xa3 (Wh.limbs tm.natAbs).length xc3)
  have S3 := hT.sl hsl3 (.int .i64 td.sign) (.slice xa2 (Wh.limbs td.natAbs).length xc2) (.int .i64 tm.sign) (.slice xa3 (Wh.limbs tm.natAbs).length xc3)
  have hB := Two.below hB3 (show w.heap.size ≤ w.heap.size + 1 + 1 by omega) (.int .i64 td.sign) (.slice xa2 (Wh.limbs td.natAbs).length xc2) (.int .i64 tm.sign) (.slice xa3 (Wh.limbs tm.natAbs).length xc3)
  exact bodyPost_ret (v := .tuple #[.agg #[.int .i64 td.sign, .slice xa2 (Wh.limbs td.natAbs).length xc2], .agg #[.int .i64 tm.sign, .slice xa3 (Wh.limbs tm.natAbs).length xc3]]) (by unfold put22 at *; simp [results, Tryz.results196, go_sem, r0, r1, r2, r3]) rfl ⟨⟨_, _, rfl, by rw [HTD.out]; exact ⟨_, rfl, S2⟩, by rw [HTM.out]; exact ⟨_, rfl, S3⟩⟩, hB⟩
theorem floor_gen (w : World) (va vb : Value) (x y : Int) (ha : Num w va x) (hb : Num w vb y) (hfx : Fit x) (hfy : Fit y) (hy : y ≠ 0) :
    Calls Tryz.prog 187 #[va, vb] w fun e w' => (∃ vq vr, e = .returned (.tuple #[vq, vr]) ∧ Num w' vq (x.fdiv y) ∧ Num w' vr (x.fmod y)) ∧ Below w.heap.size w w' :=
  floor_from w va vb x y ha hb hfx hfy hy (fun W va vb ha hb => quo_gen W va vb x y ha hb hfx (Int.natAbs_pos.2 hy))
end Go.Proofs.YteaeloeebfdodaaGreatDoor

/- WALKS, the divisor 9: a step of Euclid's algorithm, at any numbers. -/
namespace Go.Proofs.YteaeloeebfdodaaGreatDoor
open Go.RowKit
theorem divide_slg (w : World) (va vb : Value) (R N : Nat) (ha : SlV w va R) (hb : SlV w vb N) (hR : (Wh.limbs R).length < 8) (hN : 0 < N) :
    Calls Tryz.prog 190 #[va, vb] w fun e w' => (∃ vq vr, e = .returned (.tuple #[vq, vr]) ∧ SlV w' vq (R / N) ∧ SlV w' vr (R % N)) ∧ Below w.heap.size w w' := by
  obtain ⟨a1, c1, rfl, h1⟩ := ha
  obtain ⟨a2, c2, rfl, h2⟩ := hb
  refine (divideLimbs_gen w _ _ R N h1 h2 hN hR).mono ?_
  rintro e w' ⟨⟨aq, cq, ar, cr, rfl, _, _, hq, hr⟩, hb⟩
  exact ⟨⟨_, _, rfl, ⟨_, _, rfl, hq⟩, ⟨_, _, rfl, hr⟩⟩, hb⟩
set_option maxRecDepth 100000 in
set_option maxHeartbeats 1000000 in
theorem step_gen (w : World) (wb R N T A : Nat) (odd : Bool) (h : WK w wb R N T A odd) (hN : 0 < N) (hR : (Wh.limbs R).length < 8) (hTT : (Wh.limbs T).length ≤ 5000) (hA : (Wh.limbs A).length < 32) (hQ : (Wh.limbs (R / N)).length ≤ 5000) (hQA : (Wh.limbs (R / N * A)).length ≤ 5000) :
    Calls Tryz.prog 265 #[.pointer (some ⟨wb, 0, none⟩)] w fun e w' => e = .returned (.tuple #[]) ∧ WK w' wb N (R % N) A (T + R / N * A) (!odd) ∧ Below wb w w' := by
  have H := Lib.hid h; clear h
  have HLT := Lib.hid H.out.lt
  go_enter Tryz.func265, Tryz.ntmps265
  go_wp2_with fail
  refine wp_mono (Q := fun e a W' => e = .normal ∧ (∃ vals : Nat → Value, a = { tmps := #[.pointer (some ⟨wb, 0, none⟩), undef, vals 12, vals 13, vals 9, vals 0, vals 1, vals 2, vals 3, vals 4, vals 5, vals 6, vals 7, vals 8, vals 10, vals 11, undef, undef, undef, undef, undef, undef, undef, undef, undef, undef, undef, undef, undef, undef, undef, undef, undef, undef, undef, undef, undef, undef, undef, undef, undef, undef, undef, undef, undef, undef, undef, undef, undef, undef, undef, undef, undef, undef, undef, undef], defers := [] } ∧ SlV W' (vals 12) (R / N) ∧ SlV W' (vals 13) (R % N)) ∧ Below w.heap.size w W') ?_ ?_
  refine Rt.wp_region_grow (n0 := 0) [] [] 56 (fun vals => { tmps := #[.pointer (some ⟨wb, 0, none⟩), undef, vals 12, vals 13, vals 9, vals 0, vals 1, vals 2, vals 3, vals 4, vals 5, vals 6, vals 7, vals 8, vals 10, vals 11, undef, undef, undef, undef, undef, undef, undef, undef, undef, undef, undef, undef, undef, undef, undef, undef, undef, undef, undef, undef, undef, undef, undef, undef, undef, undef, undef, undef, undef, undef, undef, undef, undef, undef, undef, undef, undef, undef, undef, undef], defers := [] }) (ST wb R N) (by kernel_rfl) (by kernel_rfl) (by kernel_rfl) (by kernel_rfl) (fun _ _ _ _ _ h => absurd h.1 (by simp)) (by kernel_rfl) rfl (fun _ => by kernel_rfl) (by kernel_rfl) (by kernel_rfl) (ST_stays _ _ _) ?_ ?_ ?_
  · intro i o d hi hT hW hd vals w' hb hf
    have hlt : i < 14 := (Array.getElem?_eq_some_iff.1 hi).1
    rcases i with _ | _ | _ | _ | _ | _ | _ | _ | _ | _ | _ | _ | _ | _ | i
    · obtain rfl := Option.some.inj hi
      obtain rfl := Option.some.inj hd
      dsimp only
      go_simp
      exact ⟨rfl, Below.refl _ _⟩
    · obtain rfl := Option.some.inj hi
      obtain rfl := Option.some.inj hd
      have e0 : vals 0 = _ := hf 0 (by kernel_rfl)
      dsimp only
      rw [e0]
      go_simp
      exact ⟨rfl, Below.refl _ _⟩
    · obtain rfl := Option.some.inj hi
      obtain rfl := Option.some.inj hd
      have e1 : vals 1 = _ := hf 1 (by kernel_rfl)
      dsimp only
      rw [e1]
      go_simp
      exact ⟨rfl, Below.refl _ _⟩
    · obtain rfl := Option.some.inj hi
      obtain rfl := Option.some.inj hd
      have e2 : vals 2 = _ := hf 2 (by kernel_rfl)
      obtain ⟨v0, z0, zs⟩ := H.out.r.see H.out.lt hb
      have ZS := Lib.hid zs; clear zs
      dsimp only
      rw [e2]
      go_simp
      exact ⟨ZS.out, Below.refl _ _⟩
    · obtain rfl := Option.some.inj hi
      obtain rfl := Option.some.inj hd
      dsimp only
      go_simp
      exact ⟨rfl, Below.refl _ _⟩
    · obtain rfl := Option.some.inj hi
      obtain rfl := Option.some.inj hd
      have e4 : vals 4 = _ := hf 4 (by kernel_rfl)
      dsimp only
      rw [e4]
      go_simp
      exact ⟨rfl, Below.refl _ _⟩
    · obtain rfl := Option.some.inj hi
      obtain rfl := Option.some.inj hd
      have e5 : vals 5 = _ := hf 5 (by kernel_rfl)
      dsimp only
      rw [e5]
      go_simp
      exact ⟨rfl, Below.refl _ _⟩
    · obtain rfl := Option.some.inj hi
      obtain rfl := Option.some.inj hd
      have e6 : vals 6 = _ := hf 6 (by kernel_rfl)
      obtain ⟨v0, z0, zs⟩ := H.out.n.see H.out.lt hb
      have ZS := Lib.hid zs; clear zs
      dsimp only
      rw [e6]
      go_simp
      exact ⟨ZS.out, Below.refl _ _⟩
    · obtain rfl := Option.some.inj hi
      obtain rfl := Option.some.inj hd
      have h0 : SlV w' (vals 3) _ := hf 3 (by kernel_rfl)
      have h4 : SlV w' (vals 7) _ := hf 7 (by kernel_rfl)
      have HP := Lib.hid (divide_slg w' _ _ R N h0 h4 hR hN)
      obtain ⟨a3, c3, e3, -⟩ := h0
      obtain ⟨a7, c7, e7, -⟩ := h4
      rw [e3, e7] at HP
      dsimp only
      rw [e3, e7]
      go_simp
      refine HP.out.mono ?_
      rintro e w5 ⟨⟨vq, vr, rfl, h6, h7⟩, hb5⟩
      exact ⟨⟨vq, vr, rfl, h6, h7⟩, hb5⟩
    · obtain rfl := Option.some.inj hi
      obtain rfl := Option.some.inj hd
      obtain ⟨vq, vr, e8, h1, h2⟩ := hf 8 (by kernel_rfl)
      have H1 := Lib.hid h1; have H2 := Lib.hid h2; clear h1 h2
      dsimp only
      rw [e8]
      go_simp
      exact ⟨⟨vq, vr, rfl, H1.out, H2.out⟩, Below.refl _ _⟩
    · obtain rfl := Option.some.inj hi
      obtain rfl := Option.some.inj hd
      obtain ⟨vq, vr, e9, h1, h2⟩ := hf 9 (by kernel_rfl)
      have H1 := Lib.hid h1; have H2 := Lib.hid h2; clear h1 h2
      dsimp only
      rw [e9]
      go_simp
      exact ⟨H1.out, Below.refl _ _⟩
    · obtain rfl := Option.some.inj hi
      obtain rfl := Option.some.inj hd
      obtain ⟨vq, vr, e9, h1, h2⟩ := hf 9 (by kernel_rfl)
      have H1 := Lib.hid h1; have H2 := Lib.hid h2; clear h1 h2
      dsimp only
      rw [e9]
      go_simp
      exact ⟨H2.out, Below.refl _ _⟩
    · obtain rfl := Option.some.inj hi
      obtain rfl := Option.some.inj hd
      have h1 : SlV w' (vals 10) _ := hf 10 (by kernel_rfl)
      have H1 := Lib.hid h1; clear h1
      dsimp only
      generalize vals 10 = vv at *
      go_simp
      exact ⟨H1.out, Below.refl _ _⟩
    · obtain rfl := Option.some.inj hi
      obtain rfl := Option.some.inj hd
      have h1 : SlV w' (vals 11) _ := hf 11 (by kernel_rfl)
      have H1 := Lib.hid h1; clear h1
      dsimp only
      generalize vals 11 = vv at *
      go_simp
      exact ⟨H1.out, Below.refl _ _⟩
    · omega
  · intro p o d hi hW hd vals w' hb hf
    cases hW
  · intro vals w' hb hf
    exact Rt.wpAny_end (by kernel_rfl) ⟨rfl, ⟨vals, rfl, hf 12 (by decide) rfl, hf 13 (by decide) rfl⟩, hb⟩
  rintro e a W ⟨rfl, ⟨va, rfl, hq, hr⟩, hb⟩
  obtain ⟨qa, qc, eq, kq⟩ := hq
  obtain ⟨ra, rc, er, kr⟩ := hr
  have HW := Lib.hid (H.out.mono hb)
  have HB0 := Lib.hid hb; clear hb H
  have KQ := Lib.hid kq; have KR := Lib.hid kr; clear kq kr
  rw [eq, er]
  generalize va 0 = v0; generalize va 1 = v1; generalize va 2 = v2; generalize va 3 = v3; generalize va 4 = v4; generalize va 5 = v5; generalize va 6 = v6; generalize va 7 = v7; generalize va 8 = v8; generalize va 9 = v9
  generalize hv10 : va 10 = v10; generalize hv11 : va 11 = v11
  clear eq er hv10 hv11
  obtain ⟨na, nc, n0, ns⟩ := HW.out.n
  obtain ⟨oa, oc, o0, os⟩ := HW.out.r
  have f0 := HW.out.f 0 (by decide); have f1 := HW.out.f 1 (by decide)
  have H2 := Lib.hid ((HW.out.set0 ns).set1 (KR.out.store _ o0 (nl_slice _ _ _) (.slice na (Wh.limbs N).length nc)))
  have KQ2 := Lib.hid ((KQ.out.store _ o0 (nl_slice _ _ _) (.slice na (Wh.limbs N).length nc)).store ⟨wb, 1, none⟩ (u := .slice na (Wh.limbs N).length nc) (by rw [World.cell?_setCell_other _ _ _ _ (off_ne (by decide))]; exact n0) (nl_slice _ _ _) (.slice ra (Wh.limbs (R % N)).length rc))
  have HB1 : Hid (Below wb w _) := Lib.hid (((HB0.out.mono (by have := HLT.out; omega : wb ≤ _)).setCell (p := ⟨wb, 0, none⟩) (Nat.le_refl wb) (.slice na (Wh.limbs N).length nc)).setCell (p := ⟨wb, 1, none⟩) (Nat.le_refl wb) (.slice ra (Wh.limbs (R % N)).length rc))
  clear ns os KQ HW HB0
  generalize hQg : R / N = Q at *
  generalize hRg : R % N = RM at *
  go_wp2_with fail
  clear n0 o0 f0 f1
  generalize (W.setCell ⟨wb, 0, none⟩ (.slice na (Wh.limbs N).length nc)).setCell ⟨wb, 1, none⟩ (.slice ra (Wh.limbs RM).length rc) = Y at *
  have KQ := KQ2; clear KQ2
  refine wp_mono (Q := fun e a W' => e = .normal ∧ (∃ vals : Nat → Value, a = { tmps := #[.pointer (some ⟨wb, 0, none⟩), undef, .slice qa (Wh.limbs Q).length qc, .slice ra (Wh.limbs RM).length rc, v9, v0, v1, v2, v3, v4, v5, v6, v7, v8, v10, v11, .pointer (some ⟨wb, 0, none⟩), .pointer (some ⟨wb, 0, none⟩), .pointer (some ⟨wb, 0, none⟩), .pointer (some ⟨wb, 0, none⟩), .pointer (some ⟨wb, 1, none⟩), .slice na (Wh.limbs N).length nc, .slice ra (Wh.limbs RM).length rc, .pointer (some ⟨wb, 0, none⟩), .pointer (some ⟨wb, 0, none⟩), .pointer (some ⟨wb, 0, none⟩), .pointer (some ⟨wb, 1, none⟩), vals 0, .pointer (some ⟨wb, 0, none⟩), vals 2, vals 3, vals 4, vals 5, vals 6, vals 7, vals 8, vals 9, vals 10, vals 11, vals 12, vals 13, vals 14, vals 15, vals 16, vals 17, .pointer (some ⟨wb, 2, none⟩), .pointer (some ⟨wb, 0, none⟩), .pointer (some ⟨wb, 3, none⟩), undef, undef, undef, undef, undef, undef, undef, undef], defers := [] }) ∧ WK W' wb N RM A (T + Q * A) odd ∧ Below wb Y W') ?_ ?_
  refine Rt.wp_region_grow (n0 := 4) [19, 20, 21, 22] [1] 56 (fun vals => { tmps := #[.pointer (some ⟨wb, 0, none⟩), undef, .slice qa (Wh.limbs Q).length qc, .slice ra (Wh.limbs RM).length rc, v9, v0, v1, v2, v3, v4, v5, v6, v7, v8, v10, v11, .pointer (some ⟨wb, 0, none⟩), .pointer (some ⟨wb, 0, none⟩), .pointer (some ⟨wb, 0, none⟩), .pointer (some ⟨wb, 0, none⟩), .pointer (some ⟨wb, 1, none⟩), .slice na (Wh.limbs N).length nc, .slice ra (Wh.limbs RM).length rc, .pointer (some ⟨wb, 0, none⟩), .pointer (some ⟨wb, 0, none⟩), .pointer (some ⟨wb, 0, none⟩), .pointer (some ⟨wb, 1, none⟩), vals 0, vals 1, vals 2, vals 3, vals 4, vals 5, vals 6, vals 7, vals 8, vals 9, vals 10, vals 11, vals 12, vals 13, vals 14, vals 15, vals 16, vals 17, vals 18, undef, undef, undef, undef, undef, undef, undef, undef, undef, undef], defers := [] }) (SU wb Q T A) (by kernel_rfl) (by kernel_rfl) (by kernel_rfl) (by kernel_rfl) (fun _ _ _ _ _ h => absurd h.1 (by simp)) (by kernel_rfl) rfl (fun _ => by kernel_rfl) (by kernel_rfl) (by kernel_rfl) (SU_stays _ _ _ _) ?_ ?_ ?_
  · intro i o d hi hT hW hd vals w' hb hf
    have hlt : i < 23 := (Array.getElem?_eq_some_iff.1 hi).1
    rcases i with _ | _ | _ | _ | _ | _ | _ | _ | _ | _ | _ | _ | _ | _ | _ | _ | _ | _ | _ | _ | _ | _ | _ | i
    · obtain rfl := Option.some.inj hi
      obtain rfl := Option.some.inj hd
      dsimp only
      go_simp
      exact ⟨rfl, Below.refl _ _⟩
    · cases hW
    · obtain rfl := Option.some.inj hi
      obtain rfl := Option.some.inj hd
      dsimp only
      go_simp
      exact ⟨rfl, Below.refl _ _⟩
    · obtain rfl := Option.some.inj hi
      obtain rfl := Option.some.inj hd
      have e2 : vals 2 = _ := hf 2 (by kernel_rfl)
      dsimp only
      rw [e2]
      go_simp
      exact ⟨rfl, Below.refl _ _⟩
    · obtain rfl := Option.some.inj hi
      obtain rfl := Option.some.inj hd
      have e3 : vals 3 = _ := hf 3 (by kernel_rfl)
      dsimp only
      rw [e3]
      go_simp
      exact ⟨rfl, Below.refl _ _⟩
    · obtain rfl := Option.some.inj hi
      obtain rfl := Option.some.inj hd
      have e4 : vals 4 = _ := hf 4 (by kernel_rfl)
      obtain ⟨v0, z0, zs⟩ := H2.out.a.see H2.out.lt hb
      have ZS := Lib.hid zs; clear zs
      dsimp only
      rw [e4]
      go_simp
      exact ⟨ZS.out, Below.refl _ _⟩
    · obtain rfl := Option.some.inj hi
      obtain rfl := Option.some.inj hd
      dsimp only
      go_simp
      exact ⟨rfl, Below.refl _ _⟩
    · obtain rfl := Option.some.inj hi
      obtain rfl := Option.some.inj hd
      have e6 : vals 6 = _ := hf 6 (by kernel_rfl)
      dsimp only
      rw [e6]
      go_simp
      exact ⟨rfl, Below.refl _ _⟩
    · obtain rfl := Option.some.inj hi
      obtain rfl := Option.some.inj hd
      have e7 : vals 7 = _ := hf 7 (by kernel_rfl)
      dsimp only
      rw [e7]
      go_simp
      exact ⟨rfl, Below.refl _ _⟩
    · obtain rfl := Option.some.inj hi
      obtain rfl := Option.some.inj hd
      have e8 : vals 8 = _ := hf 8 (by kernel_rfl)
      obtain ⟨v0, z0, zs⟩ := H2.out.t.see H2.out.lt hb
      have ZS := Lib.hid zs; clear zs
      dsimp only
      rw [e8]
      go_simp
      exact ⟨ZS.out, Below.refl _ _⟩
    · obtain rfl := Option.some.inj hi
      obtain rfl := Option.some.inj hd
      dsimp only
      go_simp
      exact ⟨⟨_, _, rfl, KQ.out.mono hb⟩, Below.refl _ _⟩
    · obtain rfl := Option.some.inj hi
      obtain rfl := Option.some.inj hd
      dsimp only
      go_simp
      exact ⟨rfl, Below.refl _ _⟩
    · obtain rfl := Option.some.inj hi
      obtain rfl := Option.some.inj hd
      have e11 : vals 11 = _ := hf 11 (by kernel_rfl)
      dsimp only
      rw [e11]
      go_simp
      exact ⟨rfl, Below.refl _ _⟩
    · obtain rfl := Option.some.inj hi
      obtain rfl := Option.some.inj hd
      have e12 : vals 12 = _ := hf 12 (by kernel_rfl)
      dsimp only
      rw [e12]
      go_simp
      exact ⟨rfl, Below.refl _ _⟩
    · obtain rfl := Option.some.inj hi
      obtain rfl := Option.some.inj hd
      have e13 : vals 13 = _ := hf 13 (by kernel_rfl)
      obtain ⟨v0, z0, zs⟩ := H2.out.a.see H2.out.lt hb
      have ZS := Lib.hid zs; clear zs
      dsimp only
      rw [e13]
      go_simp
      exact ⟨ZS.out, Below.refl _ _⟩
    · obtain rfl := Option.some.inj hi
      obtain rfl := Option.some.inj hd
      have h0 : SlV w' (vals 10) _ := hf 10 (by kernel_rfl)
      have h4 : SlV w' (vals 14) _ := hf 14 (by kernel_rfl)
      have HP := Lib.hid (multiply_sl w' _ _ Q A h0 h4 (by omega) (.inr hA))
      obtain ⟨a10, c10, e10, -⟩ := h0
      obtain ⟨a14, c14, e14, -⟩ := h4
      rw [e10, e14] at HP
      dsimp only
      rw [e10, e14]
      go_simp
      refine HP.out.mono ?_
      rintro e w5 ⟨⟨v5, rfl, hn5⟩, hb5⟩
      exact ⟨hn5, hb5⟩
    · obtain rfl := Option.some.inj hi
      obtain rfl := Option.some.inj hd
      have h0 : SlV w' (vals 9) _ := hf 9 (by kernel_rfl)
      have h4 : SlV w' (vals 15) _ := hf 15 (by kernel_rfl)
      have HP := Lib.hid (add_sl w' _ _ T (Q * A) h0 h4 hTT hQA)
      obtain ⟨a9, c9, e9, -⟩ := h0
      obtain ⟨a15, c15, e15, -⟩ := h4
      rw [e9, e15] at HP
      dsimp only
      rw [e9, e15]
      go_simp
      refine HP.out.mono ?_
      rintro e w5 ⟨⟨v5, rfl, hn5⟩, hb5⟩
      exact ⟨hn5, hb5⟩
    · obtain rfl := Option.some.inj hi
      obtain rfl := Option.some.inj hd
      have e0 : vals 0 = _ := hf 0 (by kernel_rfl)
      dsimp only
      rw [e0]
      go_simp
      exact ⟨rfl, Below.refl _ _⟩
    · obtain rfl := Option.some.inj hi
      obtain rfl := Option.some.inj hd
      have e17 : vals 17 = _ := hf 17 (by kernel_rfl)
      dsimp only
      rw [e17]
      go_simp
      exact ⟨rfl, Below.refl _ _⟩
    · cases hT
    · cases hT
    · cases hT
    · cases hT
    · omega
  · intro p o d hi hW hd vals w' hb hf
    have hlt : p < 23 := (Array.getElem?_eq_some_iff.1 hi).1
    rcases p with _ | _ | _ | _ | _ | _ | _ | _ | _ | _ | _ | _ | _ | _ | _ | _ | _ | _ | _ | _ | _ | _ | _ | p
    · cases hW
    · obtain rfl := Option.some.inj hi
      obtain rfl := Option.some.inj hd
      exact ⟨_, fun w'' => by dsimp only; go_simp, rfl⟩
    · cases hW
    · cases hW
    · cases hW
    · cases hW
    · cases hW
    · cases hW
    · cases hW
    · cases hW
    · cases hW
    · cases hW
    · cases hW
    · cases hW
    · cases hW
    · cases hW
    · cases hW
    · cases hW
    · cases hW
    · cases hW
    · cases hW
    · cases hW
    · cases hW
    · omega
  · intro vals w' hb hf
    have e1 : vals 1 = _ := hf 1 (by decide) rfl
    obtain ⟨a5, c5, e5, k5⟩ := hf 5 (by decide) rfl
    obtain ⟨a16, c16, e16, k16⟩ := hf 16 (by decide) rfl
    have e18 : vals 18 = _ := hf 18 (by decide) rfl
    have HV := Lib.hid (H2.out.mono hb)
    have HBY := Lib.hid (hb.mono (Nat.le_of_lt H2.out.lt))
    have K5 := Lib.hid k5; have K16 := Lib.hid k16; clear k5 k16 hb hf
    obtain ⟨ta, tc, t0, _⟩ := HV.out.t
    have ft := HV.out.f 2 (by decide)
    rw [e1, e5, e16, e18]
    refine Rt.wpAny_step (i := 19) (by kernel_rfl) rfl (by rfl) (fun K hK => ?_)
    have HK := Lib.hid hK; clear hK
    go_simp
    refine HK.out _ _ ?_
    clear HK
    have HV2 := Lib.hid (HV.out.set2 K5.out)
    have K162 := Lib.hid (K16.out.store _ t0 (nl_slice _ _ _) (.slice a5 (Wh.limbs A).length c5))
    have HB2 : Hid (Below wb Y (w'.setCell ⟨wb, 2, none⟩ (.slice a5 (Wh.limbs A).length c5))) := Lib.hid (HBY.out.setCell (p := ⟨wb, 2, none⟩) (Nat.le_refl wb) _)
    clear t0 ft HV K16 K5 HBY
    generalize w'.setCell ⟨wb, 2, none⟩ (.slice a5 (Wh.limbs A).length c5) = U at *
    refine Rt.wpAny_step (i := 20) (by kernel_rfl) rfl (by rfl) (fun K hK => ?_)
    have HK := Lib.hid hK; clear hK
    go_simp
    refine HK.out _ _ ?_
    clear HK
    refine Rt.wpAny_step (i := 21) (by kernel_rfl) rfl (by rfl) (fun K hK => ?_)
    have HK := Lib.hid hK; clear hK
    go_simp
    refine HK.out _ _ ?_
    clear HK
    obtain ⟨ua, uc, u0, _⟩ := HV2.out.a
    have fu := HV2.out.f 3 (by decide)
    refine Rt.wpAny_step (i := 22) (by kernel_rfl) rfl (by rfl) (fun K hK => ?_)
    have HK := Lib.hid hK; clear hK
    go_simp
    refine HK.out _ _ ?_
    clear HK
    exact Rt.wpAny_end (by kernel_rfl) ⟨rfl, ⟨vals, by rw [e5, e16]⟩, HV2.out.set3 K162.out, HB2.out.setCell (p := ⟨wb, 3, none⟩) (Nat.le_refl wb) _⟩
  rintro e a W3 ⟨rfl, ⟨vb, rfl⟩, hW3, hb3⟩
  have HW3 := Lib.hid hW3; have HB3 := Lib.hid (HB1.out.trans hb3); clear hW3 hb3
  have o4 := HW3.out.o
  have f4 := HW3.out.f 4 (by decide)
  generalize vb 0 = vb0
  generalize vb 1 = vb1
  generalize vb 2 = vb2
  generalize vb 3 = vb3
  generalize vb 4 = vb4
  generalize vb 5 = vb5
  generalize vb 6 = vb6
  generalize vb 7 = vb7
  generalize vb 8 = vb8
  generalize vb 9 = vb9
  generalize vb 10 = vb10
  generalize vb 11 = vb11
  generalize vb 12 = vb12
  generalize vb 13 = vb13
  generalize vb 14 = vb14
  generalize vb 15 = vb15
  generalize vb 16 = vb16
  generalize vb 17 = vb17
  generalize vb 18 = vb18
  go_wp2
  go_end0
  exact ⟨rfl, by rw [hQg, hRg]; exact HW3.out.set4 (!odd), HB3.out.setCell (p := ⟨wb, 4, none⟩) (Nat.le_refl wb) _⟩
end Go.Proofs.YteaeloeebfdodaaGreatDoor
