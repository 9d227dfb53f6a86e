/- Part 46 of the proofs that laws of package whole answer true at every input and leave the input as it was, where the library's variables start as the text lays them (the texts L1, L2, L3, L4). -/
import Derived.Test.YtmdfjnmakppknaaGreatDoorZ13
import Derived.Test.YtmdfjnmakppknaaGreatDoorZ32
import Derived.Test.YtmdfjnmakppknaaGreatDoorZ08
import Derived.Test.YtmdfjnmakppknaaGreatDoorZ14
set_option linter.unusedVariables false
set_option linter.unusedSimpArgs false
/- WALKS, the number of digits in a base 1: arithmetic; times; appendDigits. -/
namespace Go.Proofs.YtmdfjnmakppknaaGreatDoor
open Go.RowKit Go.Proofs.Rf
def numB (b : Nat) (l : List UInt8) : Nat := l.foldl (fun a c => a * b + dval c.toNat) 0
theorem numB_snoc (b : Nat) (l : List UInt8) (c : UInt8) : numB b (l ++ [c]) = numB b l * b + dval c.toNat := by simp [numB]
theorem numB_take_succ (b : Nat) (l : List UInt8) (k : Nat) (h : k < l.length) : numB b (l.take (k + 1)) = numB b (l.take k) * b + dval (l.getD k 0).toNat := by
  rw [List.take_add_one, List.getElem?_eq_getElem h, Option.toList_some, numB_snoc]
  simp [List.getD, h]
theorem numB_lt {b : Nat} {l : List UInt8} (h : ∀ i, i < l.length → dval (l.getD i 0).toNat < b) : ∀ k, k ≤ l.length → numB b (l.take k) < b ^ k := by
  intro k
  induction k with
  | zero => intro _; simp [numB]
  | succ k ih =>
    intro hk
    rw [numB_take_succ b l k hk, Nat.pow_succ]
    have h1 := ih (by omega)
    have h2 := h k hk
    have h3 : (numB b (l.take k) + 1) * b ≤ b ^ k * b := Nat.mul_le_mul_right b h1
    rw [Nat.add_mul, Nat.one_mul] at h3
    omega
set_option maxHeartbeats 400000 in
theorem times_any (w : World) (a b c : Nat) (ha : a < 1000000000) (hb : b ≤ 1000000000) (hc : c < 1000000000) :
    Calls Tryz.prog 176 #[.int .u32 a, .int .u32 b, .int .u32 c] w fun e w' => e = .returned (.tuple #[.int .u32 ((a * b + c) % 1000000000 : Nat), .int .u32 ((a * b + c) / 1000000000 : Nat)]) ∧ w = w' := by
  have hab : a * b ≤ 999999999 * 1000000000 := Nat.mul_le_mul (by omega) hb
  have hcast : ((a * b : Nat) : Int) = (a : Int) * (b : Int) := by simp
  go_enter Tryz.func176, Tryz.ntmps176
  go_wp2
  have e1 : (((a * b + c) % 1000000000 : Nat) : Int) = ((a : Int) * (b : Int) + (c : Int)) % 1000000000 := by simp
  have e2 : (((a * b + c) / 1000000000 : Nat) : Int) = ((a : Int) * (b : Int) + (c : Int)) / 1000000000 := by simp
  rw [e1, e2]
  go_ret2
  exact ⟨rfl, rfl⟩
/-- what the second loop keeps: j limbs are done, cc is carried on -/
structure MS (u c : Nat) (l : List Nat) (j cc : Nat) (l' : List Nat) : Prop where
  len : l'.length = l.length
  ok : Wh.Ok l'
  rest : ∀ i, j ≤ i → l'.getD i 0 = l.getD i 0
  val : Wh.val (l'.take j) + Wh.R ^ j * cc = Wh.val (l.take j) * u + c
  car : cc < 1000000000
theorem MS.start {u c : Nat} {l : List Nat} (ho : Wh.Ok l) (hc : c < 1000000000) : MS u c l 0 c l := ⟨rfl, ho, fun _ _ => rfl, by simp [Wh.val], hc⟩
theorem MS.step {u c : Nat} {l : List Nat} {j cc : Nat} {l' : List Nat} (h : MS u c l j cc l') (hj : j < l.length) (hu : u ≤ 1000000000) (hx : l.getD j 0 < 1000000000) :
    MS u c l (j + 1) ((l.getD j 0 * u + cc) / 1000000000) (l'.set j ((l.getD j 0 * u + cc) % 1000000000)) := by
  have hj' : j < l'.length := by rw [h.len]; exact hj
  refine ⟨by rw [List.length_set]; exact h.len, Wh.ok_set h.ok (Nat.mod_lt _ (by decide)), fun i hi => ?_, ?_, ?_⟩
  · have := h.rest i (by omega)
    simp only [List.getD] at this ⊢
    rw [List.getElem?_set_ne (by omega)]; exact this
  · rw [Wh.take_snoc _ j (by rw [List.length_set]; exact hj'), Wh.val_snoc, Wh.take_snoc l j hj, Wh.val_snoc]
    have e1 : (l'.set j ((l.getD j 0 * u + cc) % 1000000000)).take j = l'.take j := by rw [List.take_set_of_le (Nat.le_refl j)]
    have e2 : (l'.set j ((l.getD j 0 * u + cc) % 1000000000)).getD j 0 = (l.getD j 0 * u + cc) % 1000000000 := by simp [List.getD, hj']
    rw [e1, e2, List.length_take, List.length_take, Nat.min_eq_left (by omega), Nat.min_eq_left (by omega), Nat.pow_succ]
    have hv := h.val
    have hd := Nat.div_add_mod (l.getD j 0 * u + cc) 1000000000
    have h1 : Wh.R ^ j * ((l.getD j 0 * u + cc) % 1000000000) + Wh.R ^ j * Wh.R * ((l.getD j 0 * u + cc) / 1000000000) = Wh.R ^ j * (l.getD j 0 * u + cc) := by
      rw [Nat.mul_assoc, ← Nat.mul_add, Wh.R_eq]
      congr 1
      omega
    rw [Nat.add_assoc, h1, Nat.mul_add, Nat.add_mul, Nat.mul_assoc]
    omega
  · have : l.getD j 0 * u ≤ 999999999 * 1000000000 := Nat.mul_le_mul (by omega) hu
    have := h.car
    omega
theorem MS.fin {u c : Nat} {l : List Nat} {cc : Nat} {l' : List Nat} (h : MS u c l l.length cc l') : Wh.val l' + Wh.R ^ l'.length * cc = Wh.val l * u + c := by
  have := h.val
  rw [List.take_length, ← h.len, List.take_length] at this
  exact this
abbrev u32s (l : List Nat) : List Value := l.map fun x : Nat => Value.int .u32 (x : Int)
theorem ownsRow_set {W : World} {base n k g c : Nat} {e : TypeId} {xs : List Value} (h : W.ownsRow base e 1 (.slice (some ⟨g, 0, none⟩) n c) n xs) (hk : k < n) (v : Value) :
    (W.setCell ⟨g, k, none⟩ v).ownsRow base e 1 (.slice (some ⟨g, 0, none⟩) n c) n (xs.set k v) ∧ W.frozen? ⟨g, k, none⟩ = false ∧ base ≤ g := by
  rcases h.2 with ⟨h1, _⟩ | ⟨g', cap, cur, h1, h2, h3, h4, h5, h6, h7⟩
  · cases h1
  · cases h1
    have hkc : k < cur.size := by omega
    refine ⟨⟨by rw [List.length_set]; exact h.1, .inr ⟨g, c, cur.setIfInBounds k v, rfl, h2, ?_, h4, h5, by simpa using h6, ?_⟩⟩, ?_, h2⟩
    · simp [World.setCell, Array.getElem?_modify, h3]
    · rw [← h7]
      simp [List.take_set]
    · simp [World.frozen?, h3]
theorem own_sl {W : World} {base n size : Nat} {e : TypeId} {v : Value} {xs : List Value} (h : W.ownsRow base e size v n xs) : ∃ a c, v = .slice a n c := by
  rcases h.2 with ⟨rfl, rfl⟩ | ⟨g, cap, cur, rfl, _⟩
  · exact ⟨_, _, rfl⟩
  · exact ⟨_, _, rfl⟩
theorem infoL : ∃ i, Tryz.prog.info? 134 = some i ∧ i.zero = some (.int .u32 0) ∧ i.size = 1 ∧ i.bytes = 4 := by
  have h : (Tryz.prog.info? 134).map (fun i => (i.zero, i.size, i.bytes)) = some (some (.int .u32 0), 1, 4) := by kernel_rfl
  cases hi : Tryz.prog.info? 134 with
  | none => rw [hi] at h; cases h
  | some i => rw [hi] at h; simp at h; exact ⟨i, rfl, h.1, h.2.1, h.2.2⟩
set_option maxRecDepth 100000 in
set_option maxHeartbeats 1000000 in
theorem appendDigits_any (w : World) (B b : Nat) (v : Value) (l : List Nat) (p : List UInt8) (hown : w.ownsRow B 134 1 v l.length (u32s l)) (hok : Wh.Ok l) (hl : l.length ≤ 10000) (hb : 2 ≤ b ∧ b ≤ 36) (hp : Digs b p) (hpl : p.length ≤ togN b) (hB : B ≤ w.heap.size) :
    Calls Tryz.prog 146 #[v, .string (str p), .int .u32 b] w fun e w' => (∃ v' l', e = .returned v' ∧ w'.ownsRow B 134 1 v' l'.length (u32s l') ∧ Wh.Ok l' ∧ Wh.val l' = Wh.val l * b ^ p.length + numB b p ∧ l'.length ≤ l.length + 1) ∧ Below B w w' := by
  have hdg : ∀ i, i < p.length → dval (p.getD i 0).toNat < b := fun i hi => (hp.at hi).2
  have hlim : ∀ k, k ≤ p.length → numB b (p.take k) < b ^ k ∧ b ^ k ≤ 1000000000 := fun k hk => ⟨numB_lt hdg k hk, Nat.le_trans (Nat.pow_le_pow_right (by omega) (by omega)) (pow_tog b hb.2)⟩
  have HLIM := Lib.hid hlim; clear hlim hdg
  have HP := Lib.hid hp; clear hp
  have HOWN := Lib.hid hown; clear hown
  have HOK := Lib.hid hok; clear hok
  have hsz : (str p).size = p.length := rfl
  have HSZ := Lib.hid hsz; clear hsz
  have hsm : (str p).size ≤ 9 := Nat.le_trans hpl (tog_le b)
  clear hpl
  obtain ⟨sa, sc, rfl⟩ := own_sl HOWN.out
  go_enter Tryz.func146, Tryz.ntmps146
  go_wp2_with fail
  go_loopw [7, 8] (fun u o wr => ∃ pos : Nat, pos ≤ (str p).size ∧ u = .int .u32 (b ^ pos : Nat) ∧ o = .int .u32 (numB b (p.take pos) : Nat) ∧ wr = w.iter (str p) pos) (fun _ _ wr => (str p).size - wr.iterPos w.heap.size)
  case atStart => exact ⟨0, Nat.zero_le _, rfl, rfl, rfl⟩
  case round =>
    obtain ⟨pos, hpos, rfl, rfl, rfl⟩ := hrel
    by_cases hlt : pos < (str p).size
    · obtain ⟨hc1, hc2⟩ := HP.out.at (i := pos) (by rw [← HSZ.out]; exact hlt)
      have hdec := decode_at p pos (by rw [← HSZ.out]; exact hlt) hc1
      have hnx : ∀ ty, (Instr.next (.pointer (some ⟨w.heap.size, 0, none⟩)) true ty).run Tryz.prog (w.iter (str p) pos) = .ok (.tuple #[.bool true, .int .i64 pos, .int .i32 ((p.getD pos 0).toNat : Nat)]) (w.iter (str p) (pos + 1)) := fun ty => by
        rw [run_next_any w (str p) pos ty hlt, hdec]
      clear hdec
      have e1 := numB_take_succ b p pos (by rw [← HSZ.out]; exact hlt)
      have e2 := HLIM.out (pos + 1) (by rw [← HSZ.out]; exact hlt)
      have e3 : b ^ (pos + 1) = b ^ pos * b := Nat.pow_succ ..
      rw [e1, e3] at e2
      have HE1 := Lib.hid e1; have HE3 := Lib.hid e3
      clear e1 e3
      generalize (p.getD pos 0).toNat = c at *
      generalize b ^ pos = U at *
      generalize numB b (p.take pos) = V at *
      have hcu : ((U * b : Nat) : Int) = (U : Int) * (b : Int) := by simp
      have hcv : ((V * b : Nat) : Int) = (V : Int) * (b : Int) := by simp
      have HE2 := Lib.hid e2; clear e2
      go_wp2_with fail
      refine (digitOf_any c hc1 _).mono ?_
      rintro e w' ⟨rfl, rfl⟩
      go_wp2_with fail
      go_roundw
      case rel =>
        have h2 := HE2.out
        exact ⟨pos + 1, by omega, by rw [HE3.out]; congr 1; omega, by rw [HE1.out]; congr 1; omega, rfl⟩
      case measure => simp; omega
    · have hnx : ∀ ty, (Instr.next (.pointer (some ⟨w.heap.size, 0, none⟩)) true ty).run Tryz.prog (w.iter (str p) pos) = _ := fun ty => run_next_end w (str p) pos ty hlt
      have hpe : pos = p.length := by rw [← HSZ.out]; omega
      subst hpe
      have hpw := HLIM.out p.length (Nat.le_refl _)
      rw [List.take_length] at hpw ⊢
      have hB1 : Below w.heap.size w (w.iter (str p) p.length) := (Below.refl _ _).alloc (Nat.le_refl _) _
      have hO1 : (w.iter (str p) p.length).ownsRow B 134 1 (.slice sa l.length sc) l.length (u32s l) := ownsRow_onlyS HOWN.out (OnlyS.of_below (S := fun _ => False) hB1) (fun _ _ h => h)
      have hu : b ^ p.length ≤ 1000000000 := hpw.2
      have hc0 : numB b p < 1000000000 := Nat.lt_of_lt_of_le hpw.1 hpw.2
      clear hpw HLIM HP HOWN
      generalize hUU : b ^ p.length = U at *
      generalize hCC : numB b p = c0 at *
      have HUU := Lib.hid hUU; clear hUU
      have HCC := Lib.hid hCC; clear hCC
      have HM := Lib.hid (MS.start (u := U) HOK.out hc0)
      generalize hn : l.length = n at *
      have HLN := Lib.hid hn; clear hn
      have HO1 := Lib.hid hO1; have HB1 := Lib.hid (hB1.mono hB); clear hO1 hB1
      go_wp2_with fail
      go_loopw [8, 30] (fun cv i wr => ∃ j cc : Nat, ∃ l' : List Nat, j ≤ n ∧ cv = .int .u32 cc ∧ i = .int .i64 j ∧ Hid (MS U c0 l j cc l' ∧ wr.ownsRow B 134 1 (.slice sa n sc) n (u32s l') ∧ Below B w wr)) (fun _ i _ => n - (intOf i).toNat)
      case atStart => exact ⟨0, c0, l, Nat.zero_le _, rfl, rfl, Lib.hid ⟨HM.out, HO1.out, HB1.out⟩⟩
      case round =>
        obtain ⟨j, cc, l', hj, rfl, rfl, HI⟩ := hrel
        by_cases hlt2 : j < n
        · have hd : decide ((j : Int) < (n : Nat)) = true := by rw [decide_eq_true_iff]; omega
          obtain ⟨g, c2, hsl, hgl, hcell⟩ := own_cells HI.out.2.1 (by omega)
          simp only [Value.slice.injEq] at hsl
          obtain ⟨rfl, _, rfl⟩ := hsl
          have hlen : l'.length = n := by rw [HI.out.1.len, HLN.out]
          have hx := hcell j hlt2
          rw [List.getElem?_map, List.getElem?_eq_getElem (by omega)] at hx
          have hgd : l'[j]'(by omega) = l.getD j 0 := by rw [← HI.out.1.rest j (Nat.le_refl j)]; simp [List.getD, show j < l'.length by omega]
          rw [hgd] at hx
          have hx' : wr.cell? ⟨g, j, none⟩ = some (.int .u32 (l.getD j 0 : Nat)) := hx
          clear hx hcell hgd
          have hlx := Wh.getD_lt HOK.out j
          rw [Wh.R_eq] at hlx
          have HST := Lib.hid (HI.out.1.step (by rw [HLN.out]; exact hlt2) hu hlx)
          obtain ⟨ho2, hfz, hBg⟩ := ownsRow_set HI.out.2.1 hlt2 (.int .u32 ((l.getD j 0 * U + cc) % 1000000000 : Nat))
          have HO2 := Lib.hid ho2; clear ho2
          have hcc := HI.out.1.car
          have HT := Lib.hid fun w => times_any w (l.getD j 0) U cc hlx hu hcc
          generalize l.getD j 0 = x at *
          go_wp2_with fail
          refine (HT.out _).mono ?_
          rintro e w5 ⟨rfl, rfl⟩
          go_wp2_with fail
          have e1 : (((x * U + cc) % 1000000000 : Nat) : Int) = ((x : Int) * (U : Int) + (cc : Int)) % 1000000000 := by simp
          have e2 : (((x * U + cc) / 1000000000 : Nat) : Int) = ((x : Int) * (U : Int) + (cc : Int)) / 1000000000 := by simp
          rw [← e1, ← e2]
          go_roundw
          case rel => exact ⟨j + 1, _, _, by omega, rfl, by simp, Lib.hid ⟨HST.out, by rw [u32s, List.map_set]; exact HO2.out, HI.out.2.2.setCell hBg _⟩⟩
          case measure => simp [intOf]; omega
        · have hd : decide ((j : Int) < (n : Nat)) = false := by rw [decide_eq_false_iff_not]; omega
          have hjn : j = l.length := by rw [HLN.out]; omega
          obtain ⟨hm, ho, hbw⟩ := HI.out
          rw [hjn] at hm
          have hcc := hm.car
          have hv := hm.fin
          have hlen : l'.length = n := by rw [hm.len, HLN.out]
          have hok' := hm.ok
          have HR := Lib.hid (And.intro ho (And.intro hbw (And.intro hv (And.intro hlen hok'))))
          clear hm ho hbw hv hok' HI HM HO1 HB1
          by_cases h0 : cc = 0
          · subst h0
            go_wp2
            go_ret
            obtain ⟨ho, hbw, hv, _, hok'⟩ := HR.out
            exact ⟨⟨_, l', rfl, by rw [hlen]; exact ho, hok', by rw [HUU.out, HCC.out, ← hv, Nat.mul_zero, Nat.add_zero], by omega⟩, hbw⟩
          · have hz : ((cc : Int) == 0) = false := by rw [beq_eq_false_iff_ne]; omega
            have hal : Below wr.heap.size wr (wr.alloc (Obj.cells #[.int .u32 cc] 134)) := (Below.refl _ _).alloc (Nat.le_refl _) _
            have hownA : (wr.alloc (Obj.cells #[.int .u32 cc] 134)).ownsRow B 134 1 (.slice sa n sc) n (u32s l') := ownsRow_onlyS HR.out.1 (OnlyS.of_below (S := fun _ => False) hal) (fun _ _ h => h)
            obtain ⟨inf, i1, i2, i3, i4⟩ := infoL
            have hcellA : ∀ (j : Nat) (u : Value), [Value.int .u32 (cc : Int)][j]? = some u → (wr.alloc (Obj.cells #[.int .u32 cc] 134)).cell? ((⟨wr.heap.size, 0, none⟩ : Addr).add j) = some u := by
              intro j u hj
              cases j with
              | zero => cases hj; show (wr.alloc (Obj.cells #[.int .u32 cc] 134)).cell? ⟨wr.heap.size, 0, none⟩ = _; go_simp
              | succ j => cases j <;> cases hj
            have hzA : B ≤ (wr.alloc (Obj.cells #[.int .u32 cc] 134)).heap.size := Nat.le_trans (Nat.le_trans hB HR.out.2.1.size) hal.size
            have hone : ∀ u ∈ [Value.int .u32 (cc : Int)], u.oneCell' = true := by intro u hu; rw [List.mem_singleton.1 hu]; rfl
            have hmx : n + 1 ≤ maxLen := by simp only [maxLen]; omega
            have hbt : (n + 1) * 4 ≤ 140737488355328 := by omega
            go_wp2_with (at_builtin; refine wpList_append_own _ rfl _ _ 62 rfl B 134 inf (.int .u32 0) 1 4 Tryz.underlying62 i1 i2 i3 i4 rfl (by decide) (.slice sa n sc) n _ rfl hownA ⟨wr.heap.size, 0, none⟩ 1 1 [Value.int .u32 (cc : Int)] rfl rfl hcellA hone hmx hbt hzA ?_)
            intro v' W3 ho3 hg3 hnil
            clear hnil hone hmx hbt
            have hgo := grownBy_onlyS hg3
            have hb3 : Below B w W3 := (HR.out.2.1.trans (hal.mono (Nat.le_trans hB HR.out.2.1.size))).trans (hgo.below (B := B) (fun k hk => ownBlock_ge hownA hk) hzA)
            have HP3 : Hid (W3.ownsRow B 134 1 v' (n + 1) (u32s (l' ++ [cc])) ∧ Below B w W3) := Lib.hid ⟨by rw [u32s, List.map_append]; exact ho3, hb3⟩
            clear hal hownA hcellA hzA hgo hg3 ho3 hb3 i1 i2 i3 i4
            go_wp2
            go_ret
            obtain ⟨_, _, hv, _, hok'⟩ := HR.out
            refine ⟨⟨_, l' ++ [cc], rfl, by rw [List.length_append, List.length_singleton, hlen]; exact HP3.out.1, fun y hy => ?_, by rw [HUU.out, HCC.out, Wh.val_snoc, ← hv], by rw [List.length_append, List.length_singleton]; omega⟩, HP3.out.2⟩
            rcases List.mem_append.1 hy with h | h
            · exact hok' y h
            · rw [List.mem_singleton.1 h, Wh.R_eq]; exact hcc
end Go.Proofs.YtmdfjnmakppknaaGreatDoor

/- WALKS, the number of digits in a base 2: Width, OfBase. -/
namespace Go.Proofs.YtmdfjnmakppknaaGreatDoor
open Go.RowKit Go.Proofs.Rf
set_option maxHeartbeats 400000 in
theorem width_from (s : ByteArray) (sg : Int) (d : List UInt8) (b : Nat) (w : World) (hsp : ∀ w, Calls Tryz.prog 144 #[.string s, .int .i64 b] w fun e w' => e = .returned (.tuple #[.int .i64 sg, .string (str d)]) ∧ Below w.heap.size w w') :
    Calls Tryz.prog 94 #[.string s, .int .i64 b] w fun e w' => e = .returned (.int .i64 d.length) ∧ Below w.heap.size w w' := by
  have HSP := Lib.hid hsp; clear hsp
  go_enter Tryz.func94, Tryz.ntmps94
  go_wp2_with fail
  refine (HSP.out _).mono ?_
  rintro e w1 ⟨rfl, hb1⟩
  go_wp2
  go_ret
  exact ⟨rfl, hb1⟩
theorem numB_append (b : Nat) (x y : List UInt8) : numB b (x ++ y) = numB b x * b ^ y.length + numB b y := by
  have h : ∀ (y : List UInt8) (a : Nat), y.foldl (fun a c => a * b + dval c.toNat) a = a * b ^ y.length + y.foldl (fun a c => a * b + dval c.toNat) 0 := by
    intro y
    induction y with
    | nil => intro a; simp
    | cons c r ih =>
      intro a
      rw [List.foldl_cons, List.foldl_cons, ih, ih (0 * b + dval c.toNat), List.length_cons, Nat.pow_succ, Nat.zero_mul, Nat.zero_add, Nat.add_mul, Nat.mul_assoc, Nat.mul_comm b, Nat.add_assoc]
  show (x ++ y).foldl _ 0 = _
  rw [List.foldl_append, h]
  rfl
theorem numB_part (b k m : Nat) (d : List UInt8) (h : k + m ≤ d.length) : numB b (d.take (k + m)) = numB b (d.take k) * b ^ m + numB b ((d.drop k).take m) := by
  rw [List.take_add, numB_append, List.length_take, List.length_drop, Nat.min_eq_left (by omega)]
theorem digs_part {b : Nat} {d : List UInt8} (h : Digs b d) (k m : Nat) : Digs b ((d.drop k).take m) := fun c hc => h c (List.mem_of_mem_drop (List.mem_of_mem_take hc))
theorem sl_of_own {W : World} {base : Nat} {v : Value} {l : List Nat} (h : W.ownsRow base 134 1 v l.length (u32s l)) : Sl W v l := by
  rcases h.2 with ⟨rfl, hn⟩ | ⟨g, cap, cur, rfl, hg, hh, hnc, hcm, hcs, htake⟩
  · exact .inl ⟨List.length_eq_zero_iff.1 hn, rfl⟩
  · refine .inr ⟨g, 0, cap, rfl, hnc, (Array.getElem?_eq_some_iff.1 hh).1, fun i hi => ?_⟩
    have e : (u32s l)[i]? = cur.toList[i]? := by rw [← htake, Nat.mul_one, List.getElem?_take_of_lt hi]
    rw [Nat.zero_add]
    have e2 : W.cell? ⟨g, i, none⟩ = cur[i]? := by simp [World.cell?, hh]
    rw [e2, ← Array.getElem?_toList, ← e, List.getElem?_map, List.getElem?_eq_getElem hi]
    simp [List.getD, hi]
def szOf : Value → Nat
  | .string s => s.size
  | _ => 0
set_option maxRecDepth 100000 in
set_option maxHeartbeats 1000000 in
theorem ofbase_from (s : ByteArray) (sg : Int) (d : List UInt8) (b : Nat) (w : World) (hsp : ∀ w, Calls Tryz.prog 144 #[.string s, .int .i64 b] w fun e w' => e = .returned (.tuple #[.int .i64 sg, .string (str d)]) ∧ Below w.heap.size w w')
    (hb : 2 ≤ b ∧ b ≤ 36) (hd : Digs b d) (hm : d.length ≤ 1329) (hsg : sg = -1 ∨ sg = 1) :
    Calls Tryz.prog 95 #[.string s, .int .i64 b] w fun e w' => (∃ v', e = .returned v' ∧ Num w' v' (sg * (numB b d : Int))) ∧ Below w.heap.size w w' := by
  have HSP := Lib.hid hsp; clear hsp
  have HD := Lib.hid hd; clear hd
  have HSG := Lib.hid hsg; clear hsg
  have hsz : (str d).size = d.length := rfl
  generalize hL : d.length = L at *
  have HL := Lib.hid hL; clear hL
  have htg := tog_le b
  have htg1 : 1 ≤ togN b := by unfold togN; split <;> (try split) <;> (try split) <;> (try split) <;> omega
  go_enter Tryz.func95, Tryz.ntmps95
  go_wp2_with fail
  refine (HSP.out _).mono ?_
  rintro e w1 ⟨rfl, hb1⟩
  have HB1 := Lib.hid hb1; clear hb1
  go_wp2_with fail
  refine (together_any _ b hb.2).mono ?_
  rintro e w2 ⟨rfl, rfl⟩
  generalize hT : togN b = T at *
  have HT := Lib.hid hT; clear hT
  have hB1 : Below (w.heap.size + 1) (w.alloc (Obj.cells #[Value.int IntKind.i64 0, Value.slice none 0 0] 64)) w1 := by simpa using HB1.out
  have hO1 : w1.ownsRow (w.heap.size + 1) 134 1 (.slice none 0 0) ([] : List Nat).length (u32s []) := World.ownsRow_nil _ _ _ _
  have HI0 : Hid (w1.ownsRow (w.heap.size + 1) 134 1 (.slice none 0 0) ([] : List Nat).length (u32s []) ∧ Wh.Ok [] ∧ Wh.val [] = numB b (d.take 0) ∧ ([] : List Nat).length ≤ 0 ∧ Below (w.heap.size + 1) (w.alloc (Obj.cells #[Value.int IntKind.i64 0, Value.slice none 0 0] 64)) w1) :=
    Lib.hid ⟨hO1, (fun x hx => absurd hx (by simp)), rfl, Nat.le_refl _, hB1⟩
  clear hB1 hO1 HB1
  go_wp2_with fail
  go_loopw [6, 7, 8] (fun dg lv ct wr => ∃ k c : Nat, ∃ l : List Nat, k ≤ L ∧ dg = .string (str (d.drop k)) ∧ ct = .int .i64 c ∧ 1 ≤ c ∧ c ≤ T ∧ Hid (wr.ownsRow (w.heap.size + 1) 134 1 lv l.length (u32s l) ∧ Wh.Ok l ∧ Wh.val l = numB b (d.take k) ∧ l.length ≤ k ∧ Below (w.heap.size + 1) (w.alloc (Obj.cells #[Value.int IntKind.i64 0, Value.slice none 0 0] 64)) wr)) (fun dg _ _ _ => szOf dg)
  case atStart => exact ⟨0, T, [], Nat.zero_le _, rfl, rfl, htg1, Nat.le_refl _, HI0⟩
  case round =>
    obtain ⟨k, c, l, hk, rfl, rfl, hc1, hc2, HI⟩ := hrel
    obtain ⟨sa, sc, rfl⟩ := own_sl HI.out.1
    have hdl : (d.drop k).length = L - k := by rw [List.length_drop, HL.out]
    have hsd : (str (d.drop k)).size = L - k := hdl
    by_cases hlt : k < L
    · have hne : ((str (d.drop k)).toList == []) = false := by
        rw [Lib.toList_data, str_data, beq_eq_false_iff_ne]
        intro e
        rw [e] at hdl
        simp at hdl
        omega
      obtain ⟨m, hm⟩ : ∃ m, m = min c (L - k) := ⟨_, rfl⟩
      have hm1 : 1 ≤ m ∧ m ≤ c ∧ k + m ≤ L := by omega
      have hx1 : (str (d.drop k)).extract 0 m = str ((d.drop k).take m) := eq_str (by rw [Lib.extract_data, str_data]; simp)
      have hx2 : (str (d.drop k)).extract m (L - k) = str (d.drop (k + m)) := eq_str (by rw [← hsd, Lib.extract_to_end, str_data, List.drop_drop])
      have hmin : min (c : Int) ((L - k : Nat) : Int) = (m : Int) := by omega
      have hpl : ((d.drop k).take m).length ≤ togN b := by rw [List.length_take, HT.out]; omega
      have hpm : ((d.drop k).take m).length = m := by rw [List.length_take, hdl]; omega
      have hBs : w.heap.size + 1 ≤ wr.heap.size := by have := HI.out.2.2.2.2.size; simpa using this
      have HAD := Lib.hid (appendDigits_any wr (w.heap.size + 1) b _ l _ HI.out.1 HI.out.2.1 (by have := HI.out.2.2.2.1; omega) hb (digs_part HD.out k m) hpl hBs)
      have hnp := numB_part b k m d (by rw [HL.out]; exact hm1.2.2)
      rw [hpm] at HAD
      have HNP := Lib.hid hnp; clear hnp hpl hpm
      have hml : m ≤ L - k := by omega
      have hmz : (m : Int).toNat = m := by simp
      clear hdl hm
      go_wp2_with fail
      refine HAD.out.mono ?_
      rintro e w3 ⟨⟨v', l', rfl, ho', hok', hv', hln'⟩, hb3⟩
      have HN2 : Hid (w3.ownsRow (w.heap.size + 1) 134 1 v' l'.length (u32s l') ∧ Wh.Ok l' ∧ Wh.val l' = numB b (d.take (k + m)) ∧ l'.length ≤ k + m ∧ Below (w.heap.size + 1) (w.alloc (Obj.cells #[Value.int IntKind.i64 0, Value.slice none 0 0] 64)) w3) :=
        Lib.hid ⟨ho', hok', by rw [hv', HI.out.2.2.1, HNP.out], by have := HI.out.2.2.2.1; omega, HI.out.2.2.2.2.trans hb3⟩
      clear ho' hok' hv' hln' hb3 HAD
      go_wp2_with fail
      refine ⟨⟨k + m, m, l', hm1.2.2, rfl, rfl, by omega, by omega, HN2⟩, ?_⟩
      show (d.drop (k + m)).length < (d.drop k).length
      rw [List.length_drop, List.length_drop, HL.out]
      omega
    · obtain rfl : k = L := by omega
      have hne : ((str (d.drop k)).toList == []) = true := by
        rw [Lib.toList_data, str_data, beq_iff_eq]
        exact List.drop_eq_nil_of_le (by rw [HL.out]; exact Nat.le_refl _)
      obtain ⟨ho, hok, hv, hln, hbw⟩ := HI.out
      rw [← HL.out, List.take_length] at hv
      have hsl := sl_of_own ho
      have HSL := Lib.hid hsl
      have HV := Lib.hid hv
      have HBW := Lib.hid hbw
      clear hsl hv hbw ho HI hdl hsd
      go_wp2_with fail
      refine (signed_len sg _ l _ hok HSL.out (by omega) (by rcases HSG.out with h | h; exact .inl h; exact .inr (.inl h))).mono ?_
      rintro e w2 ⟨⟨v', rfl, hnum⟩, hb2⟩
      rw [HV.out] at hnum
      obtain ⟨x, hx⟩ : ∃ x : Int, x = sg * (numB b d : Int) := ⟨_, rfl⟩
      rw [← hx] at hnum
      have HX := Lib.hid hx; clear hx
      obtain ⟨sl, rfl, hsl⟩ := hnum
      obtain ⟨xa, xc, rfl⟩ := hsl.len
      have hw2 : Below (w.heap.size + 1) (w.alloc (Obj.cells #[Value.int IntKind.i64 0, Value.slice none 0 0] 64)) w2 := HBW.out.trans (hb2.mono (by have := HBW.out.size; simpa using this))
      obtain ⟨k0, k1, g0, g1⟩ := res_keep rfl hw2
      have hbb : Below w.heap.size w w2 := ((Below.refl _ _).alloc (Nat.le_refl _) _).trans (hw2.mono (Nat.le_succ _))
      clear hb2 hw2
      go_wp2
      have hfin := two_cells w2 w.heap.size (.int .i64 (Int.sign x)) (.slice xa (Wh.limbs x.natAbs).length xc) k0 k1
      exact bodyPost_ret (v := .agg #[.int .i64 (Int.sign x), .slice xa (Wh.limbs x.natAbs).length xc]) (by simp [results, Tryz.results95, go_sem, hfin.1, hfin.2]) rfl ⟨⟨_, rfl, by rw [← HX.out]; exact ⟨_, rfl, hsl.store2 _ k0 k1 _ _⟩⟩, (hbb.setCell (Nat.le_refl _) _).setCell (Nat.le_refl _) _⟩
end Go.Proofs.YtmdfjnmakppknaaGreatDoor

/- WALKS, the number of digits in a base 3: FromBase. -/
namespace Go.Proofs.YtmdfjnmakppknaaGreatDoor
open Go.RowKit Go.Proofs.Rf
set_option maxRecDepth 100000 in
set_option maxHeartbeats 1000000 in
theorem frombase_work (w : World) (pa pb : Addr) (s : ByteArray) (sg : Int) (d : List UInt8) (b : Nat) (ha : w.cell? pa = some (.int .i64 b)) (hb : w.cell? pb = some (.string s)) (hla : pa.block < w.heap.size) (hlb : pb.block < w.heap.size)
    (hsp : ∀ w, Calls Tryz.prog 144 #[.string s, .int .i64 b] w fun e w' => e = .returned (.tuple #[.int .i64 sg, .string (str d)]) ∧ Below w.heap.size w w')
    (hb2 : 2 ≤ b ∧ b ≤ 36) (hd : Digs b d) (hm : d.length ≤ 1329) (hsg : sg = -1 ∨ sg = 1) (z : Int) (hz : sg * (numB b d : Int) = z) (hv : Valid z) (htab : Tab w) :
    Calls Tryz.prog 93 #[.pointer (some pa), .pointer (some pb)] w fun e w' => e = .returned (txt z) ∧ Below w.heap.size w w' := by
  have g1 : decide (2 ≤ (b : Int)) = true := by rw [decide_eq_true_iff]; omega
  have g2 : decide ((b : Int) ≤ 36) = true := by rw [decide_eq_true_iff]; omega
  have g3 : decide ((d.length : Int) ≤ 1329) = true := by rw [decide_eq_true_iff]; omega
  have HW := Lib.hid (fun w => width_from s sg d b w hsp)
  have HO := Lib.hid (fun w => ofbase_from s sg d b w hsp hb2 hd hm hsg)
  have HZ := Lib.hid hz; have HV := Lib.hid hv; have HT := Lib.hid htab
  clear hsp hd hm hsg hz hv htab hb2
  generalize d.length = L at *
  go_enter Tryz.func93, Tryz.ntmps93
  go_wp2_with fail
  refine (demand_yes _ _).mono ?_
  rintro e w1 ⟨rfl, rfl⟩
  go_wp2_with fail
  refine (HW.out _).mono ?_
  rintro e w2 ⟨rfl, hB2⟩
  go_wp2_with fail
  refine (demand_yes _ _).mono ?_
  rintro e w3 ⟨rfl, rfl⟩
  have ka := (hB2.cell hla).trans ha
  have kb := (hB2.cell hlb).trans hb
  go_wp2_with fail
  refine (HO.out _).mono ?_
  rintro e w4 ⟨⟨v', rfl, hn⟩, hB4⟩
  rw [HZ.out] at hn
  have HB4 := Lib.hid (hB2.trans (hB4.mono hB2.size))
  obtain ⟨sl, rfl, hsl⟩ := hn
  obtain ⟨xa, xc, rfl⟩ := hsl.len
  have HWT := Lib.hid (wtext_any w4 _ z ⟨_, rfl, hsl⟩ (HT.out.mono HB4.out) HV.out)
  clear hsl
  generalize z.sign = zs at *
  generalize (Wh.limbs z.natAbs).length = zl at *
  unfold txt at *
  go_wp2_with fail
  refine HWT.out.mono ?_
  rintro e w5 ⟨rfl, hb5⟩
  go_wp2
  go_ret
  exact ⟨rfl, HB4.out.trans (hb5.mono HB4.out.size)⟩
set_option maxHeartbeats 400000 in
theorem FromBase_any (w : World) (s : ByteArray) (sg : Int) (d : List UInt8) (b : Nat)
    (hsp : ∀ w, Calls Tryz.prog 144 #[.string s, .int .i64 b] w fun e w' => e = .returned (.tuple #[.int .i64 sg, .string (str d)]) ∧ Below w.heap.size w w')
    (hb2 : 2 ≤ b ∧ b ≤ 36) (hd : Digs b d) (hm : d.length ≤ 1329) (hsg : sg = -1 ∨ sg = 1) (z : Int) (hz : sg * (numB b d : Int) = z) (hv : Valid z) (htab : Tab w) :
    Calls Tryz.prog 35 #[.string s, .int .i64 b] w fun e w' => e = .returned (.tuple #[txt z, .int .i64 0]) ∧ Below w.heap.size w w' := by
  have hmf : ∀ (fn : Fn) (first cap : Array Value) (w : World), (Instr.makeFunc fn first cap).run Tryz.prog w = .ok (.func fn first cap) w := fun _ _ _ _ => rfl
  have hat := fun (w : World) (pa pb : Addr) (ka : w.cell? pa = some (.int .i64 b)) (kb : w.cell? pb = some (.string s)) (htab : Tab w) (ha : pa.block < w.heap.size) (hb : pb.block < w.heap.size) => attempt_good 93 #[.pointer (some pa), .pointer (some pb)] (str (Wh.decI z)) w (fun w => by kernel_rfl) (fun w' hb' => frombase_work w' pa pb s sg d b ((hb'.cell ha).trans ka) ((hb'.cell hb).trans kb) (Nat.lt_of_lt_of_le ha hb'.size) (Nat.lt_of_lt_of_le hb hb'.size) hsp hb2 hd hm hsg z hz hv (htab.mono hb'))
  have HAT := Lib.hid hat; clear hat
  have HTB := Lib.hid htab; clear htab
  clear hsp hb2 hd hm hsg hz hv
  unfold txt at *
  go_enter Tryz.func35, Tryz.ntmps35
  go_wp2_with fail
  have hal : Below w.heap.size w ((w.alloc (.cells #[.string s] 9)).alloc (.cells #[.int .i64 b] 3)) := ((Below.refl _ _).alloc (Nat.le_refl _) _).alloc (by simp) _
  have b0 : ((w.alloc (.cells #[.string s] 9)).alloc (.cells #[.int .i64 b] 3)).cell? ⟨w.heap.size, 0, none⟩ = some (.string s) := by go_simp
  have b1 : ((w.alloc (.cells #[.string s] 9)).alloc (.cells #[.int .i64 b] 3)).cell? ⟨w.heap.size + 1, 0, none⟩ = some (.int .i64 b) := by go_simp
  refine (HAT.out _ _ _ b1 b0 (HTB.out.mono hal) (by simp) (by simp; omega)).mono ?_
  rintro e w2 ⟨rfl, hb2⟩
  have hbb := hal.trans (hb2.mono hal.size)
  clear hal b0 b1 hb2
  go_wp2
  go_ret2
  exact ⟨rfl, hbb⟩
end Go.Proofs.YtmdfjnmakppknaaGreatDoor

/- WALKS, the number of digits in a base 4: a number's digits in a base are read back; base ten is the number itself. -/
namespace Go.Proofs.YtmdfjnmakppknaaGreatDoor
open Go.RowKit Go.Proofs.Rf
def dgs (b n : Nat) : List UInt8 := ((Wh.dg b n).map charU).reverse
theorem dgs_zero (b : Nat) : dgs b 0 = [] := by rw [dgs, Wh.dg_zero]; rfl
theorem dgs_pos {b n : Nat} (hb : 2 ≤ b) (hn : 0 < n) : dgs b n = dgs b (n / b) ++ [charU (n % b)] := by
  rw [dgs, Wh.dg_pos hb hn, List.map_cons, List.reverse_cons]; rfl
theorem charU_facts : ∀ d : Fin 36, (charU d.val).toNat < 128 ∧ dval (charU d.val).toNat = d.val ∧ charU d.val ≠ 45 ∧ (d.val ≠ 0 → charU d.val ≠ 48) := by decide
theorem charU_at {b d : Nat} (hb : b ≤ 36) (hd : d < b) : (charU d).toNat < 128 ∧ dval (charU d).toNat = d ∧ charU d ≠ 45 ∧ (d ≠ 0 → charU d ≠ 48) := charU_facts ⟨d, by omega⟩
theorem dgs_digs {b n : Nat} (hb : 2 ≤ b ∧ b ≤ 36) : Digs b (dgs b n) := by
  intro c hc
  rw [dgs, List.mem_reverse, List.mem_map] at hc
  obtain ⟨d, hd, rfl⟩ := hc
  have hl := Wh.dg_lt hb.1 n d hd
  obtain ⟨h1, h2, _⟩ := charU_at hb.2 hl
  exact ⟨h1, by omega⟩
theorem dgs_val {b : Nat} (hb : 2 ≤ b ∧ b ≤ 36) (n : Nat) : numB b (dgs b n) = n := by
  induction n using Nat.strongRecOn with
  | ind n ih =>
    rcases Nat.eq_zero_or_pos n with h | h
    · subst h; rw [dgs_zero]; rfl
    · rw [dgs_pos hb.1 h, numB_snoc, ih _ (Nat.div_lt_self h (by omega)), (charU_at hb.2 (Nat.mod_lt n (by omega))).2.1, Nat.mul_comm]
      exact Nat.div_add_mod n b
theorem dgs_head {b : Nat} (hb : 2 ≤ b ∧ b ≤ 36) (n : Nat) (hn : 0 < n) : ∃ c r, dgs b n = c :: r ∧ c ≠ 48 ∧ c ≠ 45 := by
  induction n using Nat.strongRecOn with
  | ind n ih =>
    rw [dgs_pos hb.1 hn]
    rcases Nat.eq_zero_or_pos (n / b) with h | h
    · rw [h, dgs_zero]
      have hlt : n < b := (Nat.div_eq_zero_iff_lt (by omega)).1 h
      obtain ⟨_, _, h3, h4⟩ := charU_at hb.2 (Nat.mod_lt n (show b > 0 by omega))
      exact ⟨_, [], rfl, h4 (by rw [Nat.mod_eq_of_lt hlt]; omega), h3⟩
    · obtain ⟨c, r, e, h1, h2⟩ := ih _ (Nat.div_lt_self hn (by omega)) h
      exact ⟨c, r ++ [charU (n % b)], by rw [e]; rfl, h1, h2⟩
theorem dgs_ten (n : Nat) (hn : 0 < n) : dgs 10 n = Wh.decN n := by
  induction n using Nat.strongRecOn with
  | ind n ih =>
    have hc : ∀ d, d < 10 → charU d = UInt8.ofNat (48 + d) := by
      intro d hd
      have : ∀ d : Fin 10, charU d.val = UInt8.ofNat (48 + d.val) := by decide
      exact this ⟨d, hd⟩
    rw [dgs_pos (by decide) hn, hc _ (Nat.mod_lt _ (by decide))]
    by_cases h : n < 10
    · rw [Wh.decN_small h, show n / 10 = 0 by omega, dgs_zero, Nat.mod_eq_of_lt h]; rfl
    · rw [Wh.decN_big h, ih _ (by omega) (by omega)]
/-- the digits as they are written: the sign ahead -/
def inB (b : Nat) (x : Int) : List UInt8 := if x = 0 then [48] else (if x < 0 then [45] else []) ++ dgs b x.natAbs
theorem inB_ten (x : Int) : inB 10 x = Wh.decI x := by
  unfold inB Wh.decI
  by_cases h0 : x = 0
  · subst h0; rw [if_pos rfl, if_neg (by decide)]; exact Wh.decN_zero.symm
  · rw [if_neg h0, dgs_ten _ (by omega)]
    by_cases h : x < 0
    · rw [if_pos h, if_pos h]; rfl
    · rw [if_neg h, if_neg h]; rfl
set_option maxHeartbeats 400000 in
theorem inbase_zero (w : World) (xa : Option Addr) (xn xc b : Nat) :
    Calls Tryz.prog 92 #[.agg #[.int .i64 0, .slice xa xn xc], .int .i64 b] w fun e w' => e = .returned (.string ⟨#[48]⟩) ∧ Below w.heap.size w w' := by
  refine callsIn_wide.1 (callsIn_of_wp_marks (n := 3) Tryz.func92 rfl trivial (wpIn_wide.2 ?_) rfl)
  simp only [Tryz.ntmps92, List.size_toArray, List.length_cons, List.length_nil, Nat.reduceAdd, Nat.reduceSub, Array.replicate_succ, Array.replicate_zero, List.push_toArray, List.append_toArray, List.nil_append, List.cons_append]
  go_wp2_with fail
  exact ⟨.string ⟨#[48]⟩, by simp [results, Tryz.results92, go_sem], rfl, (Below.refl _ _).alloc (Nat.le_refl _) _⟩
theorem dgs_len {b : Nat} (hb : 2 ≤ b) (x : Int) (hx : x.natAbs < 10 ^ 30) : (dgs b x.natAbs).length ≤ 100 := by
  rw [dgs, List.length_reverse, List.length_map]
  exact Wh.dg_length (k := 100) hb _ (Nat.lt_of_lt_of_le hx (Nat.le_trans (by decide : 10 ^ 30 ≤ 2 ^ 100) (Nat.pow_le_pow_left hb 100)))
theorem valid30 (x : Int) (hx : x.natAbs < 10 ^ 30) : Valid x := Nat.le_trans (Wh.decN_length_le (k := 30) (by decide) hx) (by decide)
theorem inbase_txt (x : Int) (b : Nat) (hb : 2 ≤ b ∧ b ≤ 36) (hx : x.natAbs < 10 ^ 30) (w : World) (xa : Option Addr) (xc : Nat) (h1 : Sl w (.slice xa (Wh.limbs x.natAbs).length xc) (Wh.limbs x.natAbs)) :
    Calls Tryz.prog 92 #[.agg #[.int .i64 x.sign, .slice xa (Wh.limbs x.natAbs).length xc], .int .i64 b] w fun e w' => e = .returned (.string (str (inB b x))) ∧ Below w.heap.size w w' := by
  by_cases h0 : x = 0
  · subst h0
    exact inbase_zero w xa _ xc b
  · have := inbase_any w x b xa _ xc h1 hb h0 (Nat.le_trans (limbs_valid (valid30 x hx)) (by decide)) (by have := dgs_len hb.1 x hx; rw [dgs, List.length_reverse, List.length_map] at this; omega)
    rw [inB, if_neg h0]
    exact this
theorem Base_txt (w : World) (x : Int) (b : Nat) (hb : 2 ≤ b ∧ b ≤ 36) (hx : x.natAbs < 10 ^ 30) (htab : Tab w) :
    Calls Tryz.prog 34 #[txt x, .int .i64 b] w fun e w' => e = .returned (.tuple #[.string (str (inB b x)), .int .i64 0]) ∧ Below w.heap.size w w' :=
  Base_any w x b _ (valid30 x hx) hb (fun w xa xc h => inbase_txt x b hb hx w xa xc h) htab
theorem FromBase_txt (w : World) (x : Int) (b : Nat) (hb : 2 ≤ b ∧ b ≤ 36) (hx : x.natAbs < 10 ^ 30) (htab : Tab w) :
    Calls Tryz.prog 35 #[.string (str (inB b x)), .int .i64 b] w fun e w' => e = .returned (.tuple #[txt x, .int .i64 0]) ∧ Below w.heap.size w w' := by
  have hv := valid30 x hx
  have hln := dgs_len hb.1 x hx
  unfold inB
  by_cases h0 : x = 0
  · subst h0
    rw [if_pos rfl]
    have hd : Digs b [48] := fun c hc => by
      rw [List.mem_singleton.1 hc]
      exact ⟨by decide, Nat.lt_of_lt_of_le (by decide : dval (48 : UInt8).toNat < 2) hb.1⟩
    exact FromBase_any w _ 1 [48] b (fun w => split_pos [48] b hd (by decide) (by decide) (by decide) (.inr rfl) w) hb hd (by decide) (.inr rfl) 0 (by simp [numB, dval]) hv htab
  · rw [if_neg h0]
    have hd := dgs_digs (b := b) (n := x.natAbs) hb
    obtain ⟨c, r, e, h48, h45⟩ := dgs_head hb x.natAbs (by omega)
    have hval := dgs_val hb x.natAbs
    by_cases h : x < 0
    · rw [if_pos h]
      exact FromBase_any w _ (-1) (dgs b x.natAbs) b (fun w => split_neg _ b hd (by rw [e]; simp) (by omega) (by rw [e]; simpa using h48) w) hb hd (by omega) (.inl rfl) x (by rw [hval]; omega) hv htab
    · rw [if_neg h]
      exact FromBase_any w _ 1 (dgs b x.natAbs) b (fun w => split_pos _ b hd (by rw [e]; simp) (by omega) (by rw [e]; simpa using h45) (.inl (by rw [e]; simpa using h48)) w) hb hd (by omega) (.inr rfl) x (by rw [hval]; omega) hv htab
end Go.Proofs.YtmdfjnmakppknaaGreatDoor
