/- Part 4 of the proofs that laws of package whole answer true at every input and leave the input as it was, where the library's variables start as the text lays them (the texts A14, A15, A16, A17). -/
import Derived.Test.YteaeloeebfdodaaGreatDoorX03
import Derived.Lib.SliceRun
set_option linter.unusedVariables false
set_option linter.unusedSimpArgs false
/- WALKS, part 14: addProduct, the walk. -/
namespace Go.Proofs.YteaeloeebfdodaaGreatDoor
open Go.RowKit
theorem prod_bound {x y : Nat} (hx : x < 1000000000) (hy : y < 1000000000) : 0 ≤ (x : Int) * (y : Int) ∧ (x : Int) * (y : Int) ≤ 999999998000000001 := by
  have : x * y ≤ 999999999 * 999999999 := Nat.mul_le_mul (by omega) (by omega)
  rw [← Int.natCast_mul]; omega
theorem cast_div (x y o c : Nat) : ((x : Int) * (y : Int) + (o : Int) + (c : Int)) / 1000000000 = (((x * y + o + c) / 1000000000 : Nat) : Int) := by
  rw [← Int.natCast_mul, ← Int.natCast_add, ← Int.natCast_add]; rfl
theorem cast_mod (x y o c : Nat) : ((x : Int) * (y : Int) + (o : Int) + (c : Int)) % 1000000000 = (((x * y + o + c) % 1000000000 : Nat) : Int) := by
  rw [← Int.natCast_mul, ← Int.natCast_add, ← Int.natCast_add]; rfl
set_option maxRecDepth 100000 in
set_option maxHeartbeats 1000000 in
theorem addProduct_any (w : World) (rb cap : Nat) (v1 v2 : Value) (l1 l2 : List Nat) (h1 : Sl w v1 l1) (h2 : Sl w v2 l2) (ha1 : Apart rb v1) (ha2 : Apart rb v2) (ho1 : Wh.Ok l1) (ho2 : Wh.Ok l2)
    (hown : Own w rb (List.replicate (l1.length + l2.length) 0)) (hcap : l1.length + l2.length ≤ cap) (hm : cap ≤ 100000) :
    Calls Tryz.prog 259 #[.slice (some ⟨rb, 0, none⟩) (l1.length + l2.length) cap, v1, v2] w fun e w' => e = .returned (.tuple #[]) ∧ ∃ l, Rows1 w w' rb l1 l2 l1.length l := by
  obtain ⟨a1, c1, rfl, hc1⟩ := h1.addr2 ha1
  obtain ⟨a2, c2, rfl, hc2⟩ := h2.addr2 ha2
  clear h1 h2 ha1 ha2
  have HC1 := Lib.hid hc1; clear hc1
  have HC2 := Lib.hid hc2; clear hc2
  have HO1 := Lib.hid ho1; clear ho1
  have HO2 := Lib.hid ho2; clear ho2
  have HR := Lib.hid (Rows1.begin hown); clear hown
  generalize hn1 : l1.length = n1 at *
  generalize hn2 : l2.length = n2 at *
  have HN1 := Lib.hid hn1; clear hn1
  have HN2 := Lib.hid hn2; clear hn2
  go_enter Tryz.func259, Tryz.ntmps259
  go_wp2_with fail
  go_loopw [15] (fun i wr => ∃ k : Nat, ∃ l : List Nat, k ≤ n1 ∧ i = .int .i64 k ∧ Hid (Rows1 w wr rb l1 l2 k l)) (fun i _ => n1 - (intOf i).toNat)
  case atStart => exact ⟨0, _, Nat.zero_le _, rfl, HR⟩
  case round =>
    obtain ⟨k, l, hk, rfl, HL⟩ := hrel
    by_cases hlt : k < n1
    · obtain ⟨b1, off1, rfl, hne1, hbl1, hcell1⟩ := HC1.out k hlt
      have hcx := (HL.out.only.cell (p := ⟨b1, off1 + k, none⟩) hne1 hbl1).trans (hcell1 k hlt)
      clear hcell1
      have hx := Wh.getD_lt HO1.out k
      rw [Wh.R_eq] at hx
      generalize hxx : l1.getD k 0 = x at *
      have HX := Lib.hid hxx; clear hxx
      go_wp2_with fail
      rw [show k + n2 + 1 - k = n2 + 1 from by omega]
      have HB := Lib.hid (HL.out.row x)
      obtain ⟨wo, hwo⟩ : ∃ wo : World, wo = wr := ⟨_, rfl⟩
      subst hwo
      go_loopw [9, 35] (fun c i wi => ∃ j cc : Nat, ∃ l' : List Nat, j ≤ n2 ∧ i = .int .i64 j ∧ c = .int .u64 cc ∧ cc < 1000000000 ∧ Hid (Rows2 w wi rb l1 l2 k x j cc l')) (fun _ i _ => n2 - (intOf i).toNat)
      case atStart => exact ⟨0, 0, _, Nat.zero_le _, rfl, rfl, by decide, HB⟩
      case round =>
        obtain ⟨j, cc, l', hj, rfl, rfl, hcc, HI⟩ := hrel
        by_cases hlt2 : j < n2
        · obtain ⟨b2, off2, rfl, hne2, hbl2, hcell2⟩ := HC2.out j hlt2
          have hcy := (HI.out.only.cell (p := ⟨b2, off2 + j, none⟩) hne2 hbl2).trans (hcell2 j hlt2)
          clear hcell2
          have hlen := HI.out.len
          rw [HN1.out, HN2.out] at hlen
          have hro := HI.out.own.cell (k + j) (by omega)
          have hrf := HI.out.own.free (k + j) (by omega)
          have hy := Wh.getD_lt HO2.out j
          have ho := Wh.getD_lt HI.out.ok (k + j)
          rw [Wh.R_eq] at hy ho
          have HS := Lib.hid (HI.out.step (by rw [HN1.out]; exact hlt) (by rw [HN2.out]; exact hlt2) hx hy)
          have hdv : (x * l2.getD j 0 + l'.getD (k + j) 0 + cc) / 1000000000 < 1000000000 := HS.out.car
          generalize l2.getD j 0 = y at *
          generalize l'.getD (k + j) 0 = o at *
          obtain ⟨hp0, hp1⟩ := prod_bound hx hy
          have HDV := Lib.hid hdv; clear hdv hlen
          go_wp2
          go_roundw
          case rel => exact ⟨j + 1, _, _, by omega, by go_num, by rw [cast_div], HDV.out, by rw [cast_mod]; exact HS⟩
          case measure => simp [intOf]; omega
        · obtain rfl : j = n2 := by omega
          have hlen := HI.out.len
          rw [HN1.out, HN2.out] at hlen
          have hro := HI.out.own.cell (k + j) (by omega)
          have hrf := HI.out.own.free (k + j) (by omega)
          have HI2 : Rows2 w wr rb l1 l2 k x l2.length cc l' := by rw [HN2.out]; exact HI.out
          have hlast := HI2.last (by rw [HN1.out]; exact hlt) HX.out.symm
          rw [HN2.out] at hlast
          have HS := Lib.hid hlast; clear hlast HI2
          generalize l'.getD (k + j) 0 = o at *
          clear hlen
          go_wp2
          go_roundw
          case rel => exact ⟨k + 1, _, by omega, by go_num, HS⟩
          case measure => simp [intOf]; omega
    · obtain rfl : k = n1 := by omega
      go_wp2
      go_end0
      exact ⟨rfl, l, HL.out⟩
end Go.Proofs.YteaeloeebfdodaaGreatDoor

/- WALKS, part 15: multiply. -/
namespace Go.Proofs.YteaeloeebfdodaaGreatDoor
open Go.RowKit
/-- a slice whose memory may be used again: none, or a block of its own from the head on -/
def Room (w : World) (v : Value) : Prop := v = .slice none 0 0 ∨ ∃ rb n : Nat, ∃ l : List Nat, v = .slice (some ⟨rb, 0, none⟩) n l.length ∧ n ≤ l.length ∧ l.length ≤ 100000 ∧ Own w rb l
theorem only_setCells (b : Nat) : ∀ (vs : List Value) (o : Nat) (w : World), Only b w (w.setCells b o vs)
  | [], _, w => Only.refl b w
  | v :: r, o, w => by rw [World.setCells]; exact (((Only.refl b w).setCell o v)).trans (only_setCells b r (o + 1) _)
theorem own_cleared {w : World} {b : Nat} {l : List Nat} (h : Own w b l) {n : Nat} (hn : n ≤ l.length) : Own (w.setCells b 0 (List.replicate n (.int .u32 0))) b (List.replicate n 0) := by
  have hin := World.cell?_setCells_in b (List.replicate n (.int .u32 0)) 0 w (fun j hj => by
    rw [List.length_replicate] at hj
    rw [Nat.zero_add, h.cell j (by omega)]; rfl)
  refine ⟨Nat.lt_of_lt_of_le h.lt (only_setCells b _ _ _).size, fun i hi => ?_, fun i hi => ?_⟩
  · rw [List.length_replicate] at hi
    have := hin i (by simpa using hi)
    rw [Nat.zero_add] at this
    rw [this]; simp [List.getD, hi]
  · rw [List.length_replicate] at hi
    rw [World.frozen?_setCells]; exact h.free i (by omega)
theorem zero_limb (w : World) : (zeroValue 181).run Tryz.prog w = .ok (.int .u32 0) w := by kernel_rfl
theorem run_clear_own {w : World} {b : Nat} {l : List Nat} (h : Own w b l) (n c : Nat) (hn : n ≤ l.length) (ty : TypeId) :
    (Builtin.clear_ #[81] ty #[.slice (some ⟨b, 0, none⟩) n c]).run Tryz.prog w = .ok (.tuple #[]) (w.setCells b 0 (List.replicate n (.int .u32 0))) := by
  rcases Nat.eq_zero_or_pos n with rfl | h0
  · kernel_rfl
  · exact Lib.run_clear_slice (P := Tryz.prog) w 81 181 ty (.int .u32 0) Tryz.underlying81 zero_limb rfl rfl b 0 n c h0 (fun j hj => by rw [Nat.zero_add, h.cell j (by omega)]; rfl) (fun j hj => by rw [Nat.zero_add]; exact h.free j (by omega))
set_option maxRecDepth 100000 in
set_option maxHeartbeats 1000000 in
theorem multiply_make (w : World) (a0 : Option Addr) (n0 c0 : Nat) (v1 v2 : Value) (l1 l2 : List Nat) (h1 : Sl w v1 l1) (h2 : Sl w v2 l2) (ho1 : Wh.Ok l1) (ho2 : Wh.Ok l2)
    (hsz : c0 < l1.length + l2.length) (hm : l1.length + l2.length ≤ 100000) (hmin : l1.length < 32 ∨ l2.length < 32) :
    Calls Tryz.prog 189 #[.slice a0 n0 c0, v1, v2] w fun e w' => (∃ v', e = .returned v' ∧ Sl w' v' (Wh.limbs (Wh.val l1 * Wh.val l2)) ∧ Small v' ∧ Room w' v') ∧ Below w.heap.size w w' := by
  obtain ⟨a1, c1, rfl⟩ := h1.len
  obtain ⟨a2, c2, rfl⟩ := h2.len
  have H1 := Lib.hid h1; clear h1
  have H2 := Lib.hid h2; clear h2
  have HO1 := Lib.hid ho1; clear ho1
  have HO2 := Lib.hid ho2; clear ho2
  generalize hn1 : l1.length = n1 at *
  generalize hn2 : l2.length = n2 at *
  have HN1 := Lib.hid hn1; clear hn1
  have HN2 := Lib.hid hn2; clear hn2
  have hmk := run_make_limbs (n1 + n2) hm w ((n1 : Int) + n2) (by omega)
  have hclr := run_clear_own (own_make w (n1 + n2)) (n1 + n2) (n1 + n2) (by simp)
  have hcl : Own ((w.alloc (.cells (zeros (n1 + n2)) 181)).setCells w.heap.size 0 (List.replicate (n1 + n2) (.int .u32 0))) w.heap.size (List.replicate (n1 + n2) 0) := own_cleared (own_make w (n1 + n2)) (by simp)
  have HCL := Lib.hid hcl; clear hcl
  have hbw : Below w.heap.size w ((w.alloc (.cells (zeros (n1 + n2)) 181)).setCells w.heap.size 0 (List.replicate (n1 + n2) (.int .u32 0))) := ((Below.refl _ _).alloc (Nat.le_refl _) _).trans ((only_setCells _ _ _ _).below (Nat.le_refl _) (by simp))
  have HBW := Lib.hid hbw; clear hbw
  by_cases hmm : n2 < n1
  all_goals
    go_enter Tryz.func189, Tryz.ntmps189
    go_wp2_with fail
    generalize (w.alloc (Obj.cells (zeros (n1 + n2)) 181)).setCells w.heap.size 0 (List.replicate (n1 + n2) (Value.int IntKind.u32 0)) = W at HCL HBW ⊢
    have hap := addProduct_any W w.heap.size (n1 + n2) _ _ l1 l2 (H1.out.mono HBW.out) (H2.out.mono HBW.out) (apart_of_sl H1.out (Nat.le_refl _)) (apart_of_sl H2.out (Nat.le_refl _)) HO1.out HO2.out (by rw [HN1.out, HN2.out]; exact HCL.out) (by rw [HN1.out, HN2.out]; exact Nat.le_refl _) hm
    rw [HN1.out, HN2.out] at hap
    refine hap.mono ?_
    rintro e w1 ⟨rfl, l, HL⟩
    clear hap hclr hmk
    have hb1 : Below w.heap.size w w1 := HBW.out.trans (HL.only.below (Nat.le_refl _) HBW.out.size)
    have hlen := HL.len
    rw [HN1.out, HN2.out] at hlen
    have hval := HL.val
    rw [← HN1.out, List.take_length] at hval
    have hok := HL.ok
    have hown := HL.own
    clear HL
    have hsl := hown.sl (n1 + n2) (by omega)
    rw [hlen] at hsl
    have HVAL := Lib.hid hval; clear hval
    have HLEN := Lib.hid hlen; clear hlen
    have HOWN := Lib.hid hown; clear hown
    go_wp2_with fail
    refine (trim_same _ _ _ _ l hok hsl hm).mono ?_
    rintro e w' ⟨rfl, hv, rfl⟩
    have htl : (Wh.trimL l).length ≤ l.length := Wh.trimL_length hok
    have hroom : Room w1 (.slice (some ⟨w.heap.size, 0, none⟩) (Wh.trimL l).length (n1 + n2)) := .inr ⟨_, _, l, by rw [HLEN.out], htl, by rw [HLEN.out]; exact hm, HOWN.out⟩
    have hT : Wh.trimL l = Wh.limbs (Wh.val l1 * Wh.val l2) := by unfold Wh.trimL; rw [HVAL.out]
    rw [hT] at hv hroom ⊢
    clear hT
    have HV := Lib.hid hv; clear hv hsl
    have HROOM := Lib.hid hroom; clear hroom htl
    go_wp2
    go_ret
    exact ⟨⟨_, rfl, HV.out, by intro a n c h; cases h; exact hm, HROOM.out⟩, hb1⟩
end Go.Proofs.YteaeloeebfdodaaGreatDoor

/- WALKS, part 16: multiply in memory that is used again (made by tools/gen_mul.py), and of nothing. -/
namespace Go.Proofs.YteaeloeebfdodaaGreatDoor
open Go.RowKit
theorem rest_setCells (b n : Nat) (w : World) : Rest b n w (w.setCells b 0 (List.replicate n (.int .u32 0))) := fun i hi =>
  ⟨World.cell?_setCells_out b _ 0 w ⟨b, i, none⟩ (fun _ _ => .inr (by simpa using hi)), World.frozen?_setCells b _ 0 w _⟩
theorem own_join {w W w1 : World} {rb n : Nat} {l lr : List Nat} (h : Own w1 rb l) (hl : l.length = n) (hr : Rest rb n W w1) (hW : Rest rb n w W) (ho : Own w rb lr) : Own w1 rb (l ++ lr.drop n) := by
  refine ⟨h.lt, fun i hi => ?_, fun i hi => ?_⟩
  · rw [List.length_append, List.length_drop] at hi
    by_cases hin : i < n
    · rw [h.cell i (by omega)]
      simp [List.getD, List.getElem?_append, hl, hin]
    · rw [(hr i (by omega)).1, (hW i (by omega)).1, ho.cell i (by omega)]
      have e : n + (i - n) = i := by omega
      simp [List.getD, List.getElem?_append, hl, hin, List.getElem?_drop, e]
  · rw [List.length_append, List.length_drop] at hi
    by_cases hin : i < n
    · exact h.free i (by omega)
    · rw [(hr i (by omega)).2, (hW i (by omega)).2]; exact ho.free i (by omega)
end Go.Proofs.YteaeloeebfdodaaGreatDoor

/- WALKS, part 17: multiply of nothing; multiply in all ways. -/
namespace Go.Proofs.YteaeloeebfdodaaGreatDoor
open Go.RowKit
set_option maxHeartbeats 400000 in
theorem addProduct_nil (w : World) (a1 : Option Addr) (c1 : Nat) (v2 : Value) :
    Calls Tryz.prog 259 #[.slice none 0 0, .slice a1 0 c1, v2] w fun e w' => e = .returned (.tuple #[]) ∧ w = w' := by
  go_enter Tryz.func259, Tryz.ntmps259
  go_wp2_with fail
  go_loop [15] (fun i => i = .int .i64 0) (fun _ => 0)
  case atStart => rfl
  case round =>
    subst hrel
    go_wp2
    go_end0
    exact ⟨rfl, rfl⟩
theorem clear_nil (w : World) (ty : TypeId) (c : Nat) : (Builtin.clear_ #[81] ty #[.slice none 0 c]).run Tryz.prog w = .ok (.tuple #[]) w := by kernel_rfl
set_option maxHeartbeats 400000 in
theorem multiply_nil (w : World) (a1 a2 : Option Addr) (c1 c2 : Nat) :
    Calls Tryz.prog 189 #[.slice none 0 0, .slice a1 0 c1, .slice a2 0 c2] w fun e w' => e = .returned (.slice none 0 0) ∧ w = w' := by
  have hclr := clear_nil
  go_enter Tryz.func189, Tryz.ntmps189
  go_wp2_with fail
  refine (addProduct_nil _ _ _ _).mono ?_
  rintro e w' ⟨rfl, rfl⟩
  go_wp2_with fail
  refine (trim_nil _).mono ?_
  rintro e w' ⟨rfl, rfl⟩
  go_wp2
  go_ret
  exact ⟨rfl, rfl⟩
/-- multiply in new memory -/
theorem multiply_new (w : World) (v1 v2 : Value) (a b : Nat) (h1 : Sl w v1 (Wh.limbs a)) (h2 : Sl w v2 (Wh.limbs b))
    (hm : (Wh.limbs a).length + (Wh.limbs b).length ≤ 100000) (hmin : (Wh.limbs a).length < 32 ∨ (Wh.limbs b).length < 32) :
    Calls Tryz.prog 189 #[.slice none 0 0, v1, v2] w fun e w' => (∃ v', e = .returned v' ∧ Sl w' v' (Wh.limbs (a * b)) ∧ Small v' ∧ Room w' v') ∧ Below w.heap.size w w' := by
  by_cases h0 : 0 < (Wh.limbs a).length + (Wh.limbs b).length
  · have := multiply_make w none 0 0 v1 v2 _ _ h1 h2 (Wh.ok_limbs a) (Wh.ok_limbs b) h0 hm hmin
    rw [Wh.val_limbs, Wh.val_limbs] at this
    exact this
  · have ha : Wh.limbs a = [] := List.eq_nil_of_length_eq_zero (by omega)
    have hb : Wh.limbs b = [] := List.eq_nil_of_length_eq_zero (by omega)
    obtain ⟨a1, c1, rfl⟩ := h1.len
    obtain ⟨a2, c2, rfl⟩ := h2.len
    rw [ha, hb]
    refine (multiply_nil w a1 a2 c1 c2).mono ?_
    rintro e w' ⟨rfl, rfl⟩
    rw [Wh.limbs_nil.1 ha, Nat.zero_mul, Wh.limbs_zero]
    exact ⟨⟨_, rfl, .inl ⟨rfl, rfl⟩, small_nil, .inl rfl⟩, Below.refl _ _⟩
end Go.Proofs.YteaeloeebfdodaaGreatDoor
