/- Part 3 of the proofs that laws of package whole answer true at every input and leave the input as it was, where the library's variables start as the text lays them (the texts S3, M7). -/
import Derived.Test.YteggbenhffmijaaGreatDoorZ02
import Derived.Lib.OthersKept
import Derived.StillTailTactics
set_option linter.unusedVariables false
set_option linter.unusedSimpArgs false
/- WALKS, strings 3: read. -/
namespace Go.Proofs.YteggbenhffmijaaGreatDoor
open Go.RowKit
def ch (d : List UInt8) (i : Nat) : Nat := Wh.numOf (Wh.chunk d i)
/-- what holds in read at the head of round k: the limbs so far -/
structure RInv (w1 wr : World) (d : List UInt8) (k n : Nat) : Prop where
  own : Own wr w1.heap.size (Wh.pre (ch d) k n)
  below : Below w1.heap.size w1 wr
/-- .. and within the round, p characters of the part being read -/
structure RIn (w1 wr : World) (d : List UInt8) (k n it p : Nat) : Prop where
  own : Own wr w1.heap.size ((Wh.pre (ch d) k n).set k (Wh.numOf ((Wh.chunk d k).take p)))
  below : Below w1.heap.size w1 wr
  iter : wr.heap[it]? = some (.stringIter (str (Wh.chunk d k)) p)
  gt : w1.heap.size < it
theorem RInv.start {w1 wr : World} {d : List UInt8} {k n : Nat} (h : RInv w1 wr d k n) (hk : k < n) : RIn w1 (wr.iter (str (Wh.chunk d k)) 0) d k n wr.heap.size 0 := by
  have al : Below wr.heap.size wr (wr.iter (str (Wh.chunk d k)) 0) := (Below.refl _ _).alloc (Nat.le_refl _) _
  have e : (Wh.pre (ch d) k n).set k 0 = Wh.pre (ch d) k n := by
    rw [Wh.pre_set_any _ hk, Wh.pre]
    have e2 : n - k = (n - (k + 1)) + 1 := by omega
    rw [e2, List.replicate_succ, List.append_assoc]; rfl
  refine ⟨?_, h.below.trans (al.mono (Nat.le_of_lt h.own.lt)), World.iter_heap _ _ _, h.own.lt⟩
  rw [List.take_zero]
  show Own _ _ ((Wh.pre (ch d) k n).set k 0)
  rw [e]; exact h.own.mono al h.own.lt
theorem digitOf_still (c : Nat) (h : c < 128) (w : World) :
    Calls Tryz.prog 186 #[.int .i32 c] w fun e w' => e = .returned (.int .i64 (dval c)) ∧ w' = w := (digitOf_any c h w).mono fun _ _ h => ⟨h.1, h.2.symm⟩
theorem dval_digit {c : UInt8} (h : Wh.isD c) : c.toNat < 128 ∧ dval c.toNat < 10 ∧ Wh.dv c = dval c.toNat := by
  unfold Wh.isD at h
  refine ⟨by omega, ?_, ?_⟩ <;> simp only [dval, Wh.dv] <;> rw [if_pos h] <;> omega
/-- one character: the iterator goes on, the limb will be ten times itself, and the digit -/
theorem RIn.next {w1 wr : World} {d : List UInt8} {k n it p : Nat} (h : RIn w1 wr d k n it p) (hd : ∀ c ∈ d, Wh.isD c) (hk : k < n) (hp : p < (Wh.chunk d k).length) :
    RIn w1 ((wr.iterAt it (str (Wh.chunk d k)) (p + 1)).setCell ⟨w1.heap.size, k, none⟩ (.int .u32 ((Wh.numOf ((Wh.chunk d k).take p) * 10 + dval ((Wh.chunk d k).getD p 0).toNat : Nat)))).drew d k n it (p + 1) ∧
    ((Wh.chunk d k).getD p 0).toNat < 128 ∧ dval ((Wh.chunk d k).getD p 0).toNat < 10 ∧ Wh.numOf ((Wh.chunk d k).take p) * 10 + dval ((Wh.chunk d k).getD p 0).toNat < 1000000000 ∧ Wh.numOf ((Wh.chunk d k).take p) < 1000000000 ∧
    (wr.iterAt it (str (Wh.chunk d k)) (p + 1)).cell? ⟨w1.heap.size, k, none⟩ = some (.int .u32 (Wh.numOf ((Wh.chunk d k).take p))) ∧ (wr.iterAt it (str (Wh.chunk d k)) (p + 1)).frozen? ⟨w1.heap.size, k, none⟩ = false := by
  have hcd := Wh.chunk_digits hd k
  have hg : Wh.isD ((Wh.chunk d k).getD p 0) := by rw [List.getD_eq_getElem?_getD, List.getElem?_eq_getElem hp]; exact hcd _ (List.getElem_mem hp)
  obtain ⟨e1, e2, e3⟩ := dval_digit hg
  have hts := Wh.numOf_take_succ (Wh.chunk d k) p hp
  rw [e3] at hts
  have hsm : ∀ q, Wh.numOf ((Wh.chunk d k).take q) < 1000000000 := fun q => Wh.numOf_small (fun c hc => hcd c (List.mem_of_mem_take hc)) (by rw [List.length_take]; have := Wh.chunk_length d k; omega)
  have h1 := hsm (p + 1)
  have h0 := hsm p
  have hlen : ((Wh.pre (ch d) k n).set k (Wh.numOf ((Wh.chunk d k).take p))).length = n := by rw [List.length_set, Wh.pre_length _ (by omega)]
  have bit : Below it wr (wr.iterAt it (str (Wh.chunk d k)) (p + 1)) := Lib.below_iterAt (Below.refl _ _) (Nat.le_refl _) _ _
  have hown := h.own.mono bit h.gt
  have hkl : k < ((Wh.pre (ch d) k n).set k (Wh.numOf ((Wh.chunk d k).take p))).length := by rw [hlen]; exact hk
  have hgd : ((Wh.pre (ch d) k n).set k (Wh.numOf ((Wh.chunk d k).take p))).getD k 0 = Wh.numOf ((Wh.chunk d k).take p) := by
    rw [List.length_set] at hkl; simp [List.getD, hkl]
  refine ⟨⟨?_, ?_, ?_, h.gt⟩, e1, e2, by omega, h0, ?_, hown.free k hkl⟩
  · refine Own.mono ?_ (Below.refl ((wr.iterAt it (str (Wh.chunk d k)) (p + 1)).setCell ⟨w1.heap.size, k, none⟩ (.int .u32 ((Wh.numOf ((Wh.chunk d k).take p) * 10 + dval ((Wh.chunk d k).getD p 0).toNat : Nat)))).heap.size _).drew (by simpa using hown.lt)
    have := hown.set hkl (Wh.numOf ((Wh.chunk d k).take (p + 1)))
    rw [List.set_set] at this
    rw [show Wh.numOf ((Wh.chunk d k).take p) * 10 + dval ((Wh.chunk d k).getD p 0).toNat = Wh.numOf ((Wh.chunk d k).take (p + 1)) by omega]
    exact this
  · exact ((h.below.trans (bit.mono (Nat.le_of_lt h.gt))).setCell (Nat.le_refl _) _).drew
  · have hi := Lib.iterAt_heap wr it (str (Wh.chunk d k)) p (p + 1) h.iter
    have hgt := h.gt
    show ((wr.iterAt it (str (Wh.chunk d k)) (p + 1)).setCell ⟨w1.heap.size, k, none⟩ _).heap[it]? = _
    rw [Below.heap_setCell _ ⟨w1.heap.size, k, none⟩ _ it (by show it ≠ w1.heap.size; omega)]
    exact hi
  · rw [hown.cell k hkl, hgd]
theorem RIn.fin {w1 wr : World} {d : List UInt8} {k n it : Nat} (h : RIn w1 wr d k n it (Wh.chunk d k).length) (hk : k < n) : RInv w1 wr d (k + 1) n := by
  refine ⟨?_, h.below⟩
  have := h.own
  rw [List.take_length] at this
  rw [← Wh.pre_set (ch d) hk]; exact this
set_option maxRecDepth 100000 in
set_option maxHeartbeats 1000000 in
theorem read_from (s : ByteArray) (sg : Int) (d : List UInt8) (w : World) (hsp : ∀ w, Calls Tryz.prog 185 #[.string s, .int .i64 10] w fun e w' => e = .returned (.tuple #[.int .i64 sg, .string (str d)]) ∧ Below w.heap.size w w')
    (hd : ∀ c ∈ d, Wh.isD c) (hm : d.length ≤ 400) (hsg : sg = -1 ∨ sg = 1) :
    Calls Tryz.prog 89 #[.string s] w fun e w' => (∃ v', e = .returned v' ∧ Num w' v' (sg * (Wh.numOf d : Int))) ∧ Below w.heap.size w w' := by
  have HSP := Lib.hid hsp; clear hsp
  have HD := Lib.hid hd; clear hd
  have HSG := Lib.hid hsg; clear hsg
  have hsz : (str d).size = d.length := rfl
  generalize hL : d.length = L at *
  have HL := Lib.hid hL; clear hL
  have hszi : (str d).size ≤ 400 := by omega
  go_enter Tryz.func89, Tryz.ntmps89
  go_wp2_with fail
  refine (HSP.out _).mono ?_
  rintro e w1 ⟨rfl, hb1⟩
  obtain ⟨n, hn⟩ : ∃ n : Nat, n = (L + 8) / 9 := ⟨_, rfl⟩
  have hmk := run_make_limbs n (by omega) w1 (((L : Int) + 9 - 1) / 9) (by omega)
  have hn9 : 9 * n ≤ L + 8 := by omega
  have HN := Lib.hid hn; clear hn
  go_wp2_with fail
  have HB1 := Lib.hid hb1; clear hb1
  have hR0 : RInv w1 (w1.alloc (.cells (zeros n) 181)) d 0 n := ⟨by rw [Wh.pre_zero]; exact own_make w1 n, (Below.refl _ _).alloc (Nat.le_refl _) _⟩
  have HR0 := Lib.hid hR0; clear hR0 hmk
  go_loopw [23] (fun i wr => ∃ k : Nat, k ≤ n ∧ i = .int .i64 k ∧ Hid (RInv w1 wr d k n)) (fun i _ => n - (intOf i).toNat)
  case atStart => exact ⟨0, Nat.zero_le _, rfl, HR0⟩
  case round =>
    clear HR0
    obtain ⟨k, hk, rfl, HI⟩ := hrel
    obtain ⟨wo, hwo⟩ : ∃ wo : World, wo = wr := ⟨_, rfl⟩
    subst hwo
    by_cases hlt : k < n
    · have h9 : 9 * k < L := by omega
      have hex : (str d).extract (L - k * 9 - 9) (L - k * 9) = str (Wh.chunk d k) := eq_str (by rw [Lib.extract_data, str_data, Wh.chunk, HL.out, Nat.mul_comm 9 k])
      have HS0 := Lib.hid (HI.out.start (by omega))
      by_cases hc : L ≤ 9 * k + 9
      · have hc' : (L : Int) - (k : Int) * 9 - 9 ≤ 0 := by omega
        have hlo : L - k * 9 - 9 = 0 := by omega
        rw [hlo] at hex
        have HEX := Lib.hid hex; clear hex hlo
        go_wp2_with fail
        have hex := HEX.out
        rw [hex]
        clear hex
        go_loopw [] (fun wi => ∃ p : Nat, p ≤ (Wh.chunk d k).length ∧ Hid (RIn w1 wi d k n wo.heap.size p)) (fun wi => (Wh.chunk d k).length - wi.iterPos wo.heap.size)
        case atStart => exact ⟨0, Nat.zero_le _, HS0⟩
        case round =>
          obtain ⟨p, hp, HIN⟩ := hrel
          have hit := iterPos_of HIN.out.iter
          by_cases hlt2 : p < (Wh.chunk d k).length
          · obtain ⟨hstep, hc1, hc2, hdv, hcur, hcell, hfree⟩ := HIN.out.next HD.out hlt hlt2
            have hnx : ∀ ty, (Instr.next (.pointer (some ⟨wo.heap.size, 0, none⟩)) true ty).run Tryz.prog wr = .ok (.tuple #[.bool true, .int .i64 p, .int .i32 (((Wh.chunk d k).getD p 0).toNat : Nat)]) (wr.iterAt wo.heap.size (str (Wh.chunk d k)) (p + 1)) := fun ty => by
              rw [Lib.run_next_any_at wr wo.heap.size (str (Wh.chunk d k)) p ty HIN.out.iter hlt2, decode_at _ _ hlt2 hc1]
            have HST := Lib.hid hstep; clear hstep
            generalize wr.iterAt wo.heap.size (str (Wh.chunk d k)) (p + 1) = W at *
            generalize ((Wh.chunk d k).getD p 0).toNat = c at *
            generalize Wh.numOf ((Wh.chunk d k).take p) = cur at *
            have HIT := Lib.hid hit; clear hit
            go_wp2_with fail
            refine wp_region_still_tail 12 (by kernel_rfl) (by kernel_rfl) ?_
            simp only [List.take_succ_cons, List.take_zero, List.drop_succ_cons, List.drop_zero]
            repeat still_step
            still_call (digitOf_still c hc1 _)
            repeat still_step
            refine wpStill_nil ?_
            change wpList _ _ _ _ _ W.drew
            have hcast : (cur : Int) * 10 + (dval c : Int) = ((cur * 10 + dval c : Nat) : Int) := by omega
            have HCAST := Lib.hid hcast; clear hcast
            go_wp2
            go_roundw
            case rel => exact ⟨p + 1, by omega, by rw [HCAST.out]; exact HST⟩
            case measure => rw [HIT.out, HCAST.out, iterPos_of HST.out.iter]; omega
          · obtain rfl : p = (Wh.chunk d k).length := by omega
            have hnx : ∀ ty, (Instr.next (.pointer (some ⟨wo.heap.size, 0, none⟩)) true ty).run Tryz.prog wr = .ok (.tuple #[.bool false]) wr := fun ty => Lib.run_next_end_at wr wo.heap.size (str (Wh.chunk d k)) _ ty HIN.out.iter hlt2
            have HNX := Lib.hid (HIN.out.fin hlt)
            clear hit
            go_wp2
            go_roundw
            case rel => exact ⟨k + 1, by omega, by go_num, HNX⟩
            case measure => simp [intOf]; omega
      · have hc' : (0 : Int) < (L : Int) - (k : Int) * 9 - 9 := by omega
        have HEX := Lib.hid hex; clear hex
        go_wp2_with fail
        have hex := HEX.out
        rw [hex]
        clear hex
        go_loopw [] (fun wi => ∃ p : Nat, p ≤ (Wh.chunk d k).length ∧ Hid (RIn w1 wi d k n wo.heap.size p)) (fun wi => (Wh.chunk d k).length - wi.iterPos wo.heap.size)
        case atStart => exact ⟨0, Nat.zero_le _, HS0⟩
        case round =>
          obtain ⟨p, hp, HIN⟩ := hrel
          have hit := iterPos_of HIN.out.iter
          by_cases hlt2 : p < (Wh.chunk d k).length
          · obtain ⟨hstep, hc1, hc2, hdv, hcur, hcell, hfree⟩ := HIN.out.next HD.out hlt hlt2
            have hnx : ∀ ty, (Instr.next (.pointer (some ⟨wo.heap.size, 0, none⟩)) true ty).run Tryz.prog wr = .ok (.tuple #[.bool true, .int .i64 p, .int .i32 (((Wh.chunk d k).getD p 0).toNat : Nat)]) (wr.iterAt wo.heap.size (str (Wh.chunk d k)) (p + 1)) := fun ty => by
              rw [Lib.run_next_any_at wr wo.heap.size (str (Wh.chunk d k)) p ty HIN.out.iter hlt2, decode_at _ _ hlt2 hc1]
            have HST := Lib.hid hstep; clear hstep
            generalize wr.iterAt wo.heap.size (str (Wh.chunk d k)) (p + 1) = W at *
            generalize ((Wh.chunk d k).getD p 0).toNat = c at *
            generalize Wh.numOf ((Wh.chunk d k).take p) = cur at *
            have HIT := Lib.hid hit; clear hit
            go_wp2_with fail
            refine wp_region_still_tail 12 (by kernel_rfl) (by kernel_rfl) ?_
            simp only [List.take_succ_cons, List.take_zero, List.drop_succ_cons, List.drop_zero]
            repeat still_step
            still_call (digitOf_still c hc1 _)
            repeat still_step
            refine wpStill_nil ?_
            change wpList _ _ _ _ _ W.drew
            have hcast : (cur : Int) * 10 + (dval c : Int) = ((cur * 10 + dval c : Nat) : Int) := by omega
            have HCAST := Lib.hid hcast; clear hcast
            go_wp2
            go_roundw
            case rel => exact ⟨p + 1, by omega, by rw [HCAST.out]; exact HST⟩
            case measure => rw [HIT.out, HCAST.out, iterPos_of HST.out.iter]; omega
          · obtain rfl : p = (Wh.chunk d k).length := by omega
            have hnx : ∀ ty, (Instr.next (.pointer (some ⟨wo.heap.size, 0, none⟩)) true ty).run Tryz.prog wr = .ok (.tuple #[.bool false]) wr := fun ty => Lib.run_next_end_at wr wo.heap.size (str (Wh.chunk d k)) _ ty HIN.out.iter hlt2
            have HNX := Lib.hid (HIN.out.fin hlt)
            clear hit
            go_wp2
            go_roundw
            case rel => exact ⟨k + 1, by omega, by go_num, HNX⟩
            case measure => simp [intOf]; omega
    · obtain rfl : k = n := by omega
      have hB1 := HB1.out.mono (B' := w.heap.size + 1) (by simp)
      obtain ⟨r0, r1, g0, g1⟩ := res_keep rfl hB1
      have hown := HI.out.own
      have hbe := HI.out.below
      have hlt1 : w.heap.size < w1.heap.size := by have := HB1.out.size; simp at this; omega
      have hlen : (Wh.pre (ch d) k k).length = k := Wh.pre_length _ (Nat.le_refl _)
      have hok : Wh.Ok (Wh.pre (ch d) k k) := Wh.pre_ok (fun i => Wh.numOf_small (Wh.chunk_digits HD.out i) (Wh.chunk_length d i)) _ _
      have hval : Wh.val (Wh.pre (ch d) k k) = Wh.numOf d := by rw [Wh.pre_full, Wh.val_map_range, HN.out, ← HL.out]; exact Wh.sum_all d
      have hsl := hown.sl k (by rw [hlen]; exact Nat.le_refl _)
      rw [hlen] at hsl
      have HSL := Lib.hid hsl; clear hsl hlen hown
      have HVAL := Lib.hid hval; clear hval
      have hbw : Below w.heap.size w w1 := ((Below.refl _ _).alloc (Nat.le_refl _) _).trans (hB1.mono (Nat.le_succ _))
      have hbwr : Below (w.heap.size + 1) (w.alloc (Obj.cells #[Value.int IntKind.i64 0, Value.slice none 0 0] 92)) wo := hB1.trans (hbe.mono (by omega))
      have HBW := Lib.hid (hbw.trans (hbe.mono (by omega)))
      have HBWR := Lib.hid hbwr
      clear hbw hbwr hbe hB1 r0 r1 g0 g1
      go_wp2_with fail
      refine (signed_any sg _ _ _ hok HSL.out (by intro a n c h; cases h; omega) (by rcases HSG.out with h | h; exact .inl h; exact .inr (.inl h))).mono ?_
      rintro e w2 ⟨⟨v', rfl, hnum⟩, hb2⟩
      rw [HVAL.out] at hnum
      obtain ⟨x, hx⟩ : ∃ x : Int, x = sg * (Wh.numOf d : Int) := ⟨_, rfl⟩
      rw [← hx] at hnum
      have HX := Lib.hid hx; clear hx
      obtain ⟨sl, rfl, hsl⟩ := hnum
      obtain ⟨xa, xc, rfl⟩ := hsl.len
      have hw2 : Below (w.heap.size + 1) (w.alloc (Obj.cells #[Value.int IntKind.i64 0, Value.slice none 0 0] 92)) w2 := HBWR.out.trans (hb2.mono (by have := HBWR.out.size; simpa using this))
      obtain ⟨k0, k1, g0, g1⟩ := res_keep rfl hw2
      have hbb : Below w.heap.size w w2 := ((Below.refl _ _).alloc (Nat.le_refl _) _).trans (hw2.mono (Nat.le_succ _))
      clear hb2 hw2
      go_wp2
      have hfin := two_cells w2 w.heap.size (.int .i64 (Int.sign x)) (.slice xa (Wh.limbs x.natAbs).length xc) k0 k1
      exact bodyPost_ret (v := .agg #[.int .i64 (Int.sign x), .slice xa (Wh.limbs x.natAbs).length xc]) (by simp [results, Tryz.results89, go_sem, hfin.1, hfin.2]) rfl ⟨⟨_, rfl, by rw [← HX.out]; exact ⟨_, rfl, hsl.store2 _ k0 k1 _ _⟩⟩, (hbb.setCell (Nat.le_refl _) _).setCell (Nat.le_refl _) _⟩
end Go.Proofs.YteggbenhffmijaaGreatDoor

namespace Wh
theorem decN_length_eq {n k : Nat} (hk : 0 < k) (h1 : 10 ^ (k - 1) ≤ n) (h2 : n < 10 ^ k) : (decN n).length = k := by
  have a := decN_length_le hk h2
  have b := lt_pow_decN n
  rcases Nat.lt_or_ge (decN n).length k with h | h
  · have : 10 ^ (decN n).length ≤ 10 ^ (k - 1) := Nat.pow_le_pow_right (by decide) (by omega)
    omega
  · omega
/-- how many digits a number has, by its highest limb -/
theorem length_by_top {n : Nat} (h : 0 < n) : (decN n).length = 9 * ((limbs n).length - 1) + (decN ((limbs n).getD ((limbs n).length - 1) 0)).length ∧ 0 < (limbs n).length ∧ 0 < (limbs n).getD ((limbs n).length - 1) 0 := by
  have hne : limbs n ≠ [] := fun e => by have := limbs_nil.1 e; omega
  have hpos : 0 < (limbs n).length := List.length_pos_iff.2 hne
  obtain ⟨m, hm⟩ : ∃ m, (limbs n).length = m + 1 := ⟨(limbs n).length - 1, by omega⟩
  have hlast : (limbs n).getD m 0 ≠ 0 := by
    have := limbs_last n hne
    have e := take_snoc (limbs n) m (by omega)
    rw [← hm, List.take_length] at e
    rw [e, List.getLastD_concat] at this
    exact this
  have hv := val_take_drop (limbs n) m (by omega)
  rw [val_limbs, val_drop _ _ (by omega), List.drop_of_length_le (by omega)] at hv
  simp only [val, Nat.mul_zero, Nat.add_zero] at hv
  have hlo : val ((limbs n).take m) < R ^ m := by
    have := val_lt (l := (limbs n).take m) (fun x hx => ok_limbs n x (List.mem_of_mem_take hx))
    rwa [List.length_take, Nat.min_eq_left (by omega)] at this
  rw [hm, Nat.add_sub_cancel]
  generalize (limbs n).getD m 0 = t at *
  have ht : 0 < t := Nat.pos_of_ne_zero hlast
  refine ⟨?_, by omega, ht⟩
  have b1 := pow_le_decN ht
  have b2 := lt_pow_decN t
  have b3 := decN_length_pos t
  apply decN_length_eq (by omega)
  · have e : 9 * m + (decN t).length - 1 = 9 * m + ((decN t).length - 1) := by omega
    rw [e, Nat.pow_add, pow9]
    have := Nat.mul_le_mul_left (R ^ m) b1
    omega
  · rw [Nat.pow_add, pow9]
    have : R ^ m * (t + 1) ≤ R ^ m * 10 ^ (decN t).length := Nat.mul_le_mul_left _ b2
    rw [Nat.mul_add, Nat.mul_one] at this
    omega
theorem limbs_length_of_dec {n k : Nat} (h : (decN n).length ≤ 9 * k) : (limbs n).length ≤ k := by
  apply limbs_length_le
  rw [← pow9]
  exact Nat.lt_of_lt_of_le (lt_pow_decN n) (Nat.pow_le_pow_right (by decide) h)
end Wh
