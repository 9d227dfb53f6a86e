/- Part 32 of the proofs that laws of package whole answer true at every input and leave the input as it was, where the library's variables start as the text lays them (the texts J4). -/
import Derived.Test.YteggbenhffmijaaGreatDoorZ27
import Derived.Test.YteggbenhffmijaaGreatDoorZ31
import Derived.Test.YteggbenhffmijaaGreatDoorZ22
import Derived.Test.YteggbenhffmijaaGreatDoorZ24
import Derived.Test.YteggbenhffmijaaGreatDoorZ06
set_option linter.unusedVariables false
set_option linter.unusedSimpArgs false
/- WALKS: WholeFactors answers true. -/
namespace Go.Proofs.YteggbenhffmijaaGreatDoor
open Go.RowKit Go.Proofs.Rf
/-- v is a list of the texts of numbers -/
def LsAt (w : World) (v : Value) (L : List Nat) : Prop := (L = [] ∧ v = .slice none 0 0) ∨ ∃ b c, v = .slice (some ⟨b, 0, none⟩) L.length c ∧ b < w.heap.size ∧ ∀ i, i < L.length → w.cell? ⟨b, i, none⟩ = some (txt ((L.getD i 0 : Nat) : Int))
theorem LsAt.mono {w w' : World} {v : Value} {L : List Nat} (h : LsAt w v L) (hb : Below w.heap.size w w') : LsAt w' v L := by
  rcases h with h | ⟨b, c, e, hl, hc⟩
  · exact .inl h
  · exact .inr ⟨b, c, e, Nat.lt_of_lt_of_le hl hb.size, fun i hi => (hb.cell (p := ⟨b, i, none⟩) hl).trans (hc i hi)⟩
theorem lsAt_own {W : World} {base : Nat} {v : Value} {L : List Nat} (h : W.ownsRow base 9 1 v L.length (txs L)) : LsAt W v L := by
  rcases h.2 with ⟨h1, h2⟩ | ⟨g, cap, cur, h1, h2, h3, h4, h5, h6, h7⟩
  · exact .inl ⟨List.eq_nil_of_length_eq_zero h2, h1⟩
  · refine .inr ⟨g, cap, h1, (Array.getElem?_eq_some_iff.1 h3).1, fun i hi => ?_⟩
    have h8 := congrArg (fun t => t[i]?) h7
    simp only [Nat.mul_one, List.getElem?_take, if_pos hi, txs, List.getElem?_map, List.getElem?_eq_getElem hi, Option.map_some, Array.getElem?_toList] at h8
    simp [World.cell?, h3, h8, List.getD, hi]
set_option maxRecDepth 100000 in
set_option maxHeartbeats 400000 in
theorem EqTexts_none (w : World) (a1 a2 : Option Addr) (c1 c2 : Nat) :
    Calls Tryz.prog 35 #[.slice a1 0 c1, .slice a2 0 c2] w fun e w' => e = .returned (.bool true) ∧ Below w.heap.size w w' := by
  go_enter Tryz.func35, Tryz.ntmps35
  go_wp2_with fail
  go_loopw [5] (fun i wr => i = .int .i64 0 ∧ wr = w) (fun _ _ => 0)
  case atStart => exact ⟨rfl, rfl⟩
  case round =>
    obtain ⟨rfl, rfl⟩ := hrel
    go_wp2_with fail
    go_ret
    exact ⟨rfl, Below.refl _ _⟩
theorem EqTexts_ls (w : World) (v1 v2 : Value) (L : List Nat) (h1 : LsAt w v1 L) (h2 : LsAt w v2 L) (hn : L.length ≤ 1000000) :
    Calls Tryz.prog 35 #[v1, v2] w fun e w' => e = .returned (.bool true) ∧ Below w.heap.size w w' := by
  by_cases h0 : L = []
  · subst h0
    have e1 : ∃ a c, v1 = .slice a 0 c := by rcases h1 with ⟨_, e⟩ | ⟨b, c, e, _⟩ <;> exact ⟨_, _, e⟩
    have e2 : ∃ a c, v2 = .slice a 0 c := by rcases h2 with ⟨_, e⟩ | ⟨b, c, e, _⟩ <;> exact ⟨_, _, e⟩
    obtain ⟨_, _, rfl⟩ := e1
    obtain ⟨_, _, rfl⟩ := e2
    exact EqTexts_none w _ _ _ _
  · rcases h1 with ⟨e, _⟩ | ⟨b1, c1, rfl, _, k1⟩
    · exact absurd e h0
    · rcases h2 with ⟨e, _⟩ | ⟨b2, c2, rfl, _, k2⟩
      · exact absurd e h0
      · exact EqTexts_same w b1 0 b2 0 L.length c1 c2 (fun i => str (Wh.decI ((L.getD i 0 : Nat) : Int))) (fun i hi => by rw [Nat.zero_add]; exact k1 i hi) (fun i hi => by rw [Nat.zero_add]; exact k2 i hi) hn
/-- what both Factors answer to a text: an error, or the primes -/
structure Fac (S : ByteArray) (c : Int) (L : List Nat) : Prop where
  prog : ∀ w, Tab w → ErrT w → Calls Tryz.prog 68 #[.string S] w fun e w' => (∃ v, e = .returned (.tuple #[v, .int .i64 c]) ∧ LsAt w' v L) ∧ Below w.heap.size w w'
  ref : ∀ w, Calls Tryz.prog 69 #[.string S] w fun e w' => (∃ v, e = .returned (.tuple #[v, .int .i64 c]) ∧ LsAt w' v L) ∧ Below w.heap.size w w'
  len : L.length ≤ 1000000
theorem fac_none {S : ByteArray} {c : Int} (h1 : ∀ w, Tab w → ErrT w → Calls Tryz.prog 68 #[.string S] w fun e w' => e = .returned (.tuple #[.slice none 0 0, .int .i64 c]) ∧ Below w.heap.size w w')
    (h2 : ∀ w, Calls Tryz.prog 69 #[.string S] w fun e w' => e = .returned (.tuple #[.slice none 0 0, .int .i64 c]) ∧ w = w') : Fac S c [] := by
  refine ⟨fun w ht he => (h1 w ht he).mono ?_, fun w => (h2 w).mono ?_, by simp⟩
  · rintro e w' ⟨rfl, hb⟩
    exact ⟨⟨_, rfl, .inl ⟨rfl, rfl⟩⟩, hb⟩
  · rintro e w' ⟨rfl, rfl⟩
    exact ⟨⟨_, rfl, .inl ⟨rfl, rfl⟩⟩, Below.refl _ _⟩
theorem fac_any (l : List UInt8) (hl : l.length ≤ 2000) : ∃ c L, Fac (str l) c L := by
  rcases good_or_bad l with ⟨x, rfl, hx⟩ | ⟨c, hc⟩
  · by_cases h0 : x ≤ 0
    · exact ⟨2, [], fac_none (fun w ht he => Factor_low w x hx h0 he ht) (fun w => rFactor_low x hx h0 w)⟩
    · by_cases h1 : 1000000 < x
      · exact ⟨13, [], fac_none (fun w ht he => Factor_big w x hx h1 he ht) (fun w => rFactor_large x hx h1 w)⟩
      · obtain ⟨N, rfl⟩ : ∃ N : Nat, x = (N : Int) := ⟨x.toNat, by omega⟩
        have hN : 1 ≤ N ∧ N ≤ 1000000 := by omega
        have hd : Wh.decI (N : Int) = Wh.decN N := by unfold Wh.decI; rw [if_neg (by omega), Int.natAbs_natCast]
        have h9 : ((N : Nat) : Int).natAbs < 1000000000 := by omega
        have hdl := decL_of N hN
        refine ⟨0, pr (N + 1) 2 N, ⟨fun w ht _ => (Factor_any w N N rfl hN hx (valid9 _ (by decide)) (fit9 _ h9) (by rw [hd, atoi_dec hdl, Wh.numOf_decN]) (by rw [hd]; exact Nat.le_trans hdl.len (by decide)) ht).mono ?_, fun w => (rFactor_good N hN w).mono ?_, Nat.le_trans (pr_len _ _ _ (by decide)) hN.2⟩⟩
        · rintro e w' ⟨⟨v, rfl, hv⟩, hb⟩
          exact ⟨⟨v, rfl, lsAt_own hv⟩, hb⟩
        · rintro e w' ⟨⟨v, rfl, hv⟩, hb⟩
          exact ⟨⟨v, rfl, lsAt_own hv⟩, hb⟩
  · have hcc : c = 1 ∨ c = 13 := by rcases hc with ⟨_, h⟩ | ⟨_, _, _, h⟩ <;> omega
    exact ⟨c, [], fac_none (fun w ht he => Factor_bad w l c (by omega) hc he ht) (fun w => rFactor_bad l c hl hcc hc w)⟩
theorem pickF (w : World) (t : TypeId) : ∀ i, i < 2 → ∃ z, (w.alloc (Obj.cells #[Value.int IntKind.i64 20, Value.int IntKind.i64 30000] t)).cell? ⟨w.heap.size, i, none⟩ = some (.int .i64 z) ∧ 0 ≤ z ∧ z ≤ 30000 := by
  intro i hi
  rcases i with _ | _ | i
  · exact ⟨20, by go_simp, by decide, by decide⟩
  · exact ⟨30000, by go_simp, by decide, by decide⟩
  · omega
set_option maxRecDepth 100000 in
set_option maxHeartbeats 2000000 in
theorem factors_true (w : World) (l : List UInt8) (a : Option Addr) (n cc : Nat) (h : Nums w a n) (ht : Tab w) (hE : ErrT w) :
    Calls Tryz.prog 12 #[.string (str l), .slice a n cc] w fun e w' => e = .returned (.bool true) ∧ Below w.heap.size w w' := by
  have HN := Lib.hid h; clear h
  have HT := Lib.hid ht; clear ht
  have HE := Lib.hid hE; clear hE
  have HSZ : Hid ((str l).size = l.length) := Lib.hid rfl
  by_cases hlen : 420 < l.length
  · have hd : decide ((420 : Int) < ((str l).size : Nat)) = true := by rw [decide_eq_true_iff, HSZ.out]; omega
    generalize str l = S at *
    go_enter Tryz.func12, Tryz.ntmps12
    go_wp2_with fail
    refine (counted_holds _ HT.out).mono ?_
    rintro e wz ⟨rfl, hb⟩
    go_wp2_with fail
    go_ret
    exact ⟨rfl, hb⟩
  · have hd : decide ((420 : Int) < ((str l).size : Nat)) = false := by rw [decide_eq_false_iff_not, HSZ.out]; omega
    obtain ⟨ca, La, hfa⟩ := fac_any l (by omega)
    have HFA := Lib.hid hfa; clear hfa
    generalize str l = S at *
    go_enter Tryz.func12, Tryz.ntmps12
    go_wp2_with fail
    refine (NewRod_any _ _ _ _ HN.out).mono ?_
    rintro e w1 ⟨rfl, hR, hB1⟩
    have HR := Lib.hid hR; clear hR
    have HB1 := Lib.hid hB1; clear hB1
    go_wp2_with fail
    have hb1 : Below w1.heap.size w1 (w1.alloc (Obj.cells #[.int .i64 20, .int .i64 30000] 3)) := (Below.refl _ _).alloc (Nat.le_refl _) _
    have HR1 := Lib.hid (HR.out.mono hb1)
    have HB1b := Lib.hid (HB1.out.trans (hb1.mono HB1.out.size))
    refine (Pick_any _ w.heap.size a n cc 0 w1.heap.size 2 HR1.out (by omega) (by omega) (fun z => 0 ≤ z ∧ z ≤ 30000) ⟨by have := HR.out.lt; omega, by simp⟩ (pickF w1 3)).mono ?_
    rintro e w2 ⟨⟨hi, rfl, hhi⟩, hR, hO⟩
    have HR2 := Lib.hid hR; have HB2 := Lib.hid (HB1b.out.trans (hO.below (Nat.le_refl _) HB1b.out.size))
    clear hR hO hb1 HR1 HB1 HB1b HR
    go_wp2_with fail
    refine (From_any _ _ _ _ _ _ (-2) hi HR2.out (by omega) (by omega)).mono ?_
    rintro e w3 ⟨⟨x, rfl, hx⟩, hR, hO⟩
    have HB3 := Lib.hid (HB2.out.trans (hO.below (Nat.le_refl _) HB2.out.size))
    clear hR hO HR2 HB2
    go_wp2_with fail
    refine (Decimal_int x (by omega) _).mono ?_
    rintro e w4 ⟨rfl, hb⟩
    have HB4 := Lib.hid (HB3.out.trans (hb.mono HB3.out.size))
    clear hb HB3
    obtain ⟨cb, Lb, hfb⟩ := fac_any (Wh.decI x) (by have h1 := decI_size x; have h2 : (Wh.decN x.natAbs).length ≤ 9 := Wh.decN_length_le (by decide) (by have : (10 : Nat) ^ 9 = 1000000000 := rfl; omega); have h3 : (str (Wh.decI x)).size = (Wh.decI x).length := rfl; rw [h3] at h1; split at h1 <;> omega)
    have HFB := Lib.hid hfb; clear hfb
    unfold txt
    generalize str (Wh.decI x) = T at *
    clear hx hhi
    go_wp2_with fail
    have hb5 : Below w4.heap.size w4 (w4.alloc (Obj.cells #[.string S, .string T] 9)) := (Below.refl _ _).alloc (Nat.le_refl _) _
    have k0 : (w4.alloc (Obj.cells #[.string S, .string T] 9)).cell? ⟨w4.heap.size, 0, none⟩ = some (.string S) := by go_simp
    have k1 : (w4.alloc (Obj.cells #[.string S, .string T] 9)).cell? ⟨w4.heap.size, 1, none⟩ = some (.string T) := by go_simp
    have hl5 : w4.heap.size < (w4.alloc (Obj.cells #[.string S, .string T] 9)).heap.size := by simp
    have HB5 := Lib.hid (HB4.out.trans (hb5.mono HB4.out.size))
    clear hb5 HB4
    generalize (w4.alloc (Obj.cells #[.string S, .string T] 9)) = V at *
    generalize w4.heap.size = P4 at *
    have K0 := Lib.hid k0; have K1 := Lib.hid k1; clear k0 k1
    go_loopw [7, 8, 9, 10, 11] (fun iv _ _ _ _ wr => ∃ i : Nat, i ≤ 2 ∧ iv = .int .i64 (i : Int) ∧ Hid (Below V.heap.size V wr)) (fun iv _ _ _ _ _ => 2 - (intOf iv).toNat)
    case atStart => exact ⟨0, Nat.zero_le _, rfl, Lib.hid (Below.refl _ _)⟩
    case round =>
      obtain ⟨i, hi2, rfl, HI⟩ := hrel
      have H0 := (HI.out.cell (p := ⟨P4, 0, none⟩) hl5).trans K0.out
      have H1 := (HI.out.cell (p := ⟨P4, 1, none⟩) hl5).trans K1.out
      have HBW := Lib.hid (HB5.out.trans (HI.out.mono HB5.out.size))
      rcases (by omega : i = 0 ∨ i = 1 ∨ i = 2) with rfl | rfl | rfl
      · go_wp2_with fail
        refine (HFA.out.prog _ (HT.out.mono HBW.out) (HE.out.mono HBW.out)).mono ?_
        rintro e w5 ⟨⟨v1, rfl, hv1⟩, hb⟩
        have HI5 := Lib.hid (HI.out.trans (hb.mono HI.out.size))
        have HV1 := Lib.hid hv1
        have H0 := (HI5.out.cell (p := ⟨P4, 0, none⟩) hl5).trans K0.out
        have H1 := (HI5.out.cell (p := ⟨P4, 1, none⟩) hl5).trans K1.out
        clear hb hv1
        go_wp2_with fail
        refine (HFA.out.ref _).mono ?_
        rintro e w6 ⟨⟨v2, rfl, hv2⟩, hb⟩
        have HI6 := Lib.hid (HI5.out.trans (hb.mono HI5.out.size))
        have HV1' := Lib.hid (HV1.out.mono hb); have HV2 := Lib.hid hv2
        clear hb hv2
        go_wp2_with fail
        refine (EqTexts_ls _ _ _ _ HV1'.out HV2.out HFA.out.len).mono ?_
        rintro e w7 ⟨rfl, hb⟩
        have HI7 := Lib.hid (HI6.out.trans (hb.mono HI6.out.size))
        clear hb
        go_wp2_with fail
        go_roundw
        case rel => exact ⟨0 + 1, by omega, rfl, HI7⟩
        case measure => simp [intOf]
      · go_wp2_with fail
        refine (HFB.out.prog _ (HT.out.mono HBW.out) (HE.out.mono HBW.out)).mono ?_
        rintro e w5 ⟨⟨v1, rfl, hv1⟩, hb⟩
        have HI5 := Lib.hid (HI.out.trans (hb.mono HI.out.size))
        have HV1 := Lib.hid hv1
        have H0 := (HI5.out.cell (p := ⟨P4, 0, none⟩) hl5).trans K0.out
        have H1 := (HI5.out.cell (p := ⟨P4, 1, none⟩) hl5).trans K1.out
        clear hb hv1
        go_wp2_with fail
        refine (HFB.out.ref _).mono ?_
        rintro e w6 ⟨⟨v2, rfl, hv2⟩, hb⟩
        have HI6 := Lib.hid (HI5.out.trans (hb.mono HI5.out.size))
        have HV1' := Lib.hid (HV1.out.mono hb); have HV2 := Lib.hid hv2
        clear hb hv2
        go_wp2_with fail
        refine (EqTexts_ls _ _ _ _ HV1'.out HV2.out HFB.out.len).mono ?_
        rintro e w7 ⟨rfl, hb⟩
        have HI7 := Lib.hid (HI6.out.trans (hb.mono HI6.out.size))
        clear hb
        go_wp2_with fail
        go_roundw
        case rel => exact ⟨1 + 1, by omega, rfl, HI7⟩
        case measure => simp [intOf]
      · go_wp2_with fail
        refine (counted_holds _ (HT.out.mono HBW.out)).mono ?_
        rintro e wz ⟨rfl, hb⟩
        have HZ := Lib.hid (HBW.out.trans (hb.mono HBW.out.size))
        clear hb
        go_wp2_with fail
        go_ret
        exact ⟨rfl, HZ.out⟩
end Go.Proofs.YteggbenhffmijaaGreatDoor
