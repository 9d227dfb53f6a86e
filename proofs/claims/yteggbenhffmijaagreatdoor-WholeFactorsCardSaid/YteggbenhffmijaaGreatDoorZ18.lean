/- Part 18 of the proofs that laws of package whole answer true at every input and leave the input as it was, where the library's variables start as the text lays them (the texts H1, I1). -/
import Derived.Test.YteggbenhffmijaaGreatDoorZ17
import Derived.Test.YteggbenhffmijaaGreatDoorZ11
import Derived.Test.YteggbenhffmijaaGreatDoorZ12
import Derived.Test.YteggbenhffmijaaGreatDoorRows
import Derived.ProofKit
import Derived.LaidMore
import Derived.LaidSub
import Derived.OpenShut
import Derived.Conc.Holds
set_option linter.unusedVariables false
set_option linter.unusedSimpArgs false
/- WALKS: the worked examples that every law of the stage ends with answer true. -/
namespace Go.Proofs.YteggbenhffmijaaGreatDoor
open Go.RowKit Go.Proofs.Rf
theorem dec_of {n : Nat} {l : List UInt8} (hn : Wh.numOf l = n) (hd : ∀ c ∈ l, 48 ≤ c.toNat ∧ c.toNat ≤ 57) (hne : l ≠ []) (hz : l.headD 0 ≠ 48 ∨ l.length = 1) : Wh.decN n = l := by rw [← hn]; exact Wh.decN_numOf hd hne hz
theorem txp {x : Int} {n : Nat} {l : List UInt8} (hx : x = n) (h : Wh.decN n = l) : txt x = .string ⟨l.toArray⟩ := by
  unfold txt Wh.decI
  rw [if_neg (by omega), hx, Int.natAbs_natCast, h]; rfl
theorem txn {x : Int} {n : Nat} {l : List UInt8} (hx : x = -(n : Int)) (hn : 0 < n) (h : Wh.decN n = l) : txt x = .string ⟨(45 :: l).toArray⟩ := by
  unfold txt Wh.decI
  rw [if_pos (by omega), hx, Int.natAbs_neg, Int.natAbs_natCast, h]; rfl
theorem own_cells {W : World} {base n : Nat} {e : TypeId} {v : Value} {xs : List Value} (h : W.ownsRow base e 1 v n xs) (hn : 0 < n) : ∃ g c, v = .slice (some ⟨g, 0, none⟩) n c ∧ g < W.heap.size ∧ ∀ i, i < n → W.cell? ⟨g, i, none⟩ = xs[i]? := by
  rcases h.2 with ⟨_, h⟩ | ⟨g, cap, cur, h1, h2, h3, h4, h5, h6, h7⟩
  · omega
  · refine ⟨g, cap, h1, (Array.getElem?_eq_some_iff.1 h3).1, fun i hi => ?_⟩
    rw [← h7, Nat.mul_one, List.getElem?_take_of_lt hi, Array.getElem?_toList]
    simp [World.cell?, h3]
def six (i : Nat) : ByteArray := if i < 3 then ⟨#[50]⟩ else if i < 5 then ⟨#[51]⟩ else ⟨#[53]⟩
theorem mul_ex (w : World) (h : Tab w) : Calls Tryz.prog 140 #[.string { data := #[45, 49, 50, 51, 52, 53] }, .string { data := #[54, 55, 56, 57] }] w fun e w' => e = .returned (.tuple #[.string { data := #[45, 56, 51, 56, 49, 48, 50, 48, 53] }, .int .i64 0]) ∧ Below w.heap.size w w' := by
  have h1 := Mul_any w (-12345) 6789 (valid9 _ (by decide)) (valid9 _ (by decide)) (valid9 _ (by decide)) h (.inl (Nat.lt_of_le_of_lt (limbs_small _ (by decide)) (by decide)))
  rw [txn (x := -12345) (n := 12345) rfl (by decide) (dec_of (l := [49, 50, 51, 52, 53]) rfl (by decide) (by decide) (by decide)), txp (x := 6789) (n := 6789) rfl (dec_of (l := [54, 55, 56, 57]) rfl (by decide) (by decide) (by decide)), txn (x := -12345 * 6789) (n := 83810205) (by decide) (by decide) (dec_of (l := [56, 51, 56, 49, 48, 50, 48, 53]) rfl (by decide) (by decide) (by decide))] at h1
  exact h1
theorem floor_ex (w : World) (h : Tab w) : Calls Tryz.prog 71 #[.string { data := #[45, 55] }, .string { data := #[50] }] w fun e w' => e = .returned (.tuple #[.string { data := #[45, 52] }, .string { data := #[49] }, .int .i64 0]) ∧ Below w.heap.size w w' := by
  have h1 := Floor_any w (-7) 2 (valid9 _ (by decide)) (valid9 _ (by decide)) (fit9 _ (by decide)) (by decide) (valid9 _ (by decide)) (valid9 _ (by decide)) h
  rw [txn (x := -7) (n := 7) rfl (by decide) (dec_of (l := [55]) rfl (by decide) (by decide) (by decide)), txp (x := 2) (n := 2) rfl (dec_of (l := [50]) rfl (by decide) (by decide) (by decide)), txn (x := (-7 : Int).fdiv 2) (n := 4) (by decide) (by decide) (dec_of (l := [52]) rfl (by decide) (by decide) (by decide)), txp (x := (-7 : Int).fmod 2) (n := 1) (by decide) (dec_of (l := [49]) rfl (by decide) (by decide) (by decide))] at h1
  exact h1
theorem gcd_ex (w : World) (h : Tab w) : Calls Tryz.prog 75 #[.string { data := #[49, 50] }, .string { data := #[49, 56] }] w fun e w' => e = .returned (.tuple #[.string { data := #[54] }, .string { data := #[50] }, .string { data := #[45, 49] }, .int .i64 0]) ∧ Below w.heap.size w w' := by
  have h1 := Gcd_x w 12 18 6 2 (-1) rfl rfl rfl rfl rfl h
  rw [txp (x := 12) (n := 12) rfl (dec_of (l := [49, 50]) rfl (by decide) (by decide) (by decide)), txp (x := 18) (n := 18) rfl (dec_of (l := [49, 56]) rfl (by decide) (by decide) (by decide)), txp (x := 6) (n := 6) rfl (dec_of (l := [54]) rfl (by decide) (by decide) (by decide)), txp (x := 2) (n := 2) rfl (dec_of (l := [50]) rfl (by decide) (by decide) (by decide)), txn (x := -1) (n := 1) rfl (by decide) (dec_of (l := [49]) rfl (by decide) (by decide) (by decide))] at h1
  exact h1
theorem powmod_ex (w : World) (h : Tab w) : Calls Tryz.prog 141 #[.string { data := #[51] }, .string { data := #[49, 48, 48] }, .string { data := #[55] }] w fun e w' => e = .returned (.tuple #[.string { data := #[52] }, .int .i64 0]) ∧ Below w.heap.size w w' := by
  have hv : ((3 : Int) ^ (100 : Int).natAbs).fmod 7 = 4 := by decide
  have h1 := PowMod_any w 3 100 7 (valid9 _ (by decide)) (valid9 _ (by decide)) (valid9 _ (by decide)) (fit9 _ (by decide)) (by decide) (by decide) (by rw [hv]; exact valid9 _ (by decide)) h
  rw [hv, txp (x := 3) (n := 3) rfl (dec_of (l := [51]) rfl (by decide) (by decide) (by decide)), txp (x := 100) (n := 100) rfl (dec_of (l := [49, 48, 48]) rfl (by decide) (by decide) (by decide)), txp (x := 7) (n := 7) rfl (dec_of (l := [55]) rfl (by decide) (by decide) (by decide)), txp (x := 4) (n := 4) rfl (dec_of (l := [52]) rfl (by decide) (by decide) (by decide))] at h1
  exact h1
theorem base_ex (w : World) (h : Tab w) : Calls Tryz.prog 142 #[.string { data := #[45, 50, 53, 53] }, .int .i64 16] w fun e w' => e = .returned (.tuple #[.string { data := #[45, 102, 102] }, .int .i64 0]) ∧ Below w.heap.size w w' := by
  have h1 := Base_255 w h
  rw [txn (x := -255) (n := 255) rfl (by decide) (dec_of (l := [50, 53, 53]) rfl (by decide) (by decide) (by decide))] at h1
  exact h1
theorem root_ex (w : World) (h : Tab w) : Calls Tryz.prog 143 #[.string { data := #[57, 57] }, .int .i64 2] w fun e w' => e = .returned (.tuple #[.string { data := #[57] }, .int .i64 0]) ∧ Below w.heap.size w w' := by
  have h1 := Root_99 w h
  rw [txp (x := 99) (n := 99) rfl (dec_of (l := [57, 57]) rfl (by decide) (by decide) (by decide)), txp (x := 9) (n := 9) rfl (dec_of (l := [57]) rfl (by decide) (by decide) (by decide))] at h1
  exact h1
theorem factor_ex (w : World) (h : Tab w) : Calls Tryz.prog 68 #[.string { data := #[51, 54, 48] }] w fun e w' => (∃ g c, e = .returned (.tuple #[.slice (some ⟨g, 0, none⟩) 6 c, .int .i64 0]) ∧ g < w'.heap.size ∧ ∀ i, i < 6 → w'.cell? ⟨g, 0 + i, none⟩ = some (.string (six i))) ∧ Below w.heap.size w w' := by
  have h1 := Factor_360 w h
  rw [txp (x := 360) (n := 360) rfl (dec_of (l := [51, 54, 48]) rfl (by decide) (by decide) (by decide))] at h1
  refine h1.mono ?_
  rintro e w' ⟨⟨v, rfl, ho⟩, hb⟩
  obtain ⟨g, c, rfl, hl, hc⟩ := own_cells ho (by decide)
  refine ⟨⟨g, c, rfl, hl, fun i hi => ?_⟩, hb⟩
  rw [Nat.zero_add, hc i hi]
  have t2 : txt (((2 : Nat) : Int)) = .string ⟨#[50]⟩ := txp (n := 2) rfl (dec_of (l := [50]) rfl (by decide) (by decide) (by decide))
  have t3 : txt (((3 : Nat) : Int)) = .string ⟨#[51]⟩ := txp (n := 3) rfl (dec_of (l := [51]) rfl (by decide) (by decide) (by decide))
  have t5 : txt (((5 : Nat) : Int)) = .string ⟨#[53]⟩ := txp (n := 5) rfl (dec_of (l := [53]) rfl (by decide) (by decide) (by decide))
  rcases (by omega : i = 0 ∨ i = 1 ∨ i = 2 ∨ i = 3 ∨ i = 4 ∨ i = 5) with rfl | rfl | rfl | rfl | rfl | rfl
  · exact congrArg some t2
  · exact congrArg some t2
  · exact congrArg some t2
  · exact congrArg some t3
  · exact congrArg some t3
  · exact congrArg some t5
set_option maxRecDepth 100000 in
set_option maxHeartbeats 1000000 in
theorem counted_holds : Counted := by
  intro w ht
  have HT := Lib.hid ht; clear ht
  go_enter Tryz.func66, Tryz.ntmps66
  go_wp2_with fail
  refine (mul_ex _ HT.out).mono ?_
  rintro e w1 ⟨rfl, hB⟩
  have HT1 := Lib.hid (HT.out.mono hB); have HB1 := Lib.hid hB; clear hB
  go_wp2_with fail
  refine (floor_ex _ HT1.out).mono ?_
  rintro e w2 ⟨rfl, hB⟩
  have HT2 := Lib.hid (HT1.out.mono hB); have HB2 := Lib.hid (HB1.out.trans (hB.mono HB1.out.size)); clear hB HT1 HB1
  go_wp2_with fail
  refine (gcd_ex _ HT2.out).mono ?_
  rintro e w3 ⟨rfl, hB⟩
  have HT3 := Lib.hid (HT2.out.mono hB); have HB3 := Lib.hid (HB2.out.trans (hB.mono HB2.out.size)); clear hB HT2 HB2
  go_wp2_with fail
  refine (powmod_ex _ HT3.out).mono ?_
  rintro e w4 ⟨rfl, hB⟩
  have HT4 := Lib.hid (HT3.out.mono hB); have HB4 := Lib.hid (HB3.out.trans (hB.mono HB3.out.size)); clear hB HT3 HB3
  go_wp2_with fail
  refine (base_ex _ HT4.out).mono ?_
  rintro e w5 ⟨rfl, hB⟩
  have HT5 := Lib.hid (HT4.out.mono hB); have HB5 := Lib.hid (HB4.out.trans (hB.mono HB4.out.size)); clear hB HT4 HB4
  go_wp2_with fail
  refine (factor_ex _ HT5.out).mono ?_
  rintro e w6 ⟨⟨g, c, rfl, hg, hcs⟩, hB⟩
  have HT6 := Lib.hid (HT5.out.mono hB); have HB6 := Lib.hid (HB5.out.trans (hB.mono HB5.out.size)); clear hB HT5 HB5
  have HCS := Lib.hid hcs; clear hcs
  go_wp2_with fail
  refine (root_ex _ HT6.out).mono ?_
  rintro e w7 ⟨rfl, hB⟩
  have HC7 : Hid (∀ i, i < 6 → w7.cell? ⟨g, 0 + i, none⟩ = some (.string (six i))) := Lib.hid (fun i hi => (hB.cell (p := ⟨g, 0 + i, none⟩) hg).trans (HCS.out i hi))
  have hg7 : g < w7.heap.size := Nat.lt_of_lt_of_le hg hB.size
  have HB7 := Lib.hid (HB6.out.trans (hB.mono HB6.out.size)); clear hB HT6 HB6 HCS hg
  go_wp2_with fail
  have hal : Below w7.heap.size w7 (w7.alloc (Obj.cells #[.string { data := #[50] }, .string { data := #[50] }, .string { data := #[50] }, .string { data := #[51] }, .string { data := #[51] }, .string { data := #[53] }] 9)) := (Below.refl _ _).alloc (Nat.le_refl _) _
  have h1 : ∀ i, i < 6 → (w7.alloc (Obj.cells #[.string { data := #[50] }, .string { data := #[50] }, .string { data := #[50] }, .string { data := #[51] }, .string { data := #[51] }, .string { data := #[53] }] 9)).cell? ⟨g, 0 + i, none⟩ = some (.string (six i)) := fun i hi => (hal.cell (p := ⟨g, 0 + i, none⟩) hg7).trans (HC7.out i hi)
  have h2 : ∀ i, i < 6 → (w7.alloc (Obj.cells #[.string { data := #[50] }, .string { data := #[50] }, .string { data := #[50] }, .string { data := #[51] }, .string { data := #[51] }, .string { data := #[53] }] 9)).cell? ⟨w7.heap.size, 0 + i, none⟩ = some (.string (six i)) := fun i hi => by
    rcases (by omega : i = 0 ∨ i = 1 ∨ i = 2 ∨ i = 3 ∨ i = 4 ∨ i = 5) with rfl | rfl | rfl | rfl | rfl | rfl <;> go_simp <;> rfl
  have HB8 := Lib.hid (HB7.out.trans (hal.mono HB7.out.size))
  have HE := Lib.hid (EqTexts_same (w7.alloc (Obj.cells #[.string { data := #[50] }, .string { data := #[50] }, .string { data := #[50] }, .string { data := #[51] }, .string { data := #[51] }, .string { data := #[53] }] 9)) g 0 w7.heap.size 0 6 c 6 six h1 h2 (by decide))
  clear hal h1 h2 HC7 HB7
  refine HE.out.mono ?_
  rintro e w8 ⟨rfl, hb8⟩
  have HB9 := Lib.hid (HB8.out.trans (hb8.mono HB8.out.size))
  clear HE hb8 HB8
  go_wp2
  go_ret
  exact ⟨rfl, HB9.out⟩
end Go.Proofs.YteggbenhffmijaaGreatDoor

/- THE ROW of the ring: the argument opened, the table out of the row's own list, the witness by the door's run. -/
namespace Go.Proofs.YteggbenhffmijaaGreatDoor
open Go.ChangeShapes Go.WideShapes Go.ChangeAt Go.RowKit
theorem ownKnob_none : ownKnob Tryz.prog.godebug = none := by kernel_rfl
theorem tab_of {l : List (String × DataW Unit)} {W : World} (e : ((l.filter fun x => x.2.handleName?.isNone).filter fun x => x.1 == "internal/strconv.uint64pow10") = [("internal/strconv.uint64pow10", Lib.tabData .u64 Lib.pow10Tab)])
    (h : laidMetH Tryz.prog l W) : Tab W := by
  have h1 := (laidMetH_iff.1 h).1.filter (fun x => x.1 == "internal/strconv.uint64pow10")
  rw [e] at h1
  exact Lib.tabIs_of_head tab_global (t := 381) (e := 132) (n := 20) (by kernel_rfl) (by kernel_rfl) (by kernel_rfl) (by kernel_rfl) (by kernel_rfl) h1
theorem nums_of {W : World} {a : Addr} {n : Nat} {zs : List Int} (hn : n ≤ zs.length) (hb : 0 < n → a.block < W.heap.size) (h : ∀ i, i < zs.length → W.cell? (a.add i) = some (.int .i64 (zs.getD i 0))) : Nums W (some a) n := by
  intro i hi
  obtain ⟨b, off, spot⟩ := a
  have h0 := h 0 (by omega)
  have hs : spot = none := by
    cases spot with
    | none => rfl
    | some k =>
      exfalso
      simp only [World.cell?, Addr.add] at h0
      split at h0
      · simp at h0
      · cases h0
  subst hs
  refine ⟨b, off, rfl, hb (by omega), fun j hj => ⟨zs.getD j 0, ?_⟩⟩
  have hj' := h j (by omega)
  unfold Addr.add at hj'
  split at hj'
  · next e => subst e; exact hj'
  · exact hj'
theorem nums_nil (W : World) : Nums W none 0 := fun _ h => absurd h (by omega)
end Go.Proofs.YteggbenhffmijaaGreatDoor
