/- Part 18 of the proofs that laws of package whole answer true at every input and leave the input as it was, where the library's variables start as the text lays them (the texts H1, I1). -/
import Derived.Test.YteaeloeebfdodaaGreatDoorF17
import Derived.Test.YteaeloeebfdodaaGreatDoorF11
import Derived.Test.YteaeloeebfdodaaGreatDoorF12
import Derived.Test.YteaeloeebfdodaaGreatDoorRows
import Derived.ProofKit
import Derived.LaidMore
import Derived.LaidSub
import Derived.OpenShut
import Derived.Conc.Holds
set_option linter.unusedVariables false
set_option linter.unusedSimpArgs false
/- WALKS: the worked examples that every law of the stage ends with answer true. -/
namespace Go.Proofs.YteaeloeebfdodaaGreatDoor
open Go.RowKit Go.Proofs.Rf
theorem dec_of {n : Nat} {l : List UInt8} (hn : Wh.numOf l = n) (hd : ∀ c ∈ l, 48 ≤ c.toNat ∧ c.toNat ≤ 57) (hne : l ≠ []) (hz : l.headD 0 ≠ 48 ∨ l.length = 1) : Wh.decN n = l := by rw [← hn]; exact Wh.decN_numOf hd hne hz
theorem txp {x : Int} {n : Nat} {l : List UInt8} (hx : x = n) (h : Wh.decN n = l) : txt x = .string ⟨l.toArray⟩ := by
  unfold txt Wh.decI
  rw [if_neg (by omega), hx, Int.natAbs_natCast, h]; rfl
theorem txn {x : Int} {n : Nat} {l : List UInt8} (hx : x = -(n : Int)) (hn : 0 < n) (h : Wh.decN n = l) : txt x = .string ⟨(45 :: l).toArray⟩ := by
  unfold txt Wh.decI
  rw [if_pos (by omega), hx, Int.natAbs_neg, Int.natAbs_natCast, h]; rfl
theorem own_cells {W : World} {base n : Nat} {e : TypeId} {v : Value} {xs : List Value} (h : W.ownsRow base e 1 v n xs) (hn : 0 < n) : ∃ g c, v = .slice (some ⟨g, 0, none⟩) n c ∧ g < W.heap.size ∧ ∀ i, i < n → W.cell? ⟨g, i, none⟩ = xs[i]? := by
  rcases h.2 with ⟨_, h⟩ | ⟨g, cap, cur, h1, h2, h3, h4, h5, h6, h7⟩
  · omega
  · refine ⟨g, cap, h1, (Array.getElem?_eq_some_iff.1 h3).1, fun i hi => ?_⟩
    rw [← h7, Nat.mul_one, List.getElem?_take_of_lt hi, Array.getElem?_toList]
    simp [World.cell?, h3]
def six (i : Nat) : ByteArray := if i < 3 then ⟨#[50]⟩ else if i < 5 then ⟨#[51]⟩ else ⟨#[53]⟩
theorem mul_ex (w : World) (h : Tab w) : Calls Tryz.prog 18 #[.string { data := #[45, 49, 50, 51, 52, 53] }, .string { data := #[54, 55, 56, 57] }] w fun e w' => e = .returned (.tuple #[.string { data := #[45, 56, 51, 56, 49, 48, 50, 48, 53] }, .int .i64 0]) ∧ Below w.heap.size w w' := by
  have h1 := Mul_any w (-12345) 6789 (valid9 _ (by decide)) (valid9 _ (by decide)) (valid9 _ (by decide)) h (.inl (Nat.lt_of_le_of_lt (limbs_small _ (by decide)) (by decide)))
  rw [txn (x := -12345) (n := 12345) rfl (by decide) (dec_of (l := [49, 50, 51, 52, 53]) rfl (by decide) (by decide) (by decide)), txp (x := 6789) (n := 6789) rfl (dec_of (l := [54, 55, 56, 57]) rfl (by decide) (by decide) (by decide)), txn (x := -12345 * 6789) (n := 83810205) (by decide) (by decide) (dec_of (l := [56, 51, 56, 49, 48, 50, 48, 53]) rfl (by decide) (by decide) (by decide))] at h1
  exact h1
theorem powmod_ex (w : World) (h : Tab w) : Calls Tryz.prog 28 #[.string { data := #[51] }, .string { data := #[49, 48, 48] }, .string { data := #[55] }] w fun e w' => e = .returned (.tuple #[.string { data := #[52] }, .int .i64 0]) ∧ Below w.heap.size w w' := by
  have hv : ((3 : Int) ^ (100 : Int).natAbs).fmod 7 = 4 := by decide
  have h1 := PowMod_any w 3 100 7 (valid9 _ (by decide)) (valid9 _ (by decide)) (valid9 _ (by decide)) (fit9 _ (by decide)) (by decide) (by decide) (by rw [hv]; exact valid9 _ (by decide)) h
  rw [hv, txp (x := 3) (n := 3) rfl (dec_of (l := [51]) rfl (by decide) (by decide) (by decide)), txp (x := 100) (n := 100) rfl (dec_of (l := [49, 48, 48]) rfl (by decide) (by decide) (by decide)), txp (x := 7) (n := 7) rfl (dec_of (l := [55]) rfl (by decide) (by decide) (by decide)), txp (x := 4) (n := 4) rfl (dec_of (l := [52]) rfl (by decide) (by decide) (by decide))] at h1
  exact h1
theorem base_ex (w : World) (h : Tab w) : Calls Tryz.prog 37 #[.string { data := #[45, 50, 53, 53] }, .int .i64 16] w fun e w' => e = .returned (.tuple #[.string { data := #[45, 102, 102] }, .int .i64 0]) ∧ Below w.heap.size w w' := by
  have h1 := Base_255 w h
  rw [txn (x := -255) (n := 255) rfl (by decide) (dec_of (l := [50, 53, 53]) rfl (by decide) (by decide) (by decide))] at h1
  exact h1
theorem root_ex (w : World) (h : Tab w) : Calls Tryz.prog 36 #[.string { data := #[57, 57] }, .int .i64 2] w fun e w' => e = .returned (.tuple #[.string { data := #[57] }, .int .i64 0]) ∧ Below w.heap.size w w' := by
  have h1 := Root_99 w h
  rw [txp (x := 99) (n := 99) rfl (dec_of (l := [57, 57]) rfl (by decide) (by decide) (by decide)), txp (x := 9) (n := 9) rfl (dec_of (l := [57]) rfl (by decide) (by decide) (by decide))] at h1
  exact h1
theorem factor_ex (w : World) (h : Tab w) : Calls Tryz.prog 39 #[.string { data := #[51, 54, 48] }] w fun e w' => (∃ g c, e = .returned (.tuple #[.slice (some ⟨g, 0, none⟩) 6 c, .int .i64 0]) ∧ g < w'.heap.size ∧ ∀ i, i < 6 → w'.cell? ⟨g, 0 + i, none⟩ = some (.string (six i))) ∧ Below w.heap.size w w' := by
  have h1 := Factor_360 w h
  rw [txp (x := 360) (n := 360) rfl (dec_of (l := [51, 54, 48]) rfl (by decide) (by decide) (by decide))] at h1
  refine h1.mono ?_
  rintro e w' ⟨⟨v, rfl, ho⟩, hb⟩
  obtain ⟨g, c, rfl, hl, hc⟩ := own_cells ho (by decide)
  refine ⟨⟨g, c, rfl, hl, fun i hi => ?_⟩, hb⟩
  rw [Nat.zero_add, hc i hi]
  have t2 : txt (((2 : Nat) : Int)) = .string ⟨#[50]⟩ := txp (n := 2) rfl (dec_of (l := [50]) rfl (by decide) (by decide) (by decide))
  have t3 : txt (((3 : Nat) : Int)) = .string ⟨#[51]⟩ := txp (n := 3) rfl (dec_of (l := [51]) rfl (by decide) (by decide) (by decide))
  have t5 : txt (((5 : Nat) : Int)) = .string ⟨#[53]⟩ := txp (n := 5) rfl (dec_of (l := [53]) rfl (by decide) (by decide) (by decide))
  rcases (by omega : i = 0 ∨ i = 1 ∨ i = 2 ∨ i = 3 ∨ i = 4 ∨ i = 5) with rfl | rfl | rfl | rfl | rfl | rfl
  · exact congrArg some t2
  · exact congrArg some t2
  · exact congrArg some t2
  · exact congrArg some t3
  · exact congrArg some t3
  · exact congrArg some t5
end Go.Proofs.YteaeloeebfdodaaGreatDoor

/- THE ROW of the ring: the argument opened, the table out of the row's own list, the witness by the door's run. -/
namespace Go.Proofs.YteaeloeebfdodaaGreatDoor
open Go.ChangeShapes Go.WideShapes Go.ChangeAt Go.RowKit
theorem ownKnob_none : ownKnob Tryz.prog.godebug = none := by kernel_rfl
theorem tab_of {l : List (String × DataW Unit)} {W : World} (e : ((l.filter fun x => x.2.handleName?.isNone).filter fun x => x.1 == "internal/strconv.uint64pow10") = [("internal/strconv.uint64pow10", Lib.tabData .u64 Lib.pow10Tab)])
    (h : laidMetH Tryz.prog l W) : Tab W := by
  have h1 := (laidMetH_iff.1 h).1.filter (fun x => x.1 == "internal/strconv.uint64pow10")
  rw [e] at h1
  exact Lib.tabIs_of_head tab_global (t := 379) (e := 101) (n := 20) (by kernel_rfl) (by kernel_rfl) (by kernel_rfl) (by kernel_rfl) (by kernel_rfl) h1
end Go.Proofs.YteaeloeebfdodaaGreatDoor
