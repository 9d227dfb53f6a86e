/- Part 47 of the proofs that laws of package whole answer true at every input and leave the input as it was, where the library's variables start as the text lays them (the texts L5). -/
import Derived.Test.YtmdfjnmakppknaaGreatDoorZ46
set_option linter.unusedVariables false
set_option linter.unusedSimpArgs false
/- WALKS: WholeDigits answers true. -/
namespace Go.Proofs.YtmdfjnmakppknaaGreatDoor
open Go.RowKit Go.Proofs.Rf
set_option maxRecDepth 100000 in
set_option maxHeartbeats 1000000 in
theorem digits_true (w : World) (a : Option Addr) (n c : Nat) (h : Nums w a n) (ht : Tab w) :
    Calls Tryz.prog 10 #[.slice a n c] w fun e w' => e = .returned (.bool true) ∧ Below w.heap.size w w' := by
  have HN := Lib.hid h; clear h
  have HT := Lib.hid ht; clear ht
  go_enter Tryz.func10, Tryz.ntmps10
  go_wp2_with fail
  refine (NewRod_any _ _ _ _ HN.out).mono ?_
  rintro e w1 ⟨rfl, hR, hB1⟩
  have HR := Lib.hid hR; clear hR
  have HB1 := Lib.hid hB1; clear hB1
  go_wp2_with fail
  refine (Whole_any _ _ a n c _ 30 HR.out (by omega) (Nat.le_refl _)).mono ?_
  rintro e w2 ⟨⟨x, rfl, hx⟩, hO, k1, hk1, hR⟩
  have HB2 := Lib.hid (HB1.out.trans (hO.below (Nat.le_refl _) HB1.out.size))
  clear HR HB1 hO HN
  have HX := Lib.hid hx; clear hx
  have HR := Lib.hid hR; clear hR
  go_wp2_with fail
  refine (From_any _ _ _ _ _ _ _ _ HR.out (by omega) (by omega)).mono ?_
  rintro e w3 ⟨⟨m, rfl, hm⟩, _, hO2⟩
  obtain ⟨b, rfl⟩ : ∃ b : Nat, m = (b : Int) := ⟨m.toNat, by omega⟩
  have hb : 2 ≤ b ∧ b ≤ 36 := by omega
  have HB3 := Lib.hid (HB2.out.trans (hO2.below (Nat.le_refl _) HB2.out.size))
  clear hm hO2 HB2 HR
  have C1 := Lib.hid (fun w => Base_txt w x b hb HX.out)
  have C2 := Lib.hid (fun w => FromBase_txt w x b hb HX.out)
  have C3 := Lib.hid (fun w => Base_txt w x 10 (by decide) HX.out)
  rw [inB_ten] at C3
  unfold txt at *
  generalize str (Wh.decI x) = S at *
  generalize str (inB b x) = D at *
  clear HX hb hk1
  go_wp2_with fail
  refine (C1.out _ (HT.out.mono HB3.out)).mono ?_
  rintro e w4 ⟨rfl, hb4⟩
  have HB4 := Lib.hid (HB3.out.trans (hb4.mono HB3.out.size)); clear hb4 HB3
  go_wp2_with fail
  refine (C2.out _ (HT.out.mono HB4.out)).mono ?_
  rintro e w5 ⟨rfl, hb5⟩
  have HB5 := Lib.hid (HB4.out.trans (hb5.mono HB4.out.size)); clear hb5 HB4
  go_wp2_with fail
  refine (C1.out _ (HT.out.mono HB5.out)).mono ?_
  rintro e w6 ⟨rfl, hb6⟩
  have HB6 := Lib.hid (HB5.out.trans (hb6.mono HB5.out.size)); clear hb6 HB5
  go_wp2_with fail
  refine (C3.out _ (HT.out.mono HB6.out)).mono ?_
  rintro e w7 ⟨rfl, hb7⟩
  have HB7 := Lib.hid (HB6.out.trans (hb7.mono HB6.out.size)); clear hb7 HB6
  have HC := Lib.hid (counted_holds w7 (HT.out.mono HB7.out))
  go_wp2_with fail
  refine HC.out.mono ?_
  rintro e w8 ⟨rfl, hb8⟩
  go_wp2
  go_ret
  exact ⟨rfl, HB7.out.trans (hb8.mono HB7.out.size)⟩
end Go.Proofs.YtmdfjnmakppknaaGreatDoor
