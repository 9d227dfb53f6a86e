/- Part 31 of the proofs that laws of package whole answer true at every input and leave the input as it was, where the library's variables start as the text lays them (the texts N16, N8, N17, N18). -/
import Derived.Test.YteggbenhffmijaaGreatDoorZ30
import Derived.Test.YteggbenhffmijaaGreatDoorZ28
import Derived.Test.YteggbenhffmijaaGreatDoorZ29
import Derived.Test.YteggbenhffmijaaGreatDoorZ10
import Derived.Test.YteggbenhffmijaaGreatDoorZ23
set_option linter.unusedVariables false
set_option linter.unusedSimpArgs false
/- WALKS, small ratios 16: difference, quotient. -/
namespace Go.Proofs.YteggbenhffmijaaGreatDoor
open Go.RowKit
end Go.Proofs.YteggbenhffmijaaGreatDoor

/- WALKS, small ratios 8: comparing. -/
namespace Go.Proofs.YteggbenhffmijaaGreatDoor
open Go.RowKit
end Go.Proofs.YteggbenhffmijaaGreatDoor

/- WALKS, small ratios 17: ratio.Sub, Div, Compare. -/
namespace Go.Proofs.YteggbenhffmijaaGreatDoor
open Go.RowKit
end Go.Proofs.YteggbenhffmijaaGreatDoor

/- WALKS, small ratios 18: the kit's RatOf. -/
namespace Go.Proofs.YteggbenhffmijaaGreatDoor
open Go.RowKit
set_option maxHeartbeats 400000 in
theorem Decimal_int (x : Int) (hx : x.natAbs ≤ 1000000) (w : World) :
    Calls Tryz.prog 67 #[.int .i64 x] w fun e w' => e = .returned (txt x) ∧ Below w.heap.size w w' := by
  rcases Int.lt_or_le x 0 with h | h
  · have HD := Lib.hid (fun w => Decimal_any x.natAbs hx w)
    rw [show ((x.natAbs : Nat) : Int) = -x by omega] at HD
    have hsz : (str (Wh.decN x.natAbs)).size ≤ 10 := by
      have := Wh.decN_length_le (n := x.natAbs) (k := 9) (by omega) (by omega)
      rw [str_size]; omega
    have hcat : (⟨#[45]⟩ : ByteArray) ++ str (Wh.decN x.natAbs) = str (Wh.decI x) := by rw [decI_neg h, str_cons45]
    unfold txt
    generalize str (Wh.decI x) = o at *
    generalize str (Wh.decN x.natAbs) = n at *
    have HC := Lib.hid hcat; clear hcat
    have hsm : (⟨#[45]⟩ : ByteArray).size = 1 := rfl
    have hlim : ¬ (9223372036854775807 < (⟨#[45]⟩ : ByteArray).size + n.size) := by rw [hsm]; omega
    have hd : decide (x < 0) = true := decide_eq_true h
    go_enter Tryz.func67, Tryz.ntmps67
    go_wp2_with fail
    refine (HD.out _).mono ?_
    rintro e w' ⟨rfl, hb⟩
    have HB := Lib.hid hb; clear hb
    go_wp2_with fail
    go_ret
    exact ⟨by rw [← HC.out]; rfl, HB.out⟩
  · refine (by have := Decimal_any x.natAbs hx w; rwa [show ((x.natAbs : Nat) : Int) = x by omega] at this : Calls Tryz.prog 67 #[.int .i64 x] w fun e w' => e = .returned (.string (str (Wh.decN x.natAbs))) ∧ Below w.heap.size w w').mono ?_
    rintro e w' ⟨rfl, hb⟩
    exact ⟨by unfold txt; rw [decI_pos (by omega)], hb⟩
end Go.Proofs.YteggbenhffmijaaGreatDoor
