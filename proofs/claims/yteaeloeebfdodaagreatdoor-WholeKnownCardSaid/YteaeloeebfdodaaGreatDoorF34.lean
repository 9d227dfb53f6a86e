/- Part 34 of the proofs that laws of package whole answer true at every input and leave the input as it was, where the library's variables start as the text lays them (the texts Y1, Y3). -/
import Derived.Test.YteaeloeebfdodaaGreatDoorF31
import Derived.Test.YteaeloeebfdodaaGreatDoorF18
import Derived.Test.YteaeloeebfdodaaGreatDoorF29
import Derived.Test.YteaeloeebfdodaaGreatDoorF33
import Derived.Test.YteaeloeebfdodaaGreatDoorF17
set_option linter.unusedVariables false
set_option linter.unusedSimpArgs false
/- WALKS, the law WholeOrder. -/
namespace Go.Proofs.YteaeloeebfdodaaGreatDoor
open Go.RowKit
end Go.Proofs.YteaeloeebfdodaaGreatDoor

/- WALKS, the law WholePower. -/
namespace Go.Proofs.YteaeloeebfdodaaGreatDoor
open Go.RowKit
theorem Bd.pow {k : Nat} {x : Int} (h : Bd k x) (n : Nat) : Bd (k * n + 1) (x ^ n) := by
  unfold Bd at *
  rw [Int.natAbs_pow, Nat.pow_succ, Nat.pow_mul]
  have h1 : x.natAbs ^ n ≤ (10 ^ k) ^ n := Nat.pow_le_pow_left (Nat.le_of_lt h) n
  have h2 : 0 < (10 ^ k) ^ n := Nat.pow_pos (Nat.pow_pos (by decide))
  omega
theorem Bd.limbs {k : Nat} {x : Int} (h : Bd k x) (hk : 0 < k) {j : Nat} (hj : k ≤ 9 * j) : (Wh.limbs x.natAbs).length ≤ j :=
  Wh.limbs_length_of_dec (Nat.le_trans (Wh.decN_length_le hk h) hj)
theorem powFit_of {x : Int} (h : Bd 6 x) {n : Nat} (hn : n ≤ 50) : PowFit x n :=
  ⟨fun k hk => Nat.le_trans ((h.pow k).limbs (by omega) (j := 50) (by omega)) (by decide), fun k hk => Nat.lt_of_le_of_lt ((h.pow k).limbs (by omega) (j := 18) (by omega)) (by decide)⟩
end Go.Proofs.YteaeloeebfdodaaGreatDoor
