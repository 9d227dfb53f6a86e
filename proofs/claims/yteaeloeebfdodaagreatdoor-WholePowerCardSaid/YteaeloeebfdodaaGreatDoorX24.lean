/- Part 24 of the proofs that laws of package whole answer true at every input and leave the input as it was, where the library's variables start as the text lays them (the texts V7). -/
import Derived.Test.YteaeloeebfdodaaGreatDoorX05
import Derived.Test.YteaeloeebfdodaaGreatDoorX08
set_option linter.unusedVariables false
set_option linter.unusedSimpArgs false
/- WALKS, the divisor 1: side, empty, highest. -/
namespace Go.Proofs.YteaeloeebfdodaaGreatDoor
open Go.RowKit
theorem empty_any (w : World) (a b c d : Int) (o : Value) :
    Calls Tryz.prog 264 #[.agg #[.int .i64 a, .int .i64 b, .int .i64 c, .int .i64 d, o]] w fun e w' => e = .returned (.bool (b == 0)) ∧ Below w.heap.size w w' := by
  go_enter Tryz.func264, Tryz.ntmps264
  go_wp2
  go_ret
  exact ⟨rfl, (Below.refl _ _).alloc (Nat.le_refl _) _⟩
set_option maxHeartbeats 400000 in
theorem highest_any (w : World) (v : Value) (l : List Nat) (h : Sl w v l) (ho : Wh.Ok l) (hl : l.length ≤ 2) :
    Calls Tryz.prog 305 #[v, .int .i64 0] w fun e w' => e = .returned (.int .i64 (Wh.val l : Nat)) ∧ w = w' := by
  obtain ⟨a, c, rfl, hc⟩ := h.addr
  clear h
  have HC := Lib.hid hc; clear hc
  have HO := Lib.hid ho; clear ho
  generalize hn : l.length = n at *
  have HN := Lib.hid hn; clear hn
  go_enter Tryz.func305, Tryz.ntmps305
  have hmin : min (2 : Int) n = n := by omega
  go_wp2_with fail
  go_loop [5, 6] (fun r i => ∃ j : Nat, j ≤ n ∧ i = .int .i64 ((j : Int) - 1) ∧ r = .int .i64 (Wh.val (l.drop j) : Nat)) (fun _ i => (intOf i + 1).toNat)
  case atStart => exact ⟨n, Nat.le_refl _, rfl, by rw [List.drop_of_length_le (by rw [HN.out]; exact Nat.le_refl _)]; rfl⟩
  case round =>
    obtain ⟨j, hj, rfl, rfl⟩ := hrel
    rcases Nat.eq_zero_or_pos j with h0 | h0
    · subst h0
      rw [List.drop_zero]
      generalize hV : Wh.val l = V at *
      go_wp2
      go_ret
      exact ⟨by first | rfl | (rw [hV]; rfl), rfl⟩
    · obtain ⟨k, rfl⟩ : ∃ k, j = k + 1 := ⟨j - 1, by omega⟩
      have hv := Wh.val_drop l k (by rw [HN.out]; omega)
      obtain ⟨b, off, rfl, hlt, hcell⟩ := HC.out k (by omega)
      have hck := hcell k (by omega)
      have hx : l.getD k 0 < 1000000000 := Wh.getD_lt HO.out k
      have hu : Wh.val (l.drop (k + 1)) < 1000000000 := by
        have := Wh.val_lt (l := l.drop (k + 1)) (fun y hy => HO.out y (List.mem_of_mem_drop hy))
        have h2 : Wh.R ^ (l.drop (k + 1)).length ≤ Wh.R ^ 1 := Nat.pow_le_pow_right (by decide) (by rw [List.length_drop, HN.out]; omega)
        have h3 : Wh.R ^ 1 = 1000000000 := by decide
        omega
      have HV := Lib.hid hv; clear hv hcell
      have HLT := Lib.hid hlt; clear hlt
      generalize l.getD k 0 = x at *
      generalize Wh.val (l.drop (k + 1)) = u at *
      have hk1 : (((k + 1 : Nat) : Int) - 1) = k := by omega
      rw [hk1]
      go_wp2
      go_round
      case rel => exact ⟨k, by omega, by go_num, by congr 1; rw [HV.out, show Wh.R = 1000000000 from rfl]; omega⟩
      case measure => simp [intOf]
end Go.Proofs.YteaeloeebfdodaaGreatDoor
