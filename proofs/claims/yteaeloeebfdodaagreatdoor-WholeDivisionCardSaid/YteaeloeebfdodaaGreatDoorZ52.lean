/- Part 52 of the proofs that laws of package whole answer true at every input and leave the input as it was, where the library's variables start as the text lays them (the texts W10). -/
import Derived.Test.YteaeloeebfdodaaGreatDoorZ51
import Derived.Test.YteaeloeebfdodaaGreatDoorZ46
set_option linter.unusedVariables false
set_option linter.unusedSimpArgs false
/- WALKS: division by 0. -/
namespace Go.Proofs.YteaeloeebfdodaaGreatDoor
open Go.RowKit Go.Proofs.Rf
set_option maxRecDepth 100000 in
set_option maxHeartbeats 400000 in
theorem divideLimbs_zero (w : World) (a1 a2 : Option Addr) (n1 c1 c2 : Nat) :
    Calls Tryz.prog 190 #[.slice a1 n1 c1, .slice a2 0 c2] w fun e w' => e = .panicked (chainOf 12) ∧ Below w.heap.size w w' := by
  go_enter Tryz.func190, Tryz.ntmps190
  go_wp2_with fail
  refine (kindOf_any w a2 0 c2).mono ?_
  rintro e w' ⟨rfl, rfl⟩
  rw [show (min ((0 : Nat) : Int) 2) = 0 from by decide]
  go_wp2_with fail
  refine (throw_any _ _).mono ?_
  rintro e w' ⟨rfl, rfl⟩
  go_wp2
  exact ⟨rfl, rfl, Below.refl _ _⟩
set_option maxRecDepth 100000 in
set_option maxHeartbeats 400000 in
theorem Quo_zero (w : World) (x0 : Value) (a1 a2 : Option Addr) (n1 c1 c2 : Nat) :
    Calls Tryz.prog 196 #[.agg #[x0, .slice a1 n1 c1], .agg #[.int .i64 0, .slice a2 0 c2]] w fun e w' => e = .panicked (chainOf 12) ∧ Below w.heap.size w w' := by
  have HL := laid4_new w x0 (.slice a1 n1 c1) (.int .i64 0) (.slice a2 0 c2) (.int .i64 0) (.slice none 0 0) (.int .i64 0) (.slice none 0 0) 83
  go_enter Tryz.func196, Tryz.ntmps196
  go_wp2_with fail
  generalize (((w.alloc (Obj.cells #[x0, Value.slice a1 n1 c1] 83)).alloc (Obj.cells #[Value.int IntKind.i64 0, Value.slice a2 0 c2] 83)).alloc (Obj.cells #[Value.int IntKind.i64 0, Value.slice none 0 0] 83)).alloc (Obj.cells #[Value.int IntKind.i64 0, Value.slice none 0 0] 83) = W at *
  refine (divideLimbs_zero W a1 a2 n1 c1 c2).mono ?_
  rintro e w1 ⟨rfl, hb⟩
  have hB := (HL.mono hb).below
  clear HL hb
  go_wp2
  exact ⟨rfl, rfl, hB⟩
set_option maxRecDepth 100000 in
set_option maxHeartbeats 400000 in
theorem Floor_zero (w : World) (x0 : Value) (a1 a2 : Option Addr) (n1 c1 c2 : Nat) :
    Calls Tryz.prog 187 #[.agg #[x0, .slice a1 n1 c1], .agg #[.int .i64 0, .slice a2 0 c2]] w fun e w' => e = .panicked (chainOf 12) ∧ Below w.heap.size w w' := by
  have HL := laid4_new w x0 (.slice a1 n1 c1) (.int .i64 0) (.slice a2 0 c2) (.int .i64 0) (.slice none 0 0) (.int .i64 0) (.slice none 0 0) 83
  go_enter Tryz.func187, Tryz.ntmps187
  go_wp2_with fail
  generalize (((w.alloc (Obj.cells #[x0, Value.slice a1 n1 c1] 83)).alloc (Obj.cells #[Value.int IntKind.i64 0, Value.slice a2 0 c2] 83)).alloc (Obj.cells #[Value.int IntKind.i64 0, Value.slice none 0 0] 83)).alloc (Obj.cells #[Value.int IntKind.i64 0, Value.slice none 0 0] 83) = W at *
  refine (Quo_zero W x0 a1 a2 n1 c1 c2).mono ?_
  rintro e w1 ⟨rfl, hb⟩
  have hB := (HL.mono hb).below
  clear HL hb
  go_wp2
  exact ⟨rfl, rfl, hB⟩
set_option maxRecDepth 100000 in
set_option maxHeartbeats 800000 in
theorem perform_floor0 (w : World) (sx : Int) (a1 a2 : Option Addr) (n1 c1 c2 : Nat) :
    Calls Tryz.prog 179 #[.iface 117 (.agg #[.int .i64 sx, .slice a1 n1 c1, .int .i64 0, .slice a2 0 c2])] w fun e w' => e = .panicked (chainOf 12) ∧ Below w.heap.size w w' := by
  have hme := method_floor (.int .i64 sx) (.slice a1 n1 c1) (.int .i64 0) (.slice a2 0 c2)
  go_enter Tryz.func179, Tryz.ntmps179
  go_wp2_with fail
  refine (operands_any _ sx 0 a1 a2 n1 c1 0 c2).mono ?_
  rintro e w2 ⟨rfl, hb2⟩
  clear hme
  have hno0 := no_floored_sum (.agg #[.int .i64 sx, .slice a1 n1 c1, .int .i64 0, .slice a2 0 c2])
  have hno1 := no_floored_difference (.agg #[.int .i64 sx, .slice a1 n1 c1, .int .i64 0, .slice a2 0 c2])
  have hno2 := no_floored_multiple (.agg #[.int .i64 sx, .slice a1 n1 c1, .int .i64 0, .slice a2 0 c2])
  have has := assert_floor (.agg #[.int .i64 sx, .slice a1 n1 c1, .int .i64 0, .slice a2 0 c2])
  have hbb : Below w.heap.size w w2 := (((Below.refl _ _).alloc (Nat.le_refl _) _).alloc (by simp) _).trans (hb2.mono (by simp; omega))
  go_wp2_with fail
  have hal : Below w2.heap.size w2 ((w2.alloc (Obj.cells #[Value.int IntKind.i64 sx, Value.slice a1 n1 c1] 83)).alloc (Obj.cells #[Value.int IntKind.i64 0, Value.slice a2 0 c2] 83)) := ((Below.refl _ _).alloc (Nat.le_refl _) _).alloc (by simp) _
  have hall := hbb.trans (hal.mono hbb.size)
  refine (Floor_zero _ (.int .i64 sx) a1 a2 n1 c1 c2).mono ?_
  rintro e w3 ⟨rfl, hb3⟩
  have hB := hall.trans (hb3.mono hall.size)
  clear hal hall hb3 hbb hb2 has hno0 hno1 hno2
  go_wp2
  exact ⟨rfl, rfl, hB⟩
set_option maxRecDepth 100000 in
set_option maxHeartbeats 800000 in
theorem perform_quo0 (w : World) (sx : Int) (a1 a2 : Option Addr) (n1 c1 c2 : Nat) :
    Calls Tryz.prog 179 #[.iface 119 (.agg #[.int .i64 sx, .slice a1 n1 c1, .int .i64 0, .slice a2 0 c2])] w fun e w' => e = .panicked (chainOf 12) ∧ Below w.heap.size w w' := by
  have hme := method_quo (.int .i64 sx) (.slice a1 n1 c1) (.int .i64 0) (.slice a2 0 c2)
  go_enter Tryz.func179, Tryz.ntmps179
  go_wp2_with fail
  refine (operands_any _ sx 0 a1 a2 n1 c1 0 c2).mono ?_
  rintro e w2 ⟨rfl, hb2⟩
  clear hme
  have hno0 := no_truncated_sum (.agg #[.int .i64 sx, .slice a1 n1 c1, .int .i64 0, .slice a2 0 c2])
  have hno1 := no_truncated_difference (.agg #[.int .i64 sx, .slice a1 n1 c1, .int .i64 0, .slice a2 0 c2])
  have hno2 := no_truncated_multiple (.agg #[.int .i64 sx, .slice a1 n1 c1, .int .i64 0, .slice a2 0 c2])
  have hno3 := no_truncated_floored (.agg #[.int .i64 sx, .slice a1 n1 c1, .int .i64 0, .slice a2 0 c2])
  have has := assert_quo (.agg #[.int .i64 sx, .slice a1 n1 c1, .int .i64 0, .slice a2 0 c2])
  have hbb : Below w.heap.size w w2 := (((Below.refl _ _).alloc (Nat.le_refl _) _).alloc (by simp) _).trans (hb2.mono (by simp; omega))
  go_wp2_with fail
  have hal : Below w2.heap.size w2 ((w2.alloc (Obj.cells #[Value.int IntKind.i64 sx, Value.slice a1 n1 c1] 83)).alloc (Obj.cells #[Value.int IntKind.i64 0, Value.slice a2 0 c2] 83)) := ((Below.refl _ _).alloc (Nat.le_refl _) _).alloc (by simp) _
  have hall := hbb.trans (hal.mono hbb.size)
  refine (Quo_zero _ (.int .i64 sx) a1 a2 n1 c1 c2).mono ?_
  rintro e w3 ⟨rfl, hb3⟩
  have hB := hall.trans (hb3.mono hall.size)
  clear hal hall hb3 hbb hb2 has hno0 hno1 hno2 hno3
  go_wp2
  exact ⟨rfl, rfl, hB⟩
set_option maxRecDepth 100000 in
set_option maxHeartbeats 400000 in
theorem double_bad (w : World) (o : Value) (c : Int) (hp : ∀ w', Below w.heap.size w w' → Calls Tryz.prog 179 #[o] w' fun e w'' => e = .panicked (chainOf c) ∧ Below w'.heap.size w' w'') :
    Calls Tryz.prog 111 #[o] w fun e w' => e = .panicked (chainOf c) ∧ Below w.heap.size w w' := by
  have HP := Lib.hid hp; clear hp
  go_enter Tryz.func111, Tryz.ntmps111
  go_wp2_with fail
  have hb0 : Below w.heap.size w (w.alloc (.cells #[.string ⟨#[]⟩, .string ⟨#[]⟩] 113)) := (Below.refl _ _).alloc (Nat.le_refl _) _
  refine (HP.out _ hb0).mono ?_
  rintro e w1 ⟨rfl, hb1⟩
  have hB := hb0.trans (hb1.mono hb0.size)
  clear hb0 hb1
  go_wp2
  exact ⟨rfl, rfl, hB⟩
theorem valid_zero : Valid 0 := by
  unfold Valid
  show (Wh.decN 0).length ≤ 400
  rw [Wh.decN_zero]; decide
set_option maxRecDepth 100000 in
set_option maxHeartbeats 400000 in
theorem floor0_work (w : World) (pa pb : Addr) (x : Int) (hc : Captured w pa pb x 0) (hla : pa.block < w.heap.size) (hlb : pb.block < w.heap.size) (hx : Valid x) :
    Calls Tryz.prog 110 #[.pointer (some pa), .pointer (some pb)] w fun e w' => e = .panicked (chainOf 12) ∧ Below w.heap.size w w' := by
  have hb0 : Below w.heap.size w (w.alloc (.cells #[.string ⟨#[]⟩, .string ⟨#[]⟩] 113)) := (Below.refl _ _).alloc (Nat.le_refl _) _
  have ha := (hb0.cell hla).trans hc.a
  have hb := (hb0.cell hlb).trans hc.b
  have H1 := Lib.hid (fun w => readPair_any x 0 hx valid_zero w)
  have HB0 := Lib.hid hb0; clear hb0
  clear hc hla hlb
  unfold txt at *
  go_enter Tryz.func110, Tryz.ntmps110
  go_wp2_with fail
  refine (H1.out _).mono ?_
  rintro e w1 ⟨⟨a1, n1, c1, a2, n2, c2, rfl, hs1, hs2⟩, hb1⟩
  obtain rfl : n2 = 0 := by
    obtain ⟨a, c, e⟩ := hs2.len
    rw [show Int.natAbs 0 = 0 from rfl, Wh.limbs_zero] at e
    simp only [Value.slice.injEq] at e
    exact e.2.1
  rw [show Int.sign 0 = 0 from rfl]
  go_wp2_with fail
  refine (double_bad _ _ 12 (fun w' _ => perform_floor0 w' _ a1 a2 n1 c1 c2)).mono ?_
  rintro e w2 ⟨rfl, hb2⟩
  have hb12 := hb1.trans (hb2.mono hb1.size)
  have hB := HB0.out.trans (hb12.mono HB0.out.size)
  clear hb12 hb1 hb2 hs1 hs2
  go_wp2
  exact ⟨rfl, rfl, hB⟩
set_option maxRecDepth 100000 in
set_option maxHeartbeats 400000 in
theorem Floor_by_zero (w : World) (x : Int) (hx : Valid x) (hE : ErrT w) :
    Calls Tryz.prog 33 #[txt x, txt 0] w fun e w' => e = .returned (.tuple #[.string ⟨#[]⟩, .string ⟨#[]⟩, .int .i64 12]) ∧ Below w.heap.size w w' := by
  have hmf : ∀ (fn : Fn) (first cap : Array Value) (w : World), (Instr.makeFunc fn first cap).run Tryz.prog w = .ok (.func fn first cap) w := fun _ _ _ _ => rfl
  have hat := fun (w : World) (pa pb : Addr) (h : Captured w pa pb x 0) (hE : ErrT w) (ha : pa.block < w.heap.size) (hb : pb.block < w.heap.size) => attempt_bad2 110 #[.pointer (some pa), .pointer (some pb)] 12 w hE (fun w => by kernel_rfl) (fun w' hb' => floor0_work w' pa pb x ⟨(hb'.cell ha).trans h.a, (hb'.cell hb).trans h.b⟩ (Nat.lt_of_lt_of_le ha hb'.size) (Nat.lt_of_lt_of_le hb hb'.size) hx)
  have HAT := Lib.hid hat; clear hat
  unfold txt at *
  go_enter Tryz.func33, Tryz.ntmps33
  go_wp2_with fail
  have hal : Below w.heap.size w ((w.alloc (.cells #[.string (str (Wh.decI x))] 9)).alloc (.cells #[.string (str (Wh.decI 0))] 9)) := ((Below.refl _ _).alloc (Nat.le_refl _) _).alloc (by simp) _
  obtain ⟨b0, b1⟩ := boxed w (.string (str (Wh.decI x))) (.string (str (Wh.decI 0))) 9
  refine (HAT.out _ _ _ ⟨b0, b1⟩ (hE.mono hal) (by simp; omega) (by simp)).mono ?_
  rintro e w2 ⟨rfl, hb2⟩
  have hbb := hal.trans (hb2.mono hal.size)
  clear hal b0 b1 hb2
  go_wp2_with fail
  have hB : Below w.heap.size w (w2.alloc (Obj.cells #[Value.string ⟨#[]⟩, Value.string ⟨#[]⟩] 113)) := hbb.alloc hbb.size _
  have q0 : (w2.alloc (Obj.cells #[Value.string ⟨#[]⟩, Value.string ⟨#[]⟩] 113)).cell? ⟨w2.heap.size, 0, none⟩ = some (.string ⟨#[]⟩) := by go_simp
  have q1 : (w2.alloc (Obj.cells #[Value.string ⟨#[]⟩, Value.string ⟨#[]⟩] 113)).cell? ⟨w2.heap.size, 1, none⟩ = some (.string ⟨#[]⟩) := by go_simp
  have HB := Lib.hid hB; clear hB hbb
  generalize w2.alloc (Obj.cells #[Value.string ⟨#[]⟩, Value.string ⟨#[]⟩] 113) = V at *
  go_quiet (fail)
  go_wp2
  exact bodyPost_ret (v := .tuple #[.string ⟨#[]⟩, .string ⟨#[]⟩, .int .i64 12]) (by simp [results, Tryz.results33, go_sem]) rfl ⟨rfl, HB.out.trans (below_drewN _ _ _)⟩
set_option maxRecDepth 100000 in
set_option maxHeartbeats 400000 in
theorem quo0_work (w : World) (pa pb : Addr) (x : Int) (hc : Captured w pa pb x 0) (hla : pa.block < w.heap.size) (hlb : pb.block < w.heap.size) (hx : Valid x) :
    Calls Tryz.prog 112 #[.pointer (some pa), .pointer (some pb)] w fun e w' => e = .panicked (chainOf 12) ∧ Below w.heap.size w w' := by
  have hb0 : Below w.heap.size w (w.alloc (.cells #[.string ⟨#[]⟩, .string ⟨#[]⟩] 113)) := (Below.refl _ _).alloc (Nat.le_refl _) _
  have ha := (hb0.cell hla).trans hc.a
  have hb := (hb0.cell hlb).trans hc.b
  have H1 := Lib.hid (fun w => readPair_any x 0 hx valid_zero w)
  have HB0 := Lib.hid hb0; clear hb0
  clear hc hla hlb
  unfold txt at *
  go_enter Tryz.func112, Tryz.ntmps112
  go_wp2_with fail
  refine (H1.out _).mono ?_
  rintro e w1 ⟨⟨a1, n1, c1, a2, n2, c2, rfl, hs1, hs2⟩, hb1⟩
  obtain rfl : n2 = 0 := by
    obtain ⟨a, c, e⟩ := hs2.len
    rw [show Int.natAbs 0 = 0 from rfl, Wh.limbs_zero] at e
    simp only [Value.slice.injEq] at e
    exact e.2.1
  rw [show Int.sign 0 = 0 from rfl]
  go_wp2_with fail
  refine (double_bad _ _ 12 (fun w' _ => perform_quo0 w' _ a1 a2 n1 c1 c2)).mono ?_
  rintro e w2 ⟨rfl, hb2⟩
  have hb12 := hb1.trans (hb2.mono hb1.size)
  have hB := HB0.out.trans (hb12.mono HB0.out.size)
  clear hb12 hb1 hb2 hs1 hs2
  go_wp2
  exact ⟨rfl, rfl, hB⟩
set_option maxRecDepth 100000 in
set_option maxHeartbeats 400000 in
theorem Quo_by_zero (w : World) (x : Int) (hx : Valid x) (hE : ErrT w) :
    Calls Tryz.prog 34 #[txt x, txt 0] w fun e w' => e = .returned (.tuple #[.string ⟨#[]⟩, .string ⟨#[]⟩, .int .i64 12]) ∧ Below w.heap.size w w' := by
  have hmf : ∀ (fn : Fn) (first cap : Array Value) (w : World), (Instr.makeFunc fn first cap).run Tryz.prog w = .ok (.func fn first cap) w := fun _ _ _ _ => rfl
  have hat := fun (w : World) (pa pb : Addr) (h : Captured w pa pb x 0) (hE : ErrT w) (ha : pa.block < w.heap.size) (hb : pb.block < w.heap.size) => attempt_bad2 112 #[.pointer (some pa), .pointer (some pb)] 12 w hE (fun w => by kernel_rfl) (fun w' hb' => quo0_work w' pa pb x ⟨(hb'.cell ha).trans h.a, (hb'.cell hb).trans h.b⟩ (Nat.lt_of_lt_of_le ha hb'.size) (Nat.lt_of_lt_of_le hb hb'.size) hx)
  have HAT := Lib.hid hat; clear hat
  unfold txt at *
  go_enter Tryz.func34, Tryz.ntmps34
  go_wp2_with fail
  have hal : Below w.heap.size w ((w.alloc (.cells #[.string (str (Wh.decI x))] 9)).alloc (.cells #[.string (str (Wh.decI 0))] 9)) := ((Below.refl _ _).alloc (Nat.le_refl _) _).alloc (by simp) _
  obtain ⟨b0, b1⟩ := boxed w (.string (str (Wh.decI x))) (.string (str (Wh.decI 0))) 9
  refine (HAT.out _ _ _ ⟨b0, b1⟩ (hE.mono hal) (by simp; omega) (by simp)).mono ?_
  rintro e w2 ⟨rfl, hb2⟩
  have hbb := hal.trans (hb2.mono hal.size)
  clear hal b0 b1 hb2
  go_wp2_with fail
  have hB : Below w.heap.size w (w2.alloc (Obj.cells #[Value.string ⟨#[]⟩, Value.string ⟨#[]⟩] 113)) := hbb.alloc hbb.size _
  have q0 : (w2.alloc (Obj.cells #[Value.string ⟨#[]⟩, Value.string ⟨#[]⟩] 113)).cell? ⟨w2.heap.size, 0, none⟩ = some (.string ⟨#[]⟩) := by go_simp
  have q1 : (w2.alloc (Obj.cells #[Value.string ⟨#[]⟩, Value.string ⟨#[]⟩] 113)).cell? ⟨w2.heap.size, 1, none⟩ = some (.string ⟨#[]⟩) := by go_simp
  have HB := Lib.hid hB; clear hB hbb
  generalize w2.alloc (Obj.cells #[Value.string ⟨#[]⟩, Value.string ⟨#[]⟩] 113) = V at *
  go_quiet (fail)
  go_wp2
  exact bodyPost_ret (v := .tuple #[.string ⟨#[]⟩, .string ⟨#[]⟩, .int .i64 12]) (by simp [results, Tryz.results34, go_sem]) rfl ⟨rfl, HB.out.trans (below_drewN _ _ _)⟩
end Go.Proofs.YteaeloeebfdodaaGreatDoor
