/- Part 35 of the proofs that laws of package whole answer true at every input and leave the input as it was, where the library's variables start as the text lays them (the texts W10, Y6). -/
import Derived.Test.YteaeloeebfdodaaGreatDoorF27
import Derived.Test.YteaeloeebfdodaaGreatDoorF20
import Derived.Test.YteaeloeebfdodaaGreatDoorF28
import Derived.Test.YteaeloeebfdodaaGreatDoorF29
import Derived.Test.YteaeloeebfdodaaGreatDoorF34
set_option linter.unusedVariables false
set_option linter.unusedSimpArgs false
/- WALKS: division by 0. -/
namespace Go.Proofs.YteaeloeebfdodaaGreatDoor
open Go.RowKit Go.Proofs.Rf
set_option maxRecDepth 100000 in
set_option maxHeartbeats 400000 in
theorem divideLimbs_zero (w : World) (a1 a2 : Option Addr) (n1 c1 c2 : Nat) :
    Calls Tryz.prog 190 #[.slice a1 n1 c1, .slice a2 0 c2] w fun e w' => e = .panicked (chainOf 12) ∧ Below w.heap.size w w' := by
  go_enter Tryz.func190, Tryz.ntmps190
  go_wp2_with fail
  refine (kindOf_any w a2 0 c2).mono ?_
  rintro e w' ⟨rfl, rfl⟩
  rw [show (min ((0 : Nat) : Int) 2) = 0 from by decide]
  go_wp2_with fail
  refine (throw_any _ _).mono ?_
  rintro e w' ⟨rfl, rfl⟩
  go_wp2
  exact ⟨rfl, rfl, Below.refl _ _⟩
set_option maxRecDepth 100000 in
set_option maxHeartbeats 400000 in
theorem Quo_zero (w : World) (x0 : Value) (a1 a2 : Option Addr) (n1 c1 c2 : Nat) :
    Calls Tryz.prog 196 #[.agg #[x0, .slice a1 n1 c1], .agg #[.int .i64 0, .slice a2 0 c2]] w fun e w' => e = .panicked (chainOf 12) ∧ Below w.heap.size w w' := by
  have HL := laid4_new w x0 (.slice a1 n1 c1) (.int .i64 0) (.slice a2 0 c2) (.int .i64 0) (.slice none 0 0) (.int .i64 0) (.slice none 0 0) 83
  go_enter Tryz.func196, Tryz.ntmps196
  go_wp2_with fail
  generalize (((w.alloc (Obj.cells #[x0, Value.slice a1 n1 c1] 83)).alloc (Obj.cells #[Value.int IntKind.i64 0, Value.slice a2 0 c2] 83)).alloc (Obj.cells #[Value.int IntKind.i64 0, Value.slice none 0 0] 83)).alloc (Obj.cells #[Value.int IntKind.i64 0, Value.slice none 0 0] 83) = W at *
  refine (divideLimbs_zero W a1 a2 n1 c1 c2).mono ?_
  rintro e w1 ⟨rfl, hb⟩
  have hB := (HL.mono hb).below
  clear HL hb
  go_wp2
  exact ⟨rfl, rfl, hB⟩
set_option maxRecDepth 100000 in
set_option maxHeartbeats 400000 in
theorem Floor_zero (w : World) (x0 : Value) (a1 a2 : Option Addr) (n1 c1 c2 : Nat) :
    Calls Tryz.prog 187 #[.agg #[x0, .slice a1 n1 c1], .agg #[.int .i64 0, .slice a2 0 c2]] w fun e w' => e = .panicked (chainOf 12) ∧ Below w.heap.size w w' := by
  have HL := laid4_new w x0 (.slice a1 n1 c1) (.int .i64 0) (.slice a2 0 c2) (.int .i64 0) (.slice none 0 0) (.int .i64 0) (.slice none 0 0) 83
  go_enter Tryz.func187, Tryz.ntmps187
  go_wp2_with fail
  generalize (((w.alloc (Obj.cells #[x0, Value.slice a1 n1 c1] 83)).alloc (Obj.cells #[Value.int IntKind.i64 0, Value.slice a2 0 c2] 83)).alloc (Obj.cells #[Value.int IntKind.i64 0, Value.slice none 0 0] 83)).alloc (Obj.cells #[Value.int IntKind.i64 0, Value.slice none 0 0] 83) = W at *
  refine (Quo_zero W x0 a1 a2 n1 c1 c2).mono ?_
  rintro e w1 ⟨rfl, hb⟩
  have hB := (HL.mono hb).below
  clear HL hb
  go_wp2
  exact ⟨rfl, rfl, hB⟩
set_option maxRecDepth 100000 in
set_option maxHeartbeats 800000 in
theorem perform_floor0 (w : World) (sx : Int) (a1 a2 : Option Addr) (n1 c1 c2 : Nat) :
    Calls Tryz.prog 179 #[.iface 117 (.agg #[.int .i64 sx, .slice a1 n1 c1, .int .i64 0, .slice a2 0 c2])] w fun e w' => e = .panicked (chainOf 12) ∧ Below w.heap.size w w' := by
  have hme := method_floor (.int .i64 sx) (.slice a1 n1 c1) (.int .i64 0) (.slice a2 0 c2)
  go_enter Tryz.func179, Tryz.ntmps179
  go_wp2_with fail
  refine (operands_any _ sx 0 a1 a2 n1 c1 0 c2).mono ?_
  rintro e w2 ⟨rfl, hb2⟩
  clear hme
  have hno0 := no_floored_sum (.agg #[.int .i64 sx, .slice a1 n1 c1, .int .i64 0, .slice a2 0 c2])
  have hno1 := no_floored_difference (.agg #[.int .i64 sx, .slice a1 n1 c1, .int .i64 0, .slice a2 0 c2])
  have hno2 := no_floored_multiple (.agg #[.int .i64 sx, .slice a1 n1 c1, .int .i64 0, .slice a2 0 c2])
  have has := assert_floor (.agg #[.int .i64 sx, .slice a1 n1 c1, .int .i64 0, .slice a2 0 c2])
  have hbb : Below w.heap.size w w2 := (((Below.refl _ _).alloc (Nat.le_refl _) _).alloc (by simp) _).trans (hb2.mono (by simp; omega))
  go_wp2_with fail
  have hal : Below w2.heap.size w2 ((w2.alloc (Obj.cells #[Value.int IntKind.i64 sx, Value.slice a1 n1 c1] 83)).alloc (Obj.cells #[Value.int IntKind.i64 0, Value.slice a2 0 c2] 83)) := ((Below.refl _ _).alloc (Nat.le_refl _) _).alloc (by simp) _
  have hall := hbb.trans (hal.mono hbb.size)
  refine (Floor_zero _ (.int .i64 sx) a1 a2 n1 c1 c2).mono ?_
  rintro e w3 ⟨rfl, hb3⟩
  have hB := hall.trans (hb3.mono hall.size)
  clear hal hall hb3 hbb hb2 has hno0 hno1 hno2
  go_wp2
  exact ⟨rfl, rfl, hB⟩
set_option maxRecDepth 100000 in
set_option maxHeartbeats 400000 in
theorem double_bad (w : World) (o : Value) (c : Int) (hp : ∀ w', Below w.heap.size w w' → Calls Tryz.prog 179 #[o] w' fun e w'' => e = .panicked (chainOf c) ∧ Below w'.heap.size w' w'') :
    Calls Tryz.prog 111 #[o] w fun e w' => e = .panicked (chainOf c) ∧ Below w.heap.size w w' := by
  have HP := Lib.hid hp; clear hp
  go_enter Tryz.func111, Tryz.ntmps111
  go_wp2_with fail
  have hb0 : Below w.heap.size w (w.alloc (.cells #[.string ⟨#[]⟩, .string ⟨#[]⟩] 113)) := (Below.refl _ _).alloc (Nat.le_refl _) _
  refine (HP.out _ hb0).mono ?_
  rintro e w1 ⟨rfl, hb1⟩
  have hB := hb0.trans (hb1.mono hb0.size)
  clear hb0 hb1
  go_wp2
  exact ⟨rfl, rfl, hB⟩
theorem valid_zero : Valid 0 := by
  unfold Valid
  show (Wh.decN 0).length ≤ 400
  rw [Wh.decN_zero]; decide
set_option maxRecDepth 100000 in
set_option maxHeartbeats 400000 in
theorem floor0_work (w : World) (pa pb : Addr) (x : Int) (hc : Captured w pa pb x 0) (hla : pa.block < w.heap.size) (hlb : pb.block < w.heap.size) (hx : Valid x) :
    Calls Tryz.prog 110 #[.pointer (some pa), .pointer (some pb)] w fun e w' => e = .panicked (chainOf 12) ∧ Below w.heap.size w w' := by
  have hb0 : Below w.heap.size w (w.alloc (.cells #[.string ⟨#[]⟩, .string ⟨#[]⟩] 113)) := (Below.refl _ _).alloc (Nat.le_refl _) _
  have ha := (hb0.cell hla).trans hc.a
  have hb := (hb0.cell hlb).trans hc.b
  have H1 := Lib.hid (fun w => readPair_any x 0 hx valid_zero w)
  have HB0 := Lib.hid hb0; clear hb0
  clear hc hla hlb
  unfold txt at *
  go_enter Tryz.func110, Tryz.ntmps110
  go_wp2_with fail
  refine (H1.out _).mono ?_
  rintro e w1 ⟨⟨a1, n1, c1, a2, n2, c2, rfl, hs1, hs2⟩, hb1⟩
  obtain rfl : n2 = 0 := by
    obtain ⟨a, c, e⟩ := hs2.len
    rw [show Int.natAbs 0 = 0 from rfl, Wh.limbs_zero] at e
    simp only [Value.slice.injEq] at e
    exact e.2.1
  rw [show Int.sign 0 = 0 from rfl]
  go_wp2_with fail
  refine (double_bad _ _ 12 (fun w' _ => perform_floor0 w' _ a1 a2 n1 c1 c2)).mono ?_
  rintro e w2 ⟨rfl, hb2⟩
  have hb12 := hb1.trans (hb2.mono hb1.size)
  have hB := HB0.out.trans (hb12.mono HB0.out.size)
  clear hb12 hb1 hb2 hs1 hs2
  go_wp2
  exact ⟨rfl, rfl, hB⟩
set_option maxRecDepth 100000 in
set_option maxHeartbeats 400000 in
theorem Floor_by_zero (w : World) (x : Int) (hx : Valid x) (hE : ErrT w) :
    Calls Tryz.prog 33 #[txt x, txt 0] w fun e w' => e = .returned (.tuple #[.string ⟨#[]⟩, .string ⟨#[]⟩, .int .i64 12]) ∧ Below w.heap.size w w' := by
  have hmf : ∀ (fn : Fn) (first cap : Array Value) (w : World), (Instr.makeFunc fn first cap).run Tryz.prog w = .ok (.func fn first cap) w := fun _ _ _ _ => rfl
  have hat := fun (w : World) (pa pb : Addr) (h : Captured w pa pb x 0) (hE : ErrT w) (ha : pa.block < w.heap.size) (hb : pb.block < w.heap.size) => attempt_bad2 110 #[.pointer (some pa), .pointer (some pb)] 12 w hE (fun w => by kernel_rfl) (fun w' hb' => floor0_work w' pa pb x ⟨(hb'.cell ha).trans h.a, (hb'.cell hb).trans h.b⟩ (Nat.lt_of_lt_of_le ha hb'.size) (Nat.lt_of_lt_of_le hb hb'.size) hx)
  have HAT := Lib.hid hat; clear hat
  unfold txt at *
  go_enter Tryz.func33, Tryz.ntmps33
  go_wp2_with fail
  have hal : Below w.heap.size w ((w.alloc (.cells #[.string (str (Wh.decI x))] 9)).alloc (.cells #[.string (str (Wh.decI 0))] 9)) := ((Below.refl _ _).alloc (Nat.le_refl _) _).alloc (by simp) _
  obtain ⟨b0, b1⟩ := boxed w (.string (str (Wh.decI x))) (.string (str (Wh.decI 0))) 9
  refine (HAT.out _ _ _ ⟨b0, b1⟩ (hE.mono hal) (by simp; omega) (by simp)).mono ?_
  rintro e w2 ⟨rfl, hb2⟩
  have hbb := hal.trans (hb2.mono hal.size)
  clear hal b0 b1 hb2
  go_wp2_with fail
  have hB : Below w.heap.size w (w2.alloc (Obj.cells #[Value.string ⟨#[]⟩, Value.string ⟨#[]⟩] 113)) := hbb.alloc hbb.size _
  have q0 : (w2.alloc (Obj.cells #[Value.string ⟨#[]⟩, Value.string ⟨#[]⟩] 113)).cell? ⟨w2.heap.size, 0, none⟩ = some (.string ⟨#[]⟩) := by go_simp
  have q1 : (w2.alloc (Obj.cells #[Value.string ⟨#[]⟩, Value.string ⟨#[]⟩] 113)).cell? ⟨w2.heap.size, 1, none⟩ = some (.string ⟨#[]⟩) := by go_simp
  have HB := Lib.hid hB; clear hB hbb
  generalize w2.alloc (Obj.cells #[Value.string ⟨#[]⟩, Value.string ⟨#[]⟩] 113) = V at *
  go_quiet (fail)
  go_wp2
  exact bodyPost_ret (v := .tuple #[.string ⟨#[]⟩, .string ⟨#[]⟩, .int .i64 12]) (by simp [results, Tryz.results33, go_sem]) rfl ⟨rfl, HB.out.trans (below_drewN _ _ _)⟩
end Go.Proofs.YteaeloeebfdodaaGreatDoor

/- WALKS, the law WholeKnown. -/
set_option linter.unusedVariables false
namespace Go.Proofs.YteaeloeebfdodaaGreatDoor
open Go.RowKit Go.Proofs.Rf
theorem digs_zz : Digs 36 (behind [122, 122]) := by
  intro c hc
  have : c = 122 := by simpa [behind] using hc
  subst this
  decide
theorem kn_m12 : txt (-12) = .string { data := #[45, 49, 50] } := txn (n := 12) rfl (by decide) (dec_of (l := [49, 50]) rfl (by decide) (by decide) (by decide))
theorem kn_m3 : txt (-3) = .string { data := #[45, 51] } := txn (n := 3) rfl (by decide) (dec_of (l := [51]) rfl (by decide) (by decide) (by decide))
theorem kx0 (w : World) (ht : Tab w) (hE : ErrT w) : Calls Tryz.prog 16 #[.string { data := #[45, 49, 50] }, .string { data := #[45, 51] }] w fun e w' => e = .returned (.tuple #[.int .i64 (-1), .int .i64 0]) ∧ Below w.heap.size w w' := by
  have h := Compare_any w (-12) (-3) (valid9 _ (by decide)) (valid9 _ (by decide)) (fit9 _ (by decide))
  rw [show cmpI (-12) (-3) = -1 from rfl] at h
  rw [kn_m12, kn_m3] at h
  exact h
theorem kn_10 : txt 10 = .string { data := #[49, 48] } := txp (n := 10) rfl (dec_of (l := [49, 48]) rfl (by decide) (by decide) (by decide))
theorem kn_9 : txt 9 = .string { data := #[57] } := txp (n := 9) rfl (dec_of (l := [57]) rfl (by decide) (by decide) (by decide))
theorem kx1 (w : World) (ht : Tab w) (hE : ErrT w) : Calls Tryz.prog 16 #[.string { data := #[49, 48] }, .string { data := #[57] }] w fun e w' => e = .returned (.tuple #[.int .i64 1, .int .i64 0]) ∧ Below w.heap.size w w' := by
  have h := Compare_any w (10) (9) (valid9 _ (by decide)) (valid9 _ (by decide)) (fit9 _ (by decide))
  rw [show cmpI (10) (9) = 1 from rfl] at h
  rw [kn_10, kn_9] at h
  exact h
theorem kn_5 : txt 5 = .string { data := #[53] } := txp (n := 5) rfl (dec_of (l := [53]) rfl (by decide) (by decide) (by decide))
theorem kx2 (w : World) (ht : Tab w) (hE : ErrT w) : Calls Tryz.prog 16 #[.string { data := #[53] }, .string { data := #[53] }] w fun e w' => e = .returned (.tuple #[.int .i64 0, .int .i64 0]) ∧ Below w.heap.size w w' := by
  have h := Compare_any w (5) (5) (valid9 _ (by decide)) (valid9 _ (by decide)) (fit9 _ (by decide))
  rw [show cmpI (5) (5) = 0 from rfl] at h
  rw [kn_5] at h
  exact h
theorem kn_99999999 : txt 99999999 = .string { data := #[57, 57, 57, 57, 57, 57, 57, 57] } := txp (n := 99999999) rfl (dec_of (l := [57, 57, 57, 57, 57, 57, 57, 57]) rfl (by decide) (by decide) (by decide))
theorem kn_1 : txt 1 = .string { data := #[49] } := txp (n := 1) rfl (dec_of (l := [49]) rfl (by decide) (by decide) (by decide))
theorem kn_100000000 : txt 100000000 = .string { data := #[49, 48, 48, 48, 48, 48, 48, 48, 48] } := txp (n := 100000000) rfl (dec_of (l := [49, 48, 48, 48, 48, 48, 48, 48, 48]) rfl (by decide) (by decide) (by decide))
theorem kx3 (w : World) (ht : Tab w) (hE : ErrT w) : Calls Tryz.prog 17 #[.string { data := #[57, 57, 57, 57, 57, 57, 57, 57] }, .string { data := #[49] }] w fun e w' => e = .returned (.tuple #[.string { data := #[49, 48, 48, 48, 48, 48, 48, 48, 48] }, .int .i64 0]) ∧ Below w.heap.size w w' := by
  have h := Add_any w (99999999) (1) (valid9 _ (by decide)) (valid9 _ (by decide)) (fit9 _ (by decide)) (fit9 _ (by decide)) (valid9 _ (by decide)) ht
  rw [show (99999999 : Int) + (1) = 100000000 from rfl] at h
  rw [kn_99999999, kn_1, kn_100000000] at h
  exact h
theorem kn_m5 : txt (-5) = .string { data := #[45, 53] } := txn (n := 5) rfl (by decide) (dec_of (l := [53]) rfl (by decide) (by decide) (by decide))
theorem kn_0 : txt 0 = .string { data := #[48] } := txp (n := 0) rfl (dec_of (l := [48]) rfl (by decide) (by decide) (by decide))
theorem kx4 (w : World) (ht : Tab w) (hE : ErrT w) : Calls Tryz.prog 17 #[.string { data := #[45, 53] }, .string { data := #[53] }] w fun e w' => e = .returned (.tuple #[.string { data := #[48] }, .int .i64 0]) ∧ Below w.heap.size w w' := by
  have h := Add_any w (-5) (5) (valid9 _ (by decide)) (valid9 _ (by decide)) (fit9 _ (by decide)) (fit9 _ (by decide)) (valid9 _ (by decide)) ht
  rw [show (-5 : Int) + (5) = 0 from rfl] at h
  rw [kn_m5, kn_5, kn_0] at h
  exact h
theorem kn_100 : txt 100 = .string { data := #[49, 48, 48] } := txp (n := 100) rfl (dec_of (l := [49, 48, 48]) rfl (by decide) (by decide) (by decide))
theorem kn_m99 : txt (-99) = .string { data := #[45, 57, 57] } := txn (n := 99) rfl (by decide) (dec_of (l := [57, 57]) rfl (by decide) (by decide) (by decide))
theorem kx5 (w : World) (ht : Tab w) (hE : ErrT w) : Calls Tryz.prog 32 #[.string { data := #[49] }, .string { data := #[49, 48, 48] }] w fun e w' => e = .returned (.tuple #[.string { data := #[45, 57, 57] }, .int .i64 0]) ∧ Below w.heap.size w w' := by
  have h := Sub_any w (1) (100) (valid9 _ (by decide)) (valid9 _ (by decide)) (fit9 _ (by decide)) (fit9 _ (by decide)) (valid9 _ (by decide)) ht
  rw [show (1 : Int) - (100) = -99 from rfl] at h
  rw [kn_1, kn_100, kn_m99] at h
  exact h
theorem kn_7 : txt 7 = .string { data := #[55] } := txp (n := 7) rfl (dec_of (l := [55]) rfl (by decide) (by decide) (by decide))
theorem kn_2 : txt 2 = .string { data := #[50] } := txp (n := 2) rfl (dec_of (l := [50]) rfl (by decide) (by decide) (by decide))
theorem kn_3 : txt 3 = .string { data := #[51] } := txp (n := 3) rfl (dec_of (l := [51]) rfl (by decide) (by decide) (by decide))
theorem kx6 (w : World) (ht : Tab w) (hE : ErrT w) : Calls Tryz.prog 33 #[.string { data := #[55] }, .string { data := #[50] }] w fun e w' => e = .returned (.tuple #[.string { data := #[51] }, .string { data := #[49] }, .int .i64 0]) ∧ Below w.heap.size w w' := by
  have h := FloorG_any w (7) (2) (valid9 _ (by decide)) (valid9 _ (by decide)) (fit9 _ (by decide)) (fit9 _ (by decide)) (by decide) (valid9 _ (by decide)) (valid9 _ (by decide)) ht
  rw [show (7 : Int).fdiv (2) = 3 from rfl, show (7 : Int).fmod (2) = 1 from rfl] at h
  rw [kn_7, kn_2, kn_3, kn_1] at h
  exact h
theorem kn_m2 : txt (-2) = .string { data := #[45, 50] } := txn (n := 2) rfl (by decide) (dec_of (l := [50]) rfl (by decide) (by decide) (by decide))
theorem kn_m4 : txt (-4) = .string { data := #[45, 52] } := txn (n := 4) rfl (by decide) (dec_of (l := [52]) rfl (by decide) (by decide) (by decide))
theorem kn_m1 : txt (-1) = .string { data := #[45, 49] } := txn (n := 1) rfl (by decide) (dec_of (l := [49]) rfl (by decide) (by decide) (by decide))
theorem kx7 (w : World) (ht : Tab w) (hE : ErrT w) : Calls Tryz.prog 33 #[.string { data := #[55] }, .string { data := #[45, 50] }] w fun e w' => e = .returned (.tuple #[.string { data := #[45, 52] }, .string { data := #[45, 49] }, .int .i64 0]) ∧ Below w.heap.size w w' := by
  have h := FloorG_any w (7) (-2) (valid9 _ (by decide)) (valid9 _ (by decide)) (fit9 _ (by decide)) (fit9 _ (by decide)) (by decide) (valid9 _ (by decide)) (valid9 _ (by decide)) ht
  rw [show (7 : Int).fdiv (-2) = -4 from rfl, show (7 : Int).fmod (-2) = -1 from rfl] at h
  rw [kn_7, kn_m2, kn_m4, kn_m1] at h
  exact h
theorem kx8 (w : World) (ht : Tab w) (hE : ErrT w) : Calls Tryz.prog 33 #[.string { data := #[49] }, .string { data := #[48] }] w fun e w' => e = .returned (.tuple #[.string { data := #[] }, .string { data := #[] }, .int .i64 12]) ∧ Below w.heap.size w w' := by
  have h := Floor_by_zero w 1 (valid9 _ (by decide)) hE
  rw [kn_1, kn_0] at h
  exact h
theorem kn_m7 : txt (-7) = .string { data := #[45, 55] } := txn (n := 7) rfl (by decide) (dec_of (l := [55]) rfl (by decide) (by decide) (by decide))
theorem kx9 (w : World) (ht : Tab w) (hE : ErrT w) : Calls Tryz.prog 34 #[.string { data := #[45, 55] }, .string { data := #[50] }] w fun e w' => e = .returned (.tuple #[.string { data := #[45, 51] }, .string { data := #[45, 49] }, .int .i64 0]) ∧ Below w.heap.size w w' := by
  have h := QuoG_any w (-7) (2) (valid9 _ (by decide)) (valid9 _ (by decide)) (fit9 _ (by decide)) (fit9 _ (by decide)) (by decide) (valid9 _ (by decide)) (valid9 _ (by decide)) ht
  rw [show (-7 : Int).tdiv (2) = -3 from rfl, show (-7 : Int).tmod (2) = -1 from rfl] at h
  rw [kn_m7, kn_2, kn_m3, kn_m1] at h
  exact h
theorem kx10 (w : World) (ht : Tab w) (hE : ErrT w) : Calls Tryz.prog 34 #[.string { data := #[55] }, .string { data := #[45, 50] }] w fun e w' => e = .returned (.tuple #[.string { data := #[45, 51] }, .string { data := #[49] }, .int .i64 0]) ∧ Below w.heap.size w w' := by
  have h := QuoG_any w (7) (-2) (valid9 _ (by decide)) (valid9 _ (by decide)) (fit9 _ (by decide)) (fit9 _ (by decide)) (by decide) (valid9 _ (by decide)) (valid9 _ (by decide)) ht
  rw [show (7 : Int).tdiv (-2) = -3 from rfl, show (7 : Int).tmod (-2) = 1 from rfl] at h
  rw [kn_7, kn_m2, kn_m3, kn_1] at h
  exact h
theorem kx11 (w : World) (ht : Tab w) (hE : ErrT w) : Calls Tryz.prog 35 #[.string { data := #[48] }, .string { data := #[48] }] w fun e w' => e = .returned (.tuple #[.string { data := #[48] }, .string { data := #[48] }, .string { data := #[48] }, .int .i64 0]) ∧ Below w.heap.size w w' := by
  have h := Gcd_zero w 0 (show Bd 20 _ from by unfold Bd; decide) ht
  rw [show (((0 : Int).natAbs : Nat) : Int) = 0 from rfl, show (0 : Int).sign = 0 from rfl] at h
  rw [kn_0] at h
  exact h
theorem kn_4 : txt 4 = .string { data := #[52] } := txp (n := 4) rfl (dec_of (l := [52]) rfl (by decide) (by decide) (by decide))
theorem kx12 (w : World) (ht : Tab w) (hE : ErrT w) : Calls Tryz.prog 35 #[.string { data := #[45, 52] }, .string { data := #[48] }] w fun e w' => e = .returned (.tuple #[.string { data := #[52] }, .string { data := #[45, 49] }, .string { data := #[48] }, .int .i64 0]) ∧ Below w.heap.size w w' := by
  have h := Gcd_zero w (-4) (show Bd 20 _ from by unfold Bd; decide) ht
  rw [show (((-4 : Int).natAbs : Nat) : Int) = 4 from rfl, show (-4 : Int).sign = -1 from rfl] at h
  rw [kn_m4, kn_0, kn_4, kn_m1] at h
  exact h
theorem kx13 (w : World) (ht : Tab w) (hE : ErrT w) : Calls Tryz.prog 35 #[.string { data := #[55] }, .string { data := #[45, 51] }] w fun e w' => e = .returned (.tuple #[.string { data := #[49] }, .string { data := #[49] }, .string { data := #[50] }, .int .i64 0]) ∧ Below w.heap.size w w' := by
  have h := Gcd_gcd w 7 (-3) 1 1 2 (show Bd 20 _ from by unfold Bd; decide) (show Bd 20 _ from by unfold Bd; decide) (by decide) ⟨by decide, by decide, by decide, by decide, by decide, by decide⟩ ht
  rw [kn_7, kn_m3, kn_1, kn_2] at h
  exact h
theorem kn_1024 : txt 1024 = .string { data := #[49, 48, 50, 52] } := txp (n := 1024) rfl (dec_of (l := [49, 48, 50, 52]) rfl (by decide) (by decide) (by decide))
theorem kx14 (w : World) (ht : Tab w) (hE : ErrT w) : Calls Tryz.prog 25 #[.string { data := #[45, 50] }, .int .i64 10] w fun e w' => e = .returned (.tuple #[.string { data := #[49, 48, 50, 52] }, .int .i64 0]) ∧ Below w.heap.size w w' := by
  have hl : (Wh.decN (-2 : Int).natAbs).length = 1 := by rw [show (-2 : Int).natAbs = 2 from rfl, Wh.decN_small (by decide)]; rfl
  have b2 : Bd 6 (-2 : Int) := by unfold Bd; decide
  have h := PowW_any w (-2) 10 (valid9 _ (by decide)) (by decide) (by rw [hl]; decide) (by rw [hl]; decide) (powFit_of b2 (by decide)) (by rw [show (-2 : Int) ^ 10 = 1024 from rfl]; exact (valid9 _ (by decide))) ht
  rw [show (-2 : Int) ^ 10 = 1024 from rfl] at h
  rw [kn_m2, kn_1024] at h
  exact h
theorem kx15 (w : World) (ht : Tab w) (hE : ErrT w) : Calls Tryz.prog 25 #[.string { data := #[50] }, .int .i64 1001] w fun e w' => e = .returned (.tuple #[.string { data := #[] }, .int .i64 2]) ∧ Below w.heap.size w w' := by
  have h := Pow_value w 2 1001 (valid9 _ (by decide)) (.inr (by decide)) hE
  rw [kn_2] at h
  exact h
theorem kx16 (w : World) (ht : Tab w) (hE : ErrT w) : Calls Tryz.prog 28 #[.string { data := #[53] }, .string { data := #[45, 49] }, .string { data := #[51] }] w fun e w' => e = .returned (.tuple #[.string { data := #[] }, .int .i64 2]) ∧ Below w.heap.size w w' := by
  have h := PowMod_neg w 5 (-1) 3 (valid9 _ (by decide)) (valid9 _ (by decide)) (valid9 _ (by decide)) (by decide) hE
  rw [kn_5, kn_m1, kn_3] at h
  exact h
theorem kn_1000 : txt 1000 = .string { data := #[49, 48, 48, 48] } := txp (n := 1000) rfl (dec_of (l := [49, 48, 48, 48]) rfl (by decide) (by decide) (by decide))
theorem kx17 (w : World) (ht : Tab w) (hE : ErrT w) : Calls Tryz.prog 36 #[.string { data := #[49, 48, 48, 48] }, .int .i64 3] w fun e w' => e = .returned (.tuple #[.string { data := #[49, 48] }, .int .i64 0]) ∧ Below w.heap.size w w' := by
  have h := Root_pos w 1000 3 (by unfold Bd; decide) (by decide) (by decide) 10 (by decide) (by decide) (by decide) ht
  unfold txt at h
  rw [show Value.string (str (Wh.decI 1000)) = txt 1000 from rfl, show Value.string (str (Wh.decI 10)) = txt 10 from rfl] at h
  rw [kn_1000, kn_10] at h
  exact h
theorem kx18 (w : World) (ht : Tab w) (hE : ErrT w) : Calls Tryz.prog 36 #[.string { data := #[45, 49] }, .int .i64 2] w fun e w' => e = .returned (.tuple #[.string { data := #[] }, .int .i64 2]) ∧ Below w.heap.size w w' := by
  have h := Root_negative w (-1) 2 (valid9 _ (by decide)) (by decide) (by decide) hE
  rw [kn_m1] at h
  exact h
theorem kn_8 : txt 8 = .string { data := #[56] } := txp (n := 8) rfl (dec_of (l := [56]) rfl (by decide) (by decide) (by decide))
theorem kx19 (w : World) (ht : Tab w) (hE : ErrT w) : Calls Tryz.prog 37 #[.string { data := #[56] }, .int .i64 2] w fun e w' => e = .returned (.tuple #[.string { data := #[49, 48, 48, 48] }, .int .i64 0]) ∧ Below w.heap.size w w' := by
  have h := Base_txt w 8 2 (by decide) (by decide) ht
  rw [show str (inB 2 8) = ({ data := #[49, 48, 48, 48] } : ByteArray) from by rw [show inB 2 8 = [49, 48, 48, 48] from by kernel_rfl]; rfl] at h
  rw [kn_8] at h
  exact h
theorem kn_1295 : txt 1295 = .string { data := #[49, 50, 57, 53] } := txp (n := 1295) rfl (dec_of (l := [49, 50, 57, 53]) rfl (by decide) (by decide) (by decide))
theorem kx20 (w : World) (ht : Tab w) (hE : ErrT w) : Calls Tryz.prog 38 #[.string { data := #[122, 122] }, .int .i64 36] w fun e w' => e = .returned (.tuple #[.string { data := #[49, 50, 57, 53] }, .int .i64 0]) ∧ Below w.heap.size w w' := by
  have hf : Form 36 [122, 122] := ⟨by decide, digs_zz, .inl (by decide)⟩
  have h := FromBase_any w (str [122, 122]) 1 [122, 122] 36 (fun w => split_form [122, 122] 36 hf (by decide) w) (by decide) hf.digs (by decide) (.inr rfl) 1295 (by decide) (valid9 _ (by decide)) ht
  rw [kn_1295] at h
  exact h
theorem kx21 (w : World) (ht : Tab w) (hE : ErrT w) : Calls Tryz.prog 38 #[.string { data := #[48, 49, 50] }, .int .i64 8] w fun e w' => e = .returned (.tuple #[.string { data := #[] }, .int .i64 1]) ∧ Below w.heap.size w w' := by
  have h := FromBase_form w [48, 49, 50] 8 (by decide) (by decide) (fun h => by rcases h.lead with h | h <;> revert h <;> decide) hE
  exact h
theorem kx22 (w : World) (ht : Tab w) (hE : ErrT w) : Calls Tryz.prog 38 #[.string { data := #[49, 57] }, .int .i64 8] w fun e w' => e = .returned (.tuple #[.string { data := #[] }, .int .i64 1]) ∧ Below w.heap.size w w' := by
  have h := FromBase_form w [49, 57] 8 (by decide) (by decide) (fun h => by have := (h.digs 57 (by decide)).2; revert this; decide) hE
  exact h
theorem kn_1000001 : txt 1000001 = .string { data := #[49, 48, 48, 48, 48, 48, 49] } := txp (n := 1000001) rfl (dec_of (l := [49, 48, 48, 48, 48, 48, 49]) rfl (by decide) (by decide) (by decide))
theorem kf1 (w : World) (ht : Tab w) : Calls Tryz.prog 39 #[.string { data := #[49] }] w fun e w' => (∃ a c, e = .returned (.tuple #[.slice a 0 c, .int .i64 0])) ∧ Below w.heap.size w w' := by
  have hd : Wh.decI 1 = [49] := by unfold Wh.decI; rw [if_neg (by decide)]; exact Wh.decN_small (by decide)
  have h := Factor_any w 1 1 rfl (by decide) (valid9 _ (by decide)) (valid9 _ (by decide)) (fit9 _ (by decide)) (by rw [hd]; rfl) (by rw [hd]; decide) ht
  rw [kn_1, show pr (1 + 1) 2 1 = [] from by kernel_rfl] at h
  refine h.mono ?_
  rintro e w' ⟨⟨v, rfl, ho⟩, hb⟩
  rcases ho.2 with ⟨h, _⟩ | ⟨g, cap, cur, h1, h2⟩
  · subst h; exact ⟨⟨_, _, rfl⟩, hb⟩
  · subst h1; exact ⟨⟨_, _, rfl⟩, hb⟩
theorem kf2 (w : World) (ht : Tab w) (hE : ErrT w) : Calls Tryz.prog 39 #[.string { data := #[48] }] w fun e w' => e = .returned (.tuple #[.slice none 0 0, .int .i64 2]) ∧ Below w.heap.size w w' := by
  have h := Factor_low w 0 (valid9 _ (by decide)) (by decide) hE ht
  rw [kn_0] at h
  exact h
theorem kf3 (w : World) (ht : Tab w) (hE : ErrT w) : Calls Tryz.prog 39 #[.string { data := #[49, 48, 48, 48, 48, 48, 49] }] w fun e w' => e = .returned (.tuple #[.slice none 0 0, .int .i64 13]) ∧ Below w.heap.size w w' := by
  have h := Factor_large w 1000001 (valid9 _ (by decide)) (fit9 _ (by decide)) (by decide) hE ht
  rw [kn_1000001] at h
  exact h
def badL (i : Nat) : List UInt8 := if i = 0 then [48, 48, 55] else if i = 1 then [45, 48] else if i = 2 then [] else [49, 46, 53]
theorem bad_at (i : Nat) : Bad (badL i) 1 := by
  refine .inl ⟨?_, rfl⟩
  unfold badL
  split
  · exact fun h => by rcases h.lead with h | h <;> revert h <;> decide
  · split
    · exact fun h => by rcases h.lead with h | h <;> revert h <;> decide
    · split
      · exact fun h => h.ne (by decide)
      · exact fun h => by have := (h.digs 46 (by decide)).2; revert this; decide
theorem bad_len (i : Nat) : (badL i).length ≤ 80000 := by
  unfold badL
  split
  · decide
  · split
    · decide
    · split <;> decide
theorem kc1 (w : World) : Calls Tryz.prog 31 #[.string { data := #[45, 49, 50] }] w fun e w' => e = .returned (.int .i64 0) ∧ Below w.heap.size w w' := by
  have h := Check_good w (-12) (valid9 _ (by decide))
  rw [kn_m12] at h
  exact h
set_option maxRecDepth 100000 in
set_option maxHeartbeats 8000000 in
theorem known_true (w : World) (ht : Tab w) (hE : ErrT w) :
    Calls Tryz.prog 5 #[] w fun e w' => e = .returned (.bool true) ∧ Below w.heap.size w w' := by
  have HT := Lib.hid ht; clear ht
  have HE := Lib.hid hE; clear hE
  go_enter Tryz.func5, Tryz.ntmps5
  go_wp2_with fail
  have hal : Below w.heap.size w (w.alloc (Obj.cells #[.string { data := #[48, 48, 55] }, .string { data := #[45, 48] }, .string { data := #[] }, .string { data := #[49, 46, 53] }] 9)) := (Below.refl _ _).alloc (Nat.le_refl _) _
  have HC : Hid (∀ i, i < 4 → (w.alloc (Obj.cells #[.string { data := #[48, 48, 55] }, .string { data := #[45, 48] }, .string { data := #[] }, .string { data := #[49, 46, 53] }] 9)).cell? ⟨w.heap.size, i, none⟩ = some (.string (str (badL i)))) := Lib.hid (fun i hi => by
    rcases (by omega : i = 0 ∨ i = 1 ∨ i = 2 ∨ i = 3) with rfl | rfl | rfl | rfl <;> go_simp <;> rfl)
  have HL : Hid (w.heap.size < (w.alloc (Obj.cells #[.string { data := #[48, 48, 55] }, .string { data := #[45, 48] }, .string { data := #[] }, .string { data := #[49, 46, 53] }] 9)).heap.size) := Lib.hid (by simp)
  have HA := Lib.hid hal; clear hal
  generalize (w.alloc (Obj.cells #[.string { data := #[48, 48, 55] }, .string { data := #[45, 48] }, .string { data := #[] }, .string { data := #[49, 46, 53] }] 9)) = V at *
  go_loopw [2] (fun iv wr => ∃ i : Nat, i ≤ 4 ∧ iv = .int .i64 (i : Int) ∧ Hid (Below V.heap.size V wr)) (fun iv _ => 4 - (intOf iv).toNat)
  case atStart => exact ⟨0, Nat.zero_le _, rfl, Lib.hid (Below.refl _ _)⟩
  case round =>
    obtain ⟨i, hi, rfl, HI⟩ := hrel
    by_cases hip : i < 4
    · have hd : decide ((i : Int) < 4) = true := by rw [decide_eq_true_iff]; omega
      have hcell := (HI.out.cell (p := ⟨w.heap.size, i, none⟩) HL.out).trans (HC.out i hip)
      have CB := Lib.hid (Check_bad wr (badL i) 1 (bad_len i) (bad_at i) (HE.out.mono (HA.out.trans (HI.out.mono HA.out.size))))
      generalize str (badL i) = TB at *
      go_wp2_with fail
      refine CB.out.mono ?_
      rintro e w1 ⟨rfl, hb⟩
      have HI1 := Lib.hid (HI.out.trans (hb.mono HI.out.size)); clear hb
      go_wp2_with fail
      exact ⟨⟨i + 1, by omega, by simp, HI1⟩, by simp [intOf]; omega⟩
    · obtain rfl : i = 4 := by omega
      have HB0 : Hid (Below w.heap.size w wr) := Lib.hid (HA.out.trans (HI.out.mono HA.out.size))
      clear HC HL HA HI hi hip
      go_wp2_with fail
      refine (kx0 _ (HT.out.mono HB0.out) (HE.out.mono HB0.out)).mono ?_
      rintro e v0 ⟨rfl, hb⟩
      have HB1 := Lib.hid (HB0.out.trans (hb.mono HB0.out.size)); clear hb HB0
      go_wp2_with fail
      refine (kx1 _ (HT.out.mono HB1.out) (HE.out.mono HB1.out)).mono ?_
      rintro e v1 ⟨rfl, hb⟩
      have HB2 := Lib.hid (HB1.out.trans (hb.mono HB1.out.size)); clear hb HB1
      go_wp2_with fail
      refine (kx2 _ (HT.out.mono HB2.out) (HE.out.mono HB2.out)).mono ?_
      rintro e v2 ⟨rfl, hb⟩
      have HB3 := Lib.hid (HB2.out.trans (hb.mono HB2.out.size)); clear hb HB2
      go_wp2_with fail
      refine (counted_all _ (HT.out.mono HB3.out)).mono ?_
      rintro e v3 ⟨rfl, hb⟩
      have HB4 := Lib.hid (HB3.out.trans (hb.mono HB3.out.size)); clear hb HB3
      go_wp2_with fail
      refine (kc1 _ ).mono ?_
      rintro e v4 ⟨rfl, hb⟩
      have HB5 := Lib.hid (HB4.out.trans (hb.mono HB4.out.size)); clear hb HB4
      go_wp2_with fail
      refine (kx3 _ (HT.out.mono HB5.out) (HE.out.mono HB5.out)).mono ?_
      rintro e v5 ⟨rfl, hb⟩
      have HB6 := Lib.hid (HB5.out.trans (hb.mono HB5.out.size)); clear hb HB5
      go_wp2_with fail
      refine (kx4 _ (HT.out.mono HB6.out) (HE.out.mono HB6.out)).mono ?_
      rintro e v6 ⟨rfl, hb⟩
      have HB7 := Lib.hid (HB6.out.trans (hb.mono HB6.out.size)); clear hb HB6
      go_wp2_with fail
      refine (kx5 _ (HT.out.mono HB7.out) (HE.out.mono HB7.out)).mono ?_
      rintro e v7 ⟨rfl, hb⟩
      have HB8 := Lib.hid (HB7.out.trans (hb.mono HB7.out.size)); clear hb HB7
      go_wp2_with fail
      refine (kx6 _ (HT.out.mono HB8.out) (HE.out.mono HB8.out)).mono ?_
      rintro e v8 ⟨rfl, hb⟩
      have HB9 := Lib.hid (HB8.out.trans (hb.mono HB8.out.size)); clear hb HB8
      go_wp2_with fail
      refine (kx7 _ (HT.out.mono HB9.out) (HE.out.mono HB9.out)).mono ?_
      rintro e v9 ⟨rfl, hb⟩
      have HB10 := Lib.hid (HB9.out.trans (hb.mono HB9.out.size)); clear hb HB9
      go_wp2_with fail
      refine (kx8 _ (HT.out.mono HB10.out) (HE.out.mono HB10.out)).mono ?_
      rintro e v10 ⟨rfl, hb⟩
      have HB11 := Lib.hid (HB10.out.trans (hb.mono HB10.out.size)); clear hb HB10
      go_wp2_with fail
      refine (kx9 _ (HT.out.mono HB11.out) (HE.out.mono HB11.out)).mono ?_
      rintro e v11 ⟨rfl, hb⟩
      have HB12 := Lib.hid (HB11.out.trans (hb.mono HB11.out.size)); clear hb HB11
      go_wp2_with fail
      refine (kx10 _ (HT.out.mono HB12.out) (HE.out.mono HB12.out)).mono ?_
      rintro e v12 ⟨rfl, hb⟩
      have HB13 := Lib.hid (HB12.out.trans (hb.mono HB12.out.size)); clear hb HB12
      go_wp2_with fail
      refine (kx11 _ (HT.out.mono HB13.out) (HE.out.mono HB13.out)).mono ?_
      rintro e v13 ⟨rfl, hb⟩
      have HB14 := Lib.hid (HB13.out.trans (hb.mono HB13.out.size)); clear hb HB13
      go_wp2_with fail
      refine (kx12 _ (HT.out.mono HB14.out) (HE.out.mono HB14.out)).mono ?_
      rintro e v14 ⟨rfl, hb⟩
      have HB15 := Lib.hid (HB14.out.trans (hb.mono HB14.out.size)); clear hb HB14
      go_wp2_with fail
      refine (kx13 _ (HT.out.mono HB15.out) (HE.out.mono HB15.out)).mono ?_
      rintro e v15 ⟨rfl, hb⟩
      have HB16 := Lib.hid (HB15.out.trans (hb.mono HB15.out.size)); clear hb HB15
      go_wp2_with fail
      refine (kx14 _ (HT.out.mono HB16.out) (HE.out.mono HB16.out)).mono ?_
      rintro e v16 ⟨rfl, hb⟩
      have HB17 := Lib.hid (HB16.out.trans (hb.mono HB16.out.size)); clear hb HB16
      go_wp2_with fail
      refine (kx15 _ (HT.out.mono HB17.out) (HE.out.mono HB17.out)).mono ?_
      rintro e v17 ⟨rfl, hb⟩
      have HB18 := Lib.hid (HB17.out.trans (hb.mono HB17.out.size)); clear hb HB17
      go_wp2_with fail
      refine (kx16 _ (HT.out.mono HB18.out) (HE.out.mono HB18.out)).mono ?_
      rintro e v18 ⟨rfl, hb⟩
      have HB19 := Lib.hid (HB18.out.trans (hb.mono HB18.out.size)); clear hb HB18
      go_wp2_with fail
      refine (kx17 _ (HT.out.mono HB19.out) (HE.out.mono HB19.out)).mono ?_
      rintro e v19 ⟨rfl, hb⟩
      have HB20 := Lib.hid (HB19.out.trans (hb.mono HB19.out.size)); clear hb HB19
      go_wp2_with fail
      refine (kx18 _ (HT.out.mono HB20.out) (HE.out.mono HB20.out)).mono ?_
      rintro e v20 ⟨rfl, hb⟩
      have HB21 := Lib.hid (HB20.out.trans (hb.mono HB20.out.size)); clear hb HB20
      go_wp2_with fail
      refine (kx19 _ (HT.out.mono HB21.out) (HE.out.mono HB21.out)).mono ?_
      rintro e v21 ⟨rfl, hb⟩
      have HB22 := Lib.hid (HB21.out.trans (hb.mono HB21.out.size)); clear hb HB21
      go_wp2_with fail
      refine (kx20 _ (HT.out.mono HB22.out) (HE.out.mono HB22.out)).mono ?_
      rintro e v22 ⟨rfl, hb⟩
      have HB23 := Lib.hid (HB22.out.trans (hb.mono HB22.out.size)); clear hb HB22
      go_wp2_with fail
      refine (kx21 _ (HT.out.mono HB23.out) (HE.out.mono HB23.out)).mono ?_
      rintro e v23 ⟨rfl, hb⟩
      have HB24 := Lib.hid (HB23.out.trans (hb.mono HB23.out.size)); clear hb HB23
      go_wp2_with fail
      refine (kx22 _ (HT.out.mono HB24.out) (HE.out.mono HB24.out)).mono ?_
      rintro e v24 ⟨rfl, hb⟩
      have HB25 := Lib.hid (HB24.out.trans (hb.mono HB24.out.size)); clear hb HB24
      go_wp2_with fail
      refine (kf1 _ (HT.out.mono HB25.out)).mono ?_
      rintro e v25 ⟨⟨fa, fc, rfl⟩, hb⟩
      have HB26 := Lib.hid (HB25.out.trans (hb.mono HB25.out.size)); clear hb HB25
      go_wp2_with fail
      refine (kf2 _ (HT.out.mono HB26.out) (HE.out.mono HB26.out)).mono ?_
      rintro e v26 ⟨rfl, hb⟩
      have HB27 := Lib.hid (HB26.out.trans (hb.mono HB26.out.size)); clear hb HB26
      go_wp2_with fail
      refine (kf3 _ (HT.out.mono HB27.out) (HE.out.mono HB27.out)).mono ?_
      rintro e v27 ⟨rfl, hb⟩
      have HB28 := Lib.hid (HB27.out.trans (hb.mono HB27.out.size)); clear hb HB27
      go_wp2_with fail
      go_ret
      exact ⟨rfl, HB28.out⟩
end Go.Proofs.YteaeloeebfdodaaGreatDoor
