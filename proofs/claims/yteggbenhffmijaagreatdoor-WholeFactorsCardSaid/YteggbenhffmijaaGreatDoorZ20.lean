/- Part 20 of the proofs that laws of package whole answer true at every input and leave the input as it was, where the library's variables start as the text lays them (the texts E2, E3, E4). -/
import Derived.Test.YteggbenhffmijaaGreatDoorZ12
import Derived.LaidEql
import Derived.Stop.Asserts
import Derived.RowKitTokens
import Derived.Defers
import Derived.Recover
import Derived.Test.YteggbenhffmijaaGreatDoorZ17
set_option linter.unusedVariables false
set_option linter.unusedSimpArgs false
/- WALKS: errors.As at the type of what package stop throws: after the manner of the guide's worked example of a pointer target; here the target is a struct. -/
namespace Go.Proofs.YteggbenhffmijaaGreatDoor
open Go.RowKit Go.Extern.Stop Go.Stop Go.Extern
theorem st_valueOf27 (t : Addr) (w : World) : (ReflectliteValue.unpack (.iface 244 (.pointer (some t)))).run Tryz.prog w
    = .ok (.agg #[.pointer (some ⟨9, 244, none⟩), .pointer (some ⟨w.heap.size, 0, none⟩), .int .u64 150]) (w.alloc (.cells #[.pointer (some t)] 244)) := by kernel_rfl
theorem st_type27 (a : Addr) (w : World) : (ReflectliteValue.methodAny (ReflectliteValue.valueError "reflectlite.Value.Type" 0) (fun t _ _ _ => ReflectliteType.toType t) #[.agg #[.pointer (some ⟨9, 244, none⟩), .pointer (some a), .int .u64 150]]).run Tryz.prog w
    = .ok (.iface 355 (.agg #[.pointer (some ⟨9, 244, none⟩)])) w := by kernel_rfl
theorem st_methodKind (h : Value) (w : World) : (Go.method 526 355 (.agg #[h]) "Kind").run Tryz.prog w = .ok (395, h) w := by kernel_rfl
theorem st_kind27 (w : World) : ((ReflectliteType.abiMethod fun t => (fun a : Nat => Value.int IntKind.u8 (a : Int)) <$> Rtype.kind t) #[.pointer (some ⟨9, 244, none⟩)]).run Tryz.prog w = .ok (.int .u8 22) w := by kernel_rfl
theorem st_kind25 (w : World) : ((ReflectliteType.abiMethod fun t => (fun a : Nat => Value.int IntKind.u8 (a : Int)) <$> Rtype.kind t) #[.pointer (some ⟨9, 242, none⟩)]).run Tryz.prog w = .ok (.int .u8 25) w := by kernel_rfl
theorem st_rlm (z : Sem Value) (f : TypeId → Addr → Nat → Nat → Sem Value) (v : Value) :
    ReflectliteValue.method z f #[v] = (do match ← ReflectliteValue.parts v with | none => z | some (t, a, fl) => f t a fl (fl % 32)) := rfl
theorem st_parts27 (a : Addr) (w : World) : (ReflectliteValue.parts (.agg #[.pointer (some ⟨9, 244, none⟩), .pointer (some a), .int .u64 150])).run Tryz.prog w = .ok (some (244, a, 150)) w := by kernel_rfl
theorem st_isNil27 (a p : Addr) (W : World) (ha : W.cell? a = some (.pointer (some p))) :
    (ReflectliteValue.method (ReflectliteValue.valueError "reflectlite.Value.IsNil" 0) ReflectliteValue.isNil #[.agg #[.pointer (some ⟨9, 244, none⟩), .pointer (some a), .int .u64 150]]).run Tryz.prog W = .ok (.bool false) W := by
  rw [st_rlm]
  simp only [Sem.run_bind, st_parts27, Result.andThen]
  simp [ReflectliteValue.isNil, loadVar, isAgg, underlying, Tryz.underlying244, ha, Result.andThen]
theorem st_methodElem (h : Value) (w : World) : (Go.method 526 355 (.agg #[h]) "Elem").run Tryz.prog w = .ok (412, .agg #[h]) w := by kernel_rfl
theorem st_methodImplements (h : Value) (w : World) : (Go.method 526 355 (.agg #[h]) "Implements").run Tryz.prog w = .ok (413, .agg #[h]) w := by kernel_rfl
theorem st_methodAssignableTo (h : Value) (w : World) : (Go.method 526 355 (.agg #[h]) "AssignableTo").run Tryz.prog w = .ok (410, .agg #[h]) w := by kernel_rfl
theorem st_elem27 (w : World) : (ReflectliteType.method ReflectliteType.elem #[.agg #[.pointer (some ⟨9, 244, none⟩)]]).run Tryz.prog w = .ok (.iface 355 (.agg #[.pointer (some ⟨9, 242, none⟩)])) w := by kernel_rfl
theorem st_implements25 (w : World) : (ReflectliteType.relation "Implements" ReflectliteType.implements_ #[.agg #[.pointer (some ⟨9, 242, none⟩)], .iface 355 (.agg #[.pointer (some ⟨9, 142, none⟩)])]).run Tryz.prog w = .ok (.bool true) w := by kernel_rfl
theorem st_typeOf25 (v : Value) (w : World) : (ReflectliteType.typeOf #[.iface 242 v]).run Tryz.prog w = .ok (.iface 355 (.agg #[.pointer (some ⟨9, 242, none⟩)])) w := by kernel_rfl
theorem st_assignable25 (w : World) : (ReflectliteType.relation "AssignableTo" ReflectliteType.assignableTo #[.agg #[.pointer (some ⟨9, 242, none⟩)], .iface 355 (.agg #[.pointer (some ⟨9, 242, none⟩)])]).run Tryz.prog w = .ok (.bool true) w := by kernel_rfl
theorem st_valueOf25 (c : Int) (w : World) : (ReflectliteValue.unpack (.iface 242 (.agg #[.int .i64 c]))).run Tryz.prog w
    = .ok (.agg #[.pointer (some ⟨9, 242, none⟩), .pointer (some ⟨w.heap.size, 0, none⟩), .int .u64 153]) (w.alloc (.cells #[.int .i64 c] 242)) := by kernel_rfl
theorem st_elemOf27 (w : World) : (Rtype.elem? 244).run Tryz.prog w = .ok (some 242) w := by kernel_rfl
theorem st_mk25 (p : Addr) (w : World) : (ReflectliteValue.mk 242 p ReflectliteValue.flagAddr).run Tryz.prog w = .ok (.agg #[.pointer (some ⟨9, 242, none⟩), .pointer (some p), .int .u64 409]) w := by kernel_rfl
theorem st_elemV27 (a p : Addr) (W : World) (ha : W.cell? a = some (.pointer (some p))) :
    (ReflectliteValue.method (ReflectliteValue.valueError "reflectlite.Value.Elem" 0) ReflectliteValue.elem #[.agg #[.pointer (some ⟨9, 244, none⟩), .pointer (some a), .int .u64 150]]).run Tryz.prog W
      = .ok (.agg #[.pointer (some ⟨9, 242, none⟩), .pointer (some p), .int .u64 409]) W := by
  rw [st_rlm]
  simp only [Sem.run_bind, st_parts27, Result.andThen]
  simp [ReflectliteValue.elem, loadVar, isAgg, underlying, Tryz.underlying244, ha, Result.andThen, st_elemOf27, st_mk25]
theorem st_rls (v x : Value) : ReflectliteValue.set #[v, x] = (do
    let (some (dst, a, fl), some (src, b, _)) := (← ReflectliteValue.parts v, ← ReflectliteValue.parts x)
      | unsupported (.noEntry "extern/(internal/reflectlite.Value).Set.zeroValue")
    if fl / ReflectliteValue.flagAddr % 2 == 0 then unsupported (.noEntry "extern/(internal/reflectlite.Value).Set.unaddressable")
    let val ← loadVar src b
    if ← Rtype.directlyAssignable dst src then storeVar dst a val
    else if ← Rtype.implements dst src then
      if (← Rtype.kind src) == 20 then
        match val with
        | .nilIface => unsupported (.noEntry "extern/reflectlite: a nil value of one interface type handed on as a value of another")
        | _ => storeVar dst a val
      else storeVar dst a (.iface src val)
    else panicString ("reflectlite.Set: value of type " ++ (← Rtype.spelt src) ++ " is not assignable to type " ++ (← Rtype.spelt dst))
    pure (.tuple #[])) := rfl
theorem st_parts25a (a : Addr) (w : World) : (ReflectliteValue.parts (.agg #[.pointer (some ⟨9, 242, none⟩), .pointer (some a), .int .u64 409])).run Tryz.prog w = .ok (some (242, a, 409)) w := by kernel_rfl
theorem st_parts25 (a : Addr) (w : World) : (ReflectliteValue.parts (.agg #[.pointer (some ⟨9, 242, none⟩), .pointer (some a), .int .u64 153])).run Tryz.prog w = .ok (some (242, a, 153)) w := by kernel_rfl
theorem st_direct25 (w : World) : (Rtype.directlyAssignable 242 242).run Tryz.prog w = .ok true w := by kernel_rfl
theorem st_size25 (w : World) : (sizeOf 242).run Tryz.prog w = .ok 1 w := by kernel_rfl
theorem st_load25 (b : Addr) (c : Int) (W : World) (hb : W.cell? b = some (.int .i64 c)) : (loadVar 242 b).run Tryz.prog W = .ok (.agg #[.int .i64 c]) W := by
  simp [loadVar, isAgg, underlying, Tryz.underlying242, Result.andThen, st_size25, loadCells, loadCellsFrom, hb, Addr.add]
theorem st_store25 (a : Addr) (c : Int) (old : Value) (W : World) (ht : W.cell? a = some old) (hf : W.frozen? a = false) : (storeVar 242 a (.agg #[.int .i64 c])).run Tryz.prog W = .ok () (W.setCell a (.int .i64 c)) := by
  simp [storeVar, Value.cells, st_size25, Result.andThen, storeCells, Addr.add]
  rw [run_store Tryz.prog W a _ _ (by rfl)]
  simp [ht, hf]
theorem st_set25 (ta b : Addr) (c : Int) (old : Value) (W : World) (hb : W.cell? b = some (.int .i64 c)) (ht : W.cell? ta = some old) (hf : W.frozen? ta = false) :
    (ReflectliteValue.set #[.agg #[.pointer (some ⟨9, 242, none⟩), .pointer (some ta), .int .u64 409], .agg #[.pointer (some ⟨9, 242, none⟩), .pointer (some b), .int .u64 153]]).run Tryz.prog W
      = .ok (.tuple #[]) (W.setCell ta (.int .i64 c)) := by
  rw [st_rls]
  simp only [Sem.run_bind, st_parts25a, st_parts25, Result.andThen]
  simp [ReflectliteValue.flagAddr, st_load25 b c W hb, Result.andThen, st_direct25, st_store25 ta c old W ht hf]
set_option maxHeartbeats 4000000 in
theorem as_hit (c : Int) (t : Addr) (old : Value) (w : World) (hg : w.cell? ⟨0, 0, none⟩ = some (.iface 355 (.agg #[.pointer (some ⟨9, 142, none⟩)]))) (ht0 : w.cell? t = some old) (hf0 : w.frozen? t = false) :
    Calls Tryz.prog 252 #[.iface 242 (.agg #[.int .i64 c]), .iface 244 (.pointer (some t))] w fun ev w' => ev = .returned (.bool true) ∧ w' = ((((w.alloc (.cells #[.pointer (some t)] 244)).alloc (.cells #[.pointer (some ⟨9, 244, none⟩), .pointer (some ⟨w.heap.size, 0, none⟩), .int .u64 150] 300)).alloc (.cells #[.pointer (some ⟨9, 244, none⟩), .pointer (some ⟨w.heap.size, 0, none⟩), .int .u64 150] 300)).alloc (.cells #[.int .i64 c] 242)).setCell t (.int .i64 c) := by
  have h6 := @run_callFunc_extern Tryz.prog 294 _ (fun args => ReflectliteValue.unpack (args.getD 0 (.tuple #[]))) Tryz.func294 (by kernel_rfl) (by kernel_rfl) (by kernel_rfl) (by kernel_rfl)
  have h7 := @run_callFunc_extern Tryz.prog 295 _ (ReflectliteValue.methodAny (ReflectliteValue.valueError "reflectlite.Value.Type" 0) (fun t _ _ _ => ReflectliteType.toType t)) Tryz.func295 (by kernel_rfl) (by kernel_rfl) (by kernel_rfl) (by kernel_rfl)
  have h8 := @run_callFunc_extern Tryz.prog 296 _ (ReflectliteValue.method (ReflectliteValue.valueError "reflectlite.Value.IsNil" 0) ReflectliteValue.isNil) Tryz.func296 (by kernel_rfl) (by kernel_rfl) (by kernel_rfl) (by kernel_rfl)
  have h27 := @run_callFunc_extern Tryz.prog 395 _ (ReflectliteType.abiMethod fun t => do pure (.int .u8 (← Rtype.kind t))) Tryz.func395 (by kernel_rfl) (by kernel_rfl) (by kernel_rfl) (by kernel_rfl)
  have h37 := @run_callFunc_extern Tryz.prog 412 _ (ReflectliteType.method ReflectliteType.elem) Tryz.func412 (by kernel_rfl) (by kernel_rfl) (by kernel_rfl) (by kernel_rfl)
  have h38 := @run_callFunc_extern Tryz.prog 413 _ (ReflectliteType.relation "Implements" ReflectliteType.implements_) Tryz.func413 (by kernel_rfl) (by kernel_rfl) (by kernel_rfl) (by kernel_rfl)
  have h10 := @run_callFunc_extern Tryz.prog 345 _ ReflectliteType.typeOf Tryz.func345 (by kernel_rfl) (by kernel_rfl) (by kernel_rfl) (by kernel_rfl)
  have h35 := @run_callFunc_extern Tryz.prog 410 _ (ReflectliteType.relation "AssignableTo" ReflectliteType.assignableTo) Tryz.func410 (by kernel_rfl) (by kernel_rfl) (by kernel_rfl) (by kernel_rfl)
  have h11 := @run_callFunc_extern Tryz.prog 346 _ (ReflectliteValue.method (ReflectliteValue.valueError "reflectlite.Value.Elem" 0) ReflectliteValue.elem) Tryz.func346 (by kernel_rfl) (by kernel_rfl) (by kernel_rfl) (by kernel_rfl)
  have h12 := @run_callFunc_extern Tryz.prog 347 _ ReflectliteValue.set Tryz.func347 (by kernel_rfl) (by kernel_rfl) (by kernel_rfl) (by kernel_rfl)
  have tO := st_typeOf25
  have mA := st_methodAssignableTo
  have a25 := st_assignable25
  have v25 := st_valueOf25
  have f6 := st_valueOf27
  have f7 := st_type27
  have mK := st_methodKind
  have mE := st_methodElem
  have mI := st_methodImplements
  have k27 := st_kind27
  have k25 := st_kind25
  have e27 := st_elem27
  have i25 := st_implements25
  have n8 := st_isNil27 ⟨w.heap.size, 0, none⟩ t ((w.alloc (.cells #[.pointer (some t)] 244)).alloc (.cells #[.pointer (some ⟨9, 244, none⟩), .pointer (some ⟨w.heap.size, 0, none⟩), .int .u64 150] 300)) (by simp)
  have hlt : 0 < w.heap.size := by
    rcases Nat.lt_or_ge 0 w.heap.size with h | h
    · exact h
    · simp [World.cell?, Array.getElem?_eq_none h] at hg
  have hg2 : ((w.alloc (.cells #[.pointer (some t)] 244)).alloc (.cells #[.pointer (some ⟨9, 244, none⟩), .pointer (some ⟨w.heap.size, 0, none⟩), .int .u64 150] 300)).cell? ⟨0, 0, none⟩ = some (.iface 355 (.agg #[.pointer (some ⟨9, 142, none⟩)])) := by
    rw [World.cell?_alloc_lt _ _ ⟨0, 0, none⟩ (by simp <;> omega), World.cell?_alloc_lt _ _ ⟨0, 0, none⟩ hlt]; exact hg
  have htl : t.block < w.heap.size := by
    rcases Nat.lt_or_ge t.block w.heap.size with h | h
    · exact h
    · simp [World.cell?, Array.getElem?_eq_none h] at ht0
  have el := st_elemV27 ⟨w.heap.size, 0, none⟩ t (((w.alloc (.cells #[.pointer (some t)] 244)).alloc (.cells #[.pointer (some ⟨9, 244, none⟩), .pointer (some ⟨w.heap.size, 0, none⟩), .int .u64 150] 300)).alloc (.cells #[.pointer (some ⟨9, 244, none⟩), .pointer (some ⟨w.heap.size, 0, none⟩), .int .u64 150] 300)) (by rw [World.cell?_alloc_lt _ _ ⟨w.heap.size, 0, none⟩ (by simp; omega)]; simp)
  have st := st_set25 t ⟨w.heap.size + 1 + 1 + 1, 0, none⟩ c old ((((w.alloc (.cells #[.pointer (some t)] 244)).alloc (.cells #[.pointer (some ⟨9, 244, none⟩), .pointer (some ⟨w.heap.size, 0, none⟩), .int .u64 150] 300)).alloc (.cells #[.pointer (some ⟨9, 244, none⟩), .pointer (some ⟨w.heap.size, 0, none⟩), .int .u64 150] 300)).alloc (.cells #[.int .i64 c] 242))
    (by rw [World.cell?_alloc_at _ _ _ _ (by simp)]; rfl)
    (by rw [World.cell?_alloc_lt _ _ t (by simp; omega), World.cell?_alloc_lt _ _ t (by simp; omega), World.cell?_alloc_lt _ _ t (by simp; omega), World.cell?_alloc_lt _ _ t htl]; exact ht0)
    (by rw [World.frozen?_alloc_old _ _ t (by simp; omega), World.frozen?_alloc_old _ _ t (by simp; omega), World.frozen?_alloc_old _ _ t (by simp; omega), World.frozen?_alloc_old _ _ t (Nat.ne_of_lt htl)]; exact hf0)
  go_enter Tryz.func252, Tryz.ntmps252
  go_wp2
  refine wp_loop_rounds 1 ?_
  rw [rounds_succ]
  go_wp2
  go_ret
  exact ⟨rfl, rfl⟩
end Go.Proofs.YteggbenhffmijaaGreatDoor

/- WALKS: what is thrown, and what attempt makes of it. -/
namespace Go.Proofs.YteggbenhffmijaaGreatDoor
open Go.RowKit
/-- the library's variable errors.errorType is the handle of the type error -/
def ErrT (w : World) : Prop := w.cell? ⟨0, 0, none⟩ = some (.iface 355 (.agg #[.pointer (some ⟨9, 142, none⟩)]))
theorem ErrT.lt {w : World} (h : ErrT w) : 0 < w.heap.size := by
  unfold ErrT at h
  rcases Nat.lt_or_ge 0 w.heap.size with h1 | h1
  · exact h1
  · simp [World.cell?, Array.getElem?_eq_none h1] at h
theorem ErrT.mono {w w' : World} (h : ErrT w) (hb : Below w.heap.size w w') : ErrT w' := (hb.cell (p := ⟨0, 0, none⟩) h.lt).trans h
/-- what is thrown -/
abbrev thrown (c : Int) : Value := .iface 242 (.agg #[.int .i64 c])
abbrev chainOf (c : Int) : List PanicEntry := [{ v := thrown c, recovered := false }]
theorem assert_error (v : Value) (w : World) : (Instr.typeAssert (.iface 242 v) 20 142 true).run Tryz.prog w = .ok (.tuple #[.iface 242 v, .bool true]) w := by kernel_rfl
set_option maxHeartbeats 800000 in
theorem reason_any (c : Int) (w : World) (hE : ErrT w) :
    Calls Tryz.prog 184 #[thrown c] w fun e w' => e = .returned (.int .i64 c) ∧ Below w.heap.size w w' := by
  have has := assert_error (.agg #[.int .i64 c])
  have hal : Below w.heap.size w (w.alloc (.cells #[.int .i64 0] 242)) := (Below.refl _ _).alloc (Nat.le_refl _) _
  have hE1 := hE.mono hal
  have ht0 : (w.alloc (.cells #[.int .i64 0] 242)).cell? ⟨w.heap.size, 0, none⟩ = some (.int .i64 0) := by go_simp
  have hf0 : (w.alloc (.cells #[.int .i64 0] 242)).frozen? ⟨w.heap.size, 0, none⟩ = false := by go_simp
  have HAS := Lib.hid (as_hit c ⟨w.heap.size, 0, none⟩ (.int .i64 0) (w.alloc (.cells #[.int .i64 0] 242)) hE1 ht0 hf0)
  have hsz : (w.alloc (.cells #[.int .i64 0] 242)).heap.size = w.heap.size + 1 := by simp
  have HAL := Lib.hid hal
  have HC := Lib.hid (And.intro ht0 hsz)
  have hW : ∀ A B C D : Obj, Below w.heap.size w ((((((w.alloc (.cells #[.int .i64 0] 242)).alloc A).alloc B).alloc C).alloc D).setCell ⟨w.heap.size, 0, none⟩ (.int .i64 c)) ∧ ((((((w.alloc (.cells #[.int .i64 0] 242)).alloc A).alloc B).alloc C).alloc D).setCell ⟨w.heap.size, 0, none⟩ (.int .i64 c)).cell? ⟨w.heap.size, 0, none⟩ = some (.int .i64 c) := fun A B C D => by
    have b4 : Below (w.heap.size + 1) (w.alloc (.cells #[.int .i64 0] 242)) (((((w.alloc (.cells #[.int .i64 0] 242)).alloc A).alloc B).alloc C).alloc D) := ((((Below.refl _ _).alloc (by simp) _).alloc (by simp <;> omega) _).alloc (by simp <;> omega) _).alloc (by simp <;> omega) _
    refine ⟨(hal.trans (b4.mono (by omega))).setCell (Nat.le_refl _) _, World.cell?_setCell_same _ _ _ ((b4.cell (p := ⟨w.heap.size, 0, none⟩) (Nat.lt_succ_self _)).trans ht0)⟩
  have HW := Lib.hid hW
  clear hE1 ht0 hf0 hal hE hsz hW
  unfold thrown
  go_enter Tryz.func184, Tryz.ntmps184
  go_wp2_with fail
  refine HAS.out.mono ?_
  rintro e w1 ⟨rfl, rfl⟩
  obtain ⟨hb, hc⟩ := HW.out (Obj.cells #[Value.pointer (some ⟨w.heap.size, 0, none⟩)] 244) (Obj.cells #[.pointer (some ⟨9, 244, none⟩), .pointer (some ⟨(w.alloc (.cells #[.int .i64 0] 242)).heap.size, 0, none⟩), .int .u64 150] 300) (Obj.cells #[.pointer (some ⟨9, 244, none⟩), .pointer (some ⟨(w.alloc (.cells #[.int .i64 0] 242)).heap.size, 0, none⟩), .int .u64 150] 300) (Obj.cells #[.int .i64 c] 242)
  revert hb hc
  generalize World.setCell _ _ _ = V
  intro hb hc
  have HB := Lib.hid hb; clear hb
  go_wp2_with fail
  go_ret
  exact ⟨rfl, HB.out⟩
set_option maxHeartbeats 400000 in
theorem throw_any (c : Int) (w : World) : Calls Tryz.prog 192 #[.int .i64 c] w fun e w' => e = .panicked (chainOf c) ∧ w = w' := by
  go_enter Tryz.func192, Tryz.ntmps192
  go_wp2
  exact ⟨rfl, rfl, rfl⟩
set_option maxHeartbeats 400000 in
theorem demand_no (c : Int) (w : World) : Calls Tryz.prog 97 #[.bool false, .int .i64 c] w fun e w' => e = .panicked (chainOf c) ∧ w = w' := by
  go_enter Tryz.func97, Tryz.ntmps97
  go_wp2_with fail
  refine (throw_any _ _).mono ?_
  rintro e w' ⟨rfl, rfl⟩
  go_wp2
  exact ⟨rfl, rfl, rfl⟩
end Go.Proofs.YteggbenhffmijaaGreatDoor

/- WALKS: attempts that fail. -/
namespace Go.Proofs.YteggbenhffmijaaGreatDoor
open Go.RowKit
set_option maxHeartbeats 800000 in
theorem catch_thrownL (p : Addr) (c : Int) (z : Value) (older : List PanicEntry) (w : World) (hE : ErrT w) (hc : w.cell? p = some z) (hz : w.frozen? p = false) (hp : p.block < w.heap.size) :
    CallsD Tryz.prog 207 #[.pointer (some p)] (.panicking ({ v := thrown c, recovered := false } :: older)) w fun e u' w' => e = .returned (.tuple #[]) ∧ u' = .panicking ({ v := thrown c, recovered := true } :: older) ∧ ∃ w1, Below w.heap.size w w1 ∧ w' = w1.setCell p (.int .i64 c) := by
  refine callsD_of_wpS Tryz.func207 rfl fun c₀ cs hu => ?_
  apply wpS_seq
  apply wpS_region
  simp [wpOpsS, go_sem, recoverD, hu, Tryz.ntmps207, Exit.thenS, thrown]
  apply wpS_seq
  apply wpS_region
  simp [wpOpsS, go_sem, Array.replicate, Exit.thenS]
  refine wpS_cond (t := true) (by simp [Act.eval]) ?_
  simp only [if_true]
  refine wpS_of_wp ?_
  go_wp2_with fail
  refine (reason_any c _ hE).mono ?_
  rintro e w1 ⟨rfl, hb⟩
  have k1 := (hb.cell hp).trans hc
  have k2 := (hb.frozen hp).trans hz
  have HB := Lib.hid hb; clear hb
  go_wp2_with fail
  cases c₀
  simp_all [bodyPostS, results, Tryz.results207]
  exact ⟨w1, HB.out, rfl⟩
set_option maxRecDepth 100000 in
set_option maxHeartbeats 800000 in
theorem attempt_badL (K : Nat) (caps : Array Value) (c : Int) (w : World) (hE : ErrT w) (hkc : ∀ (w : World), (callFunc K caps).run Tryz.prog w = .ok (.enter K caps) w)
    (hwork : ∀ w', Below w.heap.size w w' → Calls Tryz.prog K caps w' fun e w'' => e = .panicked (chainOf c) ∧ Below w'.heap.size w' w'') :
    Calls Tryz.prog 115 #[.func (Fn.func K) #[] caps] w fun e w' => e = .returned (.tuple #[.slice none 0 0, .int .i64 c]) ∧ Below w.heap.size w w' := by
  have hmf : ∀ (fn : Fn) (first cap : Array Value) (w : World), (Instr.makeFunc fn first cap).run Tryz.prog w = .ok (.func fn first cap) w := fun _ _ _ _ => rfl
  have HW := Lib.hid hwork; clear hwork
  have HE := Lib.hid hE; clear hE
  go_enter_defers Tryz.func115, Tryz.ntmps115
  go_wp2_with fail
  refine (HW.out _ ((Below.refl _ _).alloc (Nat.le_refl _) _)).mono ?_
  rintro e w1 ⟨rfl, hb1⟩
  have hc : w1.cell? ⟨w.heap.size, 0, none⟩ = some (.int .i64 0) := (hb1.cell (p := ⟨w.heap.size, 0, none⟩) (by simp)).trans (by go_simp)
  have hf : w1.frozen? ⟨w.heap.size, 0, none⟩ = false := (hb1.frozen (p := ⟨w.heap.size, 0, none⟩) (by simp)).trans (by go_simp)
  have hbb : Below w.heap.size w w1 := ((Below.refl _ _).alloc (Nat.le_refl _) _).trans (hb1.mono (by simp))
  have hlt : w.heap.size < w1.heap.size := by have := hb1.size; simp at this; omega
  have HBB := Lib.hid hbb
  clear hb1 hbb
  go_wp2
  refine leaves_cons (f := 207) (args := #[.pointer (some ⟨w.heap.size, 0, none⟩)]) (by simp) (by simp [go_sem]) ?_
  refine (catch_thrownL _ _ _ _ _ (HE.out.mono HBB.out) hc hf hlt).mono ?_
  rintro e u' w'' ⟨rfl, rfl, w2, hb2, rfl⟩
  have hcs : (w2.setCell ⟨w.heap.size, 0, none⟩ (.int .i64 c)).cell? ⟨w.heap.size, 0, none⟩ = some (.int .i64 c) := World.cell?_setCell_same _ _ _ ((hb2.cell (p := ⟨w.heap.size, 0, none⟩) hlt).trans hc)
  have hbs : Below w.heap.size w (w2.setCell ⟨w.heap.size, 0, none⟩ (.int .i64 c)) := (HBB.out.trans (hb2.mono HBB.out.size)).setCell (Nat.le_refl _) _
  simp [Leaves, settle, results, Tryz.results115, go_sem, hcs]
  exact hbs
end Go.Proofs.YteggbenhffmijaaGreatDoor
