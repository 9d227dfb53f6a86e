/- Part 11 of the proofs that laws of package whole answer true at every input and leave the input as it was, where the library's variables start as the text lays them (the texts B0, B1, Q8, V12, V13, T8). -/
import Derived.Test.YteggbenhffmijaaGreatDoorProg
import Derived.WalkKit
import Derived.Deep.LoopGhost
import Derived.Lib.Walk
import Derived.Sort.WalkB12
import Derived.Lib.SlicesMore
import Derived.Shelf.RegionOpenPlain
import Derived.Test.YteggbenhffmijaaGreatDoorZ08
import Derived.Test.YteggbenhffmijaaGreatDoorZ07
import Derived.Test.YteggbenhffmijaaGreatDoorZ05
import Derived.Test.YteggbenhffmijaaGreatDoorZ10
import Derived.Lib.AppendStr
import Derived.Test.YteggbenhffmijaaGreatDoorZ09
import Derived.Test.YteggbenhffmijaaGreatDoorZ06
import Derived.Defers
import Derived.Recover
set_option linter.unusedVariables false
set_option linter.unusedSimpArgs false
/- WALKS, slices.Reverse of bytes. -/
namespace Go.Proofs.Rv
open Go.RowKit Go.Lib Go.Sort Go.Shelf
def encB (x : UInt8) : Value := .int .u8 (x.toNat : Int)
set_option maxHeartbeats 1600000 in
set_option maxRecDepth 1000000 in
theorem reverse_arr (blk off cap : Nat) (d : Array UInt8) (w : World) (hH : Holds encB w blk off d) (hsz : d.size ≤ 9223372036854775807) :
    Calls Tryz.prog 272 #[.slice (some ⟨blk, off, none⟩) d.size cap] w fun e w' => e = .returned (.tuple #[]) ∧ ∃ n, w' = putRow encB (Sort.ahead w n) blk off d.reverse := by
  go_enter Tryz.func272, Tryz.ntmps272
  go_wp2
  go_loopg [2, 3] d.size (fun k s2 s3 wr => ∃ (i jn : Nat) (jz : Int) (dk : Array UInt8) (n : Nat), s2 = .int .i64 i ∧ s3 = .int .i64 jz ∧ ((i : Int) < jz → jz = jn ∧ jn < d.size) ∧ (¬ (i : Int) < jz → ¬ i < jn) ∧ jn - i ≤ k ∧
    dk.size = d.size ∧ wr = putRow encB (Sort.ahead w n) blk off dk ∧ reverseLoop i jn dk = reverseLoop 0 (d.size - 1) d)
  case atStart => exact ⟨0, d.size - 1, (d.size : Int) - 1, d, 0, rfl, rfl, fun h => ⟨by omega, by omega⟩, fun h => by omega, by omega, rfl, (putRow_self encB w blk off d hH).symm, rfl⟩
  case round =>
    obtain ⟨i, jn, jz, dk, n, rfl, rfl, h1, h2, hk, hds, hwr, heq⟩ := hrel
    by_cases hlt : (i : Int) < jz
    · obtain ⟨rfl, hjn⟩ := h1 hlt
      have hij : i < jn := by omega
      have hHk : Holds encB wr blk off dk := by rw [hwr]; exact holds_putRow encB _ blk off d dk (holds_ahead encB w n blk off d hH) hds
      obtain ⟨ci, fi⟩ := hHk i (by omega)
      obtain ⟨cj, fj⟩ := hHk jn (by omega)
      have A : Aside (wr = putRow encB (Sort.ahead w n) blk off dk) := hwr
      clear hwr hHk hH h1 h2
      unfold encB at ci cj
      have mixed : Tryz.prog.follows Departure.mixedOrders = true := by kernel_rfl
      have hid : i < d.size := by omega
      go_wp2_with fail
      go_region_o
      go_wp2
      go_roundg (jn - 1 - (i + 1))
      case measure => omega
      case rel =>
        rw [reverseLoop, if_pos hij] at heq
        exact ⟨i + 1, jn - 1, (jn : Int) - 1, swp dk i jn, n + 1, by simp, rfl, fun h => ⟨by omega, by omega⟩, fun h => by omega, Nat.le_refl _, by rw [size_swp]; exact hds,
          swap_world encB (by omega) (by omega) A.out (by first | rfl | simp [encB, getElem!_pos, show jn < dk.size by omega]) (by first | rfl | simp [encB, getElem!_pos, show i < dk.size by omega]), heq⟩
    · have hnot := h2 hlt
      go_wp2
      go_end0
      refine ⟨rfl, n, ?_⟩
      rw [reverseLoop, if_neg hnot] at heq
      rw [← Lib.reverseLoop_reverse, ← heq]
theorem grownBy_row {w : World} {g n : Nat} (d : Array UInt8) : w.grownBy (putRow encB (Sort.ahead w n) g 0 d) (some g) := by
  refine ⟨rfl, rfl, rfl, by simp, fun k hk hne => ?_⟩
  have : g ≠ k := fun e => hne (by rw [e])
  simp [putRow, mapBlock, Sort.ahead, Array.getElem?_modify, this]
theorem holds_own {w : World} {base g cap : Nat} {e : TypeId} {l : List UInt8} (h : w.ownsRow base e 1 (.slice (some ⟨g, 0, none⟩) l.length cap) l.length (l.map encB)) : Holds encB w g 0 l.toArray := by
  intro j hj
  have hj' : j < l.length := by simpa using hj
  rcases h.2 with ⟨h, _⟩ | ⟨g', cap', cur, h1, h2, h3, h4, h5, h6, h7⟩
  · cases h
  · cases h1
    have hc : cur[j]? = some (encB l[j]) := by
      have := congrArg (·[j]?) h7
      simp only [Nat.mul_one, List.getElem?_map, List.getElem?_take_of_lt hj', Array.getElem?_toList, List.getElem?_eq_getElem hj', Option.map_some] at this
      exact this
    refine ⟨?_, ?_⟩
    · simp only [World.cell?, Nat.zero_add, h3]
      rw [getElem!_pos l.toArray j hj, List.getElem_toArray]
      simpa using hc
    · simp [World.frozen?, h3]
theorem reverse_own (w : World) (base g cap : Nat) (t : TypeId) (l : List UInt8) (h : w.ownsRow base t 1 (.slice (some ⟨g, 0, none⟩) l.length cap) l.length (l.map encB)) (hl : l.length ≤ 1000000) :
    Calls Tryz.prog 272 #[.slice (some ⟨g, 0, none⟩) l.length cap] w fun e w' => e = .returned (.tuple #[]) ∧ w.grownBy w' (some g) ∧ ∀ i, i < l.length → w'.cell? ⟨g, i, none⟩ = some (.int .u8 ((l.reverse.getD i 0).toNat : Nat)) ∧ w'.frozen? ⟨g, i, none⟩ = false := by
  have hH := holds_own h
  have hr := reverse_arr g 0 cap l.toArray w hH (by simp; omega)
  simp only [List.size_toArray] at hr
  refine hr.mono ?_
  rintro e w' ⟨rfl, n, rfl⟩
  refine ⟨rfl, grownBy_row _, fun i hi => ?_⟩
  have h2 := holds_putRow encB (Sort.ahead w n) g 0 l.toArray l.toArray.reverse (holds_ahead encB w n g 0 _ hH) (by simp) i (by simpa using hi)
  rw [Nat.zero_add] at h2
  refine ⟨h2.1.trans ?_, h2.2⟩
  rw [getElem!_pos _ i (by simpa using hi)]
  simp [encB, List.getD, hi]
end Go.Proofs.Rv

/- WALKS, digits in a base 4: the text in a base. -/
namespace Go.Proofs.YteggbenhffmijaaGreatDoor
open Go.RowKit Go.Proofs.Rf
attribute [local go_sem] Oper.semAt_some
def charU (d : Nat) : UInt8 := UInt8.ofNat (charN d)
def chV (d : Nat) : Value := .int .u8 (charN d : Nat)
def baseL (b : Nat) (x : Int) : List UInt8 := (if x < 0 then [45] else []) ++ ((Wh.dg b x.natAbs).map charU).reverse
/-- what the rounds keep: the digits so far, as bytes, in memory of their own -/
structure BI (W0 : World) (B : Nat) (pre : List Nat) (W : World) : Prop where
  out : ∃ v, W.cell? ⟨B, 0, none⟩ = some v ∧ W.ownsRow (W0.heap.size + 3) 5 1 v pre.length (pre.map chV)
  free : W.frozen? ⟨B, 0, none⟩ = false
  only : OnlyS (fun k => k = B ∨ W0.heap.size ≤ k) W0 W
  big : pre = [] ∨ W0.heap.size + 3 ≤ W.heap.size
theorem ownsRow_onlyS {W W' : World} {S : Nat → Prop} {base size n : Nat} {e : TypeId} {v : Value} {xs : List Value} (h : W.ownsRow base e size v n xs) (ho : OnlyS S W W') (hS : ∀ k, base ≤ k → ¬ S k) : W'.ownsRow base e size v n xs := by
  refine ⟨h.1, ?_⟩
  rcases h.2 with h | ⟨g, cap, cur, h1, h2, h3, h4⟩
  · exact .inl h
  · exact .inr ⟨g, cap, cur, h1, h2, (ho.block g (hS g h2) (Array.getElem?_eq_some_iff.1 h3).1).trans h3, h4⟩
theorem BI.keep {W0 A B' : World} {B : Nat} {pre : List Nat} {S : Nat → Prop} (h : BI W0 B pre A) (hB : B < W0.heap.size) (ho : OnlyS S A B') (hS : ∀ k, S k → W0.heap.size ≤ k ∧ k ≤ W0.heap.size + 2) : BI W0 B pre B' := by
  obtain ⟨v, h1, h2⟩ := h.out
  have hl : B < A.heap.size := Nat.lt_of_lt_of_le hB h.only.size
  have no : ¬ S B := fun hs => by have := hS B hs; omega
  exact ⟨⟨v, (ho.cell (p := ⟨B, 0, none⟩) no hl).trans h1, ownsRow_onlyS h2 ho fun k hk hs => by have := hS k hs; omega⟩, (ho.frozen (p := ⟨B, 0, none⟩) no hl).trans h.free,
    h.only.trans (ho.mono fun k _ hk => .inr (hS k hk).1), h.big.imp id fun h => Nat.le_trans h ho.size⟩

def RD (v : Value) (d : Nat) : Nat → Value → World → Prop
  | 0, u, _ => u = v
  | 1, u, _ => u = .int .u32 (d : Nat)
  | 2, u, _ => u = .int .u8 (charN d : Nat)
  | 3, u, w => ∃ ab, u = .slice (some ⟨ab, 0, none⟩) 1 1 ∧ ab < w.heap.size ∧ w.cell? ⟨ab, 0, none⟩ = some (chV d)
  | _, _, _ => True
theorem RD_stays (v : Value) (d : Nat) : ∀ i u w w', RD v d i u w → Below w.heap.size w w' → RD v d i u w' := by
  intro i u w w' h hb
  match i, h with
  | 0, h | 1, h | 2, h => exact h
  | 3, h => obtain ⟨ab, e, hl, hc⟩ := h; exact ⟨ab, e, Nat.lt_of_lt_of_le hl hb.size, (hb.cell (p := ⟨ab, 0, none⟩) hl).trans hc⟩
  | _ + 4, h => trivial
theorem infoB : ∃ i, Tryz.prog.info? 5 = some i ∧ i.zero = some (.int .u8 0) ∧ i.size = 1 ∧ i.bytes = 1 := by
  have h := info_byte
  cases hi : Tryz.prog.info? 5 with
  | none => rw [hi] at h; cases h
  | some i => rw [hi] at h; simp at h; exact ⟨i, rfl, h.1, h.2.1, h.2.2⟩
theorem grownBy_onlyS {w w' : World} {o : Option Nat} (h : w.grownBy w' o) : OnlyS (fun k => o = some k) w w' := ⟨h.1, h.2, h.3, h.4, fun k h1 h2 => h.5 k h2 (fun e => h1 e.symm)⟩
theorem ownBlock_ge {W : World} {base size n k : Nat} {e : TypeId} {v : Value} {xs : List Value} (h : W.ownsRow base e size v n xs) (hk : v.ownBlock = some k) : base ≤ k := by
  rcases h.2 with ⟨rfl, _⟩ | ⟨g, cap, cur, rfl, hg, _⟩
  · cases hk
  · cases hk; exact hg
/-- the state behind one round -/
theorem BI.next {W0 V W1 : World} {B : Nat} {pre : List Nat} {d : Nat} {v v' : Value} (hB : B < W0.heap.size) (h : BI W0 B pre V) (hz : W0.heap.size + 3 ≤ V.heap.size) (hown : V.ownsRow (W0.heap.size + 3) 5 1 v pre.length (pre.map chV))
    (ho : W1.ownsRow (W0.heap.size + 3) 5 1 v' (pre.length + 1) (pre.map chV ++ [chV d])) (hs : OnlyS (fun k => v.ownBlock = some k) V W1) : BI W0 B (pre ++ [d]) (W1.setCell ⟨B, 0, none⟩ v') ∧ OnlyS (fun k => k = B ∨ W0.heap.size + 3 ≤ k) V (W1.setCell ⟨B, 0, none⟩ v') := by
  have hbl : ∀ k, v.ownBlock = some k → W0.heap.size + 3 ≤ k := fun k hk => ownBlock_ge hown hk
  have o1 : OnlyS (fun k => k = B ∨ W0.heap.size + 3 ≤ k) V W1 := hs.mono fun k _ hk => .inr (hbl k hk)
  have o2 : OnlyS (fun k => k = B ∨ W0.heap.size + 3 ≤ k) V (W1.setCell ⟨B, 0, none⟩ v') := o1.setCell (.inl rfl) _
  obtain ⟨v0, hc, _⟩ := h.out
  have hl : B < V.heap.size := by omega
  have no : ¬ (v.ownBlock = some B) := fun e => by have := hbl B e; omega
  have hc1 := (hs.cell (p := ⟨B, 0, none⟩) no hl).trans hc
  refine ⟨⟨⟨v', World.cell?_setCell_same _ _ _ hc1, ?_⟩, ?_, ?_, ?_⟩, o2⟩
  · have := ownsRow_onlyS ho ((OnlyS.refl (fun k => k = B) W1).setCell (p := ⟨B, 0, none⟩) rfl v') (fun k hk e => by omega)
    simpa using this
  · rw [World.frozen?_setCell]; exact (hs.frozen (p := ⟨B, 0, none⟩) no hl).trans h.free
  · exact h.only.trans (o2.mono fun k _ hk => by rcases hk with hk | hk <;> omega)
  · exact .inr (Nat.le_trans hz o2.size)

theorem wp_append_str {P : Program} (w : World) {o : Oper} {a : Act} {K : Act → World → Prop} {Q : Exit → Act → World → Prop} (s x : Operand) (t u : TypeId)
    (ho : o.op = .call { callee := .builtin .append, args := #[s, x], argTypes := #[t, u] }) (base : Nat) (e : TypeId) (i : TypeInfo) (ht : P.underlying t = some (.slice e)) (hu : P.underlying u = some .string) (hi : P.info? e = some i) (hz : i.zero = some (.int .u8 0))
    (hsize : i.size = 1) (hby : i.bytes = 1) (v : Value) (n : Nat) (xs : List Value) (hs : a.eval s = v) (hown : w.ownsRow base e 1 v n xs) (st : ByteArray) (hx : a.eval x = .string st)
    (h63 : n + st.size ≤ maxLen) (hbytes : n + st.size ≤ 140737488355328) (hbase : base ≤ w.heap.size)
    (h : ∀ v' w', w'.ownsRow base e 1 v' (n + st.size) (xs ++ Lib.strCells st) → w.grownBy w' v.ownBlock → K (a.put o.dst v') w') : o.wp P a w K Q := by
  obtain ⟨v', w', hr, h2, h3, h4⟩ := Lib.run_append_own_string (P := P) w base t u o.type e i ht hu hi hz hsize hby v n xs hown st h63 hbytes hbase
  unfold Oper.wp execOp
  simp only [ho, resolve, invoke, builtin, Sem.run_bind, Sem.run_pure, Result.andThen_ok, List.map_toArray, List.map_cons, List.map_nil, hs, hx, hr]
  exact h v' w' h2 h3
def markS (s : Int) : ByteArray := if s = -1 then ⟨#[45]⟩ else ⟨#[]⟩
theorem mark_any (w : World) (s : Int) : Calls Tryz.prog 198 #[.int .i64 s] w fun e w' => e = .returned (.string (markS s)) ∧ w = w' := by
  unfold markS
  by_cases h : s = -1
  · subst h
    rw [if_pos rfl]
    go_enter Tryz.func198, Tryz.ntmps198
    go_wp2
    go_ret
    exact ⟨rfl, rfl⟩
  · have hb : (s == -1) = false := by rw [beq_eq_false_iff_ne]; exact h
    rw [if_neg h]
    go_enter Tryz.func198, Tryz.ntmps198
    go_wp2
    go_ret
    exact ⟨rfl, rfl⟩
def RM (v : Value) (s : Int) (p : Value) : Nat → Value → World → Prop
  | 0, u, _ => u = v
  | 1, u, _ => u = p
  | 2, u, _ => u = .int .i64 s
  | 3, u, _ => u = .string (markS s)
  | _, _, _ => True
theorem RM_stays (v : Value) (s : Int) (p : Value) : ∀ i u w w', RM v s p i u w → Below w.heap.size w w' → RM v s p i u w' := by
  intro i u w w' h hb
  match i, h with
  | 0, h | 1, h | 2, h | 3, h => exact h
  | _ + 4, h => trivial
set_option maxRecDepth 100000 in
set_option maxHeartbeats 600000 in
theorem inbase_any (w : World) (x : Int) (b : Nat) (xa : Option Addr) (xn xc : Nat) (h1 : Sl w (.slice xa xn xc) (Wh.limbs x.natAbs)) (hb : 2 ≤ b ∧ b ≤ 36) (hx : x ≠ 0) (hl : (Wh.limbs x.natAbs).length ≤ 1000) (hdl : (Wh.dg b x.natAbs).length ≤ 100000) :
    Calls Tryz.prog 228 #[.agg #[.int .i64 x.sign, .slice xa xn xc], .int .i64 b] w fun e w' => e = .returned (.string (str (baseL b x))) ∧ Below w.heap.size w w' := by
  have H1 := Lib.hid h1; clear h1
  have hsg : (x.sign == 0) = false := by rw [beq_eq_false_iff_ne]; intro h; exact hx (Int.sign_eq_zero_iff_zero.1 h)
  refine callsIn_wide.1 (callsIn_of_wp_marks (n := 3) Tryz.func228 rfl trivial (wpIn_wide.2 ?_) rfl)
  simp only [Tryz.ntmps228, List.size_toArray, List.length_cons, List.length_nil, Nat.reduceAdd, Nat.reduceSub, Array.replicate_succ, Array.replicate_zero, List.push_toArray, List.append_toArray, List.nil_append, List.cons_append]
  go_wp2_with fail
  have hal : Below w.heap.size w ((w.alloc (Obj.cells #[.int .i64 x.sign, .slice xa xn xc] 92)).alloc (Obj.cells #[.slice none 0 0] 135)) := ((Below.refl _ _).alloc (Nat.le_refl _) _).alloc (by simp) _
  have q0 : ((w.alloc (Obj.cells #[.int .i64 x.sign, .slice xa xn xc] 92)).alloc (Obj.cells #[.slice none 0 0] 135)).cell? ⟨w.heap.size, 0, none⟩ = some (.int .i64 x.sign) := by go_simp
  have q1 : ((w.alloc (Obj.cells #[.int .i64 x.sign, .slice xa xn xc] 92)).alloc (Obj.cells #[.slice none 0 0] 135)).cell? ⟨w.heap.size + 1, 0, none⟩ = some (.slice none 0 0) := by go_simp
  have q2 : ((w.alloc (Obj.cells #[.int .i64 x.sign, .slice xa xn xc] 92)).alloc (Obj.cells #[.slice none 0 0] 135)).frozen? ⟨w.heap.size + 1, 0, none⟩ = false := by go_simp
  have qs : ((w.alloc (Obj.cells #[.int .i64 x.sign, .slice xa xn xc] 92)).alloc (Obj.cells #[.slice none 0 0] 135)).heap.size = w.heap.size + 2 := by simp
  generalize ((w.alloc (Obj.cells #[.int .i64 x.sign, .slice xa xn xc] 92)).alloc (Obj.cells #[.slice none 0 0] 135)) = V0 at *
  refine (digits_any V0 xa xn xc b hb).mono ?_
  rintro e W5 ⟨rfl, hD5, hb5⟩
  rw [qs] at hD5 ⊢
  have hn5 : w.heap.size + 6 ≤ W5.heap.size := by have := hD5.size; omega
  have hB5 : Below w.heap.size w W5 := hal.trans (hb5.mono hal.size)
  have q0 := (hb5.cell (p := ⟨w.heap.size, 0, none⟩) (by show w.heap.size < _; omega)).trans q0
  have q1 := (hb5.cell (p := ⟨w.heap.size + 1, 0, none⟩) (by show w.heap.size + 1 < _; omega)).trans q1
  have q2 := (hb5.frozen (p := ⟨w.heap.size + 1, 0, none⟩) (by show w.heap.size + 1 < _; omega)).trans q2
  have HS5 := Lib.hid (H1.out.mono hB5)
  have HB5 := Lib.hid hB5
  clear hal hb5 qs hB5 H1
  have hB1 : w.heap.size + 1 < W5.heap.size := by omega
  have hI0 : BI W5 (w.heap.size + 1) [] W5 := ⟨⟨_, q1, World.ownsRow_nil _ _ _ _⟩, q2, OnlyS.refl _ _, .inl rfl⟩
  have HI0 := Lib.hid hI0; clear hI0
  go_wp2_with fail
  refine wpIn_wide.1 (rangeFunc_mine (F := Fence.wide) (n := 3) rfl (by decide) (gf := 311) (lb := #[.pointer (some ⟨w.heap.size + 2, 0, none⟩), .pointer (some ⟨w.heap.size + 2 + 1 + 1 + 1, 0, none⟩), .pointer (some ⟨w.heap.size + 2 + 1, 0, none⟩), .pointer (some ⟨w.heap.size + 2 + 1 + 1, 0, none⟩)]) rfl trivial (enters_of Tryz.func311 (by kernel_rfl) rfl)
        (encs := fun d : Nat => #[.int .u32 d]) (Wh.dg b x.natAbs) (fun k => k = W5.heap.size + 2 ∨ (w.heap.size + 2 ≤ k ∧ k ≤ w.heap.size + 2 + 3)) (fun k hk => by omega) ?seq (fun _ => rfl)
        (BI W5 (w.heap.size + 1)) (fun s A B h ho => h.keep hB1 ho (fun k hk => hk)) HI0.out ?a1 ?assign ?body ?done)
  case seq =>
    intro l J W hB hs hJ hY h0
    exact (iter_any x.natAbs b (w.heap.size + 2) l (W5.heap.size + 2) 2 J hb (by decide) (.slice xa xn xc) W hs (by omega) (hD5.mono hB (by omega)) (HS5.out.mono hB) hl hJ hY h0)
  case a1 => exact fun d => { tmps := #[.agg #[.int .i64 x.sign, .slice xa xn xc], .int .i64 (b : Int), .pointer (some ⟨w.heap.size, 0, none⟩), undef, .string { data := #[] }, .pointer (some ⟨w.heap.size + 1, 0, none⟩), .int .u32 (d : Nat), .pointer (some ⟨w.heap.size, 0, none⟩), .int .i64 x.sign, .bool false, .pointer (some ⟨w.heap.size, 1, none⟩), .slice xa xn xc, .int .i64 (b : Int), iterF (w.heap.size + 2), .int .u32 (d : Nat), undef, undef, undef, undef, undef, undef, undef, undef, undef, undef, undef, undef, undef, undef], defers := [] }
  case assign =>
    intro l d W C hC
    gi_wp2
    exact hC
  case body =>
    rintro l pre d W hI hbig hpre
    have hd36 : d < 36 := Nat.lt_of_lt_of_le (Wh.dg_lt hb.1 _ d (hpre.subset (by simp))) hb.2
    have hlen : pre.length + 1 ≤ 100000 := by have := hpre.length_le; simp at this; omega
    obtain ⟨v, hc0, hown⟩ := hI.out
    have hf0 := hI.free
    have HI := Lib.hid hI; have HOWN := Lib.hid hown; clear hI hown hpre
    gi_wp2
    refine Rt.inRound_region (l := l) _ (by kernel_rfl) (by kernel_rfl) (by rintro ⟨a, w, h⟩; exact h) ?_
    have hBW : w.heap.size + 1 < W.heap.size := by omega
    refine Rt.any_region_grow (n0 := 2) [4, 5] [] 29 (fun vals => { tmps := #[.agg #[.int .i64 x.sign, .slice xa xn xc], .int .i64 (b : Int), .pointer (some ⟨w.heap.size, 0, none⟩), undef, .string { data := #[] }, .pointer (some ⟨w.heap.size + 1, 0, none⟩), .int .u32 (d : Nat), .pointer (some ⟨w.heap.size, 0, none⟩), .int .i64 x.sign, .bool false, .pointer (some ⟨w.heap.size, 1, none⟩), .slice xa xn xc, .int .i64 (b : Int), iterF (w.heap.size + 2), .int .u32 (d : Nat), vals 0, vals 1, vals 2, vals 3, undef, undef, undef, undef, undef, undef, undef, undef, undef, undef], defers := [] }) (RD v d) (by kernel_rfl) (by kernel_rfl) (by kernel_rfl) (fun _ _ _ _ _ h => h.elim) (by kernel_rfl) rfl (fun _ => by kernel_rfl) (by kernel_rfl) (by kernel_rfl) (RD_stays _ _) ?_ ?_ ?_
    · intro i o d hi hT hW hd vals w' hb hf
      have hlt : i < 6 := (Array.getElem?_eq_some_iff.1 hi).1
      rcases i with _ | _ | _ | _ | _ | _ | i
      · obtain rfl := Option.some.inj hi
        obtain rfl := Option.some.inj hd
        have z0 := (hb.cell (p := ⟨w.heap.size + 1, 0, none⟩) hBW).trans hc0
        dsimp only
        go_simp
        exact ⟨rfl, Below.refl _ _⟩
      · obtain rfl := Option.some.inj hi
        obtain rfl := Option.some.inj hd
        dsimp only
        go_simp
        exact ⟨rfl, Below.refl _ _⟩
      · obtain rfl := Option.some.inj hi
        obtain rfl := Option.some.inj hd
        have e1 : vals 1 = _ := hf 1 (by kernel_rfl)
        dsimp only
        rw [e1]
        go_simp
        refine (character_any _ d hd36).mono ?_
        rintro e w5 ⟨rfl, rfl⟩
        exact ⟨rfl, Below.refl _ _⟩
      · obtain rfl := Option.some.inj hi
        obtain rfl := Option.some.inj hd
        have e2 : vals 2 = _ := hf 2 (by kernel_rfl)
        dsimp only
        rw [e2]
        go_simp
        exact ⟨⟨w'.heap.size, rfl, by simp, by unfold chV; go_simp⟩, (Below.refl _ _).alloc (Nat.le_refl _) _⟩
      · cases hT
      · cases hT
      · omega
    · intro p o d hi hW hd vals w' hb hf
      cases hW
    · intro vals w' hb hf
      have e0 : vals 0 = v := hf 0 (by decide) rfl
      obtain ⟨ab, e3, hab, hcab⟩ := hf 3 (by decide) rfl
      have HB := Lib.hid hb; clear hb hf
      obtain ⟨inf, i1, i2, i3, i4⟩ := infoB
      have hown' : w'.ownsRow (W5.heap.size + 3) 5 1 v pre.length (pre.map chV) := ownsRow_onlyS HOWN.out (OnlyS.of_below (S := fun _ => False) HB.out) (fun _ _ h => h)
      have hbv : BI W5 (w.heap.size + 1) pre w' := HI.out.keep hB1 (OnlyS.of_below (S := fun _ => False) HB.out) (fun k h => h.elim)
      have hzV : W5.heap.size + 3 ≤ w'.heap.size := by have := HB.out.size; omega
      rw [e0, e3]
      refine Rt.wpAny_step (i := 4) (by kernel_rfl) rfl (by rfl) (fun K hK => ?_)
      have HK := Lib.hid hK; clear hK
      refine wp_append_own w' (.tmp 15) (.tmp 18) 135 rfl (W5.heap.size + 3) 5 inf (.int .u8 0) 1 1 Tryz.underlying135 i1 i2 i3 i4 rfl (by decide) v pre.length (pre.map chV) rfl hown' ⟨ab, 0, none⟩ 1 1 [chV d] rfl rfl ?_ ?_ ?_ ?_ hzV ?_
      · intro j u hj
        cases j with
        | zero => cases hj; exact hcab
        | succ j => cases j <;> cases hj
      · intro u hu
        rw [List.mem_singleton.1 hu]; rfl
      · simp only [maxLen]; omega
      · omega
      · intro v' W1 ho1 hg1 _
        refine HK.out _ _ ?_
        clear HK
        have hsh : ∃ g c, v' = .slice (some ⟨g, 0, none⟩) (pre.length + 1) c := by
          rcases ho1.2 with ⟨_, h⟩ | ⟨g, c, _, h, _⟩
          · omega
          · exact ⟨g, c, h⟩
        obtain ⟨gg, gc, rfl⟩ := hsh
        have hnx := BI.next hB1 hbv hzV hown' ho1 (grownBy_onlyS hg1)
        have hlW : w.heap.size + 1 < w'.heap.size := by omega
        have hgo := grownBy_onlyS hg1
        have hnob : ¬ (v.ownBlock = some (w.heap.size + 1)) := fun e => by have := ownBlock_ge hown' e; omega
        have hc1 := (hgo.cell (p := ⟨w.heap.size + 1, 0, none⟩) hnob hlW).trans ((HB.out.cell (p := ⟨w.heap.size + 1, 0, none⟩) hBW).trans hc0)
        have hf1 := (hgo.frozen (p := ⟨w.heap.size + 1, 0, none⟩) hnob hlW).trans ((HB.out.frozen (p := ⟨w.heap.size + 1, 0, none⟩) hBW).trans hf0)
        refine Rt.wpAny_step (i := 5) (by kernel_rfl) rfl (by rfl) (fun K hK => ?_)
        have HK := Lib.hid hK; clear hK
        have HNX := Lib.hid hnx; clear hnx
        go_simp
        refine HK.out _ _ ?_
        refine Rt.wpAny_end (by kernel_rfl) ?_
        have hfull : OnlyS (fun k => k = w.heap.size + 1 ∨ W5.heap.size + 3 ≤ k) W (W1.setCell ⟨w.heap.size + 1, 0, none⟩ (.slice (some ⟨gg, 0, none⟩) (pre.length + 1) gc)) := (OnlyS.of_below HB.out).trans HNX.out.2
        exact ⟨fun k hk hl => hfull.block k (by rintro (h | h) <;> omega) hl, hfull.size, HNX.out.1⟩

  case done =>
    rintro D W hD hI hDD
    subst hD
    obtain ⟨v, hc0, hown⟩ := hI.out
    have hf0 := hI.free
    have hsz : W5.heap.size + 3 ≤ W.heap.size := hI.big.resolve_left (by rw [Wh.dg_pos hb.1 (Int.natAbs_pos.2 hx)]; simp)
    have hBW : w.heap.size + 1 < W.heap.size := by omega
    have hDl : W5.heap.size < W.heap.size := (Array.getElem?_eq_some_iff.1 hDD).1
    have k0 := (hI.only.cell (p := ⟨w.heap.size, 0, none⟩) (by rintro (h | h) <;> simp only at h <;> omega) (by show w.heap.size < _; omega)).trans q0
    have HBW := Lib.hid (HB5.out.trans (hI.only.below (B := w.heap.size) (fun k hk => by rcases hk with h | h <;> omega) (by omega)))
    have HOWN := Lib.hid hown; have HDD := Lib.hid hDD; clear hI hown hDD
    go_wp2_with fail
    obtain ⟨L, hL⟩ : ∃ L : List UInt8, L = (Wh.dg b x.natAbs).map charU ++ (markS x.sign).data.toList := ⟨_, rfl⟩
    have hLl : L.length = (Wh.dg b x.natAbs).length + (markS x.sign).size := by rw [hL, List.length_append, List.length_map, Array.length_toList]; rfl
    have hLm : L.map Rv.encB = (Wh.dg b x.natAbs).map chV ++ Lib.strCells (markS x.sign) := by
      rw [hL, List.map_append, List.map_map]
      congr 1
      exact List.map_congr_left fun d hd => by
        have := Wh.dg_lt hb.1 _ d hd
        have hc : charN d < 256 := by unfold charN; split <;> omega
        simp [Rv.encB, charU, chV, Function.comp, Nat.mod_eq_of_lt hc]
    have hLp : 0 < L.length := by
      rw [hLl, Wh.dg_pos hb.1 (Int.natAbs_pos.2 hx)]; simp; omega
    have hLr : L.reverse = baseL b x := by
      rw [hL, List.reverse_append]
      unfold baseL markS
      congr 1
      by_cases hn : x < 0
      · rw [if_pos hn, if_pos (Int.sign_eq_neg_one_iff_neg.2 hn)]; rfl
      · rw [if_neg hn, if_neg (fun h => hn (Int.sign_eq_neg_one_iff_neg.1 h))]; rfl
    have hm1 : (markS x.sign).size ≤ 1 := by unfold markS; split <;> decide
    generalize hn0 : (Wh.dg b x.natAbs).length = n0 at *
    have hLL : L.length ≤ 200000 := by omega
    have HL := Lib.hid (And.intro hLm hLr); have HLl := Lib.hid hLl; clear hL hLm hLr hLl
    refine wp_mono (Q := fun e a W' => e = .normal ∧ ∃ (vals : Nat → Value) (gg gc : Nat), a = { tmps := #[.agg #[.int .i64 x.sign, .slice xa xn xc], .int .i64 (b : Int), .pointer (some ⟨w.heap.size, 0, none⟩), undef, .string { data := #[] }, .pointer (some ⟨w.heap.size + 1, 0, none⟩), undef, .pointer (some ⟨w.heap.size, 0, none⟩), .int .i64 x.sign, .bool false, .pointer (some ⟨w.heap.size, 1, none⟩), .slice xa xn xc, .int .i64 (b : Int), iterF (w.heap.size + 2), undef, undef, undef, undef, undef, undef, vals 0, vals 1, vals 2, vals 3, .slice (some ⟨gg, 0, none⟩) L.length gc, undef, undef, undef, undef], defers := [{ target := Target.collected W5.heap.size, args := #[] }] } ∧ W'.cell? ⟨w.heap.size + 1, 0, none⟩ = some (.slice (some ⟨gg, 0, none⟩) L.length gc) ∧ W'.ownsRow (W5.heap.size + 3) 5 1 (.slice (some ⟨gg, 0, none⟩) L.length gc) L.length (L.map Rv.encB) ∧ Below w.heap.size w W' ∧ W'.heap[W5.heap.size]? = some (.deferred (some []))) ?_ ?_
    refine Rt.wp_region_grow (n0 := 2) [4, 5] [] 29 (fun vals => { tmps := #[.agg #[.int .i64 x.sign, .slice xa xn xc], .int .i64 (b : Int), .pointer (some ⟨w.heap.size, 0, none⟩), undef, .string { data := #[] }, .pointer (some ⟨w.heap.size + 1, 0, none⟩), undef, .pointer (some ⟨w.heap.size, 0, none⟩), .int .i64 x.sign, .bool false, .pointer (some ⟨w.heap.size, 1, none⟩), .slice xa xn xc, .int .i64 (b : Int), iterF (w.heap.size + 2), undef, undef, undef, undef, undef, undef, vals 0, vals 1, vals 2, vals 3, undef, undef, undef, undef, undef], defers := [{ target := Target.collected W5.heap.size, args := #[] }] }) (RM v x.sign (.pointer (some ⟨w.heap.size, 0, none⟩))) (by kernel_rfl) (by kernel_rfl) (by kernel_rfl) (by kernel_rfl) (fun _ _ _ _ _ h => absurd h.1 (by simp)) (by kernel_rfl) rfl (fun _ => by kernel_rfl) (by kernel_rfl) (by kernel_rfl) (RM_stays _ _ _) ?_ ?_ ?_
    · intro i o d hi hT hW hd vals w' hb hf
      have hlt : i < 6 := (Array.getElem?_eq_some_iff.1 hi).1
      rcases i with _ | _ | _ | _ | _ | _ | i
      · obtain rfl := Option.some.inj hi
        obtain rfl := Option.some.inj hd
        have z0 := (hb.cell (p := ⟨w.heap.size + 1, 0, none⟩) hBW).trans hc0
        dsimp only
        go_simp
        exact ⟨rfl, Below.refl _ _⟩
      · obtain rfl := Option.some.inj hi
        obtain rfl := Option.some.inj hd
        dsimp only
        go_simp
        exact ⟨rfl, Below.refl _ _⟩
      · obtain rfl := Option.some.inj hi
        obtain rfl := Option.some.inj hd
        have e1 : vals 1 = _ := hf 1 (by kernel_rfl)
        have z0 := (hb.cell (p := ⟨w.heap.size, 0, none⟩) (by show w.heap.size < _; omega)).trans k0
        dsimp only
        rw [e1]
        go_simp
        exact ⟨rfl, Below.refl _ _⟩
      · obtain rfl := Option.some.inj hi
        obtain rfl := Option.some.inj hd
        have e2 : vals 2 = _ := hf 2 (by kernel_rfl)
        dsimp only
        rw [e2]
        go_simp
        refine (mark_any _ _).mono ?_
        rintro e w5 ⟨rfl, rfl⟩
        exact ⟨rfl, Below.refl _ _⟩
      · cases hT
      · cases hT
      · omega
    · intro p o d hi hW hd vals w' hb hf
      cases hW
    · intro vals w' hb hf
      have e0 : vals 0 = v := hf 0 (by decide) rfl
      have e3 : vals 3 = .string (markS x.sign) := hf 3 (by decide) rfl
      have HB := Lib.hid hb; clear hb hf
      obtain ⟨inf, i1, i2, i3, i4⟩ := infoB
      have hown' : w'.ownsRow (W5.heap.size + 3) 5 1 v n0 ((Wh.dg b x.natAbs).map chV) := ownsRow_onlyS (hn0 ▸ HOWN.out) (OnlyS.of_below (S := fun _ => False) HB.out) (fun _ _ h => h)
      have hD3 : W5.heap.size + 3 ≤ w'.heap.size := by have := HB.out.size; omega
      rw [e0, e3]
      refine Rt.wpAny_step (i := 4) (by kernel_rfl) rfl (by rfl) (fun K hK => ?_)
      have HK := Lib.hid hK; clear hK
      refine wp_append_str w' (.tmp 20) (.tmp 23) 135 9 rfl (W5.heap.size + 3) 5 inf Tryz.underlying135 Tryz.underlying9 i1 i2 i3 i4 v n0 _ rfl hown' (markS x.sign) rfl ?_ ?_ hD3 ?_
      · simp only [maxLen]; omega
      · omega
      · intro v' W1 ho1 hg1
        refine HK.out _ _ ?_
        clear HK
        rw [← HLl.out, ← HL.out.1] at ho1
        have hsh : ∃ g c, v' = .slice (some ⟨g, 0, none⟩) L.length c := by
          rcases ho1.2 with ⟨_, h⟩ | ⟨g, c, _, h, _⟩
          · omega
          · exact ⟨g, c, h⟩
        obtain ⟨gg, gc, rfl⟩ := hsh
        have hlW : w.heap.size + 1 < w'.heap.size := by omega
        have hgo := grownBy_onlyS hg1
        have hnob : ∀ k, k ≤ W5.heap.size + 2 → ¬ (v.ownBlock = some k) := fun k hk e => by have := ownBlock_ge hown' e; omega
        have hc1 := (hgo.cell (p := ⟨w.heap.size + 1, 0, none⟩) (hnob _ (by show w.heap.size + 1 ≤ _; omega)) hlW).trans ((HB.out.cell (p := ⟨w.heap.size + 1, 0, none⟩) hBW).trans hc0)
        have hf1 := (hgo.frozen (p := ⟨w.heap.size + 1, 0, none⟩) (hnob _ (by show w.heap.size + 1 ≤ _; omega)) hlW).trans ((HB.out.frozen (p := ⟨w.heap.size + 1, 0, none⟩) hBW).trans hf0)
        have hDl' : W5.heap.size < w'.heap.size := Nat.lt_of_lt_of_le hDl HB.out.size
        have hd1 : (W1.setCell ⟨w.heap.size + 1, 0, none⟩ (.slice (some ⟨gg, 0, none⟩) L.length gc)).heap[W5.heap.size]? = some (.deferred (some [])) := (Below.heap_setCell _ _ _ _ (by show W5.heap.size ≠ w.heap.size + 1; omega)).trans ((hgo.block W5.heap.size (hnob W5.heap.size (by omega)) hDl').trans ((HB.out.block W5.heap.size hDl).trans HDD.out))
        have ho2 : (W1.setCell ⟨w.heap.size + 1, 0, none⟩ (.slice (some ⟨gg, 0, none⟩) L.length gc)).ownsRow (W5.heap.size + 3) 5 1 (.slice (some ⟨gg, 0, none⟩) L.length gc) L.length (L.map Rv.encB) :=
          ownsRow_onlyS ho1 ((OnlyS.refl (fun k => k = w.heap.size + 1) W1).setCell (p := ⟨w.heap.size + 1, 0, none⟩) rfl _) (fun k hk e => by omega)
        have hb2 : Below w.heap.size w (W1.setCell ⟨w.heap.size + 1, 0, none⟩ (.slice (some ⟨gg, 0, none⟩) L.length gc)) := ((HBW.out.trans (HB.out.mono (by omega))).trans (hgo.below (B := w.heap.size) (fun k hk => by have := ownBlock_ge hown' hk; omega) (by omega))).setCell (by show w.heap.size ≤ w.heap.size + 1; omega) _
        have HALL := Lib.hid (And.intro ho2 (And.intro hb2 hd1)); clear ho1 ho2 hb2 hd1 hgo hg1
        refine Rt.wpAny_step (i := 5) (by kernel_rfl) rfl (by rfl) (fun K hK => ?_)
        have HK := Lib.hid hK; clear hK
        go_simp
        refine HK.out _ _ ?_
        exact Rt.wpAny_end (by kernel_rfl) ⟨rfl, vals, gg, gc, by rw [e0, e3], World.cell?_setCell_same _ _ _ hc1, HALL.out⟩
    rintro e a W6 ⟨rfl, vals, gg, gc, rfl, hc6, ho6, hb6, hd6⟩
    have hgg : W5.heap.size + 3 ≤ gg := by
      rcases ho6.2 with ⟨h, _⟩ | ⟨g, c, _, h, hg, _⟩
      · cases h
      · cases h; exact hg
    have hgl : gg < W6.heap.size := by
      rcases ho6.2 with ⟨h, _⟩ | ⟨g, c, _, h, hg, hh, _⟩
      · cases h
      · cases h; exact (Array.getElem?_eq_some_iff.1 hh).1
    have HRV := Lib.hid (Rv.reverse_own W6 (W5.heap.size + 3) gg gc 5 L ho6 (by omega))
    have HB6 := Lib.hid hb6; have HD6 := Lib.hid hd6
    have hl6 : w.heap.size + 1 < W6.heap.size := by omega
    clear ho6 hb6 hd6
    generalize vals 0 = v0; generalize vals 1 = v1; generalize vals 2 = v2; generalize vals 3 = v3
    go_wp2_with fail
    refine HRV.out.mono ?_
    rintro e W8 ⟨rfl, hg8, hcs⟩
    have hgo := grownBy_onlyS hg8
    have hc8 := (hgo.cell (p := ⟨w.heap.size + 1, 0, none⟩) (by intro e; have e' : gg = w.heap.size + 1 := Option.some.inj e; omega) hl6).trans hc6
    have hown8 : OwnB W8 gg L.reverse := ⟨Nat.lt_of_lt_of_le hgl hgo.size, fun i hi => (hcs i (by simpa using hi)).1, fun i hi => (hcs i (by simpa using hi)).2⟩
    have hback := run_string_back hown8 L.length gc (by simp)
    have hd8 : W8.heap[W5.heap.size]? = some (.deferred (some [])) := (hgo.block W5.heap.size (by intro e; have e' : gg = W5.heap.size := Option.some.inj e; omega) (Array.getElem?_eq_some_iff.1 HD6.out).1).trans HD6.out
    have hb8 : Below w.heap.size w W8 := HB6.out.trans (hgo.below (B := w.heap.size) (fun k hk => by have e' : gg = k := Option.some.inj hk; omega) (by omega))
    have HB8 := Lib.hid hb8; have HD8 := Lib.hid hd8; have HLR := Lib.hid HL.out.2
    clear hgo hg8 hcs hown8 hb8 hd8 hc6
    go_wp2_with fail
    refine ⟨by simp, .inl ⟨_, _, rfl, run_takeDeferred HD8.out, ?_⟩⟩
    exact ⟨.string (str L.reverse), by simp [results, Tryz.results228, go_sem], by rw [HLR.out], HB8.out.trans (belowK_b (w := w) (Nat.le_refl _) W8 W5.heap.size _ (.deferred none) (by omega) HD8.out rfl rfl)⟩
end Go.Proofs.YteggbenhffmijaaGreatDoor

/- WALKS, PowMod 2: what the work answers. -/
namespace Go.Proofs.YteggbenhffmijaaGreatDoor
open Go.RowKit
structure Captured3 (w : World) (pa pb pc : Addr) (x y z : Int) : Prop where
  a : w.cell? pa = some (txt x)
  b : w.cell? pb = some (txt y)
  c : w.cell? pc = some (txt z)
structure Lie3 (w : World) (pa pb pc : Addr) : Prop where
  a : pa.block < w.heap.size
  b : pb.block < w.heap.size
  c : pc.block < w.heap.size
set_option maxRecDepth 100000 in
set_option maxHeartbeats 4000000 in
theorem powmod_work (w : World) (pa pb pc : Addr) (x y m : Int) (hc : Captured3 w pa pb pc x y m) (hl : Lie3 w pa pb pc) (hx : Valid x) (hy : Valid y) (hm : Valid m) (hfx : Fit x) (hy0 : 0 ≤ y) (hm0 : 0 < m ∧ m < 1000000000) (hz : Valid ((x ^ y.natAbs).fmod m)) (htab : Tab w) :
    Calls Tryz.prog 225 #[.pointer (some pa), .pointer (some pb), .pointer (some pc)] w fun e w' => e = .returned (txt ((x ^ y.natAbs).fmod m)) ∧ Below w.heap.size w w' := by
  have ka := hc.a
  have kb := hc.b
  have kc := hc.c
  clear hc
  have HPL := Lib.hid hl; clear hl
  have HRX := Lib.hid (read_any x hx)
  have HRY := Lib.hid (read_any y hy)
  have HRM := Lib.hid (read_any m hm)
  have hyl : (Wh.limbs y.natAbs).length ≤ 1000 := by have := limbs_valid hy; omega
  have HPM := Lib.hid (fun (w : World) (a1 a2 a3 : Option Addr) (n1 n2 n3 c1 c2 c3 : Nat) h1 h2 h3 => powmod_any w x y m a1 a2 a3 n1 n2 n3 c1 c2 c3 h1 h2 h3 hfx hyl hm0)
  unfold txt at ka kb kc HRX HRY HRM
  have htx : ∀ z : Int, txt z = .string (str (Wh.decI z)) := fun _ => rfl
  have HZ := Lib.hid hz; clear hz
  have sy : decide (0 ≤ y.sign) = true := by
    rcases Int.lt_or_eq_of_le hy0 with h | h
    · rw [Int.sign_eq_one_of_pos h]; rfl
    · rw [← h]; rfl
  have sm : decide (0 < m.sign) = true := by rw [Int.sign_eq_one_of_pos hm0.1]; rfl
  go_enter Tryz.func225, Tryz.ntmps225
  go_wp2_with fail
  refine wp_mono (Q := fun e a W' => e = .normal ∧ ∃ (vals : Nat → Value) (b4 b5 b6 : Nat), a = { tmps := #[.pointer (some pa), .pointer (some pb), .pointer (some pc), .string { data := #[] }, vals 6, vals 7, vals 8, vals 0, vals 1, vals 2, vals 3, vals 4, vals 5, undef, undef, undef, undef, undef, undef, undef, undef, undef, undef, undef, undef, undef, undef], defers := [] } ∧ vals 6 = .pointer (some ⟨b4, 0, none⟩) ∧ vals 7 = .pointer (some ⟨b5, 0, none⟩) ∧ vals 8 = .pointer (some ⟨b6, 0, none⟩) ∧ NumAt W' b4 x ∧ NumAt W' b5 y ∧ NumAt W' b6 m ∧ b4 < W'.heap.size ∧ b5 < W'.heap.size ∧ b6 < W'.heap.size ∧ Below w.heap.size w W') ?_ ?_
  refine Rt.wp_region_pairs (n0 := 3) [9, 10, 11] [] 27 (fun vals => { tmps := #[.pointer (some pa), .pointer (some pb), .pointer (some pc), .string { data := #[] }, vals 6, vals 7, vals 8, vals 0, vals 1, vals 2, vals 3, vals 4, vals 5, undef, undef, undef, undef, undef, undef, undef, undef, undef, undef, undef, undef, undef, undef], defers := [] }) (PW w.heap.size x y m) Two2 (by kernel_rfl) (by kernel_rfl) (by kernel_rfl) (by kernel_rfl) (fun _ _ _ _ _ h => absurd h.1 (by simp)) (by kernel_rfl) rfl (fun _ => by kernel_rfl) (by kernel_rfl) (by kernel_rfl) (pw_stays _ _ _ _) ?_ ?_ ?_
  · intro i o d hi hT hW hd vals w' hb hf
    have hlt : i < 12 := (Array.getElem?_eq_some_iff.1 hi).1
    rcases i with _ | _ | _ | _ | _ | _ | _ | _ | _ | _ | _ | _ | i
    · obtain rfl := Option.some.inj hi
      obtain rfl := Option.some.inj hd
      have h0 := (hb.cell HPL.out.a).trans ka
      dsimp only
      go_simp
      exact ⟨by unfold PW txt; rfl, Below.refl _ _, fun j u _ _ => two2_of (by intro p e; cases e)⟩
    · obtain rfl := Option.some.inj hi
      obtain rfl := Option.some.inj hd
      have e0 : vals 0 = .string (str (Wh.decI x)) := hf 0 (by kernel_rfl)
      dsimp only
      rw [e0]
      go_simp
      refine (HRX.out _).mono ?_
      rintro e w5 ⟨⟨v5, rfl, hn5⟩, hb5⟩
      exact ⟨hn5, hb5, fun j u _ _ => two2_of (num_np hn5)⟩
    · obtain rfl := Option.some.inj hi
      obtain rfl := Option.some.inj hd
      have h0 := (hb.cell HPL.out.b).trans kb
      dsimp only
      go_simp
      exact ⟨by unfold PW txt; rfl, Below.refl _ _, fun j u _ _ => two2_of (by intro p e; cases e)⟩
    · obtain rfl := Option.some.inj hi
      obtain rfl := Option.some.inj hd
      have e0 : vals 2 = .string (str (Wh.decI y)) := hf 2 (by kernel_rfl)
      dsimp only
      rw [e0]
      go_simp
      refine (HRY.out _).mono ?_
      rintro e w5 ⟨⟨v5, rfl, hn5⟩, hb5⟩
      exact ⟨hn5, hb5, fun j u _ _ => two2_of (num_np hn5)⟩
    · obtain rfl := Option.some.inj hi
      obtain rfl := Option.some.inj hd
      have h0 := (hb.cell HPL.out.c).trans kc
      dsimp only
      go_simp
      exact ⟨by unfold PW txt; rfl, Below.refl _ _, fun j u _ _ => two2_of (by intro p e; cases e)⟩
    · obtain rfl := Option.some.inj hi
      obtain rfl := Option.some.inj hd
      have e0 : vals 4 = .string (str (Wh.decI m)) := hf 4 (by kernel_rfl)
      dsimp only
      rw [e0]
      go_simp
      refine (HRM.out _).mono ?_
      rintro e w5 ⟨⟨v5, rfl, hn5⟩, hb5⟩
      exact ⟨hn5, hb5, fun j u _ _ => two2_of (num_np hn5)⟩
    · obtain rfl := Option.some.inj hi
      obtain rfl := Option.some.inj hd
      dsimp only
      go_simp
      exact ⟨⟨w'.heap.size, rfl, hb.size, by simp, by go_simp, by go_simp, by go_simp, by go_simp⟩, (Below.refl _ _).alloc (Nat.le_refl _) _, fun j u _ hu => pw_new _ (Nat.le_refl _) j u hu⟩
    · obtain rfl := Option.some.inj hi
      obtain rfl := Option.some.inj hd
      dsimp only
      go_simp
      exact ⟨⟨w'.heap.size, rfl, hb.size, by simp, by go_simp, by go_simp, by go_simp, by go_simp⟩, (Below.refl _ _).alloc (Nat.le_refl _) _, fun j u _ hu => pw_new _ (Nat.le_refl _) j u hu⟩
    · obtain rfl := Option.some.inj hi
      obtain rfl := Option.some.inj hd
      dsimp only
      go_simp
      exact ⟨⟨w'.heap.size, rfl, hb.size, by simp, by go_simp, by go_simp, by go_simp, by go_simp⟩, (Below.refl _ _).alloc (Nat.le_refl _) _, fun j u _ hu => pw_new _ (Nat.le_refl _) j u hu⟩
    · cases hT
    · cases hT
    · cases hT
    · omega
  · intro p o d hi hW hd vals w' hb hf
    cases hW
  · intro vals w' hb hf hp
    obtain ⟨s1, e1, k1⟩ := hf 1 (by decide) rfl
    obtain ⟨s3, e3, k3⟩ := hf 3 (by decide) rfl
    obtain ⟨s5, e5, k5⟩ := hf 5 (by decide) rfl
    obtain ⟨b4, e6, n4, l4, B4⟩ := Fresh.blank (hf 6 (by decide) rfl)
    obtain ⟨b5, e7, n5, l5, B5⟩ := Fresh.blank (hf 7 (by decide) rfl)
    obtain ⟨b6, e8, n6, l6, B6⟩ := Fresh.blank (hf 8 (by decide) rfl)
    have h45 := hp 6 7 (by decide) (by decide) rfl rfl (by decide) _ _ e6 e7
    have h46 := hp 6 8 (by decide) (by decide) rfl rfl (by decide) _ _ e6 e8
    have h56 := hp 7 8 (by decide) (by decide) rfl rfl (by decide) _ _ e7 e8
    obtain ⟨p1, c1, rfl⟩ := k1.len
    obtain ⟨p3, c3, rfl⟩ := k3.len
    obtain ⟨p5, c5, rfl⟩ := k5.len
    have HB := Lib.hid hb; clear hb hf hp
    have K1 := Lib.hid k1; have K3 := Lib.hid k3; have K5 := Lib.hid k5; clear k1 k3 k5
    have BB4 := Lib.hid B4; have BB5 := Lib.hid B5; have BB6 := Lib.hid B6
    obtain ⟨x0, x1, f0, f1⟩ := B4
    clear B5 B6
    rw [e1, e3, e5, e6, e7, e8]
    refine Rt.wpAny_step (i := 9) (by kernel_rfl) rfl (by rfl) (fun K hK => ?_)
    have HK := Lib.hid hK; clear hK
    go_simp
    refine HK.out _ _ ?_
    clear HK x0 x1 f0 f1
    have N4 := Lib.hid (BB4.out.put K1.out)
    have B5' := BB5.out.far h45 (.int .i64 x.sign) (.slice p1 (Wh.limbs x.natAbs).length c1)
    have B6' := Lib.hid (BB6.out.far h46 (.int .i64 x.sign) (.slice p1 (Wh.limbs x.natAbs).length c1))
    have K3' := Lib.hid (K3.out.store2 b4 BB4.out.c0 BB4.out.c1 (.int .i64 x.sign) (.slice p1 (Wh.limbs x.natAbs).length c1))
    have K5' := Lib.hid (K5.out.store2 b4 BB4.out.c0 BB4.out.c1 (.int .i64 x.sign) (.slice p1 (Wh.limbs x.natAbs).length c1))
    have HB' : Hid (Below w.heap.size w ((w'.setCell ⟨b4, 0, none⟩ (.int .i64 x.sign)).setCell ⟨b4, 1, none⟩ (.slice p1 (Wh.limbs x.natAbs).length c1))) := Lib.hid ((HB.out.setCell n4 _).setCell n4 _)
    have l4' : b4 < ((w'.setCell ⟨b4, 0, none⟩ (.int .i64 x.sign)).setCell ⟨b4, 1, none⟩ (.slice p1 (Wh.limbs x.natAbs).length c1)).heap.size := by simpa using l4
    have l5' : b5 < ((w'.setCell ⟨b4, 0, none⟩ (.int .i64 x.sign)).setCell ⟨b4, 1, none⟩ (.slice p1 (Wh.limbs x.natAbs).length c1)).heap.size := by simpa using l5
    have l6' : b6 < ((w'.setCell ⟨b4, 0, none⟩ (.int .i64 x.sign)).setCell ⟨b4, 1, none⟩ (.slice p1 (Wh.limbs x.natAbs).length c1)).heap.size := by simpa using l6
    clear K1 K3 K5 BB4 BB5 BB6 HB l4 l5 l6
    generalize ((w'.setCell ⟨b4, 0, none⟩ (.int .i64 x.sign)).setCell ⟨b4, 1, none⟩ (.slice p1 (Wh.limbs x.natAbs).length c1)) = U at *
    have BB5 := Lib.hid B5'
    obtain ⟨x0, x1, f0, f1⟩ := B5'
    refine Rt.wpAny_step (i := 10) (by kernel_rfl) rfl (by rfl) (fun K hK => ?_)
    have HK := Lib.hid hK; clear hK
    go_simp
    refine HK.out _ _ ?_
    clear HK x0 x1 f0 f1
    have N5 := Lib.hid (BB5.out.put K3'.out)
    have N4' := Lib.hid (N4.out.far BB5.out (Ne.symm h45) (.int .i64 y.sign) (.slice p3 (Wh.limbs y.natAbs).length c3))
    have B6'' := B6'.out.far h56 (.int .i64 y.sign) (.slice p3 (Wh.limbs y.natAbs).length c3)
    have K5'' := Lib.hid (K5'.out.store2 b5 BB5.out.c0 BB5.out.c1 (.int .i64 y.sign) (.slice p3 (Wh.limbs y.natAbs).length c3))
    have HB'' : Hid (Below w.heap.size w ((U.setCell ⟨b5, 0, none⟩ (.int .i64 y.sign)).setCell ⟨b5, 1, none⟩ (.slice p3 (Wh.limbs y.natAbs).length c3))) := Lib.hid ((HB'.out.setCell n5 _).setCell n5 _)
    have l4 : b4 < ((U.setCell ⟨b5, 0, none⟩ (.int .i64 y.sign)).setCell ⟨b5, 1, none⟩ (.slice p3 (Wh.limbs y.natAbs).length c3)).heap.size := by simpa using l4'
    have l5 : b5 < ((U.setCell ⟨b5, 0, none⟩ (.int .i64 y.sign)).setCell ⟨b5, 1, none⟩ (.slice p3 (Wh.limbs y.natAbs).length c3)).heap.size := by simpa using l5'
    have l6 : b6 < ((U.setCell ⟨b5, 0, none⟩ (.int .i64 y.sign)).setCell ⟨b5, 1, none⟩ (.slice p3 (Wh.limbs y.natAbs).length c3)).heap.size := by simpa using l6'
    clear N4 K3' K5' BB5 B6' HB' l4' l5' l6'
    generalize ((U.setCell ⟨b5, 0, none⟩ (.int .i64 y.sign)).setCell ⟨b5, 1, none⟩ (.slice p3 (Wh.limbs y.natAbs).length c3)) = U2 at *
    have BB6 := Lib.hid B6''
    obtain ⟨x0, x1, f0, f1⟩ := B6''
    refine Rt.wpAny_step (i := 11) (by kernel_rfl) rfl (by rfl) (fun K hK => ?_)
    have HK := Lib.hid hK; clear hK
    go_simp
    refine HK.out _ _ ?_
    clear HK x0 x1 f0 f1
    exact Rt.wpAny_end (by kernel_rfl) ⟨rfl, vals, b4, b5, b6, by rw [e1, e3, e5, e6, e7, e8], e6, e7, e8, N4'.out.far BB6.out (Ne.symm h46) _ _, N5.out.far BB6.out (Ne.symm h56) _ _, BB6.out.put K5''.out, by simpa using l4, by simpa using l5, by simpa using l6, (HB''.out.setCell n6 _).setCell n6 _⟩
  · rintro e a W ⟨rfl, vals, b4, b5, b6, rfl, e6, e7, e8, N4, N5, N6, l4, l5, l6, hB⟩
    rw [e6, e7, e8]
    generalize vals 0 = v0; generalize vals 1 = v1; generalize vals 2 = v2; generalize vals 3 = v3; generalize vals 4 = v4; generalize vals 5 = v5
    obtain ⟨p5, c5, y0, y1, ys⟩ := N5
    have HYS := Lib.hid ys; clear ys
    have HN4 := Lib.hid N4; have HN6 := Lib.hid N6; have HB := Lib.hid hB; clear N4 N6 hB
    generalize hsy : y.sign = Y at *
    generalize hsm : m.sign = MS at *
    go_wp2_with fail
    refine (sign_any W Y _ _ _).mono ?_
    rintro e W2 ⟨rfl, hb2⟩
    have N4 := HN4.out.mono hb2 l4
    have N6 := HN6.out.mono hb2 l6
    have y0 := (hb2.cell (p := ⟨b5, 0, none⟩) l5).trans y0
    have y1 := (hb2.cell (p := ⟨b5, 1, none⟩) l5).trans y1
    have HYS := Lib.hid (HYS.out.mono hb2)
    have hs2 := hb2.size
    have HB : Hid (Below w.heap.size w _) := Lib.hid (HB.out.trans (hb2.mono HB.out.size))
    clear HN4 HN6 hb2
    have HN4 := Lib.hid N4; clear N4
    obtain ⟨p6, c6, m0, m1, ms⟩ := N6
    rw [hsm] at m0
    have HMS := Lib.hid ms; clear ms
    go_wp2_with fail
    refine (sign_any W2 MS _ _ _).mono ?_
    rintro e W3 ⟨rfl, hb3⟩
    have N4 := HN4.out.mono hb3 (by omega)
    have y0 := (hb3.cell (p := ⟨b5, 0, none⟩) (by show b5 < _; omega)).trans y0
    have y1 := (hb3.cell (p := ⟨b5, 1, none⟩) (by show b5 < _; omega)).trans y1
    have m0 := (hb3.cell (p := ⟨b6, 0, none⟩) (by show b6 < _; omega)).trans m0
    have m1 := (hb3.cell (p := ⟨b6, 1, none⟩) (by show b6 < _; omega)).trans m1
    have HYS := Lib.hid (HYS.out.mono hb3)
    have HMS := Lib.hid (HMS.out.mono hb3)
    have HB : Hid (Below w.heap.size w _) := Lib.hid (HB.out.trans (hb3.mono HB.out.size))
    clear HN4 hb3
    obtain ⟨p4, c4, x0, x1, xs⟩ := N4
    have HXS := Lib.hid xs; clear xs
    go_wp2_with fail
    refine (demand_yes _ _).mono ?_
    rintro e W4 ⟨rfl, rfl⟩
    rw [← hsy, ← hsm] at *
    go_wp2_with fail
    refine (HPM.out _ _ _ _ _ _ _ _ _ _ HXS.out HYS.out HMS.out).mono ?_
    rintro e W5 ⟨⟨vz, rfl, hnz⟩, hb5⟩
    have HT := Lib.hid (wtext_any W5 vz _ hnz (htab.mono (HB.out.trans (hb5.mono HB.out.size))) HZ.out)
    have HB : Hid (Below w.heap.size w _) := Lib.hid (HB.out.trans (hb5.mono HB.out.size))
    obtain ⟨sz, rfl, -⟩ := hnz
    clear hb5
    go_wp2_with fail
    refine HT.out.mono ?_
    rintro e W6 ⟨rfl, hb6⟩
    have HB := HB.out.trans (hb6.mono HB.out.size)
    unfold txt
    go_wp2
    go_ret
    exact ⟨rfl, HB⟩
end Go.Proofs.YteggbenhffmijaaGreatDoor

/- WALKS, roots 2 and bases: whole.Root and whole.Base, over a contract of package exact's function. -/
namespace Go.Proofs.YteggbenhffmijaaGreatDoor
open Go.RowKit

set_option maxRecDepth 100000 in
set_option maxHeartbeats 1000000 in
theorem root_work (w : World) (pa pb : Addr) (x : Int) (n : Nat) (r : Int) (ha : w.cell? pa = some (txt x)) (hb : w.cell? pb = some (.int .i64 n)) (hla : pa.block < w.heap.size) (hlb : pb.block < w.heap.size) (hx : Valid x) (hx0 : 0 ≤ x) (hn : 1 ≤ n ∧ n ≤ 20)
    (HR : ∀ (w : World) (xa : Option Addr) (xc : Nat), Sl w (.slice xa (Wh.limbs x.natAbs).length xc) (Wh.limbs x.natAbs) → Tab w → Calls Tryz.prog 230 #[.agg #[.int .i64 x.sign, .slice xa (Wh.limbs x.natAbs).length xc], .int .i64 n] w fun e w' => (∃ v', e = .returned v' ∧ Num w' v' r) ∧ Below w.heap.size w w')
    (hz : Valid r) (htab : Tab w) :
    Calls Tryz.prog 229 #[.pointer (some pa), .pointer (some pb)] w fun e w' => e = .returned (.string (str (Wh.decI r))) ∧ Below w.heap.size w w' := by
  have hs0 : decide (0 ≤ x.sign) = true := by
    rcases Int.lt_or_eq_of_le hx0 with h | h
    · rw [Int.sign_eq_one_of_pos h]; rfl
    · rw [← h]; rfl
  have hn1' : decide (1 ≤ (n : Int)) = true := by simp; omega
  have hn2' : decide ((n : Int) ≤ 20) = true := by simp; omega
  clear hn
  have H1 := Lib.hid (read_any x hx w)
  have HRR := Lib.hid HR; clear HR
  have HTB := Lib.hid htab; clear htab
  unfold txt at *
  go_enter Tryz.func229, Tryz.ntmps229
  go_wp2_with fail
  refine H1.out.mono ?_
  rintro e w1 ⟨⟨v1, rfl, hn1⟩, hb1⟩
  obtain ⟨s1, rfl, k1⟩ := hn1
  obtain ⟨p1, c1, rfl⟩ := k1.len
  have hal : Below w1.heap.size w1 (w1.alloc (Obj.cells #[Value.int IntKind.i64 x.sign, Value.slice p1 (Wh.limbs x.natAbs).length c1] 92)) := (Below.refl _ _).alloc (Nat.le_refl _) _
  have hB := hb1.trans (hal.mono hb1.size)
  have kb := (hB.cell hlb).trans hb
  have ka : (w1.alloc (Obj.cells #[Value.int IntKind.i64 x.sign, Value.slice p1 (Wh.limbs x.natAbs).length c1] 92)).cell? ⟨w1.heap.size, 0, none⟩ = some (.int .i64 x.sign) := by go_simp
  have kc : (w1.alloc (Obj.cells #[Value.int IntKind.i64 x.sign, Value.slice p1 (Wh.limbs x.natAbs).length c1] 92)).cell? ⟨w1.heap.size, 1, none⟩ = some (.slice p1 (Wh.limbs x.natAbs).length c1) := by go_simp
  have hsz : (w1.alloc (Obj.cells #[Value.int IntKind.i64 x.sign, Value.slice p1 (Wh.limbs x.natAbs).length c1] 92)).heap.size = w1.heap.size + 1 := by simp
  have K1 := Lib.hid (k1.mono hal); have HB := Lib.hid hB
  have hpb : pb.block < w1.heap.size := Nat.lt_of_lt_of_le hlb hb1.size
  clear hal hB k1 hb1 ha hb
  go_wp2_with fail
  generalize hX : (w1.alloc (Obj.cells #[Value.int IntKind.i64 x.sign, Value.slice p1 (Wh.limbs x.natAbs).length c1] 92)) = V at *
  clear hX
  generalize hsy : x.sign = Y at *
  generalize hnl : (Wh.limbs x.natAbs).length = NL at *
  refine (sign_any V Y _ _ _).mono ?_
  rintro e W2 ⟨rfl, hb2⟩
  have ka := (hb2.cell (p := ⟨w1.heap.size, 0, none⟩) (by show w1.heap.size < _; omega)).trans ka
  have kc := (hb2.cell (p := ⟨w1.heap.size, 1, none⟩) (by show w1.heap.size < _; omega)).trans kc
  have kb := (hb2.cell (p := pb) (by omega)).trans kb
  have K2 := Lib.hid (K1.out.mono hb2)
  have HB2 : Hid (Below w.heap.size w W2) := Lib.hid (HB.out.trans (hb2.mono HB.out.size))
  clear hb2 K1 HB
  go_wp2_with fail
  refine (demand_yes _ _).mono ?_
  rintro e W3 ⟨rfl, rfl⟩
  have HT2 := Lib.hid (HTB.out.mono HB2.out)
  have HRW := Lib.hid (HRR.out W2 p1 c1 K2.out HT2.out)
  clear HRR
  go_wp2_with fail
  refine HRW.out.mono ?_
  rintro e W5 ⟨⟨vz, rfl, hnz⟩, hb5⟩
  have HT := Lib.hid (wtext_any W5 vz _ hnz (HT2.out.mono hb5) hz)
  have HB5 : Hid (Below w.heap.size w W5) := Lib.hid (HB2.out.trans (hb5.mono HB2.out.size))
  obtain ⟨sz, rfl, -⟩ := hnz
  clear hb5
  go_wp2_with fail
  refine HT.out.mono ?_
  rintro e W6 ⟨rfl, hb6⟩
  have HB6 := HB5.out.trans (hb6.mono HB5.out.size)
  unfold txt
  go_wp2
  go_ret
  exact ⟨rfl, HB6⟩

set_option maxHeartbeats 400000 in
theorem Root_any (w : World) (x : Int) (n : Nat) (r : Int) (hx : Valid x) (hx0 : 0 ≤ x) (hn : 1 ≤ n ∧ n ≤ 20)
    (HR : ∀ (w : World) (xa : Option Addr) (xc : Nat), Sl w (.slice xa (Wh.limbs x.natAbs).length xc) (Wh.limbs x.natAbs) → Tab w → Calls Tryz.prog 230 #[.agg #[.int .i64 x.sign, .slice xa (Wh.limbs x.natAbs).length xc], .int .i64 n] w fun e w' => (∃ v', e = .returned v' ∧ Num w' v' r) ∧ Below w.heap.size w w')
    (hz : Valid r) (htab : Tab w) :
    Calls Tryz.prog 143 #[txt x, .int .i64 n] w fun e w' => e = .returned (.tuple #[.string (str (Wh.decI r)), .int .i64 0]) ∧ Below w.heap.size w w' := by
  have hmf : ∀ (fn : Fn) (first cap : Array Value) (w : World), (Instr.makeFunc fn first cap).run Tryz.prog w = .ok (.func fn first cap) w := fun _ _ _ _ => rfl
  have hat := fun (w : World) (pa pb : Addr) (ka : w.cell? pa = some (txt x)) (kb : w.cell? pb = some (.int .i64 n)) (htab : Tab w) (ha : pa.block < w.heap.size) (hb : pb.block < w.heap.size) => attempt_good 229 #[.pointer (some pa), .pointer (some pb)] (str (Wh.decI r)) w (fun w => by kernel_rfl) (fun w' hb' => root_work w' pa pb x n r ((hb'.cell ha).trans ka) ((hb'.cell hb).trans kb) (Nat.lt_of_lt_of_le ha hb'.size) (Nat.lt_of_lt_of_le hb hb'.size) hx hx0 hn HR hz (htab.mono hb'))
  have HAT := Lib.hid hat; clear hat
  have HTB := Lib.hid htab; clear htab
  clear hx hx0 hn HR hz
  unfold txt at *
  go_enter Tryz.func143, Tryz.ntmps143
  go_wp2_with fail
  have hal : Below w.heap.size w ((w.alloc (.cells #[.string (str (Wh.decI x))] 9)).alloc (.cells #[.int .i64 n] 3)) := ((Below.refl _ _).alloc (Nat.le_refl _) _).alloc (by simp) _
  have b0 : ((w.alloc (.cells #[.string (str (Wh.decI x))] 9)).alloc (.cells #[.int .i64 n] 3)).cell? ⟨w.heap.size, 0, none⟩ = some (.string (str (Wh.decI x))) := by go_simp
  have b1 : ((w.alloc (.cells #[.string (str (Wh.decI x))] 9)).alloc (.cells #[.int .i64 n] 3)).cell? ⟨w.heap.size + 1, 0, none⟩ = some (.int .i64 n) := by go_simp
  refine (HAT.out _ _ _ b0 b1 (HTB.out.mono hal) (by simp; omega) (by simp)).mono ?_
  rintro e w2 ⟨rfl, hb2⟩
  have hbb := hal.trans (hb2.mono hal.size)
  clear hal b0 b1 hb2
  go_wp2
  go_ret2
  exact ⟨rfl, hbb⟩

set_option maxRecDepth 100000 in
set_option maxHeartbeats 1000000 in
theorem base_work (w : World) (pa pb : Addr) (x : Int) (n : Nat) (s : ByteArray) (ha : w.cell? pa = some (txt x)) (hb : w.cell? pb = some (.int .i64 n)) (hla : pa.block < w.heap.size) (hlb : pb.block < w.heap.size) (hx : Valid x) (hn : 2 ≤ n ∧ n ≤ 36)
    (HR : ∀ (w : World) (xa : Option Addr) (xc : Nat), Sl w (.slice xa (Wh.limbs x.natAbs).length xc) (Wh.limbs x.natAbs) → Calls Tryz.prog 228 #[.agg #[.int .i64 x.sign, .slice xa (Wh.limbs x.natAbs).length xc], .int .i64 n] w fun e w' => e = .returned (.string s) ∧ Below w.heap.size w w')
    (htab : Tab w) :
    Calls Tryz.prog 227 #[.pointer (some pa), .pointer (some pb)] w fun e w' => e = .returned (.string s) ∧ Below w.heap.size w w' := by
  have hn1' : decide (2 ≤ (n : Int)) = true := by simp; omega
  have hn2' : decide ((n : Int) ≤ 36) = true := by simp; omega
  clear hn
  have H1 := Lib.hid (read_any x hx w)
  have HRR := Lib.hid HR; clear HR
  have HTB := Lib.hid htab; clear htab
  unfold txt at *
  go_enter Tryz.func227, Tryz.ntmps227
  go_wp2_with fail
  refine H1.out.mono ?_
  rintro e w1 ⟨⟨v1, rfl, hn1⟩, hb1⟩
  obtain ⟨s1, rfl, k1⟩ := hn1
  obtain ⟨p1, c1, rfl⟩ := k1.len
  have hal : Below w1.heap.size w1 (w1.alloc (Obj.cells #[Value.int IntKind.i64 x.sign, Value.slice p1 (Wh.limbs x.natAbs).length c1] 92)) := (Below.refl _ _).alloc (Nat.le_refl _) _
  have hB := hb1.trans (hal.mono hb1.size)
  have kb := (hB.cell hlb).trans hb
  have ka : (w1.alloc (Obj.cells #[Value.int IntKind.i64 x.sign, Value.slice p1 (Wh.limbs x.natAbs).length c1] 92)).cell? ⟨w1.heap.size, 0, none⟩ = some (.int .i64 x.sign) := by go_simp
  have kc : (w1.alloc (Obj.cells #[Value.int IntKind.i64 x.sign, Value.slice p1 (Wh.limbs x.natAbs).length c1] 92)).cell? ⟨w1.heap.size, 1, none⟩ = some (.slice p1 (Wh.limbs x.natAbs).length c1) := by go_simp
  have hsz : (w1.alloc (Obj.cells #[Value.int IntKind.i64 x.sign, Value.slice p1 (Wh.limbs x.natAbs).length c1] 92)).heap.size = w1.heap.size + 1 := by simp
  have K1 := Lib.hid (k1.mono hal); have HB := Lib.hid hB
  have hpb : pb.block < w1.heap.size := Nat.lt_of_lt_of_le hlb hb1.size
  clear hal hB k1 hb1 ha hb
  go_wp2_with fail
  generalize hX : (w1.alloc (Obj.cells #[Value.int IntKind.i64 x.sign, Value.slice p1 (Wh.limbs x.natAbs).length c1] 92)) = V at *
  clear hX
  generalize hsy : x.sign = Y at *
  generalize hnl : (Wh.limbs x.natAbs).length = NL at *
  refine (demand_yes _ _).mono ?_
  rintro e W3 ⟨rfl, rfl⟩
  have HRW := Lib.hid (HRR.out V p1 c1 K1.out)
  clear HRR
  go_wp2_with fail
  refine HRW.out.mono ?_
  rintro e W5 ⟨rfl, hb5⟩
  have HB6 : Below w.heap.size w W5 := HB.out.trans (hb5.mono HB.out.size)
  go_wp2
  go_ret
  exact ⟨rfl, HB6⟩

set_option maxHeartbeats 400000 in
theorem Base_any (w : World) (x : Int) (n : Nat) (s : ByteArray) (hx : Valid x) (hn : 2 ≤ n ∧ n ≤ 36)
    (HR : ∀ (w : World) (xa : Option Addr) (xc : Nat), Sl w (.slice xa (Wh.limbs x.natAbs).length xc) (Wh.limbs x.natAbs) → Calls Tryz.prog 228 #[.agg #[.int .i64 x.sign, .slice xa (Wh.limbs x.natAbs).length xc], .int .i64 n] w fun e w' => e = .returned (.string s) ∧ Below w.heap.size w w') (htab : Tab w) :
    Calls Tryz.prog 142 #[txt x, .int .i64 n] w fun e w' => e = .returned (.tuple #[.string s, .int .i64 0]) ∧ Below w.heap.size w w' := by
  have hmf : ∀ (fn : Fn) (first cap : Array Value) (w : World), (Instr.makeFunc fn first cap).run Tryz.prog w = .ok (.func fn first cap) w := fun _ _ _ _ => rfl
  have hat := fun (w : World) (pa pb : Addr) (ka : w.cell? pa = some (txt x)) (kb : w.cell? pb = some (.int .i64 n)) (htab : Tab w) (ha : pa.block < w.heap.size) (hb : pb.block < w.heap.size) => attempt_good 227 #[.pointer (some pa), .pointer (some pb)] s w (fun w => by kernel_rfl) (fun w' hb' => base_work w' pa pb x n s ((hb'.cell ha).trans ka) ((hb'.cell hb).trans kb) (Nat.lt_of_lt_of_le ha hb'.size) (Nat.lt_of_lt_of_le hb hb'.size) hx hn HR (htab.mono hb'))
  have HAT := Lib.hid hat; clear hat
  have HTB := Lib.hid htab; clear htab
  clear hx hn HR
  unfold txt at *
  go_enter Tryz.func142, Tryz.ntmps142
  go_wp2_with fail
  have hal : Below w.heap.size w ((w.alloc (.cells #[.string (str (Wh.decI x))] 9)).alloc (.cells #[.int .i64 n] 3)) := ((Below.refl _ _).alloc (Nat.le_refl _) _).alloc (by simp) _
  have b0 : ((w.alloc (.cells #[.string (str (Wh.decI x))] 9)).alloc (.cells #[.int .i64 n] 3)).cell? ⟨w.heap.size, 0, none⟩ = some (.string (str (Wh.decI x))) := by go_simp
  have b1 : ((w.alloc (.cells #[.string (str (Wh.decI x))] 9)).alloc (.cells #[.int .i64 n] 3)).cell? ⟨w.heap.size + 1, 0, none⟩ = some (.int .i64 n) := by go_simp
  refine (HAT.out _ _ _ b0 b1 (HTB.out.mono hal) (by simp; omega) (by simp)).mono ?_
  rintro e w2 ⟨rfl, hb2⟩
  have hbb := hal.trans (hb2.mono hal.size)
  clear hal b0 b1 hb2
  go_wp2
  go_ret2
  exact ⟨rfl, hbb⟩
end Go.Proofs.YteggbenhffmijaaGreatDoor

/- WALKS: two of the chapter's examples: Root and Base. -/
namespace Go.Proofs.YteggbenhffmijaaGreatDoor
open Go.RowKit
theorem limbs_small (z : Int) (h : z.natAbs < 1000000000) : (Wh.limbs z.natAbs).length ≤ 1 := Wh.limbs_length_le (k := 1) (by rw [Wh.R_one]; exact h)
theorem fit9 (z : Int) (h : z.natAbs < 1000000000) : Fit z := Nat.lt_of_le_of_lt (limbs_small z h) (by decide)
theorem valid9 (z : Int) (h : z.natAbs < 1000000000) : Valid z := Nat.le_trans (Wh.decN_length_le (k := 9) (by decide) (Nat.lt_of_lt_of_le h (by decide))) (by decide)
theorem valid_99 : Valid 99 := valid9 _ (by decide)
theorem dec_99 : (Wh.decN (99 : Int).natAbs).length = 2 := Wh.decN_length_eq (k := 2) (by decide) (by decide) (by decide)
theorem root_fit_99 (r : Int) (h : r = 10 ∨ r = 9) : RootFit 99 1 2 r := by
  rcases h with rfl | rfl
  · refine ⟨by decide, Nat.le_trans (limbs_small _ (by decide)) (by decide), fun j hj => ?_, fit9 _ (by decide), fit9 _ (by decide), fit9 _ (by decide), Nat.le_trans (limbs_small _ (by decide)) (by decide), fit9 _ (by decide), by decide⟩
    rcases (by omega : j = 0 ∨ j = 1) with rfl | rfl <;> exact Nat.lt_of_le_of_lt (limbs_small _ (by decide)) (by decide)
  · refine ⟨by decide, Nat.le_trans (limbs_small _ (by decide)) (by decide), fun j hj => ?_, fit9 _ (by decide), fit9 _ (by decide), fit9 _ (by decide), Nat.le_trans (limbs_small _ (by decide)) (by decide), fit9 _ (by decide), by decide⟩
    rcases (by omega : j = 0 ∨ j = 1) with rfl | rfl <;> exact Nat.lt_of_le_of_lt (limbs_small _ (by decide)) (by decide)
theorem Root_99 (w : World) (htab : Tab w) :
    Calls Tryz.prog 143 #[txt 99, .int .i64 2] w fun e w' => e = .returned (.tuple #[txt 9, .int .i64 0]) ∧ Below w.heap.size w w' := by
  refine Root_any w 99 2 9 valid_99 (by decide) (by decide) (fun w xa xc hs ht => ?_) (valid9 _ (by decide)) htab
  refine (root_from w 99 1 2 1 rfl (fun r => r = 10 ∨ r = 9) xa xc hs (by decide) (Nat.le_trans (limbs_small _ (by decide)) (by decide)) (by decide) ht (valid9 _ (by decide)) (fit9 _ (by decide)) (by rw [dec_99]; decide) (by rw [dec_99]; decide) (by decide) ?_ (.inl (by decide)) root_fit_99 ?_ ?_).mono ?_
  · intro j hj
    rcases (by omega : j = 0 ∨ j = 1) with rfl | rfl <;> exact Nat.lt_of_le_of_lt (limbs_small _ (by decide)) (by decide)
  · intro r h _
    rcases h with rfl | rfl
    · exact .inr (by decide)
    · exact .inl (by decide)
  · intro r h w va vb ha hb
    rcases h with rfl | rfl
    · exact quo_short w va vb 99 _ ha hb (Nat.le_trans (limbs_small _ (by decide)) (by decide)) (by decide)
    · exact quo_short w va vb 99 _ ha hb (Nat.le_trans (limbs_small _ (by decide)) (by decide)) (by decide)
  · rintro e w' ⟨⟨r, v', h, hle, rfl, hn⟩, hb⟩
    rcases h with rfl | rfl
    · exact absurd hle (by decide)
    · exact ⟨⟨v', rfl, hn⟩, hb⟩
theorem Base_255 (w : World) (htab : Tab w) :
    Calls Tryz.prog 142 #[txt (-255), .int .i64 16] w fun e w' => e = .returned (.tuple #[.string (str [45, 102, 102]), .int .i64 0]) ∧ Below w.heap.size w w' := by
  have hd : Wh.dg 16 255 = [15, 15] := by rw [Wh.dg_pos (by decide) (by decide), Wh.dg_pos (by decide) (by decide), show 255 / 16 / 16 = 0 by decide, Wh.dg]; simp
  have hb : baseL 16 (-255) = [45, 102, 102] := by
    unfold baseL
    rw [show (-255 : Int).natAbs = 255 from rfl, hd]
    decide
  refine Base_any w (-255) 16 _ (valid9 _ (by decide)) (by decide) (fun w xa xc hs => ?_) htab
  have h := inbase_any w (-255) 16 xa _ xc hs (by decide) (by decide) (Nat.le_trans (limbs_small _ (by decide)) (by decide)) (by rw [show (-255 : Int).natAbs = 255 from rfl, hd]; decide)
  rw [hb] at h
  exact h
end Go.Proofs.YteggbenhffmijaaGreatDoor

/- WALKS, texts 8: attempt of []string, where the work ends well (made by tools/gen_attempt.py). -/
namespace Go.Proofs.YteggbenhffmijaaGreatDoor
open Go.RowKit
theorem catch_idleL (p : Addr) (w : World) :
    CallsD Tryz.prog 207 #[.pointer (some p)] .returning w fun e u' w' => e = .returned (.tuple #[]) ∧ u' = .returning ∧ w' = w := by
  refine callsD_of_wpS Tryz.func207 rfl fun c₀ cs hu => ?_
  apply wpS_seq
  apply wpS_region
  simp [wpOpsS, go_sem, recoverD, hu, Tryz.ntmps207, Exit.thenS]
  apply wpS_seq
  apply wpS_region
  simp [wpOpsS, go_sem, Array.replicate, Exit.thenS]
  refine wpS_cond (t := false) (by simp [Act.eval]) ?_
  simp only [Bool.false_eq_true, if_false]
  refine wpS_of_wp (wp_skip ?_)
  cases c₀
  simp_all [bodyPostS, results, Tryz.results207]
end Go.Proofs.YteggbenhffmijaaGreatDoor
