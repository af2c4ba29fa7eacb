
/-
  Is a message right? isOneOf, isWithin, isRow, isOp. Rounds, acts and messages held against one another.
-/
import Derived.Test.YteffpnjgchihpaaGreatDoorPB18
namespace Go.Proofs.YteffpnjgchihpaaGreatDoor
open Go.RowKit
set_option maxRecDepth 100000

def oneB (k last : Int) : Bool := decide (1 ≤ k) && decide (k ≤ last)
def wiB (n most : Int) : Bool := decide (0 ≤ n) && decide (n ≤ most)
def rowB (most : Int) (l : List Int) : Bool := l.all (wiB · most)

theorem isOne_any (k last : Int) (w : World) :
    Calls Tryz.prog 26 #[.int .i64 k, .int .i64 last] w fun e w' => e = .returned (.bool (oneB k last)) ∧ w' = w := by
  by_cases h : 1 ≤ k
  · go_enter Tryz.func26, Tryz.ntmps26
    go_wp2
    go_ret
    exact ⟨by simp [oneB, h], rfl⟩
  · have h' : decide (1 ≤ k) = false := by simpa using h
    go_enter Tryz.func26, Tryz.ntmps26
    go_wp2
    go_ret
    exact ⟨by simp [oneB, h'], rfl⟩
theorem isWithin_any (k last : Int) (w : World) :
    Calls Tryz.prog 27 #[.int .i64 k, .int .i64 last] w fun e w' => e = .returned (.bool (wiB k last)) ∧ w' = w := by
  by_cases h : 0 ≤ k
  · go_enter Tryz.func27, Tryz.ntmps27
    go_wp2
    go_ret
    exact ⟨by simp [wiB, h], rfl⟩
  · have h' : decide (0 ≤ k) = false := by simpa using h
    go_enter Tryz.func27, Tryz.ntmps27
    go_wp2
    go_ret
    exact ⟨by simp [wiB, h'], rfl⟩
theorem isOne_is {k last : Int} {v : Bool} (h : oneB k last = v) (w : World) :
    Calls Tryz.prog 26 #[.int .i64 k, .int .i64 last] w fun e w' => e = .returned (.bool v) ∧ w' = w := h ▸ isOne_any k last w
theorem isWithin_is {k last : Int} {v : Bool} (h : wiB k last = v) (w : World) :
    Calls Tryz.prog 27 #[.int .i64 k, .int .i64 last] w fun e w' => e = .returned (.bool v) ∧ w' = w := h ▸ isWithin_any k last w

theorem all_take_step {α : Type} {p : α → Bool} {l : List α} {k : Nat} {x : α} (hx : l[k]? = some x) (h : (l.take k).all p = true) (hp : p x = true) : (l.take (k + 1)).all p = true := by
  rw [List.take_add_one, hx]
  simp only [Option.toList_some, List.all_append, h, List.all_cons, hp, List.all_nil, Bool.and_self]
theorem all_not {α : Type} {p : α → Bool} {l : List α} {k : Nat} {x : α} (hx : l[k]? = some x) (hp : p x = false) : l.all p = false := by
  rw [List.all_eq_false]
  exact ⟨x, List.mem_of_getElem? hx, by simp [hp]⟩
theorem en_at {l : List Int} {k : Nat} (h : k < l.length) : l[k]? = some (en l k) := by simp [en, List.getD, List.getElem?_eq_getElem h]

theorem szInt (w : World) : (sizeOf 3).run Tryz.prog w = .ok 1 w := by kernel_rfl
theorem szRnd (w : World) : (sizeOf 27).run Tryz.prog w = .ok 18 w := by kernel_rfl
theorem idx_row {l : List Int} {k : Nat} (hl : l.length = 8) (hk : k < 8) (w : World) : (Instr.index 23 (.agg (cv l)) (.int .i64 (k : Int))).run Tryz.prog w = .ok (.int .i64 (en l k)) w := by
  have c1 := cv_get (a := l) (k := k) (by omega)
  have h8 : (0 : Int) ≤ (k : Int) ∧ (k : Int) < (8 : Nat) := by omega
  have ht : (k : Int).toNat * 1 = k := by omega
  simp only [Instr.index, asIntOf, Sem.run_bind, Sem.run_pure, Result.andThen_ok, run_underlying Tryz.underlying23]
  rw [if_pos h8]
  simp [Sem.run_bind, part, isAgg, run_underlying Tryz.underlying3, c1]
theorem idx_rnd {l : List Prn} (hs : shRs l) {k : Nat} {r : Prn} (hr : l[k]? = some r) (w : World) : (Instr.index 29 (.agg (rsv l)) (.int .i64 (k : Int))).run Tryz.prog w = .ok (.agg (rnv r)) w := by
  have hk : k < 8 := by have := (List.getElem?_eq_some_iff.1 hr).1; rw [hs.1] at this; exact this
  have h8 : (0 : Int) ≤ (k : Int) ∧ (k : Int) < (8 : Nat) := by omega
  have hx := rsv_ext hs hr
  simp only [Instr.index, asIntOf, Sem.run_bind, Sem.run_pure, Result.andThen_ok, run_underlying Tryz.underlying29]
  rw [if_pos h8]
  simp [Sem.run_bind, part, isAgg, run_underlying Tryz.underlying27, hx]

set_option maxHeartbeats 1000000 in
theorem isRow_any (l : List Int) (most : Int) (w : World) (hl : l.length = 8) :
    Calls Tryz.prog 30 #[.agg (cv l), .int .i64 most] w fun e w' => e = .returned (.bool (rowB most l)) ∧ Below w.heap.size w w' := by
  have h1 := (RowAt.new w (cv l) 23).in
  have hB := below_one w (.cells (cv l) 23)
  go_enter Tryz.func30, Tryz.ntmps30
  go_wp2_with (refine wpL_ld rfl _ _ rfl rfl h1 Tryz.underlying23 rfl (row_size hl) ?_)
  go_loopw [8] (fun i wr => ∃ k : Nat, i = .int .i64 (k : Int) ∧ k ≤ 8 ∧ wr = w.alloc (.cells (cv l) 23) ∧ Hid ((l.take k).all (wiB · most) = true)) (fun i _ => 8 - (intOf i).toNat)
  case atStart => exact ⟨0, rfl, by decide, rfl, rfl⟩
  case round =>
    obtain ⟨k, rfl, hk, rfl, ha⟩ := hrel
    by_cases h8 : k < 8
    · have h8' : (k : Int) < 8 := by omega
      have c1 := fun w => idx_row hl h8 w
      have hx := en_at (l := l) (k := k) (by omega)
      have HX : Hid (l[k]? = some (en l k)) := hx
      clear hx
      cases hw : wiB (en l k) most
      · have HW := hid_of' hw
        go_wp2_with (go_at_call 27; refine (isWithin_is HW.out _).mono ?_; rintro e w1 ⟨rfl, h0⟩; obtain rfl := h0.symm)
        go_ret
        exact ⟨by rw [show rowB most l = false from all_not HX.out HW.out]; rfl, hB⟩
      · have HW := hid_of' hw
        clear hw
        go_wp2_with (go_at_call 27; refine (isWithin_is HW.out _).mono ?_; rintro e w1 ⟨rfl, h0⟩; obtain rfl := h0.symm)
        go_roundw
        case rel => exact ⟨k + 1, by go_num, by omega, trivial, all_take_step HX.out ha.out HW.out⟩
        case measure => simp [intOf]; omega
    · have h8' : ¬ (k : Int) < 8 := by omega
      go_wp2
      go_ret
      exact ⟨by rw [show rowB most l = true from by have := ha.out; rwa [List.take_of_length_le (by omega)] at this]; rfl, hB⟩
theorem isRow_is {l : List Int} {most : Int} {v : Bool} (h : rowB most l = v) (w : World) (hl : l.length = 8) :
    Calls Tryz.prog 30 #[.agg (cv l), .int .i64 most] w fun e w' => e = .returned (.bool v) ∧ Below w.heap.size w w' := h ▸ isRow_any l most w hl
end Go.Proofs.YteffpnjgchihpaaGreatDoor
namespace Go.Proofs.YteffpnjgchihpaaGreatDoor
open Go.RowKit
set_option maxRecDepth 100000

section
variable {P : Program} (w : World)
theorem run_equalIn_arr (d : Nat) (t e : TypeId) (n s : Nat) (ht : P.underlying t = some (.array n e)) (hsz : ∀ w, (sizeOf e).run P w = .ok s w) (xs ys : Array Value) (eqs : Nat → Bool)
    (h : ∀ i, i < n → ∃ a b, (part e xs (i * s)).run P w = .ok a w ∧ (part e ys (i * s)).run P w = .ok b w ∧ (Op.equalIn (d + 1) e a b).run P w = .ok (eqs i) w) :
    (Op.equalIn (d + 2) t (.agg xs) (.agg ys)).run P w = .ok ((List.range n).all eqs) w := by
  rw [List.range_eq_range', Op.equalIn]
  simp only [Sem.run_bind, run_underlying ht, Result.andThen_ok, hsz, Std.Legacy.Range.forIn_eq_forIn_range', Std.Legacy.Range.size, Nat.sub_zero, Nat.add_sub_cancel, Nat.div_one]
  have hl : ∀ i ∈ List.range' 0 n 1, i < n := fun i hi => by simpa using (List.mem_range'_1.1 hi).2
  generalize List.range' 0 n 1 = l at hl ⊢
  induction l with
  | nil => simp
  | cons i l ih =>
    obtain ⟨a, b, px, py, pe⟩ := h i (hl i (by simp))
    simp only [List.forIn_cons, Sem.run_bind, px, py, pe, Result.andThen_ok, List.all_cons]
    cases hb : eqs i
    · simp
    · simp only [Bool.not_true, Bool.false_eq_true, if_false, Sem.run_pure, Result.andThen_ok, Bool.true_and]
      exact ih fun j hj => hl j (by simp [hj])
end

theorem eqIn_ck (d : Nat) (x y : List Int) (hx : x.length = 8) (hy : y.length = 8) (w : World) : (Op.equalIn (d + 2) 24 (.agg (cv x)) (.agg (cv y))).run Tryz.prog w = .ok (x == y) w :=
  run_equalIn_ints w d 24 3 8 Tryz.underlying24 Tryz.underlying3 szInt x y hx hy
theorem eqIn_row (d : Nat) (x y : List Int) (hx : x.length = 8) (hy : y.length = 8) (w : World) : (Op.equalIn (d + 2) 23 (.agg (cv x)) (.agg (cv y))).run Tryz.prog w = .ok (x == y) w :=
  run_equalIn_ints w d 23 3 8 Tryz.underlying23 Tryz.underlying3 szInt x y hx hy
theorem szCk (w : World) : (sizeOf 24).run Tryz.prog w = .ok 8 w := by kernel_rfl
theorem szRow (w : World) : (sizeOf 23).run Tryz.prog w = .ok 8 w := by kernel_rfl
theorem szOp (w : World) : (sizeOf 58).run Tryz.prog w = .ok 4 w := by kernel_rfl
theorem cv_sz8 {x : List Int} (h : x.length = 8) : (cv x).size = 8 := by rw [cv_size, h]
theorem part_int {cs : Array Value} {o : Nat} {v : Value} (h : cs[o]? = some v) (w : World) : (part 3 cs o).run Tryz.prog w = .ok v w := by
  simp [part, isAgg, run_underlying Tryz.underlying3, h]
theorem part_ck {cs : Array Value} {o : Nat} {x : List Int} (hx : x.length = 8) (hc : o + 8 ≤ cs.size) (h : ∀ j v, (cv x)[j]? = some v → cs[o + j]? = some v) (w : World) : (part 24 cs o).run Tryz.prog w = .ok (.agg (cv x)) w := by
  simp [part, isAgg, run_underlying Tryz.underlying24, ext_of (cv_sz8 hx) hc h]
theorem part_row {cs : Array Value} {o : Nat} {x : List Int} (hx : x.length = 8) (hc : o + 8 ≤ cs.size) (h : ∀ j v, (cv x)[j]? = some v → cs[o + j]? = some v) (w : World) : (part 23 cs o).run Tryz.prog w = .ok (.agg (cv x)) w := by
  simp [part, isAgg, run_underlying Tryz.underlying23, ext_of (cv_sz8 hx) hc h]
theorem rnv_sz {r : Prn} (h : shR r) : (rnv r).size = 18 := by simp [rnv, rnl_len h]
theorem acv_sz {a : Pac} (h : shA a) : (acv a).size = 13 := by simp [acv, acl_len h]
theorem beq_prn (a b : Prn) : (a == b) = (a.1 == b.1 && (a.2.1 == b.2.1 && (a.2.2.1 == b.2.2.1 && a.2.2.2 == b.2.2.2))) := rfl

theorem eqIn_rnd (d : Nat) {a b : Prn} (ha : shR a) (hb : shR b) (w : World) : (Op.equalIn (d + 4) 27 (.agg (rnv a)) (.agg (rnv b))).run Tryz.prog w = .ok (a == b) w := by
  rw [run_equalIn_struct w (d + 3) 27 _ _ (by kernel_rfl) (by kernel_rfl), beq_prn]
  have p1 := fun w => part_int (rnv_n a) w
  have p2 := fun w => part_int (rnv_n b) w
  have p3 := fun w => part_ck (o := 1) ha.1 (by rw [rnv_sz ha]; decide) (rnv_cut a) w
  have p4 := fun w => part_ck (o := 1) hb.1 (by rw [rnv_sz hb]; decide) (rnv_cut b) w
  have p5 := fun w => part_row (o := 9) ha.2 (by rw [rnv_sz ha]; decide) (rnv_votes ha) w
  have p6 := fun w => part_row (o := 9) hb.2 (by rw [rnv_sz hb]; decide) (rnv_votes hb) w
  have p7 := fun w => part_int (rnv_dec ha) w
  have p8 := fun w => part_int (rnv_dec hb) w
  have q1 := fun w => run_equalIn_int (P := Tryz.prog) w (d + 2) 3 .i64 .i64 a.1 b.1 Tryz.underlying3
  have q2 := fun w => eqIn_ck (d + 1) a.2.1 b.2.1 ha.1 hb.1 w
  have q3 := fun w => eqIn_row (d + 1) a.2.2.1 b.2.2.1 ha.2 hb.2 w
  have q4 := fun w => run_equalIn_int (P := Tryz.prog) w (d + 2) 3 .i64 .i64 a.2.2.2 b.2.2.2 Tryz.underlying3
  simp only [Program.fieldsOf, Tryz.underlying27, Op.eqFields]
  cases h1 : (a.1 == b.1) <;> cases h2 : (a.2.1 == b.2.1) <;> cases h3 : (a.2.2.1 == b.2.2.1) <;> cases h4 : (a.2.2.2 == b.2.2.2) <;> simp [Sem.run_bind, p1, p2, p3, p4, p5, p6, p7, p8, q1, q2, q3, q4, h1, h2, h3, h4]

theorem all_range_beq {α : Type} [BEq α] (z : α) : ∀ (xs ys : List α), xs.length = ys.length → ((List.range xs.length).all fun i => xs.getD i z == ys.getD i z) = (xs == ys)
  | [], [], _ => rfl
  | x :: xs, y :: ys, h => by
    have ih := all_range_beq z xs ys (by simpa using h)
    rw [List.length_cons, List.range_succ_eq_map, List.all_cons, List.all_map]
    simp only [List.getD_cons_zero, Function.comp_def, List.getD_cons_succ, ih]
    simp [List.cons_beq_cons]
  | [], _ :: _, h => by simp at h
  | _ :: _, [], h => by simp at h
theorem getD_at {α : Type} {l : List α} {i : Nat} (z : α) (h : i < l.length) : l[i]? = some (l.getD i z) := by simp [List.getD, List.getElem?_eq_getElem h]
theorem part_rnd {l : List Prn} (hs : shRs l) {i : Nat} {r : Prn} (hr : l[i]? = some r) (w : World) : (part 27 (rsv l) (i * 18)).run Tryz.prog w = .ok (.agg (rnv r)) w := by
  simp [part, isAgg, run_underlying Tryz.underlying27, rsv_ext hs hr]
theorem eqIn_rnds (d : Nat) {l m : List Prn} (hl : shRs l) (hm : shRs m) (w : World) : (Op.equalIn (d + 5) 29 (.agg (rsv l)) (.agg (rsv m))).run Tryz.prog w = .ok (l == m) w := by
  rw [← all_range_beq zeroR l m (by rw [hl.1, hm.1]), hl.1]
  refine run_equalIn_arr w (d + 3) 29 27 8 18 Tryz.underlying29 szRnd _ _ _ fun i hi => ?_
  have h1 := getD_at (l := l) zeroR (i := i) (by rw [hl.1]; exact hi)
  have h2 := getD_at (l := m) zeroR (i := i) (by rw [hm.1]; exact hi)
  exact ⟨_, _, part_rnd hl h1 w, part_rnd hm h2 w, eqIn_rnd d (hl.2 _ (List.mem_of_getElem? h1)) (hm.2 _ (List.mem_of_getElem? h2)) w⟩
theorem part_i32 {cs : Array Value} {o : Nat} {v : Value} (h : cs[o]? = some v) (w : World) : (part 21 cs o).run Tryz.prog w = .ok v w := by
  simp [part, isAgg, run_underlying Tryz.underlying21, h]
theorem eqIn_op (d : Nat) (a b : Pop) (w : World) : (Op.equalIn (d + 2) 58 (.agg (opv a)) (.agg (opv b))).run Tryz.prog w = .ok (a == b) w := by
  rw [run_equalIn_struct w (d + 1) 58 _ _ (by kernel_rfl) (by kernel_rfl), show (a == b) = (a.1 == b.1 && (a.2.1 == b.2.1 && (a.2.2.1 == b.2.2.1 && a.2.2.2 == b.2.2.2))) from rfl]
  have p1 := fun (a : Pop) w => part_int (cs := opv a) (o := 0) (v := .int .i64 a.1) rfl w
  have p2 := fun (a : Pop) w => part_int (cs := opv a) (o := 1) (v := .int .i64 a.2.2.1) rfl w
  have p3 := fun (a : Pop) w => part_i32 (cs := opv a) (o := 2) (v := .int .i32 a.2.2.2) rfl w
  have p4 := fun (a : Pop) w => part_int (cs := opv a) (o := 3) (v := .int .i64 a.2.1) rfl w
  have q1 := fun x y w => run_equalIn_int (P := Tryz.prog) w d 3 .i64 .i64 x y Tryz.underlying3
  have q2 := fun x y w => run_equalIn_int (P := Tryz.prog) w d 21 .i32 .i32 x y Tryz.underlying21
  simp only [Program.fieldsOf, Tryz.underlying58, Op.eqFields]
  cases h1 : (a.1 == b.1) <;> cases h2 : (a.2.1 == b.2.1) <;> cases h3 : (a.2.2.1 == b.2.2.1) <;> cases h4 : (a.2.2.2 == b.2.2.2) <;> simp [Sem.run_bind, p1, p2, p3, p4, q1, q2, h1, h2, h3, h4]
theorem part_op (a : Pac) (ha : shA a) (w : World) : (part 58 (acv a) 0).run Tryz.prog w = .ok (.agg (opv a.1)) w := by
  have h := ext_of (cs := acv a) (ds := opv a.1) (a := 0) (n := 4) rfl (by rw [acv_sz ha]; decide) (acv_op a)
  simp [part, isAgg, run_underlying Tryz.underlying58, h]
theorem eqIn_act (d : Nat) {a b : Pac} (ha : shA a) (hb : shA b) (w : World) : (Op.equalIn (d + 4) 60 (.agg (acv a)) (.agg (acv b))).run Tryz.prog w = .ok (a == b) w := by
  rw [run_equalIn_struct w (d + 3) 60 _ _ (by kernel_rfl) (by kernel_rfl), show (a == b) = (a.1 == b.1 && (a.2.1 == b.2.1 && a.2.2 == b.2.2)) from rfl]
  have p1 := fun w => part_op a ha w
  have p2 := fun w => part_op b hb w
  have p3 := fun w => part_int (acv_num a) w
  have p4 := fun w => part_int (acv_num b) w
  have p5 := fun w => part_ck (o := 5) ha (by rw [acv_sz ha]; decide) (acv_ck a) w
  have p6 := fun w => part_ck (o := 5) hb (by rw [acv_sz hb]; decide) (acv_ck b) w
  have q1 := fun w => eqIn_op (d + 1) a.1 b.1 w
  have q2 := fun w => run_equalIn_int (P := Tryz.prog) w (d + 2) 3 .i64 .i64 a.2.1 b.2.1 Tryz.underlying3
  have q3 := fun w => eqIn_ck (d + 1) a.2.2 b.2.2 ha hb w
  simp only [Program.fieldsOf, Tryz.underlying60, Op.eqFields]
  cases h1 : (a.1 == b.1) <;> cases h2 : (a.2.1 == b.2.1) <;> cases h3 : (a.2.2 == b.2.2) <;> simp [Sem.run_bind, p1, p2, p3, p4, p5, p6, q1, q2, q3, h1, h2, h3]
theorem ck_guard : Tryz.prog.eqGuardType Tryz.prog.depth 24 = false := by kernel_rfl
theorem rnd_guard : Tryz.prog.eqGuardType Tryz.prog.depth 27 = false := by kernel_rfl
theorem rnds_guard : Tryz.prog.eqGuardType Tryz.prog.depth 29 = false := by kernel_rfl
theorem act_guard : Tryz.prog.eqGuardType Tryz.prog.depth 60 = false := by kernel_rfl
theorem quiet_ck {o : Oper} {a : Act} {C : World → Prop} {K : Act → Prop} {x : List Int} (hx : x.length = 8) (y : Operand) (ho : o.op = .load 24 y) {b off : Nat} (hy : a.eval y = .pointer (some ⟨b, off, none⟩)) (h : ∀ w, C w → CsIn b off (cv x) w) (k : K (a.put o.dst (.agg (cv x)))) : o.quiet Tryz.prog a C K :=
  quiet_load_in _ y ho hy h Tryz.underlying24 rfl (ck_size hx) k
theorem ld_ck {ops : Array Oper} {rest : List Oper} {o : Oper} {a : Act} {w : World} {Q : Exit → Act → World → Prop} {x : List Int} (hx : x.length = 8) (hgd : o.guard = none) (y : Operand) (ho : o.op = .load 24 y) {b off : Nat} (hy : a.eval y = .pointer (some ⟨b, off, none⟩)) (h : CsIn b off (cv x) w) (k : wpList Tryz.prog ops Q rest (a.put o.dst (.agg (cv x))) w) : wpList Tryz.prog ops Q (o :: rest) a w :=
  wpL_ld hgd _ y ho hy h Tryz.underlying24 rfl (ck_size hx) k
theorem quiet_row {o : Oper} {a : Act} {C : World → Prop} {K : Act → Prop} {x : List Int} (hx : x.length = 8) (y : Operand) (ho : o.op = .load 23 y) {b off : Nat} (hy : a.eval y = .pointer (some ⟨b, off, none⟩)) (h : ∀ w, C w → CsIn b off (cv x) w) (k : K (a.put o.dst (.agg (cv x)))) : o.quiet Tryz.prog a C K :=
  quiet_load_in _ y ho hy h Tryz.underlying23 rfl (row_size hx) k
theorem ld_row {ops : Array Oper} {rest : List Oper} {o : Oper} {a : Act} {w : World} {Q : Exit → Act → World → Prop} {x : List Int} (hx : x.length = 8) (hgd : o.guard = none) (y : Operand) (ho : o.op = .load 23 y) {b off : Nat} (hy : a.eval y = .pointer (some ⟨b, off, none⟩)) (h : CsIn b off (cv x) w) (k : wpList Tryz.prog ops Q rest (a.put o.dst (.agg (cv x))) w) : wpList Tryz.prog ops Q (o :: rest) a w :=
  wpL_ld hgd _ y ho hy h Tryz.underlying23 rfl (row_size hx) k
theorem quiet_rnd {o : Oper} {a : Act} {C : World → Prop} {K : Act → Prop} {r : Prn} (hx : shR r) (y : Operand) (ho : o.op = .load 27 y) {b off : Nat} (hy : a.eval y = .pointer (some ⟨b, off, none⟩)) (h : ∀ w, C w → CsIn b off (rnv r) w) (k : K (a.put o.dst (.agg (rnv r)))) : o.quiet Tryz.prog a C K :=
  quiet_load_in _ y ho hy h Tryz.underlying27 rfl (rnv_size hx) k
theorem ld_rnd {ops : Array Oper} {rest : List Oper} {o : Oper} {a : Act} {w : World} {Q : Exit → Act → World → Prop} {r : Prn} (hx : shR r) (hgd : o.guard = none) (y : Operand) (ho : o.op = .load 27 y) {b off : Nat} (hy : a.eval y = .pointer (some ⟨b, off, none⟩)) (h : CsIn b off (rnv r) w) (k : wpList Tryz.prog ops Q rest (a.put o.dst (.agg (rnv r))) w) : wpList Tryz.prog ops Q (o :: rest) a w :=
  wpL_ld hgd _ y ho hy h Tryz.underlying27 rfl (rnv_size hx) k
theorem quiet_rnds {o : Oper} {a : Act} {C : World → Prop} {K : Act → Prop} {l : List Prn} (hx : shRs l) (y : Operand) (ho : o.op = .load 29 y) {b off : Nat} (hy : a.eval y = .pointer (some ⟨b, off, none⟩)) (h : ∀ w, C w → CsIn b off (rsv l) w) (k : K (a.put o.dst (.agg (rsv l)))) : o.quiet Tryz.prog a C K :=
  quiet_load_in _ y ho hy h Tryz.underlying29 rfl (rsv_size hx) k
theorem ld_rnds {ops : Array Oper} {rest : List Oper} {o : Oper} {a : Act} {w : World} {Q : Exit → Act → World → Prop} {l : List Prn} (hx : shRs l) (hgd : o.guard = none) (y : Operand) (ho : o.op = .load 29 y) {b off : Nat} (hy : a.eval y = .pointer (some ⟨b, off, none⟩)) (h : CsIn b off (rsv l) w) (k : wpList Tryz.prog ops Q rest (a.put o.dst (.agg (rsv l))) w) : wpList Tryz.prog ops Q (o :: rest) a w :=
  wpL_ld hgd _ y ho hy h Tryz.underlying29 rfl (rsv_size hx) k
theorem quiet_ms {o : Oper} {a : Act} {C : World → Prop} {K : Act → Prop} {m : Pms} {s : Value} (hx : shM m) (y : Operand) (ho : o.op = .load 31 y) {b off : Nat} (hy : a.eval y = .pointer (some ⟨b, off, none⟩)) (h : ∀ w, C w → CsIn b off (mv m s) w) (k : K (a.put o.dst (.agg (mv m s)))) : o.quiet Tryz.prog a C K :=
  quiet_load_in _ y ho hy h Tryz.underlying31 rfl (mv_size hx) k
theorem ld_ms {ops : Array Oper} {rest : List Oper} {o : Oper} {a : Act} {w : World} {Q : Exit → Act → World → Prop} {m : Pms} {s : Value} (hx : shM m) (hgd : o.guard = none) (y : Operand) (ho : o.op = .load 31 y) {b off : Nat} (hy : a.eval y = .pointer (some ⟨b, off, none⟩)) (h : CsIn b off (mv m s) w) (k : wpList Tryz.prog ops Q rest (a.put o.dst (.agg (mv m s))) w) : wpList Tryz.prog ops Q (o :: rest) a w :=
  wpL_ld hgd _ y ho hy h Tryz.underlying31 rfl (mv_size hx) k
theorem quiet_act {o : Oper} {a : Act} {C : World → Prop} {K : Act → Prop} {a0 : Pac} (hx : shA a0) (y : Operand) (ho : o.op = .load 60 y) {b off : Nat} (hy : a.eval y = .pointer (some ⟨b, off, none⟩)) (h : ∀ w, C w → CsIn b off (acv a0) w) (k : K (a.put o.dst (.agg (acv a0)))) : o.quiet Tryz.prog a C K :=
  quiet_load_in _ y ho hy h Tryz.underlying60 rfl (acv_size hx) k
theorem ld_act {ops : Array Oper} {rest : List Oper} {o : Oper} {a : Act} {w : World} {Q : Exit → Act → World → Prop} {a0 : Pac} (hx : shA a0) (hgd : o.guard = none) (y : Operand) (ho : o.op = .load 60 y) {b off : Nat} (hy : a.eval y = .pointer (some ⟨b, off, none⟩)) (h : CsIn b off (acv a0) w) (k : wpList Tryz.prog ops Q rest (a.put o.dst (.agg (acv a0))) w) : wpList Tryz.prog ops Q (o :: rest) a w :=
  wpL_ld hgd _ y ho hy h Tryz.underlying60 rfl (acv_size hx) k
theorem quiet_op {o : Oper} {a : Act} {C : World → Prop} {K : Act → Prop} {a0 : Pop} (y : Operand) (ho : o.op = .load 58 y) {b off : Nat} (hy : a.eval y = .pointer (some ⟨b, off, none⟩)) (h : ∀ w, C w → CsIn b off (opv a0) w) (k : K (a.put o.dst (.agg (opv a0)))) : o.quiet Tryz.prog a C K :=
  quiet_load_in _ y ho hy h Tryz.underlying58 rfl (opv_size a0) k
theorem ld_op {ops : Array Oper} {rest : List Oper} {o : Oper} {a : Act} {w : World} {Q : Exit → Act → World → Prop} {a0 : Pop} (hgd : o.guard = none) (y : Operand) (ho : o.op = .load 58 y) {b off : Nat} (hy : a.eval y = .pointer (some ⟨b, off, none⟩)) (h : CsIn b off (opv a0) w) (k : wpList Tryz.prog ops Q rest (a.put o.dst (.agg (opv a0))) w) : wpList Tryz.prog ops Q (o :: rest) a w :=
  wpL_ld hgd _ y ho hy h Tryz.underlying58 rfl (opv_size a0) k
end Go.Proofs.YteffpnjgchihpaaGreatDoor
