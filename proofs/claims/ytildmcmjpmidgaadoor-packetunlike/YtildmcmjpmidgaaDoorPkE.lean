
/-
  Rounds, acts and messages held against one another.
-/
import Derived.Test.YtildmcmjpmidgaaDoorPkR
namespace Go.Proofs.YtildmcmjpmidgaaDoor
open Go.RowKit
set_option maxRecDepth 100000

section
variable {P : Program} (w : World)
theorem run_equalIn_arr (d : Nat) (t e : TypeId) (n s : Nat) (ht : P.underlying t = some (.array n e)) (hsz : ∀ w, (sizeOf e).run P w = .ok s w) (xs ys : Array Value) (eqs : Nat → Bool)
    (h : ∀ i, i < n → ∃ a b, (part e xs (i * s)).run P w = .ok a w ∧ (part e ys (i * s)).run P w = .ok b w ∧ (Op.equalIn (d + 1) e a b).run P w = .ok (eqs i) w) :
    (Op.equalIn (d + 2) t (.agg xs) (.agg ys)).run P w = .ok ((List.range n).all eqs) w := by
  rw [List.range_eq_range', Op.equalIn]
  simp only [Sem.run_bind, run_underlying ht, Result.andThen_ok, hsz, Std.Legacy.Range.forIn_eq_forIn_range', Std.Legacy.Range.size, Nat.sub_zero, Nat.add_sub_cancel, Nat.div_one]
  have hl : ∀ i ∈ List.range' 0 n 1, i < n := fun i hi => by simpa using (List.mem_range'_1.1 hi).2
  generalize List.range' 0 n 1 = l at hl ⊢
  induction l with
  | nil => simp
  | cons i l ih =>
    obtain ⟨a, b, px, py, pe⟩ := h i (hl i (by simp))
    simp only [List.forIn_cons, Sem.run_bind, px, py, pe, Result.andThen_ok, List.all_cons]
    cases hb : eqs i
    · simp
    · simp only [Bool.not_true, Bool.false_eq_true, if_false, Sem.run_pure, Result.andThen_ok, Bool.true_and]
      exact ih fun j hj => hl j (by simp [hj])
end

theorem eqIn_ck (d : Nat) (x y : List Int) (hx : x.length = 8) (hy : y.length = 8) (w : World) : (Op.equalIn (d + 2) 23 (.agg (cv x)) (.agg (cv y))).run Tryd.prog w = .ok (x == y) w :=
  run_equalIn_ints w d 23 3 8 Tryd.underlying23 Tryd.underlying3 szInt x y hx hy
theorem eqIn_row (d : Nat) (x y : List Int) (hx : x.length = 8) (hy : y.length = 8) (w : World) : (Op.equalIn (d + 2) 22 (.agg (cv x)) (.agg (cv y))).run Tryd.prog w = .ok (x == y) w :=
  run_equalIn_ints w d 22 3 8 Tryd.underlying22 Tryd.underlying3 szInt x y hx hy
theorem szCk (w : World) : (sizeOf 23).run Tryd.prog w = .ok 8 w := by kernel_rfl
theorem szRow (w : World) : (sizeOf 22).run Tryd.prog w = .ok 8 w := by kernel_rfl
theorem szOp (w : World) : (sizeOf 63).run Tryd.prog w = .ok 4 w := by kernel_rfl
theorem cv_sz8 {x : List Int} (h : x.length = 8) : (cv x).size = 8 := by rw [cv_size, h]
theorem part_int {cs : Array Value} {o : Nat} {v : Value} (h : cs[o]? = some v) (w : World) : (part 3 cs o).run Tryd.prog w = .ok v w := by
  simp [part, isAgg, run_underlying Tryd.underlying3, h]
theorem part_ck {cs : Array Value} {o : Nat} {x : List Int} (hx : x.length = 8) (hc : o + 8 ≤ cs.size) (h : ∀ j v, (cv x)[j]? = some v → cs[o + j]? = some v) (w : World) : (part 23 cs o).run Tryd.prog w = .ok (.agg (cv x)) w := by
  simp [part, isAgg, run_underlying Tryd.underlying23, ext_of (cv_sz8 hx) hc h]
theorem part_row {cs : Array Value} {o : Nat} {x : List Int} (hx : x.length = 8) (hc : o + 8 ≤ cs.size) (h : ∀ j v, (cv x)[j]? = some v → cs[o + j]? = some v) (w : World) : (part 22 cs o).run Tryd.prog w = .ok (.agg (cv x)) w := by
  simp [part, isAgg, run_underlying Tryd.underlying22, ext_of (cv_sz8 hx) hc h]
theorem rnv_sz {r : Prn} (h : shR r) : (rnv r).size = 18 := by simp [rnv, rnl_len h]
theorem acv_sz {a : Pac} (h : shA a) : (acv a).size = 13 := by simp [acv, acl_len h]
theorem beq_prn (a b : Prn) : (a == b) = (a.1 == b.1 && (a.2.1 == b.2.1 && (a.2.2.1 == b.2.2.1 && a.2.2.2 == b.2.2.2))) := rfl

theorem eqIn_rnd (d : Nat) {a b : Prn} (ha : shR a) (hb : shR b) (w : World) : (Op.equalIn (d + 4) 26 (.agg (rnv a)) (.agg (rnv b))).run Tryd.prog w = .ok (a == b) w := by
  rw [run_equalIn_struct w (d + 3) 26 _ _ (by kernel_rfl) (by kernel_rfl), beq_prn]
  have p1 := fun w => part_int (rnv_n a) w
  have p2 := fun w => part_int (rnv_n b) w
  have p3 := fun w => part_ck (o := 1) ha.1 (by rw [rnv_sz ha]; decide) (rnv_cut a) w
  have p4 := fun w => part_ck (o := 1) hb.1 (by rw [rnv_sz hb]; decide) (rnv_cut b) w
  have p5 := fun w => part_row (o := 9) ha.2 (by rw [rnv_sz ha]; decide) (rnv_votes ha) w
  have p6 := fun w => part_row (o := 9) hb.2 (by rw [rnv_sz hb]; decide) (rnv_votes hb) w
  have p7 := fun w => part_int (rnv_dec ha) w
  have p8 := fun w => part_int (rnv_dec hb) w
  have q1 := fun w => run_equalIn_int (P := Tryd.prog) w (d + 2) 3 .i64 .i64 a.1 b.1 Tryd.underlying3
  have q2 := fun w => eqIn_ck (d + 1) a.2.1 b.2.1 ha.1 hb.1 w
  have q3 := fun w => eqIn_row (d + 1) a.2.2.1 b.2.2.1 ha.2 hb.2 w
  have q4 := fun w => run_equalIn_int (P := Tryd.prog) w (d + 2) 3 .i64 .i64 a.2.2.2 b.2.2.2 Tryd.underlying3
  simp only [Program.fieldsOf, Tryd.underlying26, Op.eqFields]
  cases h1 : (a.1 == b.1) <;> cases h2 : (a.2.1 == b.2.1) <;> cases h3 : (a.2.2.1 == b.2.2.1) <;> cases h4 : (a.2.2.2 == b.2.2.2) <;> simp [Sem.run_bind, p1, p2, p3, p4, p5, p6, p7, p8, q1, q2, q3, q4, h1, h2, h3, h4]

theorem all_range_beq {α : Type} [BEq α] (z : α) : ∀ (xs ys : List α), xs.length = ys.length → ((List.range xs.length).all fun i => xs.getD i z == ys.getD i z) = (xs == ys)
  | [], [], _ => rfl
  | x :: xs, y :: ys, h => by
    have ih := all_range_beq z xs ys (by simpa using h)
    rw [List.length_cons, List.range_succ_eq_map, List.all_cons, List.all_map]
    simp only [List.getD_cons_zero, Function.comp_def, List.getD_cons_succ, ih]
    simp [List.cons_beq_cons]
  | [], _ :: _, h => by simp at h
  | _ :: _, [], h => by simp at h
theorem getD_at {α : Type} {l : List α} {i : Nat} (z : α) (h : i < l.length) : l[i]? = some (l.getD i z) := by simp [List.getD, List.getElem?_eq_getElem h]
theorem part_rnd {l : List Prn} (hs : shRs l) {i : Nat} {r : Prn} (hr : l[i]? = some r) (w : World) : (part 26 (rsv l) (i * 18)).run Tryd.prog w = .ok (.agg (rnv r)) w := by
  simp [part, isAgg, run_underlying Tryd.underlying26, rsv_ext hs hr]
theorem eqIn_rnds (d : Nat) {l m : List Prn} (hl : shRs l) (hm : shRs m) (w : World) : (Op.equalIn (d + 5) 28 (.agg (rsv l)) (.agg (rsv m))).run Tryd.prog w = .ok (l == m) w := by
  rw [← all_range_beq zeroR l m (by rw [hl.1, hm.1]), hl.1]
  refine run_equalIn_arr w (d + 3) 28 26 8 18 Tryd.underlying28 szRnd _ _ _ fun i hi => ?_
  have h1 := getD_at (l := l) zeroR (i := i) (by rw [hl.1]; exact hi)
  have h2 := getD_at (l := m) zeroR (i := i) (by rw [hm.1]; exact hi)
  exact ⟨_, _, part_rnd hl h1 w, part_rnd hm h2 w, eqIn_rnd d (hl.2 _ (List.mem_of_getElem? h1)) (hm.2 _ (List.mem_of_getElem? h2)) w⟩
theorem part_i32 {cs : Array Value} {o : Nat} {v : Value} (h : cs[o]? = some v) (w : World) : (part 21 cs o).run Tryd.prog w = .ok v w := by
  simp [part, isAgg, run_underlying Tryd.underlying21, h]
theorem eqIn_op (d : Nat) (a b : Pop) (w : World) : (Op.equalIn (d + 2) 63 (.agg (opv a)) (.agg (opv b))).run Tryd.prog w = .ok (a == b) w := by
  rw [run_equalIn_struct w (d + 1) 63 _ _ (by kernel_rfl) (by kernel_rfl), show (a == b) = (a.1 == b.1 && (a.2.1 == b.2.1 && (a.2.2.1 == b.2.2.1 && a.2.2.2 == b.2.2.2))) from rfl]
  have p1 := fun (a : Pop) w => part_int (cs := opv a) (o := 0) (v := .int .i64 a.1) rfl w
  have p2 := fun (a : Pop) w => part_int (cs := opv a) (o := 1) (v := .int .i64 a.2.2.1) rfl w
  have p3 := fun (a : Pop) w => part_i32 (cs := opv a) (o := 2) (v := .int .i32 a.2.2.2) rfl w
  have p4 := fun (a : Pop) w => part_int (cs := opv a) (o := 3) (v := .int .i64 a.2.1) rfl w
  have q1 := fun x y w => run_equalIn_int (P := Tryd.prog) w d 3 .i64 .i64 x y Tryd.underlying3
  have q2 := fun x y w => run_equalIn_int (P := Tryd.prog) w d 21 .i32 .i32 x y Tryd.underlying21
  simp only [Program.fieldsOf, Tryd.underlying63, Op.eqFields]
  cases h1 : (a.1 == b.1) <;> cases h2 : (a.2.1 == b.2.1) <;> cases h3 : (a.2.2.1 == b.2.2.1) <;> cases h4 : (a.2.2.2 == b.2.2.2) <;> simp [Sem.run_bind, p1, p2, p3, p4, q1, q2, h1, h2, h3, h4]
theorem part_op (a : Pac) (ha : shA a) (w : World) : (part 63 (acv a) 0).run Tryd.prog w = .ok (.agg (opv a.1)) w := by
  have h := ext_of (cs := acv a) (ds := opv a.1) (a := 0) (n := 4) rfl (by rw [acv_sz ha]; decide) (acv_op a)
  simp [part, isAgg, run_underlying Tryd.underlying63, h]
theorem eqIn_act (d : Nat) {a b : Pac} (ha : shA a) (hb : shA b) (w : World) : (Op.equalIn (d + 4) 65 (.agg (acv a)) (.agg (acv b))).run Tryd.prog w = .ok (a == b) w := by
  rw [run_equalIn_struct w (d + 3) 65 _ _ (by kernel_rfl) (by kernel_rfl), show (a == b) = (a.1 == b.1 && (a.2.1 == b.2.1 && a.2.2 == b.2.2)) from rfl]
  have p1 := fun w => part_op a ha w
  have p2 := fun w => part_op b hb w
  have p3 := fun w => part_int (acv_num a) w
  have p4 := fun w => part_int (acv_num b) w
  have p5 := fun w => part_ck (o := 5) ha (by rw [acv_sz ha]; decide) (acv_ck a) w
  have p6 := fun w => part_ck (o := 5) hb (by rw [acv_sz hb]; decide) (acv_ck b) w
  have q1 := fun w => eqIn_op (d + 1) a.1 b.1 w
  have q2 := fun w => run_equalIn_int (P := Tryd.prog) w (d + 2) 3 .i64 .i64 a.2.1 b.2.1 Tryd.underlying3
  have q3 := fun w => eqIn_ck (d + 1) a.2.2 b.2.2 ha hb w
  simp only [Program.fieldsOf, Tryd.underlying65, Op.eqFields]
  cases h1 : (a.1 == b.1) <;> cases h2 : (a.2.1 == b.2.1) <;> cases h3 : (a.2.2 == b.2.2) <;> simp [Sem.run_bind, p1, p2, p3, p4, p5, p6, q1, q2, q3, h1, h2, h3]
theorem ck_guard : Tryd.prog.eqGuardType Tryd.prog.depth 23 = false := by kernel_rfl
theorem rnd_guard : Tryd.prog.eqGuardType Tryd.prog.depth 26 = false := by kernel_rfl
theorem rnds_guard : Tryd.prog.eqGuardType Tryd.prog.depth 28 = false := by kernel_rfl
theorem act_guard : Tryd.prog.eqGuardType Tryd.prog.depth 65 = false := by kernel_rfl
theorem quiet_ck {o : Oper} {a : Act} {C : World → Prop} {K : Act → Prop} {x : List Int} (hx : x.length = 8) (y : Operand) (ho : o.op = .load 23 y) {b off : Nat} (hy : a.eval y = .pointer (some ⟨b, off, none⟩)) (h : ∀ w, C w → CsIn b off (cv x) w) (k : K (a.put o.dst (.agg (cv x)))) : o.quiet Tryd.prog a C K :=
  quiet_load_in _ y ho hy h Tryd.underlying23 rfl (ck_size hx) k
theorem ld_ck {ops : Array Oper} {rest : List Oper} {o : Oper} {a : Act} {w : World} {Q : Exit → Act → World → Prop} {x : List Int} (hx : x.length = 8) (hgd : o.guard = none) (y : Operand) (ho : o.op = .load 23 y) {b off : Nat} (hy : a.eval y = .pointer (some ⟨b, off, none⟩)) (h : CsIn b off (cv x) w) (k : wpList Tryd.prog ops Q rest (a.put o.dst (.agg (cv x))) w) : wpList Tryd.prog ops Q (o :: rest) a w :=
  wpL_ld hgd _ y ho hy h Tryd.underlying23 rfl (ck_size hx) k
theorem quiet_row {o : Oper} {a : Act} {C : World → Prop} {K : Act → Prop} {x : List Int} (hx : x.length = 8) (y : Operand) (ho : o.op = .load 22 y) {b off : Nat} (hy : a.eval y = .pointer (some ⟨b, off, none⟩)) (h : ∀ w, C w → CsIn b off (cv x) w) (k : K (a.put o.dst (.agg (cv x)))) : o.quiet Tryd.prog a C K :=
  quiet_load_in _ y ho hy h Tryd.underlying22 rfl (row_size hx) k
theorem ld_row {ops : Array Oper} {rest : List Oper} {o : Oper} {a : Act} {w : World} {Q : Exit → Act → World → Prop} {x : List Int} (hx : x.length = 8) (hgd : o.guard = none) (y : Operand) (ho : o.op = .load 22 y) {b off : Nat} (hy : a.eval y = .pointer (some ⟨b, off, none⟩)) (h : CsIn b off (cv x) w) (k : wpList Tryd.prog ops Q rest (a.put o.dst (.agg (cv x))) w) : wpList Tryd.prog ops Q (o :: rest) a w :=
  wpL_ld hgd _ y ho hy h Tryd.underlying22 rfl (row_size hx) k
theorem quiet_rnd {o : Oper} {a : Act} {C : World → Prop} {K : Act → Prop} {r : Prn} (hx : shR r) (y : Operand) (ho : o.op = .load 26 y) {b off : Nat} (hy : a.eval y = .pointer (some ⟨b, off, none⟩)) (h : ∀ w, C w → CsIn b off (rnv r) w) (k : K (a.put o.dst (.agg (rnv r)))) : o.quiet Tryd.prog a C K :=
  quiet_load_in _ y ho hy h Tryd.underlying26 rfl (rnv_size hx) k
theorem ld_rnd {ops : Array Oper} {rest : List Oper} {o : Oper} {a : Act} {w : World} {Q : Exit → Act → World → Prop} {r : Prn} (hx : shR r) (hgd : o.guard = none) (y : Operand) (ho : o.op = .load 26 y) {b off : Nat} (hy : a.eval y = .pointer (some ⟨b, off, none⟩)) (h : CsIn b off (rnv r) w) (k : wpList Tryd.prog ops Q rest (a.put o.dst (.agg (rnv r))) w) : wpList Tryd.prog ops Q (o :: rest) a w :=
  wpL_ld hgd _ y ho hy h Tryd.underlying26 rfl (rnv_size hx) k
theorem quiet_rnds {o : Oper} {a : Act} {C : World → Prop} {K : Act → Prop} {l : List Prn} (hx : shRs l) (y : Operand) (ho : o.op = .load 28 y) {b off : Nat} (hy : a.eval y = .pointer (some ⟨b, off, none⟩)) (h : ∀ w, C w → CsIn b off (rsv l) w) (k : K (a.put o.dst (.agg (rsv l)))) : o.quiet Tryd.prog a C K :=
  quiet_load_in _ y ho hy h Tryd.underlying28 rfl (rsv_size hx) k
theorem ld_rnds {ops : Array Oper} {rest : List Oper} {o : Oper} {a : Act} {w : World} {Q : Exit → Act → World → Prop} {l : List Prn} (hx : shRs l) (hgd : o.guard = none) (y : Operand) (ho : o.op = .load 28 y) {b off : Nat} (hy : a.eval y = .pointer (some ⟨b, off, none⟩)) (h : CsIn b off (rsv l) w) (k : wpList Tryd.prog ops Q rest (a.put o.dst (.agg (rsv l))) w) : wpList Tryd.prog ops Q (o :: rest) a w :=
  wpL_ld hgd _ y ho hy h Tryd.underlying28 rfl (rsv_size hx) k
theorem quiet_ms {o : Oper} {a : Act} {C : World → Prop} {K : Act → Prop} {m : Pms} {s : Value} (hx : shM m) (y : Operand) (ho : o.op = .load 30 y) {b off : Nat} (hy : a.eval y = .pointer (some ⟨b, off, none⟩)) (h : ∀ w, C w → CsIn b off (mv m s) w) (k : K (a.put o.dst (.agg (mv m s)))) : o.quiet Tryd.prog a C K :=
  quiet_load_in _ y ho hy h Tryd.underlying30 rfl (mv_size hx) k
theorem ld_ms {ops : Array Oper} {rest : List Oper} {o : Oper} {a : Act} {w : World} {Q : Exit → Act → World → Prop} {m : Pms} {s : Value} (hx : shM m) (hgd : o.guard = none) (y : Operand) (ho : o.op = .load 30 y) {b off : Nat} (hy : a.eval y = .pointer (some ⟨b, off, none⟩)) (h : CsIn b off (mv m s) w) (k : wpList Tryd.prog ops Q rest (a.put o.dst (.agg (mv m s))) w) : wpList Tryd.prog ops Q (o :: rest) a w :=
  wpL_ld hgd _ y ho hy h Tryd.underlying30 rfl (mv_size hx) k
theorem quiet_act {o : Oper} {a : Act} {C : World → Prop} {K : Act → Prop} {a0 : Pac} (hx : shA a0) (y : Operand) (ho : o.op = .load 65 y) {b off : Nat} (hy : a.eval y = .pointer (some ⟨b, off, none⟩)) (h : ∀ w, C w → CsIn b off (acv a0) w) (k : K (a.put o.dst (.agg (acv a0)))) : o.quiet Tryd.prog a C K :=
  quiet_load_in _ y ho hy h Tryd.underlying65 rfl (acv_size hx) k
theorem ld_act {ops : Array Oper} {rest : List Oper} {o : Oper} {a : Act} {w : World} {Q : Exit → Act → World → Prop} {a0 : Pac} (hx : shA a0) (hgd : o.guard = none) (y : Operand) (ho : o.op = .load 65 y) {b off : Nat} (hy : a.eval y = .pointer (some ⟨b, off, none⟩)) (h : CsIn b off (acv a0) w) (k : wpList Tryd.prog ops Q rest (a.put o.dst (.agg (acv a0))) w) : wpList Tryd.prog ops Q (o :: rest) a w :=
  wpL_ld hgd _ y ho hy h Tryd.underlying65 rfl (acv_size hx) k
theorem quiet_op {o : Oper} {a : Act} {C : World → Prop} {K : Act → Prop} {a0 : Pop} (y : Operand) (ho : o.op = .load 63 y) {b off : Nat} (hy : a.eval y = .pointer (some ⟨b, off, none⟩)) (h : ∀ w, C w → CsIn b off (opv a0) w) (k : K (a.put o.dst (.agg (opv a0)))) : o.quiet Tryd.prog a C K :=
  quiet_load_in _ y ho hy h Tryd.underlying63 rfl (opv_size a0) k
theorem ld_op {ops : Array Oper} {rest : List Oper} {o : Oper} {a : Act} {w : World} {Q : Exit → Act → World → Prop} {a0 : Pop} (hgd : o.guard = none) (y : Operand) (ho : o.op = .load 63 y) {b off : Nat} (hy : a.eval y = .pointer (some ⟨b, off, none⟩)) (h : CsIn b off (opv a0) w) (k : wpList Tryd.prog ops Q rest (a.put o.dst (.agg (opv a0))) w) : wpList Tryd.prog ops Q (o :: rest) a w :=
  wpL_ld hgd _ y ho hy h Tryd.underlying63 rfl (opv_size a0) k
end Go.Proofs.YtildmcmjpmidgaaDoor
