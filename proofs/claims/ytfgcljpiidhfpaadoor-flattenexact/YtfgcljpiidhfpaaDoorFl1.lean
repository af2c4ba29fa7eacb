
/-
  Rounds in memory: blocks of ints, loads and stores of rounds at an address, rounds held against one another.
-/
import Derived.Test.YtfgcljpiidhfpaaDoorFl0
import Derived.Test.YtfgcljpiidhfpaaDoorRwF
namespace Go.Proofs.YtfgcljpiidhfpaaDoor
open Go.RowKit
set_option maxRecDepth 100000

theorem hid_of' {p : Prop} (h : p) : Hid p := h
theorem cv_one (l : List Int) : (cv l).all (·.oneCell') = true := by simp [cv, Value.oneCell']
theorem RowAt.int {b : Nat} {x : List Int} {t : TypeId} {w : World} (h : RowAt b (cv x) t w) {k : Nat} (hk : k < x.length) : w.cell? ⟨b, k, none⟩ = some (.int .i64 (en x k)) := by rw [h.cell]; exact cv_get hk
theorem RowAt.frz {b : Nat} {cs : Array Value} {t : TypeId} {w : World} (h : RowAt b cs t w) (k : Nat) : w.frozen? ⟨b, k, none⟩ = false := by unfold RowAt at h; simp [World.frozen?, h]
theorem RowAt.setI {b : Nat} {x : List Int} {t : TypeId} {w : World} (h : RowAt b (cv x) t w) (k : Nat) (v : Int) : RowAt b (cv (x.set k v)) t (w.setCell ⟨b, k, none⟩ (.int .i64 v)) := by
  unfold RowAt at h ⊢
  rw [← cv_set]
  simp [World.setCell, Array.getElem?_modify, h]
theorem RowAt.otherI {b : Nat} {cs : Array Value} {t : TypeId} {w : World} (h : RowAt b cs t w) (a : Addr) (v : Value) (hn : ¬ b = a.block) : RowAt b cs t (w.setCell a v) := by
  unfold RowAt at h ⊢; rw [Below.heap_setCell _ _ _ _ hn]; exact h
theorem RowAt.drew {b : Nat} {cs : Array Value} {t : TypeId} {w : World} (h : RowAt b cs t w) : RowAt b cs t w.drew := h
theorem RowAt.news (w : World) (cs : Array Value) (t : TypeId) : RowAt w.heap.size cs t (w.alloc (.cells cs t)) := heap_alloc_last w _
theorem RowAt.al {b : Nat} {cs : Array Value} {t : TypeId} {w : World} (h : RowAt b cs t w) (o : Obj) : RowAt b cs t (w.alloc o) := h.later (below_one w o)
theorem RowAt.subI {b : Nat} {x : List Int} {t : TypeId} {w : World} (h : RowAt b (cv x) t w) (o n : Nat) (hl : o + n ≤ x.length) : CsIn b o (cv (sub x o n)) w :=
  ⟨h.lt, fun j v hv => by
    have hj : j < n := by have := (Array.getElem?_eq_some_iff.1 hv).1; rw [cv_size, sub_len hl] at this; exact this
    rw [cv_get (by rw [sub_len hl]; exact hj), en_sub hj] at hv
    rw [h.int (by omega)]; exact hv⟩
theorem sub_rs {l : List Rnd} (ok : OkL l) {c : Nat} {r : Rnd} (h : l[c]? = some r) : sub (rs l) (c * 18) 18 = rc r := by
  have hc : c < 8 := by have := (List.getElem?_eq_some_iff.1 h).1; rw [ok.1] at this; exact this
  have hr := ok.2 r (List.mem_of_getElem? h)
  refine en_ext (by rw [sub_len (by rw [rs_len ok]; omega), rc_len hr]) fun k hk => ?_
  rw [sub_len (by rw [rs_len ok]; omega)] at hk
  rw [en_sub hk, en_rs ok h hk]

/-- The cells of a Desk: how many, which one, the rounds. -/
def dk (n s : Int) (l : List Rnd) : List Int := n :: s :: rs l
theorem dk_len (n s : Int) {l : List Rnd} (ok : OkL l) : (dk n s l).length = 146 := by simp [dk, rs_len ok]
theorem en_dk (n s : Int) (l : List Rnd) (k : Nat) : en (dk n s l) (2 + k) = en (rs l) k := by rw [Nat.add_comm]; rfl
theorem sub_dk (n s : Int) {l : List Rnd} (ok : OkL l) : sub (dk n s l) 2 144 = rs l := by
  show ((rs l).drop 0).take 144 = rs l
  rw [List.drop_zero, List.take_of_length_le (by rw [rs_len ok]; exact Nat.le_refl _)]
theorem sub_dkr (n s : Int) {l : List Rnd} (ok : OkL l) {c : Nat} {r : Rnd} (h : l[c]? = some r) : sub (dk n s l) (2 + c * 18) 18 = rc r := by
  rw [← sub_rs ok h]
  show (((n :: s :: rs l).drop (2 + c * 18)).take 18) = ((rs l).drop (c * 18)).take 18
  rw [Nat.add_comm]; rfl

theorem rnd_size {r : Rnd} (h : r.Ok) : (Tryd.prog.info? 44).map (·.size) = some (cv (rc r)).size := by
  rw [cv_size, rc_len h]; kernel_rfl
theorem rnds_size {l : List Rnd} (h : OkL l) : (Tryd.prog.info? 46).map (·.size) = some (cv (rs l)).size := by
  rw [cv_size, rs_len h]; kernel_rfl
theorem row8_size {x : List Int} (h : x.length = 8) : (Tryd.prog.info? 41).map (·.size) = some (cv x).size := by
  rw [cv_size, h]; kernel_rfl

section
variable {P : Program} {ops : Array Oper} {rest : List Oper} {o : Oper} {a : Act} {w : World} {Q : Exit → Act → World → Prop}
/-- A struct or an array is loaded, wherever it lies. -/
theorem wpL_ld (hgd : o.guard = none) (ty : TypeId) (x : Operand) (ho : o.op = .load ty x) {b off : Nat} (hx : a.eval x = .pointer (some ⟨b, off, none⟩)) {cs : Array Value} (h : CsIn b off cs w)
    {d : TypeDesc} (hu : P.underlying ty = some d) (hd : (match d with | .struct _ | .array _ _ => true | _ => false) = true) (hi : (P.info? ty).map (·.size) = some cs.size)
    (k : wpList P ops Q rest (a.put o.dst (.agg cs)) w) : wpList P ops Q (o :: rest) a w :=
  wpList_plain hgd fun _ hK => by
    unfold Oper.wp execOp
    simp only [ho, hx, Instr.loadAt, Instr.sureAddr, Sem.run_bind, Sem.run_pure, Result.andThen_ok, run_loadVar_in h hu hd hi]
    exact hK _ _ k
theorem ldRnd {r : Rnd} (hr : r.Ok) (hgd : o.guard = none) (y : Operand) (ho : o.op = .load 44 y) {b off : Nat} (hy : a.eval y = .pointer (some ⟨b, off, none⟩)) (h : CsIn b off (cv (rc r)) w) (k : wpList Tryd.prog ops Q rest (a.put o.dst (.agg (cv (rc r)))) w) : wpList Tryd.prog ops Q (o :: rest) a w :=
  wpL_ld hgd _ y ho hy h Tryd.underlying44 rfl (rnd_size hr) k
theorem ldRnds {l : List Rnd} (hr : OkL l) (hgd : o.guard = none) (y : Operand) (ho : o.op = .load 46 y) {b off : Nat} (hy : a.eval y = .pointer (some ⟨b, off, none⟩)) (h : CsIn b off (cv (rs l)) w) (k : wpList Tryd.prog ops Q rest (a.put o.dst (.agg (cv (rs l)))) w) : wpList Tryd.prog ops Q (o :: rest) a w :=
  wpL_ld hgd _ y ho hy h Tryd.underlying46 rfl (rnds_size hr) k
theorem ldCk {x : List Int} (hx : x.length = 8) (hgd : o.guard = none) (y : Operand) (ho : o.op = .load 42 y) {b off : Nat} (hy : a.eval y = .pointer (some ⟨b, off, none⟩)) (h : CsIn b off (cv x) w) (k : wpList Tryd.prog ops Q rest (a.put o.dst (.agg (cv x))) w) : wpList Tryd.prog ops Q (o :: rest) a w :=
  wpL_ld hgd _ y ho hy h Tryd.underlying42 rfl (ck_size hx) k
theorem ldRow {x : List Int} (hx : x.length = 8) (hgd : o.guard = none) (y : Operand) (ho : o.op = .load 41 y) {b off : Nat} (hy : a.eval y = .pointer (some ⟨b, off, none⟩)) (h : CsIn b off (cv x) w) (k : wpList Tryd.prog ops Q rest (a.put o.dst (.agg (cv x))) w) : wpList Tryd.prog ops Q (o :: rest) a w :=
  wpL_ld hgd _ y ho hy h Tryd.underlying41 rfl (row8_size hx) k
end
section
variable {o : Oper} {a : Act} {C : World → Prop} {K : Act → Prop}
theorem qRnd {r : Rnd} (hr : r.Ok) (y : Operand) (ho : o.op = .load 44 y) {b off : Nat} (hy : a.eval y = .pointer (some ⟨b, off, none⟩)) (h : ∀ w, C w → CsIn b off (cv (rc r)) w) (k : K (a.put o.dst (.agg (cv (rc r))))) : o.quiet Tryd.prog a C K :=
  quiet_load_in _ y ho hy h Tryd.underlying44 rfl (rnd_size hr) k
theorem qRnds {l : List Rnd} (hr : OkL l) (y : Operand) (ho : o.op = .load 46 y) {b off : Nat} (hy : a.eval y = .pointer (some ⟨b, off, none⟩)) (h : ∀ w, C w → CsIn b off (cv (rs l)) w) (k : K (a.put o.dst (.agg (cv (rs l))))) : o.quiet Tryd.prog a C K :=
  quiet_load_in _ y ho hy h Tryd.underlying46 rfl (rnds_size hr) k
theorem qCk {x : List Int} (hx : x.length = 8) (y : Operand) (ho : o.op = .load 42 y) {b off : Nat} (hy : a.eval y = .pointer (some ⟨b, off, none⟩)) (h : ∀ w, C w → CsIn b off (cv x) w) (k : K (a.put o.dst (.agg (cv x)))) : o.quiet Tryd.prog a C K :=
  quiet_load_in _ y ho hy h Tryd.underlying42 rfl (ck_size hx) k
theorem qRow {x : List Int} (hx : x.length = 8) (y : Operand) (ho : o.op = .load 41 y) {b off : Nat} (hy : a.eval y = .pointer (some ⟨b, off, none⟩)) (h : ∀ w, C w → CsIn b off (cv x) w) (k : K (a.put o.dst (.agg (cv x)))) : o.quiet Tryd.prog a C K :=
  quiet_load_in _ y ho hy h Tryd.underlying41 rfl (row8_size hx) k
end

theorem heap_setCell_at {g : Nat} {cs : Array Value} {t : TypeId} {w : World} (h : w.heap[g]? = some (.cells cs t (0, 0))) (o : Nat) (v : Value) : (w.setCell ⟨g, o, none⟩ v).heap[g]? = some (.cells (cs.setIfInBounds o v) t (0, 0)) := by
  simp [World.setCell, Array.getElem?_modify, h]
/-- Cells put into a row from a place on. -/
def putA (cs : Array Value) : Nat → List Value → Array Value
  | _, [] => cs
  | o, v :: vs => putA (cs.setIfInBounds o v) (o + 1) vs
theorem heap_setCells {g : Nat} {t : TypeId} : ∀ (vs : List Value) (o : Nat) (cs : Array Value) (w : World), w.heap[g]? = some (.cells cs t (0, 0)) → (w.setCells g o vs).heap[g]? = some (.cells (putA cs o vs) t (0, 0))
  | [], _, _, _, h => h
  | v :: vs, o, _cs, _w, h => heap_setCells vs (o + 1) _ _ (heap_setCell_at h o v)
theorem putA_list : ∀ (B' B A C : List Value), B'.length = B.length → putA (A ++ (B ++ C)).toArray A.length B' = (A ++ (B' ++ C)).toArray
  | [], B, A, C, h => by
    have : B = [] := List.length_eq_zero_iff.1 h.symm
    subst this; rfl
  | v :: B', [], A, C, h => by simp at h
  | v :: B', b :: B, A, C, h => by
    have ih := putA_list B' B (A ++ [v]) C (by simpa using h)
    have e : (A ++ (b :: B ++ C)).toArray.setIfInBounds A.length v = (A ++ [v] ++ (B ++ C)).toArray := by simp
    rw [putA, e]
    have e2 : A.length + 1 = (A ++ [v]).length := by simp
    rw [e2, ih]
    simp
theorem putA_cv {x y : List Int} {o : Nat} (h : o + y.length ≤ x.length) : putA (cv x) o (cv y).toList = cv (putI x o y) := by
  have e : x = x.take o ++ ((x.drop o).take y.length ++ x.drop (o + y.length)) := by
    rw [← List.drop_drop, List.take_append_drop, List.take_append_drop]
  have hl : (x.take o).length = o := by simp; omega
  have h1 := putA_list (y.map (Value.int .i64)) (((x.drop o).take y.length).map (Value.int .i64)) ((x.take o).map (Value.int .i64)) ((x.drop (o + y.length)).map (Value.int .i64)) (by simp; omega)
  rw [List.length_map, hl, ← List.map_append, ← List.map_append, ← e, ← List.map_append, ← List.map_append] at h1
  simpa [cv, putI] using h1
theorem RowAt.putC {b : Nat} {x : List Int} {t : TypeId} {w : World} (h : RowAt b (cv x) t w) {o : Nat} {y : List Int} (hl : o + y.length ≤ x.length) : RowAt b (cv (putI x o y)) t (w.setCells b o (cv y).toList) := by
  unfold RowAt at h ⊢
  rw [← putA_cv hl]
  exact heap_setCells _ _ _ _ h
theorem RowAt.there {b : Nat} {x : List Int} {t : TypeId} {w : World} (h : RowAt b (cv x) t w) {o n : Nat} (hl : o + n ≤ x.length) : w.there b o n := fun j hj => ⟨by rw [h.int (by omega)]; rfl, h.frz _⟩
theorem RowAt.cellsOther {b : Nat} {cs : Array Value} {t : TypeId} {g : Nat} (hn : ¬ b = g) : ∀ (vs : List Value) (o : Nat) {w : World}, RowAt b cs t w → RowAt b cs t (w.setCells g o vs)
  | [], _, _, h => h
  | v :: vs, o, _, h => RowAt.cellsOther hn vs (o + 1) (h.otherI ⟨g, o, none⟩ v hn)
theorem dk_put (n s : Int) {l : List Rnd} (ok : OkL l) {c : Nat} (hc : c < 8) {r : Rnd} (hr : r.Ok) : putI (dk n s l) (2 + c * 18) (rc r) = dk n s (l.set c r) := by
  unfold dk
  rw [← rs_put ok hc hr]
  unfold putI
  rw [show 2 + c * 18 + (rc r).length = c * 18 + (rc r).length + 2 by omega, show 2 + c * 18 = c * 18 + 2 by omega]
  rfl
theorem dk_set (n s : Int) {l : List Rnd} (ok : OkL l) {c : Nat} {r : Rnd} (hr : l[c]? = some r) {k : Nat} (hk : k < 18) (v : Int) {r' : Rnd} (hr' : r'.Ok) (h : (rc r).set k v = rc r') : (dk n s l).set (2 + (c * 18 + k)) v = dk n s (l.set c r') := by
  unfold dk
  rw [← rs_set ok hr hk v hr' h, Nat.add_comm]
  rfl
theorem dk_all (n s : Int) {l m : List Rnd} (ok : OkL l) (om : OkL m) : putI (dk n s l) 2 (rs m) = dk n s m := by
  unfold putI
  rw [rs_len om]
  have e : (dk n s l).drop (2 + 144) = [] := List.drop_eq_nil_of_le (by rw [dk_len n s ok]; exact Nat.le_refl _)
  rw [e, List.append_nil]
  rfl
section
variable {ops : Array Oper} {rest : List Oper} {o : Oper} {a : Act} {w : World} {Q : Exit → Act → World → Prop}
/-- A round is stored at a place of a block. -/
theorem stRnd (hgd : o.guard = none) (x y : Operand) (ho : o.op = .store 44 x y) {b off : Nat} (hx : a.eval x = .pointer (some ⟨b, off, none⟩)) {r : Rnd} (hr : r.Ok) (hy : a.eval y = .agg (cv (rc r))) {z : List Int} {t : TypeId} (h : RowAt b (cv z) t w) (hl : off + 18 ≤ z.length)
    (k : wpList Tryd.prog ops Q rest (a.put o.dst undef) (w.setCells b off (cv (rc r)).toList)) : wpList Tryd.prog ops Q (o :: rest) a w :=
  wpList_store_mid hgd _ x y ho b off (cv (rc r)) hx hy (by rw [cv_size, rc_len hr]; exact h.there hl) (rnd_size hr) (cv_one _) k
theorem stRnds (hgd : o.guard = none) (x y : Operand) (ho : o.op = .store 46 x y) {b off : Nat} (hx : a.eval x = .pointer (some ⟨b, off, none⟩)) {l : List Rnd} (hr : OkL l) (hy : a.eval y = .agg (cv (rs l))) {z : List Int} {t : TypeId} (h : RowAt b (cv z) t w) (hl : off + 144 ≤ z.length)
    (k : wpList Tryd.prog ops Q rest (a.put o.dst undef) (w.setCells b off (cv (rs l)).toList)) : wpList Tryd.prog ops Q (o :: rest) a w :=
  wpList_store_mid hgd _ x y ho b off (cv (rs l)) hx hy (by rw [cv_size, rs_len hr]; exact h.there hl) (rnds_size hr) (cv_one _) k
theorem stCk (hgd : o.guard = none) (x y : Operand) (ho : o.op = .store 42 x y) {b off : Nat} (hx : a.eval x = .pointer (some ⟨b, off, none⟩)) {r : List Int} (hr : r.length = 8) (hy : a.eval y = .agg (cv r)) {z : List Int} {t : TypeId} (h : RowAt b (cv z) t w) (hl : off + 8 ≤ z.length)
    (k : wpList Tryd.prog ops Q rest (a.put o.dst undef) (w.setCells b off (cv r).toList)) : wpList Tryd.prog ops Q (o :: rest) a w :=
  wpList_store_mid hgd _ x y ho b off (cv r) hx hy (by rw [cv_size, hr]; exact h.there hl) (ck_size hr) (cv_one _) k
end

/-! Rounds held against one another. -/
section
variable {P : Program} (w : World)
theorem run_equalIn_arr (d : Nat) (t e : TypeId) (n s : Nat) (ht : P.underlying t = some (.array n e)) (hsz : ∀ w, (sizeOf e).run P w = .ok s w) (xs ys : Array Value) (eqs : Nat → Bool)
    (h : ∀ i, i < n → ∃ a b, (part e xs (i * s)).run P w = .ok a w ∧ (part e ys (i * s)).run P w = .ok b w ∧ (Op.equalIn (d + 1) e a b).run P w = .ok (eqs i) w) :
    (Op.equalIn (d + 2) t (.agg xs) (.agg ys)).run P w = .ok ((List.range n).all eqs) w := by
  rw [List.range_eq_range', Op.equalIn]
  simp only [Sem.run_bind, run_underlying ht, Result.andThen_ok, hsz, Std.Legacy.Range.forIn_eq_forIn_range', Std.Legacy.Range.size, Nat.sub_zero, Nat.add_sub_cancel, Nat.div_one]
  have hl : ∀ i ∈ List.range' 0 n 1, i < n := fun i hi => by simpa using (List.mem_range'_1.1 hi).2
  generalize List.range' 0 n 1 = l at hl ⊢
  induction l with
  | nil => simp
  | cons i l ih =>
    obtain ⟨a, b, px, py, pe⟩ := h i (hl i (by simp))
    simp only [List.forIn_cons, Sem.run_bind, px, py, pe, Result.andThen_ok, List.all_cons]
    cases hb : eqs i
    · simp
    · simp only [Bool.not_true, Bool.false_eq_true, if_false, Sem.run_pure, Result.andThen_ok, Bool.true_and]
      exact ih fun j hj => hl j (by simp [hj])
end
theorem szInt (w : World) : (sizeOf 3).run Tryd.prog w = .ok 1 w := by kernel_rfl
theorem szRnd (w : World) : (sizeOf 44).run Tryd.prog w = .ok 18 w := by kernel_rfl
theorem eqInCk (d : Nat) (x y : List Int) (hx : x.length = 8) (hy : y.length = 8) (w : World) : (Op.equalIn (d + 2) 42 (.agg (cv x)) (.agg (cv y))).run Tryd.prog w = .ok (x == y) w :=
  run_equalIn_ints w d 42 3 8 Tryd.underlying42 Tryd.underlying3 szInt x y hx hy
theorem eqInRow (d : Nat) (x y : List Int) (hx : x.length = 8) (hy : y.length = 8) (w : World) : (Op.equalIn (d + 2) 41 (.agg (cv x)) (.agg (cv y))).run Tryd.prog w = .ok (x == y) w :=
  run_equalIn_ints w d 41 3 8 Tryd.underlying41 Tryd.underlying3 szInt x y hx hy
theorem cv_extract {x : List Int} {o n : Nat} (_hl : o + n ≤ x.length) : (cv x).extract o (o + n) = cv (sub x o n) := by
  simp only [cv, sub, List.extract_toArray, List.extract_eq_take_drop, Nat.add_sub_cancel_left, List.map_take, List.map_drop]
theorem part_int {x : List Int} {o : Nat} (h : o < x.length) (w : World) : (part 3 (cv x) o).run Tryd.prog w = .ok (.int .i64 (en x o)) w := by
  simp [part, isAgg, run_underlying Tryd.underlying3, cv_get h]
theorem part_ck {x : List Int} {o : Nat} (h : o + 8 ≤ x.length) (w : World) : (part 42 (cv x) o).run Tryd.prog w = .ok (.agg (cv (sub x o 8))) w := by
  simp [part, isAgg, run_underlying Tryd.underlying42, cv_extract h]
theorem part_row {x : List Int} {o : Nat} (h : o + 8 ≤ x.length) (w : World) : (part 41 (cv x) o).run Tryd.prog w = .ok (.agg (cv (sub x o 8))) w := by
  simp [part, isAgg, run_underlying Tryd.underlying41, cv_extract h]
theorem part_rnd {x : List Int} {o : Nat} (h : o + 18 ≤ x.length) (w : World) : (part 44 (cv x) o).run Tryd.prog w = .ok (.agg (cv (sub x o 18))) w := by
  simp [part, isAgg, run_underlying Tryd.underlying44, cv_extract h]
theorem beq_rnd (a b : Rnd) : (a == b) = (a.num == b.num && (a.cut == b.cut && (a.vot == b.vot && a.dec == b.dec))) := by
  rw [Bool.eq_iff_iff]
  simp only [beq_iff_eq, Bool.and_eq_true]
  exact ⟨fun h => by subst h; exact ⟨rfl, rfl, rfl, rfl⟩, fun ⟨h1, h2, h3, h4⟩ => Rnd.ext' h1 h2 h3 h4⟩
theorem eqInRnd (d : Nat) {a b : Rnd} (ha : a.Ok) (hb : b.Ok) (w : World) : (Op.equalIn (d + 4) 44 (.agg (cv (rc a))) (.agg (cv (rc b)))).run Tryd.prog w = .ok (a == b) w := by
  rw [run_equalIn_struct w (d + 3) 44 _ _ (by kernel_rfl) (by kernel_rfl), beq_rnd]
  have la := rc_len ha
  have lb := rc_len hb
  have p1 := fun w => part_int (x := rc a) (o := 0) (by omega) w
  have p2 := fun w => part_int (x := rc b) (o := 0) (by omega) w
  have p3 := fun w => part_ck (x := rc a) (o := 1) (by omega) w
  have p4 := fun w => part_ck (x := rc b) (o := 1) (by omega) w
  have p5 := fun w => part_row (x := rc a) (o := 9) (by omega) w
  have p6 := fun w => part_row (x := rc b) (o := 9) (by omega) w
  have p7 := fun w => part_int (x := rc a) (o := 17) (by omega) w
  have p8 := fun w => part_int (x := rc b) (o := 17) (by omega) w
  simp only [rc_num, sub_cut ha, sub_cut hb, sub_vot ha, sub_vot hb, rc_dec ha, rc_dec hb] at p1 p2 p3 p4 p5 p6 p7 p8
  have q1 := fun w => run_equalIn_int (P := Tryd.prog) w (d + 2) 3 .i64 .i64 a.num b.num Tryd.underlying3
  have q2 := fun w => eqInCk (d + 1) a.cut b.cut ha.1 hb.1 w
  have q3 := fun w => eqInRow (d + 1) a.vot b.vot ha.2 hb.2 w
  have q4 := fun w => run_equalIn_int (P := Tryd.prog) w (d + 2) 3 .i64 .i64 a.dec b.dec Tryd.underlying3
  clear la lb
  simp only [Program.fieldsOf, Tryd.underlying44, Op.eqFields]
  cases h1 : (a.num == b.num) <;> cases h2 : (a.cut == b.cut) <;> cases h3 : (a.vot == b.vot) <;> cases h4 : (a.dec == b.dec) <;> simp [Sem.run_bind, p1, p2, p3, p4, p5, p6, p7, p8, q1, q2, q3, q4, h1, h2, h3, h4]
theorem all_range_rnd : ∀ (xs ys : List Rnd), xs.length = ys.length → ((List.range xs.length).all fun i => xs.getD i rnd0 == ys.getD i rnd0) = (xs == ys)
  | [], [], _ => rfl
  | x :: xs, y :: ys, h => by
    have ih := all_range_rnd xs ys (by simpa using h)
    rw [List.length_cons, List.range_succ_eq_map, List.all_cons, List.all_map]
    simp only [List.getD_cons_zero, Function.comp_def, List.getD_cons_succ, ih]
    simp [List.cons_beq_cons]
  | [], _ :: _, h => by simp at h
  | _ :: _, [], h => by simp at h
theorem getR {l : List Rnd} {i : Nat} (h : i < l.length) : l[i]? = some (l.getD i rnd0) := by simp [List.getD, List.getElem?_eq_getElem h]
theorem eqInRnds (d : Nat) {l m : List Rnd} (hl : OkL l) (hm : OkL m) (w : World) : (Op.equalIn (d + 5) 46 (.agg (cv (rs l))) (.agg (cv (rs m)))).run Tryd.prog w = .ok (l == m) w := by
  rw [← all_range_rnd l m (by rw [hl.1, hm.1]), hl.1]
  refine run_equalIn_arr w (d + 3) 46 44 8 18 Tryd.underlying46 szRnd _ _ _ fun i hi => ?_
  have h1 := getR (l := l) (i := i) (by rw [hl.1]; exact hi)
  have h2 := getR (l := m) (i := i) (by rw [hm.1]; exact hi)
  have p1 := part_rnd (x := rs l) (o := i * 18) (by rw [rs_len hl]; omega) w
  have p2 := part_rnd (x := rs m) (o := i * 18) (by rw [rs_len hm]; omega) w
  rw [sub_rs hl h1] at p1
  rw [sub_rs hm h2] at p2
  exact ⟨_, _, p1, p2, eqInRnd d (hl.2 _ (List.mem_of_getElem? h1)) (hm.2 _ (List.mem_of_getElem? h2)) w⟩
theorem rnd_guard : Tryd.prog.eqGuardType Tryd.prog.depth 44 = false := by kernel_rfl
theorem rnds_guard : Tryd.prog.eqGuardType Tryd.prog.depth 46 = false := by kernel_rfl
end Go.Proofs.YtfgcljpiidhfpaaDoor
