
/-
  Plain mathematics of clocks: rows of eight numbers. Clocks as rows of numbers: the cells of an array of eight ints, how two of them are held against each other, and what stores do to such a block.
-/
import Derived.Test.YtlgdaaofpjpobaaDoorProg
import Derived.WalkKit
import Derived.WalkSpells
import Derived.WalkLawsBesides
import Derived.Deep.WholeRow
import Derived.Laws.StructEq
import Derived.Deep.QuietTactic
import Derived.BigQuiet
import Derived.Deep.Cut
import Derived.Deep.RegionWith
import Derived.Deep.LoopGhost
namespace Go.Proofs.YtlgdaaofpjpobaaDoor

/-- An entry. -/
def en (x : List Int) (k : Nat) : Int := x.getD k 0
/-- The greater of two, as the builtin says it. -/
def mx (x y : Int) : Int := if y > x then y else x
def mn (x y : Int) : Int := if y < x then y else x
/-- Merge and Meet. -/
def mrg (a b : List Int) : List Int := List.zipWith mx a b
def mee (a b : List Int) : List Int := List.zipWith mn a b
/-- Covers. -/
def cov (a b : List Int) : Bool := (List.range 8).all fun k => decide (en b k ≤ en a k)

theorem ck_ext {x y : List Int} (hx : x.length = 8) (hy : y.length = 8) (h : ∀ k, k < 8 → en x k = en y k) : x = y := by
  apply List.ext_getElem (by omega)
  intro i h1 h2
  have := h i (by omega)
  simpa [en, List.getD, List.getElem?_eq_getElem h1, List.getElem?_eq_getElem h2] using this
theorem getD_set (x : List Int) (k j : Nat) (v : Int) (hk : k < x.length) : en (x.set k v) j = if j = k then v else en x j := by
  simp only [en, List.getD, List.getElem?_set]
  by_cases h : k = j
  · subst h; simp [hk]
  · have : ¬ j = k := fun e => h e.symm
    simp [h, this]
theorem mrg_len {a b : List Int} (ha : a.length = 8) (hb : b.length = 8) : (mrg a b).length = 8 := by simp [mrg]; omega
theorem mee_len {a b : List Int} (ha : a.length = 8) (hb : b.length = 8) : (mee a b).length = 8 := by simp [mee]; omega
theorem mrg_get {a b : List Int} (ha : a.length = 8) (hb : b.length = 8) {k : Nat} (hk : k < 8) : en (mrg a b) k = mx (en a k) (en b k) := by
  simp [mrg, en, List.getD, List.getElem?_zipWith, List.getElem?_eq_getElem (show k < a.length by omega), List.getElem?_eq_getElem (show k < b.length by omega)]
theorem mee_get {a b : List Int} (ha : a.length = 8) (hb : b.length = 8) {k : Nat} (hk : k < 8) : en (mee a b) k = mn (en a k) (en b k) := by
  simp [mee, en, List.getD, List.getElem?_zipWith, List.getElem?_eq_getElem (show k < a.length by omega), List.getElem?_eq_getElem (show k < b.length by omega)]
theorem cov_iff {a b : List Int} : cov a b = true ↔ ∀ k, k < 8 → en b k ≤ en a k := by
  rw [cov, List.all_eq_true]
  exact ⟨fun h k hk => of_decide_eq_true (h k (List.mem_range.2 hk)), fun h k hk => decide_eq_true (h k (List.mem_range.1 hk))⟩
theorem cov_mrg {a b : List Int} (ha : a.length = 8) (hb : b.length = 8) : (mrg a b == a) = cov a b := by
  rw [Bool.eq_iff_iff, cov_iff, beq_iff_eq]
  constructor
  · intro h k hk
    have := mrg_get ha hb hk
    rw [h] at this
    unfold mx at this
    split at this <;> omega
  · intro h
    refine ck_ext (mrg_len ha hb) ha fun k hk => ?_
    rw [mrg_get ha hb hk, mx]
    have := h k hk
    split <;> omega
end Go.Proofs.YtlgdaaofpjpobaaDoor
namespace Go.Proofs.YtlgdaaofpjpobaaDoor
open Go.RowKit
set_option maxRecDepth 100000

/-- The cells of a row of ints. -/
def cv (a : List Int) : Array Value := (a.map (Value.int .i64)).toArray
theorem cv_size (a : List Int) : (cv a).size = a.length := by simp [cv]
theorem cv_get {a : List Int} {k : Nat} (h : k < a.length) : (cv a)[k]? = some (.int .i64 (en a k)) := by
  simp [cv, en, List.getD, List.getElem?_eq_getElem h]
theorem cv_set (a : List Int) (k : Nat) (x : Int) : (cv a).setIfInBounds k (.int .i64 x) = cv (a.set k x) := by
  simp [cv, List.map_set]
theorem cv_inj {a b : List Int} (h : cv a = cv b) : a = b := by
  have := congrArg Array.toList h
  simp only [cv] at this
  exact (List.map_inj_right (fun x y e => by cases e; rfl)).1 this

theorem all_range_ints : ∀ (xs ys : List Int), xs.length = ys.length → ((List.range xs.length).all fun i => xs.getD i 0 == ys.getD i 0) = (xs == ys)
  | [], [], _ => rfl
  | x :: xs, y :: ys, h => by
    have ih := all_range_ints xs ys (by simpa using h)
    rw [List.length_cons, List.range_succ_eq_map, List.all_cons, List.all_map]
    simp only [List.getD_cons_zero, Function.comp_def, List.getD_cons_succ, ih]
    simp [List.cons_beq_cons]
  | [], _ :: _, h => by simp at h
  | _ :: _, [], h => by simp at h

section
variable {P : Program} (w : World)
theorem run_equalIn_ints (d : Nat) (t e : TypeId) (n : Nat) (ht : P.underlying t = some (.array n e)) (he : P.underlying e = some (.int .i64)) (hsz : ∀ w, (sizeOf e).run P w = .ok 1 w)
    (xs ys : List Int) (hx : xs.length = n) (hy : ys.length = n) :
    (Op.equalIn (d + 2) t (.agg (cv xs)) (.agg (cv ys))).run P w = .ok (xs == ys) w := by
  rw [← all_range_ints xs ys (hx.trans hy.symm), hx, List.range_eq_range', Op.equalIn]
  simp only [Sem.run_bind, run_underlying ht, Result.andThen_ok, hsz, Std.Legacy.Range.forIn_eq_forIn_range', Std.Legacy.Range.size, Nat.sub_zero, Nat.add_sub_cancel, Nat.div_one]
  have hl : ∀ i ∈ List.range' 0 n 1, i < n := fun i hi => by simpa using (List.mem_range'_1.1 hi).2
  generalize List.range' 0 n 1 = l at hl ⊢
  induction l with
  | nil => simp
  | cons i l ih =>
    have hi : i < n := hl i (by simp)
    have px : (part e (cv xs) (i * 1)).run P w = .ok (.int .i64 (xs.getD i 0)) w := by
      simp [part, isAgg, run_underlying he, cv, List.getD, List.getElem?_eq_getElem (show i < xs.length by omega)]
    have py : (part e (cv ys) (i * 1)).run P w = .ok (.int .i64 (ys.getD i 0)) w := by
      simp [part, isAgg, run_underlying he, cv, List.getD, List.getElem?_eq_getElem (show i < ys.length by omega)]
    have pe : (Op.equalIn (d + 1) e (.int .i64 (xs.getD i 0)) (.int .i64 (ys.getD i 0))).run P w = .ok (xs.getD i 0 == ys.getD i 0) w :=
      run_equalIn_int w d e .i64 .i64 _ _ he
    simp only [List.forIn_cons, Sem.run_bind, px, py, pe, Result.andThen_ok, List.all_cons]
    cases hb : (xs.getD i 0 == ys.getD i 0)
    · simp
    · simp only [Bool.not_true, Bool.false_eq_true, if_false, Sem.run_pure, Result.andThen_ok, Bool.true_and]
      exact ih fun j hj => hl j (by simp [hj])
end

/-- A clock in memory. -/
def CkAt (b : Nat) (x : List Int) (w : World) : Prop := w.heap[b]? = some (.cells (cv x) 44 (0, 0)) ∧ x.length = 8
theorem CkAt.lt {b : Nat} {x : List Int} {w : World} (h : CkAt b x w) : b < w.heap.size := (Array.getElem?_eq_some_iff.1 h.1).1
theorem CkAt.cell {b : Nat} {x : List Int} {w : World} (h : CkAt b x w) {k : Nat} (hk : k < 8) : w.cell? ⟨b, k, none⟩ = some (.int .i64 (en x k)) := by
  rw [cell_of_row w b k _ _ _ h.1]; exact cv_get (by rw [h.2]; exact hk)
theorem CkAt.frozen {b : Nat} {x : List Int} {w : World} (h : CkAt b x w) (k : Nat) : w.frozen? ⟨b, k, none⟩ = false := by simp [World.frozen?, h.1]
theorem CkAt.size {b : Nat} {x : List Int} {w : World} (h : CkAt b x w) : (Tryd.prog.info? 44).map (·.size) = some (cv x).size := by
  rw [cv_size, h.2]; kernel_rfl
theorem ck_size {x : List Int} (h : x.length = 8) : (Tryd.prog.info? 44).map (·.size) = some (cv x).size := by
  rw [cv_size, h]; kernel_rfl
theorem CkAt.below {b : Nat} {x : List Int} {w w' : World} (h : CkAt b x w) {n : Nat} (hb : Below n w w') (hn : b < n) : CkAt b x w' := ⟨by rw [hb.block _ hn]; exact h.1, h.2⟩
theorem CkAt.later {b : Nat} {x : List Int} {w w' : World} (h : CkAt b x w) (hb : Below w.heap.size w w') : CkAt b x w' := h.below hb h.lt
theorem CkAt.set {b : Nat} {x : List Int} {w : World} (h : CkAt b x w) (k : Nat) (v : Int) : CkAt b (x.set k v) (w.setCell ⟨b, k, none⟩ (.int .i64 v)) := by
  refine ⟨?_, by simpa using h.2⟩
  rw [← cv_set]
  simp [World.setCell, Array.getElem?_modify, h.1]
theorem CkAt.other {b : Nat} {x : List Int} {w : World} (h : CkAt b x w) (a : Addr) (v : Value) (hn : ¬ b = a.block) : CkAt b x (w.setCell a v) := ⟨by rw [Below.heap_setCell _ _ _ _ hn]; exact h.1, h.2⟩
theorem CkAt.drew {b : Nat} {x : List Int} {w : World} (h : CkAt b x w) : CkAt b x w.drew := h
theorem CkAt.alloc {b : Nat} {x : List Int} {w : World} (h : CkAt b x w) (o : Obj) : CkAt b x (w.alloc o) := h.later ((Below.refl _ _).alloc (Nat.le_refl _) o)
theorem CkAt.new (w : World) {x : List Int} (h : x.length = 8) : CkAt w.heap.size x (w.alloc (.cells (cv x) 44)) := ⟨heap_alloc_last w _, h⟩
theorem bgo {w a b : World} (h : Below w.heap.size w a) (k : Below a.heap.size a b) : Below w.heap.size w b := h.trans (k.mono h.size)
theorem below_one (w : World) (o : Obj) : Below w.heap.size w (w.alloc o) := (Below.refl _ _).alloc (Nat.le_refl _) o

theorem below_drewN {n : Nat} {a w : World} (h : Below n a w) (k : Nat) : Below n a (w.drewN k) := ⟨h.os, h.tape, h.output, h.size, h.block⟩

/-- A world that has grown out of w: nothing of what was there has turned. -/
structure Wld (w : World) where
  wd : World
  below : Below w.heap.size w wd
/-- The world itself. -/
def wOf {w : World} (s : Wld w) : World := s.wd
instance (w : World) : Nonempty (Wld w) := ⟨⟨w, Below.refl _ _⟩⟩
theorem wOf_below {w : World} (s : Wld w) : Below w.heap.size w (wOf s) := s.below
theorem wp_region_cls {P : Program} {id : Nat} {Q : Exit → Act → World → Prop} {a : Act} {w : World} {l : List Oper} (hm : P.follows .mixedOrders = true) (hB : Region.lexB .any l.toArray = true)
    (h : wpQuiet P l.toArray (fun w' => ∃ n : Wld w, w' = wOf n) (fun a' => ∀ w', (∃ n : Wld w, w' = wOf n) → Q .normal a' w') l a) : (Code.region id l.toArray true).wp P Q a w :=
  wp_region_quiet (C := fun w' => ∃ n : Wld w, w' = wOf n) hm hB ⟨⟨w.drew, (Below.refl _ _).drew⟩, rfl⟩ (by simpa using h)
theorem wpList_of_quiet {P : Program} {ops : Array Oper} {C : World → Prop} {Q : Exit → Act → World → Prop} : ∀ (l : List Oper) (a : Act) (w : World), C w → wpQuiet P ops C (fun a' => ∀ w', C w' → Q .normal a' w') l a → wpList P ops Q l a w
  | [], _, w, hw, h => h w hw
  | o :: rest, a, w, hw, h => by
    unfold wpQuiet at h
    unfold wpList
    split
    · rename_i hc
      rw [if_pos hc] at h
      exact .inl (Oper.wp_of_quiet hw (fun a' w' hw' hq => wpList_of_quiet rest a' w' hw' hq) h)
    · rename_i hc
      rw [if_neg hc] at h
      exact wpList_of_quiet rest _ w hw h
theorem wp_region_cls0 {P : Program} {id : Nat} {Q : Exit → Act → World → Prop} {a : Act} {w : World} {l : List Oper}
    (h : wpQuiet P l.toArray (fun w' => ∃ n : Wld w, w' = wOf n) (fun a' => ∀ w', (∃ n : Wld w, w' = wOf n) → Q .normal a' w') l a) : (Code.region id l.toArray false).wp P Q a w :=
  wp_region_lit (wpList_of_quiet (C := fun w' => ∃ n : Wld w, w' = wOf n) l a w ⟨⟨w, Below.refl _ _⟩, rfl⟩ h)
theorem cls_of {P : Program} {w : World} {s : Wld w} {f : FuncId} {args : Array Value} {v : Value} (h : Calls P f args (wOf s) fun e w' => e = .returned v ∧ Below (wOf s).heap.size (wOf s) w') :
    Calls P f args (wOf s) fun e w'' => e = .returned v ∧ ∃ m : Wld w, w'' = wOf m :=
  h.mono fun _ w' ⟨he, hb⟩ => ⟨he, ⟨w', bgo s.below hb⟩, rfl⟩
theorem cls_of_same {P : Program} {w : World} {s : Wld w} {f : FuncId} {args : Array Value} {v : Value} (h : Calls P f args (wOf s) fun e w' => e = .returned v ∧ w' = wOf s) :
    Calls P f args (wOf s) fun e w'' => e = .returned v ∧ ∃ m : Wld w, w'' = wOf m :=
  h.mono fun _ _ ⟨he, hb⟩ => ⟨he, s, hb⟩
theorem cls_ck {w : World} {b : Nat} {x : List Int} (h : CkAt b x w) : ∀ w', (∃ n : Wld w, w' = wOf n) → CkAt b x w' := fun _ ⟨s, e⟩ => by rw [e]; exact h.later (wOf_below s)

/-- A block of cells in memory. -/
def RowAt (b : Nat) (cs : Array Value) (t : TypeId) (w : World) : Prop := w.heap[b]? = some (.cells cs t (0, 0))
theorem RowAt.lt {b : Nat} {cs : Array Value} {t : TypeId} {w : World} (h : RowAt b cs t w) : b < w.heap.size := (Array.getElem?_eq_some_iff.1 h).1
theorem RowAt.later {b : Nat} {cs : Array Value} {t : TypeId} {w w' : World} (h : RowAt b cs t w) (hb : Below w.heap.size w w') : RowAt b cs t w' := by
  have e : w'.heap[b]? = w.heap[b]? := hb.block _ h.lt
  exact e.trans h
theorem RowAt.cell {b : Nat} {cs : Array Value} {t : TypeId} {w : World} (h : RowAt b cs t w) (k : Nat) : w.cell? ⟨b, k, none⟩ = cs[k]? := cell_of_row w b k cs t (0, 0) h
theorem RowAt.cls {b : Nat} {cs : Array Value} {t : TypeId} {w : World} (h : RowAt b cs t w) (k : Nat) (v : Value) (hv : cs[k]? = some v) (s : Wld w) : (wOf s).cell? ⟨b, k, none⟩ = some v := by
  rw [(h.later (wOf_below s)).cell]; exact hv

/-- A clock's block is written as a whole. -/
theorem CkAt.row {b : Nat} {x : List Int} {w : World} (h : CkAt b x w) {y : List Int} (hy : y.length = 8) : CkAt b y (w.setRow b (cv y)) := ⟨setRow_heap w b _ _ _ _ h.1, hy⟩
theorem CkAt.rowOther {b : Nat} {x : List Int} {w : World} (h : CkAt b x w) (g : Nat) (c : Array Value) (hn : ¬ b = g) : CkAt b x (w.setRow g c) := ⟨by rw [setRow_other w g b c hn]; exact h.1, h.2⟩
theorem below_row {n g : Nat} {a w : World} (h : Below n a w) (hg : n ≤ g) (c : Array Value) : Below n a (w.setRow g c) :=
  ⟨h.os, h.tape, h.output, by simpa using h.size, fun k hk => by rw [setRow_other w g k c (by omega)]; exact h.block k hk⟩

section
variable {ops : Array Oper} {rest : List Oper} {o : Oper} {a : Act} {w : World} {Q : Exit → Act → World → Prop}
theorem wpL_load (hgd : o.guard = none) (x : Operand) (ho : o.op = .load 44 x) {g : Nat} (hx : a.eval x = .pointer (some ⟨g, 0, none⟩)) {y : List Int} (h : CkAt g y w)
    (k : wpList Tryd.prog ops Q rest (a.put o.dst (.agg (cv y))) w) : wpList Tryd.prog ops Q (o :: rest) a w :=
  wpList_load_row hgd _ x ho g hx _ _ _ _ h.1 Tryd.underlying44 rfl h.size k
theorem wpL_store (hgd : o.guard = none) (x y : Operand) (ho : o.op = .store 44 x y) {g : Nat} (hx : a.eval x = .pointer (some ⟨g, 0, none⟩)) {v : List Int} (hy : a.eval y = .agg (cv v)) {u : List Int} (h : CkAt g u w) (hv : v.length = 8)
    (k : wpList Tryd.prog ops Q rest (a.put o.dst undef) (w.setRow g (cv v))) : wpList Tryd.prog ops Q (o :: rest) a w :=
  wpList_store_row hgd _ x y ho g _ hx hy _ _ h.1 (ck_size hv) (by rw [cv_size, cv_size, h.2, hv]) (by simp [cv, Value.oneCell']) k
end
theorem quiet_load_ck {o : Oper} {a : Act} {C : World → Prop} {K : Act → Prop} (x : Operand) (ho : o.op = .load 44 x) {g : Nat} (hx : a.eval x = .pointer (some ⟨g, 0, none⟩)) {y : List Int} (h : ∀ w, C w → CkAt g y w)
    (k : K (a.put o.dst (.agg (cv y)))) : o.quiet Tryd.prog a C K :=
  ⟨.agg (cv y), fun w hw => by
    unfold Oper.quietAt execOp
    simp only [ho, hx, Instr.loadAt, Instr.sureAddr, Sem.run_bind, Sem.run_pure, Result.andThen_ok, run_loadVar_row w g _ _ _ _ _ (h w hw).1 Tryd.underlying44 rfl (h w hw).size]
    exact ⟨rfl, rfl⟩, k⟩

/-- The zero clock. -/
def ck0 : List Int := [0, 0, 0, 0, 0, 0, 0, 0]
theorem ck0_cv : cv ck0 = #[.int .i64 0, .int .i64 0, .int .i64 0, .int .i64 0, .int .i64 0, .int .i64 0, .int .i64 0, .int .i64 0] := rfl

theorem run_eql_ck (x y : List Int) (hx : x.length = 8) (hy : y.length = 8) (w : World) : (binOp .eql 44 (.agg (cv x)) (.agg (cv y))).run Tryd.prog w = .ok (.bool (x == y)) w := by
  rw [run_eql_struct, run_equalIn_ints w 9998 44 3 8 Tryd.underlying44 Tryd.underlying3 (fun _ => by kernel_rfl) x y hx hy]; rfl
theorem run_neq_ck (x y : List Int) (hx : x.length = 8) (hy : y.length = 8) (w : World) : (binOp .neq 44 (.agg (cv x)) (.agg (cv y))).run Tryd.prog w = .ok (.bool (!(x == y))) w := by
  rw [run_neq_struct, run_equalIn_ints w 9998 44 3 8 Tryd.underlying44 Tryd.underlying3 (fun _ => by kernel_rfl) x y hx hy]; rfl
theorem eqIn_ck (x y : List Int) (hx : x.length = 8) (hy : y.length = 8) (w : World) : (Op.equalIn 10000 44 (.agg (cv x)) (.agg (cv y))).run Tryd.prog w = .ok (x == y) w :=
  run_equalIn_ints w 9998 44 3 8 Tryd.underlying44 Tryd.underlying3 (fun _ => by kernel_rfl) x y hx hy
theorem ck_guard : Tryd.prog.eqGuardType Tryd.prog.depth 44 = false := by kernel_rfl

end Go.Proofs.YtlgdaaofpjpobaaDoor
