
/-
  Messages in memory: the cells of clocks, rounds, acts and messages, and the laws that load and store them.
-/
import Derived.Test.YteffpnjgchihpaaGreatDoorPB13
import Derived.Test.YteffpnjgchihpaaGreatDoorPB15
import Derived.Test.YteffpnjgchihpaaGreatDoorPB16
import Derived.Test.YteffpnjgchihpaaGreatDoorPB17
import Derived.Deep.WholeRow
import Derived.Laws.StructEq
import Derived.Deep.QuietTactic
import Derived.Deep.Cut
import Derived.Deep.CutRange
import Derived.Deep.RegionWith
import Derived.Deep.MidRow
namespace Go.Proofs.YteffpnjgchihpaaGreatDoor
open Go.RowKit
set_option maxRecDepth 100000

/-- The cells of a row of ints. -/
def cv (a : List Int) : Array Value := (a.map (Value.int .i64)).toArray
theorem cv_size (a : List Int) : (cv a).size = a.length := by simp [cv]
theorem cv_get {a : List Int} {k : Nat} (h : k < a.length) : (cv a)[k]? = some (.int .i64 (en a k)) := by
  simp [cv, en, List.getD, List.getElem?_eq_getElem h]
theorem cv_set (a : List Int) (k : Nat) (x : Int) : (cv a).setIfInBounds k (.int .i64 x) = cv (a.set k x) := by
  simp [cv, List.map_set]
theorem cv_inj {a b : List Int} (h : cv a = cv b) : a = b := by
  have := congrArg Array.toList h
  simp only [cv] at this
  exact (List.map_inj_right (fun x y e => by cases e; rfl)).1 this

theorem all_range_ints : ∀ (xs ys : List Int), xs.length = ys.length → ((List.range xs.length).all fun i => xs.getD i 0 == ys.getD i 0) = (xs == ys)
  | [], [], _ => rfl
  | x :: xs, y :: ys, h => by
    have ih := all_range_ints xs ys (by simpa using h)
    rw [List.length_cons, List.range_succ_eq_map, List.all_cons, List.all_map]
    simp only [List.getD_cons_zero, Function.comp_def, List.getD_cons_succ, ih]
    simp [List.cons_beq_cons]
  | [], _ :: _, h => by simp at h
  | _ :: _, [], h => by simp at h

section
variable {P : Program} (w : World)
theorem run_equalIn_ints (d : Nat) (t e : TypeId) (n : Nat) (ht : P.underlying t = some (.array n e)) (he : P.underlying e = some (.int .i64)) (hsz : ∀ w, (sizeOf e).run P w = .ok 1 w)
    (xs ys : List Int) (hx : xs.length = n) (hy : ys.length = n) :
    (Op.equalIn (d + 2) t (.agg (cv xs)) (.agg (cv ys))).run P w = .ok (xs == ys) w := by
  rw [← all_range_ints xs ys (hx.trans hy.symm), hx, List.range_eq_range', Op.equalIn]
  simp only [Sem.run_bind, run_underlying ht, Result.andThen_ok, hsz, Std.Legacy.Range.forIn_eq_forIn_range', Std.Legacy.Range.size, Nat.sub_zero, Nat.add_sub_cancel, Nat.div_one]
  have hl : ∀ i ∈ List.range' 0 n 1, i < n := fun i hi => by simpa using (List.mem_range'_1.1 hi).2
  generalize List.range' 0 n 1 = l at hl ⊢
  induction l with
  | nil => simp
  | cons i l ih =>
    have hi : i < n := hl i (by simp)
    have px : (part e (cv xs) (i * 1)).run P w = .ok (.int .i64 (xs.getD i 0)) w := by
      simp [part, isAgg, run_underlying he, cv, List.getD, List.getElem?_eq_getElem (show i < xs.length by omega)]
    have py : (part e (cv ys) (i * 1)).run P w = .ok (.int .i64 (ys.getD i 0)) w := by
      simp [part, isAgg, run_underlying he, cv, List.getD, List.getElem?_eq_getElem (show i < ys.length by omega)]
    have pe : (Op.equalIn (d + 1) e (.int .i64 (xs.getD i 0)) (.int .i64 (ys.getD i 0))).run P w = .ok (xs.getD i 0 == ys.getD i 0) w :=
      run_equalIn_int w d e .i64 .i64 _ _ he
    simp only [List.forIn_cons, Sem.run_bind, px, py, pe, Result.andThen_ok, List.all_cons]
    cases hb : (xs.getD i 0 == ys.getD i 0)
    · simp
    · simp only [Bool.not_true, Bool.false_eq_true, if_false, Sem.run_pure, Result.andThen_ok, Bool.true_and]
      exact ih fun j hj => hl j (by simp [hj])
end

theorem bgo {w a b : World} (h : Below w.heap.size w a) (k : Below a.heap.size a b) : Below w.heap.size w b := h.trans (k.mono h.size)
theorem below_one (w : World) (o : Obj) : Below w.heap.size w (w.alloc o) := (Below.refl _ _).alloc (Nat.le_refl _) o

/-- A world that has grown out of w: nothing of what was there has turned. -/
structure Wld (w : World) where
  wd : World
  below : Below w.heap.size w wd
/-- The world itself. -/
def wOf {w : World} (s : Wld w) : World := s.wd
instance (w : World) : Nonempty (Wld w) := ⟨⟨w, Below.refl _ _⟩⟩
theorem wOf_below {w : World} (s : Wld w) : Below w.heap.size w (wOf s) := s.below
theorem wp_region_cls {P : Program} {id : Nat} {Q : Exit → Act → World → Prop} {a : Act} {w : World} {l : List Oper} (hm : P.follows .mixedOrders = true) (hB : Region.lexB .any l.toArray = true)
    (h : wpQuiet P l.toArray (fun w' => ∃ n : Wld w, w' = wOf n) (fun a' => ∀ w', (∃ n : Wld w, w' = wOf n) → Q .normal a' w') l a) : (Code.region id l.toArray true).wp P Q a w :=
  wp_region_quiet (C := fun w' => ∃ n : Wld w, w' = wOf n) hm hB ⟨⟨w.drew, (Below.refl _ _).drew⟩, rfl⟩ (by simpa using h)
theorem wpList_of_quiet {P : Program} {ops : Array Oper} {C : World → Prop} {Q : Exit → Act → World → Prop} : ∀ (l : List Oper) (a : Act) (w : World), C w → wpQuiet P ops C (fun a' => ∀ w', C w' → Q .normal a' w') l a → wpList P ops Q l a w
  | [], _, w, hw, h => h w hw
  | o :: rest, a, w, hw, h => by
    unfold wpQuiet at h
    unfold wpList
    split
    · rename_i hc
      rw [if_pos hc] at h
      exact .inl (Oper.wp_of_quiet hw (fun a' w' hw' hq => wpList_of_quiet rest a' w' hw' hq) h)
    · rename_i hc
      rw [if_neg hc] at h
      exact wpList_of_quiet rest _ w hw h
theorem wp_region_cls0 {P : Program} {id : Nat} {Q : Exit → Act → World → Prop} {a : Act} {w : World} {l : List Oper}
    (h : wpQuiet P l.toArray (fun w' => ∃ n : Wld w, w' = wOf n) (fun a' => ∀ w', (∃ n : Wld w, w' = wOf n) → Q .normal a' w') l a) : (Code.region id l.toArray false).wp P Q a w :=
  wp_region_lit (wpList_of_quiet (C := fun w' => ∃ n : Wld w, w' = wOf n) l a w ⟨⟨w, Below.refl _ _⟩, rfl⟩ h)
theorem cls_of {P : Program} {w : World} {s : Wld w} {f : FuncId} {args : Array Value} {v : Value} (h : Calls P f args (wOf s) fun e w' => e = .returned v ∧ Below (wOf s).heap.size (wOf s) w') :
    Calls P f args (wOf s) fun e w'' => e = .returned v ∧ ∃ m : Wld w, w'' = wOf m :=
  h.mono fun _ w' ⟨he, hb⟩ => ⟨he, ⟨w', bgo s.below hb⟩, rfl⟩
theorem cls_of_same {P : Program} {w : World} {s : Wld w} {f : FuncId} {args : Array Value} {v : Value} (h : Calls P f args (wOf s) fun e w' => e = .returned v ∧ w' = wOf s) :
    Calls P f args (wOf s) fun e w'' => e = .returned v ∧ ∃ m : Wld w, w'' = wOf m :=
  h.mono fun _ _ ⟨he, hb⟩ => ⟨he, s, hb⟩

/-- A block of cells in memory. -/
def RowAt (b : Nat) (cs : Array Value) (t : TypeId) (w : World) : Prop := w.heap[b]? = some (.cells cs t (0, 0))
theorem RowAt.lt {b : Nat} {cs : Array Value} {t : TypeId} {w : World} (h : RowAt b cs t w) : b < w.heap.size := (Array.getElem?_eq_some_iff.1 h).1
theorem RowAt.later {b : Nat} {cs : Array Value} {t : TypeId} {w w' : World} (h : RowAt b cs t w) (hb : Below w.heap.size w w') : RowAt b cs t w' := by
  have e : w'.heap[b]? = w.heap[b]? := hb.block _ h.lt
  exact e.trans h
theorem RowAt.cell {b : Nat} {cs : Array Value} {t : TypeId} {w : World} (h : RowAt b cs t w) (k : Nat) : w.cell? ⟨b, k, none⟩ = cs[k]? := cell_of_row w b k cs t (0, 0) h
theorem RowAt.cls {b : Nat} {cs : Array Value} {t : TypeId} {w : World} (h : RowAt b cs t w) (k : Nat) (v : Value) (hv : cs[k]? = some v) (s : Wld w) : (wOf s).cell? ⟨b, k, none⟩ = some v := by
  rw [(h.later (wOf_below s)).cell]; exact hv

/-- Cells at an address. -/
def CsIn (b off : Nat) (cs : Array Value) (w : World) : Prop := b < w.heap.size ∧ ∀ (j : Nat) (v : Value), cs[j]? = some v → w.cell? ⟨b, off + j, none⟩ = some v
theorem CsIn.later {b off : Nat} {cs : Array Value} {w w' : World} (h : CsIn b off cs w) (hb : Below w.heap.size w w') : CsIn b off cs w' :=
  ⟨Nat.lt_of_lt_of_le h.1 hb.size, fun j v hv => by rw [hb.cell (p := ⟨b, off + j, none⟩) h.1]; exact h.2 j v hv⟩
theorem CsIn.cls {b off : Nat} {cs : Array Value} {w : World} (h : CsIn b off cs w) : ∀ w', (∃ n : Wld w, w' = wOf n) → CsIn b off cs w' := fun _ ⟨s, e⟩ => by rw [e]; exact h.later (wOf_below s)
theorem CsIn.sub {b off : Nat} {cs ds : Array Value} {w : World} (h : CsIn b off cs w) (k : Nat) (hk : ∀ j v, ds[j]? = some v → cs[k + j]? = some v) : CsIn b (off + k) ds w :=
  ⟨h.1, fun j v hv => by rw [Nat.add_assoc]; exact h.2 _ _ (hk j v hv)⟩

section
variable {P : Program}
theorem run_loadVar_in {w : World} {b off : Nat} {cs : Array Value} (h : CsIn b off cs w) {ty : TypeId} {d : TypeDesc} (hu : P.underlying ty = some d) (hd : (match d with | .struct _ | .array _ _ => true | _ => false) = true) (hi : (P.info? ty).map (·.size) = some cs.size) :
    (loadVar ty ⟨b, off, none⟩).run P w = .ok (.agg cs) w := by
  have hl : (loadCells ⟨b, off, none⟩ cs.toList.length).run P w = .ok cs.toList.toArray w :=
    run_loadCells_list (P := P) w ⟨b, off, none⟩ cs.toList (fun j v hv => by
      have hadd : (⟨b, off, none⟩ : Addr).add j = ⟨b, off + j, none⟩ := by unfold Addr.add; split <;> simp_all
      rw [hadd]
      exact h.2 j v (by simpa using hv))
  cases hq : P.info? ty with
  | none => simp [hq] at hi
  | some i =>
    have hs : i.size = cs.size := by simpa [hq] using hi
    have hagg : (isAgg ty).run P w = .ok true w := by
      unfold isAgg
      rw [Sem.run_bind, run_underlying hu w]
      cases d <;> simp_all
    simp only [Array.length_toList, Array.toArray_toList] at hl
    simp [loadVar, Sem.run_bind, hagg, sizeOf, typeInfo, hq, hs, hl]
theorem quiet_load_in {o : Oper} {a : Act} {C : World → Prop} {K : Act → Prop} (ty : TypeId) (x : Operand) (ho : o.op = .load ty x) {b off : Nat} (hx : a.eval x = .pointer (some ⟨b, off, none⟩)) {cs : Array Value} (h : ∀ w, C w → CsIn b off cs w)
    {d : TypeDesc} (hu : P.underlying ty = some d) (hd : (match d with | .struct _ | .array _ _ => true | _ => false) = true) (hi : (P.info? ty).map (·.size) = some cs.size)
    (k : K (a.put o.dst (.agg cs))) : o.quiet P a C K :=
  ⟨.agg cs, fun w hw => by
    unfold Oper.quietAt execOp
    simp only [ho, hx, Instr.loadAt, Instr.sureAddr, Sem.run_bind, Sem.run_pure, Result.andThen_ok, run_loadVar_in (h w hw) hu hd hi]
    exact ⟨rfl, rfl⟩, k⟩
end

theorem RowAt.in {b : Nat} {cs : Array Value} {t : TypeId} {w : World} (h : RowAt b cs t w) : CsIn b 0 cs w := ⟨h.lt, fun j v hv => by rw [Nat.zero_add, h.cell]; exact hv⟩
theorem RowAt.new (w : World) (cs : Array Value) (t : TypeId) : RowAt w.heap.size cs t (w.alloc (.cells cs t)) := heap_alloc_last w cs t
theorem RowAt.alloc {b : Nat} {cs : Array Value} {t : TypeId} {w : World} (h : RowAt b cs t w) (o : Obj) : RowAt b cs t (w.alloc o) := h.later (below_one w o)
theorem RowAt.below {b : Nat} {cs : Array Value} {t : TypeId} {w w' : World} (h : RowAt b cs t w) {n : Nat} (hb : Below n w w') (hn : b < n) : RowAt b cs t w' := by
  have e : w'.heap[b]? = w.heap[b]? := hb.block _ hn
  exact e.trans h
theorem RowAt.kept {b : Nat} {cs : Array Value} {t : TypeId} {S : List Nat} {w w' : World} (h : RowAt b cs t w) (k : Kept S w w') (hn : b ∉ S) : RowAt b cs t w' := k.heap h hn
theorem CsIn.kept {b off : Nat} {cs : Array Value} {S : List Nat} {w w' : World} (h : CsIn b off cs w) (k : Kept S w w') (hn : b ∉ S) : CsIn b off cs w' :=
  ⟨Nat.lt_of_lt_of_le h.1 k.size, fun j v hv => by rw [World.cell?_of_block (w := w) (k.block b h.1 hn)]; exact h.2 j v hv⟩
section
variable {P : Program} {ops : Array Oper} {rest : List Oper} {o : Oper} {a : Act} {w : World} {Q : Exit → Act → World → Prop}
/-- A struct or an array is loaded, wherever it lies. -/
theorem wpL_ld (hgd : o.guard = none) (ty : TypeId) (x : Operand) (ho : o.op = .load ty x) {b off : Nat} (hx : a.eval x = .pointer (some ⟨b, off, none⟩)) {cs : Array Value} (h : CsIn b off cs w)
    {d : TypeDesc} (hu : P.underlying ty = some d) (hd : (match d with | .struct _ | .array _ _ => true | _ => false) = true) (hi : (P.info? ty).map (·.size) = some cs.size)
    (k : wpList P ops Q rest (a.put o.dst (.agg cs)) w) : wpList P ops Q (o :: rest) a w :=
  wpList_plain hgd fun _ hK => by
    unfold Oper.wp execOp
    simp only [ho, hx, Instr.loadAt, Instr.sureAddr, Sem.run_bind, Sem.run_pure, Result.andThen_ok, run_loadVar_in h hu hd hi]
    exact hK _ _ k
/-- A new block is written whole. -/
theorem wpL_stNew (hgd : o.guard = none) (ty : TypeId) (x y : Operand) (ho : o.op = .store ty x y) {w0 : World} {z : Array Value} {t : TypeId} (hw : w = w0.alloc (.cells z t)) (hx : a.eval x = .pointer (some ⟨w0.heap.size, 0, none⟩)) {cs : Array Value} (hy : a.eval y = .agg cs)
    (hi : (P.info? ty).map (·.size) = some cs.size) (hz : z.size = cs.size) (h1 : cs.all (·.oneCell') = true)
    (k : wpList P ops Q rest (a.put o.dst undef) (w0.alloc (.cells cs t))) : wpList P ops Q (o :: rest) a w := by
  subst hw
  refine wpList_store_row hgd ty x y ho _ cs hx hy t z (heap_alloc_last _ _ _) hi hz h1 ?_
  rw [World.setRow_alloc_new]
  exact k
end

theorem hid_of' {p : Prop} (h : p) : Hid p := h
/-- Cells put into a row from a place on. -/
def putA (cs : Array Value) : Nat → List Value → Array Value
  | _, [] => cs
  | o, v :: vs => putA (cs.setIfInBounds o v) (o + 1) vs
theorem heap_setCells {g : Nat} {t : TypeId} : ∀ (vs : List Value) (o : Nat) (cs : Array Value) (w : World), w.heap[g]? = some (.cells cs t (0, 0)) → (w.setCells g o vs).heap[g]? = some (.cells (putA cs o vs) t (0, 0))
  | [], _, _, _, h => h
  | v :: vs, o, _cs, _w, h => heap_setCells vs (o + 1) _ _ (heap_setCell_at h o v)
theorem putA_size : ∀ (vs : List Value) (o : Nat) (cs : Array Value), (putA cs o vs).size = cs.size
  | [], _, _ => rfl
  | v :: vs, o, cs => by rw [putA, putA_size vs]; simp
theorem putA_list : ∀ (B' B A C : List Value), B'.length = B.length → putA (A ++ (B ++ C)).toArray A.length B' = (A ++ (B' ++ C)).toArray
  | [], B, A, C, h => by
    have : B = [] := List.length_eq_zero_iff.1 h.symm
    subst this; rfl
  | v :: B', [], A, C, h => by simp at h
  | v :: B', b :: B, A, C, h => by
    have ih := putA_list B' B (A ++ [v]) C (by simpa using h)
    have e : (A ++ (b :: B ++ C)).toArray.setIfInBounds A.length v = (A ++ [v] ++ (B ++ C)).toArray := by simp
    rw [putA, e]
    have e2 : A.length + 1 = (A ++ [v]).length := by simp
    rw [e2, ih]
    simp
theorem kept_setCells {g : Nat} : ∀ (vs : List Value) (o : Nat) (w : World), Kept [g] w (w.setCells g o vs)
  | [], _, w => Kept.refl _ w
  | v :: vs, o, w => ((Kept.refl [g] w).set (p := ⟨g, o, none⟩) (.inl (by simp)) v).trans (kept_setCells vs (o + 1) _)

/-- The cells of an operation, an act, a round, rounds, a message. -/
def opv (o : Pop) : Array Value := #[.int .i64 o.1, .int .i64 o.2.2.1, .int .i32 o.2.2.2, .int .i64 o.2.1]
def acl (a : Pac) : List Value := .int .i64 a.1.1 :: .int .i64 a.1.2.2.1 :: .int .i32 a.1.2.2.2 :: .int .i64 a.1.2.1 :: .int .i64 a.2.1 :: a.2.2.map (Value.int .i64)
def acv (a : Pac) : Array Value := (acl a).toArray
def rnl (r : Prn) : List Value := .int .i64 r.1 :: (r.2.1.map (Value.int .i64) ++ (r.2.2.1.map (Value.int .i64) ++ [.int .i64 r.2.2.2]))
def rnv (r : Prn) : Array Value := (rnl r).toArray
def rsl (l : List Prn) : List Value := (l.map rnl).flatten
def rsv (l : List Prn) : Array Value := (rsl l).toArray
def ml (m : Pms) (s : Value) : List Value := .int .i64 m.1 :: .int .i64 m.2.1 :: .int .i64 m.2.2.1 :: (m.2.2.2.1.map (Value.int .i64) ++ s :: rsl m.2.2.2.2.2)
def mv (m : Pms) (s : Value) : Array Value := (ml m s).toArray

/-- Rows of eight, where rows of eight belong. -/
def shR (r : Prn) : Prop := r.2.1.length = 8 ∧ r.2.2.1.length = 8
def shA (a : Pac) : Prop := a.2.2.length = 8
def shRs (l : List Prn) : Prop := l.length = 8 ∧ ∀ r ∈ l, shR r
def shM (m : Pms) : Prop := m.2.2.2.1.length = 8 ∧ (∀ a ∈ m.2.2.2.2.1, shA a) ∧ shRs m.2.2.2.2.2
theorem rnl_len {r : Prn} (h : shR r) : (rnl r).length = 18 := by simp [rnl, h.1, h.2]
theorem acl_len {a : Pac} (h : shA a) : (acl a).length = 13 := by unfold shA at h; simp [acl, h]
theorem rsl_len : ∀ (l : List Prn), (∀ r ∈ l, shR r) → (rsl l).length = l.length * 18
  | [], _ => rfl
  | r :: l, h => by
    have ih := rsl_len l (fun x hx => h x (by simp [hx]))
    have h1 := rnl_len (h r (by simp))
    unfold rsl at ih ⊢
    simp only [List.map_cons, List.flatten_cons, List.length_append, List.length_cons, ih, h1]
    omega
theorem ml_len {m : Pms} {s : Value} (h : shM m) : (ml m s).length = 156 := by
  have h1 := rsl_len _ h.2.2.2
  rw [h.2.2.1] at h1
  simp [ml, h.1, h1]
theorem opv_size (o : Pop) : (Tryz.prog.info? 58).map (·.size) = some (opv o).size := (by kernel_rfl : (Tryz.prog.info? 58).map (·.size) = some 4)
theorem acv_size {a : Pac} (h : shA a) : (Tryz.prog.info? 60).map (·.size) = some (acv a).size := by
  rw [show (acv a).size = 13 by simp [acv, acl_len h]]; kernel_rfl
theorem rnv_size {r : Prn} (h : shR r) : (Tryz.prog.info? 27).map (·.size) = some (rnv r).size := by
  rw [show (rnv r).size = 18 by simp [rnv, rnl_len h]]; kernel_rfl
theorem rsv_size {l : List Prn} (h : shRs l) : (Tryz.prog.info? 29).map (·.size) = some (rsv l).size := by
  rw [show (rsv l).size = 144 by simp [rsv, rsl_len l h.2, h.1]]; kernel_rfl
theorem mv_size {m : Pms} {s : Value} (h : shM m) : (Tryz.prog.info? 31).map (·.size) = some (mv m s).size := by
  rw [show (mv m s).size = 156 by simp [mv, ml_len h]]; kernel_rfl
theorem ck_size {x : List Int} (h : x.length = 8) : (Tryz.prog.info? 24).map (·.size) = some (cv x).size := by
  rw [cv_size, h]; kernel_rfl
theorem row_size {x : List Int} (h : x.length = 8) : (Tryz.prog.info? 23).map (·.size) = some (cv x).size := by
  rw [cv_size, h]; kernel_rfl
theorem ints_one (l : List Int) : ∀ v ∈ l.map (Value.int .i64), v.oneCell' = true := by
  intro v hv
  obtain ⟨x, _, rfl⟩ := List.mem_map.1 hv
  rfl
theorem cv_one (l : List Int) : (cv l).all (·.oneCell') = true := all_oneCell_toArray (ints_one l)
theorem acl_one (a : Pac) : ∀ v ∈ acl a, v.oneCell' = true := by
  intro v hv
  simp only [acl, List.mem_cons] at hv
  rcases hv with rfl | rfl | rfl | rfl | rfl | hv
  all_goals first | rfl | exact ints_one _ v hv
theorem rnl_one (r : Prn) : ∀ v ∈ rnl r, v.oneCell' = true := by
  intro v hv
  simp only [rnl, List.mem_cons, List.mem_append, List.not_mem_nil, or_false] at hv
  rcases hv with rfl | hv | hv | rfl
  all_goals first | rfl | exact ints_one _ v hv
theorem rsl_one (l : List Prn) : ∀ v ∈ rsl l, v.oneCell' = true := by
  intro v hv
  simp only [rsl, List.mem_flatten, List.mem_map] at hv
  obtain ⟨_, ⟨r, _, rfl⟩, h⟩ := hv
  exact rnl_one r v h
theorem acv_one (a : Pac) : (acv a).all (·.oneCell') = true := all_oneCell_toArray (acl_one a)
theorem rnv_one (r : Prn) : (rnv r).all (·.oneCell') = true := all_oneCell_toArray (rnl_one r)
theorem rsv_one (l : List Prn) : (rsv l).all (·.oneCell') = true := all_oneCell_toArray (rsl_one l)

/-- Where the parts lie. -/
theorem at_cons {x : Value} {l : List Value} {k j : Nat} {v : Value} (h : l[k + j]? = some v) : (x :: l)[k + 1 + j]? = some v := by
  rw [show k + 1 + j = k + j + 1 by omega]; simpa using h
theorem at_app {A B : List Value} {j : Nat} {v : Value} (h : B[j]? = some v) : (A ++ B)[A.length + j]? = some v := by
  rw [List.getElem?_append_right (by omega)]; simpa using h
theorem at_app0 {A B : List Value} {j : Nat} {v : Value} (h : A[j]? = some v) : (A ++ B)[j]? = some v := by
  rw [List.getElem?_append_left (List.getElem?_eq_some_iff.1 h).1]; exact h
theorem cv_list {x : List Int} {j : Nat} {v : Value} (h : (cv x)[j]? = some v) : (x.map (Value.int .i64))[j]? = some v := by simpa [cv] using h
theorem acv_ck (a : Pac) (j : Nat) (v : Value) (h : (cv a.2.2)[j]? = some v) : (acv a)[5 + j]? = some v := by
  have h := cv_list h
  simp only [acv, List.getElem?_toArray, acl]
  rw [show 5 + j = j + 1 + 1 + 1 + 1 + 1 by omega]
  simpa using h
theorem acv_op (a : Pac) (j : Nat) (v : Value) (h : (opv a.1)[j]? = some v) : (acv a)[0 + j]? = some v := by
  rw [Nat.zero_add]
  match j, h with
  | 0, h => exact h
  | 1, h => exact h
  | 2, h => exact h
  | 3, h => exact h
  | n + 4, h => simp [opv] at h
theorem acv_num (a : Pac) : (acv a)[4]? = some (.int .i64 a.2.1) := rfl
theorem rnv_n (r : Prn) : (rnv r)[0]? = some (.int .i64 r.1) := rfl
theorem rnv_cut (r : Prn) (j : Nat) (v : Value) (h : (cv r.2.1)[j]? = some v) : (rnv r)[1 + j]? = some v := by
  have h := cv_list h
  simp only [rnv, List.getElem?_toArray, rnl]
  rw [show 1 + j = j + 1 by omega, List.getElem?_cons_succ]
  exact at_app0 h
theorem rnv_votes {r : Prn} (hs : shR r) (j : Nat) (v : Value) (h : (cv r.2.2.1)[j]? = some v) : (rnv r)[9 + j]? = some v := by
  have h := cv_list h
  simp only [rnv, List.getElem?_toArray, rnl]
  have := at_app (A := r.2.1.map (Value.int .i64)) (at_app0 (B := [.int .i64 r.2.2.2]) h)
  rw [List.length_map, hs.1] at this
  rw [show 9 + j = 8 + j + 1 by omega, List.getElem?_cons_succ]
  exact this
theorem rnv_dec {r : Prn} (hs : shR r) : (rnv r)[17]? = some (.int .i64 r.2.2.2) := by
  simp only [rnv, List.getElem?_toArray, rnl]
  have h1 := at_app (A := r.2.2.1.map (Value.int .i64)) (B := [.int .i64 r.2.2.2]) (j := 0) (v := .int .i64 r.2.2.2) rfl
  have := at_app (A := r.2.1.map (Value.int .i64)) h1
  rw [List.length_map, List.length_map, hs.1, hs.2] at this
  rw [show 17 = 16 + 1 by omega, List.getElem?_cons_succ]
  exact this
theorem rsl_at : ∀ (l : List Prn), (∀ r ∈ l, shR r) → ∀ (i : Nat) (r : Prn), l[i]? = some r → ∀ (j : Nat) (v : Value), (rnl r)[j]? = some v → (rsl l)[i * 18 + j]? = some v
  | [], _, _, _, h, _, _, _ => by simp at h
  | x :: l, hs, 0, r, h, j, v, hv => by
    simp at h; subst h
    rw [Nat.zero_mul, Nat.zero_add]
    unfold rsl
    simp only [List.map_cons, List.flatten_cons]
    exact at_app0 hv
  | x :: l, hs, i + 1, r, h, j, v, hv => by
    have ih := rsl_at l (fun y hy => hs y (by simp [hy])) i r (by simpa using h) j v hv
    have := at_app (A := rnl x) ih
    rw [rnl_len (hs x (by simp))] at this
    rw [show (i + 1) * 18 + j = 18 + (i * 18 + j) by omega]
    exact this
theorem rsv_at {l : List Prn} (hs : shRs l) {i : Nat} {r : Prn} (h : l[i]? = some r) (j : Nat) (v : Value) (hv : (rnv r)[j]? = some v) : (rsv l)[i * 18 + j]? = some v := by
  simp only [rsv, List.getElem?_toArray]
  exact rsl_at l hs.2 i r h j v (by simpa [rnv] using hv)
theorem mv_k (m : Pms) (s : Value) : (mv m s)[0]? = some (.int .i64 m.1) := rfl
theorem mv_f (m : Pms) (s : Value) : (mv m s)[1]? = some (.int .i64 m.2.1) := rfl
theorem mv_e (m : Pms) (s : Value) : (mv m s)[2]? = some (.int .i64 m.2.2.1) := rfl
theorem mv_ck (m : Pms) (s : Value) (j : Nat) (v : Value) (h : (cv m.2.2.2.1)[j]? = some v) : (mv m s)[3 + j]? = some v := by
  have h := cv_list h
  simp only [mv, List.getElem?_toArray, ml]
  rw [show 3 + j = j + 1 + 1 + 1 by omega]
  simp only [List.getElem?_cons_succ]
  exact at_app0 h
theorem mv_a {m : Pms} (s : Value) (hs : shM m) : (mv m s)[11]? = some s := by
  simp only [mv, List.getElem?_toArray, ml]
  have := at_app (A := m.2.2.2.1.map (Value.int .i64)) (B := s :: rsl m.2.2.2.2.2) (j := 0) (v := s) rfl
  rw [List.length_map, hs.1] at this
  rw [show 11 = 8 + 1 + 1 + 1 by omega]
  simp only [List.getElem?_cons_succ]
  exact this
theorem mv_rs {m : Pms} (s : Value) (hs : shM m) (j : Nat) (v : Value) (h : (rsv m.2.2.2.2.2)[j]? = some v) : (mv m s)[12 + j]? = some v := by
  simp only [rsv, List.getElem?_toArray] at h
  simp only [mv, List.getElem?_toArray, ml]
  have := at_app (A := m.2.2.2.1.map (Value.int .i64)) (B := s :: rsl m.2.2.2.2.2) (j := j + 1) (v := v) (by simpa using h)
  rw [List.length_map, hs.1] at this
  rw [show 12 + j = 8 + (j + 1) + 1 + 1 + 1 by omega]
  simp only [List.getElem?_cons_succ]
  exact this
theorem ext_of {cs ds : Array Value} {a n : Nat} (hn : ds.size = n) (hc : a + n ≤ cs.size) (h : ∀ j v, ds[j]? = some v → cs[a + j]? = some v) : cs.extract a (a + n) = ds := by
  apply Array.ext
  · simp; omega
  · intro i h1 h2
    have h3 : ds[i]? = some ds[i] := Array.getElem?_eq_getElem h2
    have h4 := h i _ h3
    rw [Array.getElem_extract]
    exact (Array.getElem?_eq_some_iff.1 h4).2
theorem rsv_ext {l : List Prn} (hs : shRs l) {i : Nat} {r : Prn} (h : l[i]? = some r) : (rsv l).extract (i * 18) (i * 18 + 18) = rnv r := by
  have hr := hs.2 r (List.mem_of_getElem? h)
  have hi := (List.getElem?_eq_some_iff.1 h).1
  exact ext_of (by simp [rnv, rnl_len hr]) (by simp [rsv, rsl_len l hs.2]; omega) (rsv_at hs h)

/-- Acts in memory. -/
def AcsAt (g o_ : Nat) (l : List Pac) (w : World) : Prop := g < w.heap.size ∧ ∀ i a, l[i]? = some a → CsIn g (o_ + i * 13) (acv a) w
def SlA (w : World) (v : Value) (l : List Pac) : Prop := (l = [] ∧ ∃ a c, v = .slice a 0 c) ∨ ∃ g o_ c, v = .slice (some ⟨g, o_, none⟩) l.length c ∧ AcsAt g o_ l w
theorem AcsAt.later {g o_ : Nat} {l : List Pac} {w w' : World} (h : AcsAt g o_ l w) (hb : Below w.heap.size w w') : AcsAt g o_ l w' := ⟨Nat.lt_of_lt_of_le h.1 hb.size, fun i a hi => (h.2 i a hi).later hb⟩
theorem SlA.later {w w' : World} {v : Value} {l : List Pac} (h : SlA w v l) (hb : Below w.heap.size w w') : SlA w' v l := by
  rcases h with ⟨h1, h2⟩ | ⟨g, o_, c, h1, h2⟩
  · exact .inl ⟨h1, h2⟩
  · exact .inr ⟨g, o_, c, h1, h2.later hb⟩
theorem SlA.form {w : World} {v : Value} {l : List Pac} (h : SlA w v l) : ∃ a c, v = .slice a l.length c := by
  rcases h with ⟨rfl, a, c, h2⟩ | ⟨g, o_, c, h1, _⟩
  · exact ⟨a, c, h2⟩
  · exact ⟨_, c, h1⟩
theorem slA_one {w : World} {v : Value} {l : List Pac} (h : SlA w v l) : v.oneCell' = true := by obtain ⟨a, c, rfl⟩ := h.form; rfl
theorem mv_one (m : Pms) {s : Value} (hs : s.oneCell' = true) : (mv m s).all (·.oneCell') = true := all_oneCell_toArray (by
  intro v hv
  simp only [ml, List.mem_cons, List.mem_append] at hv
  rcases hv with rfl | rfl | rfl | hv | rfl | hv
  all_goals first | rfl | exact ints_one _ v hv | exact hs | exact rsl_one _ v hv)
end Go.Proofs.YteffpnjgchihpaaGreatDoor
