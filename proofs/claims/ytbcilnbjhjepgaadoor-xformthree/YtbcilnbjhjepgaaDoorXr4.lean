
/-
  Three operations in six orders.
-/
import Derived.Test.YtbcilnbjhjepgaaDoorXr3
namespace Go.Proofs.YtbcilnbjhjepgaaDoor
open Go.RowKit
set_option maxRecDepth 100000

theorem tO_ge (a b : Xo) : a.p ≤ (tO a b).p := by
  unfold tO
  split
  · show a.p ≤ a.p + 1; omega
  · exact Int.le_refl _
/-- The six orders, one behind the other. -/
def six (a b c : Xo) : List Xo := [a, b, c, a, c, b, b, a, c, b, c, a, c, a, b, c, b, a]
/-- Three operations, each as it must be behind those ahead of it. -/
def way (x y z : Xo) : List Xo := [x, tO y x, tO (tO z x) (tO y x)]
/-- What is asked of three operations. -/
structure Tri (l : List El) (x y z : Xo) : Prop where
  vx : validO x l.length = true
  vy : validO y l.length = true
  vz : validO z l.length = true
  xy : x.r ≠ y.r
  xz : x.r ≠ z.r
  yz : y.r ≠ z.r
theorem Tri.a {l : List El} {x y z : Xo} (h : Tri l x y z) : Tri l y x z := ⟨h.vy, h.vx, h.vz, Ne.symm h.xy, h.yz, h.xz⟩
theorem Tri.b {l : List El} {x y z : Xo} (h : Tri l x y z) : Tri l x z y := ⟨h.vx, h.vz, h.vy, h.xz, h.xy, Ne.symm h.yz⟩
theorem way_runs (l : List El) (x y z : Xo) : runs l (named (way x y z)) = runs l [(x, ⟨4, x.r, 1⟩), (tO y x, ⟨4, y.r, 1⟩), (tO (tO z x) (tO y x), ⟨4, z.r, 1⟩)] := by
  simp only [named, way, List.map_cons, List.map_nil, tO_r]
theorem way_a {l : List El} {x y z : Xo} (h : Tri l x y z) (hl : l.length ≤ 1000) : runs l (named (way x y z)) = runs l (named (way y x z)) := by
  rw [way_runs, way_runs]
  exact six_a h.vx h.vy h.vz (by omega) h.xy h.xz h.yz
theorem way_b {l : List El} {x y z : Xo} (h : Tri l x y z) (hl : l.length ≤ 1000) : runs l (named (way x y z)) = runs l (named (way x z y)) := by
  rw [way_runs, way_runs]
  exact six_b h.vx h.vy h.vz (by omega) h.yz
/-- Each of the six orders. -/
theorem six_all {l : List El} {a b c : Xo} (h : Tri l a b c) (hl : l.length ≤ 1000) (k : Nat) (hk : k < 6) : ∃ x y z, (six a b c)[k * 3]? = some x ∧ (six a b c)[k * 3 + 1]? = some y ∧ (six a b c)[k * 3 + 2]? = some z ∧ Tri l x y z ∧ runs l (named (way x y z)) = runs l (named (way a b c)) := by
  match k, hk with
  | 0, _ => exact ⟨a, b, c, rfl, rfl, rfl, h, rfl⟩
  | 1, _ => exact ⟨a, c, b, rfl, rfl, rfl, h.b, (way_b h hl).symm⟩
  | 2, _ => exact ⟨b, a, c, rfl, rfl, rfl, h.a, (way_a h hl).symm⟩
  | 3, _ => exact ⟨b, c, a, rfl, rfl, rfl, h.a.b, ((way_a h hl).trans (way_b h.a hl)).symm⟩
  | 4, _ => exact ⟨c, a, b, rfl, rfl, rfl, h.b.a, ((way_b h hl).trans (way_a h.b hl)).symm⟩
  | 5, _ => exact ⟨c, b, a, rfl, rfl, rfl, h.b.a.b, (((way_b h hl).trans (way_a h.b hl)).trans (way_b h.b.a hl)).symm⟩
  | m + 6, hk => exact absurd hk (by omega)
/-- All that done asks. -/
theorem way_ask {l : List El} {x y z : Xo} (h : Tri l x y z) (hl : l.length ≤ 1000) (h3 : ∀ e ∈ l, e.ep = 3) : okS l (named (way x y z)) ∧ frS l (named (way x y z)) := by
  have rr : ∀ o : Xo, validO o l.length = true → 0 ≤ o.r ∧ o.r < 8 := fun o ho => by
    have := validO_right ho
    unfold rightO at this
    simp at this
    exact this.1
  refine ⟨?_, fr_of _ _ (named_new h3) ?_ (named_in ?_)⟩
  · have := six_ok (i := ⟨4, x.r, 1⟩) (j := ⟨4, y.r, 1⟩) (k := ⟨4, z.r, 1⟩) h.vx h.vy h.vz (by omega)
    simpa only [named, way, List.map_cons, List.map_nil, tO_r] using this
  · simp only [named, way, List.map_cons, List.map_nil, List.pairwise_cons, List.mem_cons, List.not_mem_nil, or_false, forall_eq_or_imp, forall_eq, false_implies, implies_true, List.Pairwise.nil, and_true, tO_r]
    exact ⟨⟨fun _ _ q => h.xy (congrArg Idn.b q), fun _ _ q => h.xz (congrArg Idn.b q)⟩, fun _ _ q => h.yz (congrArg Idn.b q)⟩
  · intro o ho
    simp only [way, List.mem_cons, List.not_mem_nil, or_false] at ho
    rcases ho with rfl | rfl | rfl
    · exact rr _ h.vx
    · rw [tO_r]; exact rr _ h.vy
    · rw [tO_r, tO_r]; exact rr _ h.vz
/-- A list of three operations has been laid. -/
def SoW (a b c : Xo) (v : Value) (x : World) : Prop := SlO x v [a, b, c] ∧ ∃ g : Nat, v = .slice (some ⟨g, 0, none⟩) 3 3
theorem SoW.later {a b c : Xo} {v : Value} {x x' : World} (h : SoW a b c v x) (hb : Below x.heap.size x x') : SoW a b c v x' := ⟨h.1.later hb, h.2⟩
theorem sow_new (x : World) (a b c : Xo) : SoW a b c (.slice (some ⟨x.heap.size, 0, none⟩) 3 3) (x.alloc (.cells (ocells [a, b, c]).toArray 24)) := ⟨so_new x [a, b, c] 3 3 rfl, _, rfl⟩
/-- Operations that lie in a row of their own. -/
theorem os_row {g : Nat} {l : List Xo} {t : TypeId} {w : World} (hr : RowAt g (ocells l).toArray t w) : OsAt g 0 l w := fun i o ho => ⟨hr.lt, fun j v hv => by
  rw [hr.cell]
  have := ocells_at l i o ho j v hv
  rw [show 0 + i * 4 + j = i * 4 + j by omega]
  simpa using this⟩
theorem built3 (a b c : Xo) : Tryd.prog.built 44 [(0, .agg (ov a)), (1, .agg (ov b)), (2, .agg (ov c))] = some (ocells [a, b, c]).toArray := by kernel_rfl
theorem built6 (a b c : Xo) : Tryd.prog.built 45 [(0, .agg (ocells [a, b, c]).toArray), (1, .agg (ocells [a, c, b]).toArray), (2, .agg (ocells [b, a, c]).toArray), (3, .agg (ocells [b, c, a]).toArray), (4, .agg (ocells [c, a, b]).toArray), (5, .agg (ocells [c, b, a]).toArray)] = some (ocells (six a b c)).toArray := by kernel_rfl
theorem size72 (l : List Xo) (h : l.length = 18) : (Tryd.prog.info? 45).map (·.size) = some (ocells l).toArray.size := by
  have h2 : ∀ l : List Xo, (ocells l).length = l.length * 4 := fun l => by
    induction l with
    | nil => rfl
    | cons o l ih => simp only [ocells, List.length_cons, ih]; omega
  rw [List.size_toArray, h2, h]
  exact (by kernel_rfl : (Tryd.prog.info? 45).map (·.size) = some 72)
section
variable {ops : Array Oper} {rest : List Oper} {o : Oper} {A : Act} {w : World} {Q : Exit → Act → World → Prop}
theorem wpL_build3 (hg : o.guard = none) (x y z : Operand) (ho : o.op = .build 44 #[(0, x), (1, y), (2, z)]) {a b c : Xo} (hx : A.eval x = .agg (ov a)) (hy : A.eval y = .agg (ov b)) (hz : A.eval z = .agg (ov c))
    (h : wpList Tryd.prog ops Q rest (A.put o.dst (.agg (ocells [a, b, c]).toArray)) w) : wpList Tryd.prog ops Q (o :: rest) A w := by
  have e : Tryd.prog.built 44 ((#[(0, x), (1, y), (2, z)] : Array (Nat × Operand)).map fun (i, x) => (i, A.eval x)).toList = some (ocells [a, b, c]).toArray := by
    simp only [List.map_toArray, List.map_cons, List.map_nil, hx, hy, hz]
    exact built3 a b c
  exact wpList_build hg _ _ ho (by rw [e]; rfl) (by rw [e]; exact h)
theorem wpL_build6 (hg : o.guard = none) (x0 x1 x2 x3 x4 x5 : Operand) (ho : o.op = .build 45 #[(0, x0), (1, x1), (2, x2), (3, x3), (4, x4), (5, x5)]) {a b c : Xo} (h0 : A.eval x0 = .agg (ocells [a, b, c]).toArray) (h1 : A.eval x1 = .agg (ocells [a, c, b]).toArray) (h2 : A.eval x2 = .agg (ocells [b, a, c]).toArray) (h3 : A.eval x3 = .agg (ocells [b, c, a]).toArray) (h4 : A.eval x4 = .agg (ocells [c, a, b]).toArray) (h5 : A.eval x5 = .agg (ocells [c, b, a]).toArray)
    (h : wpList Tryd.prog ops Q rest (A.put o.dst (.agg (ocells (six a b c)).toArray)) w) : wpList Tryd.prog ops Q (o :: rest) A w := by
  have e : Tryd.prog.built 45 ((#[(0, x0), (1, x1), (2, x2), (3, x3), (4, x4), (5, x5)] : Array (Nat × Operand)).map fun (i, x) => (i, A.eval x)).toList = some (ocells (six a b c)).toArray := by
    simp only [List.map_toArray, List.map_cons, List.map_nil, h0, h1, h2, h3, h4, h5]
    exact built6 a b c
  exact wpList_build hg _ _ ho (by rw [e]; rfl) (by rw [e]; exact h)
/-- An operation lies in a block of its own. -/
structure InX (g : Nat) (e : Xo) (x : World) : Prop where
  cs : CsIn g 0 (ov e) x
theorem wpL_loadX (hgd : o.guard = none) (x : Operand) (ho : o.op = .load 24 x) {b : Nat} (hx : A.eval x = .pointer (some ⟨b, 0, none⟩)) {e : Xo} (h : InX b e w)
    (k : wpList Tryd.prog ops Q rest (A.put o.dst (.agg (ov e))) w) : wpList Tryd.prog ops Q (o :: rest) A w := wpL_loadO hgd x ho hx h.cs k
theorem one_cells : ∀ l : List Xo, (ocells l).toArray.all (·.oneCell') = true := fun l => by
  rw [List.all_toArray]
  induction l with
  | nil => rfl
  | cons o l ih => simp only [ocells, List.all_cons, ih, Bool.and_true]; rfl
theorem wpL_store72 (hgd : o.guard = none) (x y : Operand) (ho : o.op = .store 45 x y) {g : Nat} (hx : A.eval x = .pointer (some ⟨g, 0, none⟩)) {l : List Xo} (hl : l.length = 18) (hy : A.eval y = .agg (ocells l).toArray) {old : Array Value} (h : RowAt g old 45 w) (ho2 : old.size = 72)
    (k : wpList Tryd.prog ops Q rest (A.put o.dst undef) (w.setRow g (ocells l).toArray)) : wpList Tryd.prog ops Q (o :: rest) A w := by
  have hs := size72 l hl
  have hs2 : (ocells l).toArray.size = 72 := by
    have := hs.symm.trans (by kernel_rfl : (Tryd.prog.info? 45).map (·.size) = some 72)
    simpa using this
  exact wpList_store_row hgd _ x y ho g (ocells l).toArray hx hy _ _ h hs (ho2.trans hs2.symm) (one_cells l) k
theorem wpL_storeX (hgd : o.guard = none) (x y : Operand) (ho : o.op = .store 45 x y) {w1 : World} (hx : A.eval x = .pointer (some ⟨w1.heap.size, 0, none⟩)) {l : List Xo} (hl : l.length = 18) (hy : A.eval y = .agg (ocells l).toArray) {old : Array Value} (ho2 : old.size = 72)
    (k : ∀ w' g, g = w1.heap.size → RowAt g (ocells l).toArray 45 w' → Below w1.heap.size w1 w' → wpList Tryd.prog ops Q rest (A.put o.dst undef) w') : wpList Tryd.prog ops Q (o :: rest) A (w1.alloc (.cells old 45)) :=
  wpL_store72 hgd x y ho hx hl hy (row_new w1 _ _) ho2 (k _ _ rfl ((row_new w1 _ _).put _) (below_row (below_one w1 _) (Nat.le_refl _) _))
end
end Go.Proofs.YtbcilnbjhjepgaaDoor
