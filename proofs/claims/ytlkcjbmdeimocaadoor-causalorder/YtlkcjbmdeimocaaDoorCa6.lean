
/-
  Acts held against one another; barrowlaw11.wakes; CausalNames.
-/
import Derived.Test.YtlkcjbmdeimocaaDoorCa5
namespace Go.Proofs.YtlkcjbmdeimocaaDoor
open Go.RowKit Go.Maps
set_option maxRecDepth 100000

/-- Are two acts alike? -/
def oeq (x y : Ac) : Bool := x.kind == y.kind && (x.at' == y.at' && (x.char == y.char && x.rep == y.rep))
def aeq (x y : Ac) : Bool := oeq x y && (x.num == y.num && x.ck == y.ck)
theorem aeq_iff {x y : Ac} : aeq x y = true ↔ x = y := by
  unfold aeq oeq
  simp only [Bool.and_eq_true, beq_iff_eq]
  constructor
  · rintro ⟨⟨h1, h2, h3, h4⟩, h5, h6⟩
    cases x; cases y; simp_all
  · rintro rfl
    exact ⟨⟨rfl, rfl, rfl, rfl⟩, rfl, rfl⟩
theorem aeq_self (x : Ac) : aeq x x = true := aeq_iff.2 rfl
/-- The cells of its operation. -/
def opc (x : Ac) : Array Value := #[.int .i64 x.kind, .int .i64 x.at', .int .i32 x.char, .int .i64 x.rep]
theorem szIntC (w : World) : (sizeOf 3).run Tryd.prog w = .ok 1 w := by kernel_rfl
theorem partI {cs : Array Value} {o : Nat} {v : Value} (h : cs[o]? = some v) (w : World) : (part 3 cs o).run Tryd.prog w = .ok v w := by
  simp [part, isAgg, run_underlying Tryd.underlying3, h]
theorem partI32 {cs : Array Value} {o : Nat} {v : Value} (h : cs[o]? = some v) (w : World) : (part 21 cs o).run Tryd.prog w = .ok v w := by
  simp [part, isAgg, run_underlying Tryd.underlying21, h]
theorem ext_op (x : Ac) : (acv x).extract 0 4 = opc x := by
  unfold acv opc
  rw [Array.extract_append]
  simp
theorem ext_ck (x : Ac) (h : x.ck.length = 8) : (acv x).extract 5 13 = cv x.ck := by
  have := cv_size x.ck
  unfold acv
  rw [Array.extract_append]
  simp only [List.size_toArray, List.length_cons, List.length_nil]
  have e : (cv x.ck).extract (5 - 5) (13 - 5) = cv x.ck := by
    have h8 : (cv x.ck).size = 13 - 5 := by rw [this, h]
    rw [← h8]
    exact Array.extract_size
  rw [e]
  simp
theorem szOpC (w : World) : (sizeOf 46).run Tryd.prog w = .ok 4 w := by kernel_rfl
theorem szCkC (w : World) : (sizeOf 44).run Tryd.prog w = .ok 8 w := by kernel_rfl
theorem part_op (x : Ac) (w : World) : (part 46 (acv x) 0).run Tryd.prog w = .ok (.agg (opc x)) w := by
  simp [part, isAgg, run_underlying Tryd.underlying46, ext_op]
theorem part_ckA (x : Ac) (h : x.ck.length = 8) (w : World) : (part 44 (acv x) 5).run Tryd.prog w = .ok (.agg (cv x.ck)) w := by
  simp [part, isAgg, run_underlying Tryd.underlying44, ext_ck x h]
theorem eqIn_op (d : Nat) (x y : Ac) (w : World) : (Op.equalIn (d + 3) 46 (.agg (opc x)) (.agg (opc y))).run Tryd.prog w = .ok (oeq x y) w := by
  rw [run_equalIn_struct w (d + 2) 46 _ _ (by kernel_rfl) (by kernel_rfl), oeq]
  have p1 := fun w => partI (cs := opc x) (o := 0) (v := .int .i64 x.kind) rfl w
  have p2 := fun w => partI (cs := opc y) (o := 0) (v := .int .i64 y.kind) rfl w
  have p3 := fun w => partI (cs := opc x) (o := 1) (v := .int .i64 x.at') rfl w
  have p4 := fun w => partI (cs := opc y) (o := 1) (v := .int .i64 y.at') rfl w
  have p5 := fun w => partI32 (cs := opc x) (o := 2) (v := .int .i32 x.char) rfl w
  have p6 := fun w => partI32 (cs := opc y) (o := 2) (v := .int .i32 y.char) rfl w
  have p7 := fun w => partI (cs := opc x) (o := 3) (v := .int .i64 x.rep) rfl w
  have p8 := fun w => partI (cs := opc y) (o := 3) (v := .int .i64 y.rep) rfl w
  have q1 := fun w => run_equalIn_int (P := Tryd.prog) w (d + 1) 3 .i64 .i64 x.kind y.kind Tryd.underlying3
  have q2 := fun w => run_equalIn_int (P := Tryd.prog) w (d + 1) 3 .i64 .i64 x.at' y.at' Tryd.underlying3
  have q3 := fun w => run_equalIn_int (P := Tryd.prog) w (d + 1) 21 .i32 .i32 x.char y.char Tryd.underlying21
  have q4 := fun w => run_equalIn_int (P := Tryd.prog) w (d + 1) 3 .i64 .i64 x.rep y.rep Tryd.underlying3
  simp only [Program.fieldsOf, Tryd.underlying46, Op.eqFields]
  cases h1 : (x.kind == y.kind) <;> cases h2 : (x.at' == y.at') <;> cases h3 : (x.char == y.char) <;> cases h4 : (x.rep == y.rep) <;> simp [Sem.run_bind, p1, p2, p3, p4, p5, p6, p7, p8, q1, q2, q3, q4, h1, h2, h3, h4]
theorem eqIn_act {x y : Ac} (hx : x.Fit) (hy : y.Fit) (w : World) : (Op.equalIn 10000 48 (.agg (acv x)) (.agg (acv y))).run Tryd.prog w = .ok (aeq x y) w := by
  rw [run_equalIn_struct w 9999 48 _ _ (by kernel_rfl) (by kernel_rfl), aeq]
  have p1 := fun w => part_op x w
  have p2 := fun w => part_op y w
  have p3 := fun w => partI (acv_num x) w
  have p4 := fun w => partI (acv_num y) w
  have p5 := fun w => part_ckA x hx.1.1 w
  have p6 := fun w => part_ckA y hy.1.1 w
  have q1 := fun w => eqIn_op 9996 x y w
  have q2 := fun w => run_equalIn_int (P := Tryd.prog) w 9998 3 .i64 .i64 x.num y.num Tryd.underlying3
  have q3 := fun w => run_equalIn_ints w 9997 44 3 8 Tryd.underlying44 Tryd.underlying3 szIntC x.ck y.ck hx.1.1 hy.1.1
  simp only [Program.fieldsOf, Tryd.underlying48, Op.eqFields]
  cases h1 : oeq x y <;> cases h2 : (x.num == y.num) <;> cases h3 : (x.ck == y.ck) <;> simp [Sem.run_bind, p1, p2, p3, p4, p5, p6, q1, q2, q3, h1, h2, h3]
theorem act_guard : Tryd.prog.eqGuardType Tryd.prog.depth 48 = false := by kernel_rfl
end Go.Proofs.YtlkcjbmdeimocaaDoor
