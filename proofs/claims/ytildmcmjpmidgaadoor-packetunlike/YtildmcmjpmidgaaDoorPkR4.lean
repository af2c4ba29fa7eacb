
/-
  What a kind uses; Right.
-/
import Derived.Test.YtildmcmjpmidgaaDoorPkR3
namespace Go.Proofs.YtildmcmjpmidgaaDoor
open Go.RowKit
set_option maxRecDepth 100000

section
variable {P : Program}
theorem run_alloc_z {ty : TypeId} {z : Array Value} (hz : (P.info? ty).bind (·.zero) = some (.agg z)) (w : World) : (Instr.alloc ty true (.tuple #[])).run P w = .ok (.pointer (some ⟨w.heap.size, 0, none⟩)) (w.alloc (.cells z ty)) := by
  cases hq : P.info? ty with
  | none => simp [hq] at hz
  | some i =>
    have hi : i.zero = some (.agg z) := by simpa [hq] using hz
    simp [Instr.alloc, zeroValue, typeInfo, hq, hi, newVar, newRow, Value.cells, Sem.run_bind]
theorem wpL_alloc {ops : Array Oper} {rest : List Oper} {o : Oper} {a : Act} {w : World} {Q : Exit → Act → World → Prop} (hgd : o.guard = none) (ty : TypeId) (ho : o.op = .alloc ty) {z : Array Value} (hz : (P.info? ty).bind (·.zero) = some (.agg z))
    (k : wpList P ops Q rest (a.put o.dst (.pointer (some ⟨w.heap.size, 0, none⟩))) (w.alloc (.cells z ty))) : wpList P ops Q (o :: rest) a w :=
  wpList_plain hgd fun _ hK => by
    unfold Oper.wp execOp
    simp only [ho, Sem.run_bind, run_alloc_z hz, Result.andThen_ok]
    exact hK _ _ k
end
/-- The zero message. -/
def zeroM : Pms := (0, 0, 0, zero8, [], zeroRs)
theorem zero_ms : (Tryd.prog.info? 30).bind (·.zero) = some (.agg (mv zeroM (.slice none 0 0))) := by kernel_rfl
theorem zeroRs_sh : shRs zeroRs := ⟨rfl, fun r hr => by rw [List.eq_of_mem_replicate hr]; exact zeroR_sh⟩
theorem zeroM_sh : shM zeroM := ⟨rfl, fun a ha => (by simp [zeroM] at ha), zeroRs_sh⟩
/-- What a kind uses. -/
def useC (m : Pms) : List Int := if m.1 = 2 then m.2.2.2.1 else zero8
def useA (m : Pms) : Nat := if m.1 = 1 ∨ m.1 = 3 then m.2.2.2.2.1.length else 0
def useR (m : Pms) : List Prn := if m.1 = 3 ∨ m.1 = 4 then m.2.2.2.2.2 else zeroRs
def usesB (m : Pms) : Bool := decide (m.2.2.2.2.1.length = useA m) && (m.2.2.2.1 == useC m) && (m.2.2.2.2.2 == useR m)

theorem CsIn.msC {b : Nat} {m : Pms} {s : Value} {w : World} (h : CsIn b 0 (mv m s) w) : CsIn b 3 (cv m.2.2.2.1) w := by
  have := h.sub (ds := cv m.2.2.2.1) 3 (mv_ck m s)
  rwa [Nat.zero_add] at this
theorem CsIn.msR {b : Nat} {m : Pms} {s : Value} {w : World} (h : CsIn b 0 (mv m s) w) (hs : shM m) : CsIn b 12 (rsv m.2.2.2.2.2) w := by
  have := h.sub (ds := rsv m.2.2.2.2.2) 12 (mv_rs s hs)
  rwa [Nat.zero_add] at this
theorem mv_setA {m : Pms} {s s' : Value} (hs : shM m) : (mv m s).setIfInBounds 11 s' = mv m s' := by
  have h := hs.1
  have e : (m.2.2.2.1.map (Value.int .i64) ++ s :: rsl m.2.2.2.2.2).set 8 s' = m.2.2.2.1.map (Value.int .i64) ++ s' :: rsl m.2.2.2.2.2 := by
    rw [List.set_append_right _ _ (by simp [h])]
    simp [h]
  simp only [mv, ml, List.setIfInBounds_toArray, List.set_cons_succ, e]
theorem mv_putC {m : Pms} {s : Value} (hs : shM m) {c : List Int} (hc : c.length = 8) : putA (mv m s) 3 (cv c).toList = mv (m.1, m.2.1, m.2.2.1, c, m.2.2.2.2) s :=
  putA_list (c.map (Value.int .i64)) (m.2.2.2.1.map (Value.int .i64)) [.int .i64 m.1, .int .i64 m.2.1, .int .i64 m.2.2.1] (s :: rsl m.2.2.2.2.2) (by simp [hc, hs.1])
theorem mv_putR {m : Pms} {s : Value} (hs : shM m) {R : List Prn} (hR : shRs R) : putA (mv m s) 12 (rsv R).toList = mv (m.1, m.2.1, m.2.2.1, m.2.2.2.1, m.2.2.2.2.1, R) s := by
  have h := putA_list (rsl R) (rsl m.2.2.2.2.2) (.int .i64 m.1 :: .int .i64 m.2.1 :: .int .i64 m.2.2.1 :: (m.2.2.2.1.map (Value.int .i64) ++ [s])) [] (by rw [rsl_len R hR.2, rsl_len _ hs.2.2.2, hR.1, hs.2.2.1])
  have hl : (.int .i64 m.1 :: .int .i64 m.2.1 :: .int .i64 m.2.2.1 :: (m.2.2.2.1.map (Value.int .i64) ++ [s])).length = 12 := by simp [hs.1]
  rw [hl] at h
  simp only [List.append_nil, List.cons_append, List.append_assoc, List.nil_append] at h
  exact h
theorem there_ms {g : Nat} {cs : Array Value} {t : TypeId} {w : World} (h : RowAt g cs t w) {o n : Nat} (hn : o + n ≤ cs.size) : w.there g o n := fun j hj => ⟨by rw [h.cell, Array.getElem?_eq_getElem (by omega)]; rfl, frozenW_of h _⟩
theorem two_boxes (w : World) (A B : Array Value) (s t : TypeId) : RowAt w.heap.size A s ((w.alloc (.cells A s)).alloc (.cells B t)) ∧ RowAt (w.heap.size + 1) B t ((w.alloc (.cells A s)).alloc (.cells B t)) ∧ Below w.heap.size w ((w.alloc (.cells A s)).alloc (.cells B t)) := by
  have h := RowAt.new (w.alloc (.cells A s)) B t
  rw [World.size_alloc] at h
  exact ⟨(RowAt.new w A s).alloc _, h, bgo (below_one w _) (below_one _ _)⟩
theorem row_kept1 {a g : Nat} {cs : Array Value} {t : TypeId} {w w' : World} (h : RowAt a cs t w) (k : Kept [g] w w') (hn : a ≠ g) : RowAt a cs t w' := h.kept k (by simpa using hn)
theorem below_kept1 {n g : Nat} {a w w' : World} (h : Below n a w) (k : Kept [g] w w') (hg : n ≤ g) (hw : n ≤ w.heap.size) : Below n a w' := h.trans (k.below (by simpa using hg) hw)

end Go.Proofs.YtildmcmjpmidgaaDoor
