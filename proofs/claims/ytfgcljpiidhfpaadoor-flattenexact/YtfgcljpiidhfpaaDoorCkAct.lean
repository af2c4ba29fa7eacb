
/-
  Rows of cells at an address; an Act; clock.Has, clock.Ready and the document's.
-/
import Derived.Test.YtfgcljpiidhfpaaDoorCkTick
namespace Go.Proofs.YtfgcljpiidhfpaaDoor
open Go.RowKit
set_option maxRecDepth 100000

/-- Cells at an address. -/
def CsIn (b off : Nat) (cs : Array Value) (w : World) : Prop := b < w.heap.size ∧ ∀ (j : Nat) (v : Value), cs[j]? = some v → w.cell? ⟨b, off + j, none⟩ = some v
theorem CsIn.later {b off : Nat} {cs : Array Value} {w w' : World} (h : CsIn b off cs w) (hb : Below w.heap.size w w') : CsIn b off cs w' :=
  ⟨Nat.lt_of_lt_of_le h.1 hb.size, fun j v hv => by rw [hb.cell (p := ⟨b, off + j, none⟩) h.1]; exact h.2 j v hv⟩
theorem CsIn.cls {b off : Nat} {cs : Array Value} {w : World} (h : CsIn b off cs w) : ∀ w', (∃ n : Wld w, w' = wOf n) → CsIn b off cs w' := fun _ ⟨s, e⟩ => by rw [e]; exact h.later (wOf_below s)
theorem CsIn.sub {b off : Nat} {cs ds : Array Value} {w : World} (h : CsIn b off cs w) (k : Nat) (hk : ∀ j v, ds[j]? = some v → cs[k + j]? = some v) : CsIn b (off + k) ds w :=
  ⟨h.1, fun j v hv => by rw [Nat.add_assoc]; exact h.2 _ _ (hk j v hv)⟩
theorem CkAt.in {b : Nat} {x : List Int} {w : World} (h : CkAt b x w) : CsIn b 0 (cv x) w := ⟨h.lt, fun j v hv => by rw [Nat.zero_add, cell_of_row w b j _ _ _ h.1]; exact hv⟩

section
variable {P : Program}
theorem run_loadVar_in {w : World} {b off : Nat} {cs : Array Value} (h : CsIn b off cs w) {ty : TypeId} {d : TypeDesc} (hu : P.underlying ty = some d) (hd : (match d with | .struct _ | .array _ _ => true | _ => false) = true) (hi : (P.info? ty).map (·.size) = some cs.size) :
    (loadVar ty ⟨b, off, none⟩).run P w = .ok (.agg cs) w := by
  have hl : (loadCells ⟨b, off, none⟩ cs.toList.length).run P w = .ok cs.toList.toArray w :=
    run_loadCells_list (P := P) w ⟨b, off, none⟩ cs.toList (fun j v hv => by
      have hadd : (⟨b, off, none⟩ : Addr).add j = ⟨b, off + j, none⟩ := by unfold Addr.add; split <;> simp_all
      rw [hadd]
      exact h.2 j v (by simpa using hv))
  cases hq : P.info? ty with
  | none => simp [hq] at hi
  | some i =>
    have hs : i.size = cs.size := by simpa [hq] using hi
    have hagg : (isAgg ty).run P w = .ok true w := by
      unfold isAgg
      rw [Sem.run_bind, run_underlying hu w]
      cases d <;> simp_all
    simp only [Array.length_toList, Array.toArray_toList] at hl
    simp [loadVar, Sem.run_bind, hagg, sizeOf, typeInfo, hq, hs, hl]
theorem quiet_load_in {o : Oper} {a : Act} {C : World → Prop} {K : Act → Prop} (ty : TypeId) (x : Operand) (ho : o.op = .load ty x) {b off : Nat} (hx : a.eval x = .pointer (some ⟨b, off, none⟩)) {cs : Array Value} (h : ∀ w, C w → CsIn b off cs w)
    {d : TypeDesc} (hu : P.underlying ty = some d) (hd : (match d with | .struct _ | .array _ _ => true | _ => false) = true) (hi : (P.info? ty).map (·.size) = some cs.size)
    (k : K (a.put o.dst (.agg cs))) : o.quiet P a C K :=
  ⟨.agg cs, fun w hw => by
    unfold Oper.quietAt execOp
    simp only [ho, hx, Instr.loadAt, Instr.sureAddr, Sem.run_bind, Sem.run_pure, Result.andThen_ok, run_loadVar_in (h w hw) hu hd hi]
    exact ⟨rfl, rfl⟩, k⟩
end

theorem RowAt.in {b : Nat} {cs : Array Value} {t : TypeId} {w : World} (h : RowAt b cs t w) : CsIn b 0 cs w := ⟨h.lt, fun j v hv => by rw [Nat.zero_add, h.cell]; exact hv⟩
theorem CkAt.cls {b : Nat} {x : List Int} {w : World} (h : CkAt b x w) {k : Nat} (hk : k < 8) (s : Wld w) : (wOf s).cell? ⟨b, k, none⟩ = some (.int .i64 (en x k)) := (h.later (wOf_below s)).cell hk

end Go.Proofs.YtfgcljpiidhfpaaDoor
