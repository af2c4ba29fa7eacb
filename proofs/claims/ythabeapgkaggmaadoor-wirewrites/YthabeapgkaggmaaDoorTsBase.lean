
/-
  Rows of cells in memory; the class of worlds that have grown; regions walked by it.
-/
import Derived.Test.YthabeapgkaggmaaDoorRd1
import Derived.WalkKit
import Derived.WalkSpells
import Derived.WalkLawsBesides
import Derived.Deep.WholeRow
import Derived.Laws.StructEq
import Derived.Deep.QuietTactic
import Derived.BigQuiet
import Derived.Deep.Cut
import Derived.Deep.RegionWith
import Derived.Deep.LoopGhost
namespace Go.Proofs.YthabeapgkaggmaaDoor
open Go.RowKit
set_option maxRecDepth 100000

theorem bgo {w a b : World} (h : Below w.heap.size w a) (k : Below a.heap.size a b) : Below w.heap.size w b := h.trans (k.mono h.size)
theorem below_one (w : World) (o : Obj) : Below w.heap.size w (w.alloc o) := (Below.refl _ _).alloc (Nat.le_refl _) o


/-- A world that has grown out of w: nothing of what was there has turned. -/
structure Wld (w : World) where
  wd : World
  below : Below w.heap.size w wd
/-- The world itself. -/
def wOf {w : World} (s : Wld w) : World := s.wd
instance (w : World) : Nonempty (Wld w) := ⟨⟨w, Below.refl _ _⟩⟩
theorem wOf_below {w : World} (s : Wld w) : Below w.heap.size w (wOf s) := s.below
theorem wp_region_cls {P : Program} {id : Nat} {Q : Exit → Act → World → Prop} {a : Act} {w : World} {l : List Oper} (hm : P.follows .mixedOrders = true) (hB : Region.lexB .any l.toArray = true)
    (h : wpQuiet P l.toArray (fun w' => ∃ n : Wld w, w' = wOf n) (fun a' => ∀ w', (∃ n : Wld w, w' = wOf n) → Q .normal a' w') l a) : (Code.region id l.toArray true).wp P Q a w :=
  wp_region_quiet (C := fun w' => ∃ n : Wld w, w' = wOf n) hm hB ⟨⟨w.drew, (Below.refl _ _).drew⟩, rfl⟩ (by simpa using h)
theorem wpList_of_quiet {P : Program} {ops : Array Oper} {C : World → Prop} {Q : Exit → Act → World → Prop} : ∀ (l : List Oper) (a : Act) (w : World), C w → wpQuiet P ops C (fun a' => ∀ w', C w' → Q .normal a' w') l a → wpList P ops Q l a w
  | [], _, w, hw, h => h w hw
  | o :: rest, a, w, hw, h => by
    unfold wpQuiet at h
    unfold wpList
    split
    · rename_i hc
      rw [if_pos hc] at h
      exact .inl (Oper.wp_of_quiet hw (fun a' w' hw' hq => wpList_of_quiet rest a' w' hw' hq) h)
    · rename_i hc
      rw [if_neg hc] at h
      exact wpList_of_quiet rest _ w hw h
theorem wp_region_cls0 {P : Program} {id : Nat} {Q : Exit → Act → World → Prop} {a : Act} {w : World} {l : List Oper}
    (h : wpQuiet P l.toArray (fun w' => ∃ n : Wld w, w' = wOf n) (fun a' => ∀ w', (∃ n : Wld w, w' = wOf n) → Q .normal a' w') l a) : (Code.region id l.toArray false).wp P Q a w :=
  wp_region_lit (wpList_of_quiet (C := fun w' => ∃ n : Wld w, w' = wOf n) l a w ⟨⟨w, Below.refl _ _⟩, rfl⟩ h)
theorem cls_of {P : Program} {w : World} {s : Wld w} {f : FuncId} {args : Array Value} {v : Value} (h : Calls P f args (wOf s) fun e w' => e = .returned v ∧ Below (wOf s).heap.size (wOf s) w') :
    Calls P f args (wOf s) fun e w'' => e = .returned v ∧ ∃ m : Wld w, w'' = wOf m :=
  h.mono fun _ w' ⟨he, hb⟩ => ⟨he, ⟨w', bgo s.below hb⟩, rfl⟩
theorem cls_of_same {P : Program} {w : World} {s : Wld w} {f : FuncId} {args : Array Value} {v : Value} (h : Calls P f args (wOf s) fun e w' => e = .returned v ∧ w' = wOf s) :
    Calls P f args (wOf s) fun e w'' => e = .returned v ∧ ∃ m : Wld w, w'' = wOf m :=
  h.mono fun _ _ ⟨he, hb⟩ => ⟨he, s, hb⟩
/-- A block of cells in memory. -/
def RowAt (b : Nat) (cs : Array Value) (t : TypeId) (w : World) : Prop := w.heap[b]? = some (.cells cs t (0, 0))
theorem RowAt.lt {b : Nat} {cs : Array Value} {t : TypeId} {w : World} (h : RowAt b cs t w) : b < w.heap.size := (Array.getElem?_eq_some_iff.1 h).1
theorem RowAt.later {b : Nat} {cs : Array Value} {t : TypeId} {w w' : World} (h : RowAt b cs t w) (hb : Below w.heap.size w w') : RowAt b cs t w' := by
  have e : w'.heap[b]? = w.heap[b]? := hb.block _ h.lt
  exact e.trans h
theorem RowAt.cell {b : Nat} {cs : Array Value} {t : TypeId} {w : World} (h : RowAt b cs t w) (k : Nat) : w.cell? ⟨b, k, none⟩ = cs[k]? := cell_of_row w b k cs t (0, 0) h
theorem RowAt.cls {b : Nat} {cs : Array Value} {t : TypeId} {w : World} (h : RowAt b cs t w) (k : Nat) (v : Value) (hv : cs[k]? = some v) (s : Wld w) : (wOf s).cell? ⟨b, k, none⟩ = some v := by
  rw [(h.later (wOf_below s)).cell]; exact hv

theorem below_row {n g : Nat} {a w : World} (h : Below n a w) (hg : n ≤ g) (c : Array Value) : Below n a (w.setRow g c) :=
  ⟨h.os, h.tape, h.output, by simpa using h.size, fun k hk => by rw [setRow_other w g k c (by omega)]; exact h.block k hk⟩


/-- Cells at an address. -/
def CsIn (b off : Nat) (cs : Array Value) (w : World) : Prop := b < w.heap.size ∧ ∀ (j : Nat) (v : Value), cs[j]? = some v → w.cell? ⟨b, off + j, none⟩ = some v
theorem CsIn.later {b off : Nat} {cs : Array Value} {w w' : World} (h : CsIn b off cs w) (hb : Below w.heap.size w w') : CsIn b off cs w' :=
  ⟨Nat.lt_of_lt_of_le h.1 hb.size, fun j v hv => by rw [hb.cell (p := ⟨b, off + j, none⟩) h.1]; exact h.2 j v hv⟩
theorem CsIn.cls {b off : Nat} {cs : Array Value} {w : World} (h : CsIn b off cs w) : ∀ w', (∃ n : Wld w, w' = wOf n) → CsIn b off cs w' := fun _ ⟨s, e⟩ => by rw [e]; exact h.later (wOf_below s)
theorem CsIn.sub {b off : Nat} {cs ds : Array Value} {w : World} (h : CsIn b off cs w) (k : Nat) (hk : ∀ j v, ds[j]? = some v → cs[k + j]? = some v) : CsIn b (off + k) ds w :=
  ⟨h.1, fun j v hv => by rw [Nat.add_assoc]; exact h.2 _ _ (hk j v hv)⟩

section
variable {P : Program}
theorem run_loadVar_in {w : World} {b off : Nat} {cs : Array Value} (h : CsIn b off cs w) {ty : TypeId} {d : TypeDesc} (hu : P.underlying ty = some d) (hd : (match d with | .struct _ | .array _ _ => true | _ => false) = true) (hi : (P.info? ty).map (·.size) = some cs.size) :
    (loadVar ty ⟨b, off, none⟩).run P w = .ok (.agg cs) w := by
  have hl : (loadCells ⟨b, off, none⟩ cs.toList.length).run P w = .ok cs.toList.toArray w :=
    run_loadCells_list (P := P) w ⟨b, off, none⟩ cs.toList (fun j v hv => by
      have hadd : (⟨b, off, none⟩ : Addr).add j = ⟨b, off + j, none⟩ := by unfold Addr.add; split <;> simp_all
      rw [hadd]
      exact h.2 j v (by simpa using hv))
  cases hq : P.info? ty with
  | none => simp [hq] at hi
  | some i =>
    have hs : i.size = cs.size := by simpa [hq] using hi
    have hagg : (isAgg ty).run P w = .ok true w := by
      unfold isAgg
      rw [Sem.run_bind, run_underlying hu w]
      cases d <;> simp_all
    simp only [Array.length_toList, Array.toArray_toList] at hl
    simp [loadVar, Sem.run_bind, hagg, sizeOf, typeInfo, hq, hs, hl]
theorem quiet_load_in {o : Oper} {a : Act} {C : World → Prop} {K : Act → Prop} (ty : TypeId) (x : Operand) (ho : o.op = .load ty x) {b off : Nat} (hx : a.eval x = .pointer (some ⟨b, off, none⟩)) {cs : Array Value} (h : ∀ w, C w → CsIn b off cs w)
    {d : TypeDesc} (hu : P.underlying ty = some d) (hd : (match d with | .struct _ | .array _ _ => true | _ => false) = true) (hi : (P.info? ty).map (·.size) = some cs.size)
    (k : K (a.put o.dst (.agg cs))) : o.quiet P a C K :=
  ⟨.agg cs, fun w hw => by
    unfold Oper.quietAt execOp
    simp only [ho, hx, Instr.loadAt, Instr.sureAddr, Sem.run_bind, Sem.run_pure, Result.andThen_ok, run_loadVar_in (h w hw) hu hd hi]
    exact ⟨rfl, rfl⟩, k⟩
end

theorem RowAt.in {b : Nat} {cs : Array Value} {t : TypeId} {w : World} (h : RowAt b cs t w) : CsIn b 0 cs w := ⟨h.lt, fun j v hv => by rw [Nat.zero_add, h.cell]; exact hv⟩
end Go.Proofs.YthabeapgkaggmaaDoor
