
/-
  barrowref02.Reader: what is refused stays; no, Number, Left.
-/
import Derived.Test.YthabeapgkaggmaaDoorRf1
import Derived.Test.YthabeapgkaggmaaDoorTsSay
import Derived.Deep.MidRow
namespace Go.Proofs.YthabeapgkaggmaaDoor
open Go.RowKit
set_option maxRecDepth 100000

theorem RowAt.new (w : World) (cs : Array Value) (t : TypeId) : RowAt w.heap.size cs t (w.alloc (.cells cs t)) := heap_alloc_last w cs t
theorem RowAt.kept {b : Nat} {cs : Array Value} {t : TypeId} {S : List Nat} {w w' : World} (h : RowAt b cs t w) (k : Kept S w w') (hn : b ∉ S) : RowAt b cs t w' := k.heap h hn
theorem CsIn.kept {b off : Nat} {cs : Array Value} {S : List Nat} {w w' : World} (h : CsIn b off cs w) (k : Kept S w w') (hn : b ∉ S) : CsIn b off cs w' :=
  ⟨Nat.lt_of_lt_of_le h.1 k.size, fun j v hv => by rw [World.cell?_of_block (w := w) (k.block b h.1 hn)]; exact h.2 j v hv⟩
/-- Cells put into a row from a place on. -/
def putA (cs : Array Value) : Nat → List Value → Array Value
  | _, [] => cs
  | o, v :: vs => putA (cs.setIfInBounds o v) (o + 1) vs
theorem heap_setCells {g : Nat} {t : TypeId} : ∀ (vs : List Value) (o : Nat) (cs : Array Value) (w : World), w.heap[g]? = some (.cells cs t (0, 0)) → (w.setCells g o vs).heap[g]? = some (.cells (putA cs o vs) t (0, 0))
  | [], _, _, _, h => h
  | v :: vs, o, _cs, _w, h => heap_setCells vs (o + 1) _ _ (heap_setCell_at h o v)
theorem putA_size : ∀ (vs : List Value) (o : Nat) (cs : Array Value), (putA cs o vs).size = cs.size
  | [], _, _ => rfl
  | v :: vs, o, cs => by rw [putA, putA_size vs]; simp
theorem putA_list : ∀ (B' B A C : List Value), B'.length = B.length → putA (A ++ (B ++ C)).toArray A.length B' = (A ++ (B' ++ C)).toArray
  | [], B, A, C, h => by
    have : B = [] := List.length_eq_zero_iff.1 h.symm
    subst this; rfl
  | v :: B', [], A, C, h => by simp at h
  | v :: B', b :: B, A, C, h => by
    have ih := putA_list B' B (A ++ [v]) C (by simpa using h)
    have e : (A ++ (b :: B ++ C)).toArray.setIfInBounds A.length v = (A ++ [v] ++ (B ++ C)).toArray := by simp
    rw [putA, e]
    have e2 : A.length + 1 = (A ++ [v]).length := by simp
    rw [e2, ih]
    simp
theorem kept_setCells {g : Nat} : ∀ (vs : List Value) (o : Nat) (w : World), Kept [g] w (w.setCells g o vs)
  | [], _, w => Kept.refl _ w
  | v :: vs, o, w => ((Kept.refl [g] w).set (p := ⟨g, o, none⟩) (.inl (by simp)) v).trans (kept_setCells vs (o + 1) _)

/-- The cells of an operation, an act, a round, rounds, a message. -/
theorem kept_setRow (g : Nat) (cs : Array Value) (w : World) : Kept [g] w (w.setRow g cs) := ⟨rfl, rfl, rfl, by simp, fun k _ hn => setRow_other _ _ _ _ (by simpa using hn)⟩
theorem there_row {b : Nat} {cs : Array Value} {t : TypeId} {w : World} (h : RowAt b cs t w) {o n : Nat} (hn : o + n ≤ cs.size) : w.there b o n := fun j hj => by
  refine ⟨?_, Lib.frozen_of_heap h _⟩
  rw [cell_of_row w b _ cs t (0, 0) h, Array.getElem?_eq_getElem (by omega)]
  rfl
section
variable {ops : Array Oper} {rest : List Oper} {o : Oper} {a : Act} {w : World} {Q : Exit → Act → World → Prop}
theorem wpL_ldNo (hgd : o.guard = none) (x : Operand) (ho : o.op = .load 33 x) {b off : Nat} (hx : a.eval x = .pointer (some ⟨b, off, none⟩)) {n0 n1 n2 : Value} (h : CsIn b off #[n0, n1, n2] w)
    (k : wpList Tryd.prog ops Q rest (a.put o.dst (.agg #[n0, n1, n2])) w) : wpList Tryd.prog ops Q (o :: rest) a w :=
  wpList_plain hgd fun _ hK => by
    unfold Oper.wp execOp
    simp only [ho, hx, Instr.loadAt, Instr.sureAddr, Sem.run_bind, Sem.run_pure, Result.andThen_ok, run_loadVar_in h Tryd.underlying33 rfl no_size]
    exact hK _ _ k
theorem opw_ldNo {K : Act → World → Prop} (x : Operand) (ho : o.op = .load 33 x) {b off : Nat} (hx : a.eval x = .pointer (some ⟨b, off, none⟩)) {n0 n1 n2 : Value} (h : CsIn b off #[n0, n1, n2] w)
    (k : K (a.put o.dst (.agg #[n0, n1, n2])) w) : o.wp Tryd.prog a w K Q := by
  unfold Oper.wp execOp
  simp only [ho, hx, Instr.loadAt, Instr.sureAddr, Sem.run_bind, Sem.run_pure, Result.andThen_ok, run_loadVar_in h Tryd.underlying33 rfl no_size]
  exact k
theorem wpL_stNo (hgd : o.guard = none) (x y : Operand) (ho : o.op = .store 33 x y) {g : Nat} (hx : a.eval x = .pointer (some ⟨g, 0, none⟩)) {n0 n1 n2 : Value} (hy : a.eval y = .agg #[n0, n1, n2]) (h1 : #[n0, n1, n2].all (·.oneCell') = true) {c0 c1 c2 : Value} (h : RowAt g #[c0, c1, c2] 33 w)
    (k : wpList Tryd.prog ops Q rest (a.put o.dst undef) (w.setRow g #[n0, n1, n2])) : wpList Tryd.prog ops Q (o :: rest) a w :=
  wpList_store_row hgd _ x y ho g #[n0, n1, n2] hx hy _ _ h no_size rfl h1 k
end
/-- What has been refused, as the Reader keeps it. -/
abbrev nmW : ByteArray := ⟨#[119, 105, 114, 101]⟩
def NoSt (w : World) (n0 n1 n2 : Value) : Option (ByteArray × Nat × Nat) → Prop
  | none => n0 = .int .i64 0 ∧ n1 = .slice none 0 0 ∧ n2 = .slice none 0 0
  | some (ca, p, c) => ∃ g g', n0 = .int .i64 ((c : Int) + 1) ∧ n1 = .slice (some ⟨g', 0, none⟩) 1 1 ∧ n2 = .slice (some ⟨g, 0, none⟩) 1 1 ∧ CsIn g' 0 #[.string nmW, .string ca, .int .i64 (p : Int)] w ∧ CsIn g 0 #[.int .i64 ((c : Int) + 1)] w
theorem NoSt.one {w : World} {n0 n1 n2 : Value} {st : Option (ByteArray × Nat × Nat)} (h : NoSt w n0 n1 n2 st) : #[n0, n1, n2].all (·.oneCell') = true := by
  match st, h with
  | none, h => obtain ⟨rfl, rfl, rfl⟩ := h; simp [Value.oneCell']
  | some (_, _, _), h => obtain ⟨_, _, rfl, rfl, rfl, _⟩ := h; simp [Value.oneCell']
theorem SlB.keptX {S : List Nat} {w w' : World} {v : Value} {bs : List UInt8} (h : SlB w v bs) (k : Kept S w w') (hS : ∀ g o n c, v = .slice (some ⟨g, o, none⟩) n c → 0 < n → g ∉ S) : SlB w' v bs := by
  rcases h with h | ⟨g, o, c, rfl, hg, hc⟩
  · exact .inl h
  · exact .inr ⟨g, o, c, rfl, Nat.lt_of_lt_of_le hg k.size, fun i b hb => by rw [World.cell?_of_block (w := w) (k.block g hg (hS _ _ _ _ rfl (Nat.lt_of_le_of_lt (Nat.zero_le _) (List.getElem?_eq_some_iff.1 hb).1)))]; exact hc i b hb⟩
theorem NoSt.keptX {xb : Nat} {w w' : World} {n0 n1 n2 : Value} {st : Option (ByteArray × Nat × Nat)} (h : NoSt w n0 n1 n2 st) (k : Kept [xb] w w') (hx : ∀ g, n1 = .slice (some ⟨g, 0, none⟩) 1 1 ∨ n2 = .slice (some ⟨g, 0, none⟩) 1 1 → g ≠ xb) : NoSt w' n0 n1 n2 st := by
  match st, h with
  | none, h => exact h
  | some (_, _, _), ⟨g, g', h0, h1, h2, h3, h4⟩ => exact ⟨g, g', h0, h1, h2, h3.kept k (by simpa using hx g' (.inl h1)), h4.kept k (by simpa using hx g (.inr h2))⟩
theorem NoSt.later {w w' : World} {n0 n1 n2 : Value} {st : Option (ByteArray × Nat × Nat)} (h : NoSt w n0 n1 n2 st) (hb : Below w.heap.size w w') : NoSt w' n0 n1 n2 st := by
  match st, h with
  | none, h => exact h
  | some (_, _, _), ⟨g, g', h0, h1, h2, h3, h4⟩ => exact ⟨g, g', h0, h1, h2, h3.later hb, h4.later hb⟩
theorem SlB.laterX {w w' : World} {v : Value} {bs : List UInt8} (h : SlB w v bs) (hb : Below w.heap.size w w') : SlB w' v bs := h.keptX (S := []) (.of hb) (fun _ _ _ _ _ _ => by simp)
theorem results_no1 {fn : Func} {u : Tmp} {tmps : Array Value} {w : World} {g : Nat} {n0 n1 n2 : Value} (h : fn.results = #[.cell u 33]) (hp : tmps.getD u undef = .pointer (some ⟨g, 0, none⟩)) (hg : RowAt g #[n0, n1, n2] 33 w) :
    (results fn tmps).run Tryd.prog w = .ok (.agg #[n0, n1, n2]) w := by
  have hp' : tmps[u]?.getD undef = .pointer (some ⟨g, 0, none⟩) := by simpa using hp
  simp [results, h, hp', asAddr, run_loadVar_row w g _ _ _ _ _ hg Tryd.underlying33 rfl no_size]
theorem results_no2 {fn : Func} {p u : Tmp} {tmps : Array Value} {w : World} {g : Nat} {n0 n1 n2 : Value} (h : fn.results = #[.tmp p, .cell u 33]) (hp : tmps.getD u undef = .pointer (some ⟨g, 0, none⟩)) (hg : RowAt g #[n0, n1, n2] 33 w) :
    (results fn tmps).run Tryd.prog w = .ok (.tuple #[tmps.getD p undef, .agg #[n0, n1, n2]]) w := by
  have hp' : tmps[u]?.getD undef = .pointer (some ⟨g, 0, none⟩) := by simpa using hp
  simp [results, h, hp', asAddr, run_loadVar_row w g _ _ _ _ _ hg Tryd.underlying33 rfl no_size]
abbrev zNo : Array Value := #[.int .i64 0, .slice none 0 0, .slice none 0 0]

end Go.Proofs.YthabeapgkaggmaaDoor
