
/-
  Changes, rows of changes, rows of edits, in memory.
-/
import Derived.Test.YtgkbgojgpomcdaaDoorRw
import Derived.Test.YtgkbgojgpomcdaaDoorTrRefuse
import Derived.Test.YtgkbgojgpomcdaaDoorOnc0
import Derived.OwnWalk
import Derived.Deep.RegionWith
import Derived.BigRegion
namespace Go.Proofs.YtgkbgojgpomcdaaDoor
open Go.RowKit Go.Extern.Stop Go.Stop Go.Extern
set_option maxRecDepth 100000

theorem info_parts {P : Program} {t : TypeId} {z : Value} {s b : Nat} (h : (P.info? t).map (fun i => (i.zero, i.size, i.bytes)) = some (some z, s, b)) : ∃ i, P.info? t = some i ∧ i.zero = some z ∧ i.size = s ∧ i.bytes = b := by
  obtain ⟨i, h1, h2⟩ := Option.map_eq_some_iff.1 h
  simp only [Prod.mk.injEq] at h2
  exact ⟨i, h1, h2.1, h2.2.1, h2.2.2⟩
theorem hid_of' {p : Prop} (h : p) : Hid p := h
theorem row_new (w : World) (cs : Array Value) (t : TypeId) : RowAt w.heap.size cs t (w.alloc (.cells cs t)) := heap_alloc_last w _
theorem RowAt.cellIs {b : Nat} {cs : Array Value} {t : TypeId} {w : World} (h : RowAt b cs t w) (k : Nat) {v : Value} (hv : cs[k]? = some v) : w.cell? ⟨b, k, none⟩ = some v := (h.cell k).trans hv
theorem RowAt.froz {b : Nat} {cs : Array Value} {t : TypeId} {w : World} (h : RowAt b cs t w) (k : Nat) : w.frozen? ⟨b, k, none⟩ = false := Lib.frozen_of_heap h k

/-- A change. -/
structure Xg where
  k : Int
  a : Int
  b : Int
  c : Int
/-- Its cells. -/
def xgv (e : Xg) : Array Value := #[.int .i64 e.k, .int .i64 e.a, .int .i64 e.b, .int .i64 e.c]
def xcells : List Xg → List Value
  | [] => []
  | e :: l => .int .i64 e.k :: .int .i64 e.a :: .int .i64 e.b :: .int .i64 e.c :: xcells l
theorem xcells_len : ∀ l : List Xg, (xcells l).length = l.length * 4
  | [] => rfl
  | e :: l => by simp only [xcells, List.length_cons, xcells_len l]; omega
theorem xcells_app : ∀ a b : List Xg, xcells (a ++ b) = xcells a ++ xcells b
  | [], _ => rfl
  | x :: r, b => by simp [xcells, xcells_app r b]
theorem xcells_of : ∀ (l : List Xg) (k : Nat) (u : Value), (xcells l)[k]? = some u → ∃ i e j, l[i]? = some e ∧ k = i * 4 + j ∧ (xgv e)[j]? = some u
  | [], k, u, h => by simp [xcells] at h
  | y :: r, k, u, h => by
    match k, h with
    | 0, h => exact ⟨0, y, 0, rfl, rfl, by simpa [xgv, xcells] using h⟩
    | 1, h => exact ⟨0, y, 1, rfl, rfl, by simpa [xgv, xcells] using h⟩
    | 2, h => exact ⟨0, y, 2, rfl, rfl, by simpa [xgv, xcells] using h⟩
    | 3, h => exact ⟨0, y, 3, rfl, rfl, by simpa [xgv, xcells] using h⟩
    | k + 4, h =>
      obtain ⟨i, e, j, h1, h2, h3⟩ := xcells_of r k u (by simpa [xcells] using h)
      exact ⟨i + 1, e, j, by simpa using h1, by omega, h3⟩
theorem xcells_at : ∀ (l : List Xg) (i : Nat) (e : Xg), l[i]? = some e → ∀ j v, (xgv e)[j]? = some v → (xcells l)[i * 4 + j]? = some v
  | [], i, e, h, _, _, _ => by simp at h
  | y :: r, 0, e, h, j, v, hv => by
    simp only [List.getElem?_cons_zero, Option.some.injEq] at h
    subst h
    match j, hv with
    | 0, hv => simpa [xgv, xcells] using hv
    | 1, hv => simpa [xgv, xcells] using hv
    | 2, hv => simpa [xgv, xcells] using hv
    | 3, hv => simpa [xgv, xcells] using hv
    | j + 4, hv => simp [xgv] at hv
  | y :: r, i + 1, e, h, j, v, hv => by
    have ih := xcells_at r i e (by simpa using h) j v hv
    rw [show (i + 1) * 4 + j = (i * 4 + j) + 4 by omega]
    simpa [xcells] using ih
theorem xcells_one (l : List Xg) : ∀ u ∈ xcells l, u.oneCell' = true := by
  induction l with
  | nil => simp [xcells]
  | cons e l ih =>
    intro u hu
    simp only [xcells, List.mem_cons] at hu
    rcases hu with rfl | rfl | rfl | rfl | hu <;> first | rfl | exact ih u hu
theorem g_size (e : Xg) : (Tryd.prog.info? 66).map (·.size) = some (xgv e).size := (by kernel_rfl : (Tryd.prog.info? 66).map (·.size) = some 4)
theorem g_one (e : Xg) : (xgv e).all (·.oneCell') = true := by simp [xgv, Value.oneCell']
theorem info_g : (Tryd.prog.info? 66).map (fun i => (i.zero, i.size, i.bytes)) = some (some (.agg #[.int .i64 0, .int .i64 0, .int .i64 0, .int .i64 0]), 4, 32) := by kernel_rfl
theorem info_gs : (Tryd.prog.info? 33).map (fun i => (i.zero, i.size, i.bytes)) = some (some (.slice none 0 0), 1, 24) := by kernel_rfl

/-- Changes that are only read. -/
def SlD (w : World) (v : Value) (l : List Xg) : Prop := (l = [] ∧ ∃ a c, v = .slice a 0 c) ∨ ∃ g o_ c, v = .slice (some ⟨g, o_, none⟩) l.length c ∧ ∀ i e, l[i]? = some e → CsIn g (o_ + i * 4) (xgv e) w
theorem SlD.form {w : World} {v : Value} {l : List Xg} (h : SlD w v l) : ∃ a c, v = .slice a l.length c := by
  rcases h with ⟨rfl, a, c, rfl⟩ | ⟨g, o_, c, rfl, _⟩
  · exact ⟨a, c, rfl⟩
  · exact ⟨_, c, rfl⟩
theorem SlD.some' {w : World} {a : Option Addr} {n c : Nat} {l : List Xg} (h : SlD w (.slice a n c) l) (h0 : l ≠ []) : n = l.length ∧ ∃ g o_, a = Option.some ⟨g, o_, none⟩ ∧ ∀ i e, l[i]? = some e → CsIn g (o_ + i * 4) (xgv e) w := by
  rcases h with ⟨h, _⟩ | ⟨g, o_, c', hv, hc⟩
  · exact absurd h h0
  · simp only [Value.slice.injEq] at hv
    exact ⟨hv.2.1, g, o_, hv.1, hc⟩
theorem SlD.ch {S : Nat → Prop} {w w' : World} {v : Value} {l : List Xg} (h : SlD w v l) (c : Ch S w w') (hn : ∀ k, v.ownBlock = some k → ¬ S k) : SlD w' v l := by
  rcases h with h | ⟨g, o_, c', rfl, h⟩
  · exact .inl h
  · exact .inr ⟨g, o_, c', rfl, fun i e he => (h i e he).ch c (hn g rfl)⟩
theorem SlD.later {w w' : World} {v : Value} {l : List Xg} (h : SlD w v l) (hb : Below w.heap.size w w') : SlD w' v l := h.ch (S := fun _ => False) (Ch.of hb) (fun _ _ q => q)
theorem SlD.so {w : World} {v : Value} {l : List Xg} (h : SlD w v l) : So 4 v l.length (xcells l) w := by
  refine ⟨xcells_len l, ?_⟩
  rcases h with ⟨rfl, a, c, rfl⟩ | ⟨g, o_, c, rfl, h⟩
  · exact .inl ⟨rfl, a, c, rfl⟩
  · refine .inr ⟨⟨g, o_, none⟩, c, rfl, fun j x hx => ?_⟩
    obtain ⟨i, e, k, h1, rfl, h3⟩ := xcells_of l j x hx
    rw [Addr.add_lit, ← Nat.add_assoc]
    exact (h i e h1).2 k x h3
/-- A row of changes of one's own. -/
def RwX (v : Value) (l : List Xg) (w : World) : Prop := Rw 66 4 v l.length (xcells l) w
theorem RwX.sl {v : Value} {l : List Xg} {w : World} (h : RwX v l w) : SlD w v l := by
  have h0 := h
  rcases h.2 with ⟨rfl, hn⟩ | ⟨g, cap, cur, rfl, hg, _⟩
  · exact .inl ⟨List.length_eq_zero_iff.1 hn, none, 0, rfl⟩
  · refine .inr ⟨g, 0, cap, rfl, fun i e he => ⟨(Array.getElem?_eq_some_iff.1 hg).1, fun j v hv => ?_⟩⟩
    have := Rw.cells h0 (i * 4 + j) v (xcells_at l i e he j v hv)
    rw [← Nat.add_assoc] at this
    exact this
theorem RwX.later {v : Value} {l : List Xg} {w w' : World} (h : RwX v l w) (hb : Below w.heap.size w w') : RwX v l w' := Rw.later h hb
theorem RwX.nil (w : World) : RwX (.slice none 0 0) [] w := Rw.nil _ _ _

section
variable {ops : Array Oper} {rest : List Oper} {o : Oper} {A : Act} {w : World} {Q : Exit → Act → World → Prop}
theorem opw_loadG {K : Act → World → Prop} (x : Operand) (ho : o.op = .load 66 x) {b off : Nat} (hx : A.eval x = .pointer (some ⟨b, off, none⟩)) {p : Xg} (h : CsIn b off (xgv p) w)
    (k : K (A.put o.dst (.agg (xgv p))) w) : o.wp Tryd.prog A w K Q := by
  unfold Oper.wp execOp
  simp only [ho, hx, Instr.loadAt, Instr.sureAddr, Sem.run_bind, Sem.run_pure, Result.andThen_ok, run_loadVar_in h Tryd.underlying66 rfl (g_size p)]
  exact k
theorem wpL_loadG (hgd : o.guard = none) (x : Operand) (ho : o.op = .load 66 x) {b off : Nat} (hx : A.eval x = .pointer (some ⟨b, off, none⟩)) {p : Xg} (h : CsIn b off (xgv p) w)
    (k : wpList Tryd.prog ops Q rest (A.put o.dst (.agg (xgv p))) w) : wpList Tryd.prog ops Q (o :: rest) A w := wpList_plain hgd fun _ hK => opw_loadG x ho hx h (hK _ _ k)
theorem wpL_storeG (hgd : o.guard = none) (x y : Operand) (ho : o.op = .store 66 x y) {g off : Nat} (hx : A.eval x = .pointer (some ⟨g, off, none⟩)) {p : Xg} (hy : A.eval y = .agg (xgv p)) (ht : w.there g off 4)
    (k : wpList Tryd.prog ops Q rest (A.put o.dst undef) (w.setCells g off (xgv p).toList)) : wpList Tryd.prog ops Q (o :: rest) A w :=
  wpList_store_mid hgd _ x y ho g off (xgv p) hx hy ht (g_size p) (g_one p) k
theorem wpL_storeGr (hgd : o.guard = none) (x y : Operand) (ho : o.op = .store 66 x y) {g : Nat} (hx : A.eval x = .pointer (some ⟨g, 0, none⟩)) {p q : Xg} (hy : A.eval y = .agg (xgv p)) (h : RowAt g (xgv q) 66 w)
    (k : wpList Tryd.prog ops Q rest (A.put o.dst undef) (w.setRow g (xgv p))) : wpList Tryd.prog ops Q (o :: rest) A w :=
  wpList_store_row hgd _ x y ho g (xgv p) hx hy _ _ h (g_size p) rfl (g_one p) k
/-- append of changes to a row of one's own. -/
theorem wpL_appG (hgd : o.guard = none) (s x : Operand) (ho : o.op = .call { callee := .builtin .append, args := #[s, x], argTypes := #[33, 33] })
    {u v : Value} {l m : List Xg} (hs : A.eval s = v) (hx : A.eval x = u) (hv : RwX v l w) (hu : So 4 u m.length (xcells m) w) (hl : l.length + m.length ≤ 4398046511104)
    (k : ∀ v' w', RwX v' (l ++ m) w' → w.grownBy w' v.ownBlock → At' w v v' → wpList Tryd.prog ops Q rest (A.put o.dst v') w') : wpList Tryd.prog ops Q (o :: rest) A w := by
  obtain ⟨i0, hi, h1, h2, h3⟩ := info_parts info_g
  refine wpL_app (P := Tryd.prog) hgd s x 33 ho 66 i0 _ 4 32 Tryd.underlying33 hi h1 h2 h3 rfl hs hx hv hu (xcells_one _) (by unfold maxLen; omega) (by omega) fun v' w' q1 q2 q3 => k v' w' ?_ q2 q3
  unfold RwX
  rw [List.length_append, xcells_app]
  exact q1
end
theorem so_g (w : World) (e : Xg) : So 4 (.slice (some ⟨w.heap.size, 0, none⟩) 1 1) [e].length (xcells [e]) (w.alloc (.cells #[.int .i64 e.k, .int .i64 e.a, .int .i64 e.b, .int .i64 e.c] 66)) := by
  have h : SlD (w.alloc (.cells (xgv e) 66)) (.slice (some ⟨w.heap.size, 0, none⟩) 1 1) [e] := .inr ⟨w.heap.size, 0, 1, rfl, fun i x hx => by
    match i, hx with
    | 0, hx =>
      cases hx
      exact (row_new w (xgv e) 66).in
    | i + 1, hx => simp at hx⟩
  exact h.so
theorem eq_G (e : Xg) (w : World) : (Op.equalIn 10000 66 (.agg (xgv e)) (.agg (xgv e))).run Tryd.prog w = .ok true w := by
  unfold xgv
  simp [go_sem]

/-- An edit that is kept: a row of its own, in a block of K, not empty. -/
structure EdAt (K : Nat → Prop) (v : Value) (l : List Xg) (w : World) : Prop where
  row : RwX v l w
  own : ∀ g, v.ownBlock = some g → K g
  ne : l ≠ []
  le : l.length ≤ 4398046510976
theorem EdAt.ch {K S : Nat → Prop} {v : Value} {l : List Xg} {w w' : World} (h : EdAt K v l w) (c : Ch S w w') (hn : ∀ g, K g → ¬ S g) : EdAt K v l w' := ⟨Rw.ch h.row c (fun k hk => hn k (h.own k hk)), h.own, h.ne, h.le⟩
theorem EdAt.later {K : Nat → Prop} {v : Value} {l : List Xg} {w w' : World} (h : EdAt K v l w) (hb : Below w.heap.size w w') : EdAt K v l w' := ⟨h.row.later hb, h.own, h.ne, h.le⟩
theorem EdAt.mono {K K' : Nat → Prop} {v : Value} {l : List Xg} {w : World} (h : EdAt K v l w) (hk : ∀ g, K g → g < w.heap.size → K' g) : EdAt K' v l w := ⟨h.row, fun g hg => hk g (h.own g hg) (Rw.lt h.row g hg), h.ne, h.le⟩
/-- Several. -/
def EsAt (K : Nat → Prop) (us : List Value) (ls : List (List Xg)) (w : World) : Prop := us.length = ls.length ∧ ∀ (i : Nat) (u : Value) (l : List Xg), us[i]? = some u → ls[i]? = some l → EdAt K u l w
theorem EsAt.ch {K S : Nat → Prop} {us : List Value} {ls : List (List Xg)} {w w' : World} (h : EsAt K us ls w) (c : Ch S w w') (hn : ∀ g, K g → ¬ S g) : EsAt K us ls w' := ⟨h.1, fun i u l h1 h2 => (h.2 i u l h1 h2).ch c hn⟩
theorem EsAt.later {K : Nat → Prop} {us : List Value} {ls : List (List Xg)} {w w' : World} (h : EsAt K us ls w) (hb : Below w.heap.size w w') : EsAt K us ls w' := ⟨h.1, fun i u l h1 h2 => (h.2 i u l h1 h2).later hb⟩
theorem EsAt.mono {K K' : Nat → Prop} {us : List Value} {ls : List (List Xg)} {w : World} (h : EsAt K us ls w) (hk : ∀ g, K g → g < w.heap.size → K' g) : EsAt K' us ls w := ⟨h.1, fun i u l h1 h2 => (h.2 i u l h1 h2).mono hk⟩
theorem EsAt.nil (K : Nat → Prop) (w : World) : EsAt K [] [] w := ⟨rfl, fun i u l h => by simp at h⟩
theorem EsAt.app {K : Nat → Prop} {us us' : List Value} {ls ls' : List (List Xg)} {w : World} (h : EsAt K us ls w) (h' : EsAt K us' ls' w) : EsAt K (us ++ us') (ls ++ ls') w := by
  refine ⟨by rw [List.length_append, List.length_append, h.1, h'.1], fun i p q h1 h2 => ?_⟩
  by_cases e : i < us.length
  · rw [List.getElem?_append_left e] at h1
    rw [List.getElem?_append_left (by rw [← h.1]; exact e)] at h2
    exact h.2 i p q h1 h2
  · rw [List.getElem?_append_right (by omega)] at h1
    rw [List.getElem?_append_right (by rw [← h.1]; omega), ← h.1] at h2
    exact h'.2 _ p q h1 h2
theorem EsAt.one {K : Nat → Prop} {u : Value} {l : List Xg} {w : World} (h : EdAt K u l w) : EsAt K [u] [l] w := ⟨rfl, fun i u' l' h1 h2 => by
  match i, h1, h2 with
  | 0, h1, h2 => cases h1; cases h2; exact h
  | i + 1, h1, h2 => simp at h1⟩
theorem EsAt.take {K : Nat → Prop} {us : List Value} {ls : List (List Xg)} {w : World} (h : EsAt K us ls w) (n : Nat) : EsAt K (us.take n) (ls.take n) w := ⟨by rw [List.length_take, List.length_take, h.1], fun i p q h1 h2 => by
  rw [List.getElem?_take] at h1 h2
  split at h1
  next e => rw [if_pos e] at h2; exact h.2 i p q h1 h2
  next => cases h1⟩
theorem EsAt.drop {K : Nat → Prop} {us : List Value} {ls : List (List Xg)} {w : World} (h : EsAt K us ls w) (n : Nat) : EsAt K (us.drop n) (ls.drop n) w := ⟨by rw [List.length_drop, List.length_drop, h.1], fun i p q h1 h2 => by
  rw [List.getElem?_drop] at h1 h2
  exact h.2 _ p q h1 h2⟩
theorem EsAt.at {K : Nat → Prop} {us : List Value} {ls : List (List Xg)} {w : World} (h : EsAt K us ls w) {i : Nat} {l : List Xg} (hq : ls[i]? = some l) : ∃ u, us[i]? = some u ∧ EdAt K u l w := by
  have hi := (List.getElem?_eq_some_iff.1 hq).1
  exact ⟨_, List.getElem?_eq_getElem (by rw [h.1]; exact hi), h.2 i _ l (List.getElem?_eq_getElem (by rw [h.1]; exact hi)) hq⟩
theorem EdAt.one {K : Nat → Prop} {v : Value} {l : List Xg} {w : World} (h : EdAt K v l w) : v.oneCell' = true := by
  obtain ⟨a, c, rfl, _⟩ := Rw.form h.row
  rfl
theorem EsAt.ones {K : Nat → Prop} {us : List Value} {ls : List (List Xg)} {w : World} (h : EsAt K us ls w) : ∀ u ∈ us, u.oneCell' = true := fun u hu => by
  obtain ⟨i, hi⟩ := List.getElem?_of_mem hu
  have hlt := (List.getElem?_eq_some_iff.1 hi).1
  exact (h.2 i u _ hi (List.getElem?_eq_getElem (by rw [← h.1]; exact hlt))).one
/-- A row of edits of one's own. -/
structure ERow (K : Nat → Prop) (v : Value) (ls : List (List Xg)) (w : World) : Prop where
  ex : ∃ us, Rw 33 1 v ls.length us w ∧ EsAt K us ls w
theorem ERow.ch {K S : Nat → Prop} {v : Value} {ls : List (List Xg)} {w w' : World} (h : ERow K v ls w) (c : Ch S w w') (hv : ∀ k, v.ownBlock = some k → ¬ S k) (hn : ∀ g, K g → ¬ S g) : ERow K v ls w' := by
  obtain ⟨ps, h1, h2⟩ := h
  exact ⟨ps, h1.ch c hv, h2.ch c hn⟩
theorem ERow.later {K : Nat → Prop} {v : Value} {ls : List (List Xg)} {w w' : World} (h : ERow K v ls w) (hb : Below w.heap.size w w') : ERow K v ls w' := by
  obtain ⟨ps, h1, h2⟩ := h
  exact ⟨ps, h1.later hb, h2.later hb⟩
theorem ERow.mono {K K' : Nat → Prop} {v : Value} {ls : List (List Xg)} {w : World} (h : ERow K v ls w) (hk : ∀ g, K g → g < w.heap.size → K' g) : ERow K' v ls w := by
  obtain ⟨ps, h1, h2⟩ := h
  exact ⟨ps, h1, h2.mono hk⟩
theorem ERow.lt {K : Nat → Prop} {v : Value} {ls : List (List Xg)} {w : World} (h : ERow K v ls w) : ∀ k, v.ownBlock = some k → k < w.heap.size := by
  obtain ⟨ps, h1, h2⟩ := h
  exact h1.lt
theorem ERow.form {K : Nat → Prop} {v : Value} {ls : List (List Xg)} {w : World} (h : ERow K v ls w) : ∃ a c, v = .slice a ls.length c ∧ ls.length ≤ c ∧ c ≤ maxLen := by
  obtain ⟨ps, h1, h2⟩ := h
  exact h1.form
theorem ERow.nil (K : Nat → Prop) (w : World) : ERow K (.slice none 0 0) [] w := ⟨[], Rw.nil _ _ _, EsAt.nil _ _⟩
theorem ERow.at {K : Nat → Prop} {v : Value} {ls : List (List Xg)} {w : World} (h : ERow K v ls w) {i : Nat} {l : List Xg} (hq : ls[i]? = some l) : ∃ g c u, v = .slice (some ⟨g, 0, none⟩) ls.length c ∧ ls.length ≤ c ∧ c ≤ maxLen ∧ w.cell? ⟨g, i, none⟩ = some u ∧ w.frozen? ⟨g, i, none⟩ = false ∧ EdAt K u l w := by
  obtain ⟨ps, h1, h2⟩ := h
  obtain ⟨p, hp, hpq⟩ := h2.at hq
  have h0 := h1
  have hi := (List.getElem?_eq_some_iff.1 hq).1
  rcases h1.2 with ⟨_, hn⟩ | ⟨g, cap, cur, rfl, hg, hc1, hc2, hc3, _⟩
  · omega
  · refine ⟨g, cap, p, rfl, hc1, hc2, ?_, Lib.frozen_of_heap hg _, hpq⟩
    have := h0.cells _ _ hp
    rwa [Nat.zero_add] at this
/-- The blocks of kept edits are none of a row of edits, and none of a Stack. -/
theorem EdAt.typ {K : Nat → Prop} {v : Value} {l : List Xg} {w : World} (h : EdAt K v l w) : ∀ g, v.ownBlock = some g → K g ∧ g < w.heap.size ∧ ∃ cur, w.heap[g]? = some (.cells cur 66 (0, 0)) := fun g hg => ⟨h.own g hg, Rw.lt h.row g hg, by
  rcases h.row.2 with ⟨rfl, _⟩ | ⟨g', cap, cur, rfl, hg', _⟩
  · cases hg
  · cases hg
    exact ⟨cur, hg'⟩⟩
theorem EsAt.typ {K : Nat → Prop} {us : List Value} {ls : List (List Xg)} {w : World} (h : EsAt K us ls w) : EsAt (fun g => K g ∧ g < w.heap.size ∧ ∃ cur, w.heap[g]? = some (.cells cur 66 (0, 0))) us ls w := ⟨h.1, fun i u l h1 h2 => ⟨(h.2 i u l h1 h2).row, (h.2 i u l h1 h2).typ, (h.2 i u l h1 h2).ne, (h.2 i u l h1 h2).le⟩⟩
theorem Rw.typ {e : TypeId} {size : Nat} {v : Value} {n : Nat} {xs : List Value} {w : World} (h : Rw e size v n xs w) : ∀ g, v.ownBlock = some g → ∃ cur, w.heap[g]? = some (.cells cur e (0, 0)) := fun g hg => by
  rcases h.2 with ⟨rfl, _⟩ | ⟨g', cap, cur, rfl, hg', _⟩
  · cases hg
  · cases hg
    exact ⟨cur, hg'⟩
end Go.Proofs.YtgkbgojgpomcdaaDoor
