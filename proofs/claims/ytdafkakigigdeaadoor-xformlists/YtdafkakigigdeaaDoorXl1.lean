
/-
  Rows of operations: one's own, append, slices.Clone.
-/
import Derived.Test.YtdafkakigigdeaaDoorXg1
import Derived.Laws.AppendOwn
import Derived.Lib.AppendZeros
import Derived.Lib.AppendZerosOnto
import Derived.Lib.SlFresh
import Derived.Deep.Upon
import Derived.Deep.MidRow
namespace Go.Proofs.YtdafkakigigdeaaDoor
open Go.RowKit
set_option maxRecDepth 100000

theorem ocells_len : ∀ l : List Xo, (ocells l).length = l.length * 4
  | [] => rfl
  | e :: l => by simp only [ocells, List.length_cons, ocells_len l]; omega
theorem ocells_app : ∀ a b : List Xo, ocells (a ++ b) = ocells a ++ ocells b
  | [], _ => rfl
  | x :: r, b => by simp [ocells, ocells_app r b]
theorem ocells_of : ∀ (l : List Xo) (k : Nat) (u : Value), (ocells l)[k]? = some u → ∃ i e j, l[i]? = some e ∧ k = i * 4 + j ∧ (ov e)[j]? = some u
  | [], k, u, h => by simp [ocells] at h
  | y :: r, k, u, h => by
    match k, h with
    | 0, h => exact ⟨0, y, 0, rfl, rfl, by simpa [ov, ocells] using h⟩
    | 1, h => exact ⟨0, y, 1, rfl, rfl, by simpa [ov, ocells] using h⟩
    | 2, h => exact ⟨0, y, 2, rfl, rfl, by simpa [ov, ocells] using h⟩
    | 3, h => exact ⟨0, y, 3, rfl, rfl, by simpa [ov, ocells] using h⟩
    | k + 4, h =>
      obtain ⟨i, e, j, h1, h2, h3⟩ := ocells_of r k u (by simpa [ocells] using h)
      exact ⟨i + 1, e, j, by simpa using h1, by omega, h3⟩
theorem ocells_one (l : List Xo) : ∀ u ∈ ocells l, u.oneCell' = true := by
  induction l with
  | nil => simp [ocells]
  | cons e l ih =>
    intro u hu
    simp only [ocells, List.mem_cons] at hu
    rcases hu with rfl | rfl | rfl | rfl | hu <;> first | rfl | exact ih u hu
theorem OsAt.cells {g o_ : Nat} {l : List Xo} {w : World} (h : OsAt g o_ l w) : ∀ j u, (ocells l)[j]? = some u → w.cell? ((⟨g, o_, none⟩ : Addr).add j) = some u := fun j u hu => by
  obtain ⟨i, e, k, h1, rfl, h3⟩ := ocells_of l j u hu
  rw [Addr.add_lit, ← Nat.add_assoc]
  exact (h i e h1).2 k u h3
theorem os_of_cells {g o_ : Nat} {l : List Xo} {w : World} (hg : g < w.heap.size) (h : ∀ j u, (ocells l)[j]? = some u → w.cell? ⟨g, o_ + j, none⟩ = some u) : OsAt g o_ l w := fun i e he =>
  ⟨hg, fun j v hv => by rw [Nat.add_assoc]; exact h _ _ (ocells_at l i e he j v hv)⟩

/-- A row of elements that is one's own. -/
def OwnO (base : Nat) (v : Value) (l : List Xo) (w : World) : Prop := w.ownsRow base 37 4 v l.length (ocells l)
theorem OwnO.sl {base : Nat} {v : Value} {l : List Xo} {w : World} (h : OwnO base v l w) : SlO w v l := by
  have h0 := h
  rcases h.2 with ⟨rfl, hn⟩ | ⟨g, cap, cur, rfl, _, hg, _⟩
  · exact .inl ⟨List.length_eq_zero_iff.1 hn, none, 0, rfl⟩
  · refine .inr ⟨g, 0, cap, rfl, os_of_cells (Array.getElem?_eq_some_iff.1 hg).1 fun j u hu => ?_⟩
    have := (World.ownsRow.cells h0 (g := g) rfl) j u hu
    simpa [Addr.add_lit] using this
theorem OwnO.block {base : Nat} {v : Value} {l : List Xo} {w : World} (h : OwnO base v l w) (hl : l ≠ []) : ∃ g c, base ≤ g ∧ v = .slice (some ⟨g, 0, none⟩) l.length c ∧ OsAt g 0 l w := by
  have h0 := h
  rcases h.2 with ⟨rfl, hn⟩ | ⟨g, cap, cur, rfl, hb, hg, _⟩
  · exact absurd (List.length_eq_zero_iff.1 hn) hl
  · refine ⟨g, cap, hb, rfl, os_of_cells (Array.getElem?_eq_some_iff.1 hg).1 fun j u hu => ?_⟩
    have := (World.ownsRow.cells h0 (g := g) rfl) j u hu
    simpa [Addr.add_lit] using this

theorem OwnO.room {base : Nat} {v : Value} {l : List Xo} {w : World} (h : OwnO base v l w) (hl : l ≠ []) : ∃ g c, base ≤ g ∧ v = .slice (some ⟨g, 0, none⟩) l.length c ∧ OsAt g 0 l w ∧ l.length ≤ c ∧ c ≤ 9223372036854775807 := by
  obtain ⟨g, c, h1, h2, h3⟩ := h.block hl
  rcases h.2 with ⟨h4, hn⟩ | ⟨g', cap, cur, h4, _, _, h5, h6, _⟩
  · exact absurd (List.length_eq_zero_iff.1 hn) hl
  · rw [h2] at h4
    cases h4
    exact ⟨g, c, h1, h2, h3, h5, h6⟩
theorem info_op : (Tryd.prog.info? 37).map (fun i => (i.zero, i.size, i.bytes)) = some (some (.agg #[.int .i64 0, .int .i64 0, .int .i32 0, .int .i64 0]), 4, 32) := by kernel_rfl
theorem run_appO {base : Nat} {v u : Value} {xs l : List Xo} {w : World} (ty : TypeId) (hown : OwnO base v xs w) (hu : SlO w u l) (hlen : xs.length + l.length ≤ 1099511627776) (hbase : base ≤ w.heap.size) :
    ∃ v' w', (Builtin.append_ #[23, 23] ty #[v, u]).run Tryd.prog w = .ok v' w' ∧ OwnO base v' (xs ++ l) w' ∧ w.grownBy w' v.ownBlock := by
  obtain ⟨i0, hi, hi3⟩ := Option.map_eq_some_iff.1 info_op
  simp only [Prod.mk.injEq] at hi3
  obtain ⟨hz0, hz1, hz2⟩ := hi3
  have key : ∀ (a : Addr) (c : Nat), u = .slice (some a) l.length c → (∀ j x, (ocells l)[j]? = some x → w.cell? (a.add j) = some x) → ∃ v' w', (Builtin.append_ #[23, 23] ty #[v, u]).run Tryd.prog w = .ok v' w' ∧ OwnO base v' (xs ++ l) w' ∧ w.grownBy w' v.ownBlock := by
    intro a c hu hc
    subst hu
    obtain ⟨v', w', h1, h2, h3, _⟩ := run_append_own (P := Tryd.prog) w base 23 ty 37 i0 _ 4 32 Tryd.underlying23 hi hz0 hz1 hz2 rfl (by decide) v xs.length (ocells xs) hown a l.length c (ocells l) (ocells_len l) hc (ocells_one l) (by unfold maxLen; omega) (by omega) hbase
    refine ⟨v', w', h1, ?_, h3⟩
    unfold OwnO
    rw [List.length_append, ocells_app]
    exact h2
  rcases hu with ⟨rfl, a, c, rfl⟩ | ⟨g, o_, c, rfl, hl⟩
  · cases a with
    | some a => exact key a c rfl (fun j x hx => by simp [ocells] at hx)
    | none =>
      rw [List.append_nil]
      obtain ⟨a', n', c', rfl, hle⟩ : ∃ a' n' c', v = .slice a' n' c' ∧ n' ≤ c' := by
        rcases hown.2 with ⟨rfl, hn⟩ | ⟨g, cap, cur, rfl, _, _, hnc, _⟩
        · exact ⟨_, _, _, rfl, Nat.le_refl _⟩
        · exact ⟨_, _, _, rfl, hnc⟩
      exact ⟨_, w, run_append_nothing (P := Tryd.prog) w 23 23 ty 37 i0 Tryd.underlying23 hi a' n' c' hle _ (Src.ofNil w Tryd.underlying23 c), hown, ⟨rfl, rfl, rfl, Nat.le_refl _, fun _ _ _ => rfl⟩⟩
  · exact key ⟨g, o_, none⟩ c rfl hl.cells

/-- append, in a walk. -/
theorem wpL_appO {ops : Array Oper} {rest : List Oper} {o : Oper} {A : Act} {w : World} {Q : Exit → Act → World → Prop} (hgd : o.guard = none) (s x : Operand) (ho : o.op = .call { callee := .builtin .append, args := #[s, x], argTypes := #[23, 23] })
    {base : Nat} {v u : Value} {xs l : List Xo} (hs : A.eval s = v) (hx : A.eval x = u) (hown : OwnO base v xs w) (hu : SlO w u l) (hlen : xs.length + l.length ≤ 1099511627776) (hbase : base ≤ w.heap.size)
    (k : ∀ v' w', OwnO base v' (xs ++ l) w' → w.grownBy w' v.ownBlock → wpList Tryd.prog ops Q rest (A.put o.dst v') w') : wpList Tryd.prog ops Q (o :: rest) A w := by
  obtain ⟨v', w', h1, h2, h3⟩ := run_appO o.type hown hu hlen hbase
  exact Lib.wpList_append_run_sl w hgd s x _ ho v u hs hx h1 (k v' w' h2 h3)
theorem OwnO.lt {base : Nat} {v : Value} {l : List Xo} {w : World} (h : OwnO base v l w) : ∀ k, v.ownBlock = some k → base ≤ k ∧ k < w.heap.size := fun k hk => World.ownsRow.lt h k hk
theorem OwnO.form {base : Nat} {v : Value} {l : List Xo} {w : World} (h : OwnO base v l w) : ∃ a c, v = .slice a l.length c := by
  rcases h.2 with ⟨rfl, hn⟩ | ⟨g, cap, cur, rfl, _⟩
  · exact ⟨none, 0, by rw [hn]⟩
  · exact ⟨_, _, rfl⟩

theorem eql_nilO (a : Addr) (n c : Nat) (w : World) : (binOp .eql 23 (.slice (some a) n c) (.slice none 0 0)).run Tryd.prog w = .ok (.bool false) w := by kernel_rfl
theorem own_emptyO (w : World) : OwnO w.heap.size (.slice (some ⟨w.heap.size, 0, none⟩) 0 0) [] (w.alloc (.cells #[] 37)) :=
  ⟨rfl, .inr ⟨w.heap.size, 0, #[], rfl, Nat.le_refl _, heap_alloc_last w _, Nat.le_refl _, Nat.zero_le _, rfl, rfl⟩⟩
set_option maxHeartbeats 2000000 in
theorem cloneO_some (l : List Xo) (g o_ c : Nat) (w : World) (hl : OsAt g o_ l w) (hn : l.length ≤ 1099511627776) :
    Calls Tryd.prog 28 #[.slice (some ⟨g, o_, none⟩) l.length c] w fun r w' => ∃ v, r = .returned v ∧ OwnO w.heap.size v l w' ∧ Below w.heap.size w w' := by
  have hq := eql_nilO ⟨g, o_, none⟩ l.length c
  go_enter Tryd.func28, Tryd.ntmps28
  go_wp2_with (at_builtin; refine wpL_appO rfl _ _ rfl rfl rfl (own_emptyO w) (.inr ⟨g, o_, c, rfl, hl.later (below_one _ _)⟩) (by simpa using hn) (by simp) ?_; intro v' w1 ho hg)
  go_ret
  exact ⟨_, rfl, ho, (below_one w (.cells #[] 37)).grown hg (by simp) (fun k hk => ((own_emptyO w).lt k hk).1)⟩

set_option maxHeartbeats 2000000 in
theorem cloneO_nil (n c : Nat) (w : World) (hz : n = 0) :
    Calls Tryd.prog 28 #[.slice none n c] w fun r w' => ∃ v, r = .returned v ∧ OwnO w.heap.size v [] w' ∧ Below w.heap.size w w' := by
  subst hz
  have hq : ∀ x, (binOp .eql 23 (.slice none 0 c) (.slice none 0 0)).run Tryd.prog x = .ok (.bool true) x := fun _ => by kernel_rfl
  go_enter Tryd.func28, Tryd.ntmps28
  go_wp2
  go_ret
  exact ⟨_, rfl, ⟨rfl, .inl ⟨rfl, rfl⟩⟩, Below.refl _ _⟩
set_option maxHeartbeats 2000000 in
theorem cloneO_zero (a : Addr) (c : Nat) (w : World) :
    Calls Tryd.prog 28 #[.slice (some a) 0 c] w fun r w' => ∃ v, r = .returned v ∧ OwnO w.heap.size v [] w' ∧ Below w.heap.size w w' := by
  have hq := eql_nilO a 0 c
  go_enter Tryd.func28, Tryd.ntmps28
  go_wp2_with (at_builtin; refine wpL_appO (l := []) rfl _ _ rfl rfl rfl (own_emptyO w) (.inl ⟨rfl, _, _, rfl⟩) (by simp) (by simp) ?_; intro v' w1 ho hg)
  go_ret
  exact ⟨_, rfl, ho, (below_one w (.cells #[] 37)).grown hg (by simp) (fun k hk => ((own_emptyO w).lt k hk).1)⟩
theorem cloneO_any {w : World} {v : Value} {l : List Xo} (h : SlO w v l) (hn : l.length ≤ 1099511627776) :
    Calls Tryd.prog 28 #[v] w fun r w' => ∃ v, r = .returned v ∧ OwnO w.heap.size v l w' ∧ Below w.heap.size w w' := by
  rcases h with ⟨rfl, a, c, rfl⟩ | ⟨g, o_, c, rfl, h⟩
  · cases a with
    | none => exact cloneO_nil 0 c w rfl
    | some a => exact cloneO_zero a c w
  · exact cloneO_some l g o_ c w h hn
end Go.Proofs.YtdafkakigigdeaaDoor
