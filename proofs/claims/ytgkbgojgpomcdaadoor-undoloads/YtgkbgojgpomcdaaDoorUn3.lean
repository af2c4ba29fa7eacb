
/-
  A store into a row of changes; barrowkeep.Changes, SpoilChanges; slices.Clone.
-/
import Derived.Test.YtgkbgojgpomcdaaDoorUn0
namespace Go.Proofs.YtgkbgojgpomcdaaDoor
open Go.RowKit Go.Extern.Stop Go.Stop Go.Extern
set_option maxRecDepth 100000

theorem get_set (a : Array Value) (k : Nat) (v : Value) (h : k < a.size) : (a.setIfInBounds k v)[k]? = some v := by simp [h]
theorem RowAt.setc {b : Nat} {cs : Array Value} {t : TypeId} {w : World} (h : RowAt b cs t w) (k : Nat) (v : Value) : RowAt b (cs.setIfInBounds k v) t (w.setCell ⟨b, k, none⟩ v) := by
  unfold RowAt at *
  simp [World.setCell, Array.getElem?_modify, h]
/-- A row's block behind a store of one of its changes. -/
theorem RwX.put {n c g : Nat} {ps : List Xg} {w : World} (h : Rw 66 4 (.slice (some ⟨g, 0, none⟩) n c) n (xcells ps) w) {i : Nat} (hi : i < n) (x : Xg) : Rw 66 4 (.slice (some ⟨g, 0, none⟩) n c) n (xcells (ps.set i x)) (w.setCells g (i * 4) (xgv x).toList) := by
  have hlen : ps.length = n := by have := h.1; rw [xcells_len] at this; omega
  refine ⟨by rw [xcells_len, List.length_set, hlen], ?_⟩
  rcases h.2 with ⟨q, _⟩ | ⟨g', cap, cur, q, hg, h1, h2, h3, h4⟩
  · cases q
  · cases q
    refine .inr ⟨g, c, (((cur.setIfInBounds (i * 4) (.int .i64 x.k)).setIfInBounds (i * 4 + 1) (.int .i64 x.a)).setIfInBounds (i * 4 + 1 + 1) (.int .i64 x.b)).setIfInBounds (i * 4 + 1 + 1 + 1) (.int .i64 x.c), rfl, ?_, h1, h2, by simpa using h3, ?_⟩
    · exact RowAt.setc (RowAt.setc (RowAt.setc (RowAt.setc hg _ _) _ _) _ _) _ _
    · apply List.ext_getElem?
      intro k
      have hk0 : ∀ k, (xcells ps)[k]? = if k < n * 4 then cur[k]? else none := fun k => by rw [← h4, List.getElem?_take]; simp
      by_cases hk : k < n * 4
      · rw [List.getElem?_take_of_lt hk, Array.getElem?_toList]
        obtain ⟨u, hu⟩ : ∃ u, (xcells (ps.set i x))[k]? = some u := ⟨_, List.getElem?_eq_getElem (by rw [xcells_len, List.length_set, hlen]; exact hk)⟩
        obtain ⟨a, e, j, e1, rfl, e3⟩ := xcells_of _ _ _ hu
        rw [hu]
        have hj : j < 4 := (Array.getElem?_eq_some_iff.1 e3).1
        by_cases hai : i = a
        · subst hai
          rw [List.getElem?_set_self (by omega), Option.some.injEq] at e1
          subst e1
          have hsz : i * 4 + 3 < cur.size := by omega
          match j, hj, e3 with
          | 0, _, e3 => simp [xgv] at e3; subst e3; rw [Array.getElem?_setIfInBounds_ne (by omega), Array.getElem?_setIfInBounds_ne (by omega), Array.getElem?_setIfInBounds_ne (by omega)]; exact get_set _ _ _ (by omega)
          | 1, _, e3 => simp [xgv] at e3; subst e3; rw [Array.getElem?_setIfInBounds_ne (by omega), Array.getElem?_setIfInBounds_ne (by omega)]; exact get_set _ _ _ (by simp; omega)
          | 2, _, e3 => simp [xgv] at e3; subst e3; rw [Array.getElem?_setIfInBounds_ne (by omega)]; exact get_set _ _ _ (by simp; omega)
          | 3, _, e3 => simp [xgv] at e3; subst e3; exact get_set _ _ _ (by simp; omega)
        · rw [List.getElem?_set_ne hai] at e1
          have := xcells_at ps a e e1 j u e3
          rw [hk0, if_pos hk] at this
          rw [Array.getElem?_setIfInBounds_ne (by omega), Array.getElem?_setIfInBounds_ne (by omega), Array.getElem?_setIfInBounds_ne (by omega), Array.getElem?_setIfInBounds_ne (by omega)]
          exact this
      · rw [List.getElem?_eq_none (by rw [List.length_take]; omega), List.getElem?_eq_none (by rw [xcells_len, List.length_set, hlen]; omega)]
theorem RwX.there {n c g : Nat} {ps : List Xg} {w : World} (h : Rw 66 4 (.slice (some ⟨g, 0, none⟩) n c) n (xcells ps) w) {i : Nat} (hi : i < n) : w.there g (i * 4) 4 := fun j hj => by
  rcases h.2 with ⟨q, _⟩ | ⟨g', cap, cur, q, hg, h1, h2, h3, h4⟩
  · cases q
  · cases q
    refine ⟨?_, Lib.frozen_of_heap hg _⟩
    rw [cell_of_row w g _ cur _ (0, 0) hg, Array.getElem?_eq_getElem (by omega)]
    rfl
theorem grown_cells (w : World) (g o_ : Nat) (vs : List Value) : w.grownBy (w.setCells g o_ vs) (some g) := by
  have c := Ch.cells (S := fun k => some g = some k) (a := w) (g := g) (.inl rfl) vs o_ w (Ch.refl _ w)
  exact ⟨c.os, c.tape, c.output, c.size, fun k hk hn => c.block k hk (fun e => hn e.symm)⟩
theorem opw_storeG {K : Act → World → Prop} {o : Oper} {A : Act} {w : World} {Q : Exit → Act → World → Prop} (x y : Operand) (ho : o.op = .store 66 x y) {g off : Nat} (hx : A.eval x = .pointer (some ⟨g, off, none⟩)) {p : Xg} (hy : A.eval y = .agg (xgv p)) (ht : w.there g off 4)
    (k : K (A.put o.dst undef) (w.setCells g off (xgv p).toList)) : o.wp Tryd.prog A w K Q :=
  wp_store_mid _ x y ho g off (xgv p) hx hy ht (g_size p) (g_one p) k
theorem Rw.some0 {e n c : Nat} {a : Option Addr} {size : Nat} {xs : List Value} {w : World} (h : Rw e size (.slice a n c) n xs w) (hn : 0 < n) : ∃ g, a = some ⟨g, 0, none⟩ := by
  rcases h.2 with ⟨_, q⟩ | ⟨g, cap, cur, q, _⟩
  · omega
  · simp only [Value.slice.injEq] at q
    exact ⟨g, q.1⟩

end Go.Proofs.YtgkbgojgpomcdaaDoor
