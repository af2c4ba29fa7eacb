
/-
  Package bag: takeOut.
-/
import Derived.Test.YtdojjhhnciaegaaDoorZb16
namespace Go.Proofs.YtdojjhhnciaegaaDoor
open Go.RowKit Go.Extern.Stop Go.Stop Go.Extern
set_option maxRecDepth 100000

theorem So.later {size : Nat} {u : Value} {m : Nat} {ys : List Value} {w w' : World} (h : So size u m ys w) (hb : Below w.heap.size w w') : So size u m ys w' := by
  refine ⟨h.1, ?_⟩
  rcases h.2 with q | ⟨a, c, rfl, q⟩
  · exact .inl q
  · exact .inr ⟨a, c, rfl, fun j x hx => by have := q j x hx; rw [hb.cell (World.block_lt_of_cell? _ _ this)]; exact this⟩
theorem pcells_one (l : List Pc) (h : ∀ p ∈ l, p.b.oneCell' = true) : ∀ u ∈ pcells l, u.oneCell' = true := by
  induction l with
  | nil => simp [pcells]
  | cons e l ih =>
    intro u hu
    simp only [pcells, List.mem_cons] at hu
    rcases hu with rfl | rfl | rfl | rfl | hu
    · rfl
    · rfl
    · rfl
    · exact h e (by simp)
    · exact ih (fun p hp => h p (by simp [hp])) u hu
theorem PsAt.ones {K : Nat → Prop} {ps : List Pc} {qs : List Pl} {w : World} (h : PsAt K ps qs w) : ∀ p ∈ ps, p.b.oneCell' = true := fun p hp => by
  obtain ⟨i, hi⟩ := List.getElem?_of_mem hp
  have hl := (List.getElem?_eq_some_iff.1 hi).1
  obtain ⟨q, hq⟩ : ∃ q, qs[i]? = some q := ⟨_, List.getElem?_eq_getElem (by rw [← h.1]; exact hl)⟩
  exact (h.2 i p q hi hq).b.sl.one
theorem get_set (a : Array Value) (k : Nat) (v : Value) (h : k < a.size) : (a.setIfInBounds k v)[k]? = some v := by simp [h]
/-- A row's block behind a store of one of its parcels. -/
theorem Rw.put {n c g : Nat} {ps : List Pc} {w : World} (h : Rw 65 4 (.slice (some ⟨g, 0, none⟩) n c) n (pcells ps) w) {i : Nat} (hi : i < n) (x : Pc) : Rw 65 4 (.slice (some ⟨g, 0, none⟩) n c) n (pcells (ps.set i x)) (w.setCells g (i * 4) (pcv x).toList) := by
  have hlen : ps.length = n := by have := h.1; rw [pcells_len] at this; omega
  refine ⟨by rw [pcells_len, List.length_set, hlen], ?_⟩
  rcases h.2 with ⟨q, _⟩ | ⟨g', cap, cur, q, hg, h1, h2, h3, h4⟩
  · cases q
  · cases q
    refine .inr ⟨g, c, (((cur.setIfInBounds (i * 4) (.int .i64 x.s)).setIfInBounds (i * 4 + 1) (.int .i64 x.f)).setIfInBounds (i * 4 + 1 + 1) (.int .i64 x.t)).setIfInBounds (i * 4 + 1 + 1 + 1) x.b, rfl, ?_, h1, h2, by simpa using h3, ?_⟩
    · exact RowAt.setc (RowAt.setc (RowAt.setc (RowAt.setc hg _ _) _ _) _ _) _ _
    · apply List.ext_getElem?
      intro k
      have hk0 : ∀ k, (pcells ps)[k]? = if k < n * 4 then cur[k]? else none := fun k => by rw [← h4, List.getElem?_take]; simp
      by_cases hk : k < n * 4
      · rw [List.getElem?_take_of_lt hk, Array.getElem?_toList]
        obtain ⟨u, hu⟩ : ∃ u, (pcells (ps.set i x))[k]? = some u := ⟨_, List.getElem?_eq_getElem (by rw [pcells_len, List.length_set, hlen]; exact hk)⟩
        obtain ⟨a, e, j, e1, rfl, e3⟩ := pcells_of _ _ _ hu
        rw [hu]
        have hj : j < 4 := (Array.getElem?_eq_some_iff.1 e3).1
        by_cases hai : i = a
        · subst hai
          rw [List.getElem?_set_self (by omega), Option.some.injEq] at e1
          subst e1
          have hsz : i * 4 + 3 < cur.size := by omega
          match j, hj, e3 with
          | 0, _, e3 => simp [pcv] at e3; subst e3; rw [Array.getElem?_setIfInBounds_ne (by omega), Array.getElem?_setIfInBounds_ne (by omega), Array.getElem?_setIfInBounds_ne (by omega)]; exact get_set _ _ _ (by omega)
          | 1, _, e3 => simp [pcv] at e3; subst e3; rw [Array.getElem?_setIfInBounds_ne (by omega), Array.getElem?_setIfInBounds_ne (by omega)]; exact get_set _ _ _ (by simp; omega)
          | 2, _, e3 => simp [pcv] at e3; subst e3; rw [Array.getElem?_setIfInBounds_ne (by omega)]; exact get_set _ _ _ (by simp; omega)
          | 3, _, e3 => simp [pcv] at e3; subst e3; exact get_set _ _ _ (by simp; omega)
        · rw [List.getElem?_set_ne hai] at e1
          have := pcells_at ps a e e1 j u e3
          rw [hk0, if_pos hk] at this
          rw [Array.getElem?_setIfInBounds_ne (by omega), Array.getElem?_setIfInBounds_ne (by omega), Array.getElem?_setIfInBounds_ne (by omega), Array.getElem?_setIfInBounds_ne (by omega)]
          exact this
      · rw [List.getElem?_eq_none (by rw [List.length_take]; omega), List.getElem?_eq_none (by rw [pcells_len, List.length_set, hlen]; omega)]
theorem Rw.first {n c g : Nat} {ps : List Pc} {w : World} (h : Rw 65 4 (.slice (some ⟨g, 0, none⟩) n c) n (pcells ps) w) {i d : Nat} (hi : i ≤ n) (hd : i ≤ d) (hdc : d ≤ c) : Rw 65 4 (.slice (some ⟨g, 0, none⟩) i d) i (pcells (ps.take i)) w := by
  have hlen : ps.length = n := by have := h.1; rw [pcells_len] at this; omega
  refine ⟨by rw [pcells_len, List.length_take]; omega, ?_⟩
  rcases h.2 with ⟨q, _⟩ | ⟨g', cap, cur, q, hg, h1, h2, h3, h4⟩
  · cases q
  · cases q
    refine .inr ⟨g, d, cur, rfl, hg, hd, by omega, by omega, ?_⟩
    rw [← pcells_take, ← h4, List.take_take]
    congr 1
    omega
theorem Rw.rest {n c g : Nat} {ps : List Pc} {w : World} (h : Rw 65 4 (.slice (some ⟨g, 0, none⟩) n c) n (pcells ps) w) {i : Nat} (hi : i ≤ n) (c' : Nat) : So 4 (.slice (some ⟨g, i * 4, none⟩) (n - i) c') (n - i) (pcells (ps.drop i)) w := by
  have hlen : ps.length = n := by have := h.1; rw [pcells_len] at this; omega
  refine ⟨by rw [pcells_len, List.length_drop]; omega, .inr ⟨_, _, rfl, fun j x hx => ?_⟩⟩
  rw [← pcells_drop, List.getElem?_drop] at hx
  have := h.cells _ _ hx
  rw [Addr.add_lit]
  rwa [Nat.zero_add] at this
theorem PsAt.erase {K : Nat → Prop} {ps : List Pc} {qs : List Pl} {w : World} (h : PsAt K ps qs w) (i : Nat) : PsAt K (ps.eraseIdx i) (qs.eraseIdx i) w := by
  rw [List.eraseIdx_eq_take_drop_succ, List.eraseIdx_eq_take_drop_succ]
  exact (h.take i).app (h.drop (i + 1))
/-- A Bag without the parcel at a place. -/
def outG (g : Bg) (i : Nat) : Bg := { g with l := g.l.eraseIdx i }
theorem set_take {α : Type} (l : List α) (i : Nat) (x : α) : (l.set i x).take i = l.take i := by
  rw [List.take_set_of_le (Nat.le_refl _)]
theorem set_drop {α : Type} (l : List α) (i : Nat) (x : α) : (l.set i x).drop (i + 1) = l.drop (i + 1) := by
  rw [List.drop_set_of_lt (by omega)]
set_option maxHeartbeats 4000000 in
theorem takeOut_ok {B : Nat} {v : Value} {g : Bg} {K : Nat → Prop} {w : World} (h0 : BgAt B v g K w) {ix : Nat} {q : Pl} (hq : g.l[ix]? = some q) :
    Calls Tryd.prog 61 #[.pointer (some ⟨B, 0, none⟩), .int .i64 (ix : Int)] w fun e w' => ∃ p v', e = .returned (.agg (pcv p)) ∧ PcIs K p q w' ∧ BgAt B v' (outG g ix) K w' ∧ At' w v v' ∧ Ch (fun k => k = B ∨ v.ownBlock = some k) w w' := by
  obtain ⟨i0, hi0, hz0, hz1, hz2⟩ := info_parts info_p
  have HI := hid_of' (And.intro hi0 (And.intro hz0 (And.intro hz1 hz2)))
  clear hi0 hz0 hz1 hz2
  have h := h0.bne
  obtain ⟨g9, c9, p, rfl, hc1, hc2, hin, hpq, hth⟩ := h.row.at hq
  obtain ⟨ps, hrw, hps⟩ := h.row
  have hil := (List.getElem?_eq_some_iff.1 hq).1
  obtain ⟨N9, hN⟩ : ∃ N9, g.l.length = N9 := ⟨_, rfl⟩
  have hl4 : N9 ≤ 4096 := by have := h.room; have := h.most1; omega
  rw [hN] at hil hc1 hrw
  have hBR : ¬ some g9 = some B := fun e => h.ne g9 rfl (by simpa using e)
  have hrow := h.lies
  simp only [hN] at hrow
  have hsz := hrow.lt
  have hgz := hin.1
  have HH := hid_of' (And.intro h0 (And.intro hpq (And.intro hps (And.intro hN (And.intro hc1 hc2)))))
  have HW := hid_of' hrw
  have hki : (ix : Int) < (N9 : Int) := by omega
  have k1 : (ix : Int) ≤ (c9 : Int) := by omega
  have k2 : (0 : Int) ≤ (ix : Int) := by omega
  have hN4 : (N9 : Int) ≤ 4096 := by omega
  have k4 : (N9 : Int) ≤ (c9 : Int) := by omega
  have r4 : RowAt w.heap.size (pcv pc0) 65 (w.alloc (.cells (pcv pc0) 65)) := row_new w _ _
  have HX := hid_of' (And.intro hin (And.intro hth (And.intro r4 hrow)))
  have c1 : (w.alloc (.cells #[.int .i64 0, .int .i64 0, .int .i64 0, .slice none 0 0] 65)).cell? ⟨B, 1, none⟩ = some (.slice (some ⟨g9, 0, none⟩) N9 c9) := (hrow.later (below_one _ _)).cellIs 1 rfl
  have HP1 : p.b.oneCell' = true := hpq.b.sl.one
  clear hin hth r4 hrow h0 h hpq hps hrw hc1 hc2 hq
  go_enter Tryd.func61, Tryd.ntmps61
  go_upto_region 2 with (first | (refine wpL_loadP (p := p) rfl _ rfl rfl (HX.out.1.later (below_one _ _)) ?_) | (refine wpL_stNewP (p := p) rfl _ _ rfl rfl rfl (World.size_alloc _ _).symm rfl rfl HP1 ?_; go_simp))
  have hb2 := below_two w (.cells #[.int .i64 0, .int .i64 0, .int .i64 0, .slice none 0 0] 65) (.cells (pcv p) 65)
  have r4 : RowAt w.heap.size (pcv pc0) 65 ((w.alloc (.cells #[.int .i64 0, .int .i64 0, .int .i64 0, .slice none 0 0] 65)).alloc (.cells (pcv p) 65)) := (row_new w _ _).later (below_one _ _)
  have r5 : RowAt (w.heap.size + 1) (pcv p) 65 ((w.alloc (.cells #[.int .i64 0, .int .i64 0, .int .i64 0, .slice none 0 0] 65)).alloc (.cells (pcv p) 65)) := row_new2 w _ _ _
  clear c1
  generalize (w.alloc (.cells #[.int .i64 0, .int .i64 0, .int .i64 0, .slice none 0 0] 65)).alloc (.cells (pcv p) 65) = w2 at hb2 r4 r5 ⊢
  have c1 : w2.cell? ⟨B, 1, none⟩ = some (.slice (some ⟨g9, 0, none⟩) N9 c9) := (HX.out.2.2.2.later hb2).cellIs 1 rfl
  have hth2 : w2.there g9 (ix * 4) 4 := fun j hj => by
    have := HX.out.2.1 j hj
    rw [hb2.cell (p := ⟨g9, ix * 4 + j, none⟩) hgz, World.frozen?_of_block (w := w) (hb2.block g9 hgz)]
    exact this
  have HT := hid_of' hth2
  have H2 := hid_of' (And.intro hb2 (And.intro r4 r5))
  clear hb2 r4 r5 hth2
  go_upto_region 3 with (refine wpL_storeP (p := pc0) rfl _ _ rfl rfl rfl rfl HT.out ?_; go_simp)
  have hne9 : ¬ g9 = B := fun e => hBR (by rw [e])
  have rB : RowAt B #[.int .i64 g.most, .slice (some ⟨g9, 0, none⟩) N9 c9, .int .i64 g.last, .int .i64 g.sent, .int .i64 g.arr, .int .i64 g.drp, .int .i64 g.dbl] 55 (w2.setCells g9 (ix * 4) (pcv pc0).toList) := (World.heap_setCells_other w2 g9 _ _ (HX.out.2.2.2.later H2.out.1).lt (fun e => hne9 e.symm)).trans (HX.out.2.2.2.later H2.out.1)
  have r4 : RowAt w.heap.size (pcv pc0) 65 (w2.setCells g9 (ix * 4) (pcv pc0).toList) := (World.heap_setCells_other w2 g9 _ _ H2.out.2.1.lt (by omega)).trans H2.out.2.1
  have r5 : RowAt (w.heap.size + 1) (pcv p) 65 (w2.setCells g9 (ix * 4) (pcv pc0).toList) := (World.heap_setCells_other w2 g9 _ _ H2.out.2.2.lt (by omega)).trans H2.out.2.2
  have rw3 := (HW.out.later H2.out.1).put hil pc0
  have ch3 : Ch (fun k => k = B ∨ Value.ownBlock (.slice (some ⟨g9, 0, none⟩) N9 c9) = some k) w (w2.setCells g9 (ix * 4) (pcv pc0).toList) := Ch.cells (.inl (.inr rfl)) _ _ _ (Ch.of H2.out.1)
  clear c1 HT
  generalize w2.setCells g9 (ix * 4) (pcv pc0).toList = w3 at rB r4 r5 rw3 ch3 ⊢
  have hlen : ps.length = N9 := by have := rw3.1; rw [pcells_len, List.length_set] at this; omega
  have HR : Hid (Rw 65 4 (.slice (some ⟨g9, 0, none⟩) ix ix) ix (pcells (ps.take ix)) w3 ∧ (∀ y ∈ pcells (ps.drop (ix + 1)), y.oneCell' = true) ∧ ix + (N9 - (ix + 1)) ≤ maxLen ∧ (ix + (N9 - (ix + 1))) * 48 ≤ 140737488355328) := by
    have h1 := rw3.first (i := ix) (d := ix) (by omega) (Nat.le_refl _) (by omega)
    rw [set_take] at h1
    exact ⟨h1, pcells_one _ (fun p hp => HH.out.2.2.1.ones p (List.mem_of_mem_drop hp)), by unfold maxLen; omega, by omega⟩
  obtain ⟨zs, hzs⟩ : ∃ zs, ps.eraseIdx ix = zs := ⟨_, rfl⟩
  obtain ⟨M9, hM9⟩ : ∃ M9, N9 - 1 = M9 := ⟨_, rfl⟩
  have HE : Hid (∀ v' x', Rw 65 4 v' (ix + (N9 - (ix + 1))) (pcells (ps.take ix) ++ pcells (ps.drop (ix + 1))) x' → Rw 65 4 v' M9 (pcells zs) x') := fun v' x' hr => by
    rw [← pcells_app, ← List.eraseIdx_eq_take_drop_succ, hzs, show ix + (N9 - (ix + 1)) = M9 by omega] at hr
    exact hr
  have HS : Hid (So 4 (.slice (if c9 = ix + 1 then some ⟨g9, 0, none⟩ else some ⟨g9, (ix + 1) * 4, none⟩) (N9 - (ix + 1)) (c9 - (ix + 1))) (N9 - (ix + 1)) (pcells (ps.drop (ix + 1))) w3) := by
    by_cases ha : c9 = ix + 1
    · rw [if_pos ha]
      refine ⟨by rw [pcells_len, List.length_drop, hlen], .inl ⟨by omega, _, _, by rw [show N9 - (ix + 1) = 0 by omega]⟩⟩
    · rw [if_neg ha]
      have := rw3.rest (i := ix + 1) (by omega) (c9 - (ix + 1))
      rw [set_drop] at this
      exact this
  have HZ := hid_of' (And.intro hzs (And.intro hM9 hlen))
  have H3 := hid_of' (And.intro r4 (And.intro r5 ch3))
  have k3 : (ix : Int) + 1 ≤ (N9 : Int) := by omega
  have k5 : 0 ≤ (ix : Int) + 1 := by omega
  have kw : IntKind.i64.wrap ((ix : Int) + 1) = (ix : Int) + 1 := by rw [IntKind.wrap_i64]; omega
  clear hzs hM9 hlen r4 r5 ch3 rw3 H2 HW
  refine wp_region_once 16 (by kernel_rfl) (fun _ => none) (by kernel_rfl) (by kernel_rfl) (by decide) (fun i v x => match i with
    | 0 => v = .pointer (some ⟨B, 0, none⟩)
    | 1 => v = .pointer (some ⟨B, 0, none⟩)
    | 2 => v = .pointer (some ⟨B, 0, none⟩)
    | 3 => v = .pointer (some ⟨B, 1, none⟩)
    | 4 => v = .slice (some ⟨g9, 0, none⟩) N9 c9
    | 5 => v = .int .i64 (ix : Int)
    | 6 => v = .int .i64 (ix : Int)
    | 7 => v = .slice (some ⟨g9, 0, none⟩) ix ix
    | 8 => v = .pointer (some ⟨B, 0, none⟩)
    | 9 => v = .pointer (some ⟨B, 0, none⟩)
    | 10 => v = .pointer (some ⟨B, 1, none⟩)
    | 11 => v = .slice (some ⟨g9, 0, none⟩) N9 c9
    | 12 => v = .int .i64 (ix : Int)
    | 13 => v = .int .i64 ((ix : Int) + 1)
    | 14 => v = .slice (if c9 = ix + 1 then some ⟨g9, 0, none⟩ else some ⟨g9, (ix + 1) * 4, none⟩) (N9 - (ix + 1)) (c9 - (ix + 1))
    | 15 => Rw 65 4 v M9 (pcells zs) x ∧ At' w3 (.slice (some ⟨g9, 0, none⟩) N9 c9) v
    | _ => True) (fun _ => false) (fun _ _ _ _ h => by cases h) 15 (by decide) (fun a b => World.grownBy a b (some g9)) (fun a b => World.grownBy a b (some g9)) (fun _ _ g h => grown_later g h) (fun _ h => grown_of h) (fun _ _ h g => grown_first h g) (fun _ _ g => g.size) ?_ ?_ ?_ ?_
  · intro i v x x' hR hb
    match i, hR with
    | 0, h => exact h
    | 1, h => exact h
    | 2, h => exact h
    | 3, h => exact h
    | 4, h => exact h
    | 5, h => exact h
    | 6, h => exact h
    | 7, h => exact h
    | 8, h => exact h
    | 9, h => exact h
    | 10, h => exact h
    | 11, h => exact h
    | 12, h => exact h
    | 13, h => exact h
    | 14, h => exact h
    | 15, h => exact ⟨h.1.later hb, h.2⟩
    | m + 16, h => exact h
  · intro i v x x' hne hR hb
    match i, hne, hR with
    | 0, hne, h => exact h
    | 1, hne, h => exact h
    | 2, hne, h => exact h
    | 3, hne, h => exact h
    | 4, hne, h => exact h
    | 5, hne, h => exact h
    | 6, hne, h => exact h
    | 7, hne, h => exact h
    | 8, hne, h => exact h
    | 9, hne, h => exact h
    | 10, hne, h => exact h
    | 11, hne, h => exact h
    | 12, hne, h => exact h
    | 13, hne, h => exact h
    | 14, hne, h => exact h
    | 15, hne, h => exact absurd rfl hne
    | m + 16, _, h => exact h
  · intro i o hi ho q x vals hX hC hdep hoth
    have t0 : q.tmps[0]? = some (.pointer (some ⟨B, 0, none⟩)) := by rw [hoth 0 (by kernel_rfl)]; rfl
    have t1 : q.tmps[1]? = some (.int .i64 (ix : Int)) := by rw [hoth 1 (by kernel_rfl)]; rfl
    match i, hi, ho, hC with
    | 0, _, ho, hC =>
      simp only [List.getElem?_cons_zero, Option.some.injEq] at ho
      subst ho
      unfold Oper.wp
      simp [execOp, go_sem, t0]
      exact cameB _ rfl (by decide) (Below.refl _ _) rfl (fun h => absurd h (by decide))
    | 1, _, ho, hC =>
      simp only [List.getElem?_cons_succ, List.getElem?_cons_zero, Option.some.injEq] at ho
      subst ho
      unfold Oper.wp
      simp [execOp, go_sem, t0]
      exact cameB _ rfl (by decide) (Below.refl _ _) rfl (fun h => absurd h (by decide))
    | 2, _, ho, hC =>
      simp only [List.getElem?_cons_succ, List.getElem?_cons_zero, Option.some.injEq] at ho
      subst ho
      obtain ⟨u1, e1⟩ := hdep ⟨1, .data⟩ (by simp) rfl _ 21 rfl rfl
      rw [show vals 1 = .pointer (some ⟨B, 0, none⟩) from e1] at u1
      unfold Oper.wp
      simp [execOp, go_sem, u1]
      exact cameB _ rfl (by decide) (Below.refl _ _) rfl (fun h => absurd h (by decide))
    | 3, _, ho, hC =>
      simp only [List.getElem?_cons_succ, List.getElem?_cons_zero, Option.some.injEq] at ho
      subst ho
      obtain ⟨u2, e2⟩ := hdep ⟨2, .data⟩ (by simp) rfl _ 22 rfl rfl
      rw [show vals 2 = .pointer (some ⟨B, 0, none⟩) from e2] at u2
      unfold Oper.wp
      simp [execOp, go_sem, u2]
      exact cameB _ rfl (by decide) (Below.refl _ _) rfl (fun h => absurd h (by decide))
    | 4, _, ho, hC =>
      simp only [List.getElem?_cons_succ, List.getElem?_cons_zero, Option.some.injEq] at ho
      subst ho
      obtain ⟨u3, e3⟩ := hdep ⟨3, .data⟩ (by simp) rfl _ 23 rfl rfl
      rw [show vals 3 = .pointer (some ⟨B, 1, none⟩) from e3] at u3
      have cc : x.cell? ⟨B, 1, none⟩ = some (.slice (some ⟨g9, 0, none⟩) N9 c9) := (RowAt.grow rB hX hBR).cellIs 1 rfl
      unfold Oper.wp
      simp [execOp, go_sem, u3, cc]
      exact cameB _ rfl (by decide) (Below.refl _ _) rfl (fun h => absurd h (by decide))
    | 5, _, ho, hC =>
      simp only [List.getElem?_cons_succ, List.getElem?_cons_zero, Option.some.injEq] at ho
      subst ho
      unfold Oper.wp
      simp [execOp, go_sem, t1]
      exact cameB _ rfl (by decide) (Below.refl _ _) rfl (fun h => absurd h (by decide))
    | 6, _, ho, hC =>
      simp only [List.getElem?_cons_succ, List.getElem?_cons_zero, Option.some.injEq] at ho
      subst ho
      unfold Oper.wp
      simp [execOp, go_sem, t1]
      exact cameB _ rfl (by decide) (Below.refl _ _) rfl (fun h => absurd h (by decide))
    | 7, _, ho, hC =>
      simp only [List.getElem?_cons_succ, List.getElem?_cons_zero, Option.some.injEq] at ho
      subst ho
      obtain ⟨u4, e4⟩ := hdep ⟨4, .data⟩ (by simp) rfl _ 24 rfl rfl
      rw [show vals 4 = .slice (some ⟨g9, 0, none⟩) N9 c9 from e4] at u4
      obtain ⟨u5, e5⟩ := hdep ⟨5, .data⟩ (by simp) rfl _ 25 rfl rfl
      rw [show vals 5 = .int .i64 (ix : Int) from e5] at u5
      obtain ⟨u6, e6⟩ := hdep ⟨6, .data⟩ (by simp) rfl _ 26 rfl rfl
      rw [show vals 6 = .int .i64 (ix : Int) from e6] at u6
      unfold Oper.wp
      simp [execOp, go_sem, u4, u5, u6, k1, k2]
      exact cameB _ rfl (by decide) (Below.refl _ _) rfl (fun h => absurd h (by decide))
    | 8, _, ho, hC =>
      simp only [List.getElem?_cons_succ, List.getElem?_cons_zero, Option.some.injEq] at ho
      subst ho
      unfold Oper.wp
      simp [execOp, go_sem, t0]
      exact cameB _ rfl (by decide) (Below.refl _ _) rfl (fun h => absurd h (by decide))
    | 9, _, ho, hC =>
      simp only [List.getElem?_cons_succ, List.getElem?_cons_zero, Option.some.injEq] at ho
      subst ho
      obtain ⟨u8, e8⟩ := hdep ⟨8, .data⟩ (by simp) rfl _ 28 rfl rfl
      rw [show vals 8 = .pointer (some ⟨B, 0, none⟩) from e8] at u8
      unfold Oper.wp
      simp [execOp, go_sem, u8]
      exact cameB _ rfl (by decide) (Below.refl _ _) rfl (fun h => absurd h (by decide))
    | 10, _, ho, hC =>
      simp only [List.getElem?_cons_succ, List.getElem?_cons_zero, Option.some.injEq] at ho
      subst ho
      obtain ⟨u9, e9⟩ := hdep ⟨9, .data⟩ (by simp) rfl _ 29 rfl rfl
      rw [show vals 9 = .pointer (some ⟨B, 0, none⟩) from e9] at u9
      unfold Oper.wp
      simp [execOp, go_sem, u9]
      exact cameB _ rfl (by decide) (Below.refl _ _) rfl (fun h => absurd h (by decide))
    | 11, _, ho, hC =>
      simp only [List.getElem?_cons_succ, List.getElem?_cons_zero, Option.some.injEq] at ho
      subst ho
      obtain ⟨u10, e10⟩ := hdep ⟨10, .data⟩ (by simp) rfl _ 30 rfl rfl
      rw [show vals 10 = .pointer (some ⟨B, 1, none⟩) from e10] at u10
      have cc : x.cell? ⟨B, 1, none⟩ = some (.slice (some ⟨g9, 0, none⟩) N9 c9) := (RowAt.grow rB hX hBR).cellIs 1 rfl
      unfold Oper.wp
      simp [execOp, go_sem, u10, cc]
      exact cameB _ rfl (by decide) (Below.refl _ _) rfl (fun h => absurd h (by decide))
    | 12, _, ho, hC =>
      simp only [List.getElem?_cons_succ, List.getElem?_cons_zero, Option.some.injEq] at ho
      subst ho
      unfold Oper.wp
      simp [execOp, go_sem, t1]
      exact cameB _ rfl (by decide) (Below.refl _ _) rfl (fun h => absurd h (by decide))
    | 13, _, ho, hC =>
      simp only [List.getElem?_cons_succ, List.getElem?_cons_zero, Option.some.injEq] at ho
      subst ho
      obtain ⟨u12, e12⟩ := hdep ⟨12, .data⟩ (by simp) rfl _ 32 rfl rfl
      rw [show vals 12 = .int .i64 (ix : Int) from e12] at u12
      unfold Oper.wp
      simp [execOp, go_sem, u12, kw]
      exact cameB _ rfl (by decide) (Below.refl _ _) rfl (fun h => absurd h (by decide))
    | 14, _, ho, hC =>
      simp only [List.getElem?_cons_succ, List.getElem?_cons_zero, Option.some.injEq] at ho
      subst ho
      obtain ⟨u11, e11⟩ := hdep ⟨11, .data⟩ (by simp) rfl _ 31 rfl rfl
      rw [show vals 11 = .slice (some ⟨g9, 0, none⟩) N9 c9 from e11] at u11
      obtain ⟨u13, e13⟩ := hdep ⟨13, .data⟩ (by simp) rfl _ 33 rfl rfl
      rw [show vals 13 = .int .i64 ((ix : Int) + 1) from e13] at u13
      unfold Oper.wp
      simp [execOp, go_sem, u11, u13, k3, k5]
      exact cameB _ rfl (by decide) (Below.refl _ _) rfl (fun h => absurd h (by decide))
    | 15, _, ho, hC =>
      simp only [List.getElem?_cons_succ, List.getElem?_cons_zero, Option.some.injEq] at ho
      subst ho
      obtain ⟨u7, e7⟩ := hdep ⟨7, .data⟩ (by simp) rfl _ 27 rfl rfl
      rw [show vals 7 = .slice (some ⟨g9, 0, none⟩) ix ix from e7] at u7
      obtain ⟨u14, e14⟩ := hdep ⟨14, .data⟩ (by simp) rfl _ 34 rfl rfl
      rw [show vals 14 = .slice (if c9 = ix + 1 then some ⟨g9, 0, none⟩ else some ⟨g9, (ix + 1) * 4, none⟩) (N9 - (ix + 1)) (c9 - (ix + 1)) from e14] at u14
      have hb := hC (.inl rfl)
      refine opw_app (P := Tryd.prog) _ _ 45 rfl 65 i0 _ 4 48 Tryd.underlying45 HI.out.1 HI.out.2.1 HI.out.2.2.1 HI.out.2.2.2 rfl (by simp [Act.eval, u7]) (by simp [Act.eval, u14]) (HR.out.1.later hb) (So.later HS.out hb) HR.out.2.1 HR.out.2.2.1 HR.out.2.2.2 ?_
      intro v' x' q1 q2 q3
      exact cameX _ rfl q2 ⟨HE.out v' x' q1, fun k hk => (q3 k hk).elim (fun q => .inl q) (fun q => .inr (Nat.le_trans hb.size q))⟩ rfl
    | m + 16, hi, _, _ => exact absurd hi (by omega)
  · intro vals x hX hR _
    have e0 : vals 0 = .pointer (some ⟨B, 0, none⟩) := hR 0 (by decide)
    obtain ⟨q1, q2⟩ : Rw 65 4 (vals 15) M9 (pcells zs) x ∧ At' w3 (.slice (some ⟨g9, 0, none⟩) N9 c9) (vals 15) := hR 15 (by decide)
    obtain ⟨xa, xc, e15, _, _⟩ := q1.form
    rw [e15] at q1 q2
    have hx := RowAt.grow rB hX hBR
    have x4 := RowAt.grow H3.out.1 hX (by simp only [Option.some.injEq]; omega)
    have x5 := RowAt.grow H3.out.2.1 hX (by simp only [Option.some.injEq]; omega)
    have chx := H3.out.2.2.grown hX (fun k hk => .inl (.inr hk))
    have cB := hx.cellIs 1 rfl
    have fB := hx.froz 1
    have hs3 := H3.out.2.2.size
    have hs4 := H3.out.2.1.lt
    have rBy := hx.setc 1 (.slice xa M9 xc)
    have x4y := x4.setn ⟨B, 1, none⟩ (.slice xa M9 xc) (by show ¬ w.heap.size = B; omega)
    have x5y := x5.setn ⟨B, 1, none⟩ (.slice xa M9 xc) (by show ¬ w.heap.size + 1 = B; omega)
    have hq2 : ∀ k, Value.ownBlock (.slice xa M9 xc) = some k → ¬ k = B := fun k hk e => by
      rcases q2 k hk with q | q
      · simp [Value.ownBlock] at q; omega
      · omega
    have qy := q1.ch (Ch.set (S := fun k => k = B) (Ch.refl _ x) (p := ⟨B, 1, none⟩) (.inl rfl) (.slice xa M9 xc)) hq2
    have chy := chx.set (p := ⟨B, 1, none⟩) (.inl (.inl rfl)) (.slice xa M9 xc)
    have HY := hid_of' (And.intro rBy (And.intro x4y (And.intro x5y (And.intro qy (And.intro chy q2)))))
    clear rBy x4y x5y qy chy q2 q1 x4 x5 chx hx hR hX hq2
    simp only [List.drop, List.take, putAll, List.setIfInBounds_toArray, List.set_cons_succ, List.set_cons_zero, e0, e15]
    clear e0 e15
    go_wp2_with (first | (refine wpL_loadP (p := p) rfl _ rfl rfl HY.out.2.2.1.in ?_) | (refine wpL_storePr (p := p) (q := pc0) rfl _ _ rfl rfl rfl HP1 HY.out.2.1 ?_))
    have chz := HY.out.2.2.2.2.1.row (g := w.heap.size) (.inr (Nat.le_refl _)) (pcv p)
    have hKn : ∀ k, (K k ∧ k < w.heap.size ∧ ¬ k = B ∧ ∀ i, Value.ownBlock (.slice (some ⟨g9, 0, none⟩) g.l.length c9) = some i → ¬ k = i) → ¬ (k = B ∨ Value.ownBlock (.slice (some ⟨g9, 0, none⟩) N9 c9) = some k) := fun k hk hS => by
      rcases hS with hS | hS
      · exact hk.2.2.1 hS
      · exact hk.2.2.2 k hS rfl
    refine bodyPost_ret (v := .agg (pcv p)) (results_p (fn := Tryd.f61) (p := 4) (g := w.heap.size) rfl rfl (HY.out.2.1.put _)) rfl ⟨p, .slice xa M9 xc, rfl, ?_, ⟨?_, ?_, HH.out.1.most0, HH.out.1.most1, ?_⟩, ?_, ?_⟩
    · exact (HH.out.2.1.ch chz hKn).mono (fun k hk _ => hk.1)
    · exact HY.out.1.other _ _ (by omega)
    · refine ⟨zs, ?_, ?_⟩
      · have := HY.out.2.2.2.1.ch (Ch.row (S := fun k => k = w.heap.size) (Ch.refl _ _) (.inl rfl) (pcv p)) (fun k hk e => by
          rcases HY.out.2.2.2.2.2 k hk with q | q
          · simp [Value.ownBlock] at q; omega
          · omega)
        rw [show (outG g ix).l.length = M9 by unfold outG; simp only; rw [List.length_eraseIdx_of_lt (by omega), hN]; exact HZ.out.2.1]
        exact this
      · rw [← HZ.out.1]
        exact ((HH.out.2.2.1.ch chz hKn).mono (fun k hk _ => hk.1)).erase ix
    · show ((g.l.eraseIdx ix).length : Int) ≤ g.most
      have := HH.out.1.room
      rw [List.length_eraseIdx_of_lt (by omega)]
      omega
    · exact fun k hk => (HY.out.2.2.2.2.2 k hk).elim (fun q => .inl q) (fun q => .inr (by omega))
    · exact chz
end Go.Proofs.YtdojjhhnciaegaaDoor
