
/-
  The document's Bag: out.
-/
import Derived.Test.YtdojjhhnciaegaaDoorZb31
import Derived.Test.YtdojjhhnciaegaaDoorZb32
namespace Go.Proofs.YtdojjhhnciaegaaDoor
open Go.RowKit Go.Extern.Stop Go.Stop Go.Extern
set_option maxRecDepth 100000

/-- append to an empty row that has no room: nothing that was there turns. -/
theorem run_appZ {P : Program} (w : World) (t ty e : TypeId) (i : TypeInfo) (z : Value) (size bytes : Nat) (ht : P.underlying t = some (.slice e)) (hi : P.info? e = some i) (hz : i.zero = some z)
    (hsize : i.size = size) (hby : i.bytes = bytes) (hzs : z.cells.size = size) {g : Nat} (hg : w.heap[g]? = some (.cells #[] e (0, 0))) {u : Value} {m : Nat} {ys : List Value} (hu : So size u m ys w)
    (h63 : m ≤ maxLen) (hbytes : m * bytes ≤ 140737488355328) :
    ∃ v' w', (Builtin.append_ #[t, t] ty #[.slice (some ⟨g, 0, none⟩) 0 0, u]).run P w = .ok v' w' ∧ Rw e size v' m ys w' ∧ Below w.heap.size w w' ∧ ∀ k, v'.ownBlock = some k → k = g ∨ w.heap.size ≤ k := by
  subst hsize
  subst hby
  have hsmall : m ≤ 9223372036854775807 := by simp only [maxLen] at h63; omega
  by_cases hm0 : m = 0
  · subst hm0
    have hy : ys = [] := List.eq_nil_of_length_eq_zero (by simpa using hu.1)
    subst hy
    have hs : Src P i.size t u 0 [] w := by
      rcases hu.2 with ⟨_, a', c', rfl⟩ | ⟨a', c', rfl, hc⟩
      · cases a' with
        | none => exact Src.ofNil w ht c'
        | some a' => exact Src.ofSlice w ht a' 0 c' [] (by simp) (fun j u h => by simp at h) (fun u h => by simp at h)
      · exact Src.ofSlice w ht a' 0 c' [] (by simp) (fun j u h => by simp at h) (fun u h => by simp at h)
    exact ⟨_, w, run_append_nothing w t t ty e i ht hi _ 0 0 (Nat.le_refl _) u hs, ⟨by simp, .inr ⟨g, 0, #[], rfl, hg, Nat.le_refl _, Nat.zero_le _, by simp, by simp⟩⟩, Below.refl _ _, fun k hk => .inl (by cases hk; rfl)⟩
  · obtain ⟨a, c, rfl, hnews⟩ : ∃ a c, u = .slice (some a) m c ∧ ∀ j x, ys[j]? = some x → w.cell? (a.add j) = some x := by
      rcases hu.2 with ⟨q, _⟩ | q
      · exact absurd q hm0
      · exact q
    have hr := run_append_grow (P := P) w t ty e i z ht hi hz ⟨g, 0, none⟩ 0 0 [] (by simp) (fun j u hj => by simp at hj) a m c ys hu.1 hnews (by omega) (by omega) (growslice_fits (by omega) (by simpa using hbytes))
    simp only [Nat.zero_add] at hr
    have hge := grownCap_ge w m 0 e
    have hcm : grownCap w m 0 e ≤ maxLen := grownCap_le_maxLen w m 0 e h63
    refine ⟨_, _, hr, ⟨hu.1, .inr ⟨w.heap.size, _, _, rfl, heap_alloc_new w.drew _, hge, hcm, ?_, ?_⟩⟩, ?_, fun k hk => .inr (by cases hk; exact Nat.le_refl _)⟩
    · simp only [Array.size_append, List.size_toArray, size_zeroCells, hzs, hu.1]
      simp only [List.length_nil, Nat.zero_add, ← Nat.add_mul]
      exact Nat.mul_le_mul_right _ (by omega)
    · simp only [Array.toList_append, List.append_assoc]
      rw [← hu.1]
      simp
    · exact ⟨rfl, rfl, rfl, by simp, fun k hk => heap_alloc_old w.drew _ hk⟩
/-- A row of parcels as they lie. -/
def RwQ (v : Value) (ps : List Pc) (w : World) : Prop := Rw 65 4 v ps.length (pcells ps) w
/-- In a block that is new. -/
def NewB (w : World) (v : Value) : Prop := ∀ k, v.ownBlock = some k → w.heap.size ≤ k
theorem newB_grow {w x x' : World} {v : Value} (h : NewB w v) (hg : x.grownBy x' v.ownBlock) (hs : w.heap.size ≤ x.heap.size) : Below w.heap.size x x' :=
  ⟨hg.os, hg.tape, hg.output, hg.size, fun k hk => hg.block k (by omega) (fun e => by have := h k e.symm; omega)⟩
theorem newB_at {w x : World} {v v' : Value} (h : NewB w v) (ha : At' x v v') (hs : w.heap.size ≤ x.heap.size) : NewB w v' := fun k hk => (ha k hk).elim (h k) (fun q => Nat.le_trans hs q)
/-- What append takes of parcels. -/
def SoQ (u : Value) (ps : List Pc) (w : World) : Prop := So 4 u ps.length (pcells ps) w
def OneQ (ps : List Pc) : Prop := ∀ v ∈ pcells ps, v.oneCell' = true
theorem OneQ.of {K : Nat → Prop} {ps : List Pc} {qs : List Pl} {w : World} (h : PsAt K ps qs w) : OneQ ps := by
  intro v hv
  obtain ⟨k, hk, e⟩ := List.getElem_of_mem hv
  obtain ⟨i, p, j, h1, _, h3⟩ := pcells_of ps k v (by rw [List.getElem?_eq_getElem hk, e])
  obtain ⟨q, hq⟩ : ∃ q, qs[i]? = some q := ⟨_, List.getElem?_eq_getElem (by rw [← h.1]; exact (List.getElem?_eq_some_iff.1 h1).1)⟩
  have hp := pcv_one p (h.2 i p q h1 hq).b.sl.one
  rw [Array.all_eq_true] at hp
  obtain ⟨hj, e3⟩ := Array.getElem?_eq_some_iff.1 h3
  have := hp j hj
  rw [e3] at this
  exact this
section
variable {K : Act → World → Prop} {o : Oper} {A : Act} {w : World} {Q : Exit → Act → World → Prop}
theorem opw_appP0 (s x : Operand) (ho : o.op = .call { callee := .builtin .append, args := #[s, x], argTypes := #[45, 45] })
    {g : Nat} {u : Value} {m : List Pc} (hs : A.eval s = .slice (some ⟨g, 0, none⟩) 0 0) (hx : A.eval x = u) (hg : w.heap[g]? = some (.cells #[] 65 (0, 0))) (hu : SoQ u m w) (hn : m.length ≤ 1000000)
    (k : ∀ v' w', RwQ v' m w' → Below w.heap.size w w' → (∀ k, v'.ownBlock = some k → k = g ∨ w.heap.size ≤ k) → K (A.put o.dst v') w') : o.wp Tryd.prog A w K Q := by
  obtain ⟨i0, hi, hz0, hz1, hz2⟩ := info_parts info_p
  obtain ⟨v', w', hr, h2, h3, h4⟩ := run_appZ (P := Tryd.prog) w 45 o.type 65 i0 _ 4 48 Tryd.underlying45 hi hz0 hz1 hz2 rfl hg hu (by unfold maxLen; omega) (by omega)
  unfold Oper.wp execOp
  simp only [ho, resolve, invoke, builtin, Sem.run_bind, Sem.run_pure, Result.andThen_ok, List.map_toArray, List.map_cons, List.map_nil, hs, hx, hr]
  exact k v' w' h2 h3 h4
theorem opw_appP (s x : Operand) (ho : o.op = .call { callee := .builtin .append, args := #[s, x], argTypes := #[45, 45] })
    {v u : Value} {l m : List Pc} (hs : A.eval s = v) (hx : A.eval x = u) (hv : RwQ v l w) (hu : SoQ u m w) (h1 : OneQ m) (hn : l.length + m.length ≤ 1000000)
    (k : ∀ v' w', RwQ v' (l ++ m) w' → w.grownBy w' v.ownBlock → At' w v v' → K (A.put o.dst v') w') : o.wp Tryd.prog A w K Q := by
  obtain ⟨i0, hi, hz0, hz1, hz2⟩ := info_parts info_p
  refine opw_app (P := Tryd.prog) s x 45 ho 65 i0 _ 4 48 Tryd.underlying45 hi hz0 hz1 hz2 rfl hs hx hv hu h1 (by unfold maxLen; omega) (by omega) fun v' w' q1 q2 q3 => k v' w' ?_ q2 q3
  unfold RwQ
  rw [List.length_append, pcells_app]
  exact q1
theorem opw_noneP (ho : o.op = .buildSlice 45 0 #[]) (k : K (A.put o.dst (.slice (some ⟨w.heap.size, 0, none⟩) 0 0)) (w.alloc (.cells #[] 65))) : o.wp Tryd.prog A w K Q := by
  unfold Oper.wp
  simp [execOp, ho, go_sem]
  exact k
end
/-- The row up to a place, and from one on. -/
theorem so_take {g N c n : Nat} {ps : List Pc} {w : World} (h : Rw 65 4 (.slice (some ⟨g, 0, none⟩) N c) N (pcells ps) w) (hn : n ≤ ps.length) : SoQ (.slice (some ⟨g, 0, none⟩) n c) (ps.take n) w := by
  have hl : (ps.take n).length = n := by rw [List.length_take, Nat.min_eq_left hn]
  unfold SoQ
  refine ⟨by rw [pcells_len], .inr ⟨_, c, by rw [hl], fun j u hj => ?_⟩⟩
  rw [Addr.add_lit]
  refine h.cells j u ?_
  have hj' := (List.getElem?_eq_some_iff.1 hj).1
  rw [← pcells_take, List.length_take] at hj'
  rw [← pcells_take, List.getElem?_take, if_pos (by omega)] at hj
  exact hj
theorem so_drop {g N c j : Nat} {ps : List Pc} {w : World} (h : Rw 65 4 (.slice (some ⟨g, 0, none⟩) N c) N (pcells ps) w) (hN : N = ps.length) {AD : Addr} (hA : ¬ c = j → AD = ⟨g, j * 4, none⟩) (hc : c = j → N - j = 0) : SoQ (.slice (some AD) (N - j) (c - j)) (ps.drop j) w := by
  have hl : (ps.drop j).length = N - j := by rw [List.length_drop, hN]
  unfold SoQ
  refine ⟨by rw [pcells_len], ?_⟩
  by_cases hcj : c = j
  · exact .inl ⟨by rw [hl]; exact hc hcj, by rw [hc hcj]; exact ⟨_, _, rfl⟩⟩
  · refine .inr ⟨_, _, by rw [hl], fun q u hq => ?_⟩
    rw [hA hcj, Addr.add_lit]
    rw [← pcells_drop, List.getElem?_drop] at hq
    have := h.cells _ _ hq
    rwa [Nat.zero_add] at this
theorem RgAt.ne {B : Nat} {v : Value} {g : Bg} {K : Nat → Prop} {w : World} (h : RgAt B v g K w) : ∀ k, v.ownBlock = some k → ¬ k = B := by
  intro k hk e
  obtain ⟨ps, h1, _⟩ := h.row
  rcases h1.2 with ⟨rfl, _⟩ | ⟨g', cap, cur, rfl, hg, _⟩
  · cases hk
  · cases hk
    subst e
    rw [show w.heap[g']? = _ from h.lies] at hg
    simp at hg
theorem RgAt.kne {B : Nat} {v : Value} {g : Bg} {K : Nat → Prop} {w : World} (h : RgAt B v g K w) : PRow (fun k => K k ∧ k < w.heap.size ∧ ¬ k = B ∧ ∀ i, v.ownBlock = some i → ¬ k = i) v g.l w := by
  obtain ⟨ps, h1, h2⟩ := h.row.bne
  refine ⟨ps, h1, h2.1, fun i p q hp hq => ?_⟩
  have hpq := h2.2 i p q hp hq
  refine ⟨hpq.s, hpq.f, hpq.t, ⟨hpq.b.1, fun k hk => ⟨(hpq.b.2 k hk).1, (hpq.b.2 k hk).2.1, fun e => ?_, (hpq.b.2 k hk).2.2⟩⟩, hpq.le⟩
  subst e
  rcases hpq.b.1.2 with ⟨e1, _⟩ | ⟨g', cap, cur, e1, hg, _⟩
  · rw [e1] at hk; cases hk
  · rw [e1] at hk
    cases hk
    rw [show w.heap[g']? = _ from h.lies] at hg
    simp at hg
set_option maxHeartbeats 8000000 in
theorem refOut_ok {B : Nat} {v : Value} {g : Bg} {K : Nat → Prop} {w : World} (h0 : RgAt B v g K w) {n : Nat} {q : Pl} (hq : g.l[n]? = some q) :
    Calls Tryd.prog 63 #[.pointer (some ⟨B, 0, none⟩), .int .i64 (n : Int)] w fun e w' => ∃ p v', e = .returned (.agg (pcv p)) ∧ PcIs K p q w' ∧ RgAt B v' (outG g n) K w' ∧ NewB w v' ∧ Ch (fun k => k = B) w w' := by
  have hkn := h0.kne
  obtain ⟨g9, c9, p, rfl, hc1, hc2, hin, hpq, hth⟩ := hkn.at hq
  obtain ⟨ps, hrw, hps⟩ := hkn
  have hil := (List.getElem?_eq_some_iff.1 hq).1
  obtain ⟨N, hN⟩ : ∃ N, g.l.length = N := ⟨_, rfl⟩
  have hl4 : N ≤ 4096 := by have := h0.room; have := h0.most1; omega
  have hpl : ps.length = N := by rw [← hN]; exact hps.1
  rw [hN] at hil hc1 hrw
  have hrow := h0.lies
  simp only [hN] at hrow
  have HP1 : p.b.oneCell' = true := hpq.b.sl.one
  have HW := hid_of' (And.intro hrw (And.intro hps (And.intro h0 (And.intro hpl hN))))
  have hone := OneQ.of (hps.drop (n + 1))
  have hki : (n : Int) < (N : Int) := by omega
  have k1 : (0 : Int) ≤ (n : Int) := by omega
  have k2 : (n : Int) ≤ (c9 : Int) := by omega
  have n7 : n ≤ c9 := by omega
  have r4 : RowAt w.heap.size (pcv pc0) 65 (w.alloc (.cells (pcv pc0) 65)) := row_new w _ _
  have HX := hid_of' (And.intro hin (And.intro r4 (And.intro hrow hpq)))
  have c1 : (w.alloc (.cells #[.int .i64 0, .int .i64 0, .int .i64 0, .slice none 0 0] 65)).cell? ⟨B, 2, none⟩ = some (.slice (some ⟨g9, 0, none⟩) N c9) := (hrow.later (below_one _ _)).cellIs 2 rfl
  clear hin hth r4 hrow h0 hps hrw hpq hq
  go_enter Tryd.func63, Tryd.ntmps63
  go_upto_region 2 with (first | (refine wpL_loadP (p := p) rfl _ rfl rfl (HX.out.1.later (below_one _ _)) ?_) | (refine wpL_stNewP (p := p) rfl _ _ rfl rfl rfl (World.size_alloc _ _).symm rfl rfl HP1 ?_; go_simp))
  have hb2 := below_two w (.cells #[.int .i64 0, .int .i64 0, .int .i64 0, .slice none 0 0] 65) (.cells (pcv p) 65)
  have r4 : RowAt w.heap.size (pcv pc0) 65 ((w.alloc (.cells #[.int .i64 0, .int .i64 0, .int .i64 0, .slice none 0 0] 65)).alloc (.cells (pcv p) 65)) := (row_new w _ _).later (below_one _ _)
  have r5 : RowAt (w.heap.size + 1) (pcv p) 65 ((w.alloc (.cells #[.int .i64 0, .int .i64 0, .int .i64 0, .slice none 0 0] 65)).alloc (.cells (pcv p) 65)) := row_new2 w _ _ _
  clear c1
  generalize (w.alloc (.cells #[.int .i64 0, .int .i64 0, .int .i64 0, .slice none 0 0] 65)).alloc (.cells (pcv p) 65) = w2 at hb2 r4 r5 ⊢
  obtain ⟨j, hj⟩ : ∃ j, j = n + 1 := ⟨_, rfl⟩
  have hji : IntKind.i64.wrap ((n : Int) + 1) = (j : Int) := by rw [IntKind.wrap_i64]; omega
  rw [← hj] at hone
  obtain ⟨AD, hAD, hsrc⟩ : ∃ AD : Addr, (if c9 = j then some (⟨g9, 0, none⟩ : Addr) else some ⟨g9, j * 4, none⟩) = some AD ∧ ∀ X, Below w2.heap.size w2 X → SoQ (.slice (some AD) (N - j) (c9 - j)) (ps.drop j) X := by
    by_cases hc : c9 = j
    · refine ⟨_, by rw [if_pos hc], fun X hX => ?_⟩
      exact so_drop (Rw.later HW.out.1 (bgo hb2 hX)) HW.out.2.2.2.1.symm (fun h => absurd hc h) (fun _ => by omega)
    · refine ⟨_, by rw [if_neg hc], fun X hX => ?_⟩
      exact so_drop (Rw.later HW.out.1 (bgo hb2 hX)) HW.out.2.2.2.1.symm (fun _ => rfl) (fun h => absurd h hc)
  have hs7 : ∀ X, Below w2.heap.size w2 X → SoQ (.slice (some ⟨g9, 0, none⟩) n c9) (ps.take n) X := fun X hX => so_take (Rw.later HW.out.1 (bgo hb2 hX)) (by omega)
  have HS7 := hid_of' hs7
  have HS15 := hid_of' hsrc
  have hl7 : (ps.take n).length ≤ 1000000 := by rw [List.length_take]; omega
  have hln : (ps.take n).length + (ps.drop j).length ≤ 1000000 := by rw [List.length_take, List.length_drop]; omega
  have k3 : (j : Int) ≤ (N : Int) := by omega
  have k7 : 0 ≤ (j : Int) := by omega
  have n3 : j ≤ N := by omega
  have H2 := hid_of' (And.intro (HX.out.2.2.1.later hb2) (And.intro r4 (And.intro r5 hb2)))
  have HJ := hid_of' hj
  have hsz2 : w.heap.size + 1 < w2.heap.size := r5.lt
  have hBw : B < w.heap.size := HX.out.2.2.1.lt
  clear hs7 hsrc r4 r5 hb2 hj
  go_upto_region 2 with fail
  refine wp_region_onceD 17 (by kernel_rfl) (fun _ => none) (by kernel_rfl) (by kernel_rfl) (by decide) (fun ii u X => match ii with
    | 0 => u = .pointer (some ⟨B, 0, none⟩)
    | 1 => ∃ g, u = .slice (some ⟨g, 0, none⟩) 0 0 ∧ w2.heap.size ≤ g ∧ X.heap[g]? = some (.cells #[] 65 (0, 0))
    | 2 => u = .pointer (some ⟨B, 0, none⟩)
    | 3 => u = .pointer (some ⟨B, 0, none⟩)
    | 4 => u = .pointer (some ⟨B, 2, none⟩)
    | 5 => u = .slice (some ⟨g9, 0, none⟩) N c9
    | 6 => u = .int .i64 (n : Int)
    | 7 => u = .slice (some ⟨g9, 0, none⟩) n c9
    | 8 => RwQ u (ps.take n) X ∧ NewB w2 u
    | 9 => u = .pointer (some ⟨B, 0, none⟩)
    | 10 => u = .pointer (some ⟨B, 0, none⟩)
    | 11 => u = .pointer (some ⟨B, 2, none⟩)
    | 12 => u = .slice (some ⟨g9, 0, none⟩) N c9
    | 13 => u = .int .i64 (n : Int)
    | 14 => u = .int .i64 (j : Int)
    | 15 => u = .slice (some AD) (N - j) (c9 - j)
    | 16 => RwQ u (ps.take n ++ ps.drop j) X ∧ NewB w2 u
    | _ => True) (fun _ => false) (fun i => i == 0 || i == 16) (fun _ h => absurd rfl h) (fun _ _ _ _ h => by cases h) 16 (by decide) (fun a b => Below a.heap.size a b) (fun a b => Below (w2.heap.size) a b) (fun _ _ g h => g.trans (h.mono g.size)) (fun _ h => h) (fun _ _ h g => ⟨g.os.trans h.os, g.tape.trans h.tape, g.output.trans h.output, Nat.le_trans h.size g.size, fun k hk => (g.block k hk).trans (h.block k hk)⟩) (fun _ _ g => g.size) ?_ ?_ ?_ ?_
  · intro ii u X X' hR hb
    match ii, hR with
    | 0, h => exact h
    | 1, h => exact (by obtain ⟨g, h1, h2, h3⟩ := h; exact ⟨g, h1, h2, (hb.block g (Array.getElem?_eq_some_iff.1 h3).1).trans h3⟩)
    | 2, h => exact h
    | 3, h => exact h
    | 4, h => exact h
    | 5, h => exact h
    | 6, h => exact h
    | 7, h => exact h
    | 8, h => exact ⟨Rw.later h.1 hb, h.2⟩
    | 9, h => exact h
    | 10, h => exact h
    | 11, h => exact h
    | 12, h => exact h
    | 13, h => exact h
    | 14, h => exact h
    | 15, h => exact h
    | 16, h => exact ⟨Rw.later h.1 hb, h.2⟩
    | m + 17, h => exact h
  · intro ii u X X' hne hD hR hb
    match ii, hne, hD, hR with
    | 0, hne, hD, h => exact h
    | 1, hne, hD, h => cases hD
    | 2, hne, hD, h => cases hD
    | 3, hne, hD, h => cases hD
    | 4, hne, hD, h => cases hD
    | 5, hne, hD, h => cases hD
    | 6, hne, hD, h => cases hD
    | 7, hne, hD, h => cases hD
    | 8, hne, hD, h => cases hD
    | 9, hne, hD, h => cases hD
    | 10, hne, hD, h => cases hD
    | 11, hne, hD, h => cases hD
    | 12, hne, hD, h => cases hD
    | 13, hne, hD, h => cases hD
    | 14, hne, hD, h => cases hD
    | 15, hne, hD, h => cases hD
    | 16, hne, hD, h => exact absurd rfl hne
    | m + 17, _, _, h => exact h
  · intro ii o hi ho q X vals hX hC hdep hoth
    have t0 : q.tmps[0]? = some (.pointer (some ⟨B, 0, none⟩)) := by rw [hoth 0 (by kernel_rfl)]; rfl
    have t1 : q.tmps[1]? = some (.int .i64 (n : Int)) := by rw [hoth 1 (by kernel_rfl)]; rfl
    match ii, hi, ho, hC with
    | 0, _, ho, hC =>
      simp only [List.getElem?_cons_zero, Option.some.injEq] at ho
      subst ho
      unfold Oper.wp
      simp [execOp, go_sem, t0]
      exact cameB _ rfl (by decide) (Below.refl _ _) rfl (fun h => absurd h (by decide))
    | 1, _, ho, hC =>
      simp only [List.getElem?_cons_succ, List.getElem?_cons_zero, Option.some.injEq] at ho
      subst ho
      refine opw_noneP rfl ?_
      exact cameB _ rfl (by decide) (below_one _ _) ⟨X.heap.size, rfl, hX.size, heap_alloc_last X _⟩ (fun h => absurd h (by decide))
    | 2, _, ho, hC =>
      simp only [List.getElem?_cons_succ, List.getElem?_cons_zero, Option.some.injEq] at ho
      subst ho
      unfold Oper.wp
      simp [execOp, go_sem, t0]
      exact cameB _ rfl (by decide) (Below.refl _ _) rfl (fun h => absurd h (by decide))
    | 3, _, ho, hC =>
      simp only [List.getElem?_cons_succ, List.getElem?_cons_zero, Option.some.injEq] at ho
      subst ho
      obtain ⟨u2, e2⟩ := hdep ⟨2, .data⟩ (by simp) rfl _ 15 rfl rfl
      replace e2 := e2 (.inr (.inr (by kernel_rfl)))
      rw [show vals 2 = .pointer (some ⟨B, 0, none⟩) from e2] at u2
      unfold Oper.wp
      simp [execOp, go_sem, u2]
      exact cameB _ rfl (by decide) (Below.refl _ _) rfl (fun h => absurd h (by decide))
    | 4, _, ho, hC =>
      simp only [List.getElem?_cons_succ, List.getElem?_cons_zero, Option.some.injEq] at ho
      subst ho
      obtain ⟨u3, e3⟩ := hdep ⟨3, .data⟩ (by simp) rfl _ 16 rfl rfl
      replace e3 := e3 (.inr (.inr (by kernel_rfl)))
      rw [show vals 3 = .pointer (some ⟨B, 0, none⟩) from e3] at u3
      unfold Oper.wp
      simp [execOp, go_sem, u3]
      exact cameB _ rfl (by decide) (Below.refl _ _) rfl (fun h => absurd h (by decide))
    | 5, _, ho, hC =>
      simp only [List.getElem?_cons_succ, List.getElem?_cons_zero, Option.some.injEq] at ho
      subst ho
      obtain ⟨u4, e4⟩ := hdep ⟨4, .data⟩ (by simp) rfl _ 17 rfl rfl
      replace e4 := e4 (.inr (.inr (by kernel_rfl)))
      rw [show vals 4 = .pointer (some ⟨B, 2, none⟩) from e4] at u4
      have cc : X.cell? ⟨B, 2, none⟩ = some (.slice (some ⟨g9, 0, none⟩) N c9) := (H2.out.1.later hX).cellIs 2 rfl
      unfold Oper.wp
      simp [execOp, go_sem, u4, cc]
      exact cameB _ rfl (by decide) (Below.refl _ _) rfl (fun h => absurd h (by decide))
    | 6, _, ho, hC =>
      simp only [List.getElem?_cons_succ, List.getElem?_cons_zero, Option.some.injEq] at ho
      subst ho
      unfold Oper.wp
      simp [execOp, go_sem, t1]
      exact cameB _ rfl (by decide) (Below.refl _ _) rfl (fun h => absurd h (by decide))
    | 7, _, ho, hC =>
      simp only [List.getElem?_cons_succ, List.getElem?_cons_zero, Option.some.injEq] at ho
      subst ho
      obtain ⟨u5, e5⟩ := hdep ⟨5, .data⟩ (by simp) rfl _ 18 rfl rfl
      replace e5 := e5 (.inr (.inr (by kernel_rfl)))
      rw [show vals 5 = .slice (some ⟨g9, 0, none⟩) N c9 from e5] at u5
      obtain ⟨u6, e6⟩ := hdep ⟨6, .data⟩ (by simp) rfl _ 19 rfl rfl
      replace e6 := e6 (.inr (.inr (by kernel_rfl)))
      rw [show vals 6 = .int .i64 (n : Int) from e6] at u6
      unfold Oper.wp
      simp [execOp, go_sem, u5, u6, k1, k2]
      exact cameB _ rfl (by decide) (Below.refl _ _) rfl (fun h => absurd h (by decide))
    | 8, _, ho, hC =>
      simp only [List.getElem?_cons_succ, List.getElem?_cons_zero, Option.some.injEq] at ho
      subst ho
      obtain ⟨u1, e1⟩ := hdep ⟨1, .data⟩ (by simp) rfl _ 14 rfl rfl
      replace e1 := e1 (.inr (.inr (by kernel_rfl)))
      obtain ⟨u7, e7⟩ := hdep ⟨7, .data⟩ (by simp) rfl _ 20 rfl rfl
      replace e7 := e7 (.inr (.inr (by kernel_rfl)))
      rw [show vals 7 = .slice (some ⟨g9, 0, none⟩) n c9 from e7] at u7
      obtain ⟨g1, e1, hg1, hc1⟩ : ∃ g, vals 1 = .slice (some ⟨g, 0, none⟩) 0 0 ∧ w2.heap.size ≤ g ∧ X.heap[g]? = some (.cells #[] 65 (0, 0)) := e1
      rw [e1] at u1
      refine opw_appP0 _ _ rfl (by simp [Act.eval, u1]) (by simp [Act.eval, u7]) hc1 (HS7.out X hX) hl7 ?_
      intro v' X' q1 q2 q3
      exact cameB _ rfl (by decide) q2 ⟨q1, fun k hk => (q3 k hk).elim (fun e => by omega) (fun q => Nat.le_trans hX.size q)⟩ (fun h => absurd h (by decide))
    | 9, _, ho, hC =>
      simp only [List.getElem?_cons_succ, List.getElem?_cons_zero, Option.some.injEq] at ho
      subst ho
      unfold Oper.wp
      simp [execOp, go_sem, t0]
      exact cameB _ rfl (by decide) (Below.refl _ _) rfl (fun h => absurd h (by decide))
    | 10, _, ho, hC =>
      simp only [List.getElem?_cons_succ, List.getElem?_cons_zero, Option.some.injEq] at ho
      subst ho
      obtain ⟨u9, e9⟩ := hdep ⟨9, .data⟩ (by simp) rfl _ 22 rfl rfl
      replace e9 := e9 (.inr (.inr (by kernel_rfl)))
      rw [show vals 9 = .pointer (some ⟨B, 0, none⟩) from e9] at u9
      unfold Oper.wp
      simp [execOp, go_sem, u9]
      exact cameB _ rfl (by decide) (Below.refl _ _) rfl (fun h => absurd h (by decide))
    | 11, _, ho, hC =>
      simp only [List.getElem?_cons_succ, List.getElem?_cons_zero, Option.some.injEq] at ho
      subst ho
      obtain ⟨u10, e10⟩ := hdep ⟨10, .data⟩ (by simp) rfl _ 23 rfl rfl
      replace e10 := e10 (.inr (.inr (by kernel_rfl)))
      rw [show vals 10 = .pointer (some ⟨B, 0, none⟩) from e10] at u10
      unfold Oper.wp
      simp [execOp, go_sem, u10]
      exact cameB _ rfl (by decide) (Below.refl _ _) rfl (fun h => absurd h (by decide))
    | 12, _, ho, hC =>
      simp only [List.getElem?_cons_succ, List.getElem?_cons_zero, Option.some.injEq] at ho
      subst ho
      obtain ⟨u11, e11⟩ := hdep ⟨11, .data⟩ (by simp) rfl _ 24 rfl rfl
      replace e11 := e11 (.inr (.inr (by kernel_rfl)))
      rw [show vals 11 = .pointer (some ⟨B, 2, none⟩) from e11] at u11
      have cc : X.cell? ⟨B, 2, none⟩ = some (.slice (some ⟨g9, 0, none⟩) N c9) := (H2.out.1.later hX).cellIs 2 rfl
      unfold Oper.wp
      simp [execOp, go_sem, u11, cc]
      exact cameB _ rfl (by decide) (Below.refl _ _) rfl (fun h => absurd h (by decide))
    | 13, _, ho, hC =>
      simp only [List.getElem?_cons_succ, List.getElem?_cons_zero, Option.some.injEq] at ho
      subst ho
      unfold Oper.wp
      simp [execOp, go_sem, t1]
      exact cameB _ rfl (by decide) (Below.refl _ _) rfl (fun h => absurd h (by decide))
    | 14, _, ho, hC =>
      simp only [List.getElem?_cons_succ, List.getElem?_cons_zero, Option.some.injEq] at ho
      subst ho
      obtain ⟨u13, e13⟩ := hdep ⟨13, .data⟩ (by simp) rfl _ 26 rfl rfl
      replace e13 := e13 (.inr (.inr (by kernel_rfl)))
      rw [show vals 13 = .int .i64 (n : Int) from e13] at u13
      unfold Oper.wp
      simp [execOp, go_sem, u13, hji]
      exact cameB _ rfl (by decide) (Below.refl _ _) rfl (fun h => absurd h (by decide))
    | 15, _, ho, hC =>
      simp only [List.getElem?_cons_succ, List.getElem?_cons_zero, Option.some.injEq] at ho
      subst ho
      obtain ⟨u12, e12⟩ := hdep ⟨12, .data⟩ (by simp) rfl _ 25 rfl rfl
      replace e12 := e12 (.inr (.inr (by kernel_rfl)))
      rw [show vals 12 = .slice (some ⟨g9, 0, none⟩) N c9 from e12] at u12
      obtain ⟨u14, e14⟩ := hdep ⟨14, .data⟩ (by simp) rfl _ 27 rfl rfl
      replace e14 := e14 (.inr (.inr (by kernel_rfl)))
      rw [show vals 14 = .int .i64 (j : Int) from e14] at u14
      unfold Oper.wp
      simp [execOp, go_sem, u12, u14, k3, k7, hAD]
      exact cameB _ rfl (by decide) (Below.refl _ _) rfl (fun h => absurd h (by decide))
    | 16, _, ho, hC =>
      simp only [List.getElem?_cons_succ, List.getElem?_cons_zero, Option.some.injEq] at ho
      subst ho
      obtain ⟨u8, e8⟩ := hdep ⟨8, .data⟩ (by simp) rfl _ 21 rfl rfl
      replace e8 := e8 (.inr (.inl rfl))
      obtain ⟨u15, e15⟩ := hdep ⟨15, .data⟩ (by simp) rfl _ 28 rfl rfl
      replace e15 := e15 (.inr (.inl rfl))
      rw [show vals 15 = .slice (some AD) (N - j) (c9 - j) from e15] at u15
      obtain ⟨q8, n8⟩ : RwQ (vals 8) (ps.take n) X ∧ NewB w2 (vals 8) := e8
      have hb := hC (.inl rfl)
      refine opw_appP _ _ rfl (by simp [Act.eval, u8]) (by simp [Act.eval, u15]) q8 (HS15.out X hb) hone hln ?_
      intro v' X' p1 p2 p3
      exact cameX _ rfl (newB_grow n8 p2 hb.size) ⟨p1, newB_at n8 p3 hb.size⟩ rfl
    | m + 17, hi, _, _ => exact absurd hi (by omega)
  · intro vals X hX hR _
    have e0 : vals 0 = .pointer (some ⟨B, 0, none⟩) := hR 0 (by decide) rfl
    obtain ⟨p1, n9⟩ : RwQ (vals 16) (ps.take n ++ ps.drop j) X ∧ NewB w2 (vals 16) := hR 16 (by decide) rfl
    obtain ⟨xa, xc, e9, _, _⟩ := Rw.form p1
    obtain ⟨M, hM⟩ : ∃ M, (ps.take n ++ ps.drop j).length = M := ⟨_, rfl⟩
    rw [hM] at e9
    rw [e9] at p1 n9
    have hR5 := H2.out.1.later hX
    have c5 := hR5.cellIs 2 rfl
    have f5 := hR5.froz 2
    have s5 : Ch (fun k => k = B) X (X.setCell ⟨B, 2, none⟩ (.slice xa M xc)) := Ch.set (S := fun k => k = B) (Ch.refl _ X) (p := ⟨B, 2, none⟩) (.inl rfl) _
    have hsx := hX.size
    have hps5 := (HW.out.2.1.later (bgo H2.out.2.2.2 hX)).ch s5 (fun k hk e => hk.2.2.1 e)
    have hps6 := hps5.erase n
    rw [List.eraseIdx_eq_take_drop_succ (l := ps), ← HJ.out] at hps6
    have hx5 := (H2.out.2.2.1.later hX).ch s5 (by omega)
    have ha5 := (H2.out.2.1.later hX).ch s5 (by omega)
    have hpp := (PcIs.later HX.out.2.2.2 (bgo H2.out.2.2.2 hX)).ch s5 (fun k hk e => hk.2.2.1 e)
    have HY := hid_of' (And.intro (Rw.ch p1 s5 (fun k hk e => by have := n9 k hk; omega)) (And.intro n9 (And.intro (hR5.setc 2 (.slice xa M xc)) (And.intro hps6 (And.intro hx5 (And.intro ha5 (And.intro hpp ((Ch.of (S := fun k => k = B) (bgo H2.out.2.2.2 hX)).go s5 (fun q hq => .inl hq)))))))))
    clear hR p1 n9 hX hR5 s5 hps5 hps6 hx5 ha5 hpp hM
    simp only [List.drop, List.take, putAll, List.setIfInBounds_toArray, List.set_cons_succ, List.set_cons_zero, e0, e9]
    clear e0 e9
    go_upto_region 3 with fail
    clear c5 f5
    generalize X.setCell ⟨B, 2, none⟩ (.slice xa M xc) = X2 at HY ⊢
    have hx6 := HY.out.2.2.2.2.1
    have ha6 := HY.out.2.2.2.2.2.1
    go_wp2_with (first | (refine wpL_loadP (p := p) rfl _ rfl rfl hx6.in ?_) | (refine wpL_storePr (p := p) (q := pc0) rfl _ _ rfl rfl rfl HP1 ha6 ?_))
    have s7 : Ch (fun k => k = w.heap.size) X2 (X2.setRow w.heap.size (pcv p)) := Ch.row (S := fun k => k = w.heap.size) (Ch.refl _ X2) (.inl rfl) _
    obtain ⟨y1, y2, y3, y4, _, _, y7, y8⟩ := HY.out
    refine bodyPost_ret (v := .agg (pcv p)) (results_p (fn := Tryd.f63) (p := 4) (g := w.heap.size) rfl rfl (ha6.put _)) rfl ⟨p, .slice xa M xc, rfl, ?_, ⟨?_, ⟨ps.take n ++ ps.drop j, ?_, ?_⟩, HW.out.2.2.1.most1, ?_⟩, fun k hk => by have := y2 k hk; omega, y8.go s7 (fun q hq => .inr (by omega))⟩
    · exact (y7.ch s7 (fun k hk e => by have := hk.2.1; omega)).mono (fun k hk _ => hk.1)
    · exact y3.ch s7 (by omega)
    · have h := Rw.ch y1 s7 (fun k hk e => by have := y2 k hk; omega)
      rw [y4.1] at h
      exact h
    · exact (y4.ch s7 (fun k hk e => by have := hk.2.1; omega)).mono (fun k hk _ => hk.1)
    · have h := HW.out.2.2.1.room
      have h2 := List.length_eraseIdx_le g.l n
      show ((g.l.eraseIdx n).length : Int) ≤ g.most
      omega
end Go.Proofs.YtdojjhhnciaegaaDoor
