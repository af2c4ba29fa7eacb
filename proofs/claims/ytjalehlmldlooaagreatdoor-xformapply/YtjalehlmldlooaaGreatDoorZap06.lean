
/-
  slices.Grow of nil, slices.Clone, slices.Concat, over rows of elements. slices.Concat.
-/
import Derived.Test.YtjalehlmldlooaaGreatDoorZap05
import Derived.Laws.AppendOwn
import Derived.Lib.AppendZeros
import Derived.Lib.AppendZerosOnto
import Derived.Lib.SlFresh
import Derived.Deep.Upon
namespace Go.Proofs.YtjalehlmldlooaaGreatDoor
open Go.RowKit
set_option maxRecDepth 100000

/-- The cells of a row of elements. -/
def ecells : List El → List Value
  | [] => []
  | e :: l => .int .i64 e.ep :: .int .i64 e.rp :: .int .i64 e.no :: .int .i32 e.ch :: .int .i64 e.hd :: ecells l
theorem ecells_len : ∀ l : List El, (ecells l).length = l.length * 5
  | [] => rfl
  | e :: l => by simp only [ecells, List.length_cons, ecells_len l]; omega
theorem ecells_app : ∀ a b : List El, ecells (a ++ b) = ecells a ++ ecells b
  | [], _ => rfl
  | x :: r, b => by simp [ecells, ecells_app r b]
theorem ecells_at : ∀ (l : List El) (i : Nat) (e : El), l[i]? = some e → ∀ j v, (ev e)[j]? = some v → (ecells l)[i * 5 + j]? = some v
  | [], i, e, h, _, _, _ => by simp at h
  | y :: r, 0, e, h, j, v, hv => by
    simp at h; subst h
    match j, hv with
    | 0, hv | 1, hv | 2, hv | 3, hv | 4, hv => simpa [ev, ecells] using hv
    | j + 5, hv => simp [ev] at hv
  | y :: r, i + 1, e, h, j, v, hv => by
    have := ecells_at r i e (by simpa using h) j v hv
    have e1 : (i + 1) * 5 + j = i * 5 + j + 1 + 1 + 1 + 1 + 1 := by omega
    rw [e1]
    simpa [ecells] using this
theorem ecells_of : ∀ (l : List El) (k : Nat) (u : Value), (ecells l)[k]? = some u → ∃ i e j, l[i]? = some e ∧ k = i * 5 + j ∧ (ev e)[j]? = some u
  | [], k, u, h => by simp [ecells] at h
  | y :: r, k, u, h => by
    match k, h with
    | 0, h => exact ⟨0, y, 0, rfl, rfl, by simpa [ev, ecells] using h⟩
    | 1, h => exact ⟨0, y, 1, rfl, rfl, by simpa [ev, ecells] using h⟩
    | 2, h => exact ⟨0, y, 2, rfl, rfl, by simpa [ev, ecells] using h⟩
    | 3, h => exact ⟨0, y, 3, rfl, rfl, by simpa [ev, ecells] using h⟩
    | 4, h => exact ⟨0, y, 4, rfl, rfl, by simpa [ev, ecells] using h⟩
    | k + 5, h =>
      obtain ⟨i, e, j, h1, h2, h3⟩ := ecells_of r k u (by simpa [ecells] using h)
      exact ⟨i + 1, e, j, by simpa using h1, by omega, h3⟩
theorem ecells_one (l : List El) : ∀ u ∈ ecells l, u.oneCell' = true := by
  induction l with
  | nil => simp [ecells]
  | cons e l ih =>
    intro u hu
    simp only [ecells, List.mem_cons] at hu
    rcases hu with rfl | rfl | rfl | rfl | rfl | hu <;> first | rfl | exact ih u hu
theorem ElsAt.cells {g o_ : Nat} {l : List El} {w : World} (h : ElsAt g o_ l w) : ∀ j u, (ecells l)[j]? = some u → w.cell? ((⟨g, o_, none⟩ : Addr).add j) = some u := fun j u hu => by
  obtain ⟨i, e, k, h1, rfl, h3⟩ := ecells_of l j u hu
  rw [Addr.add_lit, ← Nat.add_assoc]
  exact (h i e h1).2 k u h3
theorem els_of_cells {g o_ : Nat} {l : List El} {w : World} (hg : g < w.heap.size) (h : ∀ j u, (ecells l)[j]? = some u → w.cell? ⟨g, o_ + j, none⟩ = some u) : ElsAt g o_ l w := fun i e he =>
  ⟨hg, fun j v hv => by rw [Nat.add_assoc]; exact h _ _ (ecells_at l i e he j v hv)⟩

/-- A row of elements that is one's own. -/
def OwnE (base : Nat) (v : Value) (l : List El) (w : World) : Prop := w.ownsRow base 49 5 v l.length (ecells l)
theorem OwnE.sl {base : Nat} {v : Value} {l : List El} {w : World} (h : OwnE base v l w) : SlE w v l := by
  have h0 := h
  rcases h.2 with ⟨rfl, hn⟩ | ⟨g, cap, cur, rfl, _, hg, _⟩
  · exact .inl ⟨List.length_eq_zero_iff.1 hn, none, 0, rfl⟩
  · refine .inr ⟨g, 0, cap, rfl, els_of_cells (Array.getElem?_eq_some_iff.1 hg).1 fun j u hu => ?_⟩
    have := (World.ownsRow.cells h0 (g := g) rfl) j u hu
    simpa [Addr.add_lit] using this
theorem OwnE.block {base : Nat} {v : Value} {l : List El} {w : World} (h : OwnE base v l w) (hl : l ≠ []) : ∃ g c, base ≤ g ∧ v = .slice (some ⟨g, 0, none⟩) l.length c ∧ ElsAt g 0 l w := by
  have h0 := h
  rcases h.2 with ⟨rfl, hn⟩ | ⟨g, cap, cur, rfl, hb, hg, _⟩
  · exact absurd (List.length_eq_zero_iff.1 hn) hl
  · refine ⟨g, cap, hb, rfl, els_of_cells (Array.getElem?_eq_some_iff.1 hg).1 fun j u hu => ?_⟩
    have := (World.ownsRow.cells h0 (g := g) rfl) j u hu
    simpa [Addr.add_lit] using this

theorem OwnE.room {base : Nat} {v : Value} {l : List El} {w : World} (h : OwnE base v l w) (hl : l ≠ []) : ∃ g c, base ≤ g ∧ v = .slice (some ⟨g, 0, none⟩) l.length c ∧ ElsAt g 0 l w ∧ l.length ≤ c ∧ c ≤ 9223372036854775807 := by
  obtain ⟨g, c, h1, h2, h3⟩ := h.block hl
  rcases h.2 with ⟨h4, hn⟩ | ⟨g', cap, cur, h4, _, _, h5, h6, _⟩
  · exact absurd (List.length_eq_zero_iff.1 hn) hl
  · rw [h2] at h4
    cases h4
    exact ⟨g, c, h1, h2, h3, h5, h6⟩
theorem info_el : (Tryz.prog.info? 49).map (fun i => (i.zero, i.size, i.bytes)) = some (some (.agg #[.int .i64 0, .int .i64 0, .int .i64 0, .int .i32 0, .int .i64 0]), 5, 40) := by kernel_rfl
theorem run_appE {base : Nat} {v u : Value} {xs l : List El} {w : World} (ty : TypeId) (hown : OwnE base v xs w) (hu : SlE w u l) (hlen : xs.length + l.length ≤ 1099511627776) (hbase : base ≤ w.heap.size) :
    ∃ v' w', (Builtin.append_ #[22, 22] ty #[v, u]).run Tryz.prog w = .ok v' w' ∧ OwnE base v' (xs ++ l) w' ∧ w.grownBy w' v.ownBlock := by
  obtain ⟨i0, hi, hi3⟩ := Option.map_eq_some_iff.1 info_el
  simp only [Prod.mk.injEq] at hi3
  obtain ⟨hz0, hz1, hz2⟩ := hi3
  have key : ∀ (a : Addr) (c : Nat), u = .slice (some a) l.length c → (∀ j x, (ecells l)[j]? = some x → w.cell? (a.add j) = some x) → ∃ v' w', (Builtin.append_ #[22, 22] ty #[v, u]).run Tryz.prog w = .ok v' w' ∧ OwnE base v' (xs ++ l) w' ∧ w.grownBy w' v.ownBlock := by
    intro a c hu hc
    subst hu
    obtain ⟨v', w', h1, h2, h3, _⟩ := run_append_own (P := Tryz.prog) w base 22 ty 49 i0 _ 5 40 Tryz.underlying22 hi hz0 hz1 hz2 rfl (by decide) v xs.length (ecells xs) hown a l.length c (ecells l) (ecells_len l) hc (ecells_one l) (by unfold maxLen; omega) (by omega) hbase
    refine ⟨v', w', h1, ?_, h3⟩
    unfold OwnE
    rw [List.length_append, ecells_app]
    exact h2
  rcases hu with ⟨rfl, a, c, rfl⟩ | ⟨g, o_, c, rfl, hl⟩
  · cases a with
    | some a => exact key a c rfl (fun j x hx => by simp [ecells] at hx)
    | none =>
      rw [List.append_nil]
      obtain ⟨a', n', c', rfl, hle⟩ : ∃ a' n' c', v = .slice a' n' c' ∧ n' ≤ c' := by
        rcases hown.2 with ⟨rfl, hn⟩ | ⟨g, cap, cur, rfl, _, _, hnc, _⟩
        · exact ⟨_, _, _, rfl, Nat.le_refl _⟩
        · exact ⟨_, _, _, rfl, hnc⟩
      exact ⟨_, w, run_append_nothing (P := Tryz.prog) w 22 22 ty 49 i0 Tryz.underlying22 hi a' n' c' hle _ (Src.ofNil w Tryz.underlying22 c), hown, ⟨rfl, rfl, rfl, Nat.le_refl _, fun _ _ _ => rfl⟩⟩
  · exact key ⟨g, o_, none⟩ c rfl hl.cells

set_option maxHeartbeats 2000000 in
theorem grow_zero (w : World) :
    Calls Tryz.prog 80 #[.slice none 0 0, .int .i64 0] w fun r w' => ∃ v, r = .returned v ∧ OwnE w.heap.size v [] w' ∧ Below w.heap.size w w' := by
  go_enter Tryz.func80, Tryz.ntmps80
  go_wp2
  go_ret
  exact ⟨_, rfl, ⟨rfl, .inl ⟨rfl, rfl⟩⟩, Below.refl _ _⟩
theorem below_drewE (w : World) (o : Obj) : Below w.heap.size w (w.drew.alloc o) := ⟨(below_one w o).os, (below_one w o).tape, (below_one w o).output, (below_one w o).size, (below_one w o).block⟩
set_option maxHeartbeats 2000000 in
theorem grow_pos (n : Nat) (w : World) (h0 : 0 < n) (hn : n ≤ 1099511627776) :
    Calls Tryz.prog 80 #[.slice none 0 0, .int .i64 n] w fun r w' => ∃ v, r = .returned v ∧ OwnE w.heap.size v [] w' ∧ Below w.heap.size w w' := by
  obtain ⟨i0, hi, hi3⟩ := Option.map_eq_some_iff.1 info_el
  simp only [Prod.mk.injEq] at hi3
  obtain ⟨hz0, hz1, hz2⟩ := hi3
  have hrz : ∀ ty, (Builtin.append_ #[22, 3] ty #[.slice none 0 0, .int .i64 (n : Int)]).run Tryz.prog w = _ := fun ty =>
    Lib.run_append_grow_zeros w 22 3 ty 49 i0 _ .i64 .i64 Tryz.underlying22 Tryz.underlying3 hi hz0 none 0 0 [] (run_firstCells_none w.drew i0.size 0 0 0) n h0 (by omega) (by omega) (by omega) (by rw [hz2]; omega)
      (growslice_fits (by omega) (by rw [hz2]; omega))
  have hGn : 0 + n ≤ grownCap w (0 + n) 0 49 := grownCap_ge w _ _ _
  have hG63 := grownCap_le_maxLen w (0 + n) 0 49 (by unfold maxLen; omega)
  obtain ⟨G, hG⟩ : ∃ G, grownCap w (0 + n) 0 49 = G := ⟨_, rfl⟩
  rw [hG] at hrz hGn hG63
  unfold maxLen at hG63
  have h1 : ¬ ((n : Int) < 0) := by omega
  have h4 : (0 : Int) < (n : Int) := by omega
  clear hG
  go_enter Tryz.func80, Tryz.ntmps80
  go_wp2_with (at_builtin; refine Lib.wpList_append_run _ rfl _ _ _ _ rfl _ _ rfl rfl _ _ (hrz _) ?_)
  go_ret
  refine ⟨_, rfl, ⟨rfl, .inr ⟨w.heap.size, G, _, rfl, Nat.le_refl _, heap_alloc_last w.drew _, by simp, by unfold maxLen; omega, ?_, by simp [ecells]⟩⟩, below_drewE w _⟩
  simp only [Array.size_append, size_zeroCells]
  show n * 5 + (G - n) * 5 = G * 5
  omega
theorem grow_nil (n : Nat) (w : World) (hn : n ≤ 1099511627776) :
    Calls Tryz.prog 80 #[.slice none 0 0, .int .i64 n] w fun r w' => ∃ v, r = .returned v ∧ OwnE w.heap.size v [] w' ∧ Below w.heap.size w w' := by
  by_cases h : n = 0
  · subst h; exact grow_zero w
  · exact grow_pos n w (by omega) hn

/-- append, in a walk. -/
theorem wpL_appE {ops : Array Oper} {rest : List Oper} {o : Oper} {A : Act} {w : World} {Q : Exit → Act → World → Prop} (hgd : o.guard = none) (s x : Operand) (ho : o.op = .call { callee := .builtin .append, args := #[s, x], argTypes := #[22, 22] })
    {base : Nat} {v u : Value} {xs l : List El} (hs : A.eval s = v) (hx : A.eval x = u) (hown : OwnE base v xs w) (hu : SlE w u l) (hlen : xs.length + l.length ≤ 1099511627776) (hbase : base ≤ w.heap.size)
    (k : ∀ v' w', OwnE base v' (xs ++ l) w' → w.grownBy w' v.ownBlock → wpList Tryz.prog ops Q rest (A.put o.dst v') w') : wpList Tryz.prog ops Q (o :: rest) A w := by
  obtain ⟨v', w', h1, h2, h3⟩ := run_appE o.type hown hu hlen hbase
  exact Lib.wpList_append_run_sl w hgd s x _ ho v u hs hx h1 (k v' w' h2 h3)
theorem OwnE.lt {base : Nat} {v : Value} {l : List El} {w : World} (h : OwnE base v l w) : ∀ k, v.ownBlock = some k → base ≤ k ∧ k < w.heap.size := fun k hk => World.ownsRow.lt h k hk
theorem OwnE.form {base : Nat} {v : Value} {l : List El} {w : World} (h : OwnE base v l w) : ∃ a c, v = .slice a l.length c := by
  rcases h.2 with ⟨rfl, hn⟩ | ⟨g, cap, cur, rfl, _⟩
  · exact ⟨none, 0, by rw [hn]⟩
  · exact ⟨_, _, rfl⟩

theorem eql_nil (a : Addr) (n c : Nat) (w : World) : (binOp .eql 22 (.slice (some a) n c) (.slice none 0 0)).run Tryz.prog w = .ok (.bool false) w := by kernel_rfl
theorem own_empty (w : World) : OwnE w.heap.size (.slice (some ⟨w.heap.size, 0, none⟩) 0 0) [] (w.alloc (.cells #[] 49)) :=
  ⟨rfl, .inr ⟨w.heap.size, 0, #[], rfl, Nat.le_refl _, heap_alloc_last w _, Nat.le_refl _, Nat.zero_le _, rfl, rfl⟩⟩
set_option maxHeartbeats 2000000 in
theorem clone_some (l : List El) (g o_ c : Nat) (w : World) (hl : ElsAt g o_ l w) (hn : l.length ≤ 1099511627776) :
    Calls Tryz.prog 96 #[.slice (some ⟨g, o_, none⟩) l.length c] w fun r w' => ∃ v, r = .returned v ∧ OwnE w.heap.size v l w' ∧ Below w.heap.size w w' := by
  have hq := eql_nil ⟨g, o_, none⟩ l.length c
  go_enter Tryz.func96, Tryz.ntmps96
  go_wp2_with (at_builtin; refine wpL_appE rfl _ _ rfl rfl rfl (own_empty w) (.inr ⟨g, o_, c, rfl, hl.later (below_one _ _)⟩) (by simpa using hn) (by simp) ?_; intro v' w1 ho hg)
  go_ret
  exact ⟨_, rfl, ho, (below_one w (.cells #[] 49)).grown hg (by simp) (fun k hk => ((own_empty w).lt k hk).1)⟩
end Go.Proofs.YtjalehlmldlooaaGreatDoor
namespace Go.Proofs.YtjalehlmldlooaaGreatDoor
open Go.RowKit
set_option maxRecDepth 100000

/-- What several rows are together. -/
def catE (vs : List (Value × List El)) : List El := vs.flatMap (·.2)
theorem catE_next {vs : List (Value × List El)} {k : Nat} {p : Value × List El} (h : vs[k]? = some p) : catE (vs.take (k + 1)) = catE (vs.take k) ++ p.2 := by
  rw [List.take_add_one, h]
  simp [catE]
theorem catE_le (vs : List (Value × List El)) (k : Nat) : (catE (vs.take k)).length ≤ (catE vs).length := by
  have : catE vs = catE (vs.take k) ++ catE (vs.drop k) := by
    unfold catE
    rw [← List.flatMap_append, List.take_append_drop]
  rw [this, List.length_append]
  omega
theorem SlE.form {w : World} {v : Value} {l : List El} (h : SlE w v l) : ∃ a c, v = .slice a l.length c := by
  rcases h with ⟨rfl, a, c, rfl⟩ | ⟨g, o_, c, rfl, _⟩
  · exact ⟨a, c, rfl⟩
  · exact ⟨_, c, rfl⟩

set_option maxHeartbeats 4000000 in
theorem concat_any (vs : List (Value × List El)) (q qo c : Nat) (w : World) (hv : ∀ i p, vs[i]? = some p → w.cell? ⟨q, qo + i, none⟩ = some p.1 ∧ SlE w p.1 p.2) (hq : q < w.heap.size) (htot : (catE vs).length ≤ 1099511627776) (hvs : vs.length ≤ 1073741824) :
    Calls Tryz.prog 64 #[.slice (some ⟨q, qo, none⟩) vs.length c] w fun r w' => ∃ v, r = .returned v ∧ OwnE w.heap.size v (catE vs) w' ∧ Below w.heap.size w w' := by
  go_enter Tryz.func64, Tryz.ntmps64
  go_wp2
  go_loopw [3, 11] (fun s i wr => ∃ k : Nat, i = .int .i64 (k : Int) ∧ k ≤ vs.length ∧ s = .int .i64 ((catE (vs.take k)).length : Int) ∧ wr = w) (fun _ i _ => vs.length - (intOf i).toNat)
  case atStart => exact ⟨0, rfl, by omega, rfl, rfl⟩
  case round =>
    obtain ⟨k, rfl, hk, rfl, hw⟩ := hrel
    have hw' : w = wr := hw.symm
    subst hw'
    clear hw
    have hle := catE_le vs k
    by_cases hlt : k < vs.length
    · have hki : (k : Int) < (vs.length : Int) := by omega
      obtain ⟨p, hp⟩ : ∃ p, vs[k]? = some p := ⟨_, List.getElem?_eq_getElem hlt⟩
      obtain ⟨c1, hs⟩ := hv k p hp
      obtain ⟨a', c', hf⟩ := hs.form
      rw [hf] at c1
      have hle2 := catE_le vs (k + 1)
      have hnx := catE_next hp
      have hnl : (catE (vs.take (k + 1))).length = (catE (vs.take k)).length + p.2.length := by rw [hnx, List.length_append]
      have HN := hid_of' hnl
      rw [hnl] at hle2
      clear hnx hnl hs hf hp hv
      obtain ⟨m, hm⟩ : ∃ m, (catE (vs.take k)).length = m := ⟨_, rfl⟩
      obtain ⟨n', hn'⟩ : ∃ m, p.2.length = m := ⟨_, rfl⟩
      rw [hm] at hle2 hle HN
      rw [hn'] at hle2 HN c1
      rw [hm]
      have hneg : ¬ ((m : Int) + (n' : Int) < 0) := by omega
      clear hm
      go_wp2
      go_roundw
      case rel => exact ⟨k + 1, by go_num, by omega, by rw [HN.out]; go_num, by first | trivial | rfl⟩
      case measure => simp [intOf]; omega
    · obtain rfl : k = vs.length := by omega
      rw [List.take_length]
      go_wp2_with (go_at_call 80; refine (grow_nil (catE vs).length _ htot).mono ?_; rintro r w1 ⟨v, rfl, ho, hb1⟩)
      go_loopw [6, 27] (fun s i wr => ∃ k : Nat, i = .int .i64 (k : Int) ∧ k ≤ vs.length ∧ OwnE w.heap.size s (catE (vs.take k)) wr ∧ Below w.heap.size w wr) (fun _ i _ => vs.length - (intOf i).toNat)
      case atStart => exact ⟨0, rfl, by omega, ho, hb1⟩
      case round =>
        obtain ⟨k, rfl, hk, ho2, hB⟩ := hrel
        by_cases hlt2 : k < vs.length
        · have hki : (k : Int) < (vs.length : Int) := by omega
          obtain ⟨p, hp⟩ : ∃ p, vs[k]? = some p := ⟨_, List.getElem?_eq_getElem hlt2⟩
          obtain ⟨c1, hs⟩ := hv k p hp
          have c2 := (hB.cell (p := ⟨q, qo + k, none⟩) hq).trans c1
          have hs2 := hs.later hB
          have hle2 := catE_le vs (k + 1)
          have hnx := catE_next hp
          have HN := hid_of' hnx
          rw [hnx, List.length_append] at hle2
          have HS := hid_of' (show (catE (vs.take k)).length + p.2.length ≤ 1099511627776 by omega)
          have HZ := hid_of' hB.size
          clear hnx hs hp hle2 c1 ho hb1
          go_wp2_with (at_builtin; refine wpL_appE rfl _ _ rfl rfl rfl ho2 hs2 HS.out HZ.out ?_; intro v' w2 ho3 hg)
          go_roundw
          case rel => exact ⟨k + 1, by go_num, by omega, by rw [HN.out]; exact ho3, hB.grown hg HZ.out (fun j hj => (ho2.lt j hj).1)⟩
          case measure => simp [intOf]; omega
        · obtain rfl : k = vs.length := by omega
          rw [List.take_length] at ho2
          go_wp2
          go_ret
          exact ⟨_, rfl, ho2, hB⟩
end Go.Proofs.YtjalehlmldlooaaGreatDoor
