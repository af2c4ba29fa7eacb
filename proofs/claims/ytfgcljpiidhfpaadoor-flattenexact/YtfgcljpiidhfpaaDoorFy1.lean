
/-
  Rows of ints and of Desks of one's own.
-/
import Derived.Test.YtfgcljpiidhfpaaDoorFl8
import Derived.Great.BuildSlice
namespace Go.Proofs.YtfgcljpiidhfpaaDoor
open Go.RowKit
set_option maxRecDepth 100000

/-- The cells of rows of ints, one behind the other. -/
def hcs (hs : List (List Int)) : List Value := (hs.map fun x => x.map (Value.int .i64)).flatten
theorem hcs_cons (x : List Int) (hs : List (List Int)) : hcs (x :: hs) = x.map (Value.int .i64) ++ hcs hs := rfl
theorem hcs_app (a b : List (List Int)) : hcs (a ++ b) = hcs a ++ hcs b := by simp [hcs]
theorem hcs_len {m : Nat} : ∀ {hs : List (List Int)}, (∀ x ∈ hs, x.length = m) → (hcs hs).length = hs.length * m
  | [], _ => by simp [hcs]
  | x :: hs, h => by
    rw [hcs_cons, List.length_append, List.length_map, h x (by simp), hcs_len fun y hy => h y (by simp [hy]), List.length_cons, Nat.add_mul, Nat.one_mul]; omega
theorem hcs_one (hs : List (List Int)) : ∀ v ∈ hcs hs, v.oneCell' = true := by
  intro v hv
  simp only [hcs, List.mem_flatten, List.mem_map] at hv
  obtain ⟨_, ⟨x, _, rfl⟩, hx⟩ := hv
  obtain ⟨z, _, rfl⟩ := List.mem_map.1 hx
  rfl
theorem hcs_at {m : Nat} : ∀ {hs : List (List Int)}, (∀ x ∈ hs, x.length = m) → ∀ {k : Nat} {x : List Int}, hs[k]? = some x → ∀ {j : Nat} {v : Value}, (cv x)[j]? = some v → (hcs hs)[k * m + j]? = some v
  | [], _, _, _, h, _, _, _ => by simp at h
  | y :: hs, hl, 0, x, h, j, v, hv => by
    simp at h; subst h
    rw [Nat.zero_mul, Nat.zero_add, hcs_cons]
    have hv' : (y.map (Value.int .i64))[j]? = some v := by simpa [cv] using hv
    rw [List.getElem?_append_left (List.getElem?_eq_some_iff.1 hv').1]; exact hv'
  | y :: hs, hl, k + 1, x, h, j, v, hv => by
    have ih := hcs_at (hs := hs) (fun z hz => hl z (by simp [hz])) (k := k) (by simpa using h) hv
    rw [hcs_cons, List.getElem?_append_right (by rw [List.length_map, hl y (by simp), Nat.add_mul]; omega), List.length_map, hl y (by simp)]
    rw [show (k + 1) * m + j - m = k * m + j by rw [Nat.add_mul]; omega]
    exact ih
/-- Rows of m ints each, of one's own. -/
def RwI (t : TypeId) (m : Nat) (v : Value) (hs : List (List Int)) (w : World) : Prop := Rw t m v hs.length (hcs hs) w ∧ ∀ x ∈ hs, x.length = m
theorem RwI.later {t : TypeId} {m : Nat} {v : Value} {hs : List (List Int)} {w w' : World} (h : RwI t m v hs w) (hb : Below w.heap.size w w') : RwI t m v hs w' := ⟨h.1.later hb, h.2⟩
theorem RwI.ch {t : TypeId} {m : Nat} {v : Value} {hs : List (List Int)} {S : Nat → Prop} {w w' : World} (h : RwI t m v hs w) (c : Ch S w w') (hn : ∀ k, v.ownBlock = some k → ¬ S k) : RwI t m v hs w' := ⟨h.1.ch c hn, h.2⟩
theorem RwI.pos {t : TypeId} {m : Nat} {v : Value} {hs : List (List Int)} {w : World} (h : RwI t m v hs w) (h0 : 0 < hs.length) : ∃ g c, v = .slice (some ⟨g, 0, none⟩) hs.length c := by
  rcases h.1.2 with ⟨_, e⟩ | ⟨g, cap, cur, e, _⟩
  · omega
  · exact ⟨g, cap, e⟩
theorem RwI.in {t : TypeId} {m g n c : Nat} {hs : List (List Int)} {w : World} (h : RwI t m (.slice (some ⟨g, 0, none⟩) n c) hs w) {k : Nat} {x : List Int} (hk : hs[k]? = some x) : CsIn g (k * m) (cv x) w := by
  have hn : n = hs.length := by
    obtain ⟨a, c', e, _⟩ := h.1.form
    cases e; rfl
  subst hn
  refine ⟨h.1.lt g rfl, fun j v hv => ?_⟩
  have := h.1.cells (k * m + j) v (hcs_at h.2 hk hv)
  rwa [Nat.zero_add] at this
theorem split_set {α : Type} {l : List α} {k : Nat} {x : α} (h : l[k]? = some x) (y : α) : l = l.take k ++ x :: l.drop (k + 1) ∧ l.set k y = l.take k ++ y :: l.drop (k + 1) := by
  have hk := (List.getElem?_eq_some_iff.1 h).1
  have e : l = l.take k ++ x :: l.drop (k + 1) := by
    conv => lhs; rw [← List.take_append_drop k l, List.drop_eq_getElem_cons hk]
    rw [(List.getElem?_eq_some_iff.1 h).2]
  refine ⟨e, ?_⟩
  rw [List.set_eq_take_append_cons_drop, if_pos hk]
theorem RwI.parts {t : TypeId} {m g n c : Nat} {hs : List (List Int)} {w : World} (h : RwI t m (.slice (some ⟨g, 0, none⟩) n c) hs w) : n = hs.length ∧ ∃ rest, w.heap[g]? = some (.cells (hcs hs ++ rest).toArray t (0, 0)) ∧ n ≤ c ∧ c ≤ maxLen ∧ c * m ≤ (hcs hs ++ rest).length := by
  rcases h.1.2 with ⟨e, _⟩ | ⟨g', cap, cur, e, hg, h1, h2, h3, h4⟩
  · cases e
  · cases e
    refine ⟨rfl, cur.toList.drop (hs.length * m), ?_, h1, h2, ?_⟩
    · rw [← h4, List.take_append_drop]; exact hg
    · rw [← h4, List.take_append_drop]; simpa using h3
theorem RwI.mk {t : TypeId} {m g c : Nat} {hs : List (List Int)} {w : World} (hl : ∀ x ∈ hs, x.length = m) {rest : List Value} (hg : w.heap[g]? = some (.cells (hcs hs ++ rest).toArray t (0, 0))) (h1 : hs.length ≤ c) (h2 : c ≤ maxLen) (h3 : c * m ≤ (hcs hs ++ rest).length) : RwI t m (.slice (some ⟨g, 0, none⟩) hs.length c) hs w :=
  ⟨⟨hcs_len hl, .inr ⟨g, c, _, rfl, hg, h1, h2, by simpa using h3, by
    show ((hcs hs ++ rest).toArray.toList).take (hs.length * m) = hcs hs
    rw [← hcs_len hl]; simp⟩⟩, hl⟩
theorem RwI.put {t : TypeId} {m g n c : Nat} {hs : List (List Int)} {w : World} (h : RwI t m (.slice (some ⟨g, 0, none⟩) n c) hs w) {k : Nat} {x y : List Int} (hk : hs[k]? = some x) (hy : y.length = m) : RwI t m (.slice (some ⟨g, 0, none⟩) n c) (hs.set k y) (w.setCells g (k * m) (cv y).toList) := by
  obtain ⟨rfl, rest, hg, h1, h2, h3⟩ := h.parts
  obtain ⟨e1, e2⟩ := split_set hk y
  have hx := h.2 x (List.mem_of_getElem? hk)
  have hkl := (List.getElem?_eq_some_iff.1 hk).1
  have hl2 : ∀ z ∈ hs.set k y, z.length = m := fun z hz => (List.mem_or_eq_of_mem_set hz).elim (h.2 z) (fun e => e ▸ hy)
  have hlen : (hcs (hs.take k)).length = k * m := by
    rw [hcs_len (m := m) fun z hz => h.2 z (List.mem_of_mem_take hz), List.length_take]
    congr 1; omega
  have hl3 : (hcs (hs.set k y)).length = (hcs hs).length := by rw [hcs_len hl2, hcs_len h.2, List.length_set]
  have key : putA (hcs hs ++ rest).toArray (k * m) (cv y).toList = (hcs (hs.set k y) ++ rest).toArray := by
    have a1 : hcs hs ++ rest = hcs (hs.take k) ++ (x.map (Value.int .i64) ++ (hcs (hs.drop (k + 1)) ++ rest)) := by
      conv => lhs; rw [e1, hcs_app, hcs_cons]
      simp [List.append_assoc]
    have a2 : hcs (hs.set k y) ++ rest = hcs (hs.take k) ++ (y.map (Value.int .i64) ++ (hcs (hs.drop (k + 1)) ++ rest)) := by
      rw [e2, hcs_app, hcs_cons]
      simp [List.append_assoc]
    rw [a1, a2, ← hlen]
    have := putA_list (y.map (Value.int .i64)) (x.map (Value.int .i64)) (hcs (hs.take k)) (hcs (hs.drop (k + 1)) ++ rest) (by rw [List.length_map, List.length_map, hx, hy])
    simpa [cv] using this
  have hw := heap_setCells (cv y).toList (k * m) _ w hg
  rw [key] at hw
  have := RwI.mk (c := c) hl2 hw (by rw [List.length_set]; exact h1) h2 (by simp only [List.length_append, hl3] at h3 ⊢; exact h3)
  rw [List.length_set] at this
  exact this
theorem RwI.putC {t : TypeId} {m g n c : Nat} {hs : List (List Int)} {w : World} (h : RwI t m (.slice (some ⟨g, 0, none⟩) n c) hs w) {k j : Nat} {x : List Int} (hk : hs[k]? = some x) (hj : j < m) (z : Int) : RwI t m (.slice (some ⟨g, 0, none⟩) n c) (hs.set k (x.set j z)) (w.setCell ⟨g, k * m + j, none⟩ (.int .i64 z)) := by
  obtain ⟨rfl, rest, hg, h1, h2, h3⟩ := h.parts
  have hx := h.2 x (List.mem_of_getElem? hk)
  have hy : (x.set j z).length = m := by rw [List.length_set]; exact hx
  obtain ⟨e1, e2⟩ := split_set hk (x.set j z)
  have hkl := (List.getElem?_eq_some_iff.1 hk).1
  have hl2 : ∀ u ∈ hs.set k (x.set j z), u.length = m := fun u hu => (List.mem_or_eq_of_mem_set hu).elim (h.2 u) (fun e => e ▸ hy)
  have hlen : (hcs (hs.take k)).length = k * m := by
    rw [hcs_len (m := m) fun u hu => h.2 u (List.mem_of_mem_take hu), List.length_take]
    congr 1; omega
  have hl3 : (hcs (hs.set k (x.set j z))).length = (hcs hs).length := by rw [hcs_len hl2, hcs_len h.2, List.length_set]
  have key : (hcs hs ++ rest).toArray.setIfInBounds (k * m + j) (.int .i64 z) = (hcs (hs.set k (x.set j z)) ++ rest).toArray := by
    have a1 : hcs hs ++ rest = hcs (hs.take k) ++ (x.map (Value.int .i64) ++ (hcs (hs.drop (k + 1)) ++ rest)) := by
      conv => lhs; rw [e1, hcs_app, hcs_cons]
      simp [List.append_assoc]
    have a2 : hcs (hs.set k (x.set j z)) ++ rest = hcs (hs.take k) ++ ((x.set j z).map (Value.int .i64) ++ (hcs (hs.drop (k + 1)) ++ rest)) := by
      rw [e2, hcs_app, hcs_cons]
      simp [List.append_assoc]
    rw [a1, a2, ← hlen, List.setIfInBounds_toArray, List.set_append_right _ _ (by omega), Nat.add_sub_cancel_left, List.set_append_left _ _ (by rw [List.length_map, hx]; exact hj), List.map_set]
  have hw := heap_setCell_at hg (k * m + j) (.int .i64 z)
  rw [key] at hw
  have := RwI.mk (c := c) hl2 hw (by rw [List.length_set]; exact h1) h2 (by simp only [List.length_append, hl3] at h3 ⊢; exact h3)
  rw [List.length_set] at this
  exact this
theorem RwI.there {t : TypeId} {m g n c : Nat} {hs : List (List Int)} {w : World} (h : RwI t m (.slice (some ⟨g, 0, none⟩) n c) hs w) {k : Nat} {x : List Int} (hk : hs[k]? = some x) : w.there g (k * m) m := fun j hj => by
  obtain ⟨rfl, rest, hg, _⟩ := h.parts
  have hx := h.2 x (List.mem_of_getElem? hk)
  refine ⟨by rw [(h.in hk).2 j _ (cv_get (a := x) (k := j) (by omega))]; rfl, by simp [World.frozen?, hg]⟩
theorem RwI.obj {t : TypeId} {m : Nat} {v : Value} {hs : List (List Int)} {w : World} (h : RwI t m v hs w) {k : Nat} (hk : v.ownBlock = some k) : ∃ cs, w.heap[k]? = some (.cells cs t (0, 0)) := by
  rcases h.1.2 with ⟨rfl, _⟩ | ⟨g, cap, cur, rfl, hg, _⟩
  · cases hk
  · cases hk; exact ⟨cur, hg⟩
theorem Rw.obj {t : TypeId} {m : Nat} {v : Value} {n : Nat} {xs : List Value} {w : World} (h : Rw t m v n xs w) {k : Nat} (hk : v.ownBlock = some k) : ∃ cs, w.heap[k]? = some (.cells cs t (0, 0)) := by
  rcases h.2 with ⟨rfl, _⟩ | ⟨g, cap, cur, rfl, hg, _⟩
  · cases hk
  · cases hk; exact ⟨cur, hg⟩
/-- Blocks of unlike types are apart. -/
theorem apart_obj {w : World} {a b : Nat} {cs cs' : Array Value} {t t' : TypeId} (h1 : w.heap[a]? = some (.cells cs t (0, 0))) (h2 : w.heap[b]? = some (.cells cs' t' (0, 0))) (hn : t ≠ t') : a ≠ b := fun e => by
  subst e
  rw [h1] at h2
  cases h2
  exact hn rfl

theorem info_parts {P : Program} {t : TypeId} {z : Value} {s b : Nat} (h : (P.info? t).map (fun i => (i.zero, i.size, i.bytes)) = some (some z, s, b)) : ∃ i, P.info? t = some i ∧ i.zero = some z ∧ i.size = s ∧ i.bytes = b := by
  obtain ⟨i, h1, h2⟩ := Option.map_eq_some_iff.1 h
  simp only [Prod.mk.injEq] at h2
  exact ⟨i, h1, h2.1, h2.2.1, h2.2.2⟩
theorem infoCk : (Tryd.prog.info? 42).map (fun i => (i.zero, i.size, i.bytes)) = some (some (.agg (cv z8)), 8, 64) := by kernel_rfl
theorem infoRs : (Tryd.prog.info? 46).map (fun i => (i.zero, i.size, i.bytes)) = some (some (.agg (cv (rs rds0))), 144, 1152) := by kernel_rfl
theorem infoPd : (Tryd.prog.info? 23).map (fun i => (i.zero, i.size, i.bytes)) = some (some (.pointer none), 1, 8) := by kernel_rfl
/-- The literal of one row that append is handed. -/
theorem so_one {t : TypeId} {m : Nat} {x : List Int} (hx : x.length = m) {w : World} {g : Nat} (h : RowAt g (cv x) t w) : So m (.slice (some ⟨g, 0, none⟩) 1 1) 1 (hcs [x]) w := by
  refine ⟨by rw [hcs_len (m := m) (fun y hy => by rw [List.mem_singleton.1 hy]; exact hx)]; rfl, .inr ⟨_, _, rfl, fun j u hj => ?_⟩⟩
  rw [Addr.add_lit, Nat.zero_add, h.cell]
  simpa [hcs, cv] using hj
theorem RwI.of {t : TypeId} {m : Nat} {v : Value} {n : Nat} {hs : List (List Int)} {x : List Int} {w w' : World} (h : RwI t m v hs w) (hx : x.length = m) {v' : Value} (hn : n = hs.length) (q : Rw t m v' (n + 1) (hcs hs ++ hcs [x]) w') : RwI t m v' (hs ++ [x]) w' := by
  subst hn
  refine ⟨by rw [List.length_append, List.length_singleton, hcs_app]; exact q, fun y hy => (List.mem_append.1 hy).elim (h.2 y) (fun e => by rw [List.mem_singleton.1 e]; exact hx)⟩
theorem fold_putA : ∀ (l : List Value) (k : Nat) (z : Array Value), (l.zipIdx k).foldl (fun cs (p : Value × Nat) => cs.setIfInBounds (0 + p.2) p.1) z = putA z k l
  | [], _, _ => rfl
  | v :: l, k, z => by
    rw [List.zipIdx_cons, List.foldl_cons, fold_putA l (k + 1), Nat.zero_add]; rfl
theorem fill_one {z cs : Array Value} {size : Nat} (hz : z.size = size) (hc : cs.size = size) : Instr.fill (fun i => some (i * size, size)) z [(0, .agg cs)] = some cs := by
  unfold Instr.fill
  simp only [Nat.zero_mul, Value.cells]
  rw [if_neg (by simp [hc, hz])]
  unfold Instr.fill
  rw [← Array.foldl_toList, Array.toList_zipIdx]
  have := fold_putA cs.toList 0 z
  simp only [Nat.zero_add] at this ⊢
  rw [this]
  have h2 := putA_list cs.toList z.toList [] [] (by simp [hc, hz])
  simp only [List.nil_append, List.append_nil, List.length_nil] at h2
  rw [Array.toArray_toList, Array.toArray_toList] at h2
  rw [h2]
section
variable {K : Act → World → Prop} {ops : Array Oper} {rest : List Oper} {o : Oper} {A : Act} {w : World} {Q : Exit → Act → World → Prop}
/-- append of one clock. -/
theorem opw_appCk (s x : Operand) (ho : o.op = .call { callee := .builtin .append, args := #[s, x], argTypes := #[67, 67] })
    {v u : Value} {hs : List (List Int)} {y : List Int} (hsv : A.eval s = v) (hx : A.eval x = u) (hv : RwI 42 8 v hs w) (hy : y.length = 8) (hu : So 8 u 1 (hcs [y]) w) (hn : hs.length ≤ 100000)
    (k : ∀ v' w', RwI 42 8 v' (hs ++ [y]) w' → w.grownBy w' v.ownBlock → At' w v v' → K (A.put o.dst v') w') : o.wp Tryd.prog A w K Q := by
  obtain ⟨i0, hi, hz0, hz1, hz2⟩ := info_parts infoCk
  exact opw_app s x 67 ho 42 i0 (.agg (cv z8)) 8 64 Tryd.underlying67 hi hz0 hz1 hz2 rfl hsv hx hv.1 hu (hcs_one _) (by unfold maxLen; omega) (by omega) fun v' w' q1 q2 q3 => k v' w' (hv.of hy rfl q1) q2 q3
/-- append of rounds. -/
theorem opw_appRs (s x : Operand) (ho : o.op = .call { callee := .builtin .append, args := #[s, x], argTypes := #[68, 68] })
    {v u : Value} {hs : List (List Int)} {y : List Int} (hsv : A.eval s = v) (hx : A.eval x = u) (hv : RwI 46 144 v hs w) (hy : y.length = 144) (hu : So 144 u 1 (hcs [y]) w) (hn : hs.length ≤ 100000)
    (k : ∀ v' w', RwI 46 144 v' (hs ++ [y]) w' → w.grownBy w' v.ownBlock → At' w v v' → K (A.put o.dst v') w') : o.wp Tryd.prog A w K Q := by
  obtain ⟨i0, hi, hz0, hz1, hz2⟩ := info_parts infoRs
  exact opw_app s x 68 ho 46 i0 (.agg (cv (rs rds0))) 144 1152 Tryd.underlying68 hi hz0 hz1 hz2 (by simp only [Value.cells]; rw [cv_size, rs_len rds0_ok]) hsv hx hv.1 hu (hcs_one _) (by unfold maxLen; omega) (by omega) fun v' w' q1 q2 q3 => k v' w' (hv.of hy rfl q1) q2 q3
/-- append of a Desk. -/
theorem opw_appPd (s x : Operand) (ho : o.op = .call { callee := .builtin .append, args := #[s, x], argTypes := #[66, 66] })
    {v u : Value} {n : Nat} {xs ys : List Value} (hsv : A.eval s = v) (hx : A.eval x = u) (hv : Rw 23 1 v n xs w) (hu : So 1 u 1 ys w) (h1 : ∀ y ∈ ys, y.oneCell' = true) (hn : n ≤ 100000)
    (k : ∀ v' w', Rw 23 1 v' (n + 1) (xs ++ ys) w' → w.grownBy w' v.ownBlock → At' w v v' → K (A.put o.dst v') w') : o.wp Tryd.prog A w K Q := by
  obtain ⟨i0, hi, hz0, hz1, hz2⟩ := info_parts infoPd
  exact opw_app s x 66 ho 23 i0 (.pointer none) 1 8 Tryd.underlying66 hi hz0 hz1 hz2 rfl hsv hx hv hu h1 (by unfold maxLen; omega) (by omega) k
/-- A literal of one. -/
theorem opw_oneCk (x : Operand) (ho : o.op = .buildSlice 67 1 #[(0, x)]) {y : List Int} (hx : A.eval x = .agg (cv y)) (hy : y.length = 8)
    (k : K (A.put o.dst (.slice (some ⟨w.heap.size, 0, none⟩) 1 1)) (w.alloc (.cells (cv y) 42))) : o.wp Tryd.prog A w K Q := by
  have hs : (Tryd.prog.info? 42).isSome = true := by kernel_rfl
  have sz : ((Tryd.prog.info? 42).get hs).size = 8 := by kernel_rfl
  have e : ((#[(0, x)] : Array (Nat × Operand)).map fun (i, x) => (i, A.eval x)).toList = [(0, .agg (cv y))] := by
    simp only [List.map_toArray, List.map_cons, List.map_nil, hx]
  exact wp_buildSlice _ 42 1 _ ho (cv y) ((Tryd.prog.info? 42).get hs) (.agg (cv z8)) (by kernel_rfl) (Option.some_get hs).symm (by kernel_rfl) (by rw [sz]; decide) (by rw [sz]; decide) (by rw [e]; exact fill_one (by rw [Array.size_map, Array.size_range, Nat.one_mul]) (by rw [cv_size, hy, sz])) k
theorem opw_oneRs (x : Operand) (ho : o.op = .buildSlice 68 1 #[(0, x)]) {y : List Int} (hx : A.eval x = .agg (cv y)) (hy : y.length = 144)
    (k : K (A.put o.dst (.slice (some ⟨w.heap.size, 0, none⟩) 1 1)) (w.alloc (.cells (cv y) 46))) : o.wp Tryd.prog A w K Q := by
  have hs : (Tryd.prog.info? 46).isSome = true := by kernel_rfl
  have sz : ((Tryd.prog.info? 46).get hs).size = 144 := by kernel_rfl
  have e : ((#[(0, x)] : Array (Nat × Operand)).map fun (i, x) => (i, A.eval x)).toList = [(0, .agg (cv y))] := by
    simp only [List.map_toArray, List.map_cons, List.map_nil, hx]
  exact wp_buildSlice _ 46 1 _ ho (cv y) ((Tryd.prog.info? 46).get hs) (.agg (cv (rs rds0))) (by kernel_rfl) (Option.some_get hs).symm (by kernel_rfl) (by rw [sz]; decide) (by rw [sz]; decide) (by rw [e]; exact fill_one (by rw [Array.size_map, Array.size_range, Nat.one_mul]) (by rw [cv_size, hy, sz])) k
end
end Go.Proofs.YtfgcljpiidhfpaaDoor
