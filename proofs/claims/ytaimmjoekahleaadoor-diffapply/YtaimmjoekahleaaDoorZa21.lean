
/-
  Rows of structs of one's own, any struct; rows of places, rows of edits.
-/
import Derived.Test.YtaimmjoekahleaaDoorZa19
namespace Go.Proofs.YtaimmjoekahleaaDoor
open Go.RowKit Go.Extern.Stop Go.Stop Go.Extern
set_option maxRecDepth 100000

/-- The cells of several. -/
def fc {α : Type} (f : α → List Value) (l : List α) : List Value := l.flatMap f
theorem fc_len {α : Type} {f : α → List Value} {s : Nat} (hs : ∀ a, (f a).length = s) : ∀ l : List α, (fc f l).length = l.length * s
  | [] => by simp [fc]
  | e :: l => by
    have ih := fc_len hs l
    unfold fc at ih ⊢
    rw [List.flatMap_cons, List.length_append, hs, ih, List.length_cons, Nat.add_mul]
    omega
theorem fc_app {α : Type} (f : α → List Value) (a b : List α) : fc f (a ++ b) = fc f a ++ fc f b := by simp [fc]
theorem fc_at {α : Type} {f : α → List Value} {s : Nat} (hs : ∀ a, (f a).length = s) : ∀ (l : List α) (i : Nat) (e : α), l[i]? = some e → ∀ j v, (f e)[j]? = some v → (fc f l)[i * s + j]? = some v
  | [], i, e, h, _, _, _ => by simp at h
  | y :: r, 0, e, h, j, v, hv => by
    simp only [List.getElem?_cons_zero, Option.some.injEq] at h
    subst h
    have hj : j < (f y).length := (List.getElem?_eq_some_iff.1 hv).1
    unfold fc
    rw [List.flatMap_cons, Nat.zero_mul, Nat.zero_add, List.getElem?_append_left hj]
    exact hv
  | y :: r, i + 1, e, h, j, v, hv => by
    have ih := fc_at hs r i e (by simpa using h) j v hv
    unfold fc at ih ⊢
    rw [List.flatMap_cons, List.getElem?_append_right (by rw [hs, Nat.add_mul]; omega), hs, Nat.add_mul, Nat.one_mul, show i * s + s + j - s = i * s + j by omega]
    exact ih
theorem fc_of {α : Type} {f : α → List Value} {s : Nat} (hs : ∀ a, (f a).length = s) : ∀ (l : List α) (k : Nat) (u : Value), (fc f l)[k]? = some u → ∃ i e j, l[i]? = some e ∧ k = i * s + j ∧ (f e)[j]? = some u
  | [], k, u, h => by simp [fc] at h
  | y :: r, k, u, h => by
    by_cases hk : k < s
    · refine ⟨0, y, k, rfl, by omega, ?_⟩
      unfold fc at h
      rw [List.flatMap_cons, List.getElem?_append_left (by rw [hs]; exact hk)] at h
      exact h
    · unfold fc at h
      rw [List.flatMap_cons, List.getElem?_append_right (by rw [hs]; omega), hs] at h
      obtain ⟨i, e, j, h1, h2, h3⟩ := fc_of hs r (k - s) u h
      exact ⟨i + 1, e, j, by simpa using h1, by rw [Nat.add_mul]; omega, h3⟩

/-- A place's cells. -/
def plc (p : Nat × Nat) : List Value := [.int .i64 (p.1 : Int), .int .i64 (p.2 : Int)]
theorem plc_len (p : Nat × Nat) : (plc p).length = 2 := rfl
/-- An edit. -/
structure Edt where
  at' : Int
  er : Int
  ins : ByteArray
def edc (e : Edt) : List Value := [.int .i64 e.at', .int .i64 e.er, .string e.ins]
theorem edc_len (p : Edt) : (edc p).length = 3 := rfl
theorem plc_one (l : List (Nat × Nat)) : ∀ u ∈ fc plc l, u.oneCell' = true := by
  intro u hu
  obtain ⟨p, _, h⟩ := List.mem_flatMap.1 hu
  simp only [plc, List.mem_cons, List.not_mem_nil, or_false] at h
  rcases h with rfl | rfl <;> rfl
theorem edc_one (l : List Edt) : ∀ u ∈ fc edc l, u.oneCell' = true := by
  intro u hu
  obtain ⟨p, _, h⟩ := List.mem_flatMap.1 hu
  simp only [edc, List.mem_cons, List.not_mem_nil, or_false] at h
  rcases h with rfl | rfl | rfl <;> rfl
def RwP (v : Value) (l : List (Nat × Nat)) (w : World) : Prop := Rw 111 2 v l.length (fc plc l) w
def RwE (v : Value) (l : List Edt) (w : World) : Prop := Rw 46 3 v l.length (fc edc l) w
theorem info_p : (Tryd.prog.info? 111).map (fun i => (i.zero, i.size, i.bytes)) = some (some (.agg #[.int .i64 0, .int .i64 0]), 2, 16) := by kernel_rfl
theorem info_e : (Tryd.prog.info? 46).map (fun i => (i.zero, i.size, i.bytes)) = some (some (.agg #[.int .i64 0, .int .i64 0, .string .empty]), 3, 32) := by kernel_rfl
theorem info_r : (Tryd.prog.info? 21).map (fun i => (i.zero, i.size, i.bytes)) = some (some (.int .i32 0), 1, 4) := by kernel_rfl
theorem RwP.later {v : Value} {l : List (Nat × Nat)} {w w' : World} (h : RwP v l w) (hb : Below w.heap.size w w') : RwP v l w' := Rw.later h hb
theorem RwE.later {v : Value} {l : List Edt} {w w' : World} (h : RwE v l w) (hb : Below w.heap.size w w') : RwE v l w' := Rw.later h hb
theorem RwP.nil (w : World) : RwP (.slice none 0 0) [] w := Rw.nil _ _ _
theorem RwE.nil (w : World) : RwE (.slice none 0 0) [] w := Rw.nil _ _ _
theorem RwR.nil (w : World) : RwR (.slice none 0 0) [] w := Rw.nil _ _ _
/-- One new thing, as append takes it. -/
theorem so_new (w : World) (t : TypeId) (s : Nat) (cs : Array Value) (hs : cs.size = s) (ys : List Value) (hy : ys = cs.toList) : So s (.slice (some ⟨w.heap.size, 0, none⟩) 1 1) 1 ys (w.alloc (.cells cs t)) := by
  subst hy
  refine ⟨by simp [hs], .inr ⟨⟨w.heap.size, 0, none⟩, 1, rfl, fun j x hx => ?_⟩⟩
  rw [Addr.add_lit, Nat.zero_add, (RowAt.new w cs t).cell]
  simpa using hx
section
variable {ops : Array Oper} {rest : List Oper} {o : Oper} {A : Act} {w : World} {Q : Exit → Act → World → Prop}
theorem wpL_appP (hgd : o.guard = none) (s x : Operand) (ho : o.op = .call { callee := .builtin .append, args := #[s, x], argTypes := #[90, 90] })
    {u v : Value} {l m : List (Nat × Nat)} (hs : A.eval s = v) (hx : A.eval x = u) (hv : RwP v l w) (hu : So 2 u m.length (fc plc m) w) (hl : l.length + m.length ≤ 4398046511104)
    (k : ∀ v' w', RwP v' (l ++ m) w' → w.grownBy w' v.ownBlock → At' w v v' → wpList Tryd.prog ops Q rest (A.put o.dst v') w') : wpList Tryd.prog ops Q (o :: rest) A w := by
  obtain ⟨i0, hi, h1, h2, h3⟩ := info_parts info_p
  refine wpL_app (P := Tryd.prog) hgd s x 90 ho 111 i0 _ 2 16 Tryd.underlying90 hi h1 h2 h3 rfl hs hx hv hu (plc_one _) (by unfold maxLen; omega) (by omega) fun v' w' q1 q2 q3 => k v' w' ?_ q2 q3
  unfold RwP
  rw [List.length_append, fc_app]
  exact q1
theorem wpL_appE (hgd : o.guard = none) (s x : Operand) (ho : o.op = .call { callee := .builtin .append, args := #[s, x], argTypes := #[22, 22] })
    {u v : Value} {l m : List Edt} (hs : A.eval s = v) (hx : A.eval x = u) (hv : RwE v l w) (hu : So 3 u m.length (fc edc m) w) (hl : l.length + m.length ≤ 4398046511104)
    (k : ∀ v' w', RwE v' (l ++ m) w' → w.grownBy w' v.ownBlock → At' w v v' → wpList Tryd.prog ops Q rest (A.put o.dst v') w') : wpList Tryd.prog ops Q (o :: rest) A w := by
  obtain ⟨i0, hi, h1, h2, h3⟩ := info_parts info_e
  refine wpL_app (P := Tryd.prog) hgd s x 22 ho 46 i0 _ 3 32 Tryd.underlying22 hi h1 h2 h3 rfl hs hx hv hu (edc_one _) (by unfold maxLen; omega) (by omega) fun v' w' q1 q2 q3 => k v' w' ?_ q2 q3
  unfold RwE
  rw [List.length_append, fc_app]
  exact q1
theorem wpL_appR (hgd : o.guard = none) (s x : Operand) (ho : o.op = .call { callee := .builtin .append, args := #[s, x], argTypes := #[47, 47] })
    {u v : Value} {l m : List Int} (hs : A.eval s = v) (hx : A.eval x = u) (hv : RwR v l w) (hu : So 1 u m.length (m.map (Value.int .i32)) w) (hl : l.length + m.length ≤ 4398046511104)
    (k : ∀ v' w', RwR v' (l ++ m) w' → w.grownBy w' v.ownBlock → At' w v v' → wpList Tryd.prog ops Q rest (A.put o.dst v') w') : wpList Tryd.prog ops Q (o :: rest) A w := by
  obtain ⟨i0, hi, h1, h2, h3⟩ := info_parts info_r
  refine wpL_app (P := Tryd.prog) hgd s x 47 ho 21 i0 _ 1 4 Tryd.underlying47 hi h1 h2 h3 rfl hs hx hv hu (fun u hu => by obtain ⟨z, _, rfl⟩ := List.mem_map.1 hu; rfl) (by unfold maxLen; omega) (by omega) fun v' w' q1 q2 q3 => k v' w' ?_ q2 q3
  unfold RwR
  rw [List.length_append, List.map_append]
  exact q1
end
theorem RwR.so {v : Value} {l : List Int} {w : World} (h : RwR v l w) : So 1 v l.length (l.map (Value.int .i32)) w := Rw.so h
/-- The cells of one of a row. -/
theorem RwE.at {a : Option Addr} {n c : Nat} {l : List Edt} {w : World} (h : RwE (.slice a n c) l w) {i : Nat} {e : Edt} (he : l[i]? = some e) : ∃ g, a = some ⟨g, 0, none⟩ ∧ g < w.heap.size ∧ w.cell? ⟨g, i * 3, none⟩ = some (.int .i64 e.at') ∧ w.cell? ⟨g, i * 3 + 1, none⟩ = some (.int .i64 e.er) ∧ w.cell? ⟨g, i * 3 + 2, none⟩ = some (.string e.ins) := by
  have h9 := h
  rcases h.2 with ⟨_, q⟩ | ⟨g, cap, cur, q, hg, _⟩
  · have := (List.getElem?_eq_some_iff.1 he).1
    omega
  · simp only [Value.slice.injEq] at q
    obtain ⟨rfl, rfl, rfl⟩ := q
    have hc : ∀ j v, (edc e)[j]? = some v → w.cell? ⟨g, i * 3 + j, none⟩ = some v := fun j v hv => by
      have := Rw.cells (o := 0) h9 _ v (fc_at edc_len l i e he j v hv)
      rwa [Nat.zero_add] at this
    exact ⟨g, rfl, (Array.getElem?_eq_some_iff.1 hg).1, hc 0 _ rfl, hc 1 _ rfl, hc 2 _ rfl⟩
theorem RwP.at {a : Option Addr} {n c : Nat} {l : List (Nat × Nat)} {w : World} (h : RwP (.slice a n c) l w) {i : Nat} {e : Nat × Nat} (he : l[i]? = some e) : ∃ g, a = some ⟨g, 0, none⟩ ∧ g < w.heap.size ∧ w.cell? ⟨g, i * 2, none⟩ = some (.int .i64 (e.1 : Int)) ∧ w.cell? ⟨g, i * 2 + 1, none⟩ = some (.int .i64 (e.2 : Int)) := by
  have h9 := h
  rcases h.2 with ⟨_, q⟩ | ⟨g, cap, cur, q, hg, _⟩
  · have := (List.getElem?_eq_some_iff.1 he).1
    omega
  · simp only [Value.slice.injEq] at q
    obtain ⟨rfl, rfl, rfl⟩ := q
    have hc : ∀ j v, (plc e)[j]? = some v → w.cell? ⟨g, i * 2 + j, none⟩ = some v := fun j v hv => by
      have := Rw.cells (o := 0) h9 _ v (fc_at plc_len l i e he j v hv)
      rwa [Nat.zero_add] at this
    exact ⟨g, rfl, (Array.getElem?_eq_some_iff.1 hg).1, hc 0 _ rfl, hc 1 _ rfl⟩

theorem kp_end {xs ys : List Int} {i j : Nat} (h : i = xs.length ∨ j = ys.length) : kp i j (xs.drop i) (ys.drop j) = [] := by
  rcases h with h | h
  · subst h
    rw [List.drop_length, kp_nil]
  · subst h
    rw [List.drop_length, kp_nilr]
theorem dropc {xs : List Int} {i : Nat} {a : Int} (h : xs[i]? = some a) : xs.drop i = a :: xs.drop (i + 1) := by
  obtain ⟨k1, e1⟩ := List.getElem?_eq_some_iff.1 h
  rw [List.drop_eq_getElem_cons k1, e1]
theorem kp_e {xs ys : List Int} {i j : Nat} {a : Int} (h1 : xs[i]? = some a) (h2 : ys[j]? = some a) : kp i j (xs.drop i) (ys.drop j) = (i, j) :: kp (i + 1) (j + 1) (xs.drop (i + 1)) (ys.drop (j + 1)) := by
  rw [dropc h1, dropc h2, kp_same]
theorem kp_d {xs ys : List Int} {i j : Nat} {a b : Int} (h1 : xs[i]? = some a) (h2 : ys[j]? = some b) (h : ¬ a = b) (m : ds (xs.drop (i + 1)) (ys.drop j) ≤ ds (xs.drop i) (ys.drop (j + 1))) : kp i j (xs.drop i) (ys.drop j) = kp (i + 1) j (xs.drop (i + 1)) (ys.drop j) := by
  rw [dropc h1, dropc h2] at *
  exact kp_del i j h m
theorem kp_i {xs ys : List Int} {i j : Nat} {a b : Int} (h1 : xs[i]? = some a) (h2 : ys[j]? = some b) (h : ¬ a = b) (m : ¬ ds (xs.drop (i + 1)) (ys.drop j) ≤ ds (xs.drop i) (ys.drop (j + 1))) : kp i j (xs.drop i) (ys.drop j) = kp i (j + 1) (xs.drop i) (ys.drop (j + 1)) := by
  rw [dropc h1, dropc h2] at *
  exact kp_ins i j h m
end Go.Proofs.YtaimmjoekahleaaDoor
