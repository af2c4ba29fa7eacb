
/-
  append to a row that has no room: a copy; slices of one.
-/
import Derived.Test.YtbjbihgfkcnmbaaDoorBgT
namespace Go.Proofs.YtbjbihgfkcnmbaaDoor
open Go.RowKit Go.Extern.Stop Go.Stop Go.Extern
set_option maxRecDepth 100000

theorem run_app0 {P : Program} (w : World) (t ty e : TypeId) (i : TypeInfo) (z : Value) (size bytes : Nat) (ht : P.underlying t = some (.slice e)) (hi : P.info? e = some i) (hz : i.zero = some z)
    (hsize : i.size = size) (hby : i.bytes = bytes) (hzs : z.cells.size = size) {u : Value} {m ge : Nat} {ys : List Value} (he : RowAt ge #[] e w) (hu : So size u m ys w) (h1 : ∀ y ∈ ys, y.oneCell' = true)
    (h63 : m ≤ maxLen) (hbytes : m * bytes ≤ 140737488355328) :
    ∃ v' w', (Builtin.append_ #[t, t] ty #[.slice (some ⟨ge, 0, none⟩) 0 0, u]).run P w = .ok v' w' ∧ Rw e size v' m ys w' ∧ Below w.heap.size w w' ∧ ∀ k, v'.ownBlock = some k → k = ge ∨ w.heap.size ≤ k := by
  have hv : Rw e size (.slice (some ⟨ge, 0, none⟩) 0 0) 0 [] w := ⟨by simp, .inr ⟨ge, 0, #[], rfl, he, Nat.le_refl _, Nat.zero_le _, by simp, by simp⟩⟩
  obtain ⟨v', w', hr, h2, h3, h4⟩ := run_app (P := P) w t ty e i z size bytes ht hi hz hsize hby hzs hv hu h1 (by omega) (by rw [Nat.zero_add]; exact hbytes)
  rw [Nat.zero_add, List.nil_append] at h2
  refine ⟨v', w', hr, h2, ?_, fun k hk => ?_⟩
  · by_cases hm0 : m = 0
    · subst hm0
      have hy : ys = [] := List.eq_nil_of_length_eq_zero (by simpa using hu.1)
      subst hy
      have hs : Src P size t u 0 [] w := by
        rcases hu.2 with ⟨_, a', c', rfl⟩ | ⟨a', c', rfl, hc⟩
        · cases a' with
          | none => exact Src.ofNil w ht c'
          | some a' => exact Src.ofSlice w ht a' 0 c' [] (by simp) (fun j u h => by simp at h) (fun u h => by simp at h)
        · exact Src.ofSlice w ht a' 0 c' [] (by simp) (fun j u h => by simp at h) (fun u h => by simp at h)
      subst hsize
      have := run_append_nothing w t t ty e i ht hi (some ⟨ge, 0, none⟩) 0 0 (Nat.le_refl _) u hs
      rw [hr] at this
      injection this with _ e2
      rw [e2]
      exact Below.refl _ _
    · obtain ⟨a, c, rfl, hnews⟩ : ∃ a c, u = .slice (some a) m c ∧ ∀ j x, ys[j]? = some x → w.cell? (a.add j) = some x := by
        rcases hu.2 with ⟨q, _⟩ | q
        · exact absurd q hm0
        · exact q
      subst hsize
      subst hby
      have hsm : m ≤ 9223372036854775807 := by simp only [maxLen] at h63; omega
      have := run_append_grow (P := P) w t ty e i z ht hi hz ⟨ge, 0, none⟩ 0 0 [] (by simp) (fun j v h => by simp at h) a m c ys hu.1 hnews (by omega) (by omega) (growslice_fits (by omega) (by rw [Nat.zero_add]; exact hbytes))
      rw [hr] at this
      injection this with _ e2
      rw [e2]
      exact ⟨rfl, rfl, rfl, by simp, fun k hk => heap_alloc_old w.drew _ hk⟩
  · rcases h4 k hk with q | q
    · cases q; exact .inl rfl
    · exact .inr q
theorem opw_app0 {P : Program} {K : Act → World → Prop} {o : Oper} {A : Act} {w : World} {Q : Exit → Act → World → Prop} (s x : Operand) (t : TypeId) (ho : o.op = .call { callee := .builtin .append, args := #[s, x], argTypes := #[t, t] })
    (e : TypeId) (i : TypeInfo) (z : Value) (size bytes : Nat) (ht : P.underlying t = some (.slice e)) (hi : P.info? e = some i) (hz : i.zero = some z) (hsize : i.size = size) (hby : i.bytes = bytes) (hzs : z.cells.size = size)
    {u : Value} {m ge : Nat} {ys : List Value} (hs : A.eval s = .slice (some ⟨ge, 0, none⟩) 0 0) (hx : A.eval x = u) (he : RowAt ge #[] e w) (hu : So size u m ys w) (h1 : ∀ y ∈ ys, y.oneCell' = true) (h63 : m ≤ maxLen) (hbytes : m * bytes ≤ 140737488355328)
    (k : ∀ v' w', Rw e size v' m ys w' → Below w.heap.size w w' → (∀ k, v'.ownBlock = some k → k = ge ∨ w.heap.size ≤ k) → K (A.put o.dst v') w') : o.wp P A w K Q := by
  obtain ⟨v', w', hr, h2, h3, h4⟩ := run_app0 (P := P) w t o.type e i z size bytes ht hi hz hsize hby hzs he hu h1 h63 hbytes
  unfold Oper.wp execOp
  simp only [ho, resolve, invoke, builtin, Sem.run_bind, Sem.run_pure, Result.andThen_ok, List.map_toArray, List.map_cons, List.map_nil, hs, hx, hr]
  exact k v' w' h2 h3 h4
theorem wpL_app0 {P : Program} {ops : Array Oper} {rest : List Oper} {o : Oper} {A : Act} {w : World} {Q : Exit → Act → World → Prop} (hgd : o.guard = none) (s x : Operand) (t : TypeId) (ho : o.op = .call { callee := .builtin .append, args := #[s, x], argTypes := #[t, t] })
    (e : TypeId) (i : TypeInfo) (z : Value) (size bytes : Nat) (ht : P.underlying t = some (.slice e)) (hi : P.info? e = some i) (hz : i.zero = some z) (hsize : i.size = size) (hby : i.bytes = bytes) (hzs : z.cells.size = size)
    {u : Value} {m ge : Nat} {ys : List Value} (hs : A.eval s = .slice (some ⟨ge, 0, none⟩) 0 0) (hx : A.eval x = u) (he : RowAt ge #[] e w) (hu : So size u m ys w) (h1 : ∀ y ∈ ys, y.oneCell' = true) (h63 : m ≤ maxLen) (hbytes : m * bytes ≤ 140737488355328)
    (k : ∀ v' w', Rw e size v' m ys w' → Below w.heap.size w w' → (∀ k, v'.ownBlock = some k → k = ge ∨ w.heap.size ≤ k) → wpList P ops Q rest (A.put o.dst v') w') : wpList P ops Q (o :: rest) A w :=
  wpList_plain hgd fun _ hK => opw_app0 s x t ho e i z size bytes ht hi hz hsize hby hzs hs hx he hu h1 h63 hbytes fun v' w' q1 q2 q3 => hK _ _ (k v' w' q1 q2 q3)
/-- Bytes as append takes them. -/
theorem SlB.so {w : World} {v : Value} {bs : List UInt8} (h : SlB w v bs) : So 1 v bs.length (Lib.byteCells bs) w := by
  refine ⟨by rw [Lib.byteCells_length]; omega, ?_⟩
  rcases h with ⟨rfl, a, c, rfl⟩ | ⟨g, o, c, rfl, hg, hc⟩
  · exact .inl ⟨rfl, a, c, rfl⟩
  · refine .inr ⟨_, c, rfl, fun j x hx => ?_⟩
    rw [byteCells_at] at hx
    obtain ⟨b, hb, rfl⟩ := Option.map_eq_some_iff.1 hx
    rw [Addr.add_lit]
    exact hc j b hb
theorem SlB.take {w : World} {a : Option Addr} {n c : Nat} {bs : List UInt8} (h : SlB w (.slice a bs.length c) bs) (hn : n ≤ bs.length) : SlB w (.slice a n c) (bs.take n) := by
  have hl : (bs.take n).length = n := by rw [List.length_take]; omega
  by_cases h0 : n = 0
  · subst h0
    exact .inl ⟨by simp, a, c, rfl⟩
  · rcases h with ⟨rfl, _⟩ | ⟨g, o, c', e, hg, hc⟩
    · simp at hn; omega
    · cases e
      exact .inr ⟨g, o, c, by rw [hl], hg, fun i b hi => hc i b (by
        rw [List.getElem?_take] at hi
        split at hi
        · exact hi
        · cases hi)⟩
theorem wpL_one {ops : Array Oper} {rest : List Oper} {o : Oper} {A : Act} {w : World} {Q : Exit → Act → World → Prop} (hgd : o.guard = none) (x : Operand) (ho : o.op = .buildSlice 45 1 #[(0, x)]) {p : Pc} (hx : A.eval x = .agg (pcv p)) (hp : p.b.oneCell' = true)
    (k : wpList Tryd.prog ops Q rest (A.put o.dst (.slice (some ⟨w.heap.size, 0, none⟩) 1 1)) (w.alloc (.cells (pcv p) 56))) : wpList Tryd.prog ops Q (o :: rest) A w := wpList_plain hgd fun _ hK => opw_one x ho hx hp (hK _ _ k)
theorem quiet_loadP {o : Oper} {a : Act} {C : World → Prop} {K : Act → Prop} (x : Operand) (ho : o.op = .load 56 x) {b off : Nat} (hx : a.eval x = .pointer (some ⟨b, off, none⟩)) {p : Pc} (h : ∀ w, C w → CsIn b off (pcv p) w)
    (k : K (a.put o.dst (.agg (pcv p)))) : o.quiet Tryd.prog a C K := quiet_load_in _ x ho hx h Tryd.underlying56 rfl (p_size p) k
theorem infoInt : (Tryd.prog.info? 3).map (fun i => (i.zero, i.size, i.bytes)) = some (some (.int .i64 0), 1, 8) := by kernel_rfl
theorem ints_one (l : List Int) : ∀ y ∈ ints l, y.oneCell' = true := fun y hy => by
  simp only [ints, List.mem_map] at hy
  obtain ⟨z, _, rfl⟩ := hy
  rfl
theorem so_int (w : World) (x : Int) : So 1 (.slice (some ⟨w.heap.size, 0, none⟩) 1 1) 1 (ints [x]) (w.alloc (.cells #[.int .i64 x] 3)) :=
  ⟨rfl, .inr ⟨_, _, rfl, fun j u hu => by
    match j, hu with
    | 0, hu => cases hu; rw [Addr.add_lit, Nat.zero_add, (row_new w _ _).cell]; rfl
    | j + 1, hu => simp [ints] at hu⟩⟩
end Go.Proofs.YtbjbihgfkcnmbaaDoor
