
/-
  barrowkeep.LendBytes, IntactBytes.
-/
import Derived.Test.YteffpnjgchihpaaGreatDoorPB47
import Derived.Test.YteffpnjgchihpaaGreatDoorPB42
namespace Go.Proofs.YteffpnjgchihpaaGreatDoor
open Go.RowKit
set_option maxRecDepth 100000

theorem info_parts {P : Program} {t : TypeId} {z : Value} {s b : Nat} (h : (P.info? t).map (fun i => (i.zero, i.size, i.bytes)) = some (some z, s, b)) : ∃ i, P.info? t = some i ∧ i.zero = some z ∧ i.size = s ∧ i.bytes = b := by
  obtain ⟨i, h1, h2⟩ := Option.map_eq_some_iff.1 h
  simp only [Prod.mk.injEq] at h2
  exact ⟨i, h1, h2.1, h2.2.1, h2.2.2⟩
theorem row_new (w : World) (cs : Array Value) (t : TypeId) : RowAt w.heap.size cs t (w.alloc (.cells cs t)) := heap_alloc_last w _ _
theorem run_app0 {P : Program} (w : World) (t ty e : TypeId) (i : TypeInfo) (z : Value) (size bytes : Nat) (ht : P.underlying t = some (.slice e)) (hi : P.info? e = some i) (hz : i.zero = some z)
    (hsize : i.size = size) (hby : i.bytes = bytes) (hzs : z.cells.size = size) {u : Value} {m ge : Nat} {ys : List Value} (he : RowAt ge #[] e w) (hu : So size u m ys w) (h1 : ∀ y ∈ ys, y.oneCell' = true)
    (h63 : m ≤ maxLen) (hbytes : m * bytes ≤ 140737488355328) :
    ∃ v' w', (Builtin.append_ #[t, t] ty #[.slice (some ⟨ge, 0, none⟩) 0 0, u]).run P w = .ok v' w' ∧ Rw e size v' m ys w' ∧ Below w.heap.size w w' ∧ ∀ k, v'.ownBlock = some k → k = ge ∨ w.heap.size ≤ k := by
  have hv : Rw e size (.slice (some ⟨ge, 0, none⟩) 0 0) 0 [] w := ⟨by simp, .inr ⟨ge, 0, #[], rfl, he, Nat.le_refl _, Nat.zero_le _, by simp, by simp⟩⟩
  obtain ⟨v', w', hr, h2, h3, h4⟩ := run_app (P := P) w t ty e i z size bytes ht hi hz hsize hby hzs hv hu h1 (by omega) (by rw [Nat.zero_add]; exact hbytes)
  rw [Nat.zero_add, List.nil_append] at h2
  refine ⟨v', w', hr, h2, ?_, fun k hk => ?_⟩
  · by_cases hm0 : m = 0
    · subst hm0
      have hy : ys = [] := List.eq_nil_of_length_eq_zero (by simpa using hu.1)
      subst hy
      have hs : Src P size t u 0 [] w := by
        rcases hu.2 with ⟨_, a', c', rfl⟩ | ⟨a', c', rfl, hc⟩
        · cases a' with
          | none => exact Src.ofNil w ht c'
          | some a' => exact Src.ofSlice w ht a' 0 c' [] (by simp) (fun j u h => by simp at h) (fun u h => by simp at h)
        · exact Src.ofSlice w ht a' 0 c' [] (by simp) (fun j u h => by simp at h) (fun u h => by simp at h)
      subst hsize
      have := run_append_nothing w t t ty e i ht hi (some ⟨ge, 0, none⟩) 0 0 (Nat.le_refl _) u hs
      rw [hr] at this
      injection this with _ e2
      rw [e2]
      exact Below.refl _ _
    · obtain ⟨a, c, rfl, hnews⟩ : ∃ a c, u = .slice (some a) m c ∧ ∀ j x, ys[j]? = some x → w.cell? (a.add j) = some x := by
        rcases hu.2 with ⟨q, _⟩ | q
        · exact absurd q hm0
        · exact q
      subst hsize
      subst hby
      have hsm : m ≤ 9223372036854775807 := by simp only [maxLen] at h63; omega
      have := run_append_grow (P := P) w t ty e i z ht hi hz ⟨ge, 0, none⟩ 0 0 [] (by simp) (fun j v h => by simp at h) a m c ys hu.1 hnews (by omega) (by omega) (growslice_fits (by omega) (by rw [Nat.zero_add]; exact hbytes))
      rw [hr] at this
      injection this with _ e2
      rw [e2]
      exact ⟨rfl, rfl, rfl, by simp, fun k hk => heap_alloc_old w.drew _ hk⟩
  · rcases h4 k hk with q | q
    · cases q; exact .inl rfl
    · exact .inr q
theorem opw_app0 {P : Program} {K : Act → World → Prop} {o : Oper} {A : Act} {w : World} {Q : Exit → Act → World → Prop} (s x : Operand) (t : TypeId) (ho : o.op = .call { callee := .builtin .append, args := #[s, x], argTypes := #[t, t] })
    (e : TypeId) (i : TypeInfo) (z : Value) (size bytes : Nat) (ht : P.underlying t = some (.slice e)) (hi : P.info? e = some i) (hz : i.zero = some z) (hsize : i.size = size) (hby : i.bytes = bytes) (hzs : z.cells.size = size)
    {u : Value} {m ge : Nat} {ys : List Value} (hs : A.eval s = .slice (some ⟨ge, 0, none⟩) 0 0) (hx : A.eval x = u) (he : RowAt ge #[] e w) (hu : So size u m ys w) (h1 : ∀ y ∈ ys, y.oneCell' = true) (h63 : m ≤ maxLen) (hbytes : m * bytes ≤ 140737488355328)
    (k : ∀ v' w', Rw e size v' m ys w' → Below w.heap.size w w' → (∀ k, v'.ownBlock = some k → k = ge ∨ w.heap.size ≤ k) → K (A.put o.dst v') w') : o.wp P A w K Q := by
  obtain ⟨v', w', hr, h2, h3, h4⟩ := run_app0 (P := P) w t o.type e i z size bytes ht hi hz hsize hby hzs he hu h1 h63 hbytes
  unfold Oper.wp execOp
  simp only [ho, resolve, invoke, builtin, Sem.run_bind, Sem.run_pure, Result.andThen_ok, List.map_toArray, List.map_cons, List.map_nil, hs, hx, hr]
  exact k v' w' h2 h3 h4
theorem wpL_app0 {P : Program} {ops : Array Oper} {rest : List Oper} {o : Oper} {A : Act} {w : World} {Q : Exit → Act → World → Prop} (hgd : o.guard = none) (s x : Operand) (t : TypeId) (ho : o.op = .call { callee := .builtin .append, args := #[s, x], argTypes := #[t, t] })
    (e : TypeId) (i : TypeInfo) (z : Value) (size bytes : Nat) (ht : P.underlying t = some (.slice e)) (hi : P.info? e = some i) (hz : i.zero = some z) (hsize : i.size = size) (hby : i.bytes = bytes) (hzs : z.cells.size = size)
    {u : Value} {m ge : Nat} {ys : List Value} (hs : A.eval s = .slice (some ⟨ge, 0, none⟩) 0 0) (hx : A.eval x = u) (he : RowAt ge #[] e w) (hu : So size u m ys w) (h1 : ∀ y ∈ ys, y.oneCell' = true) (h63 : m ≤ maxLen) (hbytes : m * bytes ≤ 140737488355328)
    (k : ∀ v' w', Rw e size v' m ys w' → Below w.heap.size w w' → (∀ k, v'.ownBlock = some k → k = ge ∨ w.heap.size ≤ k) → wpList P ops Q rest (A.put o.dst v') w') : wpList P ops Q (o :: rest) A w :=
  wpList_plain hgd fun _ hK => opw_app0 s x t ho e i z size bytes ht hi hz hsize hby hzs hs hx he hu h1 h63 hbytes fun v' w' q1 q2 q3 => hK _ _ (k v' w' q1 q2 q3)
theorem SlB.so {w : World} {v : Value} {bs : List UInt8} (h : SlB w v bs) : So 1 v bs.length (Lib.byteCells bs) w := by
  refine ⟨by rw [Lib.byteCells_length]; omega, ?_⟩
  rcases h with ⟨rfl, a, c, rfl⟩ | ⟨g, o, c, rfl, hg, hc⟩
  · exact .inl ⟨rfl, a, c, rfl⟩
  · refine .inr ⟨_, c, rfl, fun j x hx => ?_⟩
    rw [byteCells_at] at hx
    obtain ⟨b, hb, rfl⟩ := Option.map_eq_some_iff.1 hx
    rw [Addr.add_lit]
    exact hc j b hb
theorem RowAt.setc {b : Nat} {cs : Array Value} {t : TypeId} {w : World} (h : RowAt b cs t w) (k : Nat) (v : Value) : RowAt b (cs.setIfInBounds k v) t (w.setCell ⟨b, k, none⟩ v) := by
  unfold RowAt at *
  simp [World.setCell, Array.getElem?_modify, h]
theorem Rw.some {e : TypeId} {size n c : Nat} {a : Option Addr} {xs : List Value} {w : World} (h : Rw e size (.slice a n c) n xs w) (hn : 0 < n) : ∃ g, a = some ⟨g, 0, none⟩ := by
  rcases h.2 with ⟨_, q⟩ | ⟨g, cap, cur, q, _⟩
  · omega
  · cases q
    exact ⟨g, rfl⟩
theorem rw_set1 {e n c g : Nat} {xs : List Value} {w : World} (h : Rw e 1 (.slice (some ⟨g, 0, none⟩) n c) n xs w) (i : Nat) (x : Value) : Rw e 1 (.slice (some ⟨g, 0, none⟩) n c) n (xs.set i x) (w.setCell ⟨g, i, none⟩ x) := by
  refine ⟨by rw [List.length_set]; exact h.1, ?_⟩
  rcases h.2 with ⟨q, _⟩ | ⟨g', cap, cur, q, hg, h1, h2, h3, h4⟩
  · cases q
  · cases q
    refine .inr ⟨g, c, cur.setIfInBounds i x, rfl, RowAt.setc hg _ _, h1, h2, by simpa using h3, ?_⟩
    rw [Array.toList_setIfInBounds, List.take_set, h4]
theorem rw_at1 {e n c g : Nat} {xs : List Value} {w : World} (h : Rw e 1 (.slice (some ⟨g, 0, none⟩) n c) n xs w) {i : Nat} {u : Value} (hu : xs[i]? = some u) : w.cell? ⟨g, i, none⟩ = some u ∧ w.frozen? ⟨g, i, none⟩ = false := by
  have h0 := h.cells _ _ hu
  rw [Nat.zero_add] at h0
  rcases h.2 with ⟨q, _⟩ | ⟨g', cap, cur, q, hg, _⟩
  · cases q
  · cases q
    exact ⟨h0, Lib.frozen_of_heap hg _⟩
def u8s (xs : List Value) : Prop := ∀ u ∈ xs, ∃ z : Int, u = .int .u8 z
theorem u8s.set {xs : List Value} (h : u8s xs) (i : Nat) (z : Int) : u8s (xs.set i (.int .u8 z)) := fun u hu => by
  rcases List.mem_or_eq_of_mem_set hu with q | q
  · exact h u q
  · exact ⟨z, q⟩
theorem infoB : (Tryz.prog.info? 5).map (fun i => (i.zero, i.size, i.bytes)) = some (some (.int .u8 0), 1, 1) := by kernel_rfl
def mk4 : List Value := [.int .u8 201, .int .u8 202, .int .u8 203, .int .u8 204]
theorem so_4 (w : World) : So 1 (.slice (some ⟨w.heap.size, 0, none⟩) 4 4) 4 mk4 (w.alloc (.cells #[.int .u8 201, .int .u8 202, .int .u8 203, .int .u8 204] 5)) :=
  ⟨rfl, .inr ⟨_, _, rfl, fun j u hu => by
    rw [Addr.add_lit, Nat.zero_add, (row_new w _ _).cell]
    simpa [mk4] using hu⟩⟩
theorem wpL_convB {ops : Array Oper} {rest : List Oper} {o : Oper} {A : Act} {w : World} {Q : Exit → Act → World → Prop} (hgd : o.guard = none) (x : Operand) (ho : o.op = .convert 33 9 x) {v : Value} {s : ByteArray} (hx : A.eval x = v) (hrun : (convert 33 9 v).run Tryz.prog w = .ok (.string s) w)
    (k : wpList Tryz.prog ops Q rest (A.put o.dst (.string s)) w) : wpList Tryz.prog ops Q (o :: rest) A w := by
  refine wpList_plain hgd fun _ hK => ?_
  unfold Oper.wp execOp
  simp only [ho, hx, Sem.run_bind, hrun, Result.andThen]
  exact hK _ _ k
def mk4b : List UInt8 := [201, 202, 203, 204]
theorem mk4_is : mk4 = Lib.byteCells mk4b := rfl
def BsAt (K : Nat → Prop) (v : Value) (bs : List UInt8) (w : World) : Prop := Rw 5 1 v bs.length (Lib.byteCells bs) w ∧ ∀ g, v.ownBlock = some g → K g
theorem BsAt.sl {K : Nat → Prop} {v : Value} {bs : List UInt8} {w : World} (h : BsAt K v bs w) : SlB w v bs := by
  have h0 := h.1
  rcases h.1.2 with ⟨rfl, hn⟩ | ⟨g, cap, cur, rfl, hg, _⟩
  · exact .inl ⟨List.eq_nil_of_length_eq_zero hn, _, _, rfl⟩
  · refine .inr ⟨g, 0, cap, rfl, (Array.getElem?_eq_some_iff.1 hg).1, fun i b hi => ?_⟩
    exact h0.cells i _ (by rw [byteCells_at, hi]; rfl)
end Go.Proofs.YteffpnjgchihpaaGreatDoor
