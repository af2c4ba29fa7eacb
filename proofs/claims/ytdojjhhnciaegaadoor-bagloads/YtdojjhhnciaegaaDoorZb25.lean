
/-
  BagSums: the state in memory. append to a row that has no room: a copy; slices of one.
-/
import Derived.Test.YtdojjhhnciaegaaDoorZb24
namespace Go.Proofs.YtdojjhhnciaegaaDoor
open Go.RowKit Go.Extern.Stop Go.Stop Go.Extern
set_option maxRecDepth 100000

theorem Rw.neRow {e t : TypeId} {size n b : Nat} {v : Value} {xs : List Value} {cs : Array Value} {w : World} (h : Rw e size v n xs w) (r : RowAt b cs t w) (hne : e ≠ t) : ∀ k, v.ownBlock = some k → ¬ k = b := fun k hk ek => by
  rcases h.2 with ⟨rfl, _⟩ | ⟨g, cap, cur, rfl, hg, _⟩
  · cases hk
  · cases hk
    unfold RowAt at r
    simp only at ek
    rw [← ek, hg] at r
    simp at r
    exact hne r.2
theorem Rw.ne {e e' : TypeId} {size n size' n' : Nat} {v v' : Value} {xs xs' : List Value} {w : World} (h : Rw e size v n xs w) (h' : Rw e' size' v' n' xs' w) (hne : e ≠ e') : ∀ k, v.ownBlock = some k → ¬ v'.ownBlock = some k := fun k hk hk' => by
  rcases h'.2 with ⟨rfl, _⟩ | ⟨g, cap, cur, rfl, hg, _⟩
  · cases hk'
  · cases hk'
    exact h.neRow (show RowAt g cur e' w from hg) hne g hk rfl
/-- The Bag, what was sent, how often it may arrive: in memory. -/
structure SmAt (B : Nat) (W : World) (sv mv v : Value) (g : Bg) (qs : List Pl) (ms : List Int) (w : World) : Prop where
  bg : BgAt B v g (fun k => W.heap.size ≤ k) w
  vN : ∀ k, v.ownBlock = some k → W.heap.size ≤ k
  sn : ∃ ss, Rw 65 4 sv qs.length (pcells ss) w ∧ ss.length = qs.length ∧ ∀ (i : Nat) (p : Pc) (q : Pl), ss[i]? = some p → qs[i]? = some q → PcR p q W
  my : Rw 3 1 mv ms.length (ints ms) w
  sN : ∀ k, sv.ownBlock = some k → W.heap.size ≤ k ∧ ¬ v.ownBlock = some k
  mN : ∀ k, mv.ownBlock = some k → W.heap.size ≤ k
  low : Below W.heap.size W w
  lo : W.heap.size ≤ B
theorem SlB.lt {w : World} {v : Value} {bs : List UInt8} (h : SlB w v bs) (hb : bs ≠ []) : ∀ k, v.ownBlock = some k → k < w.heap.size := fun k hk => by
  rcases h with ⟨e, _⟩ | ⟨g, o, c, rfl, hg, _⟩
  · exact absurd e hb
  · cases hk; exact hg
theorem SlB.low {n : Nat} {w w' : World} {v : Value} {bs : List UInt8} (h : SlB w v bs) (hn : w.heap.size ≤ n) (hb : Below n w w') : SlB w' v bs := by
  rcases h with h | ⟨g, o, c, rfl, hg, hc⟩
  · exact .inl h
  · exact .inr ⟨g, o, c, rfl, by have := hb.size; omega, fun i b hi => by rw [hb.cell (p := ⟨g, o + i, none⟩) (by show g < n; omega)]; exact hc i b hi⟩
theorem PcR.low {w w' : World} {p : Pc} {q : Pl} (h : PcR p q w) (hb : Below w.heap.size w w') : PcR p q w' := ⟨h.s, h.f, h.t, h.b.low (Nat.le_refl _) hb⟩
theorem SmAt.later {B : Nat} {W : World} {sv mv v : Value} {g : Bg} {qs : List Pl} {ms : List Int} {w w' : World} (h : SmAt B W sv mv v g qs ms w) (hb : Below w.heap.size w w') : SmAt B W sv mv v g qs ms w' := by
  obtain ⟨ss, h1, h2⟩ := h.sn
  exact ⟨h.bg.later hb, h.vN, ⟨ss, h1.later hb, h2⟩, h.my.later hb, h.sN, h.mN, h.low.trans (hb.mono h.low.size), h.lo⟩
theorem SmAt.mv_ne {B : Nat} {W : World} {sv mv v : Value} {g : Bg} {qs : List Pl} {ms : List Int} {w : World} (h : SmAt B W sv mv v g qs ms w) : ∀ k, mv.ownBlock = some k → ¬ k = B ∧ ¬ v.ownBlock = some k ∧ ¬ sv.ownBlock = some k := fun k hk => by
  obtain ⟨ss, h1, _⟩ := h.sn
  obtain ⟨ps, h2, _⟩ := h.bg.row
  exact ⟨h.my.neRow h.bg.lies (by decide) k hk, h.my.ne h2 (by decide) k hk, h.my.ne h1 (by decide) k hk⟩
theorem SmAt.sv_ne {B : Nat} {W : World} {sv mv v : Value} {g : Bg} {qs : List Pl} {ms : List Int} {w : World} (h : SmAt B W sv mv v g qs ms w) : ∀ k, sv.ownBlock = some k → ¬ k = B ∧ ¬ v.ownBlock = some k ∧ ¬ mv.ownBlock = some k := fun k hk => by
  obtain ⟨ss, h1, _⟩ := h.sn
  exact ⟨h1.neRow h.bg.lies (by decide) k hk, (h.sN k hk).2, h1.ne h.my (by decide) k hk⟩
/-- A call of the Bag. -/
theorem SmAt.step {B : Nat} {W : World} {sv mv v v' : Value} {g g' : Bg} {qs : List Pl} {ms : List Int} {w w' : World} (h : SmAt B W sv mv v g qs ms w) (c : Ch (Bch B v) w w') (hg : BgAt B v' g' (fun k => W.heap.size ≤ k) w') (ha : At' w v v') : SmAt B W sv mv v' g' qs ms w' := by
  obtain ⟨ss, h1, h2⟩ := h.sn
  refine ⟨hg, fun k hk => ?_, ⟨ss, h1.ch c (fun k hk e => ?_), h2⟩, h.my.ch c (fun k hk e => ?_), fun k hk => ⟨(h.sN k hk).1, fun e => ?_⟩, h.mN, h.low.trans (c.below (fun s hs e => ?_) h.low.size), h.lo⟩
  · rcases ha k hk with q | q
    · exact h.vN k q
    · have := h.low.size; omega
  · rcases e with e | e
    · exact (h.sv_ne k hk).1 e
    · exact (h.sv_ne k hk).2.1 e
  · rcases e with e | e
    · exact (h.mv_ne k hk).1 e
    · exact (h.mv_ne k hk).2.1 e
  · rcases ha k e with q | q
    · exact (h.sN k hk).2 q
    · have := h1.lt k hk; omega
  · rcases e with e | e
    · have := h.lo; omega
    · have := h.vN s e; omega
/-- One more was sent. -/
theorem SmAt.sent {B : Nat} {W : World} {sv mv v sv' : Value} {g : Bg} {qs : List Pl} {ms : List Int} {w w' : World} (h : SmAt B W sv mv v g qs ms w) {ss : List Pc} (hss : ss.length = qs.length ∧ ∀ (i : Nat) (p : Pc) (q : Pl), ss[i]? = some p → qs[i]? = some q → PcR p q W) {p : Pc} {q : Pl} (hp : PcR p q W) (hr : Rw 65 4 sv' (qs.length + 1) (pcells ss ++ pcells [p]) w') (hgr : w.grownBy w' sv.ownBlock) (ha : At' w sv sv') : SmAt B W sv' mv v g (qs ++ [q]) ms w' := by
  have c := grown_ch hgr
  have hvl := h.bg.row.lt
  have hb := h.bg.bne
  obtain ⟨ss0, hs0, _⟩ := h.sn
  have hKs : ∀ k, W.heap.size ≤ k ∧ k < w.heap.size ∧ ¬ k = B ∧ (∀ i, v.ownBlock = some i → ¬ k = i) → True := fun _ _ => trivial
  refine ⟨?_, h.vN, ⟨ss ++ [p], ?_, ?_, fun i p' q' h1 h2 => ?_⟩, h.my.ch c (fun k hk e => (h.mv_ne k hk).2.2 e), fun k hk => ?_, h.mN, h.low.trans (c.below (fun s hs e => by have := (h.sN s e).1; omega) h.low.size), h.lo⟩
  · obtain ⟨ps, hps1, hps2⟩ := h.bg.row
    refine ⟨h.bg.lies.ch c (fun e => (h.sv_ne B e).1 rfl), ⟨ps, hps1.ch c (fun k hk e => (h.sv_ne k e).2.1 hk), ?_⟩, h.bg.most0, h.bg.most1, h.bg.room⟩
    refine ⟨hps2.1, fun i p' q' h1 h2 => ?_⟩
    have hh := hps2.2 i p' q' h1 h2
    exact ⟨hh.s, hh.f, hh.t, ⟨hh.b.1.ch c (fun k hk e => hh.b.1.ne hs0 (by decide) k hk e), hh.b.2⟩, hh.le⟩
  · rw [List.length_append, List.length_singleton, pcells_app]; exact hr
  · rw [List.length_append, List.length_append, hss.1]; rfl
  · by_cases e : i < ss.length
    · rw [List.getElem?_append_left e] at h1
      rw [List.getElem?_append_left (by rw [← hss.1]; exact e)] at h2
      exact hss.2 i p' q' h1 h2
    · rw [List.getElem?_append_right (by omega)] at h1
      rw [List.getElem?_append_right (by rw [← hss.1]; omega), ← hss.1] at h2
      have hz : i - ss.length = 0 := by have := (List.getElem?_eq_some_iff.1 h1).1; simp at this; omega
      rw [hz] at h1 h2
      cases h1
      cases h2
      exact hp
  · rcases ha k hk with q | q
    · exact h.sN k q
    · exact ⟨by have := h.low.size; omega, fun e => by have := hvl k e; omega⟩
theorem ints_len (l : List Int) : (ints l).length = l.length := by simp [ints]
/-- How often each may arrive is another row. -/
theorem SmAt.mayR {B : Nat} {W : World} {sv mv v mv' : Value} {g : Bg} {qs : List Pl} {ms ms' : List Int} {w w' : World} (h : SmAt B W sv mv v g qs ms w) (hr : Rw 3 1 mv' ms'.length (ints ms') w') (c : Ch (fun k => mv.ownBlock = some k) w w') (ha : At' w mv mv') : SmAt B W sv mv' v g qs ms' w' := by
  obtain ⟨ss, h1, h2⟩ := h.sn
  refine ⟨?_, h.vN, ⟨ss, h1.ch c (fun k hk e => (h.sv_ne k hk).2.2 e), h2⟩, hr, h.sN, fun k hk => ?_, h.low.trans (c.below (fun s hs e => by have := h.mN s e; omega) h.low.size), h.lo⟩
  · obtain ⟨ps, hps1, hps2⟩ := h.bg.row
    refine ⟨h.bg.lies.ch c (fun e => (h.mv_ne B e).1 rfl), ⟨ps, hps1.ch c (fun k hk e => (h.mv_ne k e).2.1 hk), ?_⟩, h.bg.most0, h.bg.most1, h.bg.room⟩
    refine ⟨hps2.1, fun i p' q' h1 h2 => ?_⟩
    have hh := hps2.2 i p' q' h1 h2
    exact ⟨hh.s, hh.f, hh.t, ⟨hh.b.1.ch c (fun k hk e => hh.b.1.ne h.my (by decide) k hk e), hh.b.2⟩, hh.le⟩
  · rcases ha k hk with q | q
    · exact h.mN k q
    · have := h.low.size; omega
/-- One of them is stored anew. -/
theorem Rw.setI {n c g : Nat} {ms : List Int} {w : World} (h : Rw 3 1 (.slice (some ⟨g, 0, none⟩) n c) n (ints ms) w) {i : Nat} (_hi : i < n) (x : Int) : Rw 3 1 (.slice (some ⟨g, 0, none⟩) n c) n (ints (ms.set i x)) (w.setCell ⟨g, i, none⟩ (.int .i64 x)) := by
  refine ⟨by rw [ints_len, List.length_set, ← ints_len]; exact h.1, ?_⟩
  rcases h.2 with ⟨q, _⟩ | ⟨g', cap, cur, q, hg, h1, h2, h3, h4⟩
  · cases q
  · cases q
    refine .inr ⟨g, c, cur.setIfInBounds i (.int .i64 x), rfl, RowAt.setc hg _ _, h1, h2, by simpa using h3, ?_⟩
    rw [Array.toList_setIfInBounds, List.take_set, h4]
    simp [ints]
theorem Rw.atI {n c g : Nat} {ms : List Int} {w : World} (h : Rw 3 1 (.slice (some ⟨g, 0, none⟩) n c) n (ints ms) w) {i : Nat} {m : Int} (hm : ms[i]? = some m) : w.cell? ⟨g, i, none⟩ = some (.int .i64 m) ∧ w.frozen? ⟨g, i, none⟩ = false := by
  have hc := h.cells i (.int .i64 m) (by simp [ints, hm])
  rw [Nat.zero_add] at hc
  refine ⟨hc, ?_⟩
  rcases h.2 with ⟨q, _⟩ | ⟨g', cap, cur, q, hg, _⟩
  · cases q
  · cases q
    exact Lib.frozen_of_heap hg i
end Go.Proofs.YtdojjhhnciaegaaDoor
namespace Go.Proofs.YtdojjhhnciaegaaDoor
open Go.RowKit Go.Extern.Stop Go.Stop Go.Extern
set_option maxRecDepth 100000

theorem run_app0 {P : Program} (w : World) (t ty e : TypeId) (i : TypeInfo) (z : Value) (size bytes : Nat) (ht : P.underlying t = some (.slice e)) (hi : P.info? e = some i) (hz : i.zero = some z)
    (hsize : i.size = size) (hby : i.bytes = bytes) (hzs : z.cells.size = size) {u : Value} {m ge : Nat} {ys : List Value} (he : RowAt ge #[] e w) (hu : So size u m ys w) (h1 : ∀ y ∈ ys, y.oneCell' = true)
    (h63 : m ≤ maxLen) (hbytes : m * bytes ≤ 140737488355328) :
    ∃ v' w', (Builtin.append_ #[t, t] ty #[.slice (some ⟨ge, 0, none⟩) 0 0, u]).run P w = .ok v' w' ∧ Rw e size v' m ys w' ∧ Below w.heap.size w w' ∧ ∀ k, v'.ownBlock = some k → k = ge ∨ w.heap.size ≤ k := by
  have hv : Rw e size (.slice (some ⟨ge, 0, none⟩) 0 0) 0 [] w := ⟨by simp, .inr ⟨ge, 0, #[], rfl, he, Nat.le_refl _, Nat.zero_le _, by simp, by simp⟩⟩
  obtain ⟨v', w', hr, h2, h3, h4⟩ := run_app (P := P) w t ty e i z size bytes ht hi hz hsize hby hzs hv hu h1 (by omega) (by rw [Nat.zero_add]; exact hbytes)
  rw [Nat.zero_add, List.nil_append] at h2
  refine ⟨v', w', hr, h2, ?_, fun k hk => ?_⟩
  · by_cases hm0 : m = 0
    · subst hm0
      have hy : ys = [] := List.eq_nil_of_length_eq_zero (by simpa using hu.1)
      subst hy
      have hs : Src P size t u 0 [] w := by
        rcases hu.2 with ⟨_, a', c', rfl⟩ | ⟨a', c', rfl, hc⟩
        · cases a' with
          | none => exact Src.ofNil w ht c'
          | some a' => exact Src.ofSlice w ht a' 0 c' [] (by simp) (fun j u h => by simp at h) (fun u h => by simp at h)
        · exact Src.ofSlice w ht a' 0 c' [] (by simp) (fun j u h => by simp at h) (fun u h => by simp at h)
      subst hsize
      have := run_append_nothing w t t ty e i ht hi (some ⟨ge, 0, none⟩) 0 0 (Nat.le_refl _) u hs
      rw [hr] at this
      injection this with _ e2
      rw [e2]
      exact Below.refl _ _
    · obtain ⟨a, c, rfl, hnews⟩ : ∃ a c, u = .slice (some a) m c ∧ ∀ j x, ys[j]? = some x → w.cell? (a.add j) = some x := by
        rcases hu.2 with ⟨q, _⟩ | q
        · exact absurd q hm0
        · exact q
      subst hsize
      subst hby
      have hsm : m ≤ 9223372036854775807 := by simp only [maxLen] at h63; omega
      have := run_append_grow (P := P) w t ty e i z ht hi hz ⟨ge, 0, none⟩ 0 0 [] (by simp) (fun j v h => by simp at h) a m c ys hu.1 hnews (by omega) (by omega) (growslice_fits (by omega) (by rw [Nat.zero_add]; exact hbytes))
      rw [hr] at this
      injection this with _ e2
      rw [e2]
      exact ⟨rfl, rfl, rfl, by simp, fun k hk => heap_alloc_old w.drew _ hk⟩
  · rcases h4 k hk with q | q
    · cases q; exact .inl rfl
    · exact .inr q
theorem opw_app0 {P : Program} {K : Act → World → Prop} {o : Oper} {A : Act} {w : World} {Q : Exit → Act → World → Prop} (s x : Operand) (t : TypeId) (ho : o.op = .call { callee := .builtin .append, args := #[s, x], argTypes := #[t, t] })
    (e : TypeId) (i : TypeInfo) (z : Value) (size bytes : Nat) (ht : P.underlying t = some (.slice e)) (hi : P.info? e = some i) (hz : i.zero = some z) (hsize : i.size = size) (hby : i.bytes = bytes) (hzs : z.cells.size = size)
    {u : Value} {m ge : Nat} {ys : List Value} (hs : A.eval s = .slice (some ⟨ge, 0, none⟩) 0 0) (hx : A.eval x = u) (he : RowAt ge #[] e w) (hu : So size u m ys w) (h1 : ∀ y ∈ ys, y.oneCell' = true) (h63 : m ≤ maxLen) (hbytes : m * bytes ≤ 140737488355328)
    (k : ∀ v' w', Rw e size v' m ys w' → Below w.heap.size w w' → (∀ k, v'.ownBlock = some k → k = ge ∨ w.heap.size ≤ k) → K (A.put o.dst v') w') : o.wp P A w K Q := by
  obtain ⟨v', w', hr, h2, h3, h4⟩ := run_app0 (P := P) w t o.type e i z size bytes ht hi hz hsize hby hzs he hu h1 h63 hbytes
  unfold Oper.wp execOp
  simp only [ho, resolve, invoke, builtin, Sem.run_bind, Sem.run_pure, Result.andThen_ok, List.map_toArray, List.map_cons, List.map_nil, hs, hx, hr]
  exact k v' w' h2 h3 h4
theorem wpL_app0 {P : Program} {ops : Array Oper} {rest : List Oper} {o : Oper} {A : Act} {w : World} {Q : Exit → Act → World → Prop} (hgd : o.guard = none) (s x : Operand) (t : TypeId) (ho : o.op = .call { callee := .builtin .append, args := #[s, x], argTypes := #[t, t] })
    (e : TypeId) (i : TypeInfo) (z : Value) (size bytes : Nat) (ht : P.underlying t = some (.slice e)) (hi : P.info? e = some i) (hz : i.zero = some z) (hsize : i.size = size) (hby : i.bytes = bytes) (hzs : z.cells.size = size)
    {u : Value} {m ge : Nat} {ys : List Value} (hs : A.eval s = .slice (some ⟨ge, 0, none⟩) 0 0) (hx : A.eval x = u) (he : RowAt ge #[] e w) (hu : So size u m ys w) (h1 : ∀ y ∈ ys, y.oneCell' = true) (h63 : m ≤ maxLen) (hbytes : m * bytes ≤ 140737488355328)
    (k : ∀ v' w', Rw e size v' m ys w' → Below w.heap.size w w' → (∀ k, v'.ownBlock = some k → k = ge ∨ w.heap.size ≤ k) → wpList P ops Q rest (A.put o.dst v') w') : wpList P ops Q (o :: rest) A w :=
  wpList_plain hgd fun _ hK => opw_app0 s x t ho e i z size bytes ht hi hz hsize hby hzs hs hx he hu h1 h63 hbytes fun v' w' q1 q2 q3 => hK _ _ (k v' w' q1 q2 q3)
/-- Bytes as append takes them. -/
theorem SlB.so {w : World} {v : Value} {bs : List UInt8} (h : SlB w v bs) : So 1 v bs.length (Lib.byteCells bs) w := by
  refine ⟨by rw [Lib.byteCells_length]; omega, ?_⟩
  rcases h with ⟨rfl, a, c, rfl⟩ | ⟨g, o, c, rfl, hg, hc⟩
  · exact .inl ⟨rfl, a, c, rfl⟩
  · refine .inr ⟨_, c, rfl, fun j x hx => ?_⟩
    rw [byteCells_at] at hx
    obtain ⟨b, hb, rfl⟩ := Option.map_eq_some_iff.1 hx
    rw [Addr.add_lit]
    exact hc j b hb
theorem SlB.take {w : World} {a : Option Addr} {n c : Nat} {bs : List UInt8} (h : SlB w (.slice a bs.length c) bs) (hn : n ≤ bs.length) : SlB w (.slice a n c) (bs.take n) := by
  have hl : (bs.take n).length = n := by rw [List.length_take]; omega
  by_cases h0 : n = 0
  · subst h0
    exact .inl ⟨by simp, a, c, rfl⟩
  · rcases h with ⟨rfl, _⟩ | ⟨g, o, c', e, hg, hc⟩
    · simp at hn; omega
    · cases e
      exact .inr ⟨g, o, c, by rw [hl], hg, fun i b hi => hc i b (by
        rw [List.getElem?_take] at hi
        split at hi
        · exact hi
        · cases hi)⟩
theorem wpL_one {ops : Array Oper} {rest : List Oper} {o : Oper} {A : Act} {w : World} {Q : Exit → Act → World → Prop} (hgd : o.guard = none) (x : Operand) (ho : o.op = .buildSlice 45 1 #[(0, x)]) {p : Pc} (hx : A.eval x = .agg (pcv p)) (hp : p.b.oneCell' = true)
    (k : wpList Tryd.prog ops Q rest (A.put o.dst (.slice (some ⟨w.heap.size, 0, none⟩) 1 1)) (w.alloc (.cells (pcv p) 65))) : wpList Tryd.prog ops Q (o :: rest) A w := wpList_plain hgd fun _ hK => opw_one x ho hx hp (hK _ _ k)
theorem quiet_loadP {o : Oper} {a : Act} {C : World → Prop} {K : Act → Prop} (x : Operand) (ho : o.op = .load 65 x) {b off : Nat} (hx : a.eval x = .pointer (some ⟨b, off, none⟩)) {p : Pc} (h : ∀ w, C w → CsIn b off (pcv p) w)
    (k : K (a.put o.dst (.agg (pcv p)))) : o.quiet Tryd.prog a C K := quiet_load_in _ x ho hx h Tryd.underlying65 rfl (p_size p) k
theorem infoInt : (Tryd.prog.info? 3).map (fun i => (i.zero, i.size, i.bytes)) = some (some (.int .i64 0), 1, 8) := by kernel_rfl
theorem ints_one (l : List Int) : ∀ y ∈ ints l, y.oneCell' = true := fun y hy => by
  simp only [ints, List.mem_map] at hy
  obtain ⟨z, _, rfl⟩ := hy
  rfl
theorem so_int (w : World) (x : Int) : So 1 (.slice (some ⟨w.heap.size, 0, none⟩) 1 1) 1 (ints [x]) (w.alloc (.cells #[.int .i64 x] 3)) :=
  ⟨rfl, .inr ⟨_, _, rfl, fun j u hu => by
    match j, hu with
    | 0, hu => cases hu; rw [Addr.add_lit, Nat.zero_add, (row_new w _ _).cell]; rfl
    | j + 1, hu => simp [ints] at hu⟩⟩
end Go.Proofs.YtdojjhhnciaegaaDoor
