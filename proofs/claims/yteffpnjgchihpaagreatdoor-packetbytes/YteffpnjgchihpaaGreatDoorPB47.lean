
/-
  Rows of one's own whose block may have more room than the slice says; append to them; worlds in which some blocks have turned.
-/
import Derived.Test.YteffpnjgchihpaaGreatDoorPB45
import Derived.Laws.AppendOwn
import Derived.Deep.Upon
import Derived.Deep.MidRow
namespace Go.Proofs.YteffpnjgchihpaaGreatDoor
open Go.RowKit
set_option maxRecDepth 100000

/-- Nothing that was there has turned but the blocks of S. -/
structure Ch (S : Nat → Prop) (w w' : World) : Prop where
  os : w'.os = w.os
  tape : w'.tape = w.tape
  output : w'.output = w.output
  size : w.heap.size ≤ w'.heap.size
  block : ∀ k, k < w.heap.size → ¬ S k → w'.heap[k]? = w.heap[k]?
theorem Ch.refl (S : Nat → Prop) (w : World) : Ch S w w := ⟨rfl, rfl, rfl, Nat.le_refl _, fun _ _ _ => rfl⟩
theorem Ch.of {S : Nat → Prop} {w w' : World} (h : Below w.heap.size w w') : Ch S w w' := ⟨h.os, h.tape, h.output, h.size, fun k hk _ => h.block k hk⟩
theorem Ch.go {S S' : Nat → Prop} {a b c : World} (h : Ch S a b) (k : Ch S' b c) (hs : ∀ s, S' s → S s ∨ a.heap.size ≤ s) : Ch S a c :=
  ⟨k.os.trans h.os, k.tape.trans h.tape, k.output.trans h.output, Nat.le_trans h.size k.size, fun i hi hn => (k.block i (Nat.lt_of_lt_of_le hi h.size) (fun hm => (hs i hm).elim hn (fun hle => by omega))).trans (h.block i hi hn)⟩
theorem Ch.trans {S : Nat → Prop} {a b c : World} (h : Ch S a b) (k : Ch S b c) : Ch S a c := h.go k (fun _ q => .inl q)
theorem Ch.later {S : Nat → Prop} {a b c : World} (h : Ch S a b) (k : Below b.heap.size b c) : Ch S a c := h.trans (.of k)
theorem Ch.mono {S S' : Nat → Prop} {a b : World} (h : Ch S a b) (hs : ∀ s, S s → S' s ∨ a.heap.size ≤ s) : Ch S' a b :=
  ⟨h.os, h.tape, h.output, h.size, fun i hi hn => h.block i hi fun hm => (hs i hm).elim hn (fun hle => by omega)⟩
theorem Ch.grown {S : Nat → Prop} {a w w' : World} {row : Option Nat} (h : Ch S a w) (hg : w.grownBy w' row) (hr : ∀ k, row = some k → S k ∨ a.heap.size ≤ k) : Ch S a w' :=
  h.go (S' := fun k => row = some k) ⟨hg.os, hg.tape, hg.output, hg.size, fun k hk hn => hg.block k hk (fun e => hn e.symm)⟩ hr
theorem Ch.set {S : Nat → Prop} {a w : World} (h : Ch S a w) {p : Addr} (hp : S p.block ∨ a.heap.size ≤ p.block) (v : Value) : Ch S a (w.setCell p v) :=
  ⟨h.os, h.tape, h.output, by simpa [World.setCell] using h.size, fun k hk hn => (Below.heap_setCell _ _ _ _ (fun e => by subst e; exact hp.elim hn (fun hle => by omega))).trans (h.block k hk hn)⟩
theorem Ch.cells {S : Nat → Prop} {a : World} {g : Nat} (hp : S g ∨ a.heap.size ≤ g) : ∀ (vs : List Value) (o_ : Nat) (w : World), Ch S a w → Ch S a (w.setCells g o_ vs)
  | [], _, _, h => h
  | v :: r, o_, _, h => Ch.cells hp r (o_ + 1) _ (h.set (p := ⟨g, o_, none⟩) hp v)
theorem Ch.row {S : Nat → Prop} {a w : World} (h : Ch S a w) {g : Nat} (hp : S g ∨ a.heap.size ≤ g) (c : Array Value) : Ch S a (w.setRow g c) :=
  ⟨h.os, h.tape, h.output, by simpa using h.size, fun k hk hn => (setRow_other w g k c (fun e => by subst e; exact hp.elim hn (fun hle => by omega))).trans (h.block k hk hn)⟩
theorem Ch.below {S : Nat → Prop} {w w' : World} {n : Nat} (h : Ch S w w') (hS : ∀ s, s < n → ¬ S s) (hn : n ≤ w.heap.size) : Below n w w' :=
  ⟨h.os, h.tape, h.output, h.size, fun k hk => h.block k (Nat.lt_of_lt_of_le hk hn) (hS k hk)⟩
theorem Ch.none {S : Nat → Prop} {w w' : World} (h : Ch S w w') (hS : ∀ s, s < w.heap.size → ¬ S s) : Below w.heap.size w w' := h.below hS (Nat.le_refl _)
theorem Ch.ofBelow {w w' : World} {n : Nat} (h : Below n w w') : Ch (fun k => n ≤ k) w w' := ⟨h.os, h.tape, h.output, h.size, fun k _ q => h.block k (by omega)⟩
theorem Ch.heap {S : Nat → Prop} {w w' : World} (h : Ch S w w') {b : Nat} {o : Obj} (hb : w.heap[b]? = some o) (hn : ¬ S b) : w'.heap[b]? = some o := by rw [h.block b (Array.getElem?_eq_some_iff.1 hb).1 hn]; exact hb
theorem RowAt.ch {S : Nat → Prop} {w w' : World} {b : Nat} {cs : Array Value} {t : TypeId} (h : RowAt b cs t w) (c : Ch S w w') (hn : ¬ S b) : RowAt b cs t w' := c.heap h hn
theorem CsIn.ch {S : Nat → Prop} {b off : Nat} {cs : Array Value} {w w' : World} (h : CsIn b off cs w) (c : Ch S w w') (hn : ¬ S b) : CsIn b off cs w' :=
  ⟨Nat.lt_of_lt_of_le h.1 c.size, fun j v hv => by rw [World.cell?_of_block (w := w) (c.block b h.1 hn)]; exact h.2 j v hv⟩

/-- A row of one's own: n things of so many cells, from the front of a block on. -/
def Rw (e : TypeId) (size : Nat) (v : Value) (n : Nat) (xs : List Value) (w : World) : Prop :=
  xs.length = n * size ∧ ((v = .slice none 0 0 ∧ n = 0) ∨ ∃ g cap cur, v = .slice (some ⟨g, 0, none⟩) n cap ∧ w.heap[g]? = some (.cells cur e (0, 0)) ∧ n ≤ cap ∧ cap ≤ maxLen ∧ cap * size ≤ cur.size ∧ cur.toList.take (n * size) = xs)
theorem Rw.lt {e : TypeId} {size : Nat} {v : Value} {n : Nat} {xs : List Value} {w : World} (h : Rw e size v n xs w) : ∀ k, v.ownBlock = some k → k < w.heap.size := fun k hk => by
  rcases h.2 with ⟨rfl, _⟩ | ⟨g, cap, cur, rfl, hg, _⟩
  · cases hk
  · cases hk
    exact (Array.getElem?_eq_some_iff.1 hg).1
theorem Rw.ch {e : TypeId} {size : Nat} {v : Value} {n : Nat} {xs : List Value} {S : Nat → Prop} {w w' : World} (h : Rw e size v n xs w) (c : Ch S w w') (hn : ∀ k, v.ownBlock = some k → ¬ S k) : Rw e size v n xs w' := by
  refine ⟨h.1, ?_⟩
  rcases h.2 with h | ⟨g, cap, cur, rfl, hg, r⟩
  · exact .inl h
  · exact .inr ⟨g, cap, cur, rfl, c.heap hg (hn g rfl), r⟩
theorem Rw.later {e : TypeId} {size : Nat} {v : Value} {n : Nat} {xs : List Value} {w w' : World} (h : Rw e size v n xs w) (hb : Below w.heap.size w w') : Rw e size v n xs w' :=
  h.ch (S := fun _ => False) (Ch.of hb) (fun _ _ q => q)
theorem Rw.form {e : TypeId} {size : Nat} {v : Value} {n : Nat} {xs : List Value} {w : World} (h : Rw e size v n xs w) : ∃ a c, v = .slice a n c ∧ n ≤ c ∧ c ≤ maxLen := by
  rcases h.2 with ⟨rfl, rfl⟩ | ⟨g, cap, cur, rfl, _, h1, h2, _⟩
  · exact ⟨_, _, rfl, Nat.le_refl _, Nat.zero_le _⟩
  · exact ⟨_, _, rfl, h1, h2⟩
theorem Rw.nil (e : TypeId) (size : Nat) (w : World) : Rw e size (.slice none 0 0) 0 [] w := ⟨by simp, .inl ⟨rfl, rfl⟩⟩
theorem Rw.cells {e : TypeId} {size : Nat} {n g c : Nat} {o : Nat} {xs : List Value} {w : World} (h : Rw e size (.slice (some ⟨g, o, none⟩) n c) n xs w) : ∀ j u, xs[j]? = some u → w.cell? ⟨g, o + j, none⟩ = some u := fun j u hj => by
  rcases h.2 with ⟨q, _⟩ | ⟨g', cap, cur, q, hg, _, _, _, ht⟩
  · cases q
  · cases q
    rw [Nat.zero_add, cell_of_row w g j cur e (0, 0) hg]
    rw [← ht, List.getElem?_take] at hj
    split at hj
    · simpa using hj
    · cases hj
/-- Where a new row of one's own lies. -/
def At' (w : World) (v v' : Value) : Prop := ∀ k, v'.ownBlock = some k → v.ownBlock = some k ∨ w.heap.size ≤ k
theorem At'.refl (w : World) (v : Value) : At' w v v := fun _ h => .inl h
theorem At'.trans {w w' : World} {a b c : Value} (h : At' w a b) (k : At' w' b c) (hs : w.heap.size ≤ w'.heap.size) : At' w a c := fun i hi => (k i hi).elim (h i) (fun q => .inr (by omega))

/-- What append takes. -/
def So (size : Nat) (u : Value) (m : Nat) (ys : List Value) (w : World) : Prop :=
  ys.length = m * size ∧ ((m = 0 ∧ ∃ a c, u = .slice a 0 c) ∨ ∃ a c, u = .slice (some a) m c ∧ ∀ j x, ys[j]? = some x → w.cell? (a.add j) = some x)
theorem Rw.so {e : TypeId} {size : Nat} {v : Value} {n : Nat} {xs : List Value} {w : World} (h : Rw e size v n xs w) : So size v n xs w := by
  refine ⟨h.1, ?_⟩
  have h0 := h
  rcases h.2 with ⟨rfl, rfl⟩ | ⟨g, cap, cur, rfl, hg, _⟩
  · exact .inl ⟨rfl, _, _, rfl⟩
  · exact .inr ⟨_, _, rfl, fun j u hj => by rw [Addr.add_lit]; exact h0.cells j u hj⟩

theorem run_app {P : Program} (w : World) (t ty e : TypeId) (i : TypeInfo) (z : Value) (size bytes : Nat) (ht : P.underlying t = some (.slice e)) (hi : P.info? e = some i) (hz : i.zero = some z)
    (hsize : i.size = size) (hby : i.bytes = bytes) (hzs : z.cells.size = size) {v u : Value} {n m : Nat} {xs ys : List Value} (hv : Rw e size v n xs w) (hu : So size u m ys w) (h1 : ∀ y ∈ ys, y.oneCell' = true)
    (h63 : n + m ≤ maxLen) (hbytes : (n + m) * bytes ≤ 140737488355328) :
    ∃ v' w', (Builtin.append_ #[t, t] ty #[v, u]).run P w = .ok v' w' ∧ Rw e size v' (n + m) (xs ++ ys) w' ∧ w.grownBy w' v.ownBlock ∧ At' w v v' := by
  subst hsize
  subst hby
  have hsmall : n + m ≤ 9223372036854775807 := by simp only [maxLen] at h63; omega
  have hlen : (xs ++ ys).length = (n + m) * i.size := by rw [List.length_append, hv.1, hu.1, Nat.add_mul]
  by_cases hm0 : m = 0
  · subst hm0
    have hy : ys = [] := List.eq_nil_of_length_eq_zero (by simpa using hu.1)
    subst hy
    obtain ⟨a, c, rfl, hnc, _⟩ := hv.form
    rw [List.append_nil, Nat.add_zero]
    have hs : Src P i.size t u 0 [] w := by
      rcases hu.2 with ⟨_, a', c', rfl⟩ | ⟨a', c', rfl, hc⟩
      · cases a' with
        | none => exact Src.ofNil w ht c'
        | some a' => exact Src.ofSlice w ht a' 0 c' [] (by simp) (fun j u h => by simp at h) (fun u h => by simp at h)
      · exact Src.ofSlice w ht a' 0 c' [] (by simp) (fun j u h => by simp at h) (fun u h => by simp at h)
    exact ⟨_, w, run_append_nothing w t t ty e i ht hi a n c hnc u hs, hv, ⟨rfl, rfl, rfl, Nat.le_refl _, fun _ _ _ => rfl⟩, At'.refl _ _⟩
  · obtain ⟨a, c, rfl, hnews⟩ : ∃ a c, u = .slice (some a) m c ∧ ∀ j x, ys[j]? = some x → w.cell? (a.add j) = some x := by
      rcases hu.2 with ⟨q, _⟩ | q
      · exact absurd q hm0
      · exact q
    have grown : ∀ (old : Nat) (row : Option Nat),
        Rw e i.size (.slice (some ⟨w.heap.size, 0, none⟩) (n + m) (grownCap w (n + m) old e)) (n + m) (xs ++ ys) (w.drew.alloc (.cells (xs.toArray ++ ys.toArray ++ Builtin.zeroCells z.cells (grownCap w (n + m) old e - (n + m))) e)) ∧
        w.grownBy (w.drew.alloc (.cells (xs.toArray ++ ys.toArray ++ Builtin.zeroCells z.cells (grownCap w (n + m) old e - (n + m))) e)) row := by
      intro old row
      have hge := grownCap_ge w (n + m) old e
      have hcm : grownCap w (n + m) old e ≤ maxLen := grownCap_le_maxLen w (n + m) old e h63
      refine ⟨⟨hlen, .inr ⟨w.heap.size, _, _, rfl, heap_alloc_new w.drew _, hge, hcm, ?_, ?_⟩⟩, ⟨rfl, rfl, rfl, by simp, fun k hk _ => heap_alloc_old w.drew _ hk⟩⟩
      · simp only [Array.size_append, List.size_toArray, size_zeroCells, hzs, hv.1, hu.1, ← Nat.add_mul]
        exact Nat.mul_le_mul_right _ (by omega)
      · simp only [Array.toList_append, List.append_assoc]
        rw [← List.append_assoc, ← hlen]
        exact List.take_left
    rcases hv.2 with ⟨rfl, rfl⟩ | ⟨g, cap, cur, rfl, hg, hnc, hcm, hcs, htake⟩
    · have hx : xs = [] := List.eq_nil_of_length_eq_zero (by simpa using hv.1)
      subst hx
      have hr := run_append_nil (P := P) w t ty e i z ht hi hz a m c ys hu.1 hnews (by omega) (by omega) (by have hb := hbytes; simp only [Nat.zero_add] at hb; omega)
      have hgr := grown 0 (Value.ownBlock (.slice none 0 0))
      simp only [Nat.zero_add, List.nil_append, Array.empty_append] at hgr ⊢
      exact ⟨_, _, hr, hgr.1, hgr.2, fun k hk => .inr (by cases hk; exact Nat.le_refl _)⟩
    · by_cases hroom : n + m ≤ cap
      · have hfit : n * i.size + ys.length ≤ cur.size := by rw [hu.1, ← Nat.add_mul]; exact Nat.le_trans (Nat.mul_le_mul_right _ hroom) hcs
        have hr := run_append_room (P := P) w t ty e i ht hi g n cap cur hg a m c ys hu.1 hnews h1 hroom hfit
        refine ⟨_, _, hr, ⟨hlen, .inr ⟨g, cap, _, rfl, setRow_heap w g cur _ e _ hg, hroom, hcm, ?_, ?_⟩⟩, ⟨rfl, rfl, rfl, by simp, fun k _ hk => setRow_other w g k _ (fun e => hk (by simp [Value.ownBlock, e]))⟩, fun k hk => .inl hk⟩
        · simp only [List.size_toArray, List.length_append, List.length_take, List.length_drop, Array.length_toList]
          omega
        · rw [htake, ← hlen]
          exact List.take_left
      · have holds : ∀ j u, xs[j]? = some u → w.cell? ((⟨g, 0, none⟩ : Addr).add j) = some u := fun j u hj => by rw [Addr.add_lit]; exact hv.cells j u hj
        have hr := run_append_grow (P := P) w t ty e i z ht hi hz ⟨g, 0, none⟩ n cap xs hv.1 holds a m c ys hu.1 hnews (by omega) (by omega) (growslice_fits (by omega) hbytes)
        have hgr := grown cap (Value.ownBlock (.slice (some ⟨g, 0, none⟩) n cap))
        exact ⟨_, _, hr, hgr.1, hgr.2, fun k hk => .inr (by cases hk; exact Nat.le_refl _)⟩

/-- append, at the operation. -/
theorem opw_app {P : Program} {K : Act → World → Prop} {o : Oper} {A : Act} {w : World} {Q : Exit → Act → World → Prop} (s x : Operand) (t : TypeId) (ho : o.op = .call { callee := .builtin .append, args := #[s, x], argTypes := #[t, t] })
    (e : TypeId) (i : TypeInfo) (z : Value) (size bytes : Nat) (ht : P.underlying t = some (.slice e)) (hi : P.info? e = some i) (hz : i.zero = some z) (hsize : i.size = size) (hby : i.bytes = bytes) (hzs : z.cells.size = size)
    {v u : Value} {n m : Nat} {xs ys : List Value} (hs : A.eval s = v) (hx : A.eval x = u) (hv : Rw e size v n xs w) (hu : So size u m ys w) (h1 : ∀ y ∈ ys, y.oneCell' = true) (h63 : n + m ≤ maxLen) (hbytes : (n + m) * bytes ≤ 140737488355328)
    (k : ∀ v' w', Rw e size v' (n + m) (xs ++ ys) w' → w.grownBy w' v.ownBlock → At' w v v' → K (A.put o.dst v') w') : o.wp P A w K Q := by
  obtain ⟨v', w', hr, h2, h3, h4⟩ := run_app (P := P) w t o.type e i z size bytes ht hi hz hsize hby hzs hv hu h1 h63 hbytes
  unfold Oper.wp execOp
  simp only [ho, resolve, invoke, builtin, Sem.run_bind, Sem.run_pure, Result.andThen_ok, List.map_toArray, List.map_cons, List.map_nil, hs, hx, hr]
  exact k v' w' h2 h3 h4
/-- append, in a walk. -/
theorem wpL_app {P : Program} {ops : Array Oper} {rest : List Oper} {o : Oper} {A : Act} {w : World} {Q : Exit → Act → World → Prop} (hgd : o.guard = none) (s x : Operand) (t : TypeId) (ho : o.op = .call { callee := .builtin .append, args := #[s, x], argTypes := #[t, t] })
    (e : TypeId) (i : TypeInfo) (z : Value) (size bytes : Nat) (ht : P.underlying t = some (.slice e)) (hi : P.info? e = some i) (hz : i.zero = some z) (hsize : i.size = size) (hby : i.bytes = bytes) (hzs : z.cells.size = size)
    {v u : Value} {n m : Nat} {xs ys : List Value} (hs : A.eval s = v) (hx : A.eval x = u) (hv : Rw e size v n xs w) (hu : So size u m ys w) (h1 : ∀ y ∈ ys, y.oneCell' = true) (h63 : n + m ≤ maxLen) (hbytes : (n + m) * bytes ≤ 140737488355328)
    (k : ∀ v' w', Rw e size v' (n + m) (xs ++ ys) w' → w.grownBy w' v.ownBlock → At' w v v' → wpList P ops Q rest (A.put o.dst v') w') : wpList P ops Q (o :: rest) A w :=
  wpList_plain hgd fun _ hK => opw_app s x t ho e i z size bytes ht hi hz hsize hby hzs hs hx hv hu h1 h63 hbytes fun v' w' q1 q2 q3 => hK _ _ (k v' w' q1 q2 q3)
theorem RowAt.grow {b : Nat} {cs : Array Value} {t : TypeId} {w w' : World} {row : Option Nat} (h : RowAt b cs t w) (g : w.grownBy w' row) (hn : ¬ row = some b) : RowAt b cs t w' := (g.block b h.lt (fun e => hn e.symm)).trans h
theorem Rw.grow {e : TypeId} {size : Nat} {v : Value} {n : Nat} {xs : List Value} {row : Option Nat} {w w' : World} (h : Rw e size v n xs w) (g : w.grownBy w' row) (hn : ∀ k, v.ownBlock = some k → ¬ row = some k) : Rw e size v n xs w' :=
  h.ch (S := fun k => row = some k) ⟨g.os, g.tape, g.output, g.size, fun k hk q => g.block k hk (fun e => q e.symm)⟩ hn
theorem grown_ch {w w' : World} {row : Option Nat} (g : w.grownBy w' row) : Ch (fun k => row = some k) w w' := ⟨g.os, g.tape, g.output, g.size, fun k hk q => g.block k hk (fun e => q e.symm)⟩
theorem grown_later {a b c : World} {row : Option Nat} (g : a.grownBy b row) (h : Below b.heap.size b c) : a.grownBy c row := ⟨h.os.trans g.os, h.tape.trans g.tape, h.output.trans g.output, Nat.le_trans g.size h.size, fun k hk q => (h.block k (Nat.lt_of_lt_of_le hk g.size)).trans (g.block k hk q)⟩
theorem grown_of {a b : World} {row : Option Nat} (h : Below a.heap.size a b) : a.grownBy b row := ⟨h.os, h.tape, h.output, h.size, fun k hk _ => h.block k hk⟩
theorem grown_first {a b c : World} {row : Option Nat} (h : Below a.heap.size a b) (g : b.grownBy c row) : a.grownBy c row := ⟨g.os.trans h.os, g.tape.trans h.tape, g.output.trans h.output, Nat.le_trans h.size g.size, fun k hk q => (g.block k (Nat.lt_of_lt_of_le hk h.size) q).trans (h.block k hk)⟩
end Go.Proofs.YteffpnjgchihpaaGreatDoor
