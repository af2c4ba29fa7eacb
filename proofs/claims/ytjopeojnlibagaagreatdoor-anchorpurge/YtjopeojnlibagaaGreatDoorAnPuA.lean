
/-
  Rows of one's own whose block may have more room than the slice says; append to them; worlds in which some blocks have turned. A drawn region whose changes come last: a slot that only its tail writes is as it was. Purge of a Model with its ranks. Rows of anchors and of numbers that are one's own; append to an empty row. barrowlaw13.AnchorPurge.
-/
import Derived.Test.YtjopeojnlibagaaGreatDoorInvT
import Derived.Test.YtjopeojnlibagaaGreatDoorTrBase
import Derived.Laws.AppendOwn
import Derived.Lib.SlFresh
import Derived.Deep.Upon
import Derived.Deep.MidRow
import Derived.Test.YtjopeojnlibagaaGreatDoorAnA
import Derived.Test.YtjopeojnlibagaaGreatDoorPuAz
import Derived.Deep.CutRange
namespace Go.Proofs.YtjopeojnlibagaaGreatDoor
open Go.RowKit
set_option maxRecDepth 100000

/-- Nothing that was there has turned but the blocks of S. -/
structure Ch (S : Nat → Prop) (w w' : World) : Prop where
  os : w'.os = w.os
  tape : w'.tape = w.tape
  output : w'.output = w.output
  size : w.heap.size ≤ w'.heap.size
  block : ∀ k, k < w.heap.size → ¬ S k → w'.heap[k]? = w.heap[k]?
theorem Ch.refl (S : Nat → Prop) (w : World) : Ch S w w := ⟨rfl, rfl, rfl, Nat.le_refl _, fun _ _ _ => rfl⟩
theorem Ch.of {S : Nat → Prop} {w w' : World} (h : Below w.heap.size w w') : Ch S w w' := ⟨h.os, h.tape, h.output, h.size, fun k hk _ => h.block k hk⟩
theorem Ch.go {S S' : Nat → Prop} {a b c : World} (h : Ch S a b) (k : Ch S' b c) (hs : ∀ s, S' s → S s ∨ a.heap.size ≤ s) : Ch S a c :=
  ⟨k.os.trans h.os, k.tape.trans h.tape, k.output.trans h.output, Nat.le_trans h.size k.size, fun i hi hn => (k.block i (Nat.lt_of_lt_of_le hi h.size) (fun hm => (hs i hm).elim hn (fun hle => by omega))).trans (h.block i hi hn)⟩
theorem Ch.trans {S : Nat → Prop} {a b c : World} (h : Ch S a b) (k : Ch S b c) : Ch S a c := h.go k (fun _ q => .inl q)
theorem Ch.later {S : Nat → Prop} {a b c : World} (h : Ch S a b) (k : Below b.heap.size b c) : Ch S a c := h.trans (.of k)
theorem Ch.mono {S S' : Nat → Prop} {a b : World} (h : Ch S a b) (hs : ∀ s, S s → S' s ∨ a.heap.size ≤ s) : Ch S' a b :=
  ⟨h.os, h.tape, h.output, h.size, fun i hi hn => h.block i hi fun hm => (hs i hm).elim hn (fun hle => by omega)⟩
theorem Ch.grown {S : Nat → Prop} {a w w' : World} {row : Option Nat} (h : Ch S a w) (hg : w.grownBy w' row) (hr : ∀ k, row = some k → S k ∨ a.heap.size ≤ k) : Ch S a w' :=
  h.go (S' := fun k => row = some k) ⟨hg.os, hg.tape, hg.output, hg.size, fun k hk hn => hg.block k hk (fun e => hn e.symm)⟩ hr
theorem Ch.set {S : Nat → Prop} {a w : World} (h : Ch S a w) {p : Addr} (hp : S p.block ∨ a.heap.size ≤ p.block) (v : Value) : Ch S a (w.setCell p v) :=
  ⟨h.os, h.tape, h.output, by simpa [World.setCell] using h.size, fun k hk hn => (Below.heap_setCell _ _ _ _ (fun e => by subst e; exact hp.elim hn (fun hle => by omega))).trans (h.block k hk hn)⟩
theorem Ch.cells {S : Nat → Prop} {a : World} {g : Nat} (hp : S g ∨ a.heap.size ≤ g) : ∀ (vs : List Value) (o_ : Nat) (w : World), Ch S a w → Ch S a (w.setCells g o_ vs)
  | [], _, _, h => h
  | v :: r, o_, _, h => Ch.cells hp r (o_ + 1) _ (h.set (p := ⟨g, o_, none⟩) hp v)
theorem Ch.row {S : Nat → Prop} {a w : World} (h : Ch S a w) {g : Nat} (hp : S g ∨ a.heap.size ≤ g) (c : Array Value) : Ch S a (w.setRow g c) :=
  ⟨h.os, h.tape, h.output, by simpa using h.size, fun k hk hn => (setRow_other w g k c (fun e => by subst e; exact hp.elim hn (fun hle => by omega))).trans (h.block k hk hn)⟩
theorem Ch.below {S : Nat → Prop} {w w' : World} {n : Nat} (h : Ch S w w') (hS : ∀ s, s < n → ¬ S s) (hn : n ≤ w.heap.size) : Below n w w' :=
  ⟨h.os, h.tape, h.output, h.size, fun k hk => h.block k (Nat.lt_of_lt_of_le hk hn) (hS k hk)⟩
theorem Ch.none {S : Nat → Prop} {w w' : World} (h : Ch S w w') (hS : ∀ s, s < w.heap.size → ¬ S s) : Below w.heap.size w w' := h.below hS (Nat.le_refl _)
theorem Ch.ofBelow {w w' : World} {n : Nat} (h : Below n w w') : Ch (fun k => n ≤ k) w w' := ⟨h.os, h.tape, h.output, h.size, fun k _ q => h.block k (by omega)⟩
theorem Ch.heap {S : Nat → Prop} {w w' : World} (h : Ch S w w') {b : Nat} {o : Obj} (hb : w.heap[b]? = some o) (hn : ¬ S b) : w'.heap[b]? = some o := by rw [h.block b (Array.getElem?_eq_some_iff.1 hb).1 hn]; exact hb
theorem RowAt.ch {S : Nat → Prop} {w w' : World} {b : Nat} {cs : Array Value} {t : TypeId} (h : RowAt b cs t w) (c : Ch S w w') (hn : ¬ S b) : RowAt b cs t w' := c.heap h hn
theorem CsIn.ch {S : Nat → Prop} {b off : Nat} {cs : Array Value} {w w' : World} (h : CsIn b off cs w) (c : Ch S w w') (hn : ¬ S b) : CsIn b off cs w' :=
  ⟨Nat.lt_of_lt_of_le h.1 c.size, fun j v hv => by rw [World.cell?_of_block (w := w) (c.block b h.1 hn)]; exact h.2 j v hv⟩

/-- A row of one's own: n things of so many cells, from the front of a block on. -/
def Rw (e : TypeId) (size : Nat) (v : Value) (n : Nat) (xs : List Value) (w : World) : Prop :=
  xs.length = n * size ∧ ((v = .slice none 0 0 ∧ n = 0) ∨ ∃ g cap cur, v = .slice (some ⟨g, 0, none⟩) n cap ∧ w.heap[g]? = some (.cells cur e (0, 0)) ∧ n ≤ cap ∧ cap ≤ maxLen ∧ cap * size ≤ cur.size ∧ cur.toList.take (n * size) = xs)
theorem Rw.lt {e : TypeId} {size : Nat} {v : Value} {n : Nat} {xs : List Value} {w : World} (h : Rw e size v n xs w) : ∀ k, v.ownBlock = some k → k < w.heap.size := fun k hk => by
  rcases h.2 with ⟨rfl, _⟩ | ⟨g, cap, cur, rfl, hg, _⟩
  · cases hk
  · cases hk
    exact (Array.getElem?_eq_some_iff.1 hg).1
theorem Rw.ch {e : TypeId} {size : Nat} {v : Value} {n : Nat} {xs : List Value} {S : Nat → Prop} {w w' : World} (h : Rw e size v n xs w) (c : Ch S w w') (hn : ∀ k, v.ownBlock = some k → ¬ S k) : Rw e size v n xs w' := by
  refine ⟨h.1, ?_⟩
  rcases h.2 with h | ⟨g, cap, cur, rfl, hg, r⟩
  · exact .inl h
  · exact .inr ⟨g, cap, cur, rfl, c.heap hg (hn g rfl), r⟩
theorem Rw.later {e : TypeId} {size : Nat} {v : Value} {n : Nat} {xs : List Value} {w w' : World} (h : Rw e size v n xs w) (hb : Below w.heap.size w w') : Rw e size v n xs w' :=
  h.ch (S := fun _ => False) (Ch.of hb) (fun _ _ q => q)
theorem Rw.form {e : TypeId} {size : Nat} {v : Value} {n : Nat} {xs : List Value} {w : World} (h : Rw e size v n xs w) : ∃ a c, v = .slice a n c ∧ n ≤ c ∧ c ≤ maxLen := by
  rcases h.2 with ⟨rfl, rfl⟩ | ⟨g, cap, cur, rfl, _, h1, h2, _⟩
  · exact ⟨_, _, rfl, Nat.le_refl _, Nat.zero_le _⟩
  · exact ⟨_, _, rfl, h1, h2⟩
theorem Rw.nil (e : TypeId) (size : Nat) (w : World) : Rw e size (.slice none 0 0) 0 [] w := ⟨by simp, .inl ⟨rfl, rfl⟩⟩
theorem Rw.cells {e : TypeId} {size : Nat} {n g c : Nat} {o : Nat} {xs : List Value} {w : World} (h : Rw e size (.slice (some ⟨g, o, none⟩) n c) n xs w) : ∀ j u, xs[j]? = some u → w.cell? ⟨g, o + j, none⟩ = some u := fun j u hj => by
  rcases h.2 with ⟨q, _⟩ | ⟨g', cap, cur, q, hg, _, _, _, ht⟩
  · cases q
  · cases q
    rw [Nat.zero_add, cell_of_row w g j cur e (0, 0) hg]
    rw [← ht, List.getElem?_take] at hj
    split at hj
    · simpa using hj
    · cases hj
/-- Where a new row of one's own lies. -/
def At' (w : World) (v v' : Value) : Prop := ∀ k, v'.ownBlock = some k → v.ownBlock = some k ∨ w.heap.size ≤ k
theorem At'.refl (w : World) (v : Value) : At' w v v := fun _ h => .inl h
theorem At'.trans {w w' : World} {a b c : Value} (h : At' w a b) (k : At' w' b c) (hs : w.heap.size ≤ w'.heap.size) : At' w a c := fun i hi => (k i hi).elim (h i) (fun q => .inr (by omega))

/-- What append takes. -/
def So (size : Nat) (u : Value) (m : Nat) (ys : List Value) (w : World) : Prop :=
  ys.length = m * size ∧ ((m = 0 ∧ ∃ a c, u = .slice a 0 c) ∨ ∃ a c, u = .slice (some a) m c ∧ ∀ j x, ys[j]? = some x → w.cell? (a.add j) = some x)
theorem Rw.so {e : TypeId} {size : Nat} {v : Value} {n : Nat} {xs : List Value} {w : World} (h : Rw e size v n xs w) : So size v n xs w := by
  refine ⟨h.1, ?_⟩
  have h0 := h
  rcases h.2 with ⟨rfl, rfl⟩ | ⟨g, cap, cur, rfl, hg, _⟩
  · exact .inl ⟨rfl, _, _, rfl⟩
  · exact .inr ⟨_, _, rfl, fun j u hj => by rw [Addr.add_lit]; exact h0.cells j u hj⟩

theorem run_app {P : Program} (w : World) (t ty e : TypeId) (i : TypeInfo) (z : Value) (size bytes : Nat) (ht : P.underlying t = some (.slice e)) (hi : P.info? e = some i) (hz : i.zero = some z)
    (hsize : i.size = size) (hby : i.bytes = bytes) (hzs : z.cells.size = size) {v u : Value} {n m : Nat} {xs ys : List Value} (hv : Rw e size v n xs w) (hu : So size u m ys w) (h1 : ∀ y ∈ ys, y.oneCell' = true)
    (h63 : n + m ≤ maxLen) (hbytes : (n + m) * bytes ≤ 140737488355328) :
    ∃ v' w', (Builtin.append_ #[t, t] ty #[v, u]).run P w = .ok v' w' ∧ Rw e size v' (n + m) (xs ++ ys) w' ∧ w.grownBy w' v.ownBlock ∧ At' w v v' := by
  subst hsize
  subst hby
  have hsmall : n + m ≤ 9223372036854775807 := by simp only [maxLen] at h63; omega
  have hlen : (xs ++ ys).length = (n + m) * i.size := by rw [List.length_append, hv.1, hu.1, Nat.add_mul]
  by_cases hm0 : m = 0
  · subst hm0
    have hy : ys = [] := List.eq_nil_of_length_eq_zero (by simpa using hu.1)
    subst hy
    obtain ⟨a, c, rfl, hnc, _⟩ := hv.form
    rw [List.append_nil, Nat.add_zero]
    have hs : Src P i.size t u 0 [] w := by
      rcases hu.2 with ⟨_, a', c', rfl⟩ | ⟨a', c', rfl, hc⟩
      · cases a' with
        | none => exact Src.ofNil w ht c'
        | some a' => exact Src.ofSlice w ht a' 0 c' [] (by simp) (fun j u h => by simp at h) (fun u h => by simp at h)
      · exact Src.ofSlice w ht a' 0 c' [] (by simp) (fun j u h => by simp at h) (fun u h => by simp at h)
    exact ⟨_, w, run_append_nothing w t t ty e i ht hi a n c hnc u hs, hv, ⟨rfl, rfl, rfl, Nat.le_refl _, fun _ _ _ => rfl⟩, At'.refl _ _⟩
  · obtain ⟨a, c, rfl, hnews⟩ : ∃ a c, u = .slice (some a) m c ∧ ∀ j x, ys[j]? = some x → w.cell? (a.add j) = some x := by
      rcases hu.2 with ⟨q, _⟩ | q
      · exact absurd q hm0
      · exact q
    have grown : ∀ (old : Nat) (row : Option Nat),
        Rw e i.size (.slice (some ⟨w.heap.size, 0, none⟩) (n + m) (grownCap w (n + m) old e)) (n + m) (xs ++ ys) (w.drew.alloc (.cells (xs.toArray ++ ys.toArray ++ Builtin.zeroCells z.cells (grownCap w (n + m) old e - (n + m))) e)) ∧
        w.grownBy (w.drew.alloc (.cells (xs.toArray ++ ys.toArray ++ Builtin.zeroCells z.cells (grownCap w (n + m) old e - (n + m))) e)) row := by
      intro old row
      have hge := grownCap_ge w (n + m) old e
      have hcm : grownCap w (n + m) old e ≤ maxLen := grownCap_le_maxLen w (n + m) old e h63
      refine ⟨⟨hlen, .inr ⟨w.heap.size, _, _, rfl, heap_alloc_new w.drew _, hge, hcm, ?_, ?_⟩⟩, ⟨rfl, rfl, rfl, by simp, fun k hk _ => heap_alloc_old w.drew _ hk⟩⟩
      · simp only [Array.size_append, List.size_toArray, size_zeroCells, hzs, hv.1, hu.1, ← Nat.add_mul]
        exact Nat.mul_le_mul_right _ (by omega)
      · simp only [Array.toList_append, List.append_assoc]
        rw [← List.append_assoc, ← hlen]
        exact List.take_left
    rcases hv.2 with ⟨rfl, rfl⟩ | ⟨g, cap, cur, rfl, hg, hnc, hcm, hcs, htake⟩
    · have hx : xs = [] := List.eq_nil_of_length_eq_zero (by simpa using hv.1)
      subst hx
      have hr := run_append_nil (P := P) w t ty e i z ht hi hz a m c ys hu.1 hnews (by omega) (by omega) (by have hb := hbytes; simp only [Nat.zero_add] at hb; omega)
      have hgr := grown 0 (Value.ownBlock (.slice none 0 0))
      simp only [Nat.zero_add, List.nil_append, Array.empty_append] at hgr ⊢
      exact ⟨_, _, hr, hgr.1, hgr.2, fun k hk => .inr (by cases hk; exact Nat.le_refl _)⟩
    · by_cases hroom : n + m ≤ cap
      · have hfit : n * i.size + ys.length ≤ cur.size := by rw [hu.1, ← Nat.add_mul]; exact Nat.le_trans (Nat.mul_le_mul_right _ hroom) hcs
        have hr := run_append_room (P := P) w t ty e i ht hi g n cap cur hg a m c ys hu.1 hnews h1 hroom hfit
        refine ⟨_, _, hr, ⟨hlen, .inr ⟨g, cap, _, rfl, setRow_heap w g cur _ e _ hg, hroom, hcm, ?_, ?_⟩⟩, ⟨rfl, rfl, rfl, by simp, fun k _ hk => setRow_other w g k _ (fun e => hk (by simp [Value.ownBlock, e]))⟩, fun k hk => .inl hk⟩
        · simp only [List.size_toArray, List.length_append, List.length_take, List.length_drop, Array.length_toList]
          omega
        · rw [htake, ← hlen]
          exact List.take_left
      · have holds : ∀ j u, xs[j]? = some u → w.cell? ((⟨g, 0, none⟩ : Addr).add j) = some u := fun j u hj => by rw [Addr.add_lit]; exact hv.cells j u hj
        have hr := run_append_grow (P := P) w t ty e i z ht hi hz ⟨g, 0, none⟩ n cap xs hv.1 holds a m c ys hu.1 hnews (by omega) (by omega) (growslice_fits (by omega) hbytes)
        have hgr := grown cap (Value.ownBlock (.slice (some ⟨g, 0, none⟩) n cap))
        exact ⟨_, _, hr, hgr.1, hgr.2, fun k hk => .inr (by cases hk; exact Nat.le_refl _)⟩

/-- append, at the operation. -/
theorem opw_app {P : Program} {K : Act → World → Prop} {o : Oper} {A : Act} {w : World} {Q : Exit → Act → World → Prop} (s x : Operand) (t : TypeId) (ho : o.op = .call { callee := .builtin .append, args := #[s, x], argTypes := #[t, t] })
    (e : TypeId) (i : TypeInfo) (z : Value) (size bytes : Nat) (ht : P.underlying t = some (.slice e)) (hi : P.info? e = some i) (hz : i.zero = some z) (hsize : i.size = size) (hby : i.bytes = bytes) (hzs : z.cells.size = size)
    {v u : Value} {n m : Nat} {xs ys : List Value} (hs : A.eval s = v) (hx : A.eval x = u) (hv : Rw e size v n xs w) (hu : So size u m ys w) (h1 : ∀ y ∈ ys, y.oneCell' = true) (h63 : n + m ≤ maxLen) (hbytes : (n + m) * bytes ≤ 140737488355328)
    (k : ∀ v' w', Rw e size v' (n + m) (xs ++ ys) w' → w.grownBy w' v.ownBlock → At' w v v' → K (A.put o.dst v') w') : o.wp P A w K Q := by
  obtain ⟨v', w', hr, h2, h3, h4⟩ := run_app (P := P) w t o.type e i z size bytes ht hi hz hsize hby hzs hv hu h1 h63 hbytes
  unfold Oper.wp execOp
  simp only [ho, resolve, invoke, builtin, Sem.run_bind, Sem.run_pure, Result.andThen_ok, List.map_toArray, List.map_cons, List.map_nil, hs, hx, hr]
  exact k v' w' h2 h3 h4
/-- append, in a walk. -/
theorem wpL_app {P : Program} {ops : Array Oper} {rest : List Oper} {o : Oper} {A : Act} {w : World} {Q : Exit → Act → World → Prop} (hgd : o.guard = none) (s x : Operand) (t : TypeId) (ho : o.op = .call { callee := .builtin .append, args := #[s, x], argTypes := #[t, t] })
    (e : TypeId) (i : TypeInfo) (z : Value) (size bytes : Nat) (ht : P.underlying t = some (.slice e)) (hi : P.info? e = some i) (hz : i.zero = some z) (hsize : i.size = size) (hby : i.bytes = bytes) (hzs : z.cells.size = size)
    {v u : Value} {n m : Nat} {xs ys : List Value} (hs : A.eval s = v) (hx : A.eval x = u) (hv : Rw e size v n xs w) (hu : So size u m ys w) (h1 : ∀ y ∈ ys, y.oneCell' = true) (h63 : n + m ≤ maxLen) (hbytes : (n + m) * bytes ≤ 140737488355328)
    (k : ∀ v' w', Rw e size v' (n + m) (xs ++ ys) w' → w.grownBy w' v.ownBlock → At' w v v' → wpList P ops Q rest (A.put o.dst v') w') : wpList P ops Q (o :: rest) A w :=
  wpList_plain hgd fun _ hK => opw_app s x t ho e i z size bytes ht hi hz hsize hby hzs hs hx hv hu h1 h63 hbytes fun v' w' q1 q2 q3 => hK _ _ (k v' w' q1 q2 q3)
theorem RowAt.grow {b : Nat} {cs : Array Value} {t : TypeId} {w w' : World} {row : Option Nat} (h : RowAt b cs t w) (g : w.grownBy w' row) (hn : ¬ row = some b) : RowAt b cs t w' := (g.block b h.lt (fun e => hn e.symm)).trans h
theorem Rw.grow {e : TypeId} {size : Nat} {v : Value} {n : Nat} {xs : List Value} {row : Option Nat} {w w' : World} (h : Rw e size v n xs w) (g : w.grownBy w' row) (hn : ∀ k, v.ownBlock = some k → ¬ row = some k) : Rw e size v n xs w' :=
  h.ch (S := fun k => row = some k) ⟨g.os, g.tape, g.output, g.size, fun k hk q => g.block k hk (fun e => q e.symm)⟩ hn
theorem grown_ch {w w' : World} {row : Option Nat} (g : w.grownBy w' row) : Ch (fun k => row = some k) w w' := ⟨g.os, g.tape, g.output, g.size, fun k hk q => g.block k hk (fun e => q e.symm)⟩
theorem grown_later {a b c : World} {row : Option Nat} (g : a.grownBy b row) (h : Below b.heap.size b c) : a.grownBy c row := ⟨h.os.trans g.os, h.tape.trans g.tape, h.output.trans g.output, Nat.le_trans g.size h.size, fun k hk q => (h.block k (Nat.lt_of_lt_of_le hk g.size)).trans (g.block k hk q)⟩
theorem grown_of {a b : World} {row : Option Nat} (h : Below a.heap.size a b) : a.grownBy b row := ⟨h.os, h.tape, h.output, h.size, fun k hk _ => h.block k hk⟩
theorem grown_first {a b c : World} {row : Option Nat} (h : Below a.heap.size a b) (g : b.grownBy c row) : a.grownBy c row := ⟨g.os.trans h.os, g.tape.trans h.tape, g.output.trans h.output, Nat.le_trans h.size g.size, fun k hk q => (g.block k (Nat.lt_of_lt_of_le hk h.size) q).trans (h.block k hk)⟩
end Go.Proofs.YtjopeojnlibagaaGreatDoor
namespace Go.Proofs.YtjopeojnlibagaaGreatDoor
open Go.RowKit
set_option maxRecDepth 100000

section
variable {P : Program} {Q : Exit → Act → World → Prop}
theorem wp_region_tailN {id : Nat} {a : Act} {X : World} {l : List Oper} (n : Nat) (hm : P.follows .mixedOrders = true) (gv : Nat → Option Bool) (hok : regOkG l.toArray a.tmps.size gv = true) (ht : tailB l.toArray n = true) (hn : n ≤ l.length)
    (R : Nat → Value → World → Prop) (F : Nat → Bool) (hgv : ∀ j v x b, gv j = some b → R j v x → v = .bool b) (stable : ∀ i v x x', R i v x → Below x.heap.size x x' → R i v x')
    (step : ∀ (i : Nat) (o : Oper), i < n → l[i]? = some o → ∀ (b : Act) (x : World) (vals : Nat → Value), Below X.heap.size X x →
      (∀ (e : Edge), e ∈ o.after → Region.binds .any e = true → ∀ (oj : Oper) (d : Tmp), l[e.on]? = some oj → oj.dst = some d → b.tmps[d]? = some (vals e.on) ∧ R e.on (vals e.on) x) →
      (∀ d : Tmp, writesB (l.take n).toArray d = false → b.tmps[d]? = a.tmps[d]?) →
      o.wp P b x (Came R F i o.dst b x) Q)
    (rest : ∀ (vals : Nat → Value) (x : World), Below X.heap.size X x → (∀ j, j < n → R j (vals j) x) → (∀ i j, i < n → j < n → i ≠ j → F i = true → F j = true → vals i ≠ vals j) →
      wpList P l.toArray Q (l.drop n) ⟨putAll vals (l.take n) 0 a.tmps, a.defers⟩ x) :
    (Code.region id l.toArray true).wp P Q a X := by
  have hsz : l.toArray.size = l.length := by simp
  refine wp_region_any hm (wpAny_inv (fun listed b x => listed.size = l.length ∧ ((∃ vals, (∀ k, n ≤ k → k < l.length → listed.getD k false = false) ∧ HeadJ l n a X R F listed vals b x) ∨ (∃ m, n ≤ m ∧ m ≤ l.length ∧ (∀ j, j < m → listed.getD j false = true) ∧ (∀ j, m ≤ j → j < l.length → listed.getD j false = false) ∧ wpList P l.toArray Q (l.drop m) b x))) ?_ ?_ _ _ _ _ (by rw [left_start]; exact Nat.le_refl _) ?_)
  · rintro listed b x i ⟨hs, hI⟩ hi
    obtain ⟨hun, o, ho, hall⟩ := mem_ready.1 hi
    have hol : l[i]? = some o := by simpa using ho
    have hil : i < l.length := (List.getElem?_eq_some_iff.1 hol).1
    have hun' : listed.getD i false = false := by
      have hx : i < listed.size := by omega
      simpa [hx] using hun
    have set_at : ∀ j, (listed.setIfInBounds i true).getD j false = if j = i then true else listed.getD j false := fun j => by
      by_cases e : j = i
      · subst e; rw [if_pos rfl]; have hx : j < listed.size := by omega
        simp [hx]
      · rw [if_neg e, getD_set_ne false (fun h => e h.symm)]
    have go_tail : ∀ m, n ≤ m → m ≤ l.length → (∀ j, j < m → listed.getD j false = true) → (∀ j, m ≤ j → j < l.length → listed.getD j false = false) → n ≤ i → wpList P l.toArray Q (l.drop m) b x →
        wpOp P l.toArray Q i (fun b' x' => (listed.setIfInBounds i true).size = l.length ∧ ((∃ vals, (∀ k, n ≤ k → k < l.length → (listed.setIfInBounds i true).getD k false = false) ∧ HeadJ l n a X R F (listed.setIfInBounds i true) vals b' x') ∨ (∃ m, n ≤ m ∧ m ≤ l.length ∧ (∀ j, j < m → (listed.setIfInBounds i true).getD j false = true) ∧ (∀ j, m ≤ j → j < l.length → (listed.setIfInBounds i true).getD j false = false) ∧ wpList P l.toArray Q (l.drop m) b' x'))) b x := by
      intro m hnm hml h1 h2 hni h
      have hw := tail_waits ht ho hni hall (fun k' hk' hl j hj => h1 j (by
        rcases Nat.lt_or_ge k' m with e | e
        · omega
        · rcases Nat.lt_or_ge k' l.length with e' | e'
          · rw [h2 k' e e'] at hl; cases hl
          · rw [Array.getD_eq_getD_getElem?, Array.getElem?_eq_none (by omega)] at hl; cases hl)) (fun e _ j hj => h1 j (by omega))
      have him : i = m := by
        rcases Nat.lt_trichotomy i m with e | e | e
        · rw [h1 i e] at hun'; cases hun'
        · exact e
        · have := hw m e
          rw [h2 m (Nat.le_refl _) (by omega)] at this; cases this
      subst him
      refine tail_step rfl hol (fun b' x' h' => ⟨by simpa using hs, .inr ⟨i + 1, by omega, by omega, fun j hj => ?_, fun j hj hjl => ?_, h'⟩⟩) h
      · rw [set_at]
        by_cases e : j = i
        · rw [if_pos e]
        · rw [if_neg e]; exact h1 j (by omega)
      · rw [set_at, if_neg (by omega)]; exact h2 j (by omega) hjl
    rcases hI with ⟨vals, htl, hJ⟩ | ⟨m, hnm, hml, h1, h2, h⟩
    · by_cases hin : i < n
      · have h := step i o hin hol b x vals hJ.below (fun e he hb oj d h1 h2 => by
          have hl := hall e he hb
          have hlt : e.on < n := Nat.lt_trans ((regOkG_at hok i o ho).2.1 e he hb) hin
          exact ⟨hJ.slots e.on oj d h1 h2 hl, hJ.rel e.on hlt hl⟩) (fun d hd => hJ.others d (fun j oj hjn hj he => by
            have hm : oj ∈ l.take n := List.mem_of_getElem? (show (l.take n)[j]? = some oj by rw [List.getElem?_take_of_lt hjn]; exact hj)
            have : writesB (l.take n).toArray d = true := Array.any_eq_true'.2 ⟨oj, by simpa using hm, by simp [he]⟩
            rw [this] at hd; cases hd))
        unfold wpOp
        simp only [ho]
        have hw : Region.wanted o (yielded l.toArray b.tmps) = true := by
          rcases (regOkG_at hok i o ho).1 with h0 | ⟨j, v, oj, d, e, h1, h2, h3, h4, h5, h6, h7⟩
          · simp [Region.wanted, h0]
          · have hl := hall e h5 h6
            have hlt : e.on < n := Nat.lt_trans ((regOkG_at hok i o ho).2.1 e h5 h6) hin
            rw [h7] at hl hlt
            have hj' : l[j]? = some oj := by simpa using h2
            have hs := hJ.slots j oj d hj' h3 hl
            have hv := hgv j _ _ v h4 (hJ.rel j hlt hl)
            rw [hv] at hs
            simp [Region.wanted, h1, yielded, hj', h3, hs]
        rw [if_pos hw]
        refine .inl (Oper.wp_mono ?_ h)
        rintro b' x' ⟨v, rfl, hb, hR, hf⟩
        refine ⟨by simpa using hs, .inl ⟨upd vals i v, fun k hk hkl => by rw [set_at, if_neg (by omega)]; exact htl k hk hkl, ?_⟩⟩
        have up_self : upd vals i v i = v := if_pos rfl
        have up_ne : ∀ {j}, j ≠ i → upd vals i v j = vals j := fun h => if_neg h
        have frp : ∀ j, j < n → j ≠ i → F j = true → (listed.setIfInBounds i true).getD j false = true → ∃ g, vals j = .pointer (some ⟨g, 0, none⟩) ∧ g < x.heap.size := fun j hj hji hF hl => by
          rw [set_at, if_neg hji] at hl
          exact hJ.fresh j hj hF hl
        refine ⟨hJ.below.trans (hb.mono hJ.below.size), ?_, ?_, ?_, ?_, ?_, ?_, ?_, ?_⟩
        · cases hdst : o.dst with
          | none => exact hJ.size
          | some d => simpa [Act.put] using hJ.size
        · cases hdst : o.dst with
          | none => exact hJ.defers
          | some d => simpa [Act.put] using hJ.defers
        · intro j oj d hj hjd hl
          by_cases hij : j = i
          · subst hij
            obtain rfl := Option.some.inj (hol.symm.trans hj)
            rw [hjd, up_self]
            have hlt := ((regOkG_at hok j o ho).2.2 d hjd).1
            have hlt' : d < b.tmps.size := by rw [hJ.size]; exact hlt
            simp [Act.put, hlt']
          · rw [set_at, if_neg hij] at hl
            have hold := hJ.slots j oj d hj hjd hl
            rw [up_ne hij]
            cases hdst : o.dst with
            | none => simpa [Act.put] using hold
            | some d' =>
              have hne : d' ≠ d := fun e => by
                subst e
                have hoj : l.toArray[j]? = some oj := by simpa using hj
                rcases Nat.lt_trichotomy i j with h | h | h
                · exact ((regOkG_at hok j oj hoj).2.2 d' hjd).2 i o h ho hdst
                · exact hij h.symm
                · exact ((regOkG_at hok i o ho).2.2 d' hdst).2 j oj h hoj hjd
              simp [Act.put, Array.getElem?_setIfInBounds_ne hne, hold]
        · intro d hnd
          have hold := hJ.others d hnd
          cases hdst : o.dst with
          | none => simpa [Act.put] using hold
          | some d' =>
            have hne : d' ≠ d := fun e => hnd i o hin hol (by rw [hdst, e])
            simp [Act.put, Array.getElem?_setIfInBounds_ne hne, hold]
        · intro j hj hl
          by_cases hij : j = i
          · subst hij; rw [up_self]; exact hR
          · rw [set_at, if_neg hij] at hl
            rw [up_ne hij]
            exact stable j _ _ _ (hJ.rel j hj hl) hb
        · intro j hj hF hl
          by_cases hij : j = i
          · subst hij
            obtain ⟨g, e1, _, e3⟩ := hf hF
            exact ⟨g, by rw [up_self]; exact e1, e3⟩
          · obtain ⟨g, e1, e2⟩ := frp j hj hij hF hl
            exact ⟨g, by rw [up_ne hij]; exact e1, Nat.lt_of_lt_of_le e2 hb.size⟩
        · intro j k hj hk hjk hFj hFk hlj hlk
          by_cases hji : j = i
          · have hki : k ≠ i := fun e => hjk (hji.trans e.symm)
            obtain ⟨g, e1, e2⟩ := frp k hk hki hFk hlk
            obtain ⟨g', e3, e4, _⟩ := hf (hji ▸ hFj)
            rw [hji, up_self, up_ne hki, e1, e3]
            intro e
            cases e
            omega
          · by_cases hki : k = i
            · obtain ⟨g, e1, e2⟩ := frp j hj hji hFj hlj
              obtain ⟨g', e3, e4, _⟩ := hf (hki ▸ hFk)
              rw [hki, up_self, up_ne hji, e1, e3]
              intro e
              cases e
              omega
            · rw [set_at, if_neg hji] at hlj
              rw [set_at, if_neg hki] at hlk
              rw [up_ne hji, up_ne hki]
              exact hJ.apart j k hj hk hjk hFj hFk hlj hlk
        · intro k ok hk hl e he hbd
          rw [set_at] at hl ⊢
          by_cases hei : e.on = i
          · rw [if_pos hei]
          · rw [if_neg hei]
            by_cases hki : k = i
            · subst hki
              obtain rfl := Option.some.inj (ho.symm.trans hk)
              exact hall e he hbd
            · rw [if_neg hki] at hl
              exact hJ.down k ok hk hl e he hbd
      · have hni : n ≤ i := by omega
        have hw := tail_waits ht ho hni hall (fun k' hk' hl j hj => by
          rcases Nat.lt_or_ge k' l.length with e' | e'
          · rw [htl k' hk' e'] at hl; cases hl
          · rw [Array.getD_eq_getD_getElem?, Array.getElem?_eq_none (by omega)] at hl; cases hl) (fun _ hA j hj => anc_listed hJ.down 24 j i o ho hall (hA j hj))
        have hhead : ∀ j, j < n → listed.getD j false = true := fun j hj => hw j (by omega)
        refine go_tail n (Nat.le_refl _) hn hhead (fun j hj hjl => htl j hj hjl) hni ?_
        have hb : b = ⟨putAll vals (l.take n) 0 a.tmps, a.defers⟩ := by
          have : putAll vals (l.take n) 0 a.tmps = b.tmps := putAll_is (l.take n) 0 _ (fun j oj d h1 h2 => by
            have hjn : j < n := by have := (List.getElem?_eq_some_iff.1 h1).1; simp at this; omega
            rw [List.getElem?_take_of_lt hjn] at h1
            rw [Nat.zero_add]; exact hJ.slots j oj d h1 h2 (hhead j hjn)) hJ.size.symm fun d => by
            by_cases e : ∃ (j : Nat) (oj : Oper), j < n ∧ l[j]? = some oj ∧ oj.dst = some d
            · obtain ⟨j, oj, hj, h1, h2⟩ := e
              exact .inr ⟨j, oj, by rw [List.getElem?_take_of_lt hj]; exact h1, h2⟩
            · exact .inl (hJ.others d fun j oj hj h1 h2 => e ⟨j, oj, hj, h1, h2⟩).symm
          rw [this, ← hJ.defers]
        rw [hb]
        exact rest vals x hJ.below (fun j hj => hJ.rel j hj (hhead j hj)) (fun i j hi hj hij h1 h2 => hJ.apart i j hi hj hij h1 h2 (hhead i hi) (hhead j hj))
    · have hni : n ≤ i := by
        rcases Nat.lt_or_ge i m with e | e
        · rw [h1 i e] at hun'; cases hun'
        · omega
      exact go_tail m hnm hml h1 h2 hni h
  · rintro listed b x ⟨hs, hI⟩ h0
    have hall : ∀ i, i < l.length → listed.getD i false = true := fun i hi => ready_nil hok (by omega) h0 i (by omega)
    rcases hI with ⟨vals, htl, hJ⟩ | ⟨m, hnm, hml, h1, h2, h⟩
    · have hnl : n = l.length := by
        rcases Nat.lt_or_ge n l.length with e | e
        · have := htl n (Nat.le_refl _) e
          rw [hall n e] at this; cases this
        · omega
      have hb : b = ⟨putAll vals (l.take n) 0 a.tmps, a.defers⟩ := by
        have : putAll vals (l.take n) 0 a.tmps = b.tmps := putAll_is (l.take n) 0 _ (fun j oj d h1 h2 => by
          have hjn : j < n := by have := (List.getElem?_eq_some_iff.1 h1).1; simp at this; omega
          rw [List.getElem?_take_of_lt hjn] at h1
          rw [Nat.zero_add]; exact hJ.slots j oj d h1 h2 (hall j (by omega))) hJ.size.symm fun d => by
          by_cases e : ∃ (j : Nat) (oj : Oper), j < n ∧ l[j]? = some oj ∧ oj.dst = some d
          · obtain ⟨j, oj, hj, h1, h2⟩ := e
            exact .inr ⟨j, oj, by rw [List.getElem?_take_of_lt hj]; exact h1, h2⟩
          · exact .inl (hJ.others d fun j oj hj h1 h2 => e ⟨j, oj, hj, h1, h2⟩).symm
        rw [this, ← hJ.defers]
      have hr := rest vals x hJ.below (fun j hj => hJ.rel j hj (hall j (by omega))) (fun i j hi hj hij h1 h2 => hJ.apart i j hi hj hij h1 h2 (hall i (by omega)) (hall j (by omega)))
      rw [← hb, hnl, List.drop_length] at hr
      exact hr
    · have hml' : m = l.length := by
        rcases Nat.lt_or_ge m l.length with e | e
        · have := h2 m (Nat.le_refl _) e
          rw [hall m e] at this; cases this
        · omega
      rw [hml', List.drop_length] at h
      exact h
  · refine ⟨by simp, .inl ⟨fun _ => undef, fun k _ _ => repl_getD _ _, ⟨(Below.refl _ _).drew, rfl, rfl, fun j oj d _ _ h => absurd ((repl_getD _ _).symm.trans h) (by decide), fun _ _ => rfl, fun j _ h => absurd ((repl_getD _ _).symm.trans h) (by decide), fun j _ _ h => absurd ((repl_getD _ _).symm.trans h) (by decide), fun i j _ _ _ _ _ h _ => absurd ((repl_getD _ _).symm.trans h) (by decide), fun k _ _ h => absurd ((repl_getD _ _).symm.trans h) (by decide)⟩⟩⟩
end
end Go.Proofs.YtjopeojnlibagaaGreatDoor
namespace Go.Proofs.YtjopeojnlibagaaGreatDoor
open Go.RowKit Go.Shelf
set_option maxRecDepth 100000
attribute [local go_sem] Oper.semAt_some

theorem rks_one {l : List El} (hap : Apart l) (hl : l.length ≤ 1000000) : Rks (rkF l l.length l.length) l 1 := by
  by_cases h0 : l.length = 0
  · have := List.eq_nil_of_length_eq_zero h0
    subst this
    exact (Rks.of hap).nil.weak (by decide)
  · refine (Rks.of hap).weak ?_
    have : 2 ≤ 4611686018427387904 / (l.length : Int) := (Int.le_ediv_iff_mul_le (by omega)).2 (by omega)
    omega
theorem mrkGrown {mb D : Nat} {l : List El} {w w' : World} {q : Option (List Deferred)} (h : Mrk mb l w) (hD : w.heap[D]? = some (.deferred q)) (g : w.grownBy w' (some D)) : Mrk mb l w' := by
  obtain ⟨tb, kb, n, R, f, h1, h2⟩ := h.ex
  have nc : ∀ (b : Nat) (cs : Array Value) (t : TypeId), RowAt b cs t w → ¬ b = D := fun b cs t hr e => by
    have hr' : w.heap[b]? = _ := hr
    rw [e, hD] at hr'
    cases hr'
  have hkD : ¬ kb = D := fun e => by
    obtain ⟨D9, ⟨es, cl, hm1, _⟩, _⟩ := h1.map
    rw [e, hD] at hm1
    cases hm1
  have hkp : Kp D w w' := Kp.of_grown g
  exact ⟨⟨tb, kb, n, R, f, ⟨h1.row.kp hkp (nc _ _ _ h1.row), h1.tree.kc (KC.of_kp hkp ⟨_, hD, rfl⟩), h1.map.kp hkp hkD, h1.no, h1.nom, Nat.le_trans h1.hi hkp.size⟩, h2⟩, h.ins, h.len⟩
set_option maxHeartbeats 4000000 in
theorem purge_rk {mb : Nat} {l : List El} {w : World} (hk : Mrk mb l w) (hl : l.length ≤ 1000000) (hgd : ∀ (i : Nat) (e : El), (liveF l)[i]? = some e → e.Good) (hap : Apart (liveF l)) :
    Calls Tryz.prog 33 #[pv mb] w fun r w' => r = .returned (.int .i64 ((l.length : Int) - (liveF l).length)) ∧ Mrk mb (liveF l) w' ∧ Kp mb w w' := by
  have hMv := hk.mv
  have h := hMv
  have hkR := hid_of' hk
  clear hk
  obtain ⟨tb, v0, R, hr, ht⟩ := h
  obtain ⟨t, hroot, htb, hA, hels⟩ := ht.root
  have hmb := hr.lt
  have hm0 : w.cell? ⟨mb, 0, none⟩ = some (.pointer (some ⟨tb, 0, none⟩)) := hr.cell 0
  refine calls_out (n := 9) fun F hF => ?_
  have hdd : ∀ k : Nat, (F.depth.isSome = true → 1 ≤ k) := fun k h => by rw [depth_wide hF] at h; cases h
  have k1 : F.fn 33 := fn_wide hF _
  have k2 : F.fn 48 := fn_wide hF _
  have k3 : F.fn 77 := fn_wide hF _
  have k4 : F.fn 63 := fn_wide hF _
  have hro := round_wide hF
  obtain ⟨i0, hi, hz0, hz1, hz2⟩ := info_parts infoEl
  have HAl := hid_of' (fun w' => modelAll_in hF 8 (some ⟨mb, 0, none⟩) w')
  have HS := hid_of' (fun (Bm : Nat) (X : World) (hX : Below w.heap.size w X) (hBm : Bm < X.heap.size) (hc : X.cell? ⟨Bm, 0, none⟩ = some (.pointer (some ⟨mb, 0, none⟩))) =>
    mall_it hF 8 (by omega) Bm mb tb (R := R) (S := fun _ => False) t w X hX hBm (Nat.lt_of_lt_of_le hmb hX.size) (Nat.lt_of_lt_of_le htb hX.size) hc ((hX.cell (p := ⟨mb, 0, none⟩) hmb).trans hm0) ((hX.cell (p := ⟨tb, 1, none⟩) htb).trans hroot) hA (fun _ h => h.elim) (by rw [hels]; omega))
  have HI := hid_of' (fun (l' : Nat) (e : El) (x : World) => CallsIn.inRound l' (calls_in (n := 6) hF (isLive_any e x)))
  have HFw := hid_of' hF
  unfold pv
  clear hF ht hm0 hroot
  refine callsIn_of_wp_marks Tryz.func33 rfl k1 ?_ hro
  simp only [Tryz.ntmps33, List.size_toArray, List.length_cons, List.length_nil, Nat.reduceAdd, Nat.reduceSub, Array.replicate_succ, Array.replicate_zero, List.push_toArray, List.append_toArray, List.nil_append, List.cons_append]
  gi_wp2_with ((try refine ⟨hdd _, ?_⟩); gi_at_call 48; refine (HAl.out _).mono ?_; clear HAl; rintro e w' ⟨rfl, rfl⟩)
  have x0 := (Boxed.new w 22 (.slice none 0 0)).alloc (.cells #[.pointer (some ⟨mb, 0, none⟩)] 25)
  have x1 := Boxed.new (w.alloc (.cells #[.slice none 0 0] 22)) 25 (.pointer (some ⟨mb, 0, none⟩))
  rw [World.size_alloc] at x1
  have hBX := below_two w (.cells #[.slice none 0 0] 22) (.cells #[.pointer (some ⟨mb, 0, none⟩)] 25)
  have hsz : ((w.alloc (.cells #[.slice none 0 0] 22)).alloc (.cells #[.pointer (some ⟨mb, 0, none⟩)] 25)).heap.size = w.heap.size + 2 := by simp
  generalize (w.alloc (.cells #[.slice none 0 0] 22)).alloc (.cells #[.pointer (some ⟨mb, 0, none⟩)] 25) = X at x0 x1 hBX hsz ⊢
  refine wpIn_rangeFunc_itA hro (by omega) (gf := 77) (lb := #[.pointer (some ⟨w.heap.size + 1, 0, none⟩)]) rfl k3 (enters_of Tryz.func77 (by kernel_rfl) rfl)
    (HS.out (w.heap.size + 1) X hBX (by omega) x1.cell) (fun h k g => k (h g)) (fun A A' hg g => g.grown hg (fun _ e => by cases e)) (fun A l' o o' _ hl hcc g => g.grown (grownBy_putObj' A l' o') (fun r e => by cases e; exact .inr (.inr ⟨o, hl, hcc⟩))) (Below.refl _ _) (fun _ => rfl)
    (PuI w) (fun _ _ _ => False) ?bears ?hIx ?h0
    (fun x b => { tmps := #[.pointer (some ⟨mb, 0, none⟩), undef, .int .i64 0, .pointer (some ⟨w.heap.size, 0, none⟩), .pointer (some ⟨b, 0, none⟩), undef, undef, undef, .pointer (some ⟨mb, 0, none⟩), .func (.func 77) #[] #[.pointer (some ⟨w.heap.size + 1, 0, none⟩)], .agg (ev x), undef, undef, undef, undef, undef, undef, undef, undef, undef, undef, undef, undef, undef, undef, undef, undef, undef, undef, undef, undef, undef, undef, undef, undef], defers := [] }) (fun x => .cells (ev x) 66)
    (fun x A => (A.alloc (.cells #[.int .i64 0, .int .i64 0, .int .i64 0, .int .i32 0, .int .i64 0] 66)).setRow A.heap.size (ev x)) ?ax ?assign ?body ?done ?stop
  case bears =>
    rintro pre O O' A A' row ⟨v, hb, hw, ho, hB⟩ hg hr hO
    have hrow : ∀ r, row = some r → r ≠ w.heap.size ∧ v.ownBlock ≠ some r := fun r e => by
      rcases (hr r e).2 with h1 | ⟨o, h1, h2⟩
      · exact ho r h1
      · exact puB hb hw h1 h2
    refine ⟨v, hb.kept hg (fun e => (hrow _ e.symm).1 rfl), ?_, fun r hr' => ?_, hB.grown hg hB.size (fun j e => ?_)⟩
    · refine World.ownsRow.kept hw hg ?_
      cases row with
      | none => exact (by cases v.ownBlock with | none => exact .inl rfl | some q => exact .inr (by simp))
      | some r => exact .inr (hrow r rfl).2
    · rcases hO r hr' with h1 | ⟨h1, _⟩
      · exact ho r h1
      · refine ⟨fun e => ?_, fun e => ?_⟩
        · have := hb.lt; omega
        · have := (hw.lt r e).2; omega
    · have := (hr j e).1
      rw [hsz] at this
      omega
  case hIx =>
    intro c pre A A' row h
    exact h.elim
  case h0 => exact ⟨_, x0, ⟨rfl, .inl ⟨rfl, rfl⟩⟩, fun _ h => h.elim, hBX⟩
  case ax =>
    intro x A
    exact ⟨grown_alloc_row, by simp, (row_new A #[.int .i64 0, .int .i64 0, .int .i64 0, .int .i32 0, .int .i64 0] 66).put (ev x)⟩
  case assign =>
    intro l' x W' K hK
    gi_wp2_with (refine wpLIn_storeE (e := x) rfl _ _ rfl rfl rfl (row_new W' _ _) ?_)
    exact hK
  case body =>
    rintro l' pre x O A b ⟨v, hbx, hw, hov, hB⟩ hpre hO hb2 hb3 hbb
    have hplen : pre.length < l.length := by
      have := hpre.length_le
      rw [hels, List.length_append, List.length_singleton] at this
      exact this
    have rE : RowAt b (ev x) 66 A := hbb
    by_cases hlv : x.hd > 0
    · have HI2 : Hid (∀ y, CallsIn (F.inRound l') 6 Tryz.prog 63 #[.agg (ev x)] y fun r w' => r = .returned (.bool false) ∧ Below y.heap.size y w') := fun y => by
        have := HI.out l' x y
        rw [show decide (x.hd ≤ 0) = false by simp; omega] at this
        exact this
      gi_wp2_with (first | (refine wpLIn_loadE rfl _ rfl rfl rE.in ?_) | ((try refine ⟨hdd _, ?_⟩); gi_at_call 63; refine (HI2.out _).mono ?_; rintro e w2 ⟨rfl, hb4⟩))
      have hBw := bgo hB hb4
      refine ⟨(KeepsFrom.of_grownBy (below_grownV hb4) (fun _ e => by cases e)), fun r hr => ?_, fun _ => KC.of_below hBw, v, RowAt.later hbx hb4, ?_, hov, hBw⟩
      · exact hb4.block r (by have := hO r hr; omega)
      · rw [liveF_snoc_f (by omega)]; exact hw.later hb4
    · have HI2 : Hid (∀ y, CallsIn (F.inRound l') 6 Tryz.prog 63 #[.agg (ev x)] y fun r w' => r = .returned (.bool true) ∧ Below y.heap.size y w') := fun y => by
        have := HI.out l' x y
        rw [show decide (x.hd ≤ 0) = true by simp; omega] at this
        exact this
      have hvl := liveF_le pre
      obtain ⟨a5, c5, rfl⟩ := hw.form
      have hmx : maxLen = 9223372036854775807 := rfl
      have HW := hid_of' hw
      have HLn : Hid ((liveF pre).length + 1 ≤ maxLen ∧ ((liveF pre).length + 1) * i0.bytes ≤ 140737488355328) := ⟨by omega, by rw [hz2]; omega⟩
      gi_wp2_with (first | (refine wpLIn_loadE rfl _ rfl rfl rE.in ?_) | ((try refine ⟨hdd _, ?_⟩); gi_at_call 63; refine (HI2.out _).mono ?_; rintro e w2 ⟨rfl, hb4⟩; have hbx4 : Boxed w2 w.heap.size 22 (.slice a5 (liveF pre).length c5) := RowAt.later hbx hb4; have c3 := hbx4.cell; have rE2 := rE.later hb4; have hs24 := Nat.le_trans hB.size hb4.size; have hwA : Hid ((w2.alloc (.cells (ev x) 66)).ownsRow w.heap.size 66 5 (.slice a5 (liveF pre).length c5) (liveF pre).length (ecells (liveF pre))) := World.ownsRow.alloc (w := w2) (show w2.ownsRow w.heap.size 66 5 (.slice a5 (liveF pre).length c5) (liveF pre).length (ecells (liveF pre)) from HW.out.later hb4) _; have hne4 : some w.heap.size ≠ (Value.slice a5 (liveF pre).length c5).ownBlock := Boxed.not_row (hbx4.alloc (.cells (ev x) 66)) (by decide) hwA.out) | (refine wpLIn_loadE rfl _ rfl rfl rE2.in ?_; unfold ev) | (gi_at_builtin; refine wpListIn_append_own_at _ rfl _ _ 22 rfl w.heap.size 66 i0 _ 5 _ Tryz.underlying22 hi hz0 hz1 rfl rfl (by decide) _ _ _ rfl hwA.out ⟨w2.heap.size, 0, none⟩ 1 1 (ev x).toList rfl rfl (ev_cells w2 x) (by simp [ev, Value.oneCell']) HLn.out.1 HLn.out.2 (by rw [World.size_alloc]; omega) ?_; intro v' w3 hown3 hgr3 _ hat3; obtain ⟨a6, c6, rfl⟩ := rowForm hown3; have hbx3 := (hbx4.alloc (.cells (ev x) 66)).kept hgr3 hne4; have d0 := hbx3.cell; have f0 := hbx3.frozen))
      obtain ⟨v', hv'⟩ : ∃ v', v' = Value.slice a6 ((liveF pre).length + 1) c6 := ⟨_, rfl⟩
      rw [← hv'] at hown3 hat3 ⊢
      have hsA := hb4.size
      have hO4 := HW.out.later hb4
      have hnb : ∀ k, (Value.slice a5 (liveF pre).length c5).ownBlock = some k → w.heap.size ≤ k := fun k e => (hO4.lt k e).1
      have hB3 := ((bgo hB hb4).alloc hs24 (.cells (ev x) 66)).grown hgr3 (by rw [World.size_alloc]; omega) hnb
      have hB2 := hB3.setCell (p := ⟨w.heap.size, 0, none⟩) (Nat.le_refl _) v'
      have same : ∀ r, r < A.heap.size → r ≠ w.heap.size → (Value.slice a5 (liveF pre).length c5).ownBlock ≠ some r → (w3.setCell ⟨w.heap.size, 0, none⟩ v').heap[r]? = A.heap[r]? := fun r h1 h2 h3 => by
        rw [Below.heap_setCell _ _ _ _ h2, hgr3.block r (by rw [World.size_alloc]; omega) (fun e => h3 e.symm), Below.heap_alloc w2 _ r (by omega), hb4.block r h1]
      refine ⟨⟨?_, fun k o _ hk ho => ?_⟩, fun r hr => ?_, fun _ => KC.of_below hB2, v', hbx3.set _, ?_, fun r hr => ?_, hB2⟩
      · have := hgr3.size
        rw [World.size_alloc] at this
        simp
        omega
      · have hz := puB hbx HW.out hk ho
        rw [same k (Array.getElem?_eq_some_iff.1 hk).1 hz.1 hz.2]
        exact hk
      · have hz := hov r hr
        exact same r (by have := hO r hr; omega) hz.1 hz.2
      · rw [liveF_snoc_t (by omega)]
        unfold OwnE
        rw [List.length_append, ecells_app]
        exact World.ownsRow.kept hown3 (grownBy_setCell' w3 _ _) (Boxed.not_rowR hbx3 hown3)
      · have hz := hov r hr
        have hy := hO r hr
        refine ⟨hz.1, fun e => ?_⟩
        rcases hat3 with h1 | h1
        · exact hz.2 (h1.symm.trans e)
        · have h2 : (w2.alloc (.cells (ev x) 66)).heap.size = r := by simpa using h1.symm.trans e
          rw [World.size_alloc] at h2
          omega
  case done =>
    rintro D O W2 hD ⟨v, hbx, hw, _, hB⟩ hK
    rw [hels] at hw
    obtain ⟨a7, c7, rfl⟩ := hw.form
    have hvl := liveF_le l
    have hF := HFw.out
    clear HS HI hdd k1 k2 k3 k4 HFw
    have HF2 := hid_of' hF
    clear hF
    gi_upto_region 6 with fail
    have hF := HF2.out
    clear HF2
    subst hF
    refine wpIn_wide.2 ?_
    have hMv2 := hMv.later hB
    have hbxR : RowAt w.heap.size #[.slice a7 (liveF l).length c7] 22 W2 := hbx
    have cb : ∀ s : Wld W2, (wOf s).cell? ⟨w.heap.size, 0, none⟩ = some (.slice a7 (liveF l).length c7) := fun s => hbxR.cls 0 _ rfl s
    have hBw := hid_of' hB
    have HW := hid_of' hw
    have HK := hid_of' hK
    have hr2 := hr.later hB
    clear hB hw hK hbx hA
    have hB : Below W2.heap.size W2 W2 := Below.refl _ _
    obtain ⟨n, hn⟩ : ∃ n, (liveF l).length = n := ⟨_, rfl⟩
    obtain ⟨m, hm⟩ : ∃ m, l.length = m := ⟨_, rfl⟩
    have HN : Hid (∀ x, Below W2.heap.size W2 x → Calls Tryz.prog 47 #[.pointer (some ⟨mb, 0, none⟩)] x fun r w' => r = .returned (.int .i64 (m : Int)) ∧ w' = x) := fun x hx => by rw [← hm]; exact lenMv_ok (hMv2.later hx)
    rw [hn] at hbxR cb
    rw [hn, hm] at hvl
    rw [hm] at hl
    have hnm : Hid ((liveF l).length = n ∧ l.length = m) := ⟨hn, hm⟩
    clear hn hm
    go_upto_region 6 with fail
    refine wp_region_cls (by kernel_rfl) (by kernel_rfl) ?_
    repeat (first | go_big_quiet_skip | (go_big_quiet_want; first | (go_big_quiet_op; first | go_big_quiet_on | go_big_quiet_call ((go_at_call 47; exact cls_of_same (HN.out _ (wOf_below _)))))))
    refine wpQuiet_nil ?_
    rintro w1 ⟨s1, e1⟩
    have hb1 := wOf_below s1
    rw [← e1] at hb1
    clear e1 s1
    replace hbxR := hbxR.later hb1
    replace hB := bgo hB hb1
    clear hb1
    rename_i hkont
    refine hkont _ _ ?_
    refine wpIn_wide.2 ?_
    clear hkont HN cb
    have hW1 := HW.out.later hB
    have hK1 : w1.heap[D]? = some (.deferred (some [])) := (hB.block D (Array.getElem?_eq_some_iff.1 HK.out).1).trans HK.out
    have hBw1 := bgo hBw.out hB
    have cb := hbxR.cell 0
    have hMv1 := hMv.later hBw1
    have hDw : w.heap.size ≤ D := by omega
    have hP := hr2.later hB
    clear HW HK hBw hB hr2 hMv2
    by_cases hlt : n < m
    · have h0 : 0 < (m : Int) - (n : Int) := by omega
      have HO := hid_of' (of_okX hW1.sl (by have := hnm.out.1; omega) hgd hap)
      rw [hnm.out.1] at HO
      unfold pv at HO
      go_wp2_with (first | (go_at_call 34; refine HO.out.mono ?_; rintro r w2 ⟨mb', tb', kb', n', R', _, hno, rfl, z1, z2, z3, hMd, hb2⟩; clear HO; have hP2 := hP.later hb2; have hM2 : RowAt mb' #[.pointer (some ⟨tb', 0, none⟩), .map (some kb')] 107 w2 := hMd.row) | (refine wpL_loadMd rfl _ rfl rfl hM2 ?_) | (refine wpL_storeMd rfl _ _ rfl rfl rfl hP2 ?_))
      have hb12 := bgo hBw1 hb2
      have hmb2 := hr.later hb12
      have hK2 : w2.heap[D]? = some (.deferred (some [])) := (hb2.block D (Array.getElem?_eq_some_iff.1 hK1).1).trans hK1
      have hne : ¬ D = mb := by omega
      have hK3 : (w2.setRow mb #[.pointer (some ⟨tb', 0, none⟩), .map (some kb')]).heap[D]? = some (.deferred (some [])) := (setRow_other w2 mb D _ hne).trans hK2
      have hsz1 := hBw1.size
      have hMv3 : Mrk mb (liveF l) (w2.setRow mb #[.pointer (some ⟨tb', 0, none⟩), .map (some kb')]) := ⟨⟨tb', kb', n', R', _, ⟨hP2.put _, hMd.tree.kp (hno mb (by omega)) hP2 (by decide) (Kp.row mb _) (by omega), hMd.map.kp (Kp.row mb _) (by omega), hMd.no, hno mb (by omega), by have := hMd.hi; simpa using this⟩, by rw [← hnm.out.1]; exact rks_one hap (by have := hnm.out.1; omega)⟩, fun j e he => (hgd j e he).1, by have := hnm.out.1; omega⟩
      have hkp3 : Kp mb w (w2.setRow mb #[.pointer (some ⟨tb', 0, none⟩), .map (some kb')]) := (Kp.of hb12).trans (Kp.row mb _)
      generalize w2.setRow mb #[.pointer (some ⟨tb', 0, none⟩), .map (some kb')] = w3 at hK3 hMv3 hkp3 ⊢
      refine ⟨by simp, .inl ⟨_, _, rfl, run_takeDeferred hK3, ?_⟩⟩
      exact ⟨_, results_tmp rfl _ _ _, by rw [hnm.out.1, hnm.out.2]; rfl, mrkGrown hMv3 hK3 (grownBy_putObj' w3 D _), kpGrown hkp3 (grownBy_putObj' w3 D _) hDw⟩
    · have hnm2 : n = m := by omega
      subst hnm2
      have h0 : (n : Int) - (n : Int) = 0 := by omega
      rw [h0]
      go_wp2
      have hle : liveF l = l := (List.filter_sublist).eq_of_length (hnm.out.1.trans hnm.out.2.symm)
      refine ⟨by simp, .inl ⟨_, _, rfl, run_takeDeferred hK1, ?_⟩⟩
      exact ⟨_, results_tmp rfl _ _ _, by rw [hnm.out.1, hnm.out.2, h0]; rfl, by rw [hle]; exact mrkGrown (hkR.out.later hBw1) hK1 (grownBy_putObj' w1 D _), kpGrown (Kp.of hBw1) (grownBy_putObj' w1 D _) hDw⟩
  case stop =>
    rintro D c pre W _ _ h _
    exact h.elim
end Go.Proofs.YtjopeojnlibagaaGreatDoor
namespace Go.Proofs.YtjopeojnlibagaaGreatDoor
open Go.RowKit Go.Extern.Stop Go.Stop Go.Extern
set_option maxRecDepth 100000

theorem run_app0 {P : Program} (w : World) (t ty e : TypeId) (i : TypeInfo) (z : Value) (size bytes : Nat) (ht : P.underlying t = some (.slice e)) (hi : P.info? e = some i) (hz : i.zero = some z)
    (hsize : i.size = size) (hby : i.bytes = bytes) (hzs : z.cells.size = size) {u : Value} {m ge : Nat} {ys : List Value} (he : RowAt ge #[] e w) (hu : So size u m ys w) (h1 : ∀ y ∈ ys, y.oneCell' = true)
    (h63 : m ≤ maxLen) (hbytes : m * bytes ≤ 140737488355328) :
    ∃ v' w', (Builtin.append_ #[t, t] ty #[.slice (some ⟨ge, 0, none⟩) 0 0, u]).run P w = .ok v' w' ∧ Rw e size v' m ys w' ∧ Below w.heap.size w w' ∧ ∀ k, v'.ownBlock = some k → k = ge ∨ w.heap.size ≤ k := by
  have hv : Rw e size (.slice (some ⟨ge, 0, none⟩) 0 0) 0 [] w := ⟨by simp, .inr ⟨ge, 0, #[], rfl, he, Nat.le_refl _, Nat.zero_le _, by simp, by simp⟩⟩
  obtain ⟨v', w', hr, h2, h3, h4⟩ := run_app (P := P) w t ty e i z size bytes ht hi hz hsize hby hzs hv hu h1 (by omega) (by rw [Nat.zero_add]; exact hbytes)
  rw [Nat.zero_add, List.nil_append] at h2
  refine ⟨v', w', hr, h2, ?_, fun k hk => ?_⟩
  · by_cases hm0 : m = 0
    · subst hm0
      have hy : ys = [] := List.eq_nil_of_length_eq_zero (by simpa using hu.1)
      subst hy
      have hs : Src P size t u 0 [] w := by
        rcases hu.2 with ⟨_, a', c', rfl⟩ | ⟨a', c', rfl, hc⟩
        · cases a' with
          | none => exact Src.ofNil w ht c'
          | some a' => exact Src.ofSlice w ht a' 0 c' [] (by simp) (fun j u h => by simp at h) (fun u h => by simp at h)
        · exact Src.ofSlice w ht a' 0 c' [] (by simp) (fun j u h => by simp at h) (fun u h => by simp at h)
      subst hsize
      have := run_append_nothing w t t ty e i ht hi (some ⟨ge, 0, none⟩) 0 0 (Nat.le_refl _) u hs
      rw [hr] at this
      injection this with _ e2
      rw [e2]
      exact Below.refl _ _
    · obtain ⟨a, c, rfl, hnews⟩ : ∃ a c, u = .slice (some a) m c ∧ ∀ j x, ys[j]? = some x → w.cell? (a.add j) = some x := by
        rcases hu.2 with ⟨q, _⟩ | q
        · exact absurd q hm0
        · exact q
      subst hsize
      subst hby
      have hsm : m ≤ 9223372036854775807 := by simp only [maxLen] at h63; omega
      have := run_append_grow (P := P) w t ty e i z ht hi hz ⟨ge, 0, none⟩ 0 0 [] (by simp) (fun j v h => by simp at h) a m c ys hu.1 hnews (by omega) (by omega) (growslice_fits (by omega) (by rw [Nat.zero_add]; exact hbytes))
      rw [hr] at this
      injection this with _ e2
      rw [e2]
      exact ⟨rfl, rfl, rfl, by simp, fun k hk => heap_alloc_old w.drew _ hk⟩
  · rcases h4 k hk with q | q
    · cases q; exact .inl rfl
    · exact .inr q
theorem opw_app0 {P : Program} {K : Act → World → Prop} {o : Oper} {A : Act} {w : World} {Q : Exit → Act → World → Prop} (s x : Operand) (t : TypeId) (ho : o.op = .call { callee := .builtin .append, args := #[s, x], argTypes := #[t, t] })
    (e : TypeId) (i : TypeInfo) (z : Value) (size bytes : Nat) (ht : P.underlying t = some (.slice e)) (hi : P.info? e = some i) (hz : i.zero = some z) (hsize : i.size = size) (hby : i.bytes = bytes) (hzs : z.cells.size = size)
    {u : Value} {m ge : Nat} {ys : List Value} (hs : A.eval s = .slice (some ⟨ge, 0, none⟩) 0 0) (hx : A.eval x = u) (he : RowAt ge #[] e w) (hu : So size u m ys w) (h1 : ∀ y ∈ ys, y.oneCell' = true) (h63 : m ≤ maxLen) (hbytes : m * bytes ≤ 140737488355328)
    (k : ∀ v' w', Rw e size v' m ys w' → Below w.heap.size w w' → (∀ k, v'.ownBlock = some k → k = ge ∨ w.heap.size ≤ k) → K (A.put o.dst v') w') : o.wp P A w K Q := by
  obtain ⟨v', w', hr, h2, h3, h4⟩ := run_app0 (P := P) w t o.type e i z size bytes ht hi hz hsize hby hzs he hu h1 h63 hbytes
  unfold Oper.wp execOp
  simp only [ho, resolve, invoke, builtin, Sem.run_bind, Sem.run_pure, Result.andThen_ok, List.map_toArray, List.map_cons, List.map_nil, hs, hx, hr]
  exact k v' w' h2 h3 h4
/-- The cells of a row of anchors. -/
def ncells : List Anx → List Value
  | [] => []
  | x :: r => .bool x.f :: .int .i64 x.a :: .int .i64 x.b :: .int .i64 x.c :: ncells r
theorem ncells_len : ∀ l : List Anx, (ncells l).length = l.length * 4
  | [] => rfl
  | e :: l => by simp only [ncells, List.length_cons, ncells_len l]; omega
theorem ncells_app : ∀ a b : List Anx, ncells (a ++ b) = ncells a ++ ncells b
  | [], _ => rfl
  | x :: r, b => by simp [ncells, ncells_app r b]
theorem ncells_at : ∀ (l : List Anx) (i : Nat) (e : Anx), l[i]? = some e → ∀ (j : Nat) (v : Value), (av e)[j]? = some v → (ncells l)[i * 4 + j]? = some v
  | [], i, e, h => by simp at h
  | y :: r, 0, e, h => fun j v hv => by
    simp at h
    subst h
    match j, hv with
    | 0, hv => simpa [av, anc, ncells] using hv
    | 1, hv => simpa [av, anc, ncells] using hv
    | 2, hv => simpa [av, anc, ncells] using hv
    | 3, hv => simpa [av, anc, ncells] using hv
    | j + 4, hv => exact absurd hv (by simp [av, anc])
  | y :: r, i + 1, e, h => fun j v hv => by
    have := ncells_at r i e (by simpa using h) j v hv
    rw [show (i + 1) * 4 + j = (i * 4 + j) + 4 by omega]
    simpa [ncells] using this
theorem ncells_of : ∀ (l : List Anx) (k : Nat) (u : Value), (ncells l)[k]? = some u → ∃ i e j, l[i]? = some e ∧ k = i * 4 + j ∧ (av e)[j]? = some u
  | [], k, u, h => by simp [ncells] at h
  | y :: r, k, u, h => by
    match k, h with
    | 0, h => exact ⟨0, y, 0, rfl, rfl, by simpa [av, anc, ncells] using h⟩
    | 1, h => exact ⟨0, y, 1, rfl, rfl, by simpa [av, anc, ncells] using h⟩
    | 2, h => exact ⟨0, y, 2, rfl, rfl, by simpa [av, anc, ncells] using h⟩
    | 3, h => exact ⟨0, y, 3, rfl, rfl, by simpa [av, anc, ncells] using h⟩
    | k + 4, h =>
      obtain ⟨i, e, j, h1, h2, h3⟩ := ncells_of r k u (by simpa [ncells] using h)
      exact ⟨i + 1, e, j, by simpa using h1, by omega, h3⟩
theorem ncells_one (l : List Anx) : ∀ u ∈ ncells l, u.oneCell' = true := by
  induction l with
  | nil => simp [ncells]
  | cons e l ih =>
    intro u hu
    simp only [ncells, List.mem_cons] at hu
    rcases hu with rfl | rfl | rfl | rfl | hu <;> first | rfl | exact ih u hu
theorem info_an : (Tryz.prog.info? 31).map (fun i => (i.zero, i.size, i.bytes)) = some (some (.agg #[.bool false, .int .i64 0, .int .i64 0, .int .i64 0]), 4, 32) := by kernel_rfl
theorem info_in : (Tryz.prog.info? 3).map (fun i => (i.zero, i.size, i.bytes)) = some (some (.int .i64 0), 1, 8) := by kernel_rfl
theorem SlX.so {w : World} {v : Value} {l : List Anx} (h : SlX w v l) : So 4 v l.length (ncells l) w := by
  refine ⟨ncells_len l, ?_⟩
  rcases h with ⟨rfl, a, c, rfl⟩ | ⟨g, o_, c, rfl, h⟩
  · exact .inl ⟨rfl, a, c, rfl⟩
  · refine .inr ⟨⟨g, o_, none⟩, c, rfl, fun j x hx => ?_⟩
    obtain ⟨i, e, k, h1, rfl, h3⟩ := ncells_of l j x hx
    rw [Addr.add_lit, ← Nat.add_assoc]
    exact (h i e h1).2 k x h3
/-- A row of anchors of one's own. -/
def RwN (v : Value) (l : List Anx) (w : World) : Prop := Rw 31 4 v l.length (ncells l) w
theorem RwN.sl {v : Value} {l : List Anx} {w : World} (h : RwN v l w) : SlX w v l := by
  have h0 := h
  rcases h.2 with ⟨rfl, hn⟩ | ⟨g, cap, cur, rfl, hg, _⟩
  · exact .inl ⟨List.length_eq_zero_iff.1 hn, none, 0, rfl⟩
  · refine .inr ⟨g, 0, cap, rfl, fun i e he => ⟨(Array.getElem?_eq_some_iff.1 hg).1, fun j v hv => ?_⟩⟩
    have := Rw.cells h0 (i * 4 + j) v (ncells_at l i e he j v hv)
    rw [← Nat.add_assoc] at this
    exact this
/-- A row of numbers of one's own. -/
def RwI (v : Value) (l : List Int) (w : World) : Prop := Rw 3 1 v l.length (l.map fun x => .int .i64 x) w
theorem RwI.sl {v : Value} {l : List Int} {w : World} (h : RwI v l w) : SlG w v l := by
  have h0 := h
  rcases h.2 with ⟨rfl, hn⟩ | ⟨g, cap, cur, rfl, hg, _⟩
  · exact .inl ⟨List.length_eq_zero_iff.1 hn, none, 0, rfl⟩
  · refine .inr ⟨g, 0, cap, rfl, (Array.getElem?_eq_some_iff.1 hg).1, fun i x hx => ?_⟩
    exact Rw.cells h0 i (.int .i64 x) (by rw [List.getElem?_map, hx]; rfl)
theorem so_an (w : World) (f : Bool) (a b c : Int) : So 4 (.slice (some ⟨w.heap.size, 0, none⟩) 1 1) 1 (ncells [⟨f, a, b, c⟩]) (w.alloc (.cells #[.bool f, .int .i64 a, .int .i64 b, .int .i64 c] 31)) := by
  have h : SlX (w.alloc (.cells #[.bool f, .int .i64 a, .int .i64 b, .int .i64 c] 31)) (.slice (some ⟨w.heap.size, 0, none⟩) 1 1) [⟨f, a, b, c⟩] := .inr ⟨w.heap.size, 0, 1, rfl, fun i x hx => by
    match i, hx with
    | 0, hx =>
      cases hx
      exact (row_new w #[.bool f, .int .i64 a, .int .i64 b, .int .i64 c] 31).in
    | i + 1, hx => simp at hx⟩
  exact h.so
theorem so_in (w : World) (a : Int) : So 1 (.slice (some ⟨w.heap.size, 0, none⟩) 1 1) 1 ([a].map fun x => .int .i64 x) (w.alloc (.cells #[.int .i64 a] 3)) := by
  refine ⟨rfl, .inr ⟨⟨w.heap.size, 0, none⟩, 1, rfl, fun j x hx => ?_⟩⟩
  match j, hx with
  | 0, hx =>
    cases hx
    exact (row_new w #[.int .i64 a] 3).cell 0
  | j + 1, hx => simp at hx
theorem opw_none0 {K : Act → World → Prop} {o : Oper} {A : Act} {w : World} {Q : Exit → Act → World → Prop} (ho : o.op = .buildSlice 24 0 #[])
    (k : K (A.put o.dst (.slice (some ⟨w.heap.size, 0, none⟩) 0 0)) (w.alloc (.cells #[] 31))) : o.wp Tryz.prog A w K Q := by
  unfold Oper.wp
  simp [execOp, ho, go_sem]
  exact k
/-- An empty row has come up, a row of anchors, a row of one. -/
def EmN (B : Nat) (v : Value) (x : World) : Prop := ∃ ge, v = .slice (some ⟨ge, 0, none⟩) 0 0 ∧ RowAt ge #[] 31 x ∧ B ≤ ge
theorem EmN.later {B : Nat} {v : Value} {x x' : World} (h : EmN B v x) (hb : Below x.heap.size x x') : EmN B v x' := by
  obtain ⟨ge, h1, h2, h3⟩ := h
  exact ⟨ge, h1, h2.later hb, h3⟩
def NwN (B : Nat) (l : List Anx) (v : Value) (x : World) : Prop := RwN v l x ∧ ∀ k, v.ownBlock = some k → B ≤ k
theorem NwN.later {B : Nat} {l : List Anx} {v : Value} {x x' : World} (h : NwN B l v x) (hb : Below x.heap.size x x') : NwN B l v x' := ⟨Rw.later h.1 hb, h.2⟩
def OnN (a b c : Int) (v : Value) (x : World) : Prop := ∃ g, v = .slice (some ⟨g, 0, none⟩) 1 1 ∧ So 4 v 1 (ncells [⟨false, a, b, c⟩]) x ∧ g < x.heap.size
theorem OnN.later {a b c : Int} {v : Value} {x x' : World} (h : OnN a b c v x) (hb : Below x.heap.size x x') : OnN a b c v x' := by
  obtain ⟨g, h1, ⟨h2, h3⟩, h4⟩ := h
  refine ⟨g, h1, ⟨h2, ?_⟩, Nat.lt_of_lt_of_le h4 hb.size⟩
  rcases h3 with ⟨q, _⟩ | ⟨ad, cc, q1, q2⟩
  · cases q
  · rw [h1] at q1
    cases q1
    refine .inr ⟨⟨g, 0, none⟩, 1, h1, fun j u hj => ?_⟩
    rw [hb.cell (p := (⟨g, 0, none⟩ : Addr).add j) (by rw [Addr.add_lit]; exact h4)]
    exact q2 j u hj
/-- append to an empty row of anchors. -/
theorem opw_appN0 {K : Act → World → Prop} {o : Oper} {A : Act} {w : World} {Q : Exit → Act → World → Prop} (s x : Operand) (ho : o.op = .call { callee := .builtin .append, args := #[s, x], argTypes := #[24, 24] })
    {u v : Value} {B : Nat} {l : List Anx} (hs : A.eval s = v) (hx : A.eval x = u) (he : EmN B v w) (hu : SlX w u l) (hl : l.length ≤ 1000000) (hB : B ≤ w.heap.size)
    (k : ∀ v' w', NwN B l v' w' → Below w.heap.size w w' → K (A.put o.dst v') w') : o.wp Tryz.prog A w K Q := by
  obtain ⟨ge, rfl, h2, h3⟩ := he
  obtain ⟨i0, hi, hi3⟩ := Option.map_eq_some_iff.1 info_an
  simp only [Prod.mk.injEq] at hi3
  refine opw_app0 (P := Tryz.prog) s x 24 ho 31 i0 _ 4 32 Tryz.underlying24 hi hi3.1 hi3.2.1 hi3.2.2 rfl hs hx h2 hu.so (ncells_one l) (by unfold maxLen; omega) (by omega) fun v' w' q1 q2 q3 => k v' w' ⟨q1, fun j hj => ?_⟩ q2
  rcases q3 j hj with q | q
  · rw [q]; exact h3
  · omega
/-- append to a row of anchors of one's own. -/
theorem wpL_appN {ops : Array Oper} {rest : List Oper} {o : Oper} {A : Act} {w : World} {Q : Exit → Act → World → Prop} (hgd : o.guard = none) (s x : Operand) (ho : o.op = .call { callee := .builtin .append, args := #[s, x], argTypes := #[24, 24] })
    {u v : Value} {l : List Anx} {y : Anx} (hs : A.eval s = v) (hx : A.eval x = u) (hv : RwN v l w) (hu : So 4 u 1 (ncells [y]) w) (hl : l.length ≤ 1000000)
    (k : ∀ v' w', RwN v' (l ++ [y]) w' → w.grownBy w' v.ownBlock → At' w v v' → wpList Tryz.prog ops Q rest (A.put o.dst v') w') : wpList Tryz.prog ops Q (o :: rest) A w := by
  obtain ⟨i0, hi, hi3⟩ := Option.map_eq_some_iff.1 info_an
  simp only [Prod.mk.injEq] at hi3
  refine wpL_app (P := Tryz.prog) hgd s x 24 ho 31 i0 _ 4 32 Tryz.underlying24 hi hi3.1 hi3.2.1 hi3.2.2 rfl hs hx hv hu (ncells_one _) (by unfold maxLen; omega) (by omega) fun v' w' q1 q2 q3 => k v' w' ?_ q2 q3
  unfold RwN
  rw [List.length_append, ncells_app]
  exact q1
/-- append to a row of numbers of one's own. -/
theorem wpL_appI {ops : Array Oper} {rest : List Oper} {o : Oper} {A : Act} {w : World} {Q : Exit → Act → World → Prop} (hgd : o.guard = none) (s x : Operand) (ho : o.op = .call { callee := .builtin .append, args := #[s, x], argTypes := #[23, 23] })
    {u v : Value} {l : List Int} {y : Int} (hs : A.eval s = v) (hx : A.eval x = u) (hv : RwI v l w) (hu : So 1 u 1 ([y].map fun x => .int .i64 x) w) (hl : l.length ≤ 1000000)
    (k : ∀ v' w', RwI v' (l ++ [y]) w' → w.grownBy w' v.ownBlock → At' w v v' → wpList Tryz.prog ops Q rest (A.put o.dst v') w') : wpList Tryz.prog ops Q (o :: rest) A w := by
  obtain ⟨i0, hi, hi3⟩ := Option.map_eq_some_iff.1 info_in
  simp only [Prod.mk.injEq] at hi3
  refine wpL_app (P := Tryz.prog) hgd s x 23 ho 3 i0 _ 1 8 Tryz.underlying23 hi hi3.1 hi3.2.1 hi3.2.2 rfl hs hx hv hu (fun y hy => by obtain ⟨z, _, rfl⟩ := List.mem_map.1 hy; rfl) (by unfold maxLen; omega) (by omega) fun v' w' q1 q2 q3 => k v' w' ?_ q2 q3
  unfold RwI
  rw [List.length_append, List.map_append]
  exact q1
theorem rwN_apart {v u : Value} {l : List Anx} {m : List Int} {w : World} (h : RwN v l w) (k : RwI u m w) : ∀ b, v.ownBlock = some b → ¬ u.ownBlock = some b := fun b hb hu => by
  rcases h.2 with ⟨rfl, _⟩ | ⟨g, cap, cur, rfl, hg, _⟩
  · cases hb
  · cases hb
    rcases k.2 with ⟨rfl, _⟩ | ⟨g', cap', cur', rfl, hg', _⟩
    · cases hu
    · cases hu
      rw [hg] at hg'
      simp at hg'
/-- The anchor of an element. -/
def anE (e : El) : Anx := ⟨false, e.ep, e.rp, e.no⟩
/-- Behind a purge an anchor by a live element has its gap. -/
theorem live_filter : ∀ (l : List El) (k : Nat) (e : El), l[k]? = some e → ¬ e.hd > 0 → (liveF l)[(liveL (l.take k)).toNat]? = some e
  | [], k, e, h, _ => by simp at h
  | a :: l, 0, e, h, hl => by
    simp at h
    subst h
    unfold liveF
    rw [List.filter_cons_of_pos (by simpa using hl)]
    rfl
  | a :: l, k + 1, e, h, hl => by
    have ih := live_filter l k e (by simpa using h) hl
    have hb := (liveL_b (l.take k)).1
    simp only [List.take_succ_cons, liveL]
    by_cases ha : a.hd > 0
    · have e0 : wLive a = 0 := by unfold wLive; rw [if_pos ha]
      unfold liveF at ih ⊢
      rw [List.filter_cons_of_neg (by simpa using ha), e0, Int.zero_add]
      exact ih
    · have e0 : wLive a = 1 := by unfold wLive; rw [if_neg ha]
      unfold liveF at ih ⊢
      rw [List.filter_cons_of_pos (by simpa using ha), e0, show (1 + liveL (l.take k)).toNat = (liveL (l.take k)).toNat + 1 by omega]
      simpa using ih
theorem live_all : ∀ (l : List El), (∀ e ∈ l, ¬ e.hd > 0) → liveL l = l.length
  | [], _ => rfl
  | a :: l, h => by
    have ih := live_all l (fun e he => h e (List.mem_cons_of_mem _ he))
    have e0 : wLive a = 1 := by unfold wLive; rw [if_neg (h a (List.mem_cons_self ..))]
    simp only [liveL, ih, e0, List.length_cons]
    omega
theorem anOf_purge {l : List El} {q : Int} {F : Bool} {A B C : Int} (h : AnOf l q F A B C) : WhOf (liveF l) F A B C q true := by
  rcases h with ⟨h1, h2, _⟩ | ⟨h0, e, he, hl, ht, rfl, rfl, rfl, rfl⟩
  · exact .inl ⟨h2, h1, rfl⟩
  · have hx := live_filter l _ e he hl
    rw [ht] at hx
    have hlt := (List.getElem?_eq_some_iff.1 hx).1
    refine .inr (.inr ⟨rfl, rfl, (q - 1).toNat, e, hx, rfl, ?_⟩)
    rw [live_all _ (fun x hx => by
      have := (List.mem_filter.1 (List.mem_of_mem_take hx)).2
      simpa using this), List.length_take]
    omega
end Go.Proofs.YtjopeojnlibagaaGreatDoor
namespace Go.Proofs.YtjopeojnlibagaaGreatDoor
open Go.RowKit Go.Extern.Stop Go.Stop Go.Extern
set_option maxRecDepth 100000

set_option maxHeartbeats 16000000 in
theorem anchorPurge_all {ad : Nat → Addr} {w : World} {u ua : Value} {l : List El} {zs : List Anx} (L : Laid ad w) (hu : SlE w u l) (hlm : l.length ≤ 9223372036854775807) (hin : ∀ e ∈ l, e.id.In) (ha : SlX w ua zs) (hcap : ∀ a n c, ua = .slice a n c → n ≤ c) (hai : ∀ x ∈ zs, x.In) :
    Calls Tryz.prog 7 #[u, ua] w fun r w' => r = .returned (.bool true) ∧ Below w.heap.size w w' := by
  obtain ⟨a', c', rfl⟩ := hu.form
  obtain ⟨aa, ca, rfl⟩ := ha.form
  have HB := hid_of' (begun13 hu hlm hin)
  have HL := hid_of' L
  have hcc := hcap _ _ _ rfl
  clear hu L hin hlm hcap
  unfold pv at HB
  go_enter Tryz.func7, Tryz.ntmps7
  go_upto_region 4 with (go_at_call 8; refine HB.out.mono ?_; rintro r w1 ⟨B, mb, v, xs, hBs, rfl, hbg, hxs, hb1⟩; clear HB)
  clear hxs
  have hM := hid_of' hbg.mrk
  have hap := hid_of' hbg.apart
  have hgood := hid_of' hbg.good
  have hlen := hbg.len
  have hmbB : Hid (w.heap.size ≤ mb) := by
    obtain ⟨_, _, _, _, _, _, _, _, _, _, _, hm9⟩ := hbg.wide
    exact Nat.le_trans hBs hm9
  have hL1 := hid_of' (HL.out.below hb1)
  have HL0 := HL
  have hlow := hid_of' hb1
  obtain ⟨base, hO, _⟩ := hbg.own
  have hX8 := hid_of' (PlAt.of_own (R := R00) hO (Nat.zero_le _))
  obtain ⟨a1, c8, rfl⟩ := hO.form
  have haW := ha.later hb1
  clear hO hbg hBs hb1 HL ha
  obtain ⟨M, hMM⟩ : ∃ M, M = xs.length := ⟨_, rfl⟩
  rw [← hMM] at hX8 hlen ⊢
  have HM := hid_of' hMM.symm
  clear hMM
  go_upto_if 27 with fail
  go_cut [1] from 25 (fun s1 wx => ∃ zt : List Anx, SlX w1 s1 zt ∧ zt.length ≤ 30 ∧ (∀ x ∈ zt, x.In) ∧ wx = w1)
  case first =>
    by_cases h30 : 30 < zs.length
    · have h30i : (30 : Int) < (zs.length : Int) := by omega
      rcases haW with ⟨q0, _⟩ | ⟨g, o_, cx, hvv, hcell⟩
      · exfalso; rw [q0] at h30; simp at h30
      simp only [Value.slice.injEq] at hvv
      obtain ⟨rfl, hl9, rfl⟩ := hvv
      clear hl9
      have hc30 : (30 : Int) ≤ (ca : Int) := by omega
      have hc30n : 30 ≤ ca := by omega
      have HC := hid_of' hcell
      clear hcell
      go_wp2
      go_meet
      case rel => exact ⟨zs.take 30, .inr ⟨g, o_, ca, by rw [List.length_take, Nat.min_eq_left (by omega)], fun i x hx => HC.out i x (by rw [List.getElem?_take] at hx; split at hx; exact hx; cases hx)⟩, by rw [List.length_take]; omega, fun x hx => hai x (List.mem_of_mem_take hx), rfl⟩
    · have h30i : ¬ (30 : Int) < (zs.length : Int) := by omega
      replace haW := hid_of' haW
      go_wp2
      go_meet
      case rel => exact ⟨zs, haW.out, by omega, hai, rfl⟩
  case rest =>
    obtain ⟨zt, hz1, hzt, hzi, hwc⟩ := hcut
    subst hwc
    clear haW hai hcc
    obtain ⟨at1, ct1, rfl⟩ := hz1.form
    replace hz1 := hid_of' hz1
    replace hzt := hid_of' hzt
    replace hzi := hid_of' hzi
    have hBc := Below.refl wc.heap.size wc
    go_wp2
    go_loopw [1, 7] (fun sv iv wr => ∃ k : Nat, iv = .int .i64 (k : Int) ∧ k ≤ M ∧ SlX wr sv (zt ++ (xs.take k).map anE) ∧ Below wc.heap.size wc wr) (fun _ iv _ => M - (intOf iv).toNat)
    case atStart => exact ⟨0, rfl, Nat.zero_le _, by rw [List.take_zero, List.map_nil, List.append_nil]; exact hz1.out, hBc⟩
    case round =>
      obtain ⟨k, rfl, hk, hsl, hB⟩ := hrel
      by_cases hlt : k < M
      · have hki : (k : Int) < (M : Int) := by omega
        have hkn : k < M := hlt
        obtain ⟨e, he⟩ : ∃ e, xs[k]? = some e := ⟨_, List.getElem?_eq_getElem (by rw [HM.out]; exact hlt)⟩
        obtain ⟨g8, rfl, hE8⟩ : ∃ g8, a1 = some ⟨g8, 0, none⟩ ∧ ElsAt g8 0 xs wc := by
          rcases hX8.out with ⟨q0, _⟩ | ⟨g8, c8', h1, h2, _⟩
          · rw [q0] at he; simp at he
          · simp only [Value.slice.injEq] at h1
            exact ⟨g8, h1.1, h2⟩
        have hI : CsIn g8 (k * 5) (idc e.id.a e.id.b e.id.c) wr := by
          have := (id_at (hE8 k e he)).later hB
          rwa [Nat.zero_add] at this
        have HT : Hid (xs.take (k + 1) = xs.take k ++ [e]) := by show _ = _; rw [List.take_add_one, he]; rfl
        obtain ⟨ls, hls⟩ : ∃ ls, ls = zt ++ (xs.take k).map anE := ⟨_, rfl⟩
        have hln : ls.length ≤ 200 := by
          have hzl := hzt.out
          rw [hls, List.length_append, List.length_map, List.length_take]
          omega
        rw [← hls] at hsl
        replace hls := hid_of' hls
        obtain ⟨aA, cA, rfl⟩ := hsl.form
        have HSl := hid_of' hsl
        obtain ⟨nA, hnA⟩ : ∃ nA, nA = ls.length := ⟨_, rfl⟩
        rw [← hnA] at HSl hln ⊢
        replace hnA := hid_of' hnA
        clear hsl hE8 he
        obtain ⟨X0, hX0⟩ : ∃ X0, X0 = wr := ⟨_, rfl⟩
        go_upto_region 9 with fail
        rw [← hX0] at hI HSl hB ⊢
        clear hX0 wr
        refine wp_region_tailN 10 (by kernel_rfl) (fun _ => none) (by kernel_rfl) (by kernel_rfl) (by decide) (fun i v x => match i with
          | 0 => EmN X0.heap.size v x
          | 1 => v = .slice aA nA cA
          | 2 => NwN X0.heap.size ls v x
          | 3 => v = .slice (some ⟨g8, 0, none⟩) M c8
          | 4 => v = .int .i64 (k : Int)
          | 5 => v = .pointer (some ⟨g8, k * 5, none⟩)
          | 6 => v = .pointer (some ⟨g8, k * 5, none⟩)
          | 7 => v = .agg (idc e.id.a e.id.b e.id.c)
          | 8 => v = .agg (anc false e.ep e.rp e.no)
          | 9 => OnN e.ep e.rp e.no v x
          | _ => True) (fun _ => false) (fun _ _ _ _ h => by cases h) ?_ ?_ ?_
        · intro i v x x' hR hb
          match i, hR with
          | 0, h => exact h.later hb
          | 1, h => exact h
          | 2, h => exact h.later hb
          | 3, h => exact h
          | 4, h => exact h
          | 5, h => exact h
          | 6, h => exact h
          | 7, h => exact h
          | 8, h => exact h
          | 9, h => exact h.later hb
          | m + 10, h => exact h
        · intro i o hi ho q x vals hX hdep hoth
          have t1 : q.tmps[1]? = some (.slice aA nA cA) := by rw [hoth 1 (by kernel_rfl)]; rfl
          have t6 : q.tmps[6]? = some (.slice (some ⟨g8, 0, none⟩) M c8) := by rw [hoth 6 (by kernel_rfl)]; rfl
          have t7 : q.tmps[7]? = some (.int .i64 (k : Int)) := by rw [hoth 7 (by kernel_rfl)]; rfl
          match i, hi, ho with
          | 0, _, ho =>
            simp only [List.getElem?_cons_zero, Option.some.injEq] at ho
            subst ho
            refine opw_none0 rfl ?_
            exact came _ rfl (below_one x _) ⟨x.heap.size, rfl, row_new x _ _, hX.size⟩ (fun h => absurd h (by decide))
          | 1, _, ho =>
            simp only [List.getElem?_cons_succ, List.getElem?_cons_zero, Option.some.injEq] at ho
            subst ho
            unfold Oper.wp
            simp [execOp, go_sem, t1]
            exact came _ rfl (Below.refl _ _) rfl (fun h => absurd h (by decide))
          | 2, _, ho =>
            simp only [List.getElem?_cons_succ, List.getElem?_cons_zero, Option.some.injEq] at ho
            subst ho
            obtain ⟨u0, e0⟩ := hdep ⟨0, .data⟩ (by simp) rfl _ 36 rfl rfl
            obtain ⟨u1, e1⟩ := hdep ⟨1, .data⟩ (by simp) rfl _ 37 rfl rfl
            rw [show vals 1 = .slice aA nA cA from e1] at u1
            refine opw_appN0 _ _ rfl (by simp [Act.eval, u0]) (by simp [Act.eval, u1]) e0 (HSl.out.later hX) (by rw [← hnA.out]; exact Nat.le_trans hln (by decide)) hX.size fun v9 x9 q1 q2 => ?_
            exact came _ rfl q2 q1 (fun h => absurd h (by decide))
          | 3, _, ho =>
            simp only [List.getElem?_cons_succ, List.getElem?_cons_zero, Option.some.injEq] at ho
            subst ho
            unfold Oper.wp
            simp [execOp, go_sem, t6]
            exact came _ rfl (Below.refl _ _) rfl (fun h => absurd h (by decide))
          | 4, _, ho =>
            simp only [List.getElem?_cons_succ, List.getElem?_cons_zero, Option.some.injEq] at ho
            subst ho
            unfold Oper.wp
            simp [execOp, go_sem, t7]
            exact came _ rfl (Below.refl _ _) rfl (fun h => absurd h (by decide))
          | 5, _, ho =>
            simp only [List.getElem?_cons_succ, List.getElem?_cons_zero, Option.some.injEq] at ho
            subst ho
            obtain ⟨u3, e3⟩ := hdep ⟨3, .data⟩ (by simp) rfl _ 39 rfl rfl
            rw [show vals 3 = .slice (some ⟨g8, 0, none⟩) M c8 from e3] at u3
            obtain ⟨u4, e4⟩ := hdep ⟨4, .data⟩ (by simp) rfl _ 40 rfl rfl
            rw [show vals 4 = .int .i64 (k : Int) from e4] at u4
            unfold Oper.wp
            simp [execOp, go_sem, u3, u4, hki]
            exact came _ rfl (Below.refl _ _) rfl (fun h => absurd h (by decide))
          | 6, _, ho =>
            simp only [List.getElem?_cons_succ, List.getElem?_cons_zero, Option.some.injEq] at ho
            subst ho
            obtain ⟨u5, e5⟩ := hdep ⟨5, .data⟩ (by simp) rfl _ 41 rfl rfl
            rw [show vals 5 = .pointer (some ⟨g8, k * 5, none⟩) from e5] at u5
            unfold Oper.wp
            simp [execOp, go_sem, u5]
            exact came _ rfl (Below.refl _ _) rfl (fun h => absurd h (by decide))
          | 7, _, ho =>
            simp only [List.getElem?_cons_succ, List.getElem?_cons_zero, Option.some.injEq] at ho
            subst ho
            obtain ⟨u6, e6⟩ := hdep ⟨6, .data⟩ (by simp) rfl _ 42 rfl rfl
            rw [show vals 6 = .pointer (some ⟨g8, k * 5, none⟩) from e6] at u6
            exact opw_loadI _ rfl (by simp [Act.eval, u6]) (hI.later hX) (came _ rfl (Below.refl _ _) rfl (fun h => absurd h (by decide)))
          | 8, _, ho =>
            simp only [List.getElem?_cons_succ, List.getElem?_cons_zero, Option.some.injEq] at ho
            subst ho
            obtain ⟨u7, e7⟩ := hdep ⟨7, .data⟩ (by simp) rfl _ 43 rfl rfl
            rw [show vals 7 = .agg (idc e.id.a e.id.b e.id.c) from e7] at u7
            unfold idc at u7
            unfold Oper.wp
            simp [execOp, go_sem, u7]
            exact came _ rfl (Below.refl _ _) rfl (fun h => absurd h (by decide))
          | 9, _, ho =>
            simp only [List.getElem?_cons_succ, List.getElem?_cons_zero, Option.some.injEq] at ho
            subst ho
            obtain ⟨u8, e8⟩ := hdep ⟨8, .data⟩ (by simp) rfl _ 44 rfl rfl
            rw [show vals 8 = .agg (anc false e.ep e.rp e.no) from e8] at u8
            unfold anc at u8
            unfold Oper.wp
            simp [execOp, go_sem, u8]
            exact came _ rfl (below_one _ _) ⟨x.heap.size, rfl, so_an x _ _ _ _, by simp⟩ (fun h => absurd h (by decide))
          | m + 10, hi, _ => exact absurd hi (by omega)
        · intro vals x9 hX9 hR9 _
          obtain ⟨q2, q3⟩ : NwN X0.heap.size ls (vals 2) x9 := hR9 2 (by decide)
          obtain ⟨g9, q9, qs, qg⟩ : OnN e.ep e.rp e.no (vals 9) x9 := hR9 9 (by decide)
          obtain ⟨a2, c2, r2, _⟩ := Rw.form q2
          have hsz := hX9.size
          simp only [List.take, List.drop, putAll, r2, q9]
          rw [r2] at q2 q3
          rw [q9] at qs
          clear r2 q9 hR9
          simp only [List.setIfInBounds_toArray, List.set_cons_succ, List.set_cons_zero]
          go_wp2_with (at_builtin; refine wpL_appN rfl _ _ rfl rfl rfl q2 qs (by rw [← hnA.out]; exact Nat.le_trans hln (by decide)) ?_; intro v3 w3 h3 hg3 hat3; obtain ⟨a3, c3, rfl, _⟩ := Rw.form h3)
          have hB3 : Below X0.heap.size X0 w3 := hX9.grown hg3 hsz (fun j hj => q3 j hj)
          go_roundw
          case rel =>
            refine ⟨k + 1, by go_num, by omega, ?_, bgo hB hB3⟩
            rw [HT.out, List.map_append, ← List.append_assoc, ← hls.out]
            have h9 := h3.sl
            simp only [List.length_append, List.length_singleton] at h9
            exact h9
          case measure => simp [intOf]; omega
      · have hki : ¬ (k : Int) < (M : Int) := by omega
        have hk' : k = M := by omega
        obtain ⟨ts, hts⟩ : ∃ ts, ts = zt ++ (xs.take k).map anE := ⟨_, rfl⟩
        rw [← hts] at hsl
        have htl : ts.length ≤ 200 := by
          have hzl := hzt.out
          rw [hts, List.length_append, List.length_map, List.length_take]
          omega
        have hti : Hid (∀ x ∈ ts, x.In) := fun x hx => by
          rw [hts] at hx
          rcases List.mem_append.1 hx with q | q
          · exact hzi.out x q
          · obtain ⟨e, he, rfl⟩ := List.mem_map.1 q
            obtain ⟨j, hj⟩ := List.getElem?_of_mem (List.mem_of_mem_take he)
            exact hM.out.ins j e hj
        clear hts
        obtain ⟨aT, cT, rfl⟩ := hsl.form
        have hMr := hid_of' (hM.out.later hB)
        have hLr := hid_of' (hL1.out.below hB)
        have hlr := hid_of' (bgo hlow.out hB)
        have hmlt : Hid (mb < wr.heap.size) := by
          obtain ⟨_, _, _, _, _, hm9, _⟩ := hMr.out.ex
          exact hm9.row.lt
        have hkont := hid_of' hsl
        clear hsl
        go_wp2
        go_loopw [8, 9, 10] (fun mv gv iv wq => ∃ (j : Nat) (ms : List Anx) (qs : List Int), iv = .int .i64 (j : Int) ∧ j ≤ ts.length ∧ (ms.length ≤ qs.length ∧ qs.length ≤ ms.length ∧ ms.length ≤ j) ∧ RwN mv ms wq ∧ RwI gv qs wq ∧ (∀ k, mv.ownBlock = some k → wr.heap.size ≤ k) ∧ (∀ k, gv.ownBlock = some k → wr.heap.size ≤ k) ∧ (∀ (i : Nat) (x : Anx) (q : Int), ms[i]? = some x → qs[i]? = some q → AnOf xs q x.f x.a x.b x.c) ∧ Below wr.heap.size wr wq) (fun _ _ iv _ => ts.length - (intOf iv).toNat)
        case atStart => exact ⟨0, [], [], rfl, Nat.zero_le _, ⟨Nat.le_refl _, Nat.le_refl _, Nat.le_refl _⟩, ⟨rfl, .inl ⟨rfl, rfl⟩⟩, ⟨rfl, .inl ⟨rfl, rfl⟩⟩, (fun k hk => by cases hk), (fun k hk => by cases hk), (fun i x q h => by simp at h), Below.refl _ _⟩
        case round =>
          rename World => wq
          obtain ⟨j, ms, qs, rfl, hj, hml, hN, hI, hNb, hIb, hAll, hBq⟩ := hrel
          replace hml := hid_of' hml
          replace hAll := hid_of' hAll
          replace hNb := hid_of' hNb
          replace hIb := hid_of' hIb
          obtain ⟨am, cm, rfl, _⟩ := Rw.form hN
          obtain ⟨ag, cg, rfl, _⟩ := Rw.form hI
          replace hN := hid_of' hN
          replace hI := hid_of' hI
          obtain ⟨nm, hnm⟩ : ∃ nm, nm = ms.length := ⟨_, rfl⟩
          obtain ⟨nq, hnq⟩ : ∃ nq, nq = qs.length := ⟨_, rfl⟩
          rw [← hnm] at hN hNb hml ⊢
          rw [← hnq] at hI hIb hml ⊢
          replace hnm := hid_of' hnm
          replace hnq := hid_of' hnq
          by_cases hjt : j < ts.length
          · have hji : (j : Int) < (ts.length : Int) := by omega
            obtain ⟨x, hx⟩ : ∃ x, ts[j]? = some x := ⟨_, List.getElem?_eq_getElem hjt⟩
            have hxi : Hid ((⟨x.a, x.b, x.c⟩ : Idn).In) := hti.out x (List.mem_of_getElem? hx)
            rcases hkont.out with ⟨q0, _⟩ | ⟨g, o_, cx, hvv, hcell⟩
            · exfalso; subst q0; simp at hx
            simp only [Value.slice.injEq] at hvv
            obtain ⟨rfl, hl9, rfl⟩ := hvv
            clear hl9
            have cc0 : CsIn g (o_ + j * 4) (anc x.f x.a x.b x.c) wq := (hcell j x hx).later hBq
            have HC : Hid (CsIn g (o_ + j * 4) (anc x.f x.a x.b x.c) wr) := hcell j x hx
            obtain ⟨q, ok, hW⟩ := whOf_ex xs x.f x.a x.b x.c
            obtain ⟨F, A, B9, C, h1, h2⟩ := rbOf_ex hW
            replace hW := hid_of' hW
            have HRb := hid_of' (rebase_any (hLr.out.below hBq) (hMr.out.later hBq) hxi.out hW.out h1 h2)
            generalize x.f = f at *
            generalize x.a = a at *
            generalize x.b = b at *
            generalize x.c = c at *
            unfold pv at HRb
            clear hcell hx
            go_upto_region 16 with (first | (refine wpL_loadA rfl _ rfl rfl cc0 ?_) | (go_at_call 14; (with_reducible refine HRb.out.mono ?_); rintro r w5 ⟨rfl, hb5⟩; clear HRb) | (refine wpL_storeA rfl _ _ rfl rfl rfl (row_new w5 _ _) ?_))
            have r11 := rA w5 (anc F A B9 C)
            have hB6 := zA w5 (anc F A B9 C)
            generalize (w5.alloc (.cells #[.bool false, .int .i64 0, .int .i64 0, .int .i64 0] 31)).setRow w5.heap.size (anc F A B9 C) = W6 at r11 hB6 ⊢
            generalize w5.heap.size = b11 at r11 ⊢
            have hq6 := bgo hb5 hB6
            have cc1 := cc0.later hq6
            have HWh := hid_of' (where_any ((hLr.out.below hBq).below hq6) ((hMr.out.later hBq).later hq6) hxi.out hW.out)
            unfold pv at HWh
            clear cc0 hb5 hB6
            go_upto_region 17 with (first | (refine wpL_loadA rfl _ rfl rfl cc1 ?_) | (go_at_call 12; (with_reducible refine HWh.out.mono ?_); rintro r w7 ⟨rfl, hb7⟩; clear HWh))
            have hq7 := bgo hq6 hb7
            replace r11 := r11.later hb7
            replace hN := hid_of' (Rw.later hN.out hq7)
            replace hI := hid_of' (Rw.later hI.out hq7)
            have hBq7 := bgo hBq hq7
            clear cc1 hq6 hb7
            cases ok with
            | false =>
              go_wp2
              go_roundw
              case rel => exact ⟨j + 1, ms, qs, by go_num, by omega, ⟨by have := hml.out; have := hnm.out; have := hnq.out; omega, by have := hml.out; have := hnm.out; have := hnq.out; omega, by have := hml.out; have := hnm.out; omega⟩, by have := hN.out; rw [hnm.out] at this ⊢; exact this, by have := hI.out; rw [hnq.out] at this ⊢; exact this, hNb.out, hIb.out, hAll.out, hBq7⟩
              case measure => simp [intOf]; omega
            | true =>
              have hAn := hid_of' (h1 rfl)
              have hN7 : RwN (.slice am nm cm) ms w7 := hN.out
              have hI7 : RwI (.slice ag nq cg) qs w7 := hI.out
              have hml200 : Hid (ms.length ≤ 1000000 ∧ qs.length ≤ 1000000) := by have := hml.out; have := hnm.out; have := hnq.out; exact ⟨by omega, by omega⟩
              clear h1 h2
              have hs7 := hBq7.size
              go_upto_region 21 with (first | (refine wpL_loadA rfl _ rfl rfl r11.in ?_; unfold anc) | (at_builtin; refine wpL_appN rfl _ _ rfl rfl rfl (Rw.later hN7 (below_one w7 _)) (so_an w7 F A B9 C) hml200.out.1 ?_; intro v8 w8 h8 hg8 hat8; obtain ⟨a8, c8', rfl, _⟩ := Rw.form h8))
              have hbo := below_one w7 (.cells #[.bool F, .int .i64 A, .int .i64 B9, .int .i64 C] 31)
              have hI8 : RwI (.slice ag nq cg) qs w8 := Rw.grow (Rw.later hI7 hbo) hg8 (fun k hk hk2 => rwN_apart (Rw.later hN7 hbo) (Rw.later hI7 hbo) k hk2 hk)
              have hB8 : Below wr.heap.size wr w8 := (bgo hBq7 hbo).grown hg8 (by simp; omega) (fun k hk => hNb.out k hk)
              have hNb8 : Hid (∀ k, (Value.slice a8 (ms ++ [Anx.mk F A B9 C]).length c8').ownBlock = some k → wr.heap.size ≤ k) := fun k hk => by
                rcases hat8 k hk with q9 | q9
                · exact hNb.out k q9
                · simp at q9; omega
              replace h8 := hid_of' h8
              clear hN hI hN7 hI7 hg8 hat8 r11
              have hs8 := hB8.size
              go_wp2_with (at_builtin; refine wpL_appI rfl _ _ rfl rfl rfl (Rw.later hI8 (below_one w8 _)) (so_in w8 q) hml200.out.2 ?_; intro v9 w9 h9 hg9 hat9; obtain ⟨a9, c9, rfl, _⟩ := Rw.form h9)
              have hbo9 := below_one w8 (.cells #[.int .i64 q] 3)
              have hN9 := Rw.grow (Rw.later h8.out hbo9) hg9 (fun k hk hk2 => rwN_apart (Rw.later h8.out hbo9) (Rw.later hI8 hbo9) k hk hk2)
              have hB9 : Below wr.heap.size wr w9 := (bgo hB8 hbo9).grown hg9 (by simp; omega) (fun k hk => hIb.out k hk)
              go_roundw
              case rel =>
                refine ⟨j + 1, ms ++ [⟨F, A, B9, C⟩], qs ++ [q], by go_num, by omega, ?_, ?_, ?_, ?_, ?_, ?_, hB9⟩
                · have t1 := hml.out
                  have t2 := hnm.out
                  have t3 := hnq.out
                  simp only [List.length_append, List.length_singleton]
                  exact ⟨by omega, by omega, by omega⟩
                · have t9 : RwN _ _ w9 := hN9
                  simp only [List.length_append, List.length_singleton] at t9
                  exact t9
                · have t9 := h9
                  simp only [List.length_append, List.length_singleton] at t9
                  exact t9
                · intro k hk
                  exact hNb8.out k (by simpa using hk)
                · intro k hk
                  rcases hat9 k (by simpa using hk) with q9 | q9
                  · exact hIb.out k q9
                  · simp at q9; omega
                · intro i y r hy hr
                  have t1 := hml.out
                  have t2 := hnm.out
                  have t3 := hnq.out
                  by_cases hi9 : i < ms.length
                  · rw [List.getElem?_append_left hi9] at hy
                    rw [List.getElem?_append_left (by omega)] at hr
                    exact hAll.out i y r hy hr
                  · have hie : i = ms.length := by
                      have := (List.getElem?_eq_some_iff.1 hy).1
                      simp at this
                      omega
                    subst hie
                    rw [List.getElem?_append_right (Nat.le_refl _), Nat.sub_self] at hy
                    rw [List.getElem?_append_right (by omega), show ms.length - qs.length = 0 by omega] at hr
                    cases hy
                    cases hr
                    exact hAn.out
              case measure => simp [intOf]; omega
          · have hji : ¬ (j : Int) < (ts.length : Int) := by omega
            have hap9 := apart_pair hap.out
            have HP := hid_of' (purge_rk (hMr.out.later hBq) (by have := HM.out; omega) (fun i e he => liveF_good (fun e he => by obtain ⟨j9, hj9⟩ := List.getElem?_of_mem he; exact hgood.out j9 e hj9) i e he) (liveF_apart hap.out))
            unfold pv at HP
            go_upto_region 23 with (go_at_call 33; (with_reducible refine HP.out.mono ?_); rintro r w9 ⟨rfl, hM9, hk9⟩; clear HP)
            have hl9 := Kp.below (bgo hlr.out hBq) hk9 hmbB.out (bgo hlr.out hBq).size
            have hs9 := hBq.size
            have hch : Ch (fun k => k = mb) wq w9 := ⟨hk9.os, hk9.tape, hk9.output, hk9.size, fun k hk hne => hk9.block k hk hne⟩
            have hN9 := hid_of' (show RwN _ ms w9 from Rw.ch hN.out hch (fun k hk e9 => by have := hNb.out k hk; have := hmlt.out; omega))
            have hI9 := hid_of' (show RwI _ qs w9 from Rw.ch hI.out hch (fun k hk e9 => by have := hIb.out k hk; have := hmlt.out; omega))
            have hM9' := hid_of' hM9
            have hL9 := hid_of' (HL0.out.below hl9)
            replace hl9 := hid_of' hl9
            clear hM9 hk9 hch hN hI hap9
            go_wp2
            go_loopw [15] (fun iv wz => ∃ i : Nat, iv = .int .i64 (i : Int) ∧ i ≤ nm ∧ Below w9.heap.size w9 wz) (fun iv _ => nm - (intOf iv).toNat)
            case atStart => exact ⟨0, rfl, Nat.zero_le _, Below.refl _ _⟩
            case round =>
              rename World => wz
              obtain ⟨i, rfl, hi, hBz⟩ := hrel
              have hnm200 : nm ≤ 200 := by have := hml.out; omega
              by_cases hin : i < nm
              · have hii : (i : Int) < (nm : Int) := by omega
                have hml9 := hml.out
                have hiq : (i : Int) < (nq : Int) := by omega
                have hiqn : i < nq := by omega
                obtain ⟨x, hx⟩ : ∃ x, ms[i]? = some x := ⟨_, List.getElem?_eq_getElem (by rw [← hnm.out]; exact hin)⟩
                obtain ⟨q, hq⟩ : ∃ q, qs[i]? = some q := ⟨_, List.getElem?_eq_getElem (by rw [← hnq.out]; exact hiqn)⟩
                have hAx := hAll.out i x q hx hq
                rcases hN9.out.sl with ⟨q0, _⟩ | ⟨g, o_, cx, hvv, hcell⟩
                · exfalso; rw [q0] at hx; simp at hx
                simp only [Value.slice.injEq] at hvv
                obtain ⟨rfl, hl8, rfl⟩ := hvv
                rcases hI9.out.sl with ⟨q0, _⟩ | ⟨gq, oq, cq, hvv, hgq, hcq⟩
                · exfalso; rw [q0] at hq; simp at hq
                simp only [Value.slice.injEq] at hvv
                obtain ⟨rfl, hl7, rfl⟩ := hvv
                clear hl8 hl7 hml9
                have cc : CsIn g (o_ + i * 4) (anc x.f x.a x.b x.c) wz := (hcell i x hx).later hBz
                have HWh := hid_of' (where_any (hL9.out.below hBz) (hM9'.out.later hBz) (anOf_in hAx hMr.out.ins) (anOf_purge hAx))
                have HCq : Hid (∀ y, Below w9.heap.size w9 y → y.cell? ⟨gq, oq + i, none⟩ = some (.int .i64 q)) := fun y hy => by rw [hy.cell (p := ⟨gq, oq + i, none⟩) hgq]; exact hcq i q hq
                generalize x.f = f at *
                generalize x.a = a at *
                generalize x.b = b at *
                generalize x.c = c at *
                unfold pv at HWh
                clear hcell hx hq hcq hAx
                go_upto_region 27 with (first | (refine wpL_loadA rfl _ rfl rfl cc ?_) | (go_at_call 12; (with_reducible refine HWh.out.mono ?_); rintro r w7 ⟨rfl, hb7⟩; clear HWh))
                have cq7 := HCq.out _ (bgo hBz hb7)
                go_wp2
                go_roundw
                case rel => exact ⟨i + 1, by go_num, by omega, bgo hBz hb7⟩
                case measure => simp [intOf]; omega
              · have hii : ¬ (i : Int) < (nm : Int) := by omega
                have HK := hid_of' (wakes13 (hL9.out.below hBz))
                go_wp2_with (go_at_call 18; (with_reducible refine HK.out.mono ?_); rintro r w7 ⟨rfl, hb7⟩)
                go_ret
                exact ⟨rfl, bgo hl9.out (bgo hBz hb7)⟩
end Go.Proofs.YtjopeojnlibagaaGreatDoor
