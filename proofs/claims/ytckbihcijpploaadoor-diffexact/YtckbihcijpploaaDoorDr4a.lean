
/-
  barrowref15.walk: what it keeps while it goes.
-/
import Derived.Test.YtckbihcijpploaaDoorDr1
import Derived.Test.YtckbihcijpploaaDoorDr2
namespace Go.Proofs.YtckbihcijpploaaDoor
open Go.RowKit Go.Extern.Stop Go.Stop Go.Extern
set_option maxRecDepth 100000

/-- Three rows of one's own, apart from each other. -/
structure Tri (N : Nat) (a b c : Value) (es : List Edt) (cs ns : List Int) (w : World) : Prop where
  ra : RwE a es w
  rb : RwR b cs w
  rc : RwR c ns w
  oa : ∀ k, a.ownBlock = some k → N ≤ k
  ob : ∀ k, b.ownBlock = some k → N ≤ k
  oc : ∀ k, c.ownBlock = some k → N ≤ k
  dab : ∀ k, a.ownBlock = some k → ¬ b.ownBlock = some k
  dac : ∀ k, a.ownBlock = some k → ¬ c.ownBlock = some k
  dbc : ∀ k, b.ownBlock = some k → ¬ c.ownBlock = some k
  sz : N ≤ w.heap.size
theorem Tri.later {N : Nat} {a b c : Value} {es : List Edt} {cs ns : List Int} {w w' : World} (h : Tri N a b c es cs ns w) (hb : Below w.heap.size w w') : Tri N a b c es cs ns w' :=
  ⟨h.ra.later hb, h.rb.later hb, h.rc.later hb, h.oa, h.ob, h.oc, h.dab, h.dac, h.dbc, Nat.le_trans h.sz hb.size⟩
theorem Tri.appA {N : Nat} {a b c v : Value} {es es' : List Edt} {cs ns : List Int} {w w' : World} (h : Tri N a b c es cs ns w) (q1 : RwE v es' w') (q2 : w.grownBy w' a.ownBlock) (q3 : At' w a v) : Tri N v b c es' cs ns w' :=
  ⟨q1, Rw.grow h.rb q2 (fun k hk e => h.dab k e hk), Rw.grow h.rc q2 (fun k hk e => h.dac k e hk), fun k hk => (q3 k hk).elim (h.oa k) (fun e => Nat.le_trans h.sz e), h.ob, h.oc,
    fun k hk e => (q3 k hk).elim (fun q => h.dab k q e) (fun q => by have := Rw.lt h.rb k e; omega), fun k hk e => (q3 k hk).elim (fun q => h.dac k q e) (fun q => by have := Rw.lt h.rc k e; omega), h.dbc, Nat.le_trans h.sz q2.size⟩
theorem Tri.appB {N : Nat} {a b c v : Value} {es : List Edt} {cs cs' ns : List Int} {w w' : World} (h : Tri N a b c es cs ns w) (q1 : RwR v cs' w') (q2 : w.grownBy w' b.ownBlock) (q3 : At' w b v) : Tri N a v c es cs' ns w' :=
  ⟨Rw.grow h.ra q2 (fun k hk e => h.dab k hk e), q1, Rw.grow h.rc q2 (fun k hk e => h.dbc k e hk), h.oa, fun k hk => (q3 k hk).elim (h.ob k) (fun e => Nat.le_trans h.sz e), h.oc,
    fun k hk e => (q3 k e).elim (fun q => h.dab k hk q) (fun q => by have := Rw.lt h.ra k hk; omega), h.dac, fun k hk e => (q3 k hk).elim (fun q => h.dbc k q e) (fun q => by have := Rw.lt h.rc k e; omega), Nat.le_trans h.sz q2.size⟩
theorem Tri.appC {N : Nat} {a b c v : Value} {es : List Edt} {cs ns ns' : List Int} {w w' : World} (h : Tri N a b c es cs ns w) (q1 : RwR v ns' w') (q2 : w.grownBy w' c.ownBlock) (q3 : At' w c v) : Tri N a b v es cs ns' w' :=
  ⟨Rw.grow h.ra q2 (fun k hk e => h.dac k hk e), Rw.grow h.rb q2 (fun k hk e => h.dbc k hk e), q1, h.oa, h.ob, fun k hk => (q3 k hk).elim (h.oc k) (fun e => Nat.le_trans h.sz e),
    h.dab, fun k hk e => (q3 k e).elim (fun q => h.dac k hk q) (fun q => by have := Rw.lt h.ra k hk; omega), fun k hk e => (q3 k e).elim (fun q => h.dbc k hk q) (fun q => by have := Rw.lt h.rb k hk; omega), Nat.le_trans h.sz q2.size⟩
theorem Tri.noC {N : Nat} {a b c : Value} {es : List Edt} {cs ns : List Int} {w : World} (h : Tri N a b c es cs ns w) : Tri N a b (.slice none 0 0) es cs [] w :=
  ⟨h.ra, h.rb, RwR.nil _, h.oa, h.ob, (fun k hk => by cases hk), h.dab, (fun k _ e => by cases e), (fun k _ e => by cases e), h.sz⟩
/-- Where the walk is: at i and j; the edit that is open began at i0 and j0. -/
structure WkP (xs ys : List Int) (n m i j i0 j0 : Nat) (es : List Edt) (cs : List Int) : Prop where
  hi : i ≤ n
  hj : j ≤ m
  hi0 : i0 ≤ i
  hj0 : j0 ≤ j
  he : es ++ bt ys i0 j0 (kp i j (xs.drop i) (ys.drop j) ++ [(n, m)]) = eds xs ys
  hc : (cs ++ (kp i j (xs.drop i) (ys.drop j)).map fun p => xs.getD p.1 0) = cm xs ys
  le : es.length ≤ i0 + j0
  lc : cs.length ≤ i
theorem WkP.start {xs ys : List Int} {n m : Nat} (hn : n = xs.length) (hm : m = ys.length) : WkP xs ys n m 0 0 0 0 [] [] :=
  ⟨Nat.zero_le _, Nat.zero_le _, Nat.le_refl _, Nat.le_refl _, by subst hn hm; rfl, rfl, Nat.le_refl _, Nat.le_refl _⟩
/-- The edit that is open, if one is. -/
def pnd (ys : List Int) (i j i0 j0 : Nat) : List Edt := if i = i0 ∧ j = j0 then [] else [⟨(j0 : Int), (i : Int) - (i0 : Int), tx ((ys.take j).drop j0)⟩]
theorem WkP.both {xs ys : List Int} {n m i j i0 j0 : Nat} {es : List Edt} {cs : List Int} (h : WkP xs ys n m i j i0 j0 es cs) (hn : n = xs.length) (hm : m = ys.length) {a : Int} (h1 : xs[i]? = some a) (h2 : ys[j]? = some a) :
    WkP xs ys n m (i + 1) (j + 1) (i + 1) (j + 1) (es ++ pnd ys i j i0 j0) (cs ++ [a]) := by
  have l1 := (List.getElem?_eq_some_iff.1 h1).1
  have l2 := (List.getElem?_eq_some_iff.1 h2).1
  refine ⟨by omega, by omega, Nat.le_refl _, Nat.le_refl _, ?_, ?_, ?_, ?_⟩
  · have := h.he
    rw [kp_e h1 h2, List.cons_append, bt, ← List.append_assoc] at this
    exact this
  · have := h.hc
    rw [kp_e h1 h2, List.map_cons] at this
    rw [List.append_assoc, ← this, List.cons_append, List.nil_append]
    rw [List.getD, h1]
    rfl
  · have := h.le
    have := h.hi0
    have := h.hj0
    unfold pnd
    split
    · simp
      omega
    · simp
      omega
  · have := h.lc
    simp
    omega
theorem WkP.fin {xs ys : List Int} {n m i0 j0 : Nat} {es : List Edt} {cs : List Int} (h : WkP xs ys n m n m i0 j0 es cs) (hn : n = xs.length) (hm : m = ys.length) : WkP xs ys n m n m n m (es ++ pnd ys n m i0 j0) cs := by
  have hk : kp n m (xs.drop n) (ys.drop m) = [] := kp_end (.inl hn)
  refine ⟨Nat.le_refl _, Nat.le_refl _, Nat.le_refl _, Nat.le_refl _, ?_, h.hc, ?_, h.lc⟩
  · have := h.he
    rw [hk, List.nil_append, bt, bt, List.append_nil] at this ⊢
    rw [if_pos ⟨rfl, rfl⟩, List.append_nil]
    exact this
  · have := h.le
    have := h.hi0
    have := h.hj0
    unfold pnd
    split
    · simp
      omega
    · simp
      omega
theorem WkP.del {xs ys : List Int} {n m i j i0 j0 : Nat} {es : List Edt} {cs : List Int} (h : WkP xs ys n m i j i0 j0 es cs) (hi : i < n) (hk : kp i j (xs.drop i) (ys.drop j) = kp (i + 1) j (xs.drop (i + 1)) (ys.drop j)) : WkP xs ys n m (i + 1) j i0 j0 es cs :=
  ⟨hi, h.hj, Nat.le_succ_of_le h.hi0, h.hj0, by rw [← hk]; exact h.he, by rw [← hk]; exact h.hc, h.le, Nat.le_succ_of_le h.lc⟩
theorem WkP.ins {xs ys : List Int} {n m i j i0 j0 : Nat} {es : List Edt} {cs : List Int} (h : WkP xs ys n m i j i0 j0 es cs) (hj : j < m) (hk : kp i j (xs.drop i) (ys.drop j) = kp i (j + 1) (xs.drop i) (ys.drop (j + 1))) : WkP xs ys n m i (j + 1) i0 j0 es cs :=
  ⟨h.hi, hj, h.hi0, Nat.le_succ_of_le h.hj0, by rw [← hk]; exact h.he, by rw [← hk]; exact h.hc, h.le, h.lc⟩
theorem take_more {ys : List Int} {j j0 : Nat} {b : Int} (h : ys[j]? = some b) (h0 : j0 ≤ j) : (ys.take (j + 1)).drop j0 = (ys.take j).drop j0 ++ [b] := by
  have l2 := (List.getElem?_eq_some_iff.1 h).1
  rw [List.take_add_one, h, List.drop_append_of_le_length (by rw [List.length_take]; omega)]
  rfl
theorem mid_len {ys : List Int} {j j0 : Nat} (hj : j ≤ ys.length) : ((ys.take j).drop j0).length = j - j0 := by
  rw [List.length_drop, List.length_take, Nat.min_eq_left hj]
end Go.Proofs.YtckbihcijpploaaDoor
