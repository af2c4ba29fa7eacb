/-
  'x, y := f(..), g(..)' of two clocks: a region that draws its order, two calls, two new variables: what holds behind so much of it.
-/
import Derived.Test.YtceahohcmhbkmaaDoorInvX
import Derived.Test.YtceahohcmhbkmaaDoorCkTick
namespace Go.Proofs.YtceahohcmhbkmaaDoor
open Go.RowKit
set_option maxRecDepth 100000

/-- What has come up, with one more. -/
def updB (l : Nat → Bool) (i : Nat) (j : Nat) : Bool := if j = i then true else l j
theorem updB_self (l : Nat → Bool) (i : Nat) : updB l i i = true := if_pos rfl
theorem updB_ne (l : Nat → Bool) {i j : Nat} (h : j ≠ i) : updB l i j = l j := if_neg h
theorem upd_self (v : Nat → Value) (i : Nat) (x : Value) : upd v i x i = x := if_pos rfl
theorem upd_ne (v : Nat → Value) {i j : Nat} (x : Value) (h : j ≠ i) : upd v i x j = v j := if_neg h
theorem getD_updB {listed : Array Bool} {i : Nat} (h : listed.getD i true = false) : (fun j => (listed.setIfInBounds i true).getD j false) = updB (fun j => listed.getD j false) i := by
  have hi : i < listed.size := by
    rcases Nat.lt_or_ge i listed.size with h' | h'
    · exact h'
    · simp [Array.getElem?_eq_none h'] at h
  funext j
  unfold updB
  by_cases e : j = i
  · subst e; simp [hi]
  · have e' : i ≠ j := fun h => e h.symm
    simp [e, Array.getElem?_setIfInBounds_ne e']
/-- What has come up. -/
def lstd (listed : Array Bool) (j : Nat) : Bool := listed.getD j false
theorem lstd_set {listed : Array Bool} {i : Nat} (h : listed.getD i true = false) : lstd (listed.setIfInBounds i true) = updB (lstd listed) i := getD_updB h
theorem getD_repl (m j : Nat) : (Array.replicate m false).getD j false = false := by
  simp only [Array.getD_eq_getD_getElem?, Array.getElem?_replicate]
  split <;> rfl
theorem getD_not {listed : Array Bool} {i : Nat} (h : listed.getD i true = false) : listed.getD i false = false := by
  rcases Nat.lt_or_ge i listed.size with h' | h'
  · simpa [h'] using h
  · simp [Array.getElem?_eq_none h'] at h

/-- The two calls (at the places c1, c2) have answered x and y, the two variables (at v1, v2) lie in new memory, written (by s1, s2) or not. -/
structure Two (w : World) (c1 c2 v1 v2 s1 s2 : Nat) (x y : List Int) (l : Nat → Bool) (vals : Nat → Value) (W : World) : Prop where
  z : Below w.heap.size w W
  f : l c1 = true → vals c1 = .agg (cv x)
  g : l c2 = true → vals c2 = .agg (cv y)
  a : l v1 = true → ∃ b, vals v1 = .pointer (some ⟨b, 0, none⟩) ∧ w.heap.size ≤ b ∧ CkAt b (if l s1 then x else ck0) W
  b : l v2 = true → ∃ b, vals v2 = .pointer (some ⟨b, 0, none⟩) ∧ w.heap.size ≤ b ∧ CkAt b (if l s2 then y else ck0) W
  ne : l v1 = true → l v2 = true → vals v1 ≠ vals v2
  na : l s1 = true → l v1 = true
  nb : l s2 = true → l v2 = true

section
variable {w W W' : World} {c1 c2 v1 v2 s1 s2 : Nat} {x y : List Int} {l : Nat → Bool} {vals : Nat → Value}
theorem Two.start (hl : ∀ j, l j = false) (hz : Below w.heap.size w W) : Two w c1 c2 v1 v2 s1 s2 x y l vals W := by
  have no : ∀ j, ¬ l j = true := fun j h => by rw [hl] at h; cases h
  exact ⟨hz, fun h => absurd h (no _), fun h => absurd h (no _), fun h => absurd h (no _), fun h => absurd h (no _), fun h => absurd h (no _), fun h => absurd h (no _), fun h => absurd h (no _)⟩
theorem Two.go (h : Two w c1 c2 v1 v2 s1 s2 x y l vals W) (hb : Below W.heap.size W W') {i : Nat} {v : Value} (h1 : v1 ≠ i) (h2 : v2 ≠ i) (h3 : s1 ≠ i) (h4 : s2 ≠ i) (hf : c1 = i → v = .agg (cv x)) (hg : c2 = i → v = .agg (cv y)) :
    Two w c1 c2 v1 v2 s1 s2 x y (updB l i) (upd vals i v) W' where
  z := bgo h.z hb
  f := fun hl => by
    by_cases e : c1 = i
    · rw [e, upd_self]; exact hf e
    · rw [updB_ne l e] at hl; rw [upd_ne _ _ e]; exact h.f hl
  g := fun hl => by
    by_cases e : c2 = i
    · rw [e, upd_self]; exact hg e
    · rw [updB_ne l e] at hl; rw [upd_ne _ _ e]; exact h.g hl
  a := fun hl => by rw [updB_ne l h1] at hl; rw [updB_ne l h3, upd_ne _ _ h1]; obtain ⟨b, e1, e2, e3⟩ := h.a hl; exact ⟨b, e1, e2, e3.later hb⟩
  b := fun hl => by rw [updB_ne l h2] at hl; rw [updB_ne l h4, upd_ne _ _ h2]; obtain ⟨b, e1, e2, e3⟩ := h.b hl; exact ⟨b, e1, e2, e3.later hb⟩
  ne := fun k1 k2 => by rw [updB_ne l h1] at k1; rw [updB_ne l h2] at k2; rw [upd_ne _ _ h1, upd_ne _ _ h2]; exact h.ne k1 k2
  na := fun hl => by rw [updB_ne l h3] at hl; rw [updB_ne l h1]; exact h.na hl
  nb := fun hl => by rw [updB_ne l h4] at hl; rw [updB_ne l h2]; exact h.nb hl
theorem Two.new1 (h : Two w c1 c2 v1 v2 s1 s2 x y l vals W) (hun : l v1 = false) (k1 : c1 ≠ v1) (k2 : c2 ≠ v1) (k3 : v2 ≠ v1) (k4 : s1 ≠ v1) (k5 : s2 ≠ v1) :
    Two w c1 c2 v1 v2 s1 s2 x y (updB l v1) (upd vals v1 (.pointer (some ⟨W.heap.size, 0, none⟩))) (W.alloc (.cells (cv ck0) 23)) where
  z := bgo h.z (below_one _ _)
  f := fun hl => by rw [updB_ne l k1] at hl; rw [upd_ne _ _ k1]; exact h.f hl
  g := fun hl => by rw [updB_ne l k2] at hl; rw [upd_ne _ _ k2]; exact h.g hl
  a := fun _ => by
    have : l s1 = false := by
      cases e : l s1 with
      | false => rfl
      | true => rw [h.na e] at hun; cases hun
    rw [updB_ne l k4, this, upd_self]
    exact ⟨_, rfl, h.z.size, CkAt.new W rfl⟩
  b := fun hl => by rw [updB_ne l k3] at hl; rw [updB_ne l k5, upd_ne _ _ k3]; obtain ⟨b, e1, e2, e3⟩ := h.b hl; exact ⟨b, e1, e2, e3.alloc _⟩
  ne := fun _ hl => by
    rw [updB_ne l k3] at hl
    rw [upd_self, upd_ne _ _ k3]
    obtain ⟨b, e1, _, e3⟩ := h.b hl
    rw [e1]
    intro e
    have : W.heap.size = b := by simpa using e
    have := e3.lt
    omega
  na := fun _ => updB_self l v1
  nb := fun hl => by rw [updB_ne l k5] at hl; rw [updB_ne l k3]; exact h.nb hl
theorem Two.swap (h : Two w c1 c2 v1 v2 s1 s2 x y l vals W) : Two w c2 c1 v2 v1 s2 s1 y x l vals W := ⟨h.z, h.g, h.f, h.b, h.a, fun a b e => h.ne b a e.symm, h.nb, h.na⟩
theorem Two.new2 (h : Two w c1 c2 v1 v2 s1 s2 x y l vals W) (hun : l v2 = false) (k1 : c1 ≠ v2) (k2 : c2 ≠ v2) (k3 : v1 ≠ v2) (k4 : s1 ≠ v2) (k5 : s2 ≠ v2) :
    Two w c1 c2 v1 v2 s1 s2 x y (updB l v2) (upd vals v2 (.pointer (some ⟨W.heap.size, 0, none⟩))) (W.alloc (.cells (cv ck0) 23)) := (h.swap.new1 hun k2 k1 k3 k5 k4).swap
theorem Two.put1 (h : Two w c1 c2 v1 v2 s1 s2 x y l vals W) (hx : x.length = 8) {b : Nat} (hl1 : l v1 = true) (hb : vals v1 = .pointer (some ⟨b, 0, none⟩)) (v : Value) (k1 : c1 ≠ s1) (k2 : c2 ≠ s1) (k3 : v1 ≠ s1) (k4 : v2 ≠ s1) (k5 : s2 ≠ s1) :
    Two w c1 c2 v1 v2 s1 s2 x y (updB l s1) (upd vals s1 v) (W.setRow b (cv x)) where
  z := by
    obtain ⟨b', e1, e2, _⟩ := h.a hl1
    have : b' = b := by rw [hb] at e1; simpa using e1.symm
    exact below_row h.z (by omega) _
  f := fun hl => by rw [updB_ne l k1] at hl; rw [upd_ne _ _ k1]; exact h.f hl
  g := fun hl => by rw [updB_ne l k2] at hl; rw [upd_ne _ _ k2]; exact h.g hl
  a := fun _ => by
    rw [updB_self, upd_ne _ _ k3]
    obtain ⟨b', e1, e2, e3⟩ := h.a hl1
    have : b' = b := by rw [hb] at e1; simpa using e1.symm
    subst this
    exact ⟨b', e1, e2, e3.row hx⟩
  b := fun hl => by
    rw [updB_ne l k4] at hl
    rw [updB_ne l k5, upd_ne _ _ k4]
    obtain ⟨b', e1, e2, e3⟩ := h.b hl
    refine ⟨b', e1, e2, e3.rowOther b _ fun e => ?_⟩
    subst e
    exact h.ne hl1 hl (hb.trans e1.symm)
  ne := fun p q => by rw [updB_ne l k3] at p; rw [updB_ne l k4] at q; rw [upd_ne _ _ k3, upd_ne _ _ k4]; exact h.ne p q
  na := fun _ => by rw [updB_ne l k3]; exact hl1
  nb := fun hl => by rw [updB_ne l k5] at hl; rw [updB_ne l k4]; exact h.nb hl
theorem Two.put2 (h : Two w c1 c2 v1 v2 s1 s2 x y l vals W) (hy : y.length = 8) {b : Nat} (hl1 : l v2 = true) (hb : vals v2 = .pointer (some ⟨b, 0, none⟩)) (v : Value) (k1 : c1 ≠ s2) (k2 : c2 ≠ s2) (k3 : v2 ≠ s2) (k4 : v1 ≠ s2) (k5 : s1 ≠ s2) :
    Two w c1 c2 v1 v2 s1 s2 x y (updB l s2) (upd vals s2 v) (W.setRow b (cv y)) := (h.swap.put1 hy hl1 hb v k2 k1 k3 k4 k5).swap
theorem Two.done (h : Two w c1 c2 v1 v2 s1 s2 x y l vals W) (hl : ∀ j, j ∈ [v1, v2, s1, s2] → l j = true) :
    ∃ b1 b2, vals v1 = .pointer (some ⟨b1, 0, none⟩) ∧ vals v2 = .pointer (some ⟨b2, 0, none⟩) ∧ CkAt b1 x W ∧ CkAt b2 y W ∧ Below w.heap.size w W := by
  obtain ⟨b1, e1, _, g1⟩ := h.a (hl v1 (by simp))
  obtain ⟨b2, e2, _, g2⟩ := h.b (hl v2 (by simp))
  rw [hl s1 (by simp)] at g1
  rw [hl s2 (by simp)] at g2
  exact ⟨b1, b2, e1, e2, g1, g2, h.z⟩
end
section
variable {o : Oper} {a : Act} {w : World} {K : Act → World → Prop} {Q : Exit → Act → World → Prop}
theorem opw_load (x : Operand) (ho : o.op = .load 23 x) {g : Nat} (hx : a.eval x = .pointer (some ⟨g, 0, none⟩)) {y : List Int} (h : CkAt g y w) (k : K (a.put o.dst (.agg (cv y))) w) : o.wp Tryd.prog a w K Q :=
  wp_load_row _ x ho g hx _ _ _ _ h.1 Tryd.underlying23 rfl h.size k
theorem opw_store (x y : Operand) (ho : o.op = .store 23 x y) {g : Nat} (hx : a.eval x = .pointer (some ⟨g, 0, none⟩)) {v : List Int} (hy : a.eval y = .agg (cv v)) {u : List Int} (h : CkAt g u w) (hv : v.length = 8)
    (k : K (a.put o.dst undef) (w.setRow g (cv v))) : o.wp Tryd.prog a w K Q :=
  wp_store_row _ x y ho g _ hx hy _ _ h.1 (ck_size hv) (by rw [cv_size, cv_size, h.2, hv]) (by simp [cv, Value.oneCell']) k
end
end Go.Proofs.YtceahohcmhbkmaaDoor
