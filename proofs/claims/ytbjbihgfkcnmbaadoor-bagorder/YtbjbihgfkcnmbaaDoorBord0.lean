
/-
  Parcels that only refer: rows of them, what append takes of them.
-/
import Derived.Test.YtbjbihgfkcnmbaaDoorRg0
import Derived.Test.YtbjbihgfkcnmbaaDoorBsum
import Derived.Test.YtbjbihgfkcnmbaaDoorOnc1
namespace Go.Proofs.YtbjbihgfkcnmbaaDoor
open Go.RowKit Go.Extern.Stop Go.Stop Go.Extern
set_option maxRecDepth 100000

/-- Parcels whose bytes lie anywhere. -/
def PsR (ps : List Pc) (l : List Pl) (w : World) : Prop := ps.length = l.length ∧ ∀ (i : Nat) (p : Pc) (q : Pl), ps[i]? = some p → l[i]? = some q → PcR p q w ∧ q.bs.length ≤ 140737488351232
theorem PsR.later {ps : List Pc} {l : List Pl} {w w' : World} (h : PsR ps l w) (hb : Below w.heap.size w w') : PsR ps l w' := ⟨h.1, fun i p q h1 h2 => ⟨(h.2 i p q h1 h2).1.later hb, (h.2 i p q h1 h2).2⟩⟩
theorem PsR.take {ps : List Pc} {qs : List Pl} {w : World} (h : PsR ps qs w) (n : Nat) : PsR (ps.take n) (qs.take n) w := ⟨by rw [List.length_take, List.length_take, h.1], fun i p q h1 h2 => by
  rw [List.getElem?_take] at h1 h2
  split at h1
  next e => rw [if_pos e] at h2; exact h.2 i p q h1 h2
  next => cases h1⟩
theorem PsR.drop {ps : List Pc} {qs : List Pl} {w : World} (h : PsR ps qs w) (n : Nat) : PsR (ps.drop n) (qs.drop n) w := ⟨by rw [List.length_drop, List.length_drop, h.1], fun i p q h1 h2 => by
  rw [List.getElem?_drop] at h1 h2
  exact h.2 _ p q h1 h2⟩
theorem PsR.app {ps ps' : List Pc} {qs qs' : List Pl} {w : World} (h : PsR ps qs w) (h' : PsR ps' qs' w) : PsR (ps ++ ps') (qs ++ qs') w := by
  refine ⟨by rw [List.length_append, List.length_append, h.1, h'.1], fun i p q h1 h2 => ?_⟩
  by_cases e : i < ps.length
  · rw [List.getElem?_append_left e] at h1
    rw [List.getElem?_append_left (by rw [← h.1]; exact e)] at h2
    exact h.2 i p q h1 h2
  · rw [List.getElem?_append_right (by omega)] at h1
    rw [List.getElem?_append_right (by rw [← h.1]; omega), ← h.1] at h2
    exact h'.2 _ p q h1 h2
theorem PsR.one {p : Pc} {q : Pl} {w : World} (h : PcR p q w) (hl : q.bs.length ≤ 140737488351232) : PsR [p] [q] w := ⟨rfl, fun i p' q' h1 h2 => by
  match i, h1, h2 with
  | 0, h1, h2 => cases h1; cases h2; exact ⟨h, hl⟩
  | i + 1, h1, h2 => simp at h1⟩
theorem PsR.set {ps : List Pc} {qs : List Pl} {w : World} (h : PsR ps qs w) (i : Nat) {p : Pc} {q : Pl} (hp : PcR p q w) (hl : q.bs.length ≤ 140737488351232) : PsR (ps.set i p) (qs.set i q) w := ⟨by rw [List.length_set, List.length_set, h.1], fun k p' q' h1 h2 => by
  by_cases e : i = k
  · subst e
    have hi : i < ps.length := by have := (List.getElem?_eq_some_iff.1 h1).1; rwa [List.length_set] at this
    rw [List.getElem?_set_self hi] at h1
    rw [List.getElem?_set_self (by rw [← h.1]; exact hi)] at h2
    cases h1; cases h2
    exact ⟨hp, hl⟩
  · rw [List.getElem?_set_ne e] at h1 h2
    exact h.2 k p' q' h1 h2⟩
theorem PsR.ones {ps : List Pc} {qs : List Pl} {w : World} (h : PsR ps qs w) : ∀ p ∈ ps, p.b.oneCell' = true := fun p hp => by
  obtain ⟨i, hi⟩ := List.getElem?_of_mem hp
  have hl := (List.getElem?_eq_some_iff.1 hi).1
  obtain ⟨q, hq⟩ : ∃ q, qs[i]? = some q := ⟨_, List.getElem?_eq_getElem (by rw [← h.1]; exact hl)⟩
  exact (h.2 i p q hi hq).1.b.one
theorem SlQ.take {w : World} {a : Option Addr} {c : Nat} {l : List Pl} (h : SlQ w (.slice a l.length c) l) {n : Nat} (hn : n ≤ l.length) : SlQ w (.slice a n c) (l.take n) := by
  rcases h with ⟨rfl, a', c', e⟩ | ⟨g, o_, c', ps, e, h1, h2⟩
  · have : n = 0 := by simpa using hn
    subst this
    exact .inl ⟨rfl, _, _, rfl⟩
  · cases e
    refine .inr ⟨g, o_, c, ps.take n, by rw [List.length_take, Nat.min_eq_left hn], by rw [List.length_take, List.length_take, h1], fun i p q hp hq => ?_⟩
    rw [List.getElem?_take] at hp hq
    split at hp
    next e => rw [if_pos e] at hq; exact h2 i p q hp hq
    next => cases hp
/-- The parcels of some that only are read. -/
theorem SlQ.ps {w : World} {g o_ c : Nat} {l : List Pl} (h : SlQ w (.slice (some ⟨g, o_, none⟩) l.length c) l) (hl : 0 < l.length) : ∃ ps, PsR ps l w ∧ ∀ (i : Nat) (p : Pc), ps[i]? = some p → CsIn g (o_ + i * 4) (pcv p) w := by
  rcases h with ⟨rfl, _⟩ | ⟨g', o', c', ps, e, h1, h2⟩
  · simp at hl
  · cases e
    refine ⟨ps, ⟨h1, fun i p q hp hq => ⟨(h2 i p q hp hq).1, (h2 i p q hp hq).2.1⟩⟩, fun i p hp => ?_⟩
    have hi := (List.getElem?_eq_some_iff.1 hp).1
    exact (h2 i p _ hp (List.getElem?_eq_getElem (by omega))).2.2
theorem so_rest {w : World} {g o_ : Nat} {ps : List Pc} (h : ∀ (i : Nat) (p : Pc), ps[i]? = some p → CsIn g (o_ + i * 4) (pcv p) w) (n c' : Nat) : So 4 (.slice (some ⟨g, o_ + n * 4, none⟩) (ps.length - n) c') (ps.length - n) (pcells (ps.drop n)) w := by
  refine ⟨by rw [pcells_len, List.length_drop], .inr ⟨_, _, rfl, fun j x hx => ?_⟩⟩
  obtain ⟨a, e, k, e1, rfl, e3⟩ := pcells_of _ _ _ hx
  rw [List.getElem?_drop] at e1
  have := (h _ e e1).2 k x e3
  rw [Addr.add_lit]
  rw [show o_ + n * 4 + (a * 4 + k) = o_ + (n + a) * 4 + k by omega]
  exact this
theorem SlQ.of_rw {w : World} {u : Value} {l : List Pl} {ps : List Pc} (h : Rw 56 4 u l.length (pcells ps) w) (hp : PsR ps l w) : SlQ w u l := by
  obtain ⟨a, c, rfl, _, _⟩ := h.form
  rcases h.2 with ⟨q, h0⟩ | ⟨g, cap, cur, q, hg, h1, h2, h3, h4⟩
  · exact .inl ⟨List.eq_nil_of_length_eq_zero h0, a, c, by rw [h0]⟩
  · cases q
    refine .inr ⟨g, 0, c, ps, rfl, hp.1, fun i p r hpp hr => ⟨(hp.2 i p r hpp hr).1, (hp.2 i p r hpp hr).2, (Array.getElem?_eq_some_iff.1 hg).1, fun j u hu => ?_⟩⟩
    have := h.cells _ _ (pcells_at ps i p hpp j u hu)
    rw [Nat.add_assoc]
    exact this
theorem right_split (l : List Pl) : RightTo l l.length ∨ ∃ (i : Nat) (q : Pl), l[i]? = some q ∧ rightP q = false ∧ RightTo l i := by
  have key : ∀ n, n ≤ l.length → RightTo l n ∨ ∃ (i : Nat) (q : Pl), l[i]? = some q ∧ rightP q = false ∧ RightTo l i := fun n => by
    induction n with
    | zero => exact fun _ => .inl fun j q hj => by omega
    | succ n ih =>
      intro hn
      rcases ih (by omega) with h | h
      · obtain ⟨q, hq⟩ : ∃ q, l[n]? = some q := ⟨_, List.getElem?_eq_getElem (by omega)⟩
        cases e : rightP q
        · exact .inr ⟨n, q, hq, e, h⟩
        · refine .inl fun j r hj hr => ?_
          by_cases ej : j = n
          · subst ej
            rw [hq] at hr
            cases hr
            exact e
          · exact h j r (by omega) hr
      · exact .inr h
  exact key _ (Nat.le_refl _)
theorem right_same {l : List Pl} {i i' : Nat} {q q' : Pl} (h : l[i]? = some q) (hb : rightP q = false) (ht : RightTo l i) (h' : l[i']? = some q') (hb' : rightP q' = false) (ht' : RightTo l i') : i = i' := by
  by_cases e : i < i'
  · have := ht' i q e h
    rw [hb] at this
    cases this
  · by_cases e' : i' < i
    · have := ht i' q' e' h'
      rw [hb'] at this
      cases this
    · omega
end Go.Proofs.YtbjbihgfkcnmbaaDoor
