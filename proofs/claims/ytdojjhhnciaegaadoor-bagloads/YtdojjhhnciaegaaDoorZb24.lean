
/-
  BagSums: what was sent, and how often it may still arrive; pure.
-/
import Derived.Test.YtdojjhhnciaegaaDoorZb23
namespace Go.Proofs.YtdojjhhnciaegaaDoor
open Go.RowKit Go.Extern.Stop Go.Stop Go.Extern
set_option maxRecDepth 100000

theorem wrap_sm {x : Int} (h0 : -1000000 ≤ x) (h1 : x ≤ 1000000) : wrap64 x = x := by unfold wrap64; omega
/-- How many parcels have that Serial. -/
def cntS (s : Int) (l : List Pl) : Nat := l.countP fun p => p.s == s
theorem cntS_app (s : Int) (a b : List Pl) : cntS s (a ++ b) = cntS s a + cntS s b := List.countP_append
theorem cntS_one (s : Int) (p : Pl) : cntS s [p] = if p.s = s then 1 else 0 := by unfold cntS; by_cases h : p.s = s <;> simp [h]
theorem split_at {α : Type} {l : List α} {i : Nat} {x : α} (h : l[i]? = some x) : l = l.take i ++ ([x] ++ l.drop (i + 1)) := by
  obtain ⟨hi, e⟩ := List.getElem?_eq_some_iff.1 h
  have h1 : l.drop i = x :: l.drop (i + 1) := by rw [List.drop_eq_getElem_cons hi, e]
  rw [List.singleton_append, ← h1, List.take_append_drop]
theorem cntS_erase {l : List Pl} {i : Nat} {x : Pl} (h : l[i]? = some x) (s : Int) : cntS s (l.eraseIdx i) + (if x.s = s then 1 else 0) = cntS s l := by
  have e := congrArg (cntS s) (split_at h)
  rw [cntS_app, cntS_app, cntS_one] at e
  rw [List.eraseIdx_eq_take_drop_succ, cntS_app]
  omega
theorem cntS_set {l : List Pl} {i : Nat} {x : Pl} (h : l[i]? = some x) (y : Pl) (s : Int) : cntS s (l.set i y) + (if x.s = s then 1 else 0) = cntS s l + (if y.s = s then 1 else 0) := by
  have hi := (List.getElem?_eq_some_iff.1 h).1
  have e := congrArg (cntS s) (split_at h)
  have e2 := congrArg (cntS s) (split_at (l := l.set i y) (i := i) (x := y) (List.getElem?_set_self hi))
  rw [set_take, set_drop, cntS_app, cntS_app, cntS_one] at e2
  rw [cntS_app, cntS_app, cntS_one] at e
  omega
theorem cntS_swap {l : List Pl} {i j : Nat} {a b : Pl} (hi : l[i]? = some a) (hj : l[j]? = some b) (s : Int) : cntS s (swpL l i j a b) = cntS s l := by
  have hil := (List.getElem?_eq_some_iff.1 hi).1
  have h1 := cntS_set hi b s
  have h2 : (l.set i b)[j]? = some b := by
    by_cases e : i = j
    · subst e; exact List.getElem?_set_self hil
    · rw [List.getElem?_set_ne e]; exact hj
  have h3 := cntS_set h2 a s
  unfold swpL
  omega
theorem mem_swap {l : List Pl} {i j : Nat} {a b x : Pl} (hi : l[i]? = some a) (hj : l[j]? = some b) (h : x ∈ swpL l i j a b) : x ∈ l := by
  unfold swpL at h
  rcases List.mem_or_eq_of_mem_set h with h | rfl
  · rcases List.mem_or_eq_of_mem_set h with h | rfl
    · exact h
    · exact List.mem_of_getElem? hj
  · exact List.mem_of_getElem? hi
theorem cntS_pos {l : List Pl} {x : Pl} (h : x ∈ l) : 1 ≤ cntS x.s l := List.countP_pos_iff.2 ⟨x, h, by simp⟩

/-- What holds behind k calls. -/
structure SmG (k : Nat) (g : Bg) (qs : List Pl) (ms : List Int) : Prop where
  len : ms.length = qs.length
  last : g.last = (qs.length : Int)
  le : qs.length ≤ k
  own : ∀ p ∈ g.l, ∃ n : Nat, p.s = (n : Int) + 1 ∧ qs[n]? = some p
  may : ∀ (n : Nat) (m : Int), ms[n]? = some m → (cntS ((n : Int) + 1) g.l : Int) ≤ m ∧ m ≤ (k : Int) + 1
  sum : g.sent + g.dbl = g.arr + g.drp + (g.l.length : Int)
  s0 : 0 ≤ g.sent
  s1 : g.sent ≤ k
  x0 : 0 ≤ g.dbl
  x1 : g.dbl ≤ k
  a0 : 0 ≤ g.arr
  a1 : g.arr ≤ k
  d0 : 0 ≤ g.drp
  d1 : g.drp ≤ k
theorem SmG.mono {k : Nat} {g : Bg} {qs : List Pl} {ms : List Int} (h : SmG k g qs ms) : SmG (k + 1) g qs ms :=
  ⟨h.len, h.last, by have := h.le; omega, h.own, fun n m hm => ⟨(h.may n m hm).1, by have := (h.may n m hm).2; omega⟩, h.sum, h.s0, by have := h.s1; omega, h.x0, by have := h.x1; omega, h.a0, by have := h.a1; omega, h.d0, by have := h.d1; omega⟩
theorem SmG.new (m : Int) : SmG 0 (bg0 m) [] [] :=
  ⟨rfl, rfl, Nat.le_refl _, fun p hp => by simp [bg0] at hp, fun n m hm => by simp at hm, rfl, Int.le_refl 0, Int.le_refl 0, Int.le_refl 0, Int.le_refl 0, Int.le_refl 0, Int.le_refl 0, Int.le_refl 0, Int.le_refl 0⟩
theorem SmG.send {k : Nat} {g : Bg} {qs : List Pl} {ms : List Int} (h : SmG k g qs ms) (hk : k ≤ 1000) (f t : Int) (raw : List UInt8) : SmG (k + 1) (sndG g f t raw) (qs ++ [⟨(qs.length : Int) + 1, f, t, raw⟩]) (ms ++ [1]) := by
  have := h.le
  have := h.s0; have := h.s1; have := h.x0; have := h.x1; have := h.a0; have := h.a1; have := h.d0; have := h.d1
  have e1 : wrap64 (g.last + 1) = (qs.length : Int) + 1 := by rw [h.last]; exact wrap_sm (by omega) (by omega)
  have e2 : wrap64 (g.sent + 1) = g.sent + 1 := wrap_sm (by omega) (by omega)
  unfold sndG
  rw [e1, e2]
  refine ⟨by simp [h.len], by simp, by simp; omega, fun p hp => ?_, fun n m hm => ?_, ?_, by show 0 ≤ g.sent + 1; omega, by show g.sent + 1 ≤ _; omega, h.x0, by show g.dbl ≤ _; omega, h.a0, by show g.arr ≤ _; omega, h.d0, by show g.drp ≤ _; omega⟩
  · rcases List.mem_append.1 hp with hp | hp
    · obtain ⟨n, h1, h2⟩ := h.own p hp
      exact ⟨n, h1, by rw [List.getElem?_append_left (List.getElem?_eq_some_iff.1 h2).1]; exact h2⟩
    · rw [List.mem_singleton] at hp
      subst hp
      exact ⟨qs.length, rfl, by rw [List.getElem?_append_right (Nat.le_refl _), Nat.sub_self]; rfl⟩
  · simp only
    rw [cntS_app, cntS_one]
    by_cases hn : n < ms.length
    · rw [List.getElem?_append_left hn] at hm
      have hl := h.len
      have := h.may n m hm
      rw [if_neg (show ¬ (qs.length : Int) + 1 = (n : Int) + 1 by omega)]
      omega
    · rw [List.getElem?_append_right (by omega)] at hm
      have hl := h.len
      have hn' : n = ms.length := by
        have := (List.getElem?_eq_some_iff.1 hm).1
        simp at this
        omega
      subst hn'
      rw [Nat.sub_self] at hm
      cases hm
      have hz : cntS ((ms.length : Int) + 1) g.l = 0 := by
        rw [cntS, List.countP_eq_zero]
        intro p hp
        obtain ⟨n, h1, h2⟩ := h.own p hp
        have := (List.getElem?_eq_some_iff.1 h2).1
        simp only [beq_iff_eq]
        omega
      rw [hz]
      split <;> omega
  · have := h.sum
    simp only [List.length_append, List.length_singleton]
    omega
theorem SmG.full {k : Nat} {g : Bg} {qs : List Pl} {ms : List Int} (h : SmG k g qs ms) (hk : k ≤ 1000) : SmG (k + 1) { g with sent := wrap64 (g.sent + 1), drp := wrap64 (g.drp + 1) } qs ms := by
  have := h.s0; have := h.s1; have := h.d0; have := h.d1; have := h.x1; have := h.a1
  rw [wrap_sm (x := g.sent + 1) (by omega) (by omega), wrap_sm (x := g.drp + 1) (by omega) (by omega)]
  exact ⟨h.len, h.last, by have := h.le; omega, h.own, fun n m hm => ⟨(h.may n m hm).1, by have := (h.may n m hm).2; omega⟩, by have := h.sum; show g.sent + 1 + g.dbl = g.arr + (g.drp + 1) + (g.l.length : Int); omega, by show 0 ≤ g.sent + 1; omega, by show g.sent + 1 ≤ _; omega, h.x0, by show g.dbl ≤ _; omega, h.a0, by show g.arr ≤ _; omega, by show 0 ≤ g.drp + 1; omega, by show g.drp + 1 ≤ _; omega⟩
theorem SmG.drop {k : Nat} {g : Bg} {qs : List Pl} {ms : List Int} (h : SmG k g qs ms) (hk : k ≤ 1000) {i : Nat} {x : Pl} (hx : g.l[i]? = some x) : SmG (k + 1) { g with drp := wrap64 (g.drp + 1), l := g.l.eraseIdx i } qs ms := by
  have := h.s1; have := h.d0; have := h.d1; have := h.x1; have := h.a1
  have hi := (List.getElem?_eq_some_iff.1 hx).1
  rw [wrap_sm (x := g.drp + 1) (by omega) (by omega)]
  refine ⟨h.len, h.last, by have := h.le; omega, fun p hp => h.own p (List.mem_of_mem_eraseIdx hp), fun n m hm => ⟨?_, by have := (h.may n m hm).2; omega⟩, ?_, h.s0, by show g.sent ≤ _; omega, h.x0, by show g.dbl ≤ _; omega, h.a0, by show g.arr ≤ _; omega, by show 0 ≤ g.drp + 1; omega, by show g.drp + 1 ≤ _; omega⟩
  · have h1 := (h.may n m hm).1
    have h2 := cntS_erase hx ((n : Int) + 1)
    simp only
    omega
  · have := h.sum
    simp only
    rw [List.length_eraseIdx_of_lt hi]
    omega
theorem SmG.swap {k : Nat} {g : Bg} {qs : List Pl} {ms : List Int} (h : SmG k g qs ms) {i j : Nat} {a b : Pl} (hi : g.l[i]? = some a) (hj : g.l[j]? = some b) : SmG (k + 1) { g with l := swpL g.l i j a b } qs ms :=
  ⟨h.len, h.last, by have := h.le; omega, fun p hp => h.own p (mem_swap hi hj hp), fun n m hm => ⟨by rw [cntS_swap hi hj]; exact (h.may n m hm).1, by have := (h.may n m hm).2; omega⟩, by have := h.sum; show _ = _ + _ + ((swpL g.l i j a b).length : Int); rw [show (swpL g.l i j a b).length = g.l.length by simp [swpL]]; exact this, h.s0, by have := h.s1; show g.sent ≤ _; omega, h.x0, by have := h.x1; show g.dbl ≤ _; omega, h.a0, by have := h.a1; show g.arr ≤ _; omega, h.d0, by have := h.d1; show g.drp ≤ _; omega⟩
/-- A parcel of the row: which one it is. -/
theorem SmG.at {k : Nat} {g : Bg} {qs : List Pl} {ms : List Int} (h : SmG k g qs ms) {i : Nat} {x : Pl} (hx : g.l[i]? = some x) : ∃ (n : Nat) (m : Int), x.s = (n : Int) + 1 ∧ qs[n]? = some x ∧ ms[n]? = some m ∧ 1 ≤ m ∧ m ≤ (k : Int) + 1 ∧ n < qs.length := by
  obtain ⟨n, h1, h2⟩ := h.own x (List.mem_of_getElem? hx)
  have hn := (List.getElem?_eq_some_iff.1 h2).1
  have hl := h.len
  obtain ⟨m, hm⟩ : ∃ m, ms[n]? = some m := ⟨_, List.getElem?_eq_getElem (by omega)⟩
  have h3 := h.may n m hm
  have h4 := cntS_pos (List.mem_of_getElem? hx)
  rw [h1] at h4
  exact ⟨n, m, h1, h2, hm, by omega, h3.2, hn⟩
theorem SmG.deliver {k : Nat} {g : Bg} {qs : List Pl} {ms : List Int} (h : SmG k g qs ms) (hk : k ≤ 1000) {i : Nat} {x : Pl} (hx : g.l[i]? = some x) {n : Nat} {m : Int} (hn : x.s = (n : Int) + 1) (hm : ms[n]? = some m) : SmG (k + 1) { g with arr := wrap64 (g.arr + 1), l := g.l.eraseIdx i } qs (ms.set n (m - 1)) := by
  have := h.s1; have := h.d1; have := h.x1; have := h.a1; have := h.a0
  have hi := (List.getElem?_eq_some_iff.1 hx).1
  have hnl := (List.getElem?_eq_some_iff.1 hm).1
  rw [wrap_sm (x := g.arr + 1) (by omega) (by omega)]
  refine ⟨by rw [List.length_set]; exact h.len, h.last, by have := h.le; omega, fun p hp => h.own p (List.mem_of_mem_eraseIdx hp), fun n' m' hm' => ?_, ?_, h.s0, by show g.sent ≤ _; omega, h.x0, by show g.dbl ≤ _; omega, by show 0 ≤ g.arr + 1; omega, by show g.arr + 1 ≤ _; omega, h.d0, by show g.drp ≤ _; omega⟩
  · have h2 := cntS_erase hx ((n' : Int) + 1)
    simp only
    by_cases e : n = n'
    · subst e
      rw [List.getElem?_set_self hnl] at hm'
      cases hm'
      have h1 := h.may n m hm
      rw [if_pos hn] at h2
      omega
    · rw [List.getElem?_set_ne e] at hm'
      have h1 := h.may n' m' hm'
      rw [if_neg (by omega)] at h2
      omega
  · have := h.sum
    simp only
    rw [List.length_eraseIdx_of_lt hi]
    omega
theorem SmG.double {k : Nat} {g : Bg} {qs : List Pl} {ms : List Int} (h : SmG k g qs ms) (hk : k ≤ 1000) {i : Nat} {x : Pl} (hx : g.l[i]? = some x) {n : Nat} {m : Int} (hn : x.s = (n : Int) + 1) (hm : ms[n]? = some m) : SmG (k + 1) { g with dbl := wrap64 (g.dbl + 1), l := g.l ++ [x] } qs (ms.set n (m + 1)) := by
  have := h.s1; have := h.d1; have := h.x1; have := h.a1; have := h.x0
  have hnl := (List.getElem?_eq_some_iff.1 hm).1
  rw [wrap_sm (x := g.dbl + 1) (by omega) (by omega)]
  refine ⟨by rw [List.length_set]; exact h.len, h.last, by have := h.le; omega, fun p hp => ?_, fun n' m' hm' => ?_, ?_, h.s0, by show g.sent ≤ _; omega, by show 0 ≤ g.dbl + 1; omega, by show g.dbl + 1 ≤ _; omega, h.a0, by show g.arr ≤ _; omega, h.d0, by show g.drp ≤ _; omega⟩
  · rcases List.mem_append.1 hp with hp | hp
    · exact h.own p hp
    · rw [List.mem_singleton] at hp
      subst hp
      exact h.own p (List.mem_of_getElem? hx)
  · simp only
    rw [cntS_app, cntS_one]
    by_cases e : n = n'
    · subst e
      rw [List.getElem?_set_self hnl] at hm'
      cases hm'
      have h1 := h.may n m hm
      rw [if_pos hn]
      omega
    · rw [List.getElem?_set_ne e] at hm'
      have h1 := h.may n' m' hm'
      rw [if_neg (by omega)]
      omega
  · have := h.sum
    simp only [List.length_append, List.length_singleton]
    omega
theorem SmG.sums {k : Nat} {g : Bg} {qs : List Pl} {ms : List Int} (h : SmG k g qs ms) (hk : k ≤ 1000) : wrap64 (g.sent + g.dbl) = wrap64 (wrap64 (g.arr + g.drp) + (g.l.length : Int)) := by
  have := h.s0; have := h.s1; have := h.d0; have := h.d1; have := h.x0; have := h.x1; have := h.a0; have := h.a1; have := h.sum
  rw [wrap_sm (x := g.arr + g.drp) (by omega) (by omega), this]
end Go.Proofs.YtdojjhhnciaegaaDoor
