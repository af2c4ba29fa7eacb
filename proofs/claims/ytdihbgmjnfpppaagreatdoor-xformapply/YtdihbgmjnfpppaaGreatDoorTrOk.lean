
/-
  How long the leaves are: what P4.5 asks of a row of leaves, and that glueing, packing and replacing keep it.
-/
import Derived.Test.YtdihbgmjnfpppaaGreatDoorTrGlue
namespace Go.Proofs.YtdihbgmjnfpppaaGreatDoor
open Go.RowKit
set_option maxRecDepth 100000

/-- No leaf is longer than ch; two neighbours have more than half of it together. -/
def LOk (ch : Nat) : List (List El) → Prop
  | [] => True
  | a :: r => a.length ≤ ch ∧ (∀ b, r.head? = some b → ch / 2 < a.length + b.length) ∧ LOk ch r
theorem LOk.app {ch : Nat} : ∀ {xs ys : List (List El)}, LOk ch (xs ++ ys) ↔ LOk ch xs ∧ LOk ch ys ∧ ∀ a b, xs.getLast? = some a → ys.head? = some b → ch / 2 < a.length + b.length
  | [], ys => by simp [LOk]
  | [a], ys => by
    simp only [List.cons_append, List.nil_append, LOk, List.head?_nil, List.getLast?_singleton, Option.some.injEq]
    constructor
    · rintro ⟨h1, h2, h3⟩
      exact ⟨⟨h1, fun b hb => absurd hb (by simp), trivial⟩, h3, fun a' b e hb => by subst e; exact h2 b hb⟩
    · rintro ⟨⟨h1, _, _⟩, h3, h4⟩
      exact ⟨h1, fun b hb => h4 _ b rfl hb, h3⟩
  | a :: c :: xs, ys => by
    have ih := LOk.app (ch := ch) (xs := c :: xs) (ys := ys)
    rw [List.cons_append, LOk, ih, LOk, List.getLast?_cons_cons]
    simp only [List.cons_append, List.head?_cons]
    constructor
    · rintro ⟨h1, h2, h3, h4, h5⟩
      exact ⟨⟨h1, h2, h3⟩, h4, h5⟩
    · rintro ⟨⟨h1, h2, h3⟩, h4, h5⟩
      exact ⟨h1, h2, h3, h4, h5⟩
theorem LOk.one {ch : Nat} {a : List El} (h : a.length ≤ ch) : LOk ch [a] := ⟨h, fun _ hb => (by cases hb), trivial⟩
theorem Nd.fr_lv : ∀ (t : Nd) (i : Nat), ∃ l r, t.leaves = (t.fr i).1 ++ l :: r ∧ (t.fr i).2.length ≤ l.length
  | .leaf _ _ _ _ l, i => ⟨l, [], rfl, by simp only [Nd.fr, List.length_take]; omega⟩
  | .inner _ x y, i => by
    rw [Nd.fr, Nd.leaves]
    split
    · obtain ⟨l, r, h1, h2⟩ := Nd.fr_lv x i
      exact ⟨l, r ++ y.leaves, by rw [h1, List.append_assoc, List.cons_append], h2⟩
    · obtain ⟨l, r, h1, h2⟩ := Nd.fr_lv y (i - x.els.length)
      exact ⟨l, r, by rw [h1]; simp only [List.append_assoc], h2⟩
theorem Nd.bk_lv : ∀ (t : Nd) (i : Nat), ∃ l r, t.leaves = r ++ l :: (t.bk i).2 ∧ (t.bk i).1.length ≤ l.length
  | .leaf _ _ _ _ l, i => ⟨l, [], rfl, by simp only [Nd.bk, List.length_drop]; omega⟩
  | .inner _ x y, i => by
    rw [Nd.bk, Nd.leaves]
    split
    · obtain ⟨l, r, h1, h2⟩ := Nd.bk_lv x i
      exact ⟨l, r, by rw [h1]; simp only [List.append_assoc, List.cons_append], h2⟩
    · obtain ⟨l, r, h1, h2⟩ := Nd.bk_lv y (i - x.els.length)
      exact ⟨l, x.leaves ++ r, by rw [h1, List.append_assoc], h2⟩
theorem Nd.fr_end : ∀ (t : Nd), t.leaves = (t.fr t.els.length).1 ++ [(t.fr t.els.length).2]
  | .leaf _ _ _ _ l => by simp [Nd.fr, Nd.leaves, Nd.els]
  | .inner _ x y => by
    have := Nd.fr_end y
    unfold Nd.fr
    rw [if_neg (by simp only [Nd.els, List.length_append]; omega)]
    simp only [Nd.els, Nd.leaves, List.length_append]
    rw [show x.els.length + y.els.length - x.els.length = y.els.length by omega, List.append_assoc, ← this]
theorem Nd.bk_zero : ∀ (t : Nd), t.Full → t.leaves = (t.bk 0).1 :: (t.bk 0).2
  | .leaf _ _ _ _ l, _ => by simp [Nd.bk, Nd.leaves]
  | .inner _ x y, hf => by
    have := Nd.bk_zero x hf.1
    have hp := hf.1.pos
    unfold Nd.bk
    rw [if_pos hp]
    simp only [Nd.leaves]
    rw [← List.cons_append, ← this]
theorem LOk.fr {ch : Nat} {t : Nd} (h : LOk ch t.leaves) (i : Nat) : LOk ch (t.fr i).1 := by
  obtain ⟨l, r, h1, _⟩ := Nd.fr_lv t i
  rw [h1] at h
  exact (LOk.app.1 h).1
theorem LOk.bk {ch : Nat} {t : Nd} (h : LOk ch t.leaves) (i : Nat) : LOk ch (t.bk i).2 := by
  obtain ⟨l, r, h1, _⟩ := Nd.bk_lv t i
  rw [h1] at h
  exact (LOk.app.1 h).2.1.2.2
theorem LOk.glue {ch : Nat} {x y : Nd} (hx : LOk ch x.leaves) (hy : LOk ch y.leaves) (fy : y.Full) : LOk ch (glueL ch x y) := by
  have e1 := Nd.fr_end x
  have e2 := Nd.bk_zero y fy
  unfold glueL
  split
  · rename_i h
    refine LOk.app.2 ⟨hx, hy, fun a b ha hb => ?_⟩
    rw [e1, List.getLast?_append, List.getLast?_singleton] at ha
    rw [e2] at hb
    simp at ha hb
    subst ha hb
    omega
  · rename_i h
    rw [e1] at hx
    rw [e2] at hy
    obtain ⟨a1, a2, a3⟩ := LOk.app.1 hx
    obtain ⟨b1, b2, b3⟩ := hy
    refine LOk.app.2 ⟨LOk.app.2 ⟨a1, LOk.one (by rw [List.length_append]; omega), fun a b ha hb => ?_⟩, b3, fun a b ha hb => ?_⟩
    · simp only [List.head?_cons, Option.some.injEq] at hb
      have := a3 a _ ha rfl
      subst hb
      rw [List.length_append]
      omega
    · rw [List.getLast?_append, List.getLast?_singleton] at ha
      simp at ha
      have := b2 b hb
      subst ha
      rw [List.length_append]
      omega
theorem cutL_b : ∀ (n : Nat) (l : List El) (q c : Nat), 1 ≤ n → q * n ≤ l.length → l.length ≤ c * n → ∀ m ∈ cutL n l, q ≤ m.length ∧ m.length ≤ c := by
  intro n
  induction n using Nat.strongRecOn with
  | ind n ih =>
    intro l q c h1 hq hc m hm
    by_cases hn : n = 1
    · subst hn
      rw [cutL, dif_pos (by omega)] at hm
      simp at hm
      subst hm
      omega
    · rw [cutL, dif_neg (by omega)] at hm
      obtain ⟨hf, ehf⟩ : ∃ z, n / 2 = z := ⟨_, rfl⟩
      obtain ⟨at_, eat⟩ : ∃ z, l.length * hf / n = z := ⟨_, rfl⟩
      rw [ehf, eat] at hm
      have d1 : at_ * n ≤ l.length * hf := by rw [← eat]; exact Nat.div_mul_le_self _ _
      have d2 : l.length * hf < (at_ + 1) * n := by rw [← eat]; exact (Nat.div_lt_iff_lt_mul (by omega)).1 (Nat.lt_succ_self _)
      obtain ⟨k, ek⟩ : ∃ k, n = hf + k := ⟨n - hf, by omega⟩
      have kp : 0 < k := by omega
      have hp : 0 < hf := by omega
      have hnp : 0 < n := by omega
      -- q * hf ≤ at_
      have a1 : q * hf ≤ at_ := by
        refine Nat.le_of_lt_succ (Nat.lt_of_mul_lt_mul_right (a := n) (Nat.lt_of_le_of_lt ?_ d2))
        rw [Nat.mul_right_comm]
        exact Nat.mul_le_mul_right hf hq
      have a2 : at_ ≤ c * hf := by
        refine Nat.le_of_mul_le_mul_right (c := n) (Nat.le_trans d1 ?_) hnp
        rw [Nat.mul_right_comm]
        exact Nat.mul_le_mul_right hf hc
      have e3 : l.length * n = l.length * hf + l.length * k := by rw [ek, Nat.mul_add]
      have a0 : at_ ≤ l.length := by
        refine Nat.le_of_mul_le_mul_right (c := n) (Nat.le_trans d1 ?_) hnp
        rw [e3]; omega
      have e4 : (l.length - at_) * n = l.length * n - at_ * n := Nat.sub_mul _ _ _
      have a3 : q * k ≤ l.length - at_ := by
        refine Nat.le_of_mul_le_mul_right (c := n) ?_ hnp
        rw [e4, Nat.mul_right_comm]
        have := Nat.mul_le_mul_right k hq
        omega
      have a4 : l.length - at_ ≤ c * k := by
        refine Nat.le_of_lt_succ (Nat.lt_of_mul_lt_mul_right (a := n) ?_)
        rw [e4, Nat.succ_mul, Nat.mul_right_comm]
        have := Nat.mul_le_mul_right k hc
        have e5 : (at_ + 1) * n = at_ * n + n := Nat.succ_mul _ _
        omega
      rcases List.mem_append.1 hm with hm | hm
      · exact ih hf (by omega) _ q c hp (by rw [List.length_take, Nat.min_eq_left a0]; exact a1) (by rw [List.length_take, Nat.min_eq_left a0]; exact a2) m hm
      · rw [show n - hf = k by omega] at hm
        exact ih k (by omega) _ q c kp (by rw [List.length_drop]; exact a3) (by rw [List.length_drop]; exact a4) m hm
theorem LOk.of_b {ch q : Nat} (hq : ch / 2 < q + q) : ∀ (ls : List (List El)), (∀ m ∈ ls, q ≤ m.length ∧ m.length ≤ ch) → LOk ch ls
  | [], _ => trivial
  | a :: r, h => by
    refine ⟨(h a (by simp)).2, fun b hb => ?_, LOk.of_b hq r fun m hm => h m (by simp [hm])⟩
    have h1 := (h a (by simp)).1
    have h2 := (h b (by rw [List.mem_cons]; exact .inr (List.mem_of_head? hb))).1
    omega
theorem LOk.packed {ch : Nat} (h2 : 2 ≤ ch) (l : List El) (hl : l ≠ []) : LOk ch (cutL (pkN ch l.length) l) := by
  have hp : 0 < l.length := List.length_pos_iff.2 hl
  obtain ⟨b1, b2⟩ := pkN_b (ch := ch) (len := l.length) (by omega) hp
  have u1 : l.length ≤ ch * pkN ch l.length := by
    have := Nat.lt_mul_div_succ (l.length + ch - 1) (show 0 < ch by omega)
    unfold pkN
    rw [Nat.mul_succ] at this
    omega
  by_cases h1 : pkN ch l.length = 1
  · rw [h1] at u1 ⊢
    rw [cutL, dif_pos (by omega)]
    exact LOk.one (by omega)
  · refine LOk.of_b (q := ch / 2) (by omega) _ (cutL_b _ l (ch / 2) ch b1 ?_ u1)
    have u2 : pkN ch l.length * ch ≤ l.length + ch - 1 := by unfold pkN; exact Nat.div_mul_le_self _ _
    obtain ⟨n, en⟩ : ∃ n, pkN ch l.length = n + 2 := ⟨pkN ch l.length - 2, by omega⟩
    rw [en] at u2 ⊢
    have u3 : ch / 2 * 2 ≤ ch := Nat.div_mul_le_self _ _
    have u4 : ch / 2 * n ≤ n * ch := by rw [Nat.mul_comm]; exact Nat.mul_le_mul_left n (by omega)
    rw [Nat.mul_add]
    rw [Nat.add_mul] at u2
    omega
end Go.Proofs.YtdihbgmjnfpppaaGreatDoor
