
/-
  A queue of acts that wait for their causes: no program, plain lists.
-/
import Derived.Test.YtlkcjbmdeimocaaDoorCq3
import Derived.Test.YtlkcjbmdeimocaaDoorCa14
namespace Go.Proofs.YtlkcjbmdeimocaaDoor
open Go.RowKit
set_option maxRecDepth 100000

theorem nodup_len : ∀ (N : Nat) (l : List Nat), l.Nodup → (∀ x ∈ l, x < N) → l.length ≤ N
  | 0, [], _, _ => Nat.le_refl _
  | 0, x :: _, _, h => absurd (h x (by simp)) (by omega)
  | N + 1, l, hn, h => by
    by_cases hN : N ∈ l
    · have h1 := nodup_len N (l.erase N) (hn.erase N) (fun x hx => by
        have h2 := (hn.mem_erase_iff).1 hx
        have := h x h2.2
        omega)
      rw [List.length_erase_of_mem hN] at h1
      omega
    · have h1 := nodup_len N l hn (fun x hx => by
        have h2 := h x hx
        have : x ≠ N := fun e => hN (e ▸ hx)
        omega)
      omega

/-- What holds of a queue at a clock when the acts at some places are laid in. -/
structure QI (L : List Ac) (h : List Int) (P : Nat → Prop) (f : List Nat) (g : Int → Int → List Nat) : Prop where
  fl : f.length = 8
  fle : ∀ r, r < 8 → fn f r ≤ L.length
  first1 : ∀ r, r < 8 → fn f r < L.length → ∃ x, L[fn f r]? = some x ∧ rdyC h x = true ∧ x.rep.toNat = r
  first2 : ∀ i x, P i → L[i]? = some x → rdyC h x = true → fn f x.rep.toNat ≤ i
  wait : ∀ i x, P i → L[i]? = some x → (∃ r : Nat, r < 8 ∧ en h r < en x.ck r ∧ i ∈ g r (en x.ck r)) ∨ ∀ r : Nat, r < 8 → en x.ck r ≤ en h r
  gin : ∀ a b i, i ∈ g a b → P i ∧ i < L.length
  gone : ∀ a b a' b' i, i ∈ g a b → i ∈ g a' b' → a = a' ∧ b = b'
  gnd : ∀ a b, (g a b).Nodup
theorem QI.len {L : List Ac} {h : List Int} {P : Nat → Prop} {f : List Nat} {g : Int → Int → List Nat} (q : QI L h P f g) (a b : Int) : (g a b).length ≤ L.length := nodup_len _ _ (q.gnd a b) (fun x hx => (q.gin a b x hx).2)
theorem QI.congr {L : List Ac} {h : List Int} {P P' : Nat → Prop} {f : List Nat} {g : Int → Int → List Nat} (q : QI L h P f g) (hP : ∀ i, P i ↔ P' i) : QI L h P' f g :=
  ⟨q.fl, q.fle, q.first1, fun i x hi => q.first2 i x ((hP i).2 hi), fun i x hi => q.wait i x ((hP i).2 hi), fun a b i hi => ⟨(hP i).1 (q.gin a b i hi).1, (q.gin a b i hi).2⟩, q.gone, q.gnd⟩
theorem QI.start (L : List Ac) (h : List Int) {f : List Nat} (hl : f.length = 8) (hf : ∀ r, r < 8 → fn f r = L.length) : QI L h (fun _ => False) f (fun _ _ => []) := by
  exact ⟨hl, (fun r hr => by rw [hf r hr]; exact Nat.le_refl _), (fun r hr hl => by rw [hf r hr] at hl; omega), fun _ _ hi => hi.elim, fun _ _ hi => hi.elim, (fun _ _ _ hi => by cases hi), (fun _ _ _ _ _ hi => by cases hi), fun _ _ => List.nodup_nil⟩
theorem cov_le {h : List Int} {x : Ac} (hr : rdyC h x = true) : ∀ r : Nat, r < 8 → en x.ck r ≤ en h r := fun r hr8 => by
  obtain ⟨_, _, _, _, _, _, _, hc⟩ := rdy_at hr
  exact cov_iff.1 hc r hr8
theorem fn_set {f : List Nat} {r j y : Nat} (hr : r < f.length) : fn (f.set r y) j = if j = r then y else fn f j := by
  unfold fn
  rw [List.getD_eq_getElem?_getD, List.getElem?_set, List.getD_eq_getElem?_getD]
  by_cases e : r = j
  · subst e; simp [hr]
  · rw [if_neg e, if_neg (fun q => e q.symm)]
/-- put keeps it. -/
theorem QI.put {L : List Ac} {h : List Int} {P : Nat → Prop} {f f' : List Nat} {g g' : Int → Int → List Nat} (q : QI L h P f g) {i : Nat} {x : Ac} (hx : L[i]? = some x) (hi : ¬ P i) (hp : PutR h x i f g f' g') : QI L h (fun j => P j ∨ j = i) f' g' := by
  have hil : i < L.length := (List.getElem?_eq_some_iff.1 hx).1
  have hno : ∀ a b, ¬ i ∈ g a b := fun a b hm => hi (q.gin a b i hm).1
  rcases hp with ⟨r, hr8, hlt, rfl, rfl⟩ | ⟨hall, rfl, ⟨hrd, rfl⟩ | ⟨hrd, rfl⟩⟩
  · have hsub : ∀ a b j, j ∈ putG g r (en x.ck r) (g r (en x.ck r) ++ [i]) a b → j ∈ g a b ∨ (j = i ∧ a = r ∧ b = en x.ck r) := fun a b j hj => by
      unfold putG at hj
      split at hj
      · rename_i e
        obtain ⟨rfl, rfl⟩ := e
        rcases List.mem_append.1 hj with hj | hj
        · exact .inl hj
        · exact .inr ⟨List.mem_singleton.1 hj, rfl, rfl⟩
      · exact .inl hj
    have hsup : ∀ a b j, j ∈ g a b → j ∈ putG g r (en x.ck r) (g r (en x.ck r) ++ [i]) a b := fun a b j hj => by
      unfold putG
      split
      · rename_i e
        obtain ⟨rfl, rfl⟩ := e
        exact List.mem_append_left _ hj
      · exact hj
    refine ⟨q.fl, q.fle, q.first1, fun j y hj hy hr => ?_, fun j y hj hy => ?_, fun a b j hj => ?_, fun a b a' b' j hj hj' => ?_, fun a b => ?_⟩
    · rcases hj with hj | rfl
      · exact q.first2 j y hj hy hr
      · rw [hx] at hy
        cases hy
        have := cov_le hr r hr8
        omega
    · rcases hj with hj | rfl
      · rcases q.wait j y hj hy with ⟨r', h1, h2, h3⟩ | h1
        · exact .inl ⟨r', h1, h2, hsup _ _ _ h3⟩
        · exact .inr h1
      · rw [hx] at hy
        cases hy
        refine .inl ⟨r, hr8, hlt, ?_⟩
        unfold putG
        rw [if_pos ⟨rfl, rfl⟩]
        simp
    · rcases hsub a b j hj with h1 | ⟨h1, _⟩
      · exact ⟨.inl (q.gin a b j h1).1, (q.gin a b j h1).2⟩
      · exact ⟨.inr h1, by omega⟩
    · rcases hsub a b j hj with h1 | ⟨h1, h2, h3⟩ <;> rcases hsub a' b' j hj' with h1' | ⟨h1', h2', h3'⟩
      · exact q.gone a b a' b' j h1 h1'
      · exact absurd (h1' ▸ h1) (hno a b)
      · exact absurd (h1 ▸ h1') (hno a' b')
      · exact ⟨h2.trans h2'.symm, h3.trans h3'.symm⟩
    · unfold putG
      split
      · rw [List.nodup_append]
        refine ⟨q.gnd _ _, by simp, fun a ha c hc e => ?_⟩
        rw [List.mem_singleton] at hc
        exact hno _ _ (hc ▸ e ▸ ha)
      · exact q.gnd a b
  · obtain ⟨r, _, hrt, hr8, _⟩ := rdy_at hrd
    rw [hrt]
    have hfs := fun j => fn_set (f := f) (r := r) (j := j) (y := min (fn f r) i) (by rw [q.fl]; exact hr8)
    have hle : ∀ j, fn (f.set r (min (fn f r) i)) j ≤ fn f j := fun j => by
      rw [hfs]
      split
      · rename_i e; rw [e]; omega
      · exact Nat.le_refl _
    refine ⟨by rw [List.length_set]; exact q.fl, fun j hj => Nat.le_trans (hle j) (q.fle j hj), fun j hj hl => ?_, fun j y hj hy hr => ?_, fun j y hj hy => ?_, fun a b j hj => ⟨.inl (q.gin a b j hj).1, (q.gin a b j hj).2⟩, q.gone, q.gnd⟩
    · rw [hfs] at hl ⊢
      split at hl
      · rename_i e
        rw [if_pos e]
        by_cases hm : fn f r ≤ i
        · rw [Nat.min_eq_left hm] at hl ⊢
          rw [e]
          exact q.first1 r hr8 hl
        · rw [Nat.min_eq_right (by omega)]
          exact ⟨x, hx, hrd, by rw [hrt, e]⟩
      · rename_i e
        rw [if_neg e]
        exact q.first1 j hj hl
    · rcases hj with hj | rfl
      · exact Nat.le_trans (hle _) (q.first2 j y hj hy hr)
      · rw [hx] at hy
        cases hy
        rw [hrt, hfs, if_pos rfl]
        omega
    · rcases hj with hj | rfl
      · exact q.wait j y hj hy
      · rw [hx] at hy
        cases hy
        exact .inr hall
  · refine ⟨q.fl, q.fle, q.first1, fun j y hj hy hr => ?_, fun j y hj hy => ?_, fun a b j hj => ⟨.inl (q.gin a b j hj).1, (q.gin a b j hj).2⟩, q.gone, q.gnd⟩
    · rcases hj with hj | rfl
      · exact q.first2 j y hj hy hr
      · rw [hx] at hy
        cases hy
        rw [hrd] at hr
        cases hr
    · rcases hj with hj | rfl
      · exact q.wait j y hj hy
      · rw [hx] at hy
        cases hy
        exact .inr hall
/-- The least of the first ones is the first that is Ready. -/
theorem QI.found {L : List Ac} {h : List Int} {f : List Nat} {g : Int → Int → List Nat} (q : QI L h (fun _ => True) f g) {m : Nat} (hm : Least f m) :
    (m < L.length ∧ ∃ x, L[m]? = some x ∧ rdyC h x = true ∧ L.find? (fun x => rdyC h x) = some x ∧ m = fn f x.rep.toNat) ∨ (m = L.length ∧ L.find? (fun x => rdyC h x) = none) := by
  obtain ⟨h1, r, hr8, hmr⟩ := hm
  have key : ∀ i y, L[i]? = some y → rdyC h y = true → m ≤ i := fun i y hy hr => by
    obtain ⟨r', _, hrt, hr8', _⟩ := rdy_at hr
    have h2 := q.first2 i y trivial hy hr
    rw [hrt] at h2
    exact Nat.le_trans (h1 r' hr8') h2
  by_cases hl : m < L.length
  · obtain ⟨x, hx, hrd, hrep⟩ := q.first1 r hr8 (by rw [← hmr]; exact hl)
    rw [← hmr] at hx
    refine .inl ⟨hl, x, hx, hrd, find_at hx hrd (fun j z hj hz => ?_), by rw [hrep]; exact hmr⟩
    cases hz' : rdyC h z with
    | false => rfl
    | true => have := key j z hz hz'; omega
  · refine .inr ⟨by have := q.fle r hr8; omega, find_no fun x hx => ?_⟩
    obtain ⟨i, hi⟩ := List.getElem?_of_mem hx
    have hil := (List.getElem?_eq_some_iff.1 hi).1
    cases hz' : rdyC h x with
    | false => rfl
    | true => have := key i x hi hz'; omega
/-- An act is delivered: what waited for it is to be laid anew. -/
theorem QI.deliver {L : List Ac} {h : List Int} {f : List Nat} {g : Int → Int → List Nat} (q : QI L h (fun _ => True) f g) (hh : h.length = 8) {x : Ac} (hrd : rdyC h x = true) :
    QI L (adv h x) (fun i => ¬ i ∈ g x.rep x.num) (f.set x.rep.toNat L.length) (delG g x.rep x.num) := by
  obtain ⟨r, hrr, hrt, hr8, hn1, hen, _, _⟩ := rdy_at hrd
  have he := fun k => adv_en hh hrd k
  rw [hrt] at he ⊢
  have hfs := fun j => fn_set (f := f) (r := r) (j := j) (y := L.length) (by rw [q.fl]; exact hr8)
  have hle : ∀ k, en h k ≤ en (adv h x) k := fun k => adv_le hh hrd k
  have hstep : ∀ k, en (adv h x) k = en h k ∨ (k = r ∧ en (adv h x) k = x.num) := fun k => by
    rw [he]
    split
    · rename_i e; exact .inr ⟨e, rfl⟩
    · exact .inl rfl
  have woke : ∀ i y (r' : Nat), L[i]? = some y → en h r' < en y.ck r' → en y.ck r' ≤ en (adv h x) r' → i ∈ g r' (en y.ck r') → i ∈ g x.rep x.num := fun i y r' _ h1 h2 h3 => by
    rcases hstep r' with e | ⟨e1, e2⟩
    · rw [e] at h2; omega
    · subst e1
      rw [e2] at h2
      have : en y.ck r' = x.num := by omega
      rw [this] at h3
      rw [hrr]
      exact h3
  refine ⟨by rw [List.length_set]; exact q.fl, fun j hj => ?_, fun j hj hl => ?_, fun i y hi hy hr => ?_, fun i y hi hy => ?_, fun a b i hi => ?_, fun a b a' b' i hi hi' => ?_, fun a b => ?_⟩
  · rw [hfs]
    split
    · exact Nat.le_refl _
    · exact q.fle j hj
  · rw [hfs] at hl ⊢
    split at hl
    · omega
    · rename_i e
      rw [if_neg e]
      obtain ⟨y, hy, hyr, hyj⟩ := q.first1 j hj hl
      refine ⟨y, hy, ?_, hyj⟩
      obtain ⟨r', g1, g2, g3, g4, g5, g6, g7⟩ := rdy_at hyr
      have hr'j : r' = j := by omega
      subst hr'j
      refine rdy_of g1 g3 g4 (by rw [he, if_neg e]; exact g5) g6 (cov_iff.2 fun k hk => Int.le_trans (cov_iff.1 g7 k hk) (hle k))
  · obtain ⟨r', g1, g2, g3, g4, g5, g6, g7⟩ := rdy_at hr
    have hcov := fun k hk => cov_iff.1 g7 k hk
    rcases q.wait i y trivial hy with ⟨r2, a1, a2, a3⟩ | a1
    · exact absurd (woke i y r2 hy a2 (hcov r2 a1) a3) hi
    · by_cases e : r' = r
      · subst e
        have := a1 r' g3
        rw [he, if_pos rfl] at g5
        omega
      · have hyr : rdyC h y = true := rdy_of g1 g3 g4 (by have := g5; rw [he, if_neg e] at this; exact this) g6 (cov_iff.2 fun k hk => a1 k hk)
        have := q.first2 i y trivial hy hyr
        rw [g2] at this ⊢
        rw [hfs, if_neg e]
        exact this
  · rcases q.wait i y trivial hy with ⟨r2, a1, a2, a3⟩ | a1
    · by_cases hl : en (adv h x) r2 < en y.ck r2
      · refine .inl ⟨r2, a1, hl, ?_⟩
        unfold delG
        rw [if_neg (fun e => hi (by rw [← e.1, ← e.2]; exact a3))]
        exact a3
      · exact absurd (woke i y r2 hy a2 (by omega) a3) hi
    · exact .inr fun k hk => Int.le_trans (a1 k hk) (hle k)
  · unfold delG at hi
    split at hi
    · cases hi
    · rename_i e
      exact ⟨fun hm => e (q.gone a b x.rep x.num i hi hm), (q.gin a b i hi).2⟩
  · unfold delG at hi hi'
    split at hi
    · cases hi
    · split at hi'
      · cases hi'
      · exact q.gone a b a' b' i hi hi'
  · unfold delG
    split
    · exact List.nodup_nil
    · exact q.gnd a b
theorem adv_num {h : List Int} {x : Ac} (hrd : rdyC h x = true) : adv h x = h.set x.rep.toNat x.num := by
  obtain ⟨r, _, hrt, _, _, hen, _⟩ := rdy_at hrd
  unfold adv
  rw [hrt, hen]
  congr 1
  omega
end Go.Proofs.YtlkcjbmdeimocaaDoor
