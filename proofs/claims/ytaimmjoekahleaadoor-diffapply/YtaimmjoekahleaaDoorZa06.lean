
/-
  The distance of two rows, and the places that are kept: no program, plain lists.
-/
import Derived.Test.YtaimmjoekahleaaDoorZa05
namespace Go.Proofs.YtaimmjoekahleaaDoor

/-- How many must be erased and inserted. -/
def ds : List Int → List Int → Nat
  | [], y => y.length
  | a :: x, [] => x.length + 1
  | a :: x, b :: y => if a = b then ds x y else 1 + min (ds x (b :: y)) (ds (a :: x) y)
termination_by x y => x.length + y.length
theorem ds_nil (y : List Int) : ds [] y = y.length := by rw [ds]
theorem ds_nilr : ∀ x : List Int, ds x [] = x.length
  | [] => ds_nil []
  | a :: x => by rw [ds]; rfl
theorem ds_same (a : Int) (x y : List Int) : ds (a :: x) (a :: y) = ds x y := by rw [ds, if_pos rfl]
theorem ds_ne {a b : Int} (h : ¬ a = b) (x y : List Int) : ds (a :: x) (b :: y) = 1 + min (ds x (b :: y)) (ds (a :: x) y) := by rw [ds, if_neg h]
theorem ds_comm : ∀ (n : Nat) (x y : List Int), x.length + y.length ≤ n → ds x y = ds y x
  | _, [], y, _ => by rw [ds_nil, ds_nilr]
  | _, a :: x, [], _ => by rw [ds_nil, ds_nilr]
  | 0, a :: x, b :: y, h => by simp at h
  | n + 1, a :: x, b :: y, h => by
    simp only [List.length_cons] at h
    by_cases e : a = b
    · subst e
      rw [ds_same, ds_same, ds_comm n x y (by omega)]
    · rw [ds_ne e, ds_ne (fun q => e q.symm), ds_comm n x (b :: y) (by simp only [List.length_cons]; omega), ds_comm n (a :: x) y (by simp only [List.length_cons]; omega), Nat.min_comm]
theorem ds_sym (x y : List Int) : ds x y = ds y x := ds_comm _ x y (Nat.le_refl _)
/-- One more on one side is one more or less. -/
theorem ds_near : ∀ (n : Nat) (x y : List Int), x.length + y.length ≤ n → ∀ a, ds (a :: x) y ≤ 1 + ds x y ∧ ds x y ≤ 1 + ds (a :: x) y ∧ ds x (a :: y) ≤ 1 + ds x y ∧ ds x y ≤ 1 + ds x (a :: y)
  | n, [], [], _, a => by simp [ds_nil, ds_nilr]
  | n, [], b :: y, h, a => by
    have h1 : ds [a] (b :: y) ≤ 1 + ds [] (b :: y) := by
      by_cases e : a = b
      · subst e
        rw [ds_same, ds_nil, ds_nil]
        simp only [List.length_cons]
        omega
      · rw [ds_ne e]
        omega
    have h2 : ∀ y : List Int, y.length ≤ 1 + ds [a] y := by
      intro y
      induction y with
      | nil => simp
      | cons c y ih =>
        by_cases e : a = c
        · subst e
          rw [ds_same, ds_nil]
          simp only [List.length_cons]
          omega
        · rw [ds_ne e, ds_nil]
          simp only [List.length_cons]
          omega
    refine ⟨h1, ?_, ?_, ?_⟩
    · rw [ds_nil]
      exact h2 _
    · simp only [ds_nil, List.length_cons]
      omega
    · simp only [ds_nil, List.length_cons]
      omega
  | n, c :: x, [], h, a => by
    have h1 : ds (c :: x) [a] ≤ 1 + ds (c :: x) [] := by
      by_cases e : c = a
      · subst e
        rw [ds_same, ds_nilr, ds_nilr]
        simp only [List.length_cons]
        omega
      · rw [ds_ne e]
        omega
    have h2 : ∀ x : List Int, x.length ≤ 1 + ds x [a] := by
      intro x
      induction x with
      | nil => simp
      | cons c x ih =>
        by_cases e : c = a
        · subst e
          rw [ds_same, ds_nilr]
          simp only [List.length_cons]
          omega
        · rw [ds_ne e, ds_nilr]
          simp only [List.length_cons]
          omega
    refine ⟨?_, ?_, h1, ?_⟩
    · simp only [ds_nilr, List.length_cons]
      omega
    · simp only [ds_nilr, List.length_cons]
      omega
    · rw [ds_nilr]
      exact h2 _
  | 0, c :: x, b :: y, h, a => by simp at h
  | n + 1, c :: x, b :: y, h, a => by
    simp only [List.length_cons] at h
    have i1 := ds_near n x (b :: y) (by simp only [List.length_cons]; omega) c
    have i2 := ds_near n (c :: x) y (by simp only [List.length_cons]; omega) b
    have i3 := ds_near n x y (by omega) c
    have i4 := ds_near n x y (by omega) b
    refine ⟨?_, ?_, ?_, ?_⟩
    · by_cases e : a = b
      · subst e
        rw [ds_same]
        exact i2.2.2.2
      · rw [ds_ne e]
        omega
    · by_cases e : a = b
      · subst e
        rw [ds_same]
        exact i2.2.2.1
      · rw [ds_ne e]
        have j2 := ds_near n (c :: x) y (by simp only [List.length_cons]; omega) a
        have := i2.2.2.1
        omega
    · by_cases e : c = a
      · subst e
        rw [ds_same]
        exact i1.2.1
      · rw [ds_ne e]
        omega
    · by_cases e : c = a
      · subst e
        rw [ds_same]
        exact i1.1
      · rw [ds_ne e]
        have j1 := ds_near n x (b :: y) (by simp only [List.length_cons]; omega) a
        have := i1.1
        omega

/-- A way from one row to another, and how much it costs. -/
inductive Wy : Nat → List Int → List Int → Prop
  | none : Wy 0 [] []
  | keep {n : Nat} {x y : List Int} (a : Int) : Wy n x y → Wy n (a :: x) (a :: y)
  | del {n : Nat} {x y : List Int} (a : Int) : Wy n x y → Wy (n + 1) (a :: x) y
  | ins {n : Nat} {x y : List Int} (b : Int) : Wy n x y → Wy (n + 1) x (b :: y)
theorem Wy.least {n : Nat} {x y : List Int} (h : Wy n x y) : ds x y ≤ n := by
  induction h with
  | none => rw [ds_nil]; exact Nat.le_refl _
  | keep a _ ih => rw [ds_same]; exact ih
  | del a _ ih =>
    exact Nat.le_trans (ds_near _ _ _ (Nat.le_refl _) a).1 (by omega)
  | ins a _ ih =>
    exact Nat.le_trans (ds_near _ _ _ (Nat.le_refl _) a).2.2.1 (by omega)
theorem Wy.allIns : ∀ y : List Int, Wy y.length [] y
  | [] => .none
  | b :: y => .ins b (Wy.allIns y)
theorem Wy.allDel : ∀ x : List Int, Wy x.length x []
  | [] => .none
  | b :: y => .del b (Wy.allDel y)
theorem Wy.is : ∀ (n : Nat) (x y : List Int), x.length + y.length ≤ n → Wy (ds x y) x y
  | _, [], y, _ => by rw [ds_nil]; exact .allIns y
  | _, a :: x, [], _ => by rw [ds_nilr]; exact .allDel _
  | 0, a :: x, b :: y, h => by simp at h
  | n + 1, a :: x, b :: y, h => by
    simp only [List.length_cons] at h
    by_cases e : a = b
    · subst e
      rw [ds_same]
      exact .keep a (Wy.is n x y (by omega))
    · rw [ds_ne e]
      by_cases m : ds x (b :: y) ≤ ds (a :: x) y
      · rw [Nat.min_eq_left m, Nat.add_comm]
        exact .del a (Wy.is n _ _ (by simp only [List.length_cons]; omega))
      · rw [Nat.min_eq_right (by omega), Nat.add_comm]
        exact .ins b (Wy.is n _ _ (by simp only [List.length_cons]; omega))
theorem Wy.trans {n : Nat} {x y : List Int} (h : Wy n x y) : ∀ {m : Nat} {z : List Int}, Wy m y z → ∃ k, k ≤ n + m ∧ Wy k x z := by
  induction h with
  | none => exact fun {m z} k => ⟨m, by omega, k⟩
  | del a _ ih =>
    intro m z k
    obtain ⟨q, hq, r⟩ := ih k
    exact ⟨q + 1, by omega, .del a r⟩
  | keep a _ ih =>
    intro m z k
    generalize hy : (a :: _ : List Int) = yy at k
    induction k with
    | none => cases hy
    | keep b k _ =>
      cases hy
      obtain ⟨q, hq, r⟩ := ih k
      exact ⟨q, hq, .keep a r⟩
    | del b k _ =>
      cases hy
      obtain ⟨q, hq, r⟩ := ih k
      exact ⟨q + 1, by omega, .del a r⟩
    | ins b k jh =>
      obtain ⟨q, hq, r⟩ := jh hy
      exact ⟨q + 1, by omega, .ins b r⟩
  | ins b h ih =>
    intro m z k
    generalize hy : (b :: _ : List Int) = yy at k
    induction k with
    | none => cases hy
    | keep b k _ =>
      cases hy
      obtain ⟨q, hq, r⟩ := ih k
      exact ⟨q + 1, by omega, .ins b r⟩
    | del b k _ =>
      cases hy
      obtain ⟨q, hq, r⟩ := ih k
      exact ⟨q, by omega, r⟩
    | ins b k jh =>
      obtain ⟨q, hq, r⟩ := jh hy
      exact ⟨q + 1, by omega, .ins b r⟩
/-- By way of a third row it is no shorter. -/
theorem ds_tri (x y z : List Int) : ds x z ≤ ds x y + ds y z := by
  obtain ⟨k, hk, h⟩ := (Wy.is _ x y (Nat.le_refl _)).trans (Wy.is _ y z (Nat.le_refl _))
  exact Nat.le_trans h.least hk

/-- The places that are kept. -/
def kp (i j : Nat) : List Int → List Int → List (Nat × Nat)
  | [], _ => []
  | _ :: _, [] => []
  | a :: x, b :: y => if a = b then (i, j) :: kp (i + 1) (j + 1) x y else if ds x (b :: y) ≤ ds (a :: x) y then kp (i + 1) j x (b :: y) else kp i (j + 1) (a :: x) y
termination_by x y => x.length + y.length
theorem kp_nil (i j : Nat) (y : List Int) : kp i j [] y = [] := by rw [kp]
theorem kp_nilr (i j : Nat) : ∀ x : List Int, kp i j x [] = []
  | [] => kp_nil i j []
  | a :: x => by rw [kp]
theorem kp_same (i j : Nat) (a : Int) (x y : List Int) : kp i j (a :: x) (a :: y) = (i, j) :: kp (i + 1) (j + 1) x y := by rw [kp, if_pos rfl]
theorem kp_del (i j : Nat) {a b : Int} {x y : List Int} (h : ¬ a = b) (m : ds x (b :: y) ≤ ds (a :: x) y) : kp i j (a :: x) (b :: y) = kp (i + 1) j x (b :: y) := by rw [kp, if_neg h, if_pos m]
theorem kp_ins (i j : Nat) {a b : Int} {x y : List Int} (h : ¬ a = b) (m : ¬ ds x (b :: y) ≤ ds (a :: x) y) : kp i j (a :: x) (b :: y) = kp i (j + 1) (a :: x) y := by rw [kp, if_neg h, if_neg m]
theorem kp_len : ∀ (n i j : Nat) (x y : List Int), x.length + y.length ≤ n → x.length + y.length = ds x y + 2 * (kp i j x y).length
  | _, i, j, [], y, _ => by rw [ds_nil, kp_nil]; simp
  | _, i, j, a :: x, [], _ => by rw [ds_nilr, kp_nilr]; simp
  | 0, i, j, a :: x, b :: y, h => by simp at h
  | n + 1, i, j, a :: x, b :: y, h => by
    simp only [List.length_cons] at h ⊢
    by_cases e : a = b
    · subst e
      rw [ds_same, kp_same]
      have := kp_len n (i + 1) (j + 1) x y (by omega)
      simp only [List.length_cons]
      omega
    · rw [ds_ne e]
      by_cases m : ds x (b :: y) ≤ ds (a :: x) y
      · rw [kp_del i j e m, Nat.min_eq_left m]
        have := kp_len n (i + 1) j x (b :: y) (by simp only [List.length_cons]; omega)
        simp only [List.length_cons] at this
        omega
      · rw [kp_ins i j e m, Nat.min_eq_right (by omega)]
        have := kp_len n i (j + 1) (a :: x) y (by simp only [List.length_cons]; omega)
        simp only [List.length_cons] at this
        omega
/-- What is kept rises in both, and is alike there. -/
def Kc (x y : List Int) : Nat → Nat → List (Nat × Nat) → Prop
  | i, j, [] => i ≤ x.length ∧ j ≤ y.length
  | i, j, (p, q) :: l => i ≤ p ∧ j ≤ q ∧ (∃ a, x[p]? = some a ∧ y[q]? = some a) ∧ Kc x y (p + 1) (q + 1) l
theorem Kc.less {x y : List Int} {i j : Nat} {l : List (Nat × Nat)} (h : Kc x y i j l) {i' j' : Nat} (hi : i' ≤ i) (hj : j' ≤ j) : Kc x y i' j' l := by
  cases l with
  | nil => exact ⟨Nat.le_trans hi h.1, Nat.le_trans hj h.2⟩
  | cons p l =>
    obtain ⟨p, q⟩ := p
    exact ⟨Nat.le_trans hi h.1, Nat.le_trans hj h.2.1, h.2.2⟩
theorem drop_cons {x : List Int} {i : Nat} {a : Int} {r : List Int} (h : x.drop i = a :: r) : x[i]? = some a ∧ x.drop (i + 1) = r ∧ i < x.length := by
  have hl : i < x.length := by
    have := congrArg List.length h
    simp at this
    omega
  refine ⟨?_, ?_, hl⟩
  · have : (x.drop i)[0]? = some a := by rw [h]; rfl
    simpa using this
  · rw [← List.tail_drop, h]
    rfl
theorem kp_kc : ∀ (n : Nat) (x y : List Int) (i j : Nat), i ≤ x.length → j ≤ y.length → (x.drop i).length + (y.drop j).length ≤ n → Kc x y i j (kp i j (x.drop i) (y.drop j)) := by
  intro n
  induction n with
  | zero =>
    intro x y i j hi hj h
    have : x.drop i = [] := List.eq_nil_of_length_eq_zero (by omega)
    rw [this, kp_nil]
    exact ⟨hi, hj⟩
  | succ n ih =>
    intro x y i j hi hj h
    cases hx : x.drop i with
    | nil => rw [kp_nil]; exact ⟨hi, hj⟩
    | cons a r =>
      cases hy : y.drop j with
      | nil => rw [kp_nilr]; exact ⟨hi, hj⟩
      | cons b t =>
        obtain ⟨x1, x2, x3⟩ := drop_cons hx
        obtain ⟨y1, y2, y3⟩ := drop_cons hy
        simp only [List.length_drop] at h ih
        by_cases e : a = b
        · subst e
          rw [kp_same]
          refine ⟨Nat.le_refl _, Nat.le_refl _, ⟨a, x1, y1⟩, ?_⟩
          rw [← x2, ← y2]
          exact ih x y (i + 1) (j + 1) (by omega) (by omega) (by omega)
        · by_cases m : ds r (b :: t) ≤ ds (a :: r) t
          · rw [kp_del i j e m, ← x2, ← hy]
            exact (ih x y (i + 1) j (by omega) hj (by omega)).less (by omega) (Nat.le_refl _)
          · rw [kp_ins i j e m, ← y2, ← hx]
            exact (ih x y i (j + 1) hi (by omega) (by omega)).less (Nat.le_refl _) (by omega)
end Go.Proofs.YtaimmjoekahleaaDoor
