
/-
  barrowlaw15.DiffShortest holds of any two texts.
-/
import Derived.Test.YtkiloceaelmcfaaDoorEd1
import Derived.Test.YtkiloceaelmcfaaDoorDl2
namespace Go.Proofs.YtkiloceaelmcfaaDoor
open Go.RowKit Go.Extern.Stop Go.Stop Go.Extern
set_option maxRecDepth 100000

theorem ckL_valid : ∀ (l : List Edt) (k : Nat) (xs : List Int), ckL k xs l = none → ∀ e ∈ l, Lib.validD e.ins.data.toList = true
  | [], _, _, _, e, he => by simp at he
  | x :: l, k, xs, h, e, he => by
    obtain ⟨h1, h2⟩ := ckL_cons h
    rcases List.mem_cons.1 he with rfl | he
    · exact (ckE_ok h1).2.2.2
    · exact ckL_valid l (k + 1) _ h2 e he
theorem bt_in {ys : List Int} {n m : Nat} : ∀ (l : List (Nat × Nat)) (i j : Nat), Kl n m i j l → ∀ e ∈ bt ys i j l, 0 ≤ e.at' ∧ e.at' ≤ m ∧ 0 ≤ e.er ∧ e.er ≤ n ∧ e.ins.size ≤ 4 * ys.length
  | [], _, _, _, e, he => by simp [bt] at he
  | (p, q) :: l, i, j, h, e, he => by
    obtain ⟨h1, h2, h3, h4, h5⟩ := h
    rw [bt] at he
    rcases List.mem_append.1 he with he | he
    · split at he
      · simp at he
      · rw [List.mem_singleton] at he
        subst he
        have h6 := tx_size ((ys.take q).drop j)
        have h7 : ((ys.take q).drop j).length ≤ ys.length := by rw [List.length_drop, List.length_take]; omega
        dsimp only
        omega
    · exact bt_in l (p + 1) (q + 1) h5 e he
theorem bt_len (ys : List Int) : ∀ (l : List (Nat × Nat)) (i j : Nat), (bt ys i j l).length ≤ l.length
  | [], _, _ => by simp [bt]
  | (p, q) :: l, i, j => by
    have := bt_len ys l (p + 1) (q + 1)
    rw [bt, List.length_append, List.length_cons]
    split
    · simp
      omega
    · simp
      omega
theorem wth_one (l : List Edt) (e : Edt) : wth (l ++ [e]) = wth l + (e.er + ((rn e.ins.data.toList).length : Int)) := by
  unfold wth
  simp
theorem wth_pos : ∀ (l : List Edt) (a : Int), rise a l → wth l = 0 → l = []
  | [], _, _, _ => rfl
  | e :: l, a, h, hw => by
    exfalso
    have hp : ∀ (l : List Edt) (a : Int), rise a l → 0 ≤ wth l := by
      intro l
      induction l with
      | nil => intro _ _; exact Int.le_refl _
      | cons x l ih =>
        intro a h
        have h1 := h.1
        have h2 := ih _ h.2.2
        have : wth (x :: l) = (x.er + ((rn x.ins.data.toList).length : Int)) + wth l := by unfold wth; simp
        omega
    have h1 := h.1
    have h2 := hp l _ h.2.2
    have : wth (e :: l) = (e.er + ((rn e.ins.data.toList).length : Int)) + wth l := by unfold wth; simp
    omega
/-- What the shortest edits are. -/
theorem eds_all {xs ys : List Int} (hy : ∀ r ∈ ys, Ru r) (hx : xs.length ≤ 120) (hyl : ys.length ≤ 120) :
    ckL 0 xs (eds xs ys) = none ∧ apL xs (eds xs ys) = ys ∧ rise (-1) (eds xs ys) ∧ wth (eds xs ys) = ds xs ys ∧ (eds xs ys).length ≤ 121 ∧ (∀ e ∈ eds xs ys, 0 ≤ e.at' ∧ e.at' ≤ 120 ∧ 0 ≤ e.er ∧ e.er ≤ 120 ∧ e.ins.size ≤ 480) ∧ ∀ e ∈ eds xs ys, Lib.validD e.ins.data.toList = true := by
  obtain ⟨h1, h2, h3, h4⟩ := bt_do (xs := xs) hy (kp 0 0 xs ys) 0 0 0 (kp_kc0 xs ys)
  rw [List.take_zero, List.drop_zero, List.nil_append] at h1 h2
  have hk := kp_len _ 0 0 xs ys (Nat.le_refl _)
  refine ⟨h1, h2, h3, ?_, ?_, fun e he => ?_, ckL_valid _ 0 _ h1⟩
  · unfold eds
    rw [h4]
    omega
  · unfold eds
    have := bt_len ys (kp 0 0 xs ys ++ [(xs.length, ys.length)]) 0 0
    rw [List.length_append, List.length_singleton] at this
    omega
  · have := bt_in (ys := ys) _ 0 0 (kp_kc0 xs ys).kl e he
    omega
theorem lenI_is {s : ByteArray} (h : Lib.validD s.data.toList = true) : lenI s = ((rn s.data.toList).length : Int) := by
  unfold lenI
  rw [if_pos h]
theorem ds_zero {a b : ByteArray} (ha : Lib.validD a.data.toList = true) (hb : Lib.validD b.data.toList = true) (h1 : (rn a.data.toList).length ≤ 120) (h2 : (rn b.data.toList).length ≤ 120) (h : ds (rn a.data.toList) (rn b.data.toList) = 0) : a = b := by
  obtain ⟨_, e2, e3, e4, _⟩ := eds_all (xs := rn a.data.toList) (rn_ru _ _ (Nat.le_refl _) hb) h1 h2
  rw [h] at e4
  rw [wth_pos _ _ e3 (by simpa using e4)] at e2
  have : rn a.data.toList = rn b.data.toList := e2
  rw [← tx_rn ha, ← tx_rn hb, this]
end Go.Proofs.YtkiloceaelmcfaaDoor
