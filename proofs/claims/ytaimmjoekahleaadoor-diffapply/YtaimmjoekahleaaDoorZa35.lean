
/-
  Edits done to a row of characters, and taken back: plain lists.
-/
import Derived.Test.YtaimmjoekahleaaDoorZa28
namespace Go.Proofs.YtaimmjoekahleaaDoor
set_option maxRecDepth 100000

theorem take_mid {xs : List Int} {a b : Nat} (h : a ≤ b) : xs.take a ++ ((xs.take b).drop a ++ xs.drop b) = xs := by
  rw [← List.append_assoc]
  have e : xs.take a = (xs.take b).take a := by rw [List.take_take, Nat.min_eq_left h]
  rw [e, List.take_append_drop, List.take_append_drop]

/-- Why an edit can't be done to so many characters: 1 its place, 2 its text. -/
def ckE (n : Nat) (e : Edt) : Option Nat :=
  if e.at' < 0 ∨ (n : Int) < e.at' ∨ e.er < 0 ∨ (n : Int) - e.at' < e.er then some 1 else if Lib.validD e.ins.data.toList = false then some 2 else none
/-- An edit, done. -/
def apE (xs : List Int) (e : Edt) : List Int := xs.take e.at'.toNat ++ (rn e.ins.data.toList ++ xs.drop (e.at'.toNat + e.er.toNat))
/-- What takes it back. -/
def ivE (xs : List Int) (e : Edt) : Edt := ⟨e.at', ((rn e.ins.data.toList).length : Int), tx ((xs.take (e.at'.toNat + e.er.toNat)).drop e.at'.toNat)⟩
/-- Edits, done one behind the other: the row, and what was done is told backwards. -/
def apL : List Int → List Edt → List Int
  | xs, [] => xs
  | xs, e :: l => apL (apE xs e) l
def ivL : List Int → List Edt → List Edt
  | _, [] => []
  | xs, e :: l => ivL (apE xs e) l ++ [ivE xs e]
/-- The first that can't be done, and why. -/
def ckL : Nat → List Int → List Edt → Option (Nat × Nat)
  | _, _, [] => none
  | k, xs, e :: l => match ckE xs.length e with
    | some c => some (k, c)
    | none => ckL (k + 1) (apE xs e) l

theorem ckE_ok {n : Nat} {e : Edt} (h : ckE n e = none) : 0 ≤ e.at' ∧ 0 ≤ e.er ∧ e.at'.toNat + e.er.toNat ≤ n ∧ Lib.validD e.ins.data.toList = true := by
  unfold ckE at h
  split at h
  · cases h
  · split at h
    · cases h
    · refine ⟨by omega, by omega, by omega, by simpa using ‹¬ Lib.validD e.ins.data.toList = false›⟩
theorem ckE_lt {n : Nat} {e : Edt} {c : Nat} (h : ckE n e = some c) : c = 1 ∧ (e.at' < 0 ∨ (n : Int) < e.at' ∨ e.er < 0 ∨ (n : Int) - e.at' < e.er) ∨ c = 2 ∧ ¬ (e.at' < 0 ∨ (n : Int) < e.at' ∨ e.er < 0 ∨ (n : Int) - e.at' < e.er) ∧ Lib.validD e.ins.data.toList = false := by
  unfold ckE at h
  split at h
  · cases h
    exact .inl ⟨rfl, ‹_›⟩
  · split at h
    · cases h
      exact .inr ⟨rfl, ‹_›, ‹_›⟩
    · cases h
theorem apE_len {xs : List Int} {e : Edt} (h : ckE xs.length e = none) : (apE xs e).length = xs.length - e.er.toNat + (rn e.ins.data.toList).length := by
  obtain ⟨h1, h2, h3, h4⟩ := ckE_ok h
  unfold apE
  rw [List.length_append, List.length_append, List.length_take, List.length_drop]
  omega
theorem apE_ru {xs : List Int} {e : Edt} (hx : ∀ r ∈ xs, Ru r) (hv : Lib.validD e.ins.data.toList = true) : ∀ r ∈ apE xs e, Ru r := by
  intro r hr
  unfold apE at hr
  rcases List.mem_append.1 hr with h | h
  · exact hx r (List.mem_of_mem_take h)
  · rcases List.mem_append.1 h with h | h
    · exact rn_ru _ _ (Nat.le_refl _) hv r h
    · exact hx r (List.mem_of_mem_drop h)
theorem ivL_len : ∀ (l : List Edt) (xs : List Int), (ivL xs l).length = l.length
  | [], _ => rfl
  | e :: l, xs => by
    rw [ivL, List.length_append, ivL_len l]
    rfl
theorem ivE_ok {xs : List Int} {e : Edt} (hx : ∀ r ∈ xs, Ru r) (h : ckE xs.length e = none) : ckE (apE xs e).length (ivE xs e) = none ∧ apE (apE xs e) (ivE xs e) = xs := by
  obtain ⟨h1, h2, h3, h4⟩ := ckE_ok h
  have hl := apE_len h
  have hru : ∀ r ∈ (xs.take (e.at'.toNat + e.er.toNat)).drop e.at'.toNat, Ru r := fun r hr => hx r (List.mem_of_mem_take (List.mem_of_mem_drop hr))
  have hv := valid_tx hru
  have hr := rn_tx hru
  refine ⟨?_, ?_⟩
  · unfold ckE ivE
    dsimp only
    rw [if_neg (by omega), hv, if_neg (by decide)]
  · have e1 : (ivE xs e).at'.toNat = e.at'.toNat := rfl
    have e2 : (ivE xs e).er.toNat = (rn e.ins.data.toList).length := by show ((rn e.ins.data.toList).length : Int).toNat = _; omega
    have e3 : rn (ivE xs e).ins.data.toList = (xs.take (e.at'.toNat + e.er.toNat)).drop e.at'.toNat := hr
    have q : apE (apE xs e) (ivE xs e) = (apE xs e).take (ivE xs e).at'.toNat ++ (rn (ivE xs e).ins.data.toList ++ (apE xs e).drop ((ivE xs e).at'.toNat + (ivE xs e).er.toNat)) := rfl
    rw [q, e1, e2, e3]
    have ht : (xs.take e.at'.toNat).length = e.at'.toNat := by rw [List.length_take]; omega
    have q1 : (apE xs e).take e.at'.toNat = xs.take e.at'.toNat := by
      unfold apE
      rw [List.take_append_of_le_length (by omega), List.take_of_length_le (by omega)]
    have q2 : (apE xs e).drop (e.at'.toNat + (rn e.ins.data.toList).length) = xs.drop (e.at'.toNat + e.er.toNat) := by
      unfold apE
      rw [← List.append_assoc]
      exact List.drop_left' (by rw [List.length_append]; omega)
    rw [q1, q2]
    exact take_mid (by omega)
/-- Edits one behind the other. -/
theorem apL_app : ∀ (l m : List Edt) (xs : List Int), apL xs (l ++ m) = apL (apL xs l) m
  | [], _, _ => rfl
  | e :: l, m, xs => by rw [List.cons_append, apL, apL, apL_app l]
theorem ckL_at : ∀ (l : List Edt) (k k' : Nat) (xs : List Int), ckL k xs l = none → ckL k' xs l = none
  | [], _, _, _, _ => rfl
  | e :: l, k, k', xs, h => by
    rw [ckL] at h ⊢
    cases hc : ckE xs.length e with
    | some c => rw [hc] at h; cases h
    | none => rw [hc] at h; exact ckL_at l _ _ _ h
theorem ckL_cons {k : Nat} {xs : List Int} {e : Edt} {l : List Edt} (h : ckL k xs (e :: l) = none) : ckE xs.length e = none ∧ ckL (k + 1) (apE xs e) l = none := by
  rw [ckL] at h
  cases hc : ckE xs.length e with
  | some c => rw [hc] at h; cases h
  | none => rw [hc] at h; exact ⟨rfl, h⟩
theorem ckL_app : ∀ (l m : List Edt) (k k' : Nat) (xs : List Int), ckL k xs l = none → ckL k' (apL xs l) m = none → ckL k xs (l ++ m) = none
  | [], m, k, k', xs, _, h => ckL_at m k' k xs h
  | e :: l, m, k, k', xs, h, g => by
    obtain ⟨h1, h2⟩ := ckL_cons h
    rw [List.cons_append, ckL, h1]
    exact ckL_app l m (k + 1) k' _ h2 g
theorem apL_ru : ∀ (l : List Edt) (k : Nat) (xs : List Int), (∀ r ∈ xs, Ru r) → ckL k xs l = none → ∀ r ∈ apL xs l, Ru r
  | [], _, _, h, _ => h
  | e :: l, k, xs, h, hc => by
    obtain ⟨h1, h2⟩ := ckL_cons hc
    exact apL_ru l (k + 1) _ (apE_ru h (ckE_ok h1).2.2.2) h2
/-- What was done is taken back. -/
theorem ivL_ok : ∀ (l : List Edt) (k : Nat) (xs : List Int), (∀ r ∈ xs, Ru r) → ckL k xs l = none → ckL 0 (apL xs l) (ivL xs l) = none ∧ apL (apL xs l) (ivL xs l) = xs
  | [], _, _, _, _ => ⟨rfl, rfl⟩
  | e :: l, k, xs, h, hc => by
    obtain ⟨h1, h2⟩ := ckL_cons hc
    obtain ⟨q1, q2⟩ := ivL_ok l (k + 1) _ (apE_ru h (ckE_ok h1).2.2.2) h2
    obtain ⟨r1, r2⟩ := ivE_ok h h1
    rw [apL, ivL]
    refine ⟨ckL_app _ _ 0 0 _ q1 ?_, ?_⟩
    · rw [q2, ckL, r1]
      rfl
    · rw [apL_app, q2, apL, r2]
      rfl
/-- The length stays small. -/
theorem apE_le {xs : List Int} {e : Edt} (h : ckE xs.length e = none) : (apE xs e).length ≤ xs.length + e.ins.size := by
  have h1 := apE_len h
  have h2 := rn_len e.ins.data.toList
  have h3 : e.ins.data.toList.length = e.ins.size := Array.length_toList
  omega

/-- How much edits erase and insert. -/
def wth (l : List Edt) : Int := (l.map fun e => e.er + ((rn e.ins.data.toList).length : Int)).sum
/-- Each does something, and they rise. -/
def rise : Int → List Edt → Prop
  | _, [] => True
  | last, e :: l => 1 ≤ e.er + ((rn e.ins.data.toList).length : Int) ∧ last < e.at' ∧ rise (e.at' + ((rn e.ins.data.toList).length : Int)) l
theorem rise_less : ∀ (l : List Edt) (a b : Int), rise a l → b ≤ a → rise b l
  | [], _, _, _, _ => trivial
  | _ :: _, _, _, h, hb => ⟨h.1, Int.lt_of_le_of_lt hb h.2.1, h.2.2⟩
theorem bt_do {xs ys : List Int} (hy : ∀ r ∈ ys, Ru r) : ∀ (l : List (Nat × Nat)) (i j k : Nat), Kc xs ys i j l →
    ckL k (ys.take j ++ xs.drop i) (bt ys i j (l ++ [(xs.length, ys.length)])) = none ∧
    apL (ys.take j ++ xs.drop i) (bt ys i j (l ++ [(xs.length, ys.length)])) = ys ∧
    rise ((j : Int) - 1) (bt ys i j (l ++ [(xs.length, ys.length)])) ∧
    wth (bt ys i j (l ++ [(xs.length, ys.length)])) = ((xs.length : Int) - i) + ((ys.length : Int) - j) - 2 * l.length := by
  have one : ∀ (i j p q : Nat), i ≤ p → j ≤ q → p ≤ xs.length → q ≤ ys.length → ¬ (p = i ∧ q = j) → ∃ e : Edt, e = ⟨(j : Int), (p : Int) - (i : Int), tx ((ys.take q).drop j)⟩ ∧
      ckE (ys.take j ++ xs.drop i).length e = none ∧ apE (ys.take j ++ xs.drop i) e = ys.take q ++ xs.drop p ∧ 1 ≤ e.er + ((rn e.ins.data.toList).length : Int) ∧ e.at' + ((rn e.ins.data.toList).length : Int) = q ∧ e.er + ((rn e.ins.data.toList).length : Int) = ((p : Int) - i) + ((q : Int) - j) := by
    intro i j p q hip hjq hp hq hne
    have hru : ∀ r ∈ (ys.take q).drop j, Ru r := fun r hr => hy r (List.mem_of_mem_take (List.mem_of_mem_drop hr))
    have hv := valid_tx hru
    have hr := rn_tx hru
    have hlen : ((ys.take q).drop j).length = q - j := by rw [List.length_drop, List.length_take, Nat.min_eq_left hq]
    refine ⟨_, rfl, ?_, ?_, ?_, ?_, ?_⟩
    · unfold ckE
      dsimp only
      rw [List.length_append, List.length_take, List.length_drop, if_neg (by omega), hv, if_neg (by decide)]
    · unfold apE
      dsimp only
      rw [hr]
      have e1 : (j : Int).toNat = j := by omega
      have e2 : ((p : Int) - (i : Int)).toNat = p - i := by omega
      rw [e1, e2]
      have ht : (ys.take j).length = j := by rw [List.length_take]; omega
      rw [List.take_append_of_le_length (by omega), List.take_of_length_le (by omega)]
      have e3 : (ys.take j ++ xs.drop i).drop (j + (p - i)) = xs.drop p := by
        rw [List.drop_append, ht, List.drop_eq_nil_of_le (by omega), List.nil_append, List.drop_drop]
        congr 1
        omega
      rw [e3, ← List.append_assoc]
      congr 1
      have e4 : ys.take j = (ys.take q).take j := by rw [List.take_take, Nat.min_eq_left hjq]
      rw [e4, List.take_append_drop]
    · dsimp only
      rw [hr, hlen]
      omega
    · dsimp only
      rw [hr, hlen]
      omega
    · dsimp only
      rw [hr, hlen]
      omega
  intro l
  induction l with
  | nil =>
    intro i j k h
    have h1 : i ≤ xs.length := h.1
    have h2 : j ≤ ys.length := h.2
    have e0 : ys.take ys.length ++ xs.drop xs.length = ys := by rw [List.take_length, List.drop_length, List.append_nil]
    rw [List.nil_append, bt, bt, List.append_nil]
    by_cases hpe : xs.length = i ∧ ys.length = j
    · rw [if_pos hpe]
      obtain ⟨rfl, rfl⟩ := hpe
      refine ⟨rfl, e0, trivial, ?_⟩
      unfold wth
      simp
    · rw [if_neg hpe]
      obtain ⟨e, he, a1, a2, a3, a4, a5⟩ := one i j xs.length ys.length h1 h2 (Nat.le_refl _) (Nat.le_refl _) hpe
      rw [← he]
      refine ⟨?_, ?_, ⟨a3, by rw [he]; dsimp only; omega, trivial⟩, ?_⟩
      · rw [ckL, a1]
        rfl
      · rw [apL, a2]
        exact e0
      · unfold wth
        simp only [List.map_cons, List.map_nil, List.sum_cons, List.sum_nil, List.length_nil]
        omega
  | cons pq l ih =>
    obtain ⟨p, q⟩ := pq
    intro i j k h
    obtain ⟨h1, h2, ⟨a, h3, h4⟩, h5⟩ := h
    have hp := (List.getElem?_eq_some_iff.1 h3).1
    have hq := (List.getElem?_eq_some_iff.1 h4).1
    have e0 : ys.take q ++ xs.drop p = ys.take (q + 1) ++ xs.drop (p + 1) := by
      rw [List.take_add_one, h4, dropc h3]
      simp
    rw [List.cons_append, bt]
    by_cases hpe : p = i ∧ q = j
    · rw [if_pos hpe, List.nil_append]
      obtain ⟨rfl, rfl⟩ := hpe
      obtain ⟨i1, i2, i3, i4⟩ := ih (p + 1) (q + 1) k h5
      rw [e0]
      refine ⟨i1, i2, rise_less _ _ _ i3 (by omega), ?_⟩
      rw [i4, List.length_cons]
      omega
    · rw [if_neg hpe]
      obtain ⟨e, he, a1, a2, a3, a4, a5⟩ := one i j p q h1 h2 (by omega) (by omega) hpe
      obtain ⟨i1, i2, i3, i4⟩ := ih (p + 1) (q + 1) (k + 1) h5
      rw [← he, List.singleton_append]
      refine ⟨?_, ?_, ⟨a3, by rw [he]; dsimp only; omega, ?_⟩, ?_⟩
      · rw [ckL, a1, a2, e0]
        exact i1
      · rw [apL, a2, e0]
        exact i2
      · rw [a4]
        exact rise_less _ _ _ i3 (by omega)
      · have : wth (e :: bt ys (p + 1) (q + 1) (l ++ [(xs.length, ys.length)])) = (e.er + ((rn e.ins.data.toList).length : Int)) + wth (bt ys (p + 1) (q + 1) (l ++ [(xs.length, ys.length)])) := by
          unfold wth
          simp
        rw [this, i4, List.length_cons]
        omega
end Go.Proofs.YtaimmjoekahleaaDoor
