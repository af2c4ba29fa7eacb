
/-
  What was written is read again: numbers, texts, Items, in plain lists; every beginning is cut short.
-/
import Derived.Test.YtfiajbgeijgheaaDoorTxt
import Derived.Test.YtfiajbgeijgheaaDoorRd3
import Derived.Test.YtfiajbgeijgheaaDoorOpenI
namespace Go.Proofs.YtfiajbgeijgheaaDoor

theorem form_ne (n : Nat) : formN n ≠ [] := by
  by_cases h : n < 128
  · rw [form_small h]; simp
  · rw [form_big h]; simp

theorem back_len : ∀ (k n : Nat), n < 128 ^ (k + 1) → (formN n).length ≤ k + 1
  | 0, n, h => by rw [form_small (by simpa using h)]; simp
  | k + 1, n, h => by
    by_cases hn : n < 128
    · rw [form_small hn]; simp
    · rw [form_big hn]
      have := back_len k (n / 128) (by rw [Nat.pow_succ] at h; omega)
      simp; omega

theorem span_form (n : Nat) (r : List UInt8) : ∀ i, i + (formN n).length ≤ 9 → spanFrom i (formN n ++ r) = .ok (i + (formN n).length) := by
  induction n using Nat.strongRecOn with
  | _ n ih =>
    intro i hi
    by_cases h : n < 128
    · rw [form_small h]
      have hb : UInt8.ofNat n < 128 := by simp [UInt8.lt_iff_toNat_lt]; omega
      simp [spanFrom, hb]
    · rw [form_big h] at hi ⊢
      have hb : ¬ UInt8.ofNat (n % 128 + 128) < 128 := by simp [UInt8.lt_iff_toNat_lt]; omega
      have h0 : 0 < (formN (n / 128)).length := List.length_pos_iff.2 (form_ne _)
      simp only [List.length_cons] at hi
      have := ih (n / 128) (by omega) (i + 1) (by omega)
      simp only [List.cons_append, spanFrom, if_neg hb, List.length_cons]
      rw [if_neg (by omega), this]
      congr 1
      omega

theorem span_cut (n : Nat) : ∀ i k, i + (formN n).length ≤ 9 → k < (formN n).length → spanFrom i ((formN n).take k) = .error 6 := by
  induction n using Nat.strongRecOn with
  | _ n ih =>
    intro i k hi hk
    cases k with
    | zero => simp [spanFrom]
    | succ k =>
      by_cases h : n < 128
      · rw [form_small h] at hk; simp at hk
      · rw [form_big h] at hi hk ⊢
        have hb : ¬ UInt8.ofNat (n % 128 + 128) < 128 := by simp [UInt8.lt_iff_toNat_lt]; omega
        simp only [List.length_cons] at hi hk
        simp only [List.take_succ_cons, spanFrom, if_neg hb]
        rw [if_neg (by omega)]
        exact ih (n / 128) (by omega) (i + 1) k (by omega) (by omega)

theorem form_last (n : Nat) : 1 < (formN n).length → (formN n)[(formN n).length - 1]? ≠ some 0 := by
  induction n using Nat.strongRecOn with
  | _ n ih =>
    intro hl
    by_cases h : n < 128
    · rw [form_small h] at hl; simp at hl
    · rw [form_big h]
      have h0 : 0 < (formN (n / 128)).length := List.length_pos_iff.2 (form_ne _)
      simp only [List.length_cons, Nat.add_sub_cancel]
      obtain ⟨m, hm⟩ : ∃ m, (formN (n / 128)).length = m + 1 := ⟨_, (Nat.succ_pred_eq_of_pos h0).symm⟩
      rw [hm, List.getElem?_cons_succ]
      by_cases h1 : n / 128 < 128
      · rw [form_small h1] at hm ⊢
        simp at hm
        subst hm
        simp only [List.getElem?_cons_zero, ne_eq, Option.some.injEq]
        intro e
        have := congrArg UInt8.toNat e
        simp at this
        omega
      · have := ih (n / 128) (by omega) (by
          rw [form_big h1]
          have := List.length_pos_iff.2 (form_ne (n / 128 / 128))
          simp; omega)
        rw [hm] at this
        simpa using this

/-- A number is read again. -/
theorem numR_back {n : Nat} {most : Int} (r : List UInt8) (h : n < 9223372036854775808) (hm : (n : Int) ≤ most) : numR (formN n ++ r) most = .ok (n, (formN n).length) := by
  have hl : (formN n).length ≤ 9 := back_len 8 n (by omega)
  have h0 : 0 < (formN n).length := List.length_pos_iff.2 (form_ne _)
  have hs := span_form n r 0 (by omega)
  rw [Nat.zero_add] at hs
  unfold numR
  rw [hs]
  simp only
  have hz : ¬ (1 < (formN n).length ∧ (formN n ++ r)[(formN n).length - 1]? = some 0) := by
    intro ⟨h1, h2⟩
    rw [List.getElem?_append_left (by omega)] at h2
    exact form_last n h1 h2
  rw [if_neg hz, List.take_left, numv_form, if_neg (by omega)]

/-- A number that is cut. -/
theorem numR_cut {n k : Nat} {most : Int} (h : n < 9223372036854775808) (hk : k < (formN n).length) : numR ((formN n).take k) most = .error 6 := by
  have hl : (formN n).length ≤ 9 := back_len 8 n (by omega)
  unfold numR
  rw [span_cut n 0 k (by omega) hk]

/-- P2.1: what a text has. -/
def formT (s : ByteArray) : List UInt8 := formN s.size ++ s.data.toList

theorem size_list (s : ByteArray) : s.data.toList.length = s.size := Array.length_toList

theorem txtR_back {s : ByteArray} {most : Int} (r : List UInt8) (h : s.size < 9223372036854775808) (hm : (s.size : Int) ≤ most) : txtR (formT s ++ r) most = .ok (s, (formT s).length) := by
  have hz := size_list s
  unfold txtR formT
  rw [List.append_assoc, numR_back _ h hm]
  simp only
  rw [if_neg (by simp [hz]), List.drop_left, ← hz, List.take_left]
  simp [hz]

theorem txtR_cut {s : ByteArray} {most : Int} {k : Nat} (h : s.size < 9223372036854775808) (hm : (s.size : Int) ≤ most) (hk : k < (formT s).length) : txtR ((formT s).take k) most = .error 6 := by
  have hz := size_list s
  unfold formT at hk ⊢
  rw [List.length_append, hz] at hk
  unfold txtR
  rw [List.take_append]
  by_cases hlt : k < (formN s.size).length
  · have e : k - (formN s.size).length = 0 := by omega
    rw [e, List.take_zero, List.append_nil, numR_cut h hlt]
  · rw [List.take_of_length_le (by omega), numR_back _ h hm]
    simp only
    rw [if_pos (by simp [hz]; omega)]

/-- What an Item is written as. -/
def Itm.form (x : Itm) : List UInt8 := if x.kind % 3 = 0 then formN x.n.toNat else if x.kind % 3 = 1 then formT x.s else [x.b]
/-- May an Item be written? -/
def Itm.may (x : Itm) : Bool := decide (x.s.size ≤ 100) && !(decide (x.kind % 3 = 0) && decide (x.n < 0))
/-- Two Items of a kind that are written alike. -/
def Itm.like (x y : Itm) : Prop := if x.kind % 3 = 0 then x.n = y.n else if x.kind % 3 = 1 then x.s = y.s else x.b = y.b

theorem Itm.form_ne (x : Itm) : x.form ≠ [] := by
  unfold Itm.form
  split
  · exact Go.Proofs.YtfiajbgeijgheaaDoor.form_ne _
  · split
    · unfold formT; simp [Go.Proofs.YtfiajbgeijgheaaDoor.form_ne]
    · simp

/-- P2.6, of one Item: its bytes tell it, whatever follows. -/
theorem Itm.tell {x y : Itm} {r q : List UInt8} (hk : x.kind = y.kind) (hx : x.Fit) (hy : y.Fit) (mx : x.may = true) (my : y.may = true) (h : x.form ++ r = y.form ++ q) : x.like y ∧ r = q := by
  have sx : x.s.size < 9223372036854775808 := by simp [Itm.may] at mx; omega
  have sy : y.s.size < 9223372036854775808 := by simp [Itm.may] at my; omega
  unfold Itm.form at h
  unfold Itm.like
  rw [← hk] at h
  by_cases h0 : x.kind % 3 = 0
  · rw [if_pos h0, if_pos h0] at h
    rw [if_pos h0]
    have nx : 0 ≤ x.n := by simp [Itm.may, h0] at mx; omega
    have ny : 0 ≤ y.n := by simp [Itm.may, ← hk, h0] at my; omega
    have b1 := hx.2.1
    have b2 := hy.2.1
    have e1 := numR_back (n := x.n.toNat) (most := 9223372036854775807) r (by omega) (by omega)
    have e2 := numR_back (n := y.n.toNat) (most := 9223372036854775807) q (by omega) (by omega)
    rw [h, e2] at e1
    have e3 : y.n.toNat = x.n.toNat := by injection e1 with e1; injection e1
    rw [e3] at h
    exact ⟨by omega, List.append_cancel_left h⟩
  · rw [if_neg h0, if_neg h0] at h
    rw [if_neg h0]
    by_cases h1 : x.kind % 3 = 1
    · rw [if_pos h1, if_pos h1] at h
      rw [if_pos h1]
      have e1 := txtR_back (s := x.s) (most := 9223372036854775807) r (by omega) (by omega)
      have e2 := txtR_back (s := y.s) (most := 9223372036854775807) q (by omega) (by omega)
      rw [h, e2] at e1
      have e3 : y.s = x.s := by injection e1 with e1; injection e1
      rw [e3] at h
      exact ⟨e3.symm, List.append_cancel_left h⟩
    · rw [if_neg h1, if_neg h1] at h
      rw [if_neg h1]
      simpa using h

/-- What a row of Items is written as. -/
def formL (l : List Itm) : List UInt8 := (l.map Itm.form).flatten

/-- P2.6: of two rows of the same kinds: bytes alike, Items alike. -/
theorem formL_tell : ∀ (l m : List Itm), l.length = m.length → (∀ (i : Nat) (x y : Itm), l[i]? = some x → m[i]? = some y → x.kind = y.kind ∧ x.Fit ∧ y.Fit ∧ x.may = true ∧ y.may = true) → formL l = formL m → ∀ (i : Nat) (x y : Itm), l[i]? = some x → m[i]? = some y → x.like y
  | [], _, _, _, _ => fun i x y h => by simp at h
  | _ :: _, [], h, _, _ => by simp at h
  | x :: l, y :: m, hl, hf, he => by
    obtain ⟨h1, h2, h3, h4, h5⟩ := hf 0 x y rfl rfl
    have he' : x.form ++ formL l = y.form ++ formL m := by simpa [formL] using he
    obtain ⟨g1, g2⟩ := Itm.tell h1 h2 h3 h4 h5 he'
    intro i
    cases i with
    | zero =>
      intro a b ha hb
      cases ha
      cases hb
      exact g1
    | succ i =>
      intro a b ha hb
      exact formL_tell l m (by simpa using hl) (fun j c d hc hd => hf (j + 1) c d (by simpa using hc) (by simpa using hd)) g2 i a b (by simpa using ha) (by simpa using hb)

theorem Itm.form_congr {x y : Itm} (hk : x.kind = y.kind) (h : x.like y) : x.form = y.form := by
  unfold Itm.like at h
  unfold Itm.form
  rw [← hk]
  split
  · rename_i h0; rw [if_pos h0] at h; rw [h]
  · rename_i h0
    rw [if_neg h0] at h
    split
    · rename_i h1; rw [if_pos h1] at h; rw [h]
    · rename_i h1; rw [if_neg h1] at h; rw [h]

/-- The other way: Items alike, bytes alike. -/
theorem formL_same : ∀ (l m : List Itm), l.length = m.length → (∀ (i : Nat) (x y : Itm), l[i]? = some x → m[i]? = some y → x.kind = y.kind ∧ x.like y) → formL l = formL m
  | [], [], _, _ => rfl
  | [], _ :: _, h, _ => by simp at h
  | _ :: _, [], h, _ => by simp at h
  | x :: l, y :: m, hl, hf => by
    obtain ⟨h1, h2⟩ := hf 0 x y rfl rfl
    have := formL_same l m (by simpa using hl) (fun j c d hc hd => hf (j + 1) c d (by simpa using hc) (by simpa using hd))
    simp only [formL, List.map_cons, List.flatten_cons] at this ⊢
    rw [Itm.form_congr h1 h2, this]
end Go.Proofs.YtfiajbgeijgheaaDoor
