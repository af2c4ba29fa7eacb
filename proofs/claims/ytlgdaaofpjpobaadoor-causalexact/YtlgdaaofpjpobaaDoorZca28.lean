
/-
  What a site lacks of a row in which each act's causes stand ahead of it. barrowlaw11.CausalLacks answers true.
-/
import Derived.Test.YtlgdaaofpjpobaaDoorZca27
namespace Go.Proofs.YtlgdaaofpjpobaaDoor
open Go.RowKit
set_option maxRecDepth 100000

theorem misC_eq {h : List Int} {most : Int} : ∀ (l acc : List Ac), misC h most acc l = acc ++ (l.filter fun x => !hasA h x).take (most - acc.length).toNat
  | [], acc => by simp [misC]
  | x :: l, acc => by
    unfold misC
    by_cases hm : most ≤ (acc.length : Int)
    · rw [if_pos hm, show (most - acc.length).toNat = 0 by omega]; simp
    · rw [if_neg hm]
      cases hx : hasA h x
      · rw [if_neg (by decide), misC_eq l (acc ++ [x])]
        simp only [List.filter_cons, hx, Bool.not_false, if_true, List.length_append, List.length_singleton]
        obtain ⟨n, hn⟩ : ∃ n, (most - acc.length).toNat = n + 1 := ⟨(most - acc.length).toNat - 1, by omega⟩
        rw [hn, List.take_succ_cons, show (most - ((acc.length + 1 : Nat) : Int)).toNat = n by omega]
        simp
      · rw [if_pos rfl, misC_eq l acc]
        simp [hx]
theorem okD_take {h : List Int} : ∀ (s : List Ac) (n : Nat), okD h s → okD h (s.take n) := fun s n ho => by
  have := ho
  rw [← List.take_append_drop n s, okD_app] at this
  exact this.1
theorem filt_ok {c : List Int} : ∀ {row : List Ac} {z D : List Int}, z.length = 8 → D.length = 8 → okD z row → (∀ k, en D k = max (en c k) (en z k)) → okD D (row.filter fun x => !hasA c x)
  | [], _, _, _, _, _, _ => trivial
  | x :: row, z, D, hz, hD, ho, hm => by
    obtain ⟨r, h1, ht, h8, h3, h4, h5, h6⟩ := rdy_at ho.1
    cases hx : hasA c x
    · have hlt : en c r < x.num := by
        refine Int.not_le.1 fun hle => ?_
        rw [has_iff.2 ⟨r, h1, h8, h3, hle⟩] at hx
        cases hx
      have hr : rdyC D x = true := rdy_of h1 h8 h3 (by rw [hm r]; omega) h5 (cov_iff.2 fun k hk => by
        have := cov_iff.1 h6 k hk
        rw [hm k]; omega)
      simp only [List.filter_cons, hx, Bool.not_false, if_true]
      refine ⟨hr, filt_ok (adv_len x hz) (adv_len x hD) ho.2 fun k => ?_⟩
      rw [adv_en hD hr, adv_en hz ho.1, ht]
      split
      · rename_i e; subst e; omega
      · exact hm k
    · obtain ⟨r', h1', _, _, h4'⟩ := has_iff.1 hx
      have er : r = r' := by omega
      subst er
      simp only [List.filter_cons, hx, Bool.not_true, Bool.false_eq_true, if_false]
      refine filt_ok (adv_len x hz) hD ho.2 fun k => ?_
      rw [adv_en hz ho.1, ht]
      split
      · rename_i e; subst e; rw [hm k]; omega
      · exact hm k
theorem en_ck0 (k : Nat) : en ck0 k = 0 := by
  match k with
  | 0 | 1 | 2 | 3 | 4 | 5 | 6 | 7 => rfl
  | k + 8 => rfl
/-- What Missing tells may be delivered in that order. -/
theorem mis_ok {c : List Int} (hc : c.length = 8) (h0 : ∀ k, 0 ≤ en c k) {row : List Ac} (ho : okD ck0 row) (most : Int) : okD c (misC c most [] row) := by
  rw [misC_eq, List.nil_append]
  exact okD_take _ _ (filt_ok (z := ck0) rfl hc ho (fun k => by rw [en_ck0]; have := h0 k; omega))
theorem okD_at {h : List Int} {s : List Ac} {j : Nat} {x : Ac} (ho : okD h s) (hx : s[j]? = some x) : rdyC (dlv h (s.take j)) x = true ∧ dlv h (s.take (j + 1)) = adv (dlv h (s.take j)) x := by
  have hj := (List.getElem?_eq_some_iff.1 hx).1
  have htk : s.take (j + 1) = s.take j ++ [x] := by rw [List.take_add_one, hx]; rfl
  have := okD_take s (j + 1) ho
  rw [htk, okD_app] at this
  exact ⟨this.2.1, by rw [htk, dlv_app]; rfl⟩
theorem okD_rep {h : List Int} {s : List Ac} (ho : okD h s) {x : Ac} (hx : x ∈ s) : ∃ r : Nat, x.rep = (r : Int) ∧ r < 8 := by
  obtain ⟨j, hj⟩ := List.getElem?_of_mem hx
  obtain ⟨r, h1, _, h8, _⟩ := rdy_at (okD_at ho hj).1
  exact ⟨r, h1, h8⟩
end Go.Proofs.YtlgdaaofpjpobaaDoor
namespace Go.Proofs.YtlgdaaofpjpobaaDoor
open Go.RowKit Go.Maps
set_option maxRecDepth 100000

theorem ordL_fit {l : List Ac} {h : List Int} (hf : AFit l) : AFit (ordL l h) := fun x hx => hf x ((ordS_ok _ _).2 x hx)
theorem ordL_len {l : List Ac} {h : List Int} : (ordL l h).length ≤ l.length := by
  unfold ordL
  have : ∀ (n : Nat) (h : List Int), (ordS l n h).length ≤ n := by
    intro n
    induction n with
    | zero => intro h; simp [ordS]
    | succ n ih =>
      intro h
      cases hf : l.find? (fun x => rdyC h x) with
      | none => rw [ordS_none hf]; simp
      | some x =>
        simp only [ordS, hf, List.length_cons]
        have := ih (adv h x)
        omega
  exact this _ _
end Go.Proofs.YtlgdaaofpjpobaaDoor
