
/-
  Acts that are delivered one behind the other: no program, plain lists.
-/
import Derived.Test.YtlgdaaofpjpobaaDoorZca15
namespace Go.Proofs.YtlgdaaofpjpobaaDoor
open Go.RowKit
set_option maxRecDepth 100000

/-- A clock with one act more. -/
def adv (h : List Int) (x : Ac) : List Int := h.set x.rep.toNat (en h x.rep.toNat + 1)
/-- The clock behind several. -/
def dlv (h : List Int) : List Ac → List Int
  | [] => h
  | x :: s => dlv (adv h x) s
/-- Each one is Ready when it comes. -/
def okD (h : List Int) : List Ac → Prop
  | [] => True
  | x :: s => rdyC h x = true ∧ okD (adv h x) s
theorem dlv_app (h : List Int) : ∀ (s t : List Ac), dlv h (s ++ t) = dlv (dlv h s) t
  | [], _ => rfl
  | x :: s, t => dlv_app (adv h x) s t
theorem okD_app (h : List Int) : ∀ (s t : List Ac), okD h (s ++ t) ↔ okD h s ∧ okD (dlv h s) t
  | [], _ => by simp [okD, dlv]
  | x :: s, t => by
    simp only [List.cons_append, okD, dlv, okD_app (adv h x) s t]
    exact ⟨fun ⟨a, b, c⟩ => ⟨⟨a, b⟩, c⟩, fun ⟨⟨a, b⟩, c⟩ => ⟨a, b, c⟩⟩
theorem adv_len {h : List Int} (x : Ac) (hl : h.length = 8) : (adv h x).length = 8 := by simpa [adv] using hl
/-- What Ready says. -/
theorem rdy_at {h : List Int} {x : Ac} (hr : rdyC h x = true) : ∃ r : Nat, x.rep = (r : Int) ∧ x.rep.toNat = r ∧ r < 8 ∧ 1 ≤ x.num ∧ en h r = x.num - 1 ∧ en x.ck r = x.num - 1 ∧ cov h x.ck = true := by
  obtain ⟨⟨g0, g8, gn, ge, gc⟩, gv⟩ := rdyC_true hr
  obtain ⟨r, hrr⟩ := Int.eq_ofNat_of_zero_le g0
  have ht : x.rep.toNat = r := by omega
  rw [ht] at ge gc
  exact ⟨r, hrr, ht, by omega, gn, ge, gc, gv⟩
theorem rdy_of {h : List Int} {x : Ac} {r : Nat} (h1 : x.rep = (r : Int)) (h2 : r < 8) (h3 : 1 ≤ x.num) (h4 : en h r = x.num - 1) (h5 : en x.ck r = x.num - 1) (h6 : cov h x.ck = true) : rdyC h x = true := by
  have ht : x.rep.toNat = r := by omega
  rw [rdyC_yes (by rw [ht]; exact ⟨by omega, by omega, h3, h4, h5⟩)]
  exact h6
theorem adv_en {h : List Int} {x : Ac} (hl : h.length = 8) (hr : rdyC h x = true) (k : Nat) : en (adv h x) k = if k = x.rep.toNat then x.num else en h k := by
  obtain ⟨r, _, ht, h8, _, h4, _⟩ := rdy_at hr
  unfold adv
  rw [ht, getD_set _ _ _ _ (by omega)]
  split
  · omega
  · rfl
theorem adv_ck {h : List Int} {x : Ac} (hl : Ck h) (hr : rdyC h x = true) (hx : x.Fit) : Ck (adv h x) := by
  refine ⟨adv_len x hl.1, fun k hk => ?_⟩
  rw [adv_en hl.1 hr]
  split
  · exact hx.2
  · exact hl.2 k hk
theorem adv_le {h : List Int} {x : Ac} (hl : h.length = 8) (hr : rdyC h x = true) (k : Nat) : en h k ≤ en (adv h x) k := by
  obtain ⟨r, _, ht, h8, _, h4, _⟩ := rdy_at hr
  rw [adv_en hl hr]
  split
  · rename_i e; rw [e, ht]; omega
  · exact Int.le_refl _
theorem has_iff {h : List Int} {x : Ac} : hasA h x = true ↔ ∃ r : Nat, x.rep = (r : Int) ∧ r < 8 ∧ 1 ≤ x.num ∧ x.num ≤ en h r := by
  unfold hasA hasC
  simp only [Bool.and_eq_true, decide_eq_true_eq]
  constructor
  · rintro ⟨⟨⟨h0, h8⟩, h1⟩, h2⟩
    obtain ⟨r, hr⟩ := Int.eq_ofNat_of_zero_le h0
    rw [hr, Int.toNat_natCast] at h2
    exact ⟨r, hr, by omega, h1, h2⟩
  · rintro ⟨r, hr, h8, h1, h2⟩
    rw [hr, Int.toNat_natCast]
    exact ⟨⟨⟨by omega, by omega⟩, h1⟩, h2⟩
theorem has_mono {h h' : List Int} (hle : ∀ k, en h k ≤ en h' k) {x : Ac} (hx : hasA h x = true) : hasA h' x = true := by
  obtain ⟨r, h1, h2, h3, h4⟩ := has_iff.1 hx
  exact has_iff.2 ⟨r, h1, h2, h3, Int.le_trans h4 (hle r)⟩
theorem rdy_lack {h : List Int} {x : Ac} (hr : rdyC h x = true) : hasA h x = false := by
  cases hh : hasA h x with
  | false => rfl
  | true =>
    obtain ⟨r, h1, _, _, h4, _⟩ := rdy_at hr
    obtain ⟨r', h1', _, _, h4'⟩ := has_iff.1 hh
    have e : r = r' := by omega
    subst e
    omega
theorem rdy_has {h : List Int} {x : Ac} (hl : h.length = 8) (hr : rdyC h x = true) : hasA (adv h x) x = true := by
  obtain ⟨r, h1, ht, h8, h3, h4, _⟩ := rdy_at hr
  refine has_iff.2 ⟨r, h1, h8, h3, ?_⟩
  rw [adv_en hl hr, ht, if_pos rfl]
  exact Int.le_refl _
/-- How many a site lacks. -/
def lackN (h : List Int) (l : List Ac) : Nat := l.countP fun x => !hasA h x
theorem lack_le {h h' : List Int} (hle : ∀ k, en h k ≤ en h' k) (l : List Ac) : lackN h' l ≤ lackN h l :=
  List.countP_mono_left fun x _ hx => by
    cases hh : hasA h x with
    | false => rfl
    | true => rw [has_mono hle hh] at hx; simp at hx
theorem lack_lt {h h' : List Int} (hle : ∀ k, en h k ≤ en h' k) : ∀ {l : List Ac} {x : Ac}, x ∈ l → hasA h x = false → hasA h' x = true → lackN h' l < lackN h l
  | y :: l, x, hx, h1, h2 => by
    have hl := lack_le hle l
    unfold lackN at hl ⊢
    simp only [List.countP_cons]
    rcases List.mem_cons.1 hx with rfl | hx
    · simp only [h1, h2]
      simp
      omega
    · have ih := lack_lt hle hx h1 h2
      unfold lackN at ih
      by_cases hy : hasA h' y = true
      · simp only [hy]
        simp
        cases hasA h y <;> simp <;> omega
      · have hy' : hasA h y = false := by
          cases e : hasA h y with
          | false => rfl
          | true => exact absurd (has_mono hle e) hy
        simp only [hy', Bool.not_eq_true] at hy ⊢
        simp [hy]
        omega
theorem lack_adv {h : List Int} (hl : h.length = 8) {l : List Ac} {x : Ac} (hx : x ∈ l) (hr : rdyC h x = true) : lackN (adv h x) l < lackN h l := lack_lt (adv_le hl hr) hx (rdy_lack hr) (rdy_has hl hr)
theorem lack_len (h : List Int) (l : List Ac) : lackN h l ≤ l.length := List.countP_le_length
/-- The order: the first one that is Ready, again and again. -/
def ordS (l : List Ac) : Nat → List Int → List Ac
  | 0, _ => []
  | n + 1, h => match l.find? (fun x => rdyC h x) with
    | none => []
    | some x => x :: ordS l n (adv h x)
theorem ordS_none {l : List Ac} {h : List Int} (hf : l.find? (fun x => rdyC h x) = none) (n : Nat) : ordS l n h = [] := by
  cases n with
  | zero => rfl
  | succ n => simp [ordS, hf]
theorem ordS_fuel {l : List Ac} : ∀ (n m : Nat) (h : List Int), h.length = 8 → lackN h l ≤ n → lackN h l ≤ m → ordS l n h = ordS l m h
  | 0, m, h, hl, hn, _ => by
    cases hf : l.find? (fun x => rdyC h x) with
    | none => rw [ordS_none hf, ordS_none hf]
    | some x =>
      have hx := List.mem_of_find?_eq_some hf
      have hr : rdyC h x = true := List.find?_some hf
      have := lack_adv hl hx hr
      omega
  | n + 1, m, h, hl, hn, hm => by
    cases hf : l.find? (fun x => rdyC h x) with
    | none => rw [ordS_none hf, ordS_none hf]
    | some x =>
      have hx := List.mem_of_find?_eq_some hf
      have hr : rdyC h x = true := List.find?_some hf
      have hlt := lack_adv hl hx hr
      cases m with
      | zero => omega
      | succ m =>
        simp only [ordS, hf]
        rw [ordS_fuel n m (adv h x) (adv_len x hl) (by omega) (by omega)]
/-- What Order tells. -/
def ordL (l : List Ac) (h : List Int) : List Ac := ordS l l.length h
theorem ordL_none {l : List Ac} {h : List Int} (hf : l.find? (fun x => rdyC h x) = none) : ordL l h = [] := ordS_none hf _
theorem ordL_some {l : List Ac} {h : List Int} {x : Ac} (hl : h.length = 8) (hf : l.find? (fun x => rdyC h x) = some x) : ordL l h = x :: ordL l (adv h x) := by
  have hx := List.mem_of_find?_eq_some hf
  have hr : rdyC h x = true := List.find?_some hf
  have hlt := lack_adv hl hx hr
  have hle := lack_len h l
  unfold ordL
  cases hn : l.length with
  | zero => omega
  | succ n =>
    rw [hn] at hle
    simp only [ordS, hf]
    rw [ordS_fuel n (n + 1) (adv h x) (adv_len x hl) (by omega) (by omega)]
    rfl
theorem find_no {l : List Ac} {h : List Int} (hf : ∀ x ∈ l, rdyC h x = false) : l.find? (fun x => rdyC h x) = none := by
  rw [List.find?_eq_none]
  intro x hx
  rw [hf x hx]
  decide
theorem no_find {l : List Ac} {h : List Int} (hf : l.find? (fun x => rdyC h x) = none) : ∀ x ∈ l, rdyC h x = false := fun x hx => by
  rw [List.find?_eq_none] at hf
  simpa using hf x hx
theorem find_at {l : List Ac} {h : List Int} {i : Nat} {x : Ac} (hx : l[i]? = some x) (hr : rdyC h x = true) (hno : ∀ j z, j < i → l[j]? = some z → rdyC h z = false) : l.find? (fun x => rdyC h x) = some x := by
  rw [List.find?_eq_some_iff_append]
  have hi := (List.getElem?_eq_some_iff.1 hx).1
  refine ⟨hr, l.take i, l.drop (i + 1), ?_, fun z hz => ?_⟩
  · rw [show x = l[i] from (Option.some.inj ((List.getElem?_eq_getElem hi).symm.trans hx)).symm, List.getElem_cons_drop hi, List.take_append_drop]
  · obtain ⟨j, hj⟩ := List.getElem?_of_mem hz
    have hji : j < i := by
      have := (List.getElem?_eq_some_iff.1 hj).1
      rw [List.length_take] at this
      omega
    rw [List.getElem?_take, if_pos hji] at hj
    rw [hno j z hji hj]
    decide
/-- Order's acts are of the list, and each is Ready in its turn. -/
theorem ordS_ok {l : List Ac} : ∀ (n : Nat) (h : List Int), okD h (ordS l n h) ∧ ∀ x ∈ ordS l n h, x ∈ l
  | 0, h => ⟨trivial, fun x hx => by simp [ordS] at hx⟩
  | n + 1, h => by
    cases hf : l.find? (fun x => rdyC h x) with
    | none => rw [ordS_none hf]; exact ⟨trivial, fun x hx => by cases hx⟩
    | some x =>
      obtain ⟨h1, h2⟩ := ordS_ok n (adv h x) (l := l)
      simp only [ordS, hf]
      refine ⟨⟨List.find?_some hf, h1⟩, fun y hy => ?_⟩
      rcases List.mem_cons.1 hy with rfl | hy
      · exact List.mem_of_find?_eq_some hf
      · exact h2 y hy
theorem ordS_end {l : List Ac} : ∀ (n : Nat) (h : List Int), h.length = 8 → lackN h l ≤ n → ∀ x ∈ l, rdyC (dlv h (ordS l n h)) x = false
  | 0, h, hl, hn => by
    cases hf : l.find? (fun x => rdyC h x) with
    | none => exact no_find hf
    | some x =>
      have := lack_adv hl (List.mem_of_find?_eq_some hf) (List.find?_some hf)
      omega
  | n + 1, h, hl, hn => by
    cases hf : l.find? (fun x => rdyC h x) with
    | none => rw [ordS_none hf]; exact no_find hf
    | some x =>
      have := lack_adv hl (List.mem_of_find?_eq_some hf) (List.find?_some hf)
      simp only [ordS, hf, dlv]
      exact ordS_end n (adv h x) (adv_len x hl) (by omega)
theorem dlv_len {h : List Int} (hl : h.length = 8) : ∀ (s : List Ac), (dlv h s).length = 8
  | [] => hl
  | x :: s => dlv_len (adv_len x hl) s
theorem dlv_ck : ∀ {s : List Ac} {h : List Int}, Ck h → okD h s → AFit s → Ck (dlv h s)
  | [], _, hl, _, _ => hl
  | x :: s, h, hl, ho, hf => show Ck (dlv (adv h x) s) from dlv_ck (s := s) (adv_ck hl ho.1 hf.head) ho.2 hf.tail
theorem dlv_le : ∀ {s : List Ac} {h : List Int}, h.length = 8 → okD h s → ∀ k, en h k ≤ en (dlv h s) k
  | [], _, _, _, _ => Int.le_refl _
  | x :: s, h, hl, ho, k => Int.le_trans (adv_le hl ho.1 k) (show en (adv h x) k ≤ en (dlv (adv h x) s) k from dlv_le (s := s) (adv_len x hl) ho.2 k)
/-- Whatever is delivered of a list stays below a clock at which none of the list is Ready. -/
theorem dlv_below {l : List Ac} {c : List Int} (hc : ∀ x ∈ l, rdyC c x = false) : ∀ {s : List Ac} {h : List Int}, h.length = 8 → okD h s → (∀ x ∈ s, x ∈ l) → (∀ k, en h k ≤ en c k) → ∀ k, en (dlv h s) k ≤ en c k
  | [], _, _, _, _, hle, k => hle k
  | x :: s, h, hl, ho, hs, hle, k => by
    obtain ⟨r, h1, ht, h8, h3, h4, h5, h6⟩ := rdy_at ho.1
    refine dlv_below hc (adv_len x hl) ho.2 (fun y hy => hs y (by simp [hy])) (fun j => ?_) k
    rw [adv_en hl ho.1]
    split
    · rename_i e
      rw [e, ht]
      refine Int.not_lt.1 fun hlt => ?_
      have hx := hc x (hs x (by simp))
      have hle' := hle r
      rw [rdy_of h1 h8 h3 (by omega) h5 (cov_iff.2 fun k hk => Int.le_trans (cov_iff.1 h6 k hk) (hle k))] at hx
      cases hx
    · exact hle j
/-- The sum of a clock. -/
def sumC (h : List Int) : Int := en h 0 + en h 1 + en h 2 + en h 3 + en h 4 + en h 5 + en h 6 + en h 7
theorem sum_adv {h : List Int} {x : Ac} (hl : h.length = 8) (hr : rdyC h x = true) : sumC (adv h x) = sumC h + 1 := by
  obtain ⟨r, _, ht, h8, _, h4, _⟩ := rdy_at hr
  have e := adv_en hl hr
  rw [ht] at e
  unfold sumC
  rw [e 0, e 1, e 2, e 3, e 4, e 5, e 6, e 7]
  match r, h8 with
  | 0, _ | 1, _ | 2, _ | 3, _ | 4, _ | 5, _ | 6, _ | 7, _ => simp; omega
theorem sum_dlv : ∀ {s : List Ac} {h : List Int}, h.length = 8 → okD h s → sumC (dlv h s) = sumC h + s.length
  | [], _, _, _ => by simp [dlv]
  | x :: s, h, hl, ho => by
    have := sum_dlv (adv_len x hl) ho.2 (s := s)
    rw [sum_adv hl ho.1] at this
    simp only [dlv, List.length_cons, this]
    omega
/-- Two ways to deliver all that can be delivered are of one length. -/
theorem one_length {l s t : List Ac} {h : List Int} (hl : h.length = 8) (hs : okD h s) (ht : okD h t) (hsl : ∀ x ∈ s, x ∈ l) (htl : ∀ x ∈ t, x ∈ l) (hse : ∀ x ∈ l, rdyC (dlv h s) x = false) (hte : ∀ x ∈ l, rdyC (dlv h t) x = false) : s.length = t.length := by
  have h1 := dlv_below hte hl hs hsl (dlv_le hl ht)
  have h2 := dlv_below hse hl ht htl (dlv_le hl hs)
  have e : dlv h s = dlv h t := ck_ext (dlv_len hl s) (dlv_len hl t) fun k _ => by have := h1 k; have := h2 k; omega
  have e1 := sum_dlv hl hs
  have e2 := sum_dlv hl ht
  rw [e] at e1
  omega
end Go.Proofs.YtlgdaaofpjpobaaDoor
