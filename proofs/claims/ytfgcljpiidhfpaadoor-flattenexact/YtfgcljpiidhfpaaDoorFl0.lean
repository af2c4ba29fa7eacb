
/-
  Rounds as rows of ints: no program.
-/
import Derived.Test.YtfgcljpiidhfpaaDoorFw
namespace Go.Proofs.YtfgcljpiidhfpaaDoor

theorem en_ext {x y : List Int} (hl : x.length = y.length) (h : ∀ k, k < x.length → en x k = en y k) : x = y := by
  apply List.ext_getElem hl
  intro i h1 h2
  have := h i h1
  simpa [en, List.getD, List.getElem?_eq_getElem h1, List.getElem?_eq_getElem h2] using this
theorem en_at {x : List Int} {k : Nat} (h : k < x.length) : x[k]? = some (en x k) := by simp [en, List.getD, List.getElem?_eq_getElem h]
theorem en_of {x : List Int} {k : Nat} {v : Int} (h : x[k]? = some v) : en x k = v := by simp [en, List.getD, h]
theorem en_left {x y : List Int} {k : Nat} (h : k < x.length) : en (x ++ y) k = en x k := by
  simp [en, List.getD, List.getElem?_append_left h]
theorem en_right (x y : List Int) (k : Nat) : en (x ++ y) (x.length + k) = en y k := by
  simp [en, List.getD, List.getElem?_append_right]
theorem en_cons (a : Int) (x : List Int) (k : Nat) : en (a :: x) (1 + k) = en x k := by rw [Nat.add_comm]; rfl
/-- A part of a row. -/
def sub (x : List Int) (o n : Nat) : List Int := (x.drop o).take n
theorem sub_len {x : List Int} {o n : Nat} (h : o + n ≤ x.length) : (sub x o n).length = n := by simp [sub]; omega
theorem en_sub {x : List Int} {o n j : Nat} (hj : j < n) : en (sub x o n) j = en x (o + j) := by
  simp [sub, en, List.getD, hj, List.getElem?_drop]

/-- A round's ints. -/
def rc (r : Rnd) : List Int := r.num :: (r.cut ++ (r.vot ++ [r.dec]))
theorem rc_len {r : Rnd} (h : r.Ok) : (rc r).length = 18 := by simp [rc, h.1, h.2]
theorem rc_num (r : Rnd) : en (rc r) 0 = r.num := rfl
theorem rc_cut {r : Rnd} (h : r.Ok) {k : Nat} (hk : k < 8) : en (rc r) (1 + k) = en r.cut k := by
  unfold rc; rw [en_cons, en_left (by rw [h.1]; exact hk)]
theorem rc_vot {r : Rnd} (h : r.Ok) {k : Nat} (hk : k < 8) : en (rc r) (9 + k) = en r.vot k := by
  unfold rc
  rw [show 9 + k = 1 + (r.cut.length + k) by rw [h.1]; omega, en_cons, en_right, en_left (by rw [h.2]; exact hk)]
theorem rc_dec {r : Rnd} (h : r.Ok) : en (rc r) 17 = r.dec := by
  unfold rc
  rw [show 17 = 1 + (r.cut.length + (r.vot.length + 0)) by rw [h.1, h.2], en_cons, en_right, en_right]; rfl
theorem sub_cut {r : Rnd} (h : r.Ok) : sub (rc r) 1 8 = r.cut := by
  unfold sub rc; simp [List.take_append_of_le_length (show 8 ≤ r.cut.length by rw [h.1]; exact Nat.le_refl _), List.take_of_length_le (show r.cut.length ≤ 8 by rw [h.1]; exact Nat.le_refl _)]
theorem sub_vot {r : Rnd} (h : r.Ok) : sub (rc r) 9 8 = r.vot := by
  refine ck_ext (sub_len (by rw [rc_len h]; decide)) h.2 fun k hk => ?_
  rw [en_sub hk, rc_vot h hk]
theorem Rnd.ext' {a b : Rnd} (h1 : a.num = b.num) (h2 : a.cut = b.cut) (h3 : a.vot = b.vot) (h4 : a.dec = b.dec) : a = b := by
  cases a; cases b; simp only at h1 h2 h3 h4; subst h1 h2 h3 h4; rfl
theorem rc_inj {a b : Rnd} (ha : a.Ok) (hb : b.Ok) (h : rc a = rc b) : a = b :=
  Rnd.ext' (by rw [← rc_num a, h, rc_num]) (by rw [← sub_cut ha, h, sub_cut hb]) (by rw [← sub_vot ha, h, sub_vot hb]) (by rw [← rc_dec ha, h, rc_dec hb])
/-- Eighteen ints are a round. -/
def rOf (x : List Int) : Rnd := ⟨en x 0, sub x 1 8, sub x 9 8, en x 17⟩
theorem rOf_ok {x : List Int} (h : x.length = 18) : (rOf x).Ok := ⟨sub_len (by omega), sub_len (by omega)⟩
theorem rc_rOf {x : List Int} (h : x.length = 18) : rc (rOf x) = x := by
  have ok := rOf_ok h
  refine en_ext (by rw [rc_len ok, h]) fun k hk => ?_
  rw [rc_len ok] at hk
  by_cases h0 : k = 0
  · subst h0; rfl
  · by_cases h1 : k < 9
    · obtain ⟨j, rfl⟩ : ∃ j, k = 1 + j := ⟨k - 1, by omega⟩
      rw [rc_cut ok (by omega)]; exact en_sub (by omega)
    · by_cases h2 : k < 17
      · obtain ⟨j, rfl⟩ : ∃ j, k = 9 + j := ⟨k - 9, by omega⟩
        rw [rc_vot ok (by omega)]; exact en_sub (by omega)
      · obtain rfl : k = 17 := by omega
        rw [rc_dec ok]; rfl
theorem rc_setNum (r : Rnd) (v : Int) : (rc r).set 0 v = rc { r with num := v } := rfl
theorem rc_setVot {r : Rnd} (h : r.Ok) {k : Nat} (hk : k < 8) (v : Int) : (rc r).set (9 + k) v = rc { r with vot := r.vot.set k v } := by
  have ok : Rnd.Ok { r with vot := r.vot.set k v } := ⟨h.1, by show (r.vot.set k v).length = 8; rw [List.length_set]; exact h.2⟩
  unfold rc
  simp only
  rw [show 9 + k = (r.cut.length + k) + 1 by rw [h.1]; omega, List.set_cons_succ, List.set_append_right _ _ (by omega), Nat.add_sub_cancel_left, List.set_append_left _ _ (by rw [h.2]; exact hk)]
theorem rc_setDec {r : Rnd} (h : r.Ok) (v : Int) : (rc r).set 17 v = rc { r with dec := v } := by
  unfold rc
  simp only
  rw [show 17 = (r.cut.length + (r.vot.length + 0)) + 1 by rw [h.1, h.2], List.set_cons_succ, List.set_append_right _ _ (by omega), Nat.add_sub_cancel_left, List.set_append_right _ _ (by omega), Nat.add_sub_cancel_left]; rfl
/-- A round of none. -/
theorem rc_zero : rc rnd0 = List.replicate 18 0 := rfl
theorem rnd0_ok : rnd0.Ok := ⟨rfl, rfl⟩

/-- The ints of rounds. -/
def rs (l : List Rnd) : List Int := (l.map rc).flatten
theorem rs_cons (r : Rnd) (l : List Rnd) : rs (r :: l) = rc r ++ rs l := rfl
theorem rs_len' : ∀ {l : List Rnd}, (∀ r ∈ l, r.Ok) → (rs l).length = l.length * 18
  | [], _ => rfl
  | r :: l, h => by
    rw [rs_cons, List.length_append, rc_len (h r (by simp)), rs_len' fun x hx => h x (by simp [hx]), List.length_cons]; omega
theorem rs_len {l : List Rnd} (h : OkL l) : (rs l).length = 144 := by rw [rs_len' h.2, h.1]
theorem en_rs' : ∀ {l : List Rnd}, (∀ r ∈ l, r.Ok) → ∀ {c : Nat} {r : Rnd}, l[c]? = some r → ∀ {k : Nat}, k < 18 → en (rs l) (c * 18 + k) = en (rc r) k
  | [], _, _, _, h, _, _ => by simp at h
  | x :: l, ok, 0, r, h, k, hk => by
    simp at h; subst h
    rw [Nat.zero_mul, Nat.zero_add, rs_cons, en_left (by rw [rc_len (ok x (by simp))]; exact hk)]
  | x :: l, ok, c + 1, r, h, k, hk => by
    have ih := en_rs' (l := l) (fun y hy => ok y (List.mem_cons_of_mem _ hy)) (c := c) (r := r) (by simpa using h) hk
    rw [rs_cons, show (c + 1) * 18 + k = (rc x).length + (c * 18 + k) by rw [rc_len (ok x (by simp))]; omega, en_right, ih]
theorem en_rs {l : List Rnd} (ok : OkL l) {c : Nat} {r : Rnd} (h : l[c]? = some r) {k : Nat} (hk : k < 18) : en (rs l) (c * 18 + k) = en (rc r) k := en_rs' ok.2 h hk
theorem OkL.set {l : List Rnd} (ok : OkL l) (c : Nat) {r : Rnd} (hr : r.Ok) : OkL (l.set c r) :=
  ⟨by rw [List.length_set]; exact ok.1, fun x hx => (List.mem_or_eq_of_mem_set hx).elim (ok.2 x) (fun e => e ▸ hr)⟩
theorem rs_ext {x : List Int} {l : List Rnd} (ok : OkL l) (hx : x.length = 144) (h : ∀ c r, l[c]? = some r → ∀ k, k < 18 → en x (c * 18 + k) = en (rc r) k) : x = rs l := by
  refine en_ext (by rw [hx, rs_len ok]) fun k hk => ?_
  rw [hx] at hk
  obtain ⟨r, hr, _⟩ := ok.at (i := k / 18) (by omega)
  have e : k = k / 18 * 18 + k % 18 := by omega
  have h1 := h _ _ hr (k % 18) (by omega)
  have h2 := en_rs ok hr (k := k % 18) (by omega)
  rw [← e] at h1 h2
  rw [h1, h2]
theorem rs_inj {a b : List Rnd} (ha : OkL a) (hb : OkL b) (h : rs a = rs b) : a = b :=
  rl_ext ha.1 hb.1 fun i x y hx hy => by
    have ox := ha.2 x (List.mem_of_getElem? hx)
    have oy := hb.2 y (List.mem_of_getElem? hy)
    refine rc_inj ox oy (en_ext (by rw [rc_len ox, rc_len oy]) fun k hk => ?_)
    rw [rc_len ox] at hk
    rw [← en_rs ha hx hk, h, en_rs hb hy hk]
/-- A row of 144 ints is rounds. -/
def lOf (x : List Int) : List Rnd := (List.range 8).map fun c => rOf (sub x (c * 18) 18)
theorem lOf_ok {x : List Int} (h : x.length = 144) : OkL (lOf x) := ⟨by simp [lOf], fun r hr => by
  simp only [lOf, List.mem_map, List.mem_range] at hr
  obtain ⟨c, hc, rfl⟩ := hr
  exact rOf_ok (sub_len (by omega))⟩
theorem lOf_get {x : List Int} {c : Nat} (hc : c < 8) : (lOf x)[c]? = some (rOf (sub x (c * 18) 18)) := by simp [lOf, hc]
theorem rs_lOf {x : List Int} (h : x.length = 144) : rs (lOf x) = x := by
  refine (rs_ext (lOf_ok h) h fun c r hr k hk => ?_).symm
  have hc : c < 8 := by have := (List.getElem?_eq_some_iff.1 hr).1; rw [(lOf_ok h).1] at this; exact this
  rw [lOf_get hc] at hr
  cases hr
  rw [rc_rOf (sub_len (by omega)), en_sub hk]
/-- Some ints of a row are others. -/
def putI (x : List Int) (o : Nat) (y : List Int) : List Int := x.take o ++ (y ++ x.drop (o + y.length))
theorem putI_len {x y : List Int} {o : Nat} (h : o + y.length ≤ x.length) : (putI x o y).length = x.length := by simp [putI]; omega
theorem en_putI {x y : List Int} {o : Nat} (h : o + y.length ≤ x.length) (k : Nat) : en (putI x o y) k = if k < o then en x k else if k < o + y.length then en y (k - o) else en x k := by
  have ht : (x.take o).length = o := by simp; omega
  unfold putI
  by_cases h1 : k < o
  · rw [if_pos h1, en_left (by omega)]
    simp [en, List.getD, h1]
  · rw [if_neg h1]
    obtain ⟨j, rfl⟩ : ∃ j, k = (x.take o).length + j := ⟨k - o, by omega⟩
    rw [en_right, ht]
    by_cases h2 : o + j < o + y.length
    · rw [if_pos h2, en_left (by omega), Nat.add_sub_cancel_left]
    · rw [if_neg h2]
      obtain ⟨i, rfl⟩ : ∃ i, j = y.length + i := ⟨j - y.length, by omega⟩
      rw [en_right]
      simp [en, List.getD, List.getElem?_drop, Nat.add_assoc]
theorem rs_put {l : List Rnd} (ok : OkL l) {c : Nat} (hc : c < 8) {r : Rnd} (hr : r.Ok) : putI (rs l) (c * 18) (rc r) = rs (l.set c r) := by
  have hl : c * 18 + (rc r).length ≤ (rs l).length := by rw [rc_len hr, rs_len ok]; omega
  refine rs_ext (ok.set c hr) (by rw [putI_len hl, rs_len ok]) fun d x hx k hk => ?_
  have hd : d < 8 := by have := (List.getElem?_eq_some_iff.1 hx).1; rw [(ok.set c hr).1] at this; exact this
  rw [en_putI hl, rc_len hr]
  rw [List.getElem?_set] at hx
  by_cases e : c = d
  · subst e
    rw [if_pos rfl, if_pos (by rw [ok.1]; exact hc)] at hx
    cases hx
    rw [if_neg (by omega), if_pos (by omega), Nat.add_sub_cancel_left]
  · rw [if_neg e] at hx
    rw [← en_rs ok hx hk]
    by_cases e1 : d * 18 + k < c * 18
    · rw [if_pos e1]
    · rw [if_neg e1, if_neg (by omega)]
theorem rs_set {l : List Rnd} (ok : OkL l) {c : Nat} {r : Rnd} (hr : l[c]? = some r) {k : Nat} (hk : k < 18) (v : Int) {r' : Rnd} (hr' : r'.Ok) (h : (rc r).set k v = rc r') : (rs l).set (c * 18 + k) v = rs (l.set c r') := by
  have hc : c < 8 := by have := (List.getElem?_eq_some_iff.1 hr).1; rw [ok.1] at this; exact this
  have or_ := ok.2 r (List.mem_of_getElem? hr)
  refine rs_ext (ok.set c hr') (by rw [List.length_set, rs_len ok]) fun d x hx j hj => ?_
  rw [getD_set _ _ _ _ (by rw [rs_len ok]; omega)]
  rw [List.getElem?_set] at hx
  by_cases e : c = d
  · subst e
    rw [if_pos rfl, if_pos (by rw [ok.1]; exact hc)] at hx
    cases hx
    rw [← h, getD_set _ _ _ _ (by rw [rc_len or_]; exact hk), en_rs ok hr hj]
    by_cases e2 : j = k
    · subst e2; rw [if_pos rfl, if_pos rfl]
    · rw [if_neg (by omega), if_neg e2]
  · rw [if_neg e] at hx
    rw [if_neg (by omega), en_rs ok hx hj]
def rds0 : List Rnd := List.replicate 8 rnd0
theorem rds0_ok : OkL rds0 := ⟨rfl, fun r hr => by rw [List.eq_of_mem_replicate hr]; exact rnd0_ok⟩
set_option maxRecDepth 100000 in
theorem rds0_rs : rs rds0 = List.replicate 144 0 := rfl
end Go.Proofs.YtfgcljpiidhfpaaDoor
