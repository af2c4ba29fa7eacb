
/-
  One call of both desks.
-/
import Derived.Test.YtfgcljpiidhfpaaDoorRq2
import Derived.Test.YtfgcljpiidhfpaaDoorOnc0
import Derived.Test.YtfgcljpiidhfpaaDoorFl14
import Derived.Test.YtfgcljpiidhfpaaDoorFl17
namespace Go.Proofs.YtfgcljpiidhfpaaDoor
open Go.RowKit
set_option maxRecDepth 100000

/-- Within's answer. -/
def wiN (n : Int) (m : Nat) : Nat := if n.tmod (m : Int) < 0 then (n.tmod (m : Int) + m).toNat else (n.tmod (m : Int)).toNat
theorem within_is (n : Int) (m : Nat) (w : World) (hm : 0 < m) (hm2 : m ≤ 1073741824) (_h : fitsI n) :
    Calls Tryd.prog 23 #[.int .i64 n, .int .i64 (m : Int)] w fun r w' => r = .returned (.int .i64 (wiN n m : Int)) ∧ w' = w := by
  obtain ⟨_h1, _h2⟩ := _h
  have m0 : ((m : Int) == 0) = false := by rw [beq_eq_false_iff_ne]; omega
  have t1 : n.tmod (m : Int) < (m : Int) := Int.tmod_lt_of_pos n (by omega)
  have t2 : -(m : Int) < n.tmod (m : Int) := by
    have := Int.tmod_lt_of_pos (-n) (show (0 : Int) < (m : Int) by omega)
    rw [Int.neg_tmod] at this
    omega
  unfold wiN
  obtain ⟨t, et⟩ : ∃ t, n.tmod (m : Int) = t := ⟨_, rfl⟩
  rw [et] at t1 t2 ⊢
  by_cases ht : t < 0
  · rw [if_pos ht, Int.toNat_of_nonneg (by omega)]
    go_enter Tryd.func23, Tryd.ntmps23
    go_wp2
    go_ret
    exact ⟨rfl, rfl⟩
  · rw [if_neg ht, Int.toNat_of_nonneg (by omega)]
    go_enter Tryd.func23, Tryd.ntmps23
    go_wp2
    go_ret
    exact ⟨rfl, rfl⟩

/-- An Op as ints. -/
def opc (d : Int) (ck : List Int) (m : List Rnd) : List Int := d :: (ck ++ rs m)
theorem opc_len {d : Int} {ck : List Int} {m : List Rnd} (h : ck.length = 8) (om : OkL m) : (opc d ck m).length = 153 := by simp [opc, h, rs_len om]
theorem opc_ck {d : Int} {ck : List Int} {m : List Rnd} (h : ck.length = 8) (om : OkL m) {b : Nat} {t : TypeId} {w : World} (hr : RowAt b (cv (opc d ck m)) t w) : CsIn b 1 (cv ck) w := by
  have := hr.subI 1 8 (by rw [opc_len h om]; decide)
  rwa [show sub (opc d ck m) 1 8 = ck by simp [sub, opc, ← h]] at this
theorem opc_rs {d : Int} {ck : List Int} {m : List Rnd} (h : ck.length = 8) (om : OkL m) {b : Nat} {t : TypeId} {w : World} (hr : RowAt b (cv (opc d ck m)) t w) : CsIn b 9 (cv (rs m)) w := by
  have := hr.subI 9 144 (by rw [opc_len h om]; decide)
  have e : sub (opc d ck m) 9 144 = rs m := by
    unfold sub opc
    rw [show (9 : Nat) = 8 + 1 from rfl, List.drop_succ_cons, List.drop_append_of_le_length (by omega), List.drop_of_length_le (by omega), List.nil_append, List.take_of_length_le (by rw [rs_len om]; decide)]
  rwa [e] at this
/-- The numbers of all rounds are ints. -/
def NumL (l : List Rnd) : Prop := ∀ r ∈ l, -9223372036854775808 ≤ r.num
theorem numL_join {a b : List Rnd} (ha : NumL a) (hb : NumL b) : NumL (joinL a b) := by
  intro r hr
  unfold joinL at hr
  obtain ⟨x, y, hx, hy, rfl⟩ : ∃ x y, x ∈ a ∧ y ∈ b ∧ r = joinR x y := by
    obtain ⟨i, hi⟩ := List.getElem?_of_mem hr
    rw [List.getElem?_zipWith] at hi
    cases hx : a[i]? with
    | none => rw [hx] at hi; cases hi
    | some x =>
      cases hy : b[i]? with
      | none => rw [hx, hy] at hi; cases hi
      | some y => rw [hx, hy] at hi; cases hi; exact ⟨x, y, List.mem_of_getElem? hx, List.mem_of_getElem? hy, rfl⟩
  have h1 := ha x hx
  have h2 := hb y hy
  unfold joinR
  split
  · exact h2
  · split
    · exact h1
    · exact h1
theorem goneR_num (n : Int) (s c : Nat) (hv : List Int) (r : Rnd) : (goneR n s c hv r).num = r.num := by
  unfold goneR
  split
  · rfl
  · split
    · split <;> rfl
    · split <;> rfl
theorem numL_setK {n : Int} {s : Nat} {hv : List Int} {l : List Rnd} (h : NumL l) (k : Nat) : NumL (setK n s hv l k) := by
  intro r hr
  obtain ⟨i, hi⟩ := List.getElem?_of_mem hr
  unfold setK at hi
  rw [List.getElem?_mapIdx] at hi
  cases hx : l[i]? with
  | none => rw [hx] at hi; cases hi
  | some x =>
    rw [hx] at hi
    cases hi
    have h1 := h x (List.mem_of_getElem? hx)
    show -9223372036854775808 ≤ (if i < k then goneR n s i hv x else x).num
    split
    · rw [goneR_num]; exact h1
    · exact h1
theorem numL_set {l : List Rnd} (h : NumL l) {c : Nat} {r : Rnd} (hr : -9223372036854775808 ≤ r.num) : NumL (l.set c r) := fun x hx => by
  rcases List.mem_or_eq_of_mem_set hx with q | rfl
  · exact h x q
  · exact hr
theorem numL_zero : NumL rds0 := fun r hr => by
  rw [List.eq_of_mem_replicate hr]
  decide
/-- The two desks, each with rounds of its own. -/
def Pr2 (P d r N s : Nat) (l m : List Rnd) (w : World) : Prop := RowAt P #[.pointer (some ⟨d, 0, none⟩), .pointer (some ⟨r, 0, none⟩)] 39 w ∧ DkAt d N s l w ∧ RkAt r N s m w
theorem Pr2.later {P d r N s : Nat} {l m : List Rnd} {w w' : World} (h : Pr2 P d r N s l m w) (hb : Below w.heap.size w w') : Pr2 P d r N s l m w' := ⟨h.1.later hb, h.2.1.later hb, h.2.2.later hb⟩
theorem Pr2.pb {P d r N s : Nat} {l m : List Rnd} {w : World} (h : Pr2 P d r N s l m w) : ¬ P = d := apart_obj h.1 h.2.1.1 (by decide)
theorem Pr2.pr {P d r N s : Nat} {l m : List Rnd} {w : World} (h : Pr2 P d r N s l m w) : ¬ P = r := apart_obj h.1 h.2.2.1 (by decide)
theorem Pr2.br {P d r N s : Nat} {l m : List Rnd} {w : World} (h : Pr2 P d r N s l m w) : ¬ d = r := apart_obj h.2.1.1 h.2.2.1 (by decide)
theorem Pr2.goD {P d r N s : Nat} {l m l' : List Rnd} {w w' : World} (h : Pr2 P d r N s l m w) (i1 : DkAt d N s l' w') (i2 : Ch (fun k => k = d) w w') : Pr2 P d r N s l' m w' := ⟨h.1.ch i2 h.pb, i1, h.2.2.ch i2 (fun e => h.br e.symm)⟩
theorem Pr2.goR {P d r N s : Nat} {l m m' : List Rnd} {w w' : World} (h : Pr2 P d r N s l m w) (i1 : RkAt r N s m' w') (i2 : Ch (fun k => k = r) w w') : Pr2 P d r N s l m' w' := ⟨h.1.ch i2 h.pr, h.2.1.ch i2 h.br, i1⟩
/-- What the program's call leaves. -/
def SixR (P d r N s : Nat) (V : Value → World → Prop) (l m : List Rnd) (w : World) (v : Value) (X : World) : Prop := V v X ∧ Pr2 P d r N s l m X ∧ Ch (fun k => k = d) w X
theorem SixR.laterV {P d r N s : Nat} {V : Value → World → Prop} {l m : List Rnd} {w X X' : World} {v : Value} (hV : V v X → V v X') (h : SixR P d r N s V l m w v X) (hb : Below X.heap.size X X') : SixR P d r N s V l m w v X' := ⟨hV h.1, h.2.1.later hb, h.2.2.later hb⟩
/-- What one call leaves: true, and both desks alike. -/
def DoQ (P d r N s : Nat) (w : World) (e : Ending) (w' : World) : Prop := ∃ l', e = .returned (.bool true) ∧ PrAt P d r N s l' w' ∧ NumL l' ∧ Ch (fun k => k = d ∨ k = r) w w'

set_option maxHeartbeats 4000000 in
theorem does_0a {P B R N s : Nat} {l : List Rnd} {w : World} (H0 : PrAt P B R N s l w) (hl : NumL l) (hsN : s < N) (h8 : N ≤ 8) {d : Int} (hd : fitsI d) {ck : List Int} (hck : ck.length = 8) {m : List Rnd} (om : OkL m) (hw : wiN d 5 = 0) {r : Rnd} (hrs : l[s]? = some r) (hbz : busyR r = false) :
    Calls Tryd.prog 13 #[.pointer (some ⟨P, 0, none⟩), .agg (cv (opc d ck m))] w (DoQ P B R N s w) := by
  have hb2 := below_one w (.cells (cv (opc d ck m)) 48)
  have ho2 := RowAt.news w (cv (opc d ck m)) 48
  have c0 : (w.alloc (.cells (cv (opc d ck m)) 48)).cell? ⟨w.heap.size, 0, none⟩ = some (.int .i64 d) := ho2.int (k := 0) (by rw [opc_len hck om]; decide)
  have HW := hid_of' (within_is d 5 (w.alloc (.cells (cv (opc d ck m)) 48)) (by decide) (by decide) hd)
  rw [hw] at HW
  have hs8 : s < 8 := by omega
  have ok := H0.2.1.2
  have HPL := hid_of' (And.intro H0.1.lt (And.intro H0.2.1.lt H0.2.2.lt))
  have H2 := hid_of' (show Pr2 P B R N s l l _ from H0.later hb2)
  have HO := hid_of' ho2
  have HB2 := hid_of' (Ch.of (S := fun k => k = B ∨ k = R) hb2)
  skip
  clear H0 ho2 hb2
  go_enter Tryd.func13, Tryd.ntmps13
  go_upto_region 3 with (go_at_call 23; refine HW.out.mono ?_; rintro e w1 ⟨rfl, hw1⟩; obtain rfl := hw1.symm; clear HW)
  clear c0
  obtain ⟨ob, hob⟩ : ∃ ob, w.heap.size = ob := ⟨_, rfl⟩
  rw [hob] at HO HPL ⊢
  generalize w.alloc (.cells (cv (opc d ck m)) 48) = w2 at H2 HO HB2 ⊢
  have HP : Hid (∀ X, Ch (fun k => k = B) w2 X → RowAt P #[.pointer (some ⟨B, 0, none⟩), .pointer (some ⟨R, 0, none⟩)] 39 X ∧ CsIn ob 1 (cv ck) X ∧ CsIn ob 9 (cv (rs m)) X) := hid_of' fun X hX => by
    have ho := HO.out.ch hX (show ¬ ob = B by have := HPL.out; omega)
    exact ⟨H2.out.1.ch hX H2.out.pb, opc_ck hck om ho, opc_rs hck om ho⟩
  have hlo := hl r (List.mem_of_getElem? hrs)
  obtain ⟨l1, hl1⟩ : ∃ l1, l.set s ⟨r.num + 1, ck, z8, 0⟩ = l1 := ⟨_, rfl⟩
  have HSt : Hid (∀ X, DkAt B N s l X → Calls Tryd.prog 34 #[.pointer (some ⟨B, 0, none⟩), .agg (cv ck)] X fun e w' => e = .returned .nilIface ∧ DkAt B N s l1 w' ∧ Ch (fun k => k = B) X w') := hid_of' fun X hX => by
    have := propose_ok hX hs8 hrs hck hbz hlo
    rw [hl1] at this
    exact this
  have HRt : Hid (∀ X, RkAt R N s l X → Calls Tryd.prog 37 #[.pointer (some ⟨R, 0, none⟩), .agg (cv ck)] X fun e w' => e = .returned (.agg (nov 0 none 0 0 none 0 0)) ∧ RkAt R N s l1 w' ∧ Ch (fun k => k = R) X w') := hid_of' fun X hX => by
    have := refPropose_ok hX hs8 hrs hck hbz hlo
    rw [hl1] at this
    exact this
  have HNl : Hid (NumL l1) := hid_of' (hl1 ▸ numL_set hl (by show _ ≤ r.num + 1; omega))
  clear hl1 hlo hrs hbz
  refine wp_region_once 13 (by kernel_rfl) (fun _ => none) (by kernel_rfl) (by kernel_rfl) (by decide) (fun ii u X => match ii with
    | 0 => u = .pointer (some ⟨P, 0, none⟩)
    | 1 => u = .pointer (some ⟨P, 0, none⟩)
    | 2 => u = .pointer (some ⟨P, 0, none⟩)
    | 3 => u = .pointer (some ⟨B, 0, none⟩)
    | 4 => u = .pointer (some ⟨ob, 1, none⟩)
    | 5 => u = .agg (cv ck)
    | 6 => SixR P B R N s (fun v _ => u = .nilIface) l1 l w2 u X
    | 7 => u = .pointer (some ⟨P, 0, none⟩)
    | 8 => u = .pointer (some ⟨P, 0, none⟩)
    | 9 => u = .pointer (some ⟨P, 1, none⟩)
    | 10 => u = .pointer (some ⟨R, 0, none⟩)
    | 11 => u = .pointer (some ⟨ob, 1, none⟩)
    | 12 => u = .agg (cv ck)
    | _ => True) (fun _ => false) (fun _ _ _ _ h => by cases h) 6 (by decide) (fun a b => Ch (fun k => k = B) a b) (fun a b => Ch (fun k => k = B) a b) (fun _ _ g h => g.later h) (fun _ h => Ch.of h) (fun _ _ h g => (Ch.of h).trans g) (fun _ _ g => g.size) ?_ ?_ ?_ ?_
  · intro ii u X X' hR hb
    match ii, hR with
    | 0, h => exact h
    | 1, h => exact h
    | 2, h => exact h
    | 3, h => exact h
    | 4, h => exact h
    | 5, h => exact h
    | 6, h => exact SixR.laterV id h hb
    | 7, h => exact h
    | 8, h => exact h
    | 9, h => exact h
    | 10, h => exact h
    | 11, h => exact h
    | 12, h => exact h
    | m + 13, h => exact h
  · intro ii u X X' hne hR hb
    match ii, hne, hR with
    | 0, hne, h => exact h
    | 1, hne, h => exact h
    | 2, hne, h => exact h
    | 3, hne, h => exact h
    | 4, hne, h => exact h
    | 5, hne, h => exact h
    | 6, hne, h => exact absurd rfl hne
    | 7, hne, h => exact h
    | 8, hne, h => exact h
    | 9, hne, h => exact h
    | 10, hne, h => exact h
    | 11, hne, h => exact h
    | 12, hne, h => exact h
    | m + 13, _, h => exact h
  · intro ii o hi ho q X vals hX hC hdep hoth
    have t0 : q.tmps[0]? = some (.pointer (some ⟨P, 0, none⟩)) := by rw [hoth 0 (by kernel_rfl)]; rfl
    have t3 : q.tmps[3]? = some (.pointer (some ⟨ob, 0, none⟩)) := by rw [hoth 3 (by kernel_rfl)]; rfl
    match ii, hi, ho, hC with
    | 0, _, ho, hC =>
      simp only [List.getElem?_cons_zero, Option.some.injEq] at ho
      subst ho
      unfold Oper.wp
      simp [execOp, go_sem, t0]
      exact cameB _ rfl (by decide) (Below.refl _ _) rfl (fun h => absurd h (by decide))
    | 1, _, ho, hC =>
      simp only [List.getElem?_cons_succ, List.getElem?_cons_zero, Option.some.injEq] at ho
      subst ho
      obtain ⟨u0, e0⟩ := hdep ⟨0, .data⟩ (by simp) rfl _ 11 rfl rfl
      rw [show vals 0 = .pointer (some ⟨P, 0, none⟩) from e0] at u0
      unfold Oper.wp
      simp [execOp, go_sem, u0]
      exact cameB _ rfl (by decide) (Below.refl _ _) rfl (fun h => absurd h (by decide))
    | 2, _, ho, hC =>
      simp only [List.getElem?_cons_succ, List.getElem?_cons_zero, Option.some.injEq] at ho
      subst ho
      obtain ⟨u1, e1⟩ := hdep ⟨1, .data⟩ (by simp) rfl _ 12 rfl rfl
      rw [show vals 1 = .pointer (some ⟨P, 0, none⟩) from e1] at u1
      unfold Oper.wp
      simp [execOp, go_sem, u1]
      exact cameB _ rfl (by decide) (Below.refl _ _) rfl (fun h => absurd h (by decide))
    | 3, _, ho, hC =>
      simp only [List.getElem?_cons_succ, List.getElem?_cons_zero, Option.some.injEq] at ho
      subst ho
      obtain ⟨u2, e2⟩ := hdep ⟨2, .data⟩ (by simp) rfl _ 13 rfl rfl
      rw [show vals 2 = .pointer (some ⟨P, 0, none⟩) from e2] at u2
      have cc : X.cell? ⟨P, 0, none⟩ = some (.pointer (some ⟨B, 0, none⟩)) := (HP.out X hX).1.cell 0
      unfold Oper.wp
      simp [execOp, go_sem, u2, cc]
      exact cameB _ rfl (by decide) (Below.refl _ _) rfl (fun h => absurd h (by decide))
    | 4, _, ho, hC =>
      simp only [List.getElem?_cons_succ, List.getElem?_cons_zero, Option.some.injEq] at ho
      subst ho
      unfold Oper.wp
      simp [execOp, go_sem, t3]
      exact cameB _ rfl (by decide) (Below.refl _ _) rfl (fun h => absurd h (by decide))
    | 5, _, ho, hC =>
      simp only [List.getElem?_cons_succ, List.getElem?_cons_zero, Option.some.injEq] at ho
      subst ho
      obtain ⟨u4, e4⟩ := hdep ⟨4, .data⟩ (by simp) rfl _ 15 rfl rfl
      rw [show vals 4 = .pointer (some ⟨ob, 1, none⟩) from e4] at u4
      exact opCk hck _ rfl (by simp [Act.eval, u4]) (HP.out X hX).2.1 (cameB _ rfl (by decide) (Below.refl _ _) rfl (fun h => absurd h (by decide)))
    | 6, _, ho, hC =>
      simp only [List.getElem?_cons_succ, List.getElem?_cons_zero, Option.some.injEq] at ho
      subst ho
      obtain ⟨u3, e3⟩ := hdep ⟨3, .data⟩ (by simp) rfl _ 14 rfl rfl
      rw [show vals 3 = .pointer (some ⟨B, 0, none⟩) from e3] at u3
      obtain ⟨u5, e5⟩ := hdep ⟨5, .data⟩ (by simp) rfl _ 16 rfl rfl
      rw [show vals 5 = .agg (cv ck) from e5] at u5
      have hb := hC (.inl rfl)
      have hh := Pr2.later H2.out hb
      unfold Oper.wp
      simp [go_sem, u3, u5]
      refine (HSt.out X hh.2.1).mono ?_
      rintro e9 X1 ⟨rfl, i1, i2⟩
      exact cameX _ rfl i2 ⟨rfl, hh.goD i1 i2, (Ch.of hb).trans i2⟩ rfl
    | 7, _, ho, hC =>
      simp only [List.getElem?_cons_succ, List.getElem?_cons_zero, Option.some.injEq] at ho
      subst ho
      unfold Oper.wp
      simp [execOp, go_sem, t0]
      exact cameB _ rfl (by decide) (Below.refl _ _) rfl (fun h => absurd h (by decide))
    | 8, _, ho, hC =>
      simp only [List.getElem?_cons_succ, List.getElem?_cons_zero, Option.some.injEq] at ho
      subst ho
      obtain ⟨u7, e7⟩ := hdep ⟨7, .data⟩ (by simp) rfl _ 18 rfl rfl
      rw [show vals 7 = .pointer (some ⟨P, 0, none⟩) from e7] at u7
      unfold Oper.wp
      simp [execOp, go_sem, u7]
      exact cameB _ rfl (by decide) (Below.refl _ _) rfl (fun h => absurd h (by decide))
    | 9, _, ho, hC =>
      simp only [List.getElem?_cons_succ, List.getElem?_cons_zero, Option.some.injEq] at ho
      subst ho
      obtain ⟨u8, e8⟩ := hdep ⟨8, .data⟩ (by simp) rfl _ 19 rfl rfl
      rw [show vals 8 = .pointer (some ⟨P, 0, none⟩) from e8] at u8
      unfold Oper.wp
      simp [execOp, go_sem, u8]
      exact cameB _ rfl (by decide) (Below.refl _ _) rfl (fun h => absurd h (by decide))
    | 10, _, ho, hC =>
      simp only [List.getElem?_cons_succ, List.getElem?_cons_zero, Option.some.injEq] at ho
      subst ho
      obtain ⟨u9, e9⟩ := hdep ⟨9, .data⟩ (by simp) rfl _ 20 rfl rfl
      rw [show vals 9 = .pointer (some ⟨P, 1, none⟩) from e9] at u9
      have cc : X.cell? ⟨P, 1, none⟩ = some (.pointer (some ⟨R, 0, none⟩)) := (HP.out X hX).1.cell 1
      unfold Oper.wp
      simp [execOp, go_sem, u9, cc]
      exact cameB _ rfl (by decide) (Below.refl _ _) rfl (fun h => absurd h (by decide))
    | 11, _, ho, hC =>
      simp only [List.getElem?_cons_succ, List.getElem?_cons_zero, Option.some.injEq] at ho
      subst ho
      unfold Oper.wp
      simp [execOp, go_sem, t3]
      exact cameB _ rfl (by decide) (Below.refl _ _) rfl (fun h => absurd h (by decide))
    | 12, _, ho, hC =>
      simp only [List.getElem?_cons_succ, List.getElem?_cons_zero, Option.some.injEq] at ho
      subst ho
      obtain ⟨u11, e11⟩ := hdep ⟨11, .data⟩ (by simp) rfl _ 22 rfl rfl
      rw [show vals 11 = .pointer (some ⟨ob, 1, none⟩) from e11] at u11
      exact opCk hck _ rfl (by simp [Act.eval, u11]) (HP.out X hX).2.1 (cameB _ rfl (by decide) (Below.refl _ _) rfl (fun h => absurd h (by decide)))
    | m + 13, hi, _, _ => exact absurd hi (by omega)
  · intro vals X hX hR _
    obtain ⟨e6, p6, b6⟩ : vals 6 = .nilIface ∧ Pr2 P B R N s l1 l X ∧ Ch (fun k => k = B) w2 X := hR 6 (by decide)
    have e10 : vals 10 = .pointer (some ⟨R, 0, none⟩) := hR 10 (by decide)
    have e12 : vals 12 = .agg (cv ck) := hR 12 (by decide)
    have HF := hid_of' (HRt.out X p6.2.2)
    have H8 := hid_of' (And.intro p6 (HB2.out.trans (b6.mono (fun _ q => .inl (.inl q)))))
    clear hR hX p6 b6
    simp only [List.drop, List.take, putAll, List.setIfInBounds_toArray, List.set_cons_succ, List.set_cons_zero, e6, e10, e12]
    clear e6 e10 e12
    go_upto_region 20 with (first | (go_at_call 37; refine HF.out.mono ?_; rintro e w3 ⟨rfl, i1, i2⟩; clear HF) | (go_at_call 11; refine (refused_none _ _ _ _ _ _ _).mono ?_; rintro e w4 ⟨rfl, hb4⟩))
    have HZ := hid_of' (And.intro ((H8.out.1.goR i1 i2).later hb4) ((H8.out.2.trans (i2.mono (fun _ q => .inl (.inr q)))).later hb4))
    clear i1 i2 hb4
    go_wp2
    go_ret
    exact ⟨_, rfl, HZ.out.1, HNl.out, HZ.out.2⟩

set_option maxHeartbeats 4000000 in
theorem does_0b {P B R N s : Nat} {l : List Rnd} {w : World} (H0 : PrAt P B R N s l w) (hl : NumL l) (hsN : s < N) (h8 : N ≤ 8) {d : Int} (hd : fitsI d) {ck : List Int} (hck : ck.length = 8) {m : List Rnd} (om : OkL m) {ad : Nat → Addr} {w0 : World} (L : Laid ad w0) (hL : Below w0.heap.size w0 w) (hBL : w0.heap.size ≤ B) (hw : wiN d 5 = 0) {r : Rnd} (hrs : l[s]? = some r) (hbz : busyR r = true) :
    Calls Tryd.prog 13 #[.pointer (some ⟨P, 0, none⟩), .agg (cv (opc d ck m))] w (DoQ P B R N s w) := by
  have hb2 := below_one w (.cells (cv (opc d ck m)) 48)
  have ho2 := RowAt.news w (cv (opc d ck m)) 48
  have c0 : (w.alloc (.cells (cv (opc d ck m)) 48)).cell? ⟨w.heap.size, 0, none⟩ = some (.int .i64 d) := ho2.int (k := 0) (by rw [opc_len hck om]; decide)
  have HW := hid_of' (within_is d 5 (w.alloc (.cells (cv (opc d ck m)) 48)) (by decide) (by decide) hd)
  rw [hw] at HW
  have hs8 : s < 8 := by omega
  have ok := H0.2.1.2
  have HPL := hid_of' (And.intro H0.1.lt (And.intro H0.2.1.lt H0.2.2.lt))
  have H2 := hid_of' (show Pr2 P B R N s l l _ from H0.later hb2)
  have HO := hid_of' ho2
  have HB2 := hid_of' (Ch.of (S := fun k => k = B ∨ k = R) hb2)
  have HBL := hid_of' hBL
  have HL := hid_of' (And.intro L (hL.trans (hb2.mono hL.size)))
  clear H0 ho2 hb2 hL L
  go_enter Tryd.func13, Tryd.ntmps13
  go_upto_region 3 with (go_at_call 23; refine HW.out.mono ?_; rintro e w1 ⟨rfl, hw1⟩; obtain rfl := hw1.symm; clear HW)
  clear c0
  obtain ⟨ob, hob⟩ : ∃ ob, w.heap.size = ob := ⟨_, rfl⟩
  rw [hob] at HO HPL ⊢
  generalize w.alloc (.cells (cv (opc d ck m)) 48) = w2 at H2 HO HB2 HL ⊢
  have HP : Hid (∀ X, Ch (fun k => k = B) w2 X → RowAt P #[.pointer (some ⟨B, 0, none⟩), .pointer (some ⟨R, 0, none⟩)] 39 X ∧ CsIn ob 1 (cv ck) X ∧ CsIn ob 9 (cv (rs m)) X) := hid_of' fun X hX => by
    have ho := HO.out.ch hX (show ¬ ob = B by have := HPL.out; omega)
    exact ⟨H2.out.1.ch hX H2.out.pb, opc_ck hck om ho, opc_rs hck om ho⟩
  have HSt : Hid (∀ X, DkAt B N s l X → Below w0.heap.size w0 X → Calls Tryd.prog 34 #[.pointer (some ⟨B, 0, none⟩), .agg (cv ck)] X fun e w' => (∃ v, e = .returned v ∧ FtV ad X.heap.size bFlat bProp (s : Int) 10 v w') ∧ Below X.heap.size X w') := hid_of' fun X hX hb => propose_no hX hs8 hrs hck (Lz.of (HL.out.1.below hb)) hbz
  have HRt : Hid (∀ X, RkAt R N s l X → Calls Tryd.prog 37 #[.pointer (some ⟨R, 0, none⟩), .agg (cv ck)] X fun e w' => ∃ g g', e = .returned (.agg (nov 11 (some ⟨g', 0, none⟩) 1 1 (some ⟨g, 0, none⟩) 1 1)) ∧ CsIn g' 0 #[.string bFlat, .string bProp, .int .i64 (s : Int)] w' ∧ CsIn g 0 #[.int .i64 11] w' ∧ Below X.heap.size X w') := hid_of' fun X hX => by
    refine (refPropose_no hX hs8 hrs hck hbz).mono ?_
    rintro e w' ⟨g, g', h1, h2, h3, h4, _⟩
    exact ⟨g, g', h1, h2, h3, h4⟩
  clear hrs hbz
  refine wp_region_once 13 (by kernel_rfl) (fun _ => none) (by kernel_rfl) (by kernel_rfl) (by decide) (fun ii u X => match ii with
    | 0 => u = .pointer (some ⟨P, 0, none⟩)
    | 1 => u = .pointer (some ⟨P, 0, none⟩)
    | 2 => u = .pointer (some ⟨P, 0, none⟩)
    | 3 => u = .pointer (some ⟨B, 0, none⟩)
    | 4 => u = .pointer (some ⟨ob, 1, none⟩)
    | 5 => u = .agg (cv ck)
    | 6 => SixR P B R N s (fun v x => ∃ b9, FtV ad b9 bFlat bProp (s : Int) 10 v x) l l w2 u X
    | 7 => u = .pointer (some ⟨P, 0, none⟩)
    | 8 => u = .pointer (some ⟨P, 0, none⟩)
    | 9 => u = .pointer (some ⟨P, 1, none⟩)
    | 10 => u = .pointer (some ⟨R, 0, none⟩)
    | 11 => u = .pointer (some ⟨ob, 1, none⟩)
    | 12 => u = .agg (cv ck)
    | _ => True) (fun _ => false) (fun _ _ _ _ h => by cases h) 6 (by decide) (fun a b => Ch (fun k => k = B) a b) (fun a b => Ch (fun k => k = B) a b) (fun _ _ g h => g.later h) (fun _ h => Ch.of h) (fun _ _ h g => (Ch.of h).trans g) (fun _ _ g => g.size) ?_ ?_ ?_ ?_
  · intro ii u X X' hR hb
    match ii, hR with
    | 0, h => exact h
    | 1, h => exact h
    | 2, h => exact h
    | 3, h => exact h
    | 4, h => exact h
    | 5, h => exact h
    | 6, h => exact SixR.laterV (fun q => q.imp fun _ q => q.later hb) h hb
    | 7, h => exact h
    | 8, h => exact h
    | 9, h => exact h
    | 10, h => exact h
    | 11, h => exact h
    | 12, h => exact h
    | m + 13, h => exact h
  · intro ii u X X' hne hR hb
    match ii, hne, hR with
    | 0, hne, h => exact h
    | 1, hne, h => exact h
    | 2, hne, h => exact h
    | 3, hne, h => exact h
    | 4, hne, h => exact h
    | 5, hne, h => exact h
    | 6, hne, h => exact absurd rfl hne
    | 7, hne, h => exact h
    | 8, hne, h => exact h
    | 9, hne, h => exact h
    | 10, hne, h => exact h
    | 11, hne, h => exact h
    | 12, hne, h => exact h
    | m + 13, _, h => exact h
  · intro ii o hi ho q X vals hX hC hdep hoth
    have t0 : q.tmps[0]? = some (.pointer (some ⟨P, 0, none⟩)) := by rw [hoth 0 (by kernel_rfl)]; rfl
    have t3 : q.tmps[3]? = some (.pointer (some ⟨ob, 0, none⟩)) := by rw [hoth 3 (by kernel_rfl)]; rfl
    match ii, hi, ho, hC with
    | 0, _, ho, hC =>
      simp only [List.getElem?_cons_zero, Option.some.injEq] at ho
      subst ho
      unfold Oper.wp
      simp [execOp, go_sem, t0]
      exact cameB _ rfl (by decide) (Below.refl _ _) rfl (fun h => absurd h (by decide))
    | 1, _, ho, hC =>
      simp only [List.getElem?_cons_succ, List.getElem?_cons_zero, Option.some.injEq] at ho
      subst ho
      obtain ⟨u0, e0⟩ := hdep ⟨0, .data⟩ (by simp) rfl _ 11 rfl rfl
      rw [show vals 0 = .pointer (some ⟨P, 0, none⟩) from e0] at u0
      unfold Oper.wp
      simp [execOp, go_sem, u0]
      exact cameB _ rfl (by decide) (Below.refl _ _) rfl (fun h => absurd h (by decide))
    | 2, _, ho, hC =>
      simp only [List.getElem?_cons_succ, List.getElem?_cons_zero, Option.some.injEq] at ho
      subst ho
      obtain ⟨u1, e1⟩ := hdep ⟨1, .data⟩ (by simp) rfl _ 12 rfl rfl
      rw [show vals 1 = .pointer (some ⟨P, 0, none⟩) from e1] at u1
      unfold Oper.wp
      simp [execOp, go_sem, u1]
      exact cameB _ rfl (by decide) (Below.refl _ _) rfl (fun h => absurd h (by decide))
    | 3, _, ho, hC =>
      simp only [List.getElem?_cons_succ, List.getElem?_cons_zero, Option.some.injEq] at ho
      subst ho
      obtain ⟨u2, e2⟩ := hdep ⟨2, .data⟩ (by simp) rfl _ 13 rfl rfl
      rw [show vals 2 = .pointer (some ⟨P, 0, none⟩) from e2] at u2
      have cc : X.cell? ⟨P, 0, none⟩ = some (.pointer (some ⟨B, 0, none⟩)) := (HP.out X hX).1.cell 0
      unfold Oper.wp
      simp [execOp, go_sem, u2, cc]
      exact cameB _ rfl (by decide) (Below.refl _ _) rfl (fun h => absurd h (by decide))
    | 4, _, ho, hC =>
      simp only [List.getElem?_cons_succ, List.getElem?_cons_zero, Option.some.injEq] at ho
      subst ho
      unfold Oper.wp
      simp [execOp, go_sem, t3]
      exact cameB _ rfl (by decide) (Below.refl _ _) rfl (fun h => absurd h (by decide))
    | 5, _, ho, hC =>
      simp only [List.getElem?_cons_succ, List.getElem?_cons_zero, Option.some.injEq] at ho
      subst ho
      obtain ⟨u4, e4⟩ := hdep ⟨4, .data⟩ (by simp) rfl _ 15 rfl rfl
      rw [show vals 4 = .pointer (some ⟨ob, 1, none⟩) from e4] at u4
      exact opCk hck _ rfl (by simp [Act.eval, u4]) (HP.out X hX).2.1 (cameB _ rfl (by decide) (Below.refl _ _) rfl (fun h => absurd h (by decide)))
    | 6, _, ho, hC =>
      simp only [List.getElem?_cons_succ, List.getElem?_cons_zero, Option.some.injEq] at ho
      subst ho
      obtain ⟨u3, e3⟩ := hdep ⟨3, .data⟩ (by simp) rfl _ 14 rfl rfl
      rw [show vals 3 = .pointer (some ⟨B, 0, none⟩) from e3] at u3
      obtain ⟨u5, e5⟩ := hdep ⟨5, .data⟩ (by simp) rfl _ 16 rfl rfl
      rw [show vals 5 = .agg (cv ck) from e5] at u5
      have hb := hC (.inl rfl)
      have hh := Pr2.later H2.out hb
      unfold Oper.wp
      simp [go_sem, u3, u5]
      refine (HSt.out X hh.2.1 (Below.trans HL.out.2 (hb.mono HL.out.2.size))).mono ?_
      rintro e9 X1 ⟨⟨v, rfl, i1⟩, i2⟩
      exact cameX _ rfl (Ch.of i2) ⟨⟨_, i1⟩, hh.later i2, (Ch.of hb).trans (Ch.of i2)⟩ rfl
    | 7, _, ho, hC =>
      simp only [List.getElem?_cons_succ, List.getElem?_cons_zero, Option.some.injEq] at ho
      subst ho
      unfold Oper.wp
      simp [execOp, go_sem, t0]
      exact cameB _ rfl (by decide) (Below.refl _ _) rfl (fun h => absurd h (by decide))
    | 8, _, ho, hC =>
      simp only [List.getElem?_cons_succ, List.getElem?_cons_zero, Option.some.injEq] at ho
      subst ho
      obtain ⟨u7, e7⟩ := hdep ⟨7, .data⟩ (by simp) rfl _ 18 rfl rfl
      rw [show vals 7 = .pointer (some ⟨P, 0, none⟩) from e7] at u7
      unfold Oper.wp
      simp [execOp, go_sem, u7]
      exact cameB _ rfl (by decide) (Below.refl _ _) rfl (fun h => absurd h (by decide))
    | 9, _, ho, hC =>
      simp only [List.getElem?_cons_succ, List.getElem?_cons_zero, Option.some.injEq] at ho
      subst ho
      obtain ⟨u8, e8⟩ := hdep ⟨8, .data⟩ (by simp) rfl _ 19 rfl rfl
      rw [show vals 8 = .pointer (some ⟨P, 0, none⟩) from e8] at u8
      unfold Oper.wp
      simp [execOp, go_sem, u8]
      exact cameB _ rfl (by decide) (Below.refl _ _) rfl (fun h => absurd h (by decide))
    | 10, _, ho, hC =>
      simp only [List.getElem?_cons_succ, List.getElem?_cons_zero, Option.some.injEq] at ho
      subst ho
      obtain ⟨u9, e9⟩ := hdep ⟨9, .data⟩ (by simp) rfl _ 20 rfl rfl
      rw [show vals 9 = .pointer (some ⟨P, 1, none⟩) from e9] at u9
      have cc : X.cell? ⟨P, 1, none⟩ = some (.pointer (some ⟨R, 0, none⟩)) := (HP.out X hX).1.cell 1
      unfold Oper.wp
      simp [execOp, go_sem, u9, cc]
      exact cameB _ rfl (by decide) (Below.refl _ _) rfl (fun h => absurd h (by decide))
    | 11, _, ho, hC =>
      simp only [List.getElem?_cons_succ, List.getElem?_cons_zero, Option.some.injEq] at ho
      subst ho
      unfold Oper.wp
      simp [execOp, go_sem, t3]
      exact cameB _ rfl (by decide) (Below.refl _ _) rfl (fun h => absurd h (by decide))
    | 12, _, ho, hC =>
      simp only [List.getElem?_cons_succ, List.getElem?_cons_zero, Option.some.injEq] at ho
      subst ho
      obtain ⟨u11, e11⟩ := hdep ⟨11, .data⟩ (by simp) rfl _ 22 rfl rfl
      rw [show vals 11 = .pointer (some ⟨ob, 1, none⟩) from e11] at u11
      exact opCk hck _ rfl (by simp [Act.eval, u11]) (HP.out X hX).2.1 (cameB _ rfl (by decide) (Below.refl _ _) rfl (fun h => absurd h (by decide)))
    | m + 13, hi, _, _ => exact absurd hi (by omega)
  · intro vals X hX hR _
    obtain ⟨⟨b9, b10, e6, f6, _⟩, p6, b6⟩ : (∃ b9, FtV ad b9 bFlat bProp (s : Int) 10 (vals 6) X) ∧ Pr2 P B R N s l l X ∧ Ch (fun k => k = B) w2 X := hR 6 (by decide)
    have e10 : vals 10 = .pointer (some ⟨R, 0, none⟩) := hR 10 (by decide)
    have e12 : vals 12 = .agg (cv ck) := hR 12 (by decide)
    have HF := hid_of' (HRt.out X p6.2.2)
    have H8 := hid_of' (And.intro p6 (HB2.out.trans (b6.mono (fun _ q => .inl (.inl q)))))
    have LX : Laid ad X := HL.out.1.below (HL.out.2.trans (b6.below (fun z hz e => by subst e; have := HBL.out; omega) HL.out.2.size))
    clear hR hX p6 b6
    simp only [List.drop, List.take, putAll, List.setIfInBounds_toArray, List.set_cons_succ, List.set_cons_zero, e6, e10, e12]
    clear e6 e10 e12
    go_upto_region 20 with (first | (go_at_call 37; refine HF.out.mono ?_; rintro e w3 ⟨g, g', rfl, i1, i2, i3⟩; clear HF; have HRf := hid_of' (refused_some (k := 10) (LX.below i3) (RowAt.later f6 i3) (by decide) i1 i2); clear i1 i2) | (go_at_call 11; refine HRf.out.mono ?_; rintro e w4 ⟨rfl, hb4⟩; clear HRf))
    have HZ := hid_of' (And.intro (H8.out.1.later (bgo i3 hb4)) (H8.out.2.later (bgo i3 hb4)))
    clear i3 hb4 LX f6
    go_wp2
    go_ret
    exact ⟨_, rfl, HZ.out.1, hl, HZ.out.2⟩

set_option maxHeartbeats 4000000 in
theorem does_1 {P B R N s : Nat} {l : List Rnd} {w : World} (H0 : PrAt P B R N s l w) (hl : NumL l) (hsN : s < N) (h8 : N ≤ 8) {d : Int} (hd : fitsI d) {ck : List Int} (hck : ck.length = 8) {m : List Rnd} (om : OkL m) (hlm : NumL m) (hw : wiN d 5 = 1) :
    Calls Tryd.prog 13 #[.pointer (some ⟨P, 0, none⟩), .agg (cv (opc d ck m))] w (DoQ P B R N s w) := by
  have hb2 := below_one w (.cells (cv (opc d ck m)) 48)
  have ho2 := RowAt.news w (cv (opc d ck m)) 48
  have c0 : (w.alloc (.cells (cv (opc d ck m)) 48)).cell? ⟨w.heap.size, 0, none⟩ = some (.int .i64 d) := ho2.int (k := 0) (by rw [opc_len hck om]; decide)
  have HW := hid_of' (within_is d 5 (w.alloc (.cells (cv (opc d ck m)) 48)) (by decide) (by decide) hd)
  rw [hw] at HW
  have hs8 : s < 8 := by omega
  have ok := H0.2.1.2
  have HPL := hid_of' (And.intro H0.1.lt (And.intro H0.2.1.lt H0.2.2.lt))
  have H2 := hid_of' (show Pr2 P B R N s l l _ from H0.later hb2)
  have HO := hid_of' ho2
  have HB2 := hid_of' (Ch.of (S := fun k => k = B ∨ k = R) hb2)
  skip
  clear H0 ho2 hb2
  go_enter Tryd.func13, Tryd.ntmps13
  go_upto_region 5 with (go_at_call 23; refine HW.out.mono ?_; rintro e w1 ⟨rfl, hw1⟩; obtain rfl := hw1.symm; clear HW)
  clear c0
  obtain ⟨ob, hob⟩ : ∃ ob, w.heap.size = ob := ⟨_, rfl⟩
  rw [hob] at HO HPL ⊢
  generalize w.alloc (.cells (cv (opc d ck m)) 48) = w2 at H2 HO HB2 ⊢
  obtain ⟨j, hj⟩ : ∃ j, joinL l m = j := ⟨_, rfl⟩
  have oj : OkL j := hj ▸ joinL_ok ok om
  have HNl : Hid (NumL j) := hid_of' (hj ▸ numL_join hl hlm)
  have HJn : Hid (∀ X, Calls Tryd.prog 16 #[.agg (cv (rs l)), .agg (cv (rs m))] X fun e w' => e = .returned (.agg (cv (rs j))) ∧ Below X.heap.size X w') := hid_of' fun X => hj ▸ refJoin_any ok om X
  obtain ⟨b, hbe⟩ : ∃ b, (!(j == l)) = b := ⟨_, rfl⟩
  have HSt : Hid (∀ X, DkAt B N s l X → Calls Tryd.prog 38 #[.pointer (some ⟨B, 0, none⟩), .agg (cv (rs m))] X fun e w' => e = .returned (.bool b) ∧ DkAt B N s j w' ∧ Ch (fun k => k = B) X w') := hid_of' fun X hX => by
    have := deskJoin_any hX om
    rw [hj, BEq.comm, hbe] at this
    exact this
  clear hj
  have c1 := H2.out.1.cell 1
  have hin := H2.out.2.2.rounds
  go_upto_region 6 with (first | (refine ldRnds ok rfl _ rfl rfl hin ?_) | (refine wpL_alloc rfl _ rfl zRnds ?_) | (refine wpL_stRow rfl _ _ _ rfl rfl rfl (RowAt.news w2 _ _) (rnds_size ok) (two_sz (by rw [rs_len ok, rs_len rds0_ok])) (cv_one _) ?_; go_simp))
  clear c1 hin
  have hb5 := below_row (below_one w2 (.cells (cv (rs rds0)) 46)) (Nat.le_refl w2.heap.size) (cv (rs l))
  have r5 := (RowAt.news w2 (cv (rs rds0)) 46).rowI (cv (rs l))
  generalize (w2.alloc (.cells (cv (rs rds0)) 46)).setRow w2.heap.size (cv (rs l)) = w5 at hb5 r5 ⊢
  have HWB : Hid (P < w2.heap.size ∧ B < w2.heap.size ∧ R < w2.heap.size ∧ ob < w2.heap.size) := hid_of' ⟨H2.out.1.lt, H2.out.2.1.lt, H2.out.2.2.lt, HO.out.lt⟩
  obtain ⟨wb, hwb⟩ : ∃ wb, w2.heap.size = wb := ⟨_, rfl⟩
  have H5 := hid_of' (And.intro (H2.out.later hb5) (And.intro r5 (HO.out.later hb5)))
  have HB5 := hid_of' (HB2.out.later hb5)
  rw [hwb] at H5 HWB ⊢
  clear hwb r5 hb5 H2 HO HB2
  refine wp_region_tail 10 (by kernel_rfl) (fun _ => none) (by kernel_rfl) (by kernel_rfl) (by decide) (fun ii u X => match ii with
    | 0 => u = .pointer (some ⟨P, 0, none⟩)
    | 1 => u = .pointer (some ⟨P, 0, none⟩)
    | 2 => u = .pointer (some ⟨P, 1, none⟩)
    | 3 => u = .pointer (some ⟨R, 0, none⟩)
    | 4 => u = .agg (cv (rs l))
    | 5 => u = .pointer (some ⟨ob, 9, none⟩)
    | 6 => u = .agg (cv (rs m))
    | 7 => u = .agg (cv (rs j))
    | 8 => u = .pointer (some ⟨R, 0, none⟩)
    | 9 => u = .pointer (some ⟨R, 2, none⟩)
    | _ => True) (fun _ => false) (fun _ _ _ _ h => by cases h) ?_ ?_ ?_
  · intro ii u X X' hR hb
    match ii, hR with
    | 0, h => exact h
    | 1, h => exact h
    | 2, h => exact h
    | 3, h => exact h
    | 4, h => exact h
    | 5, h => exact h
    | 6, h => exact h
    | 7, h => exact h
    | 8, h => exact h
    | 9, h => exact h
    | m + 10, h => exact h
  · intro ii o hi ho qq X vals hX hdep hoth
    have t0 : qq.tmps[0]? = some (.pointer (some ⟨P, 0, none⟩)) := by rw [hoth 0 (by kernel_rfl)]; rfl
    have t3 : qq.tmps[3]? = some (.pointer (some ⟨ob, 0, none⟩)) := by rw [hoth 3 (by kernel_rfl)]; rfl
    have t5 : qq.tmps[5]? = some (.pointer (some ⟨wb, 0, none⟩)) := by rw [hoth 5 (by kernel_rfl)]; rfl
    match ii, hi, ho with
    | 0, _, ho =>
      simp only [List.getElem?_cons_zero, Option.some.injEq] at ho
      subst ho
      unfold Oper.wp
      simp [execOp, go_sem, t0]
      exact came _ rfl (Below.refl _ _) rfl (fun h => absurd h (by decide))
    | 1, _, ho =>
      simp only [List.getElem?_cons_succ, List.getElem?_cons_zero, Option.some.injEq] at ho
      subst ho
      obtain ⟨u0, e0⟩ := hdep ⟨0, .data⟩ (by simp) rfl _ 35 rfl rfl
      rw [show vals 0 = .pointer (some ⟨P, 0, none⟩) from e0] at u0
      unfold Oper.wp
      simp [execOp, go_sem, u0]
      exact came _ rfl (Below.refl _ _) rfl (fun h => absurd h (by decide))
    | 2, _, ho =>
      simp only [List.getElem?_cons_succ, List.getElem?_cons_zero, Option.some.injEq] at ho
      subst ho
      obtain ⟨u1, e1⟩ := hdep ⟨1, .data⟩ (by simp) rfl _ 36 rfl rfl
      rw [show vals 1 = .pointer (some ⟨P, 0, none⟩) from e1] at u1
      unfold Oper.wp
      simp [execOp, go_sem, u1]
      exact came _ rfl (Below.refl _ _) rfl (fun h => absurd h (by decide))
    | 3, _, ho =>
      simp only [List.getElem?_cons_succ, List.getElem?_cons_zero, Option.some.injEq] at ho
      subst ho
      obtain ⟨u2, e2⟩ := hdep ⟨2, .data⟩ (by simp) rfl _ 37 rfl rfl
      rw [show vals 2 = .pointer (some ⟨P, 1, none⟩) from e2] at u2
      have cc : X.cell? ⟨P, 1, none⟩ = some (.pointer (some ⟨R, 0, none⟩)) := (Pr2.later H5.out.1 hX).1.cell 1
      unfold Oper.wp
      simp [execOp, go_sem, u2, cc]
      exact came _ rfl (Below.refl _ _) rfl (fun h => absurd h (by decide))
    | 4, _, ho =>
      simp only [List.getElem?_cons_succ, List.getElem?_cons_zero, Option.some.injEq] at ho
      subst ho
      exact opRnds ok _ rfl (by simp [Act.eval, t5]) (RowAt.later H5.out.2.1 hX).in (came _ rfl (Below.refl _ _) rfl (fun h => absurd h (by decide)))
    | 5, _, ho =>
      simp only [List.getElem?_cons_succ, List.getElem?_cons_zero, Option.some.injEq] at ho
      subst ho
      unfold Oper.wp
      simp [execOp, go_sem, t3]
      exact came _ rfl (Below.refl _ _) rfl (fun h => absurd h (by decide))
    | 6, _, ho =>
      simp only [List.getElem?_cons_succ, List.getElem?_cons_zero, Option.some.injEq] at ho
      subst ho
      obtain ⟨u5, e5⟩ := hdep ⟨5, .data⟩ (by simp) rfl _ 40 rfl rfl
      rw [show vals 5 = .pointer (some ⟨ob, 9, none⟩) from e5] at u5
      exact opRnds om _ rfl (by simp [Act.eval, u5]) (opc_rs hck om (RowAt.later H5.out.2.2 hX)) (came _ rfl (Below.refl _ _) rfl (fun h => absurd h (by decide)))
    | 7, _, ho =>
      simp only [List.getElem?_cons_succ, List.getElem?_cons_zero, Option.some.injEq] at ho
      subst ho
      obtain ⟨u4, e4⟩ := hdep ⟨4, .data⟩ (by simp) rfl _ 39 rfl rfl
      rw [show vals 4 = .agg (cv (rs l)) from e4] at u4
      obtain ⟨u6, e6⟩ := hdep ⟨6, .data⟩ (by simp) rfl _ 41 rfl rfl
      rw [show vals 6 = .agg (cv (rs m)) from e6] at u6
      unfold Oper.wp
      simp [go_sem, u4, u6]
      refine (HJn.out X).mono ?_
      rintro r x1 ⟨rfl, hb1⟩
      exact came _ rfl hb1 rfl (fun h => absurd h (by decide))
    | 8, _, ho =>
      simp only [List.getElem?_cons_succ, List.getElem?_cons_zero, Option.some.injEq] at ho
      subst ho
      obtain ⟨u3, e3⟩ := hdep ⟨3, .data⟩ (by simp) rfl _ 38 rfl rfl
      rw [show vals 3 = .pointer (some ⟨R, 0, none⟩) from e3] at u3
      unfold Oper.wp
      simp [execOp, go_sem, u3]
      exact came _ rfl (Below.refl _ _) rfl (fun h => absurd h (by decide))
    | 9, _, ho =>
      simp only [List.getElem?_cons_succ, List.getElem?_cons_zero, Option.some.injEq] at ho
      subst ho
      obtain ⟨u8, e8⟩ := hdep ⟨8, .data⟩ (by simp) rfl _ 43 rfl rfl
      rw [show vals 8 = .pointer (some ⟨R, 0, none⟩) from e8] at u8
      unfold Oper.wp
      simp [execOp, go_sem, u8]
      exact came _ rfl (Below.refl _ _) rfl (fun h => absurd h (by decide))
    | m + 10, hi, _ => exact absurd hi (by omega)
  · intro vals X hX hR _
    have e7 : vals 7 = .agg (cv (rs j)) := hR 7 (by decide)
    have e9 : vals 9 = .pointer (some ⟨R, 2, none⟩) := hR 9 (by decide)
    have pX := Pr2.later H5.out.1 hX
    have hp := pX.2.2.1.putC (o := 2) (y := rs j) (by rw [dk_len N s pX.2.2.2, rs_len oj]; exact Nat.le_refl _)
    rw [dk_all N s pX.2.2.2 oj] at hp
    have hc := Ch.cells (S := fun k => k = R) (a := X) (g := R) (.inl rfl) (cv (rs j)).toList 2 X (Ch.refl _ _)
    have hr3 := pX.2.2.1
    have hln : 2 + 144 ≤ (dk (N : Int) (s : Int) l).length := by rw [dk_len N s pX.2.2.2]; exact Nat.le_refl _
    have hwR : ¬ wb = R := by have := HWB.out; omega
    have hoR : ¬ ob = R := by have := HPL.out; omega
    have H6 := hid_of' (And.intro (pX.goR ⟨hp, oj⟩ hc) (And.intro ((RowAt.later H5.out.2.1 hX).ch hc hwR) (And.intro ((RowAt.later H5.out.2.2 hX).ch hc hoR) ((HB5.out.later hX).trans (hc.mono (fun _ q => .inl (.inr q)))))))
    clear hR hX pX hp hc hwR hoR
    simp only [List.drop, List.take, putAll, List.setIfInBounds_toArray, List.set_cons_succ, List.set_cons_zero, e7, e9]
    clear e7 e9
    go_upto_region 7 with (refine stRnds rfl _ _ rfl rfl oj rfl hr3 hln ?_)
    generalize X.setCells R 2 (cv (rs j)).toList = w2 at H6 ⊢
    clear hr3 hln H5 HB5
    have H2 := hid_of' H6.out.1
    have HP : Hid (∀ X, Ch (fun k => k = B) w2 X → RowAt P #[.pointer (some ⟨B, 0, none⟩), .pointer (some ⟨R, 0, none⟩)] 39 X ∧ CsIn ob 9 (cv (rs m)) X ∧ RowAt wb (cv (rs l)) 46 X ∧ CsIn R 2 (cv (rs j)) X) := hid_of' fun X hX => by
      have hw := HWB.out
      have hq := HPL.out
      exact ⟨H6.out.1.1.ch hX H6.out.1.pb, opc_rs hck om (H6.out.2.2.1.ch hX (by omega)), H6.out.2.1.ch hX (by omega), (H6.out.1.2.2.ch hX (fun e => H6.out.1.br e.symm)).rounds⟩
    have hq := eqInRnds 9995 oj ok
    have hgd := rnds_guard
    have hbv : (j == l) = !b := by rw [← hbe]; simp
    have sb : (b == b) = true := by simp
    clear hbe
    refine wp_region_once 16 (by kernel_rfl) (fun _ => none) (by kernel_rfl) (by kernel_rfl) (by decide) (fun ii u X => match ii with
      | 0 => u = .pointer (some ⟨P, 0, none⟩)
      | 1 => u = .pointer (some ⟨P, 0, none⟩)
      | 2 => u = .pointer (some ⟨P, 0, none⟩)
      | 3 => u = .pointer (some ⟨B, 0, none⟩)
      | 4 => u = .pointer (some ⟨ob, 9, none⟩)
      | 5 => u = .agg (cv (rs m))
      | 6 => SixR P B R N s (fun v _ => u = .bool b) j j w2 u X
      | 7 => u = .pointer (some ⟨P, 0, none⟩)
      | 8 => u = .pointer (some ⟨P, 0, none⟩)
      | 9 => u = .pointer (some ⟨P, 1, none⟩)
      | 10 => u = .pointer (some ⟨R, 0, none⟩)
      | 11 => u = .pointer (some ⟨R, 0, none⟩)
      | 12 => u = .pointer (some ⟨R, 2, none⟩)
      | 13 => u = .agg (cv (rs j))
      | 14 => u = .agg (cv (rs l))
      | 15 => u = .bool b
      | _ => True) (fun _ => false) (fun _ _ _ _ h => by cases h) 6 (by decide) (fun a b => Ch (fun k => k = B) a b) (fun a b => Ch (fun k => k = B) a b) (fun _ _ g h => g.later h) (fun _ h => Ch.of h) (fun _ _ h g => (Ch.of h).trans g) (fun _ _ g => g.size) ?_ ?_ ?_ ?_
    · intro ii u X X' hR hb
      match ii, hR with
      | 0, h => exact h
      | 1, h => exact h
      | 2, h => exact h
      | 3, h => exact h
      | 4, h => exact h
      | 5, h => exact h
      | 6, h => exact SixR.laterV id h hb
      | 7, h => exact h
      | 8, h => exact h
      | 9, h => exact h
      | 10, h => exact h
      | 11, h => exact h
      | 12, h => exact h
      | 13, h => exact h
      | 14, h => exact h
      | 15, h => exact h
      | m + 16, h => exact h
    · intro ii u X X' hne hR hb
      match ii, hne, hR with
      | 0, hne, h => exact h
      | 1, hne, h => exact h
      | 2, hne, h => exact h
      | 3, hne, h => exact h
      | 4, hne, h => exact h
      | 5, hne, h => exact h
      | 6, hne, h => exact absurd rfl hne
      | 7, hne, h => exact h
      | 8, hne, h => exact h
      | 9, hne, h => exact h
      | 10, hne, h => exact h
      | 11, hne, h => exact h
      | 12, hne, h => exact h
      | 13, hne, h => exact h
      | 14, hne, h => exact h
      | 15, hne, h => exact h
      | m + 16, _, h => exact h
    · intro ii o hi ho q X vals hX hC hdep hoth
      have t0 : q.tmps[0]? = some (.pointer (some ⟨P, 0, none⟩)) := by rw [hoth 0 (by kernel_rfl)]; rfl
      have t3 : q.tmps[3]? = some (.pointer (some ⟨ob, 0, none⟩)) := by rw [hoth 3 (by kernel_rfl)]; rfl
      have t5 : q.tmps[5]? = some (.pointer (some ⟨wb, 0, none⟩)) := by rw [hoth 5 (by kernel_rfl)]; rfl
      match ii, hi, ho, hC with
      | 0, _, ho, hC =>
        simp only [List.getElem?_cons_zero, Option.some.injEq] at ho
        subst ho
        unfold Oper.wp
        simp [execOp, go_sem, t0]
        exact cameB _ rfl (by decide) (Below.refl _ _) rfl (fun h => absurd h (by decide))
      | 1, _, ho, hC =>
        simp only [List.getElem?_cons_succ, List.getElem?_cons_zero, Option.some.injEq] at ho
        subst ho
        obtain ⟨u0, e0⟩ := hdep ⟨0, .data⟩ (by simp) rfl _ 45 rfl rfl
        rw [show vals 0 = .pointer (some ⟨P, 0, none⟩) from e0] at u0
        unfold Oper.wp
        simp [execOp, go_sem, u0]
        exact cameB _ rfl (by decide) (Below.refl _ _) rfl (fun h => absurd h (by decide))
      | 2, _, ho, hC =>
        simp only [List.getElem?_cons_succ, List.getElem?_cons_zero, Option.some.injEq] at ho
        subst ho
        obtain ⟨u1, e1⟩ := hdep ⟨1, .data⟩ (by simp) rfl _ 46 rfl rfl
        rw [show vals 1 = .pointer (some ⟨P, 0, none⟩) from e1] at u1
        unfold Oper.wp
        simp [execOp, go_sem, u1]
        exact cameB _ rfl (by decide) (Below.refl _ _) rfl (fun h => absurd h (by decide))
      | 3, _, ho, hC =>
        simp only [List.getElem?_cons_succ, List.getElem?_cons_zero, Option.some.injEq] at ho
        subst ho
        obtain ⟨u2, e2⟩ := hdep ⟨2, .data⟩ (by simp) rfl _ 47 rfl rfl
        rw [show vals 2 = .pointer (some ⟨P, 0, none⟩) from e2] at u2
        have cc : X.cell? ⟨P, 0, none⟩ = some (.pointer (some ⟨B, 0, none⟩)) := (HP.out X hX).1.cell 0
        unfold Oper.wp
        simp [execOp, go_sem, u2, cc]
        exact cameB _ rfl (by decide) (Below.refl _ _) rfl (fun h => absurd h (by decide))
      | 4, _, ho, hC =>
        simp only [List.getElem?_cons_succ, List.getElem?_cons_zero, Option.some.injEq] at ho
        subst ho
        unfold Oper.wp
        simp [execOp, go_sem, t3]
        exact cameB _ rfl (by decide) (Below.refl _ _) rfl (fun h => absurd h (by decide))
      | 5, _, ho, hC =>
        simp only [List.getElem?_cons_succ, List.getElem?_cons_zero, Option.some.injEq] at ho
        subst ho
        obtain ⟨u4, e4⟩ := hdep ⟨4, .data⟩ (by simp) rfl _ 49 rfl rfl
        rw [show vals 4 = .pointer (some ⟨ob, 9, none⟩) from e4] at u4
        exact opRnds om _ rfl (by simp [Act.eval, u4]) (HP.out X hX).2.1 (cameB _ rfl (by decide) (Below.refl _ _) rfl (fun h => absurd h (by decide)))
      | 6, _, ho, hC =>
        simp only [List.getElem?_cons_succ, List.getElem?_cons_zero, Option.some.injEq] at ho
        subst ho
        obtain ⟨u3, e3⟩ := hdep ⟨3, .data⟩ (by simp) rfl _ 48 rfl rfl
        rw [show vals 3 = .pointer (some ⟨B, 0, none⟩) from e3] at u3
        obtain ⟨u5, e5⟩ := hdep ⟨5, .data⟩ (by simp) rfl _ 50 rfl rfl
        rw [show vals 5 = .agg (cv (rs m)) from e5] at u5
        have hb := hC (.inl rfl)
        have hh := Pr2.later H2.out hb
        unfold Oper.wp
        simp [go_sem, u3, u5]
        refine (HSt.out X hh.2.1).mono ?_
        rintro e9 X1 ⟨rfl, i1, i2⟩
        exact cameX _ rfl i2 ⟨rfl, hh.goD i1 i2, (Ch.of hb).trans i2⟩ rfl
      | 7, _, ho, hC =>
        simp only [List.getElem?_cons_succ, List.getElem?_cons_zero, Option.some.injEq] at ho
        subst ho
        unfold Oper.wp
        simp [execOp, go_sem, t0]
        exact cameB _ rfl (by decide) (Below.refl _ _) rfl (fun h => absurd h (by decide))
      | 8, _, ho, hC =>
        simp only [List.getElem?_cons_succ, List.getElem?_cons_zero, Option.some.injEq] at ho
        subst ho
        obtain ⟨u7, e7⟩ := hdep ⟨7, .data⟩ (by simp) rfl _ 52 rfl rfl
        rw [show vals 7 = .pointer (some ⟨P, 0, none⟩) from e7] at u7
        unfold Oper.wp
        simp [execOp, go_sem, u7]
        exact cameB _ rfl (by decide) (Below.refl _ _) rfl (fun h => absurd h (by decide))
      | 9, _, ho, hC =>
        simp only [List.getElem?_cons_succ, List.getElem?_cons_zero, Option.some.injEq] at ho
        subst ho
        obtain ⟨u8, e8⟩ := hdep ⟨8, .data⟩ (by simp) rfl _ 53 rfl rfl
        rw [show vals 8 = .pointer (some ⟨P, 0, none⟩) from e8] at u8
        unfold Oper.wp
        simp [execOp, go_sem, u8]
        exact cameB _ rfl (by decide) (Below.refl _ _) rfl (fun h => absurd h (by decide))
      | 10, _, ho, hC =>
        simp only [List.getElem?_cons_succ, List.getElem?_cons_zero, Option.some.injEq] at ho
        subst ho
        obtain ⟨u9, e9⟩ := hdep ⟨9, .data⟩ (by simp) rfl _ 54 rfl rfl
        rw [show vals 9 = .pointer (some ⟨P, 1, none⟩) from e9] at u9
        have cc : X.cell? ⟨P, 1, none⟩ = some (.pointer (some ⟨R, 0, none⟩)) := (HP.out X hX).1.cell 1
        unfold Oper.wp
        simp [execOp, go_sem, u9, cc]
        exact cameB _ rfl (by decide) (Below.refl _ _) rfl (fun h => absurd h (by decide))
      | 11, _, ho, hC =>
        simp only [List.getElem?_cons_succ, List.getElem?_cons_zero, Option.some.injEq] at ho
        subst ho
        obtain ⟨u10, e10⟩ := hdep ⟨10, .data⟩ (by simp) rfl _ 55 rfl rfl
        rw [show vals 10 = .pointer (some ⟨R, 0, none⟩) from e10] at u10
        unfold Oper.wp
        simp [execOp, go_sem, u10]
        exact cameB _ rfl (by decide) (Below.refl _ _) rfl (fun h => absurd h (by decide))
      | 12, _, ho, hC =>
        simp only [List.getElem?_cons_succ, List.getElem?_cons_zero, Option.some.injEq] at ho
        subst ho
        obtain ⟨u11, e11⟩ := hdep ⟨11, .data⟩ (by simp) rfl _ 56 rfl rfl
        rw [show vals 11 = .pointer (some ⟨R, 0, none⟩) from e11] at u11
        unfold Oper.wp
        simp [execOp, go_sem, u11]
        exact cameB _ rfl (by decide) (Below.refl _ _) rfl (fun h => absurd h (by decide))
      | 13, _, ho, hC =>
        simp only [List.getElem?_cons_succ, List.getElem?_cons_zero, Option.some.injEq] at ho
        subst ho
        obtain ⟨u12, e12⟩ := hdep ⟨12, .data⟩ (by simp) rfl _ 57 rfl rfl
        rw [show vals 12 = .pointer (some ⟨R, 2, none⟩) from e12] at u12
        exact opRnds oj _ rfl (by simp [Act.eval, u12]) (HP.out X hX).2.2.2 (cameB _ rfl (by decide) (Below.refl _ _) rfl (fun h => absurd h (by decide)))
      | 14, _, ho, hC =>
        simp only [List.getElem?_cons_succ, List.getElem?_cons_zero, Option.some.injEq] at ho
        subst ho
        exact opRnds ok _ rfl (by simp [Act.eval, t5]) (HP.out X hX).2.2.1.in (cameB _ rfl (by decide) (Below.refl _ _) rfl (fun h => absurd h (by decide)))
      | 15, _, ho, hC =>
        simp only [List.getElem?_cons_succ, List.getElem?_cons_zero, Option.some.injEq] at ho
        subst ho
        obtain ⟨u13, e13⟩ := hdep ⟨13, .data⟩ (by simp) rfl _ 58 rfl rfl
        rw [show vals 13 = .agg (cv (rs j)) from e13] at u13
        obtain ⟨u14, e14⟩ := hdep ⟨14, .data⟩ (by simp) rfl _ 59 rfl rfl
        rw [show vals 14 = .agg (cv (rs l)) from e14] at u14
        unfold Oper.wp
        simp [execOp, go_sem, u13, u14, hq, hgd, hbv]
        exact cameB _ rfl (by decide) (Below.refl _ _) rfl (fun h => absurd h (by decide))
      | m + 16, hi, _, _ => exact absurd hi (by omega)
    · intro vals X hX hR _
      obtain ⟨e6, p6, b6⟩ : vals 6 = .bool b ∧ Pr2 P B R N s j j X ∧ Ch (fun k => k = B) w2 X := hR 6 (by decide)
      have e15 : vals 15 = .bool b := hR 15 (by decide)
      have H8 := hid_of' (And.intro p6 (H6.out.2.2.2.trans (b6.mono (fun _ q => .inl (.inl q)))))
      clear hR hX p6 b6
      simp only [List.drop, List.take, putAll, e6, e15]
      clear e6 e15
      go_wp2
      go_ret
      exact ⟨_, rfl, H8.out.1, HNl.out, H8.out.2⟩

set_option maxHeartbeats 4000000 in
theorem does_2 {P B R N s : Nat} {l : List Rnd} {w : World} (H0 : PrAt P B R N s l w) (hl : NumL l) (hsN : s < N) (h8 : N ≤ 8) {d : Int} (hd : fitsI d) {ck : List Int} (hck : ck.length = 8) {m : List Rnd} (om : OkL m) (hw : wiN d 5 = 2) :
    Calls Tryd.prog 13 #[.pointer (some ⟨P, 0, none⟩), .agg (cv (opc d ck m))] w (DoQ P B R N s w) := by
  have hb2 := below_one w (.cells (cv (opc d ck m)) 48)
  have ho2 := RowAt.news w (cv (opc d ck m)) 48
  have c0 : (w.alloc (.cells (cv (opc d ck m)) 48)).cell? ⟨w.heap.size, 0, none⟩ = some (.int .i64 d) := ho2.int (k := 0) (by rw [opc_len hck om]; decide)
  have HW := hid_of' (within_is d 5 (w.alloc (.cells (cv (opc d ck m)) 48)) (by decide) (by decide) hd)
  rw [hw] at HW
  have hs8 : s < 8 := by omega
  have ok := H0.2.1.2
  have HPL := hid_of' (And.intro H0.1.lt (And.intro H0.2.1.lt H0.2.2.lt))
  have H2 := hid_of' (show Pr2 P B R N s l l _ from H0.later hb2)
  have HO := hid_of' ho2
  have HB2 := hid_of' (Ch.of (S := fun k => k = B ∨ k = R) hb2)
  skip
  clear H0 ho2 hb2
  go_enter Tryd.func13, Tryd.ntmps13
  go_upto_region 9 with (go_at_call 23; refine HW.out.mono ?_; rintro e w1 ⟨rfl, hw1⟩; obtain rfl := hw1.symm; clear HW)
  clear c0
  obtain ⟨ob, hob⟩ : ∃ ob, w.heap.size = ob := ⟨_, rfl⟩
  rw [hob] at HO HPL ⊢
  generalize w.alloc (.cells (cv (opc d ck m)) 48) = w2 at H2 HO HB2 ⊢
  have HP : Hid (∀ X, Ch (fun k => k = B) w2 X → RowAt P #[.pointer (some ⟨B, 0, none⟩), .pointer (some ⟨R, 0, none⟩)] 39 X ∧ CsIn ob 1 (cv ck) X ∧ CsIn ob 9 (cv (rs m)) X) := hid_of' fun X hX => by
    have ho := HO.out.ch hX (show ¬ ob = B by have := HPL.out; omega)
    exact ⟨H2.out.1.ch hX H2.out.pb, opc_ck hck om ho, opc_rs hck om ho⟩
  obtain ⟨l1, hl1⟩ : ∃ l1, setK N s ck l N = l1 := ⟨_, rfl⟩
  obtain ⟨b, hb⟩ : ∃ b, (!(l1 == l)) = b := ⟨_, rfl⟩
  have HSt : Hid (∀ X, DkAt B N s l X → Calls Tryd.prog 35 #[.pointer (some ⟨B, 0, none⟩), .agg (cv ck)] X fun e w' => e = .returned (.bool b) ∧ DkAt B N s l1 w' ∧ Ch (fun k => k = B) X w') := hid_of' fun X hX => by
    have := settle_any hX hs8 h8 hck
    rw [hl1, BEq.comm, hb] at this
    exact this
  have HRt : Hid (∀ X, RkAt R N s l X → Calls Tryd.prog 39 #[.pointer (some ⟨R, 0, none⟩), .agg (cv ck)] X fun e w' => e = .returned (.bool b) ∧ RkAt R N s l1 w' ∧ Ch (fun k => k = R) X w') := hid_of' fun X hX => by
    have := refSettle_any hX hsN h8 hck
    rw [hl1, hb] at this
    exact this
  have HNl : Hid (NumL l1) := hid_of' (hl1 ▸ numL_setK hl N)
  have sb : (b == b) = true := by simp
  clear hl1 hb
  refine wp_region_once 13 (by kernel_rfl) (fun _ => none) (by kernel_rfl) (by kernel_rfl) (by decide) (fun ii u X => match ii with
    | 0 => u = .pointer (some ⟨P, 0, none⟩)
    | 1 => u = .pointer (some ⟨P, 0, none⟩)
    | 2 => u = .pointer (some ⟨P, 0, none⟩)
    | 3 => u = .pointer (some ⟨B, 0, none⟩)
    | 4 => u = .pointer (some ⟨ob, 1, none⟩)
    | 5 => u = .agg (cv ck)
    | 6 => SixR P B R N s (fun v _ => u = .bool b) l1 l w2 u X
    | 7 => u = .pointer (some ⟨P, 0, none⟩)
    | 8 => u = .pointer (some ⟨P, 0, none⟩)
    | 9 => u = .pointer (some ⟨P, 1, none⟩)
    | 10 => u = .pointer (some ⟨R, 0, none⟩)
    | 11 => u = .pointer (some ⟨ob, 1, none⟩)
    | 12 => u = .agg (cv ck)
    | _ => True) (fun _ => false) (fun _ _ _ _ h => by cases h) 6 (by decide) (fun a b => Ch (fun k => k = B) a b) (fun a b => Ch (fun k => k = B) a b) (fun _ _ g h => g.later h) (fun _ h => Ch.of h) (fun _ _ h g => (Ch.of h).trans g) (fun _ _ g => g.size) ?_ ?_ ?_ ?_
  · intro ii u X X' hR hb
    match ii, hR with
    | 0, h => exact h
    | 1, h => exact h
    | 2, h => exact h
    | 3, h => exact h
    | 4, h => exact h
    | 5, h => exact h
    | 6, h => exact SixR.laterV id h hb
    | 7, h => exact h
    | 8, h => exact h
    | 9, h => exact h
    | 10, h => exact h
    | 11, h => exact h
    | 12, h => exact h
    | m + 13, h => exact h
  · intro ii u X X' hne hR hb
    match ii, hne, hR with
    | 0, hne, h => exact h
    | 1, hne, h => exact h
    | 2, hne, h => exact h
    | 3, hne, h => exact h
    | 4, hne, h => exact h
    | 5, hne, h => exact h
    | 6, hne, h => exact absurd rfl hne
    | 7, hne, h => exact h
    | 8, hne, h => exact h
    | 9, hne, h => exact h
    | 10, hne, h => exact h
    | 11, hne, h => exact h
    | 12, hne, h => exact h
    | m + 13, _, h => exact h
  · intro ii o hi ho q X vals hX hC hdep hoth
    have t0 : q.tmps[0]? = some (.pointer (some ⟨P, 0, none⟩)) := by rw [hoth 0 (by kernel_rfl)]; rfl
    have t3 : q.tmps[3]? = some (.pointer (some ⟨ob, 0, none⟩)) := by rw [hoth 3 (by kernel_rfl)]; rfl
    match ii, hi, ho, hC with
    | 0, _, ho, hC =>
      simp only [List.getElem?_cons_zero, Option.some.injEq] at ho
      subst ho
      unfold Oper.wp
      simp [execOp, go_sem, t0]
      exact cameB _ rfl (by decide) (Below.refl _ _) rfl (fun h => absurd h (by decide))
    | 1, _, ho, hC =>
      simp only [List.getElem?_cons_succ, List.getElem?_cons_zero, Option.some.injEq] at ho
      subst ho
      obtain ⟨u0, e0⟩ := hdep ⟨0, .data⟩ (by simp) rfl _ 64 rfl rfl
      rw [show vals 0 = .pointer (some ⟨P, 0, none⟩) from e0] at u0
      unfold Oper.wp
      simp [execOp, go_sem, u0]
      exact cameB _ rfl (by decide) (Below.refl _ _) rfl (fun h => absurd h (by decide))
    | 2, _, ho, hC =>
      simp only [List.getElem?_cons_succ, List.getElem?_cons_zero, Option.some.injEq] at ho
      subst ho
      obtain ⟨u1, e1⟩ := hdep ⟨1, .data⟩ (by simp) rfl _ 65 rfl rfl
      rw [show vals 1 = .pointer (some ⟨P, 0, none⟩) from e1] at u1
      unfold Oper.wp
      simp [execOp, go_sem, u1]
      exact cameB _ rfl (by decide) (Below.refl _ _) rfl (fun h => absurd h (by decide))
    | 3, _, ho, hC =>
      simp only [List.getElem?_cons_succ, List.getElem?_cons_zero, Option.some.injEq] at ho
      subst ho
      obtain ⟨u2, e2⟩ := hdep ⟨2, .data⟩ (by simp) rfl _ 66 rfl rfl
      rw [show vals 2 = .pointer (some ⟨P, 0, none⟩) from e2] at u2
      have cc : X.cell? ⟨P, 0, none⟩ = some (.pointer (some ⟨B, 0, none⟩)) := (HP.out X hX).1.cell 0
      unfold Oper.wp
      simp [execOp, go_sem, u2, cc]
      exact cameB _ rfl (by decide) (Below.refl _ _) rfl (fun h => absurd h (by decide))
    | 4, _, ho, hC =>
      simp only [List.getElem?_cons_succ, List.getElem?_cons_zero, Option.some.injEq] at ho
      subst ho
      unfold Oper.wp
      simp [execOp, go_sem, t3]
      exact cameB _ rfl (by decide) (Below.refl _ _) rfl (fun h => absurd h (by decide))
    | 5, _, ho, hC =>
      simp only [List.getElem?_cons_succ, List.getElem?_cons_zero, Option.some.injEq] at ho
      subst ho
      obtain ⟨u4, e4⟩ := hdep ⟨4, .data⟩ (by simp) rfl _ 68 rfl rfl
      rw [show vals 4 = .pointer (some ⟨ob, 1, none⟩) from e4] at u4
      exact opCk hck _ rfl (by simp [Act.eval, u4]) (HP.out X hX).2.1 (cameB _ rfl (by decide) (Below.refl _ _) rfl (fun h => absurd h (by decide)))
    | 6, _, ho, hC =>
      simp only [List.getElem?_cons_succ, List.getElem?_cons_zero, Option.some.injEq] at ho
      subst ho
      obtain ⟨u3, e3⟩ := hdep ⟨3, .data⟩ (by simp) rfl _ 67 rfl rfl
      rw [show vals 3 = .pointer (some ⟨B, 0, none⟩) from e3] at u3
      obtain ⟨u5, e5⟩ := hdep ⟨5, .data⟩ (by simp) rfl _ 69 rfl rfl
      rw [show vals 5 = .agg (cv ck) from e5] at u5
      have hb := hC (.inl rfl)
      have hh := Pr2.later H2.out hb
      unfold Oper.wp
      simp [go_sem, u3, u5]
      refine (HSt.out X hh.2.1).mono ?_
      rintro e9 X1 ⟨rfl, i1, i2⟩
      exact cameX _ rfl i2 ⟨rfl, hh.goD i1 i2, (Ch.of hb).trans i2⟩ rfl
    | 7, _, ho, hC =>
      simp only [List.getElem?_cons_succ, List.getElem?_cons_zero, Option.some.injEq] at ho
      subst ho
      unfold Oper.wp
      simp [execOp, go_sem, t0]
      exact cameB _ rfl (by decide) (Below.refl _ _) rfl (fun h => absurd h (by decide))
    | 8, _, ho, hC =>
      simp only [List.getElem?_cons_succ, List.getElem?_cons_zero, Option.some.injEq] at ho
      subst ho
      obtain ⟨u7, e7⟩ := hdep ⟨7, .data⟩ (by simp) rfl _ 71 rfl rfl
      rw [show vals 7 = .pointer (some ⟨P, 0, none⟩) from e7] at u7
      unfold Oper.wp
      simp [execOp, go_sem, u7]
      exact cameB _ rfl (by decide) (Below.refl _ _) rfl (fun h => absurd h (by decide))
    | 9, _, ho, hC =>
      simp only [List.getElem?_cons_succ, List.getElem?_cons_zero, Option.some.injEq] at ho
      subst ho
      obtain ⟨u8, e8⟩ := hdep ⟨8, .data⟩ (by simp) rfl _ 72 rfl rfl
      rw [show vals 8 = .pointer (some ⟨P, 0, none⟩) from e8] at u8
      unfold Oper.wp
      simp [execOp, go_sem, u8]
      exact cameB _ rfl (by decide) (Below.refl _ _) rfl (fun h => absurd h (by decide))
    | 10, _, ho, hC =>
      simp only [List.getElem?_cons_succ, List.getElem?_cons_zero, Option.some.injEq] at ho
      subst ho
      obtain ⟨u9, e9⟩ := hdep ⟨9, .data⟩ (by simp) rfl _ 73 rfl rfl
      rw [show vals 9 = .pointer (some ⟨P, 1, none⟩) from e9] at u9
      have cc : X.cell? ⟨P, 1, none⟩ = some (.pointer (some ⟨R, 0, none⟩)) := (HP.out X hX).1.cell 1
      unfold Oper.wp
      simp [execOp, go_sem, u9, cc]
      exact cameB _ rfl (by decide) (Below.refl _ _) rfl (fun h => absurd h (by decide))
    | 11, _, ho, hC =>
      simp only [List.getElem?_cons_succ, List.getElem?_cons_zero, Option.some.injEq] at ho
      subst ho
      unfold Oper.wp
      simp [execOp, go_sem, t3]
      exact cameB _ rfl (by decide) (Below.refl _ _) rfl (fun h => absurd h (by decide))
    | 12, _, ho, hC =>
      simp only [List.getElem?_cons_succ, List.getElem?_cons_zero, Option.some.injEq] at ho
      subst ho
      obtain ⟨u11, e11⟩ := hdep ⟨11, .data⟩ (by simp) rfl _ 75 rfl rfl
      rw [show vals 11 = .pointer (some ⟨ob, 1, none⟩) from e11] at u11
      exact opCk hck _ rfl (by simp [Act.eval, u11]) (HP.out X hX).2.1 (cameB _ rfl (by decide) (Below.refl _ _) rfl (fun h => absurd h (by decide)))
    | m + 13, hi, _, _ => exact absurd hi (by omega)
  · intro vals X hX hR _
    obtain ⟨e6, p6, b6⟩ : vals 6 = .bool b ∧ Pr2 P B R N s l1 l X ∧ Ch (fun k => k = B) w2 X := hR 6 (by decide)
    have e10 : vals 10 = .pointer (some ⟨R, 0, none⟩) := hR 10 (by decide)
    have e12 : vals 12 = .agg (cv ck) := hR 12 (by decide)
    have HF := hid_of' (HRt.out X p6.2.2)
    have H8 := hid_of' (And.intro p6 (HB2.out.trans (b6.mono (fun _ q => .inl (.inl q)))))
    clear hR hX p6 b6
    simp only [List.drop, List.take, putAll, List.setIfInBounds_toArray, List.set_cons_succ, List.set_cons_zero, e6, e10, e12]
    clear e6 e10 e12
    go_upto_region 20 with (go_at_call 39; refine HF.out.mono ?_; rintro e w3 ⟨rfl, i1, i2⟩; clear HF)
    have HZ := hid_of' (And.intro (H8.out.1.goR i1 i2) (H8.out.2.trans (i2.mono (fun _ q => .inl (.inr q)))))
    clear i1 i2
    go_wp2
    go_ret
    exact ⟨_, rfl, HZ.out.1, HNl.out, HZ.out.2⟩

set_option maxHeartbeats 4000000 in
theorem does_3 {P B R N s : Nat} {l : List Rnd} {w : World} (H0 : PrAt P B R N s l w) (_hl : NumL l) (hsN : s < N) (h8 : N ≤ 8) {d : Int} (hd : fitsI d) {ck : List Int} (hck : ck.length = 8) {m : List Rnd} (om : OkL m) (hw : wiN d 5 = 3) :
    Calls Tryd.prog 13 #[.pointer (some ⟨P, 0, none⟩), .agg (cv (opc d ck m))] w (DoQ P B R N s w) := by
  have hb2 := below_one w (.cells (cv (opc d ck m)) 48)
  have ho2 := RowAt.news w (cv (opc d ck m)) 48
  have c0 : (w.alloc (.cells (cv (opc d ck m)) 48)).cell? ⟨w.heap.size, 0, none⟩ = some (.int .i64 d) := ho2.int (k := 0) (by rw [opc_len hck om]; decide)
  have HW := hid_of' (within_is d 5 (w.alloc (.cells (cv (opc d ck m)) 48)) (by decide) (by decide) hd)
  rw [hw] at HW
  have hs8 : s < 8 := by omega
  have ok := H0.2.1.2
  have HPL := hid_of' (And.intro H0.1.lt (And.intro H0.2.1.lt H0.2.2.lt))
  have H2 := hid_of' (show Pr2 P B R N s l l _ from H0.later hb2)
  have HO := hid_of' ho2
  have HB2 := hid_of' (Ch.of (S := fun k => k = B ∨ k = R) hb2)
  skip
  clear H0 ho2 hb2
  go_enter Tryd.func13, Tryd.ntmps13
  go_upto_region 11 with (go_at_call 23; refine HW.out.mono ?_; rintro e w1 ⟨rfl, hw1⟩; obtain rfl := hw1.symm; clear HW)
  clear c0
  obtain ⟨ob, hob⟩ : ∃ ob, w.heap.size = ob := ⟨_, rfl⟩
  rw [hob] at HO HPL ⊢
  generalize w.alloc (.cells (cv (opc d ck m)) 48) = w2 at H2 HO HB2 ⊢
  have c1 := H2.out.1.cell 0
  have HC := hid_of' (clear_any H2.out.2.1)
  go_upto_region 12 with (go_at_call 40; refine HC.out.mono ?_; rintro e w3 ⟨⟨z, rfl⟩, i1, i2⟩; clear HC)
  have p3 := H2.out.goD i1 i2
  have h3 := HB2.out.trans (i2.mono (fun _ q => .inl (.inl q)))
  clear i1 i2 c1
  have c1 := p3.1.cell 1
  have hp := p3.2.2.1.putC (o := 2) (y := rs rds0) (by rw [dk_len N s p3.2.2.2, rs_len rds0_ok]; exact Nat.le_refl _)
  rw [dk_all N s p3.2.2.2 rds0_ok] at hp
  have hc := Ch.cells (S := fun k => k = R) (a := w3) (g := R) (.inl rfl) (cv (rs rds0)).toList 2 w3 (Ch.refl _ _)
  have hr3 := p3.2.2.1
  have hln : 2 + 144 ≤ (dk (N : Int) (s : Int) l).length := by rw [dk_len N s p3.2.2.2]; exact Nat.le_refl _
  have H4 := hid_of' (And.intro (p3.goR ⟨hp, rds0_ok⟩ hc) (h3.trans (hc.mono (fun _ q => .inl (.inr q)))))
  have HS := hid_of' (same_is (show PrAt P B R N s rds0 _ from H4.out.1) hs8)
  have HNz := hid_of' numL_zero
  clear p3 h3 hp hc
  generalize hz0 : rds0 = z0 at *
  have oz : OkL z0 := hz0 ▸ rds0_ok
  have bz : Tryd.prog.built 46 [] = some (cv (rs z0)) := hz0 ▸ bldRnds
  clear hz0
  go_upto_region 13 with (first | (refine wpL_bld rfl _ _ rfl _ (by simpa using bz) ?_) | (refine stRnds rfl _ _ rfl rfl oz rfl hr3 hln ?_))
  clear hr3 hln c1 bz
  go_wp2_with (go_at_call 14; refine HS.out.mono ?_; rintro e w4 ⟨rfl, hb4⟩; clear HS)
  go_ret
  exact ⟨_, rfl, H4.out.1.later hb4, HNz.out, H4.out.2.later hb4⟩

set_option maxHeartbeats 4000000 in
theorem does_4 {P B R N s : Nat} {l : List Rnd} {w : World} (H0 : PrAt P B R N s l w) (hl : NumL l) (hsN : s < N) (h8 : N ≤ 8) {d : Int} (hd : fitsI d) {ck : List Int} (hck : ck.length = 8) {m : List Rnd} (om : OkL m) (hw : wiN d 5 = 4) :
    Calls Tryd.prog 13 #[.pointer (some ⟨P, 0, none⟩), .agg (cv (opc d ck m))] w (DoQ P B R N s w) := by
  have hb2 := below_one w (.cells (cv (opc d ck m)) 48)
  have ho2 := RowAt.news w (cv (opc d ck m)) 48
  have c0 : (w.alloc (.cells (cv (opc d ck m)) 48)).cell? ⟨w.heap.size, 0, none⟩ = some (.int .i64 d) := ho2.int (k := 0) (by rw [opc_len hck om]; decide)
  have HW := hid_of' (within_is d 5 (w.alloc (.cells (cv (opc d ck m)) 48)) (by decide) (by decide) hd)
  rw [hw] at HW
  have hs8 : s < 8 := by omega
  have ok := H0.2.1.2
  have HPL := hid_of' (And.intro H0.1.lt (And.intro H0.2.1.lt H0.2.2.lt))
  have H2 := hid_of' (show Pr2 P B R N s l l _ from H0.later hb2)
  have HO := hid_of' ho2
  have HB2 := hid_of' (Ch.of (S := fun k => k = B ∨ k = R) hb2)
  skip
  clear H0 ho2 hb2
  go_enter Tryd.func13, Tryd.ntmps13
  go_upto_region 13 with (go_at_call 23; refine HW.out.mono ?_; rintro e w1 ⟨rfl, hw1⟩; obtain rfl := hw1.symm; clear HW)
  clear c0
  obtain ⟨ob, hob⟩ : ∃ ob, w.heap.size = ob := ⟨_, rfl⟩
  rw [hob] at HO HPL ⊢
  generalize w.alloc (.cells (cv (opc d ck m)) 48) = w2 at H2 HO HB2 ⊢
  have HS := hid_of' (same_is (show PrAt P B R N s l _ from H2.out) hs8)
  go_wp2_with (go_at_call 14; refine HS.out.mono ?_; rintro e w4 ⟨rfl, hb4⟩; clear HS)
  go_ret
  exact ⟨_, rfl, H2.out.later hb4, hl, HB2.out.later hb4⟩

end Go.Proofs.YtfgcljpiidhfpaaDoor
