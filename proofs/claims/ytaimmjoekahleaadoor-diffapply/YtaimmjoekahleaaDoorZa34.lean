
/-
  slices.Reverse of edits.
-/
import Derived.Test.YtaimmjoekahleaaDoorZa28
import Derived.Test.YtaimmjoekahleaaDoorZa18
namespace Go.Proofs.YtaimmjoekahleaaDoor
open Go.RowKit Go.Extern.Stop Go.Stop Go.Extern
set_option maxRecDepth 100000

def edv (e : Edt) : Array Value := #[.int .i64 e.at', .int .i64 e.er, .string e.ins]
theorem edv_list (e : Edt) : (edv e).toList = edc e := rfl
theorem edv_size (e : Edt) : (Tryd.prog.info? 46).map (·.size) = some (edv e).size := by kernel_rfl
theorem edv_one (e : Edt) : ((edv e).all fun x => x.oneCell') = true := by simp [edv, Value.oneCell']
theorem edv_at (l : List Edt) (i : Nat) (e : Edt) (h : l[i]? = some e) (j : Nat) (v : Value) (hv : (edv e)[j]? = some v) : (fc edc l)[i * 3 + j]? = some v := fc_at edc_len l i e h j v (by rw [← edv_list, Array.getElem?_toList]; exact hv)
theorem get_set (a : Array Value) (k : Nat) (v : Value) (h : k < a.size) : (a.setIfInBounds k v)[k]? = some v := by simp [h]
section
variable {ops : Array Oper} {rest : List Oper} {o : Oper} {A : Act} {w : World} {Q : Exit → Act → World → Prop}
theorem opw_loadD {K : Act → World → Prop} (x : Operand) (ho : o.op = .load 46 x) {b off : Nat} (hx : A.eval x = .pointer (some ⟨b, off, none⟩)) {p : Edt} (h : CsIn b off (edv p) w)
    (k : K (A.put o.dst (.agg (edv p))) w) : o.wp Tryd.prog A w K Q := by
  unfold Oper.wp execOp
  simp only [ho, hx, Instr.loadAt, Instr.sureAddr, Sem.run_bind, Sem.run_pure, Result.andThen_ok, run_loadVar_in h Tryd.underlying46 rfl (edv_size p)]
  exact k
theorem wpL_loadD (hgd : o.guard = none) (x : Operand) (ho : o.op = .load 46 x) {b off : Nat} (hx : A.eval x = .pointer (some ⟨b, off, none⟩)) {p : Edt} (h : CsIn b off (edv p) w)
    (k : wpList Tryd.prog ops Q rest (A.put o.dst (.agg (edv p))) w) : wpList Tryd.prog ops Q (o :: rest) A w := wpList_plain hgd fun _ hK => opw_loadD x ho hx h (hK _ _ k)
theorem wpL_storeD (hgd : o.guard = none) (x y : Operand) (ho : o.op = .store 46 x y) {g off : Nat} (hx : A.eval x = .pointer (some ⟨g, off, none⟩)) {p : Edt} (hy : A.eval y = .agg (edv p)) (ht : w.there g off 3)
    (k : wpList Tryd.prog ops Q rest (A.put o.dst undef) (w.setCells g off (edv p).toList)) : wpList Tryd.prog ops Q (o :: rest) A w :=
  wpList_store_mid hgd _ x y ho g off (edv p) hx hy ht (edv_size p) (edv_one p) k
theorem wpL_storeDr (hgd : o.guard = none) (x y : Operand) (ho : o.op = .store 46 x y) {g : Nat} (hx : A.eval x = .pointer (some ⟨g, 0, none⟩)) {p : Edt} {q : Array Value} (hq : q.size = 3) (hy : A.eval y = .agg (edv p)) (h : RowAt g q 46 w)
    (k : wpList Tryd.prog ops Q rest (A.put o.dst undef) (w.setRow g (edv p))) : wpList Tryd.prog ops Q (o :: rest) A w :=
  wpList_store_row hgd _ x y ho g (edv p) hx hy _ _ h (edv_size p) hq (edv_one p) k
theorem opw_storeD {K : Act → World → Prop} (x y : Operand) (ho : o.op = .store 46 x y) {g off : Nat} (hx : A.eval x = .pointer (some ⟨g, off, none⟩)) {p : Edt} (hy : A.eval y = .agg (edv p)) (ht : w.there g off 3)
    (k : K (A.put o.dst undef) (w.setCells g off (edv p).toList)) : o.wp Tryd.prog A w K Q :=
  wp_store_mid _ x y ho g off (edv p) hx hy ht (edv_size p) (edv_one p) k
end
/-- A row's block behind a store of one of its changes. -/
theorem RwE.put {n c g : Nat} {ps : List Edt} {w : World} (h : Rw 46 3 (.slice (some ⟨g, 0, none⟩) n c) n (fc edc ps) w) {i : Nat} (hi : i < n) (x : Edt) : Rw 46 3 (.slice (some ⟨g, 0, none⟩) n c) n (fc edc (ps.set i x)) (w.setCells g (i * 3) (edv x).toList) := by
  have hlen : ps.length = n := by have := h.1; rw [(fc_len edc_len)] at this; omega
  refine ⟨by rw [(fc_len edc_len), List.length_set, hlen], ?_⟩
  rcases h.2 with ⟨q, _⟩ | ⟨g', cap, cur, q, hg, h1, h2, h3, h4⟩
  · cases q
  · cases q
    refine .inr ⟨g, c, ((cur.setIfInBounds (i * 3) (.int .i64 x.at')).setIfInBounds (i * 3 + 1) (.int .i64 x.er)).setIfInBounds (i * 3 + 1 + 1) (.string x.ins), rfl, ?_, h1, h2, by simpa using h3, ?_⟩
    · exact RowAt.setc (RowAt.setc (RowAt.setc hg _ _) _ _) _ _
    · apply List.ext_getElem?
      intro k
      have hk0 : ∀ k, (fc edc ps)[k]? = if k < n * 3 then cur[k]? else none := fun k => by rw [← h4, List.getElem?_take]; simp
      by_cases hk : k < n * 3
      · rw [List.getElem?_take_of_lt hk, Array.getElem?_toList]
        obtain ⟨u, hu⟩ : ∃ u, (fc edc (ps.set i x))[k]? = some u := ⟨_, List.getElem?_eq_getElem (by rw [(fc_len edc_len), List.length_set, hlen]; exact hk)⟩
        obtain ⟨a, e, j, e1, rfl, e3⟩ := fc_of edc_len _ _ _ hu
        rw [hu]
        have hj : j < 3 := (List.getElem?_eq_some_iff.1 e3).1
        by_cases hai : i = a
        · subst hai
          rw [List.getElem?_set_self (by omega), Option.some.injEq] at e1
          subst e1
          have hsz : i * 3 + 2 < cur.size := by omega
          match j, hj, e3 with
          | 0, _, e3 => simp [edc] at e3; subst e3; rw [Array.getElem?_setIfInBounds_ne (by omega), Array.getElem?_setIfInBounds_ne (by omega)]; exact get_set _ _ _ (by omega)
          | 1, _, e3 => simp [edc] at e3; subst e3; rw [Array.getElem?_setIfInBounds_ne (by omega)]; exact get_set _ _ _ (by simp; omega)
          | 2, _, e3 => simp [edc] at e3; subst e3; exact get_set _ _ _ (by simp; omega)
        · rw [List.getElem?_set_ne hai] at e1
          have := fc_at edc_len ps a e e1 j u e3
          rw [hk0, if_pos hk] at this
          rw [Array.getElem?_setIfInBounds_ne (by omega), Array.getElem?_setIfInBounds_ne (by omega), Array.getElem?_setIfInBounds_ne (by omega)]
          exact this
      · rw [List.getElem?_eq_none (by rw [List.length_take]; omega), List.getElem?_eq_none (by rw [(fc_len edc_len), List.length_set, hlen]; omega)]
theorem RwE.there {n c g : Nat} {ps : List Edt} {w : World} (h : Rw 46 3 (.slice (some ⟨g, 0, none⟩) n c) n (fc edc ps) w) {i : Nat} (hi : i < n) : w.there g (i * 3) 3 := fun j hj => by
  rcases h.2 with ⟨q, _⟩ | ⟨g', cap, cur, q, hg, h1, h2, h3, h4⟩
  · cases q
  · cases q
    refine ⟨?_, Lib.frozen_of_heap hg _⟩
    rw [cell_of_row w g _ cur _ (0, 0) hg, Array.getElem?_eq_getElem (by omega)]
    rfl
theorem grown_cells (w : World) (g o_ : Nat) (vs : List Value) : w.grownBy (w.setCells g o_ vs) (some g) := by
  have c := Ch.cells (S := fun k => some g = some k) (a := w) (g := g) (.inl rfl) vs o_ w (Ch.refl _ w)
  exact ⟨c.os, c.tape, c.output, c.size, fun k hk hn => c.block k hk (fun e => hn e.symm)⟩
theorem Rw.some0 {e n c : Nat} {a : Option Addr} {size : Nat} {xs : List Value} {w : World} (h : Rw e size (.slice a n c) n xs w) (hn : 0 < n) : ∃ g, a = some ⟨g, 0, none⟩ := by
  rcases h.2 with ⟨_, q⟩ | ⟨g, cap, cur, q, _⟩
  · omega
  · simp only [Value.slice.injEq] at q
    exact ⟨g, q.1⟩

/-- The first i and the last i have changed places. -/
def rvL (l : List Edt) (i : Nat) : List Edt := l.reverse.take i ++ (l.drop i).take (l.length - 2 * i) ++ l.reverse.drop (l.length - i)
theorem rvL_get (l : List Edt) (i k : Nat) (h2 : 2 * i ≤ l.length) : (rvL l i)[k]? = if k < i ∨ l.length - i ≤ k then l.reverse[k]? else l[k]? := by
  unfold rvL
  have e1 : (l.reverse.take i).length = i := by rw [List.length_take, List.length_reverse]; omega
  have e2 : ((l.drop i).take (l.length - 2 * i)).length = l.length - 2 * i := by rw [List.length_take, List.length_drop]; omega
  by_cases h : k < i
  · rw [if_pos (.inl h), List.append_assoc, List.getElem?_append_left (by omega), List.getElem?_take_of_lt h]
  · by_cases h' : l.length - i ≤ k
    · rw [if_pos (.inr h'), List.append_assoc, List.getElem?_append_right (by omega), List.getElem?_append_right (by omega), e1, e2, List.getElem?_drop]
      congr 1
      omega
    · rw [if_neg (by omega), List.append_assoc, List.getElem?_append_right (by omega), List.getElem?_append_left (by omega), e1, List.getElem?_take_of_lt (by omega), List.getElem?_drop]
      congr 1
      omega
theorem rvL_len (l : List Edt) (i : Nat) (h2 : 2 * i ≤ l.length) : (rvL l i).length = l.length := by
  unfold rvL
  simp only [List.length_append, List.length_take, List.length_drop, List.length_reverse]
  omega
theorem rvL_zero (l : List Edt) : rvL l 0 = l := by
  unfold rvL
  simp
theorem rvL_end (l : List Edt) (i : Nat) (h1 : l.length ≤ 2 * i + 1) (h2 : 2 * i ≤ l.length) : rvL l i = l.reverse := by
  apply List.ext_getElem?
  intro k
  rw [rvL_get l i k h2]
  split
  · rfl
  · next hk =>
    by_cases hk' : k < l.length
    · rw [List.getElem?_reverse hk']
      congr 1
      omega
    · rw [List.getElem?_eq_none (by omega), List.getElem?_eq_none (by rw [List.length_reverse]; omega)]
theorem rvL_step (l : List Edt) (i j : Nat) (hij : i + j + 1 = l.length) (h : i < j) (pi pj : Edt) (hi : (rvL l i)[i]? = some pi) (hj : (rvL l i)[j]? = some pj) : ((rvL l i).set i pj).set j pi = rvL l (i + 1) := by
  apply List.ext_getElem?
  intro k
  rw [rvL_get l i i (by omega), if_neg (by omega)] at hi
  rw [rvL_get l i j (by omega), if_neg (by omega)] at hj
  have hll := rvL_len l i (by omega)
  rw [rvL_get l (i + 1) k (by omega)]
  by_cases e1 : j = k
  · subst e1
    rw [List.getElem?_set_self (by rw [List.length_set]; omega), if_pos (by omega), List.getElem?_reverse (by omega), ← hi]
    congr 1
    omega
  · rw [List.getElem?_set_ne e1]
    by_cases e2 : i = k
    · subst e2
      rw [List.getElem?_set_self (by omega), if_pos (by omega), List.getElem?_reverse (by omega), ← hj]
      congr 1
      omega
    · rw [List.getElem?_set_ne e2, rvL_get l i k (by omega)]
      by_cases hk : k < i ∨ l.length - i ≤ k
      · rw [if_pos hk, if_pos (by omega)]
      · rw [if_neg hk, if_neg (by omega)]
set_option maxHeartbeats 4000000 in
theorem reverseE_ok {w : World} {v : Value} {l : List Edt} (h : RwE v l w) (hl : l.length ≤ 1000000) :
    Calls Tryd.prog 27 #[v] w fun e w' => (∃ z, e = .returned z) ∧ RwE v l.reverse w' ∧ w.grownBy w' v.ownBlock := by
  obtain ⟨a, c9, rfl, _, _⟩ := Rw.form h
  have H := hid_of' h
  unfold RwE at H
  obtain ⟨n, hn⟩ : ∃ n, n = l.length := ⟨_, rfl⟩
  have HN := hid_of' hn
  rw [← hn] at H hl ⊢
  have ew : wrap64 ((n : Int) - 1) = (n : Int) - 1 := wrapIs (by omega) (by omega)
  clear h hn
  go_enter Tryd.func27, Tryd.ntmps27
  go_wp2
  go_loopw [2, 3] (fun iv jv wr => ∃ ix : Nat, iv = .int .i64 (ix : Int) ∧ jv = .int .i64 ((n : Int) - 1 - (ix : Int)) ∧ 2 * ix ≤ n ∧ Rw 46 3 (.slice a n c9) n (fc edc (rvL l ix)) wr ∧ w.grownBy wr (Value.ownBlock (.slice a n c9))) (fun iv _ _ => n - (intOf iv).toNat)
  case atStart => exact ⟨0, rfl, by simp, by omega, by rw [rvL_zero]; exact H.out, ⟨rfl, rfl, rfl, Nat.le_refl _, fun _ _ _ => rfl⟩⟩
  case round =>
    obtain ⟨ix, rfl, rfl, h2, hR, hG⟩ := hrel
    by_cases hij : 2 * ix + 1 < n
    · obtain ⟨jx, hj⟩ : ∃ jx, jx = n - 1 - ix := ⟨_, rfl⟩
      have ej : (n : Int) - 1 - (ix : Int) = (jx : Int) := by omega
      rw [ej]
      have hki : (ix : Int) < (n : Int) := by omega
      have hkj : (jx : Int) < (n : Int) := by omega
      have hlt : (ix : Int) < (jx : Int) := by omega
      have hil : ix < n := by omega
      have hjl : jx < n := by omega
      have ewj : wrap64 ((jx : Int) - 1) = (jx : Int) - 1 := wrapIs (by omega) (by omega)
      obtain ⟨g9, rfl⟩ := Rw.some0 hR (by omega)
      have hln : (rvL l ix).length = n := by rw [rvL_len l ix (by have := HN.out; omega)]; exact HN.out.symm
      obtain ⟨pi, hpi⟩ : ∃ p, (rvL l ix)[ix]? = some p := ⟨_, List.getElem?_eq_getElem (by omega)⟩
      obtain ⟨pj, hpj⟩ : ∃ p, (rvL l ix)[jx]? = some p := ⟨_, List.getElem?_eq_getElem (by omega)⟩
      have hgl : g9 < wr.heap.size := hR.lt g9 rfl
      have HLi : Hid (CsIn g9 (ix * 3) (edv pi) wr) := ⟨hgl, fun jx u hu => by
        have := hR.cells _ _ (edv_at _ ix pi hpi jx u hu)
        rwa [Nat.zero_add] at this⟩
      have HLj : Hid (CsIn g9 (jx * 3) (edv pj) wr) := ⟨hgl, fun k u hu => by
        have := hR.cells _ _ (edv_at _ jx pj hpj k u hu)
        rwa [Nat.zero_add] at this⟩
      have HS := hid_of' (rvL_step l ix jx (by have := HN.out; omega) (by omega) pi pj hpi hpj)
      generalize rvL l ix = ps at hR hpi hpj hln HS
      have HR := hid_of' hR
      have HG := hid_of' hG
      have HJ := hid_of' hj
      have HE := hid_of' ej
      clear hR hpi hpj hln hG hj ej
      go_upto_region 3 with fail
      refine wp_region_once 14 (by kernel_rfl) (fun _ => none) (by kernel_rfl) (by kernel_rfl) (by decide) (fun i v x => match i with
        | 0 => v = .slice (some ⟨g9, 0, none⟩) n c9
        | 1 => v = .int .i64 (ix : Int)
        | 2 => v = .slice (some ⟨g9, 0, none⟩) n c9
        | 3 => v = .int .i64 (jx : Int)
        | 4 => v = .slice (some ⟨g9, 0, none⟩) n c9
        | 5 => v = .int .i64 (jx : Int)
        | 6 => v = .pointer (some ⟨g9, jx * 3, none⟩)
        | 7 => v = .agg (edv pj)
        | 8 => v = .slice (some ⟨g9, 0, none⟩) n c9
        | 9 => v = .int .i64 (ix : Int)
        | 10 => v = .pointer (some ⟨g9, ix * 3, none⟩)
        | 11 => v = .agg (edv pi)
        | 12 => v = .pointer (some ⟨g9, ix * 3, none⟩)
        | 13 => Rw 46 3 (.slice (some ⟨g9, 0, none⟩) n c9) n (fc edc (ps.set ix pj)) x
        | _ => True) (fun _ => false) (fun _ _ _ _ h => by cases h) 13 (by decide) (fun a b => World.grownBy a b (some g9)) (fun a b => World.grownBy a b (some g9)) (fun _ _ g h => grown_later g h) (fun _ h => grown_of h) (fun _ _ h g => grown_first h g) (fun _ _ g => g.size) ?_ ?_ ?_ ?_
      · intro i v x x' hR hb
        match i, hR with
        | 0, h => exact h
        | 1, h => exact h
        | 2, h => exact h
        | 3, h => exact h
        | 4, h => exact h
        | 5, h => exact h
        | 6, h => exact h
        | 7, h => exact h
        | 8, h => exact h
        | 9, h => exact h
        | 10, h => exact h
        | 11, h => exact h
        | 12, h => exact h
        | 13, h => exact h.later hb
        | m + 14, h => exact h
      · intro i v x x' hne hR hb
        match i, hne, hR with
        | 0, hne, h => exact h
        | 1, hne, h => exact h
        | 2, hne, h => exact h
        | 3, hne, h => exact h
        | 4, hne, h => exact h
        | 5, hne, h => exact h
        | 6, hne, h => exact h
        | 7, hne, h => exact h
        | 8, hne, h => exact h
        | 9, hne, h => exact h
        | 10, hne, h => exact h
        | 11, hne, h => exact h
        | 12, hne, h => exact h
        | 13, hne, h => exact absurd rfl hne
        | m + 14, _, h => exact h
      · intro i o hi ho q x vals hX hC hdep hoth
        have t0 : q.tmps[0]? = some (.slice (some ⟨g9, 0, none⟩) n c9) := by rw [hoth 0 (by kernel_rfl)]; rfl
        have t2 : q.tmps[2]? = some (.int .i64 (ix : Int)) := by rw [hoth 2 (by kernel_rfl)]; rfl
        have t3 : q.tmps[3]? = some (.int .i64 (jx : Int)) := by rw [hoth 3 (by kernel_rfl)]; rfl
        match i, hi, ho, hC with
        | 0, _, ho, hC =>
          simp only [List.getElem?_cons_zero, Option.some.injEq] at ho
          subst ho
          unfold Oper.wp
          simp [execOp, go_sem, t0]
          exact cameB _ rfl (by decide) (Below.refl _ _) rfl (fun h => absurd h (by decide))
        | 1, _, ho, hC =>
          simp only [List.getElem?_cons_succ, List.getElem?_cons_zero, Option.some.injEq] at ho
          subst ho
          unfold Oper.wp
          simp [execOp, go_sem, t2]
          exact cameB _ rfl (by decide) (Below.refl _ _) rfl (fun h => absurd h (by decide))
        | 2, _, ho, hC =>
          simp only [List.getElem?_cons_succ, List.getElem?_cons_zero, Option.some.injEq] at ho
          subst ho
          unfold Oper.wp
          simp [execOp, go_sem, t0]
          exact cameB _ rfl (by decide) (Below.refl _ _) rfl (fun h => absurd h (by decide))
        | 3, _, ho, hC =>
          simp only [List.getElem?_cons_succ, List.getElem?_cons_zero, Option.some.injEq] at ho
          subst ho
          unfold Oper.wp
          simp [execOp, go_sem, t3]
          exact cameB _ rfl (by decide) (Below.refl _ _) rfl (fun h => absurd h (by decide))
        | 4, _, ho, hC =>
          simp only [List.getElem?_cons_succ, List.getElem?_cons_zero, Option.some.injEq] at ho
          subst ho
          unfold Oper.wp
          simp [execOp, go_sem, t0]
          exact cameB _ rfl (by decide) (Below.refl _ _) rfl (fun h => absurd h (by decide))
        | 5, _, ho, hC =>
          simp only [List.getElem?_cons_succ, List.getElem?_cons_zero, Option.some.injEq] at ho
          subst ho
          unfold Oper.wp
          simp [execOp, go_sem, t3]
          exact cameB _ rfl (by decide) (Below.refl _ _) rfl (fun h => absurd h (by decide))
        | 6, _, ho, hC =>
          simp only [List.getElem?_cons_succ, List.getElem?_cons_zero, Option.some.injEq] at ho
          subst ho
          obtain ⟨u4, e4⟩ := hdep ⟨4, .data⟩ (by simp) rfl _ 18 rfl rfl
          rw [show vals 4 = .slice (some ⟨g9, 0, none⟩) n c9 from e4] at u4
          obtain ⟨u5, e5⟩ := hdep ⟨5, .data⟩ (by simp) rfl _ 19 rfl rfl
          rw [show vals 5 = .int .i64 (jx : Int) from e5] at u5
          unfold Oper.wp
          simp [execOp, go_sem, u4, u5, hkj]
          exact cameB _ rfl (by decide) (Below.refl _ _) rfl (fun h => absurd h (by decide))
        | 7, _, ho, hC =>
          simp only [List.getElem?_cons_succ, List.getElem?_cons_zero, Option.some.injEq] at ho
          subst ho
          obtain ⟨u6, e6⟩ := hdep ⟨6, .data⟩ (by simp) rfl _ 20 rfl rfl
          rw [show vals 6 = .pointer (some ⟨g9, jx * 3, none⟩) from e6] at u6
          have hb := hC (.inr (by kernel_rfl))
          exact opw_loadD _ rfl (by simp [Act.eval, u6]) (HLj.out.later hb) (cameB _ rfl (by decide) (Below.refl _ _) rfl (fun h => absurd h (by decide)))
        | 8, _, ho, hC =>
          simp only [List.getElem?_cons_succ, List.getElem?_cons_zero, Option.some.injEq] at ho
          subst ho
          unfold Oper.wp
          simp [execOp, go_sem, t0]
          exact cameB _ rfl (by decide) (Below.refl _ _) rfl (fun h => absurd h (by decide))
        | 9, _, ho, hC =>
          simp only [List.getElem?_cons_succ, List.getElem?_cons_zero, Option.some.injEq] at ho
          subst ho
          unfold Oper.wp
          simp [execOp, go_sem, t2]
          exact cameB _ rfl (by decide) (Below.refl _ _) rfl (fun h => absurd h (by decide))
        | 10, _, ho, hC =>
          simp only [List.getElem?_cons_succ, List.getElem?_cons_zero, Option.some.injEq] at ho
          subst ho
          obtain ⟨u8, e8⟩ := hdep ⟨8, .data⟩ (by simp) rfl _ 22 rfl rfl
          rw [show vals 8 = .slice (some ⟨g9, 0, none⟩) n c9 from e8] at u8
          obtain ⟨u9, e9⟩ := hdep ⟨9, .data⟩ (by simp) rfl _ 23 rfl rfl
          rw [show vals 9 = .int .i64 (ix : Int) from e9] at u9
          unfold Oper.wp
          simp [execOp, go_sem, u8, u9, hki]
          exact cameB _ rfl (by decide) (Below.refl _ _) rfl (fun h => absurd h (by decide))
        | 11, _, ho, hC =>
          simp only [List.getElem?_cons_succ, List.getElem?_cons_zero, Option.some.injEq] at ho
          subst ho
          obtain ⟨u10, e10⟩ := hdep ⟨10, .data⟩ (by simp) rfl _ 24 rfl rfl
          rw [show vals 10 = .pointer (some ⟨g9, ix * 3, none⟩) from e10] at u10
          have hb := hC (.inr (by kernel_rfl))
          exact opw_loadD _ rfl (by simp [Act.eval, u10]) (HLi.out.later hb) (cameB _ rfl (by decide) (Below.refl _ _) rfl (fun h => absurd h (by decide)))
        | 12, _, ho, hC =>
          simp only [List.getElem?_cons_succ, List.getElem?_cons_zero, Option.some.injEq] at ho
          subst ho
          obtain ⟨u0, e0⟩ := hdep ⟨0, .data⟩ (by simp) rfl _ 14 rfl rfl
          rw [show vals 0 = .slice (some ⟨g9, 0, none⟩) n c9 from e0] at u0
          obtain ⟨u1, e1⟩ := hdep ⟨1, .data⟩ (by simp) rfl _ 15 rfl rfl
          rw [show vals 1 = .int .i64 (ix : Int) from e1] at u1
          unfold Oper.wp
          simp [execOp, go_sem, u0, u1, hki]
          exact cameB _ rfl (by decide) (Below.refl _ _) rfl (fun h => absurd h (by decide))
        | 13, _, ho, hC =>
          simp only [List.getElem?_cons_succ, List.getElem?_cons_zero, Option.some.injEq] at ho
          subst ho
          obtain ⟨u12, e12⟩ := hdep ⟨12, .data⟩ (by simp) rfl _ 26 rfl rfl
          rw [show vals 12 = .pointer (some ⟨g9, ix * 3, none⟩) from e12] at u12
          obtain ⟨u7, e7⟩ := hdep ⟨7, .data⟩ (by simp) rfl _ 21 rfl rfl
          rw [show vals 7 = .agg (edv pj) from e7] at u7
          have hb := hC (.inl rfl)
          refine opw_storeD (p := pj) _ _ rfl (by simp [Act.eval, u12]) (by simp [Act.eval, u7]) (RwE.there (HR.out.later hb) hil) ?_
          exact cameX _ rfl (grown_cells _ _ _ _) (RwE.put (HR.out.later hb) hil pj) rfl
        | m + 14, hi, _, _ => exact absurd hi (by omega)
      · intro vals x hX hR _
        have e3 : vals 2 = .slice (some ⟨g9, 0, none⟩) n c9 := hR 2 (by decide)
        have e9 : vals 3 = .int .i64 (jx : Int) := hR 3 (by decide)
        have e11 : vals 11 = .agg (edv pi) := hR 11 (by decide)
        have q1 : Rw 46 3 (.slice (some ⟨g9, 0, none⟩) n c9) n (fc edc (ps.set ix pj)) x := hR 13 (by decide)
        have hG2 : w.grownBy x (some g9) := ⟨hX.os.trans HG.out.os, hX.tape.trans HG.out.tape, hX.output.trans HG.out.output, Nat.le_trans HG.out.size hX.size, fun k hk q => (hX.block k (Nat.lt_of_lt_of_le hk HG.out.size) q).trans (HG.out.block k hk q)⟩
        have HY := hid_of' (And.intro q1 (And.intro (RwE.there q1 hjl) hG2))
        clear q1 hR hX hG2
        simp only [List.drop, List.take, putAll, List.setIfInBounds_toArray, List.set_cons_succ, List.set_cons_zero, e3, e9, e11]
        clear e3 e9 e11
        go_upto_region 2 with (refine wpL_storeD (p := pi) rfl _ _ rfl rfl rfl HY.out.2.1 ?_)
        have HW : Hid (Rw 46 3 (.slice (some ⟨g9, 0, none⟩) n c9) n (fc edc ((ps.set ix pj).set jx pi)) (x.setCells g9 (jx * 3) (edv pi).toList) ∧ w.grownBy (x.setCells g9 (jx * 3) (edv pi).toList) (some g9)) := by
          refine ⟨RwE.put HY.out.1 hjl pi, ?_⟩
          have g2 := grown_cells x g9 (jx * 3) (edv pi).toList
          have g1 := HY.out.2.2
          exact ⟨g2.os.trans g1.os, g2.tape.trans g1.tape, g2.output.trans g1.output, Nat.le_trans g1.size g2.size, fun k hk q => (g2.block k (Nat.lt_of_lt_of_le hk g1.size) q).trans (g1.block k hk q)⟩
        generalize x.setCells g9 (jx * 3) (edv pi).toList = W2 at HW ⊢
        clear HY
        go_wp2
        go_roundw
        case rel =>
          refine ⟨ix + 1, by go_num, ?_, by omega, ?_, ?_⟩
          · have := HJ.out
            congr 1
            omega
          · rw [← HS.out]
            exact HW.out.1
          · exact HW.out.2
        case measure => simp [intOf]; omega
    · have hlt : ¬ (ix : Int) < (n : Int) - 1 - (ix : Int) := by omega
      have HR := hid_of' (And.intro hR hG)
      clear hR hG
      go_wp2
      go_end0
      refine ⟨⟨_, rfl⟩, ?_, HR.out.2⟩
      have := HR.out.1
      rw [rvL_end l ix (by have := HN.out; omega) (by have := HN.out; omega)] at this
      unfold RwE
      rw [List.length_reverse, ← HN.out]
      exact this

end Go.Proofs.YtaimmjoekahleaaDoor
