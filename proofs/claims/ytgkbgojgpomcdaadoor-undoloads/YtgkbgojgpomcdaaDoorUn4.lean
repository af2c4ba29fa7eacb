
/-
  slices.Reverse of changes; undo.Back, Again.
-/
import Derived.Test.YtgkbgojgpomcdaaDoorUn2
import Derived.Test.YtgkbgojgpomcdaaDoorUn3
namespace Go.Proofs.YtgkbgojgpomcdaaDoor
open Go.RowKit Go.Extern.Stop Go.Stop Go.Extern
set_option maxRecDepth 100000

/-- The first i and the last i have changed places. -/
def rvL (l : List Xg) (i : Nat) : List Xg := l.reverse.take i ++ (l.drop i).take (l.length - 2 * i) ++ l.reverse.drop (l.length - i)
theorem rvL_get (l : List Xg) (i k : Nat) (h2 : 2 * i ≤ l.length) : (rvL l i)[k]? = if k < i ∨ l.length - i ≤ k then l.reverse[k]? else l[k]? := by
  unfold rvL
  have e1 : (l.reverse.take i).length = i := by rw [List.length_take, List.length_reverse]; omega
  have e2 : ((l.drop i).take (l.length - 2 * i)).length = l.length - 2 * i := by rw [List.length_take, List.length_drop]; omega
  by_cases h : k < i
  · rw [if_pos (.inl h), List.append_assoc, List.getElem?_append_left (by omega), List.getElem?_take_of_lt h]
  · by_cases h' : l.length - i ≤ k
    · rw [if_pos (.inr h'), List.append_assoc, List.getElem?_append_right (by omega), List.getElem?_append_right (by omega), e1, e2, List.getElem?_drop]
      congr 1
      omega
    · rw [if_neg (by omega), List.append_assoc, List.getElem?_append_right (by omega), List.getElem?_append_left (by omega), e1, List.getElem?_take_of_lt (by omega), List.getElem?_drop]
      congr 1
      omega
theorem rvL_len (l : List Xg) (i : Nat) (h2 : 2 * i ≤ l.length) : (rvL l i).length = l.length := by
  unfold rvL
  simp only [List.length_append, List.length_take, List.length_drop, List.length_reverse]
  omega
theorem rvL_zero (l : List Xg) : rvL l 0 = l := by
  unfold rvL
  simp
theorem rvL_end (l : List Xg) (i : Nat) (h1 : l.length ≤ 2 * i + 1) (h2 : 2 * i ≤ l.length) : rvL l i = l.reverse := by
  apply List.ext_getElem?
  intro k
  rw [rvL_get l i k h2]
  split
  · rfl
  · next hk =>
    by_cases hk' : k < l.length
    · rw [List.getElem?_reverse hk']
      congr 1
      omega
    · rw [List.getElem?_eq_none (by omega), List.getElem?_eq_none (by rw [List.length_reverse]; omega)]
theorem rvL_step (l : List Xg) (i j : Nat) (hij : i + j + 1 = l.length) (h : i < j) (pi pj : Xg) (hi : (rvL l i)[i]? = some pi) (hj : (rvL l i)[j]? = some pj) : ((rvL l i).set i pj).set j pi = rvL l (i + 1) := by
  apply List.ext_getElem?
  intro k
  rw [rvL_get l i i (by omega), if_neg (by omega)] at hi
  rw [rvL_get l i j (by omega), if_neg (by omega)] at hj
  have hll := rvL_len l i (by omega)
  rw [rvL_get l (i + 1) k (by omega)]
  by_cases e1 : j = k
  · subst e1
    rw [List.getElem?_set_self (by rw [List.length_set]; omega), if_pos (by omega), List.getElem?_reverse (by omega), ← hi]
    congr 1
    omega
  · rw [List.getElem?_set_ne e1]
    by_cases e2 : i = k
    · subst e2
      rw [List.getElem?_set_self (by omega), if_pos (by omega), List.getElem?_reverse (by omega), ← hj]
      congr 1
      omega
    · rw [List.getElem?_set_ne e2, rvL_get l i k (by omega)]
      by_cases hk : k < i ∨ l.length - i ≤ k
      · rw [if_pos hk, if_pos (by omega)]
      · rw [if_neg hk, if_neg (by omega)]
set_option maxHeartbeats 4000000 in
theorem reverse_ok {w : World} {v : Value} {l : List Xg} (h : RwX v l w) (hl : l.length ≤ 4398046510976) :
    Calls Tryd.prog 49 #[v] w fun e w' => (∃ z, e = .returned z) ∧ RwX v l.reverse w' ∧ w.grownBy w' v.ownBlock := by
  obtain ⟨a, c9, rfl, _, _⟩ := Rw.form h
  have H := hid_of' h
  unfold RwX at H
  obtain ⟨n, hn⟩ : ∃ n, n = l.length := ⟨_, rfl⟩
  have HN := hid_of' hn
  rw [← hn] at H hl ⊢
  have ew : wrap64 ((n : Int) - 1) = (n : Int) - 1 := wrapIs (by omega) (by omega)
  clear h hn
  go_enter Tryd.func49, Tryd.ntmps49
  go_wp2
  go_loopw [2, 3] (fun iv jv wr => ∃ ix : Nat, iv = .int .i64 (ix : Int) ∧ jv = .int .i64 ((n : Int) - 1 - (ix : Int)) ∧ 2 * ix ≤ n ∧ Rw 66 4 (.slice a n c9) n (xcells (rvL l ix)) wr ∧ w.grownBy wr (Value.ownBlock (.slice a n c9))) (fun iv _ _ => n - (intOf iv).toNat)
  case atStart => exact ⟨0, rfl, by simp, by omega, by rw [rvL_zero]; exact H.out, ⟨rfl, rfl, rfl, Nat.le_refl _, fun _ _ _ => rfl⟩⟩
  case round =>
    obtain ⟨ix, rfl, rfl, h2, hR, hG⟩ := hrel
    by_cases hij : 2 * ix + 1 < n
    · obtain ⟨jx, hj⟩ : ∃ jx, jx = n - 1 - ix := ⟨_, rfl⟩
      have ej : (n : Int) - 1 - (ix : Int) = (jx : Int) := by omega
      rw [ej]
      have hki : (ix : Int) < (n : Int) := by omega
      have hkj : (jx : Int) < (n : Int) := by omega
      have hlt : (ix : Int) < (jx : Int) := by omega
      have hil : ix < n := by omega
      have hjl : jx < n := by omega
      have ewj : wrap64 ((jx : Int) - 1) = (jx : Int) - 1 := wrapIs (by omega) (by omega)
      obtain ⟨g9, rfl⟩ := Rw.some0 hR (by omega)
      have hln : (rvL l ix).length = n := by rw [rvL_len l ix (by have := HN.out; omega)]; exact HN.out.symm
      obtain ⟨pi, hpi⟩ : ∃ p, (rvL l ix)[ix]? = some p := ⟨_, List.getElem?_eq_getElem (by omega)⟩
      obtain ⟨pj, hpj⟩ : ∃ p, (rvL l ix)[jx]? = some p := ⟨_, List.getElem?_eq_getElem (by omega)⟩
      have hgl : g9 < wr.heap.size := hR.lt g9 rfl
      have HLi : Hid (CsIn g9 (ix * 4) (xgv pi) wr) := ⟨hgl, fun jx u hu => by
        have := hR.cells _ _ (xcells_at _ ix pi hpi jx u hu)
        rwa [Nat.zero_add] at this⟩
      have HLj : Hid (CsIn g9 (jx * 4) (xgv pj) wr) := ⟨hgl, fun k u hu => by
        have := hR.cells _ _ (xcells_at _ jx pj hpj k u hu)
        rwa [Nat.zero_add] at this⟩
      have HS := hid_of' (rvL_step l ix jx (by have := HN.out; omega) (by omega) pi pj hpi hpj)
      generalize rvL l ix = ps at hR hpi hpj hln HS
      have HR := hid_of' hR
      have HG := hid_of' hG
      have HJ := hid_of' hj
      have HE := hid_of' ej
      clear hR hpi hpj hln hG hj ej
      go_upto_region 3 with fail
      refine wp_region_once 14 (by kernel_rfl) (fun _ => none) (by kernel_rfl) (by kernel_rfl) (by decide) (fun i v x => match i with
        | 0 => v = .slice (some ⟨g9, 0, none⟩) n c9
        | 1 => v = .int .i64 (ix : Int)
        | 2 => v = .slice (some ⟨g9, 0, none⟩) n c9
        | 3 => v = .int .i64 (jx : Int)
        | 4 => v = .slice (some ⟨g9, 0, none⟩) n c9
        | 5 => v = .int .i64 (jx : Int)
        | 6 => v = .pointer (some ⟨g9, jx * 4, none⟩)
        | 7 => v = .agg (xgv pj)
        | 8 => v = .slice (some ⟨g9, 0, none⟩) n c9
        | 9 => v = .int .i64 (ix : Int)
        | 10 => v = .pointer (some ⟨g9, ix * 4, none⟩)
        | 11 => v = .agg (xgv pi)
        | 12 => v = .pointer (some ⟨g9, ix * 4, none⟩)
        | 13 => Rw 66 4 (.slice (some ⟨g9, 0, none⟩) n c9) n (xcells (ps.set ix pj)) x
        | _ => True) (fun _ => false) (fun _ _ _ _ h => by cases h) 13 (by decide) (fun a b => World.grownBy a b (some g9)) (fun a b => World.grownBy a b (some g9)) (fun _ _ g h => grown_later g h) (fun _ h => grown_of h) (fun _ _ h g => grown_first h g) (fun _ _ g => g.size) ?_ ?_ ?_ ?_
      · intro i v x x' hR hb
        match i, hR with
        | 0, h => exact h
        | 1, h => exact h
        | 2, h => exact h
        | 3, h => exact h
        | 4, h => exact h
        | 5, h => exact h
        | 6, h => exact h
        | 7, h => exact h
        | 8, h => exact h
        | 9, h => exact h
        | 10, h => exact h
        | 11, h => exact h
        | 12, h => exact h
        | 13, h => exact h.later hb
        | m + 14, h => exact h
      · intro i v x x' hne hR hb
        match i, hne, hR with
        | 0, hne, h => exact h
        | 1, hne, h => exact h
        | 2, hne, h => exact h
        | 3, hne, h => exact h
        | 4, hne, h => exact h
        | 5, hne, h => exact h
        | 6, hne, h => exact h
        | 7, hne, h => exact h
        | 8, hne, h => exact h
        | 9, hne, h => exact h
        | 10, hne, h => exact h
        | 11, hne, h => exact h
        | 12, hne, h => exact h
        | 13, hne, h => exact absurd rfl hne
        | m + 14, _, h => exact h
      · intro i o hi ho q x vals hX hC hdep hoth
        have t0 : q.tmps[0]? = some (.slice (some ⟨g9, 0, none⟩) n c9) := by rw [hoth 0 (by kernel_rfl)]; rfl
        have t2 : q.tmps[2]? = some (.int .i64 (ix : Int)) := by rw [hoth 2 (by kernel_rfl)]; rfl
        have t3 : q.tmps[3]? = some (.int .i64 (jx : Int)) := by rw [hoth 3 (by kernel_rfl)]; rfl
        match i, hi, ho, hC with
        | 0, _, ho, hC =>
          simp only [List.getElem?_cons_zero, Option.some.injEq] at ho
          subst ho
          unfold Oper.wp
          simp [execOp, go_sem, t0]
          exact cameB _ rfl (by decide) (Below.refl _ _) rfl (fun h => absurd h (by decide))
        | 1, _, ho, hC =>
          simp only [List.getElem?_cons_succ, List.getElem?_cons_zero, Option.some.injEq] at ho
          subst ho
          unfold Oper.wp
          simp [execOp, go_sem, t2]
          exact cameB _ rfl (by decide) (Below.refl _ _) rfl (fun h => absurd h (by decide))
        | 2, _, ho, hC =>
          simp only [List.getElem?_cons_succ, List.getElem?_cons_zero, Option.some.injEq] at ho
          subst ho
          unfold Oper.wp
          simp [execOp, go_sem, t0]
          exact cameB _ rfl (by decide) (Below.refl _ _) rfl (fun h => absurd h (by decide))
        | 3, _, ho, hC =>
          simp only [List.getElem?_cons_succ, List.getElem?_cons_zero, Option.some.injEq] at ho
          subst ho
          unfold Oper.wp
          simp [execOp, go_sem, t3]
          exact cameB _ rfl (by decide) (Below.refl _ _) rfl (fun h => absurd h (by decide))
        | 4, _, ho, hC =>
          simp only [List.getElem?_cons_succ, List.getElem?_cons_zero, Option.some.injEq] at ho
          subst ho
          unfold Oper.wp
          simp [execOp, go_sem, t0]
          exact cameB _ rfl (by decide) (Below.refl _ _) rfl (fun h => absurd h (by decide))
        | 5, _, ho, hC =>
          simp only [List.getElem?_cons_succ, List.getElem?_cons_zero, Option.some.injEq] at ho
          subst ho
          unfold Oper.wp
          simp [execOp, go_sem, t3]
          exact cameB _ rfl (by decide) (Below.refl _ _) rfl (fun h => absurd h (by decide))
        | 6, _, ho, hC =>
          simp only [List.getElem?_cons_succ, List.getElem?_cons_zero, Option.some.injEq] at ho
          subst ho
          obtain ⟨u4, e4⟩ := hdep ⟨4, .data⟩ (by simp) rfl _ 18 rfl rfl
          rw [show vals 4 = .slice (some ⟨g9, 0, none⟩) n c9 from e4] at u4
          obtain ⟨u5, e5⟩ := hdep ⟨5, .data⟩ (by simp) rfl _ 19 rfl rfl
          rw [show vals 5 = .int .i64 (jx : Int) from e5] at u5
          unfold Oper.wp
          simp [execOp, go_sem, u4, u5, hkj]
          exact cameB _ rfl (by decide) (Below.refl _ _) rfl (fun h => absurd h (by decide))
        | 7, _, ho, hC =>
          simp only [List.getElem?_cons_succ, List.getElem?_cons_zero, Option.some.injEq] at ho
          subst ho
          obtain ⟨u6, e6⟩ := hdep ⟨6, .data⟩ (by simp) rfl _ 20 rfl rfl
          rw [show vals 6 = .pointer (some ⟨g9, jx * 4, none⟩) from e6] at u6
          have hb := hC (.inr (by kernel_rfl))
          exact opw_loadG _ rfl (by simp [Act.eval, u6]) (HLj.out.later hb) (cameB _ rfl (by decide) (Below.refl _ _) rfl (fun h => absurd h (by decide)))
        | 8, _, ho, hC =>
          simp only [List.getElem?_cons_succ, List.getElem?_cons_zero, Option.some.injEq] at ho
          subst ho
          unfold Oper.wp
          simp [execOp, go_sem, t0]
          exact cameB _ rfl (by decide) (Below.refl _ _) rfl (fun h => absurd h (by decide))
        | 9, _, ho, hC =>
          simp only [List.getElem?_cons_succ, List.getElem?_cons_zero, Option.some.injEq] at ho
          subst ho
          unfold Oper.wp
          simp [execOp, go_sem, t2]
          exact cameB _ rfl (by decide) (Below.refl _ _) rfl (fun h => absurd h (by decide))
        | 10, _, ho, hC =>
          simp only [List.getElem?_cons_succ, List.getElem?_cons_zero, Option.some.injEq] at ho
          subst ho
          obtain ⟨u8, e8⟩ := hdep ⟨8, .data⟩ (by simp) rfl _ 22 rfl rfl
          rw [show vals 8 = .slice (some ⟨g9, 0, none⟩) n c9 from e8] at u8
          obtain ⟨u9, e9⟩ := hdep ⟨9, .data⟩ (by simp) rfl _ 23 rfl rfl
          rw [show vals 9 = .int .i64 (ix : Int) from e9] at u9
          unfold Oper.wp
          simp [execOp, go_sem, u8, u9, hki]
          exact cameB _ rfl (by decide) (Below.refl _ _) rfl (fun h => absurd h (by decide))
        | 11, _, ho, hC =>
          simp only [List.getElem?_cons_succ, List.getElem?_cons_zero, Option.some.injEq] at ho
          subst ho
          obtain ⟨u10, e10⟩ := hdep ⟨10, .data⟩ (by simp) rfl _ 24 rfl rfl
          rw [show vals 10 = .pointer (some ⟨g9, ix * 4, none⟩) from e10] at u10
          have hb := hC (.inr (by kernel_rfl))
          exact opw_loadG _ rfl (by simp [Act.eval, u10]) (HLi.out.later hb) (cameB _ rfl (by decide) (Below.refl _ _) rfl (fun h => absurd h (by decide)))
        | 12, _, ho, hC =>
          simp only [List.getElem?_cons_succ, List.getElem?_cons_zero, Option.some.injEq] at ho
          subst ho
          obtain ⟨u0, e0⟩ := hdep ⟨0, .data⟩ (by simp) rfl _ 14 rfl rfl
          rw [show vals 0 = .slice (some ⟨g9, 0, none⟩) n c9 from e0] at u0
          obtain ⟨u1, e1⟩ := hdep ⟨1, .data⟩ (by simp) rfl _ 15 rfl rfl
          rw [show vals 1 = .int .i64 (ix : Int) from e1] at u1
          unfold Oper.wp
          simp [execOp, go_sem, u0, u1, hki]
          exact cameB _ rfl (by decide) (Below.refl _ _) rfl (fun h => absurd h (by decide))
        | 13, _, ho, hC =>
          simp only [List.getElem?_cons_succ, List.getElem?_cons_zero, Option.some.injEq] at ho
          subst ho
          obtain ⟨u12, e12⟩ := hdep ⟨12, .data⟩ (by simp) rfl _ 26 rfl rfl
          rw [show vals 12 = .pointer (some ⟨g9, ix * 4, none⟩) from e12] at u12
          obtain ⟨u7, e7⟩ := hdep ⟨7, .data⟩ (by simp) rfl _ 21 rfl rfl
          rw [show vals 7 = .agg (xgv pj) from e7] at u7
          have hb := hC (.inl rfl)
          refine opw_storeG (p := pj) _ _ rfl (by simp [Act.eval, u12]) (by simp [Act.eval, u7]) (RwX.there (HR.out.later hb) hil) ?_
          exact cameX _ rfl (grown_cells _ _ _ _) (RwX.put (HR.out.later hb) hil pj) rfl
        | m + 14, hi, _, _ => exact absurd hi (by omega)
      · intro vals x hX hR _
        have e3 : vals 2 = .slice (some ⟨g9, 0, none⟩) n c9 := hR 2 (by decide)
        have e9 : vals 3 = .int .i64 (jx : Int) := hR 3 (by decide)
        have e11 : vals 11 = .agg (xgv pi) := hR 11 (by decide)
        have q1 : Rw 66 4 (.slice (some ⟨g9, 0, none⟩) n c9) n (xcells (ps.set ix pj)) x := hR 13 (by decide)
        have hG2 : w.grownBy x (some g9) := ⟨hX.os.trans HG.out.os, hX.tape.trans HG.out.tape, hX.output.trans HG.out.output, Nat.le_trans HG.out.size hX.size, fun k hk q => (hX.block k (Nat.lt_of_lt_of_le hk HG.out.size) q).trans (HG.out.block k hk q)⟩
        have HY := hid_of' (And.intro q1 (And.intro (RwX.there q1 hjl) hG2))
        clear q1 hR hX hG2
        simp only [List.drop, List.take, putAll, List.setIfInBounds_toArray, List.set_cons_succ, List.set_cons_zero, e3, e9, e11]
        clear e3 e9 e11
        go_upto_region 2 with (refine wpL_storeG (p := pi) rfl _ _ rfl rfl rfl HY.out.2.1 ?_)
        have HW : Hid (Rw 66 4 (.slice (some ⟨g9, 0, none⟩) n c9) n (xcells ((ps.set ix pj).set jx pi)) (x.setCells g9 (jx * 4) (xgv pi).toList) ∧ w.grownBy (x.setCells g9 (jx * 4) (xgv pi).toList) (some g9)) := by
          refine ⟨RwX.put HY.out.1 hjl pi, ?_⟩
          have g2 := grown_cells x g9 (jx * 4) (xgv pi).toList
          have g1 := HY.out.2.2
          exact ⟨g2.os.trans g1.os, g2.tape.trans g1.tape, g2.output.trans g1.output, Nat.le_trans g1.size g2.size, fun k hk q => (g2.block k (Nat.lt_of_lt_of_le hk g1.size) q).trans (g1.block k hk q)⟩
        generalize x.setCells g9 (jx * 4) (xgv pi).toList = W2 at HW ⊢
        clear HY
        go_wp2
        go_roundw
        case rel =>
          refine ⟨ix + 1, by go_num, ?_, by omega, ?_, ?_⟩
          · have := HJ.out
            congr 1
            omega
          · rw [← HS.out]
            exact HW.out.1
          · exact HW.out.2
        case measure => simp [intOf]; omega
    · have hlt : ¬ (ix : Int) < (n : Int) - 1 - (ix : Int) := by omega
      have HR := hid_of' (And.intro hR hG)
      clear hR hG
      go_wp2
      go_end0
      refine ⟨⟨_, rfl⟩, ?_, HR.out.2⟩
      have := HR.out.1
      rw [rvL_end l ix (by have := HN.out; omega) (by have := HN.out; omega)] at this
      unfold RwX
      rw [List.length_reverse, ← HN.out]
      exact this

def bkL (l : List Xg) : List Xg := (turnL (tT 2 3 2) l).reverse
def agL (l : List Xg) : List Xg := turnL (tT 3 2 3) l
theorem bkL_len (l : List Xg) : (bkL l).length ≤ l.length := by unfold bkL; rw [List.length_reverse]; exact turnL_len _ _
theorem agL_len (l : List Xg) : (agL l).length ≤ l.length := turnL_len _ _
set_option maxHeartbeats 2000000 in
theorem back_ok {w : World} {v : Value} {l : List Xg} (h : SlD w v l) (hl : l.length ≤ 4398046510976) :
    Calls Tryd.prog 18 #[v] w fun e w' => ∃ u, e = .returned u ∧ NwX w.heap.size u (bkL l) w' ∧ Below w.heap.size w w' := by
  have ht0 := (row_new w #[.int .i64 0, .int .i64 0, .int .i64 0, .int .i64 0] 85).put #[.int .i64 0, .int .i64 2, .int .i64 3, .int .i64 2]
  have hb0 := below_row (below_one w (.cells #[.int .i64 0, .int .i64 0, .int .i64 0, .int .i64 0] 85)) (Nat.le_refl _) #[.int .i64 0, .int .i64 2, .int .i64 3, .int .i64 2]
  obtain ⟨a, c, rfl⟩ := h.form
  have HD := hid_of' h
  clear h
  go_enter Tryd.func18, Tryd.ntmps18
  go_upto_region 2 with (refine wpList_store_row rfl _ _ _ rfl w.heap.size #[.int .i64 0, .int .i64 2, .int .i64 3, .int .i64 2] rfl rfl _ _ (row_new w _ _) (by kernel_rfl) rfl (by simp [Value.oneCell']) ?_)
  change Code.wp _ _ _ _ ((w.alloc (.cells #[.int .i64 0, .int .i64 0, .int .i64 0, .int .i64 0] 85)).setRow w.heap.size #[.int .i64 0, .int .i64 2, .int .i64 3, .int .i64 2])
  generalize (w.alloc (.cells #[.int .i64 0, .int .i64 0, .int .i64 0, .int .i64 0] 85)).setRow w.heap.size #[.int .i64 0, .int .i64 2, .int .i64 3, .int .i64 2] = W0 at ht0 hb0 ⊢
  have HT := hid_of' (turned_ok 2 3 2 (HD.out.later hb0) hl)
  have k0 := ht0.cellIs 0 rfl
  have k1 := ht0.cellIs 1 rfl
  have k2 := ht0.cellIs 2 rfl
  have k3 := ht0.cellIs 3 rfl
  have HB := hid_of' hb0
  clear ht0 hb0
  go_upto_region 3 with (go_at_call 48; refine HT.out.mono ?_; rintro e w1 ⟨u, rfl, hu, hb1⟩; clear HT)
  clear k0 k1 k2 k3
  have hul : (turnL (tT 2 3 2) l).length ≤ 4398046510976 := Nat.le_trans (turnL_len _ _) hl
  obtain ⟨au, cu, hu9, _⟩ := Rw.form hu.1
  generalize List.length _ = nu at hu9
  subst hu9
  have HV := hid_of' (reverse_ok hu.1 hul)
  have HU := hid_of' (And.intro hu hb1)
  clear hu hb1 hul
  go_wp2_with (go_at_call 49; refine HV.out.mono ?_; rintro e w2 ⟨⟨z2, rfl⟩, hr2, hg2⟩; clear HV)
  go_ret
  refine ⟨_, rfl, ⟨hr2, fun k hk => ?_⟩, ?_⟩
  · have := HU.out.1.2 k hk
    have := HB.out.size
    omega
  · refine (bgo HB.out HU.out.2).grown hg2 ?_ (fun k hk => ?_)
    · have := HB.out.size
      have := HU.out.2.size
      omega
    · have := HU.out.1.2 k hk
      have := HB.out.size
      omega
set_option maxHeartbeats 2000000 in
theorem again_ok {w : World} {v : Value} {l : List Xg} (h : SlD w v l) (hl : l.length ≤ 4398046510976) :
    Calls Tryd.prog 19 #[v] w fun e w' => ∃ u, e = .returned u ∧ NwX w.heap.size u (agL l) w' ∧ Below w.heap.size w w' := by
  have ht0 := (row_new w #[.int .i64 0, .int .i64 0, .int .i64 0, .int .i64 0] 85).put #[.int .i64 0, .int .i64 3, .int .i64 2, .int .i64 3]
  have hb0 := below_row (below_one w (.cells #[.int .i64 0, .int .i64 0, .int .i64 0, .int .i64 0] 85)) (Nat.le_refl _) #[.int .i64 0, .int .i64 3, .int .i64 2, .int .i64 3]
  obtain ⟨a, c, rfl⟩ := h.form
  have HD := hid_of' h
  clear h
  go_enter Tryd.func19, Tryd.ntmps19
  go_upto_region 2 with (refine wpList_store_row rfl _ _ _ rfl w.heap.size #[.int .i64 0, .int .i64 3, .int .i64 2, .int .i64 3] rfl rfl _ _ (row_new w _ _) (by kernel_rfl) rfl (by simp [Value.oneCell']) ?_)
  change Code.wp _ _ _ _ ((w.alloc (.cells #[.int .i64 0, .int .i64 0, .int .i64 0, .int .i64 0] 85)).setRow w.heap.size #[.int .i64 0, .int .i64 3, .int .i64 2, .int .i64 3])
  generalize (w.alloc (.cells #[.int .i64 0, .int .i64 0, .int .i64 0, .int .i64 0] 85)).setRow w.heap.size #[.int .i64 0, .int .i64 3, .int .i64 2, .int .i64 3] = W0 at ht0 hb0 ⊢
  have HT := hid_of' (turned_ok 3 2 3 (HD.out.later hb0) hl)
  have k0 := ht0.cellIs 0 rfl
  have k1 := ht0.cellIs 1 rfl
  have k2 := ht0.cellIs 2 rfl
  have k3 := ht0.cellIs 3 rfl
  have HB := hid_of' hb0
  clear ht0 hb0
  go_wp2_with (go_at_call 48; refine HT.out.mono ?_; rintro e w1 ⟨u, rfl, hu, hb1⟩; clear HT)
  go_ret
  exact ⟨_, rfl, ⟨hu.1, fun k hk => by have := hu.2 k hk; have := HB.out.size; omega⟩, bgo HB.out hb1⟩
theorem refBack_is {w : World} {v : Value} {l : List Xg} (h : SlD w v l) (hl : l.length ≤ 4398046510976) :
    Calls Tryd.prog 21 #[v] w fun e w' => ∃ u, e = .returned u ∧ NwX w.heap.size u (bkL l) w' ∧ Below w.heap.size w w' := by
  unfold bkL
  rw [← turnL_rev]
  exact refBack_ok h hl
theorem refAgain_is {w : World} {v : Value} {l : List Xg} (h : SlD w v l) (hl : l.length ≤ 4398046510976) :
    Calls Tryd.prog 22 #[v] w fun e w' => ∃ u, e = .returned u ∧ NwX w.heap.size u (agL l) w' ∧ Below w.heap.size w w' := refAgain_ok h hl
end Go.Proofs.YtgkbgojgpomcdaaDoor
