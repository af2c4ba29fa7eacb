
/-
  diff.kept: the places that are kept are the document's.
-/
import Derived.Test.YtaimmjoekahleaaDoorZa20
import Derived.Test.YtaimmjoekahleaaDoorZa21
import Derived.WalkMore
import Derived.Deep.LoopGhost
namespace Go.Proofs.YtaimmjoekahleaaDoor
open Go.RowKit Go.Extern.Stop Go.Stop Go.Extern
set_option maxRecDepth 100000

theorem RowAt.two0 {b : Nat} {x y : Value} {t : TypeId} {w : World} (h : RowAt b #[x, y] t w) (v : Value) : RowAt b #[v, y] t (w.setCell ⟨b, 0, none⟩ v) := h.setc 0 v
theorem RowAt.two1 {b : Nat} {x y : Value} {t : TypeId} {w : World} (h : RowAt b #[x, y] t w) (v : Value) : RowAt b #[x, v] t (w.setCell ⟨b, 1, none⟩ v) := h.setc 1 v
theorem Rw.setO {e : TypeId} {size : Nat} {v : Value} {n : Nat} {xs : List Value} {w : World} (h : Rw e size v n xs w) (a : Addr) (u : Value) (hn : ∀ k, v.ownBlock = some k → ¬ k = a.block) : Rw e size v n xs (w.setCell a u) :=
  Rw.ch h ((Ch.refl (fun k => k = a.block) w).set (.inl rfl) u) hn
theorem Ch.own {a w w' : World} {v : Value} (h : Ch (fun _ => False) a w) (hg : w.grownBy w' v.ownBlock) (hr : ∀ k, v.ownBlock = some k → a.heap.size ≤ k) : Ch (fun _ => False) a w' := h.grown hg (fun k hk => .inr (hr k hk))

set_option maxHeartbeats 1000000 in
theorem kept_none {w : World} {va vb : Value} {xs ys : List Int} (hx : RwR va xs w) (hy : RwR vb ys w) (h0 : xs = [] ∨ ys = []) :
    Calls Tryd.prog 36 #[va, vb] w fun r w' => ∃ v, r = .returned v ∧ RwP v (kp 0 0 xs ys) w' ∧ (∀ k, v.ownBlock = some k → w.heap.size ≤ k) ∧ Below w.heap.size w w' := by
  have hk : kp 0 0 xs ys = [] := by
    rcases h0 with rfl | rfl
    · exact kp_nil 0 0 _
    · exact kp_nilr 0 0 _
  rw [hk]
  obtain ⟨a1, c1, hv1, _⟩ := hx.form
  obtain ⟨a2, c2, hv2, _⟩ := hy.form
  have hn : xs.length = 0 ∨ ys.length = 0 := by
    rcases h0 with rfl | rfl
    · exact .inl rfl
    · exact .inr rfl
  generalize xs.length = n at hv1 hn
  generalize ys.length = m at hv2 hn
  subst hv1 hv2
  clear hx hy hk h0
  by_cases h1 : n = 0
  · subst h1
    go_enter Tryd.func36, Tryd.ntmps36
    go_wp2
    go_step3
    go_wp2
    rw [Exit.noGoto_ret]
    go_ret
    exact ⟨_, rfl, RwP.nil _, (fun k hk => by cases hk), Below.refl _ _⟩
  · obtain rfl : m = 0 := by omega
    have h2 : ((n : Int) == 0) = false := by simp; omega
    clear hn
    go_enter Tryd.func36, Tryd.ntmps36
    go_wp2
    go_step3
    go_wp2
    rw [Exit.noGoto_ret]
    go_ret
    exact ⟨_, rfl, RwP.nil _, (fun k hk => by cases hk), Below.refl _ _⟩

set_option maxHeartbeats 16000000 in
theorem kept_some {w : World} {va vb : Value} {xs ys : List Int} (hx : RwR va xs w) (hy : RwR vb ys w) (hx0 : xs ≠ []) (hy0 : ys ≠ []) (hl : xs.length + ys.length ≤ 8388608) :
    Calls Tryd.prog 36 #[va, vb] w fun r w' => ∃ v, r = .returned v ∧ RwP v (kp 0 0 xs ys) w' ∧ (∀ k, v.ownBlock = some k → w.heap.size ≤ k) ∧ Below w.heap.size w w' := by
  have HD := hid_of' (distances_ok hx hy hx0 hy0 hl)
  obtain ⟨ga, ca0, rfl, _, hgl, hca⟩ := hx.at hx0
  obtain ⟨gb, cb0, rfl, _, hhl, hcb⟩ := hy.at hy0
  have HA := hid_of' (And.intro hca hcb)
  obtain ⟨n, hn⟩ : ∃ n, n = xs.length := ⟨_, rfl⟩
  obtain ⟨m, hm⟩ : ∃ m, m = ys.length := ⟨_, rfl⟩
  have hn0 : 0 < n := by rw [hn]; exact List.length_pos_iff.2 hx0
  have hm0 : 0 < m := by rw [hm]; exact List.length_pos_iff.2 hy0
  rw [← hn] at HD hl ⊢
  rw [← hm] at HD hl ⊢
  obtain ⟨N, hN⟩ : ∃ N : Nat, N = n + 1 := ⟨_, rfl⟩
  obtain ⟨M, hM⟩ : ∃ M : Nat, M = m + 1 := ⟨_, rfl⟩
  rw [← hN] at HD
  have HN := hid_of' (And.intro hn (And.intro hm (And.intro hN hM)))
  have hne : ((n : Int) == 0) = false := by simp; omega
  have hme : ((m : Int) == 0) = false := by simp; omega
  clear hx hy hca hcb hx0 hy0 hn hm hN hM
  go_enter Tryd.func36, Tryd.ntmps36
  go_wp2
  go_step3
  go_upto_region 5 with (go_at_call 47; (with_reducible refine HD.out.mono ?_); rintro e W1 ⟨T, rfl, hTb, hb1⟩)
  have hP := (RowAt.new W1 #[.int .i64 0, .int .i64 0] 111)
  have hbP := below_one W1 (.cells #[.int .i64 0, .int .i64 0] 111)
  have HT := hid_of' (And.intro hTb hb1)
  clear hTb hb1 HD
  go_wp2
  go_step3
  go_wp2
  obtain ⟨P, hPe⟩ : ∃ P, P = W1.heap.size := ⟨_, rfl⟩
  rw [← hPe] at hP ⊢
  generalize W1.alloc (.cells #[.int .i64 0, .int .i64 0] 111) = W2 at hP hbP ⊢
  have H0 := hid_of' (And.intro hP (And.intro hbP hPe))
  clear hP hbP hPe hne hme
  go_loopg [5] (n + m + 1) (fun gk lv wr => ∃ (i j : Nat) (l : List (Nat × Nat)), gk = (n - i) + (m - j) + 1 ∧ i ≤ n ∧ j ≤ m ∧ l.length ≤ i ∧ RowAt P #[.int .i64 (i : Int), .int .i64 (j : Int)] 111 wr ∧ RwP lv l wr ∧ (∀ k, lv.ownBlock = some k → P < k) ∧ l ++ kp i j (xs.drop i) (ys.drop j) = kp 0 0 xs ys ∧ Ch (fun _ => False) W1 wr)
  case atStart =>
    refine ⟨0, 0, [], by omega, Nat.zero_le _, Nat.zero_le _, Nat.le_refl _, H0.out.1, RwP.nil _, (fun k hk => by cases hk), ?_, Ch.of H0.out.2.1⟩
    rw [List.drop_zero, List.drop_zero]
    rfl
  case round =>
    obtain ⟨ix, jx, l, hgk, hixn, hjxm, hll, hPr, hL, hown, hkp, hC⟩ := hrel
    obtain ⟨la, lc, hlv, _, _⟩ := Rw.form hL
    obtain ⟨ln, hln⟩ : ∃ ln, ln = l.length := ⟨_, rfl⟩
    rw [← hln] at hlv
    subst hlv
    have cp0 : wr.cell? ⟨P, 0, none⟩ = some (.int .i64 (ix : Int)) := hPr.is rfl
    have cp1 : wr.cell? ⟨P, 1, none⟩ = some (.int .i64 (jx : Int)) := hPr.is rfl
    have HI := hid_of' (And.intro hPr (And.intro hL (And.intro hown (And.intro hkp hC))))
    have HG := hid_of' (And.intro hgk (And.intro hln hll))
    have hbW : Below W1.heap.size W1 wr := hC.none (fun _ _ q => q)
    have hsz := hbW.size
    clear hPr hL hown hkp hC hgk hln hll
    have HX := hid_of' hbW
    clear hbW
    by_cases hin : ix = n
    · have hine : ((ix : Int) == (n : Int)) = true := by simp [hin]
      have HE := hid_of' hin
      clear hin
      go_wp2
      rw [Exit.noGoto_ret]
      go_ret
      obtain ⟨e1, e2, e3, e4, e5⟩ := HI.out
      rw [kp_end (.inl (by rw [← HN.out.1]; exact HE.out)), List.append_nil] at e4
      rw [e4] at e2
      have h1 := HT.out.2.size
      have h2 := H0.out.2.2
      exact ⟨_, rfl, e2, (fun k hk => by have := e3 k hk; omega), bgo HT.out.2 HX.out⟩
    by_cases hjm : jx = m
    · have hine : ((ix : Int) == (n : Int)) = false := by simp; omega
      have hjme : ((jx : Int) == (m : Int)) = true := by simp [hjm]
      have HE := hid_of' hjm
      clear hin hjm
      go_wp2
      rw [Exit.noGoto_ret]
      go_ret
      obtain ⟨e1, e2, e3, e4, e5⟩ := HI.out
      rw [kp_end (.inr (by rw [← HN.out.2.1]; exact HE.out)), List.append_nil] at e4
      rw [e4] at e2
      have h1 := HT.out.2.size
      have h2 := H0.out.2.2
      exact ⟨_, rfl, e2, (fun k hk => by have := e3 k hk; omega), bgo HT.out.2 HX.out⟩
    have hin2 : (ix : Int) < (n : Int) := by omega
    have hjm2 : (jx : Int) < (m : Int) := by omega
    have hine : ((ix : Int) == (n : Int)) = false := by simp; omega
    have hjme : ((jx : Int) == (m : Int)) = false := by simp; omega
    obtain ⟨a, ha⟩ : ∃ a, xs[ix]? = some a := ⟨_, List.getElem?_eq_getElem (by have := HN.out.1; omega)⟩
    obtain ⟨bb, hbb⟩ : ∃ bb, ys[jx]? = some bb := ⟨_, List.getElem?_eq_getElem (by have := HN.out.2.1; omega)⟩
    have hbw : Below w.heap.size w wr := bgo HT.out.2 HX.out
    have hgq : ga < wr.heap.size := Nat.lt_of_lt_of_le hgl hbw.size
    have hhq : gb < wr.heap.size := Nat.lt_of_lt_of_le hhl hbw.size
    have hPl : P < wr.heap.size := HI.out.1.lt
    have ca : wr.cell? ⟨ga, ix, none⟩ = some (.int .i32 a) := by rw [hbw.cell hgl]; exact HA.out.1 ix a ha
    have cb : wr.cell? ⟨gb, jx, none⟩ = some (.int .i32 bb) := by rw [hbw.cell hhl]; exact HA.out.2 jx bb hbb
    have HAB := hid_of' (And.intro ha hbb)
    have HNE := hid_of' (And.intro hin hjm)
    clear hin hjm ha hbb hbw
    go_upto_region 8 with fail
    refine wp_region_tail 11 (by kernel_rfl) (fun _ => none) (by kernel_rfl) (by kernel_rfl) (by decide) (fun i v x => match i with
      | 0 => v = .slice (some ⟨ga, 0, none⟩) n ca0
      | 1 => v = .pointer (some ⟨P, 0, none⟩)
      | 2 => v = .int .i64 (ix : Int)
      | 3 => v = .pointer (some ⟨ga, ix, none⟩)
      | 4 => v = .int .i32 a
      | 5 => v = .slice (some ⟨gb, 0, none⟩) m cb0
      | 6 => v = .pointer (some ⟨P, 1, none⟩)
      | 7 => v = .int .i64 (jx : Int)
      | 8 => v = .pointer (some ⟨gb, jx, none⟩)
      | 9 => v = .int .i32 bb
      | 10 => v = .bool (a == bb)
      | _ => True) (fun _ => false) (fun _ _ _ _ h => by cases h) ?_ ?_ ?_
    · intro i v x x' hR hb
      match i, hR with
      | 0, h => exact h
      | 1, h => exact h
      | 2, h => exact h
      | 3, h => exact h
      | 4, h => exact h
      | 5, h => exact h
      | 6, h => exact h
      | 7, h => exact h
      | 8, h => exact h
      | 9, h => exact h
      | 10, h => exact h
      | m + 11, h => exact h
    · intro i o hi ho q x vals hX hdep hoth
      have t0 : q.tmps[0]? = some (.slice (some ⟨ga, 0, none⟩) n ca0) := by rw [hoth 0 (by kernel_rfl)]; rfl
      have t1 : q.tmps[1]? = some (.slice (some ⟨gb, 0, none⟩) m cb0) := by rw [hoth 1 (by kernel_rfl)]; rfl
      have t6 : q.tmps[6]? = some (.slice (some ⟨T, 0, none⟩) N N) := by rw [hoth 6 (by kernel_rfl)]; rfl
      have t7 : q.tmps[7]? = some (.pointer (some ⟨P, 0, none⟩)) := by rw [hoth 7 (by kernel_rfl)]; rfl
      match i, hi, ho with
      | 0, _, ho =>
        simp only [List.getElem?_cons_zero, Option.some.injEq] at ho
        subst ho
        unfold Oper.wp
        simp [execOp, go_sem, t0]
        exact came _ rfl (Below.refl _ _) rfl (fun h => absurd h (by decide))
      | 1, _, ho =>
        simp only [List.getElem?_cons_succ, List.getElem?_cons_zero, Option.some.injEq] at ho
        subst ho
        unfold Oper.wp
        simp [execOp, go_sem, t7]
        exact came _ rfl (Below.refl _ _) rfl (fun h => absurd h (by decide))
      | 2, _, ho =>
        simp only [List.getElem?_cons_succ, List.getElem?_cons_zero, Option.some.injEq] at ho
        subst ho
        obtain ⟨u1, e1⟩ := hdep ⟨1, .data⟩ (by simp) rfl _ 39 rfl rfl
        rw [show vals 1 = .pointer (some ⟨P, 0, none⟩) from e1] at u1
        have cc : x.cell? ⟨P, 0, none⟩ = some (.int .i64 (ix : Int)) := by rw [hX.cell hPl]; exact cp0
        unfold Oper.wp
        simp [execOp, go_sem, u1, cc]
        exact came _ rfl (Below.refl _ _) rfl (fun h => absurd h (by decide))
      | 3, _, ho =>
        simp only [List.getElem?_cons_succ, List.getElem?_cons_zero, Option.some.injEq] at ho
        subst ho
        obtain ⟨u0, e0⟩ := hdep ⟨0, .data⟩ (by simp) rfl _ 38 rfl rfl
        rw [show vals 0 = .slice (some ⟨ga, 0, none⟩) n ca0 from e0] at u0
        obtain ⟨u2, e2⟩ := hdep ⟨2, .data⟩ (by simp) rfl _ 40 rfl rfl
        rw [show vals 2 = .int .i64 (ix : Int) from e2] at u2
        unfold Oper.wp
        simp [execOp, go_sem, u0, u2, hin2]
        exact came _ rfl (Below.refl _ _) rfl (fun h => absurd h (by decide))
      | 4, _, ho =>
        simp only [List.getElem?_cons_succ, List.getElem?_cons_zero, Option.some.injEq] at ho
        subst ho
        obtain ⟨u3, e3⟩ := hdep ⟨3, .data⟩ (by simp) rfl _ 41 rfl rfl
        rw [show vals 3 = .pointer (some ⟨ga, ix, none⟩) from e3] at u3
        have cc : x.cell? ⟨ga, ix, none⟩ = some (.int .i32 a) := by rw [hX.cell hgq]; exact ca
        unfold Oper.wp
        simp [execOp, go_sem, u3, cc]
        exact came _ rfl (Below.refl _ _) rfl (fun h => absurd h (by decide))
      | 5, _, ho =>
        simp only [List.getElem?_cons_succ, List.getElem?_cons_zero, Option.some.injEq] at ho
        subst ho
        unfold Oper.wp
        simp [execOp, go_sem, t1]
        exact came _ rfl (Below.refl _ _) rfl (fun h => absurd h (by decide))
      | 6, _, ho =>
        simp only [List.getElem?_cons_succ, List.getElem?_cons_zero, Option.some.injEq] at ho
        subst ho
        unfold Oper.wp
        simp [execOp, go_sem, t7]
        exact came _ rfl (Below.refl _ _) rfl (fun h => absurd h (by decide))
      | 7, _, ho =>
        simp only [List.getElem?_cons_succ, List.getElem?_cons_zero, Option.some.injEq] at ho
        subst ho
        obtain ⟨u6, e6⟩ := hdep ⟨6, .data⟩ (by simp) rfl _ 44 rfl rfl
        rw [show vals 6 = .pointer (some ⟨P, 1, none⟩) from e6] at u6
        have cc : x.cell? ⟨P, 1, none⟩ = some (.int .i64 (jx : Int)) := by rw [hX.cell hPl]; exact cp1
        unfold Oper.wp
        simp [execOp, go_sem, u6, cc]
        exact came _ rfl (Below.refl _ _) rfl (fun h => absurd h (by decide))
      | 8, _, ho =>
        simp only [List.getElem?_cons_succ, List.getElem?_cons_zero, Option.some.injEq] at ho
        subst ho
        obtain ⟨u5, e5⟩ := hdep ⟨5, .data⟩ (by simp) rfl _ 43 rfl rfl
        rw [show vals 5 = .slice (some ⟨gb, 0, none⟩) m cb0 from e5] at u5
        obtain ⟨u7, e7⟩ := hdep ⟨7, .data⟩ (by simp) rfl _ 45 rfl rfl
        rw [show vals 7 = .int .i64 (jx : Int) from e7] at u7
        unfold Oper.wp
        simp [execOp, go_sem, u5, u7, hjm2]
        exact came _ rfl (Below.refl _ _) rfl (fun h => absurd h (by decide))
      | 9, _, ho =>
        simp only [List.getElem?_cons_succ, List.getElem?_cons_zero, Option.some.injEq] at ho
        subst ho
        obtain ⟨u8, e8⟩ := hdep ⟨8, .data⟩ (by simp) rfl _ 46 rfl rfl
        rw [show vals 8 = .pointer (some ⟨gb, jx, none⟩) from e8] at u8
        have cc : x.cell? ⟨gb, jx, none⟩ = some (.int .i32 bb) := by rw [hX.cell hhq]; exact cb
        unfold Oper.wp
        simp [execOp, go_sem, u8, cc]
        exact came _ rfl (Below.refl _ _) rfl (fun h => absurd h (by decide))
      | 10, _, ho =>
        simp only [List.getElem?_cons_succ, List.getElem?_cons_zero, Option.some.injEq] at ho
        subst ho
        obtain ⟨u4, e4⟩ := hdep ⟨4, .data⟩ (by simp) rfl _ 42 rfl rfl
        rw [show vals 4 = .int .i32 a from e4] at u4
        obtain ⟨u9, e9⟩ := hdep ⟨9, .data⟩ (by simp) rfl _ 47 rfl rfl
        rw [show vals 9 = .int .i32 bb from e9] at u9
        unfold Oper.wp
        simp [execOp, go_sem, u4, u9]
        exact came _ rfl (Below.refl _ _) rfl (fun h => absurd h (by decide))
      | m + 11, hi, _ => exact absurd hi (by omega)
    · intro vals W3 hX hR _
      have f0 : vals 0 = .slice (some ⟨ga, 0, none⟩) n ca0 := hR 0 (by decide)
      have f1 : vals 1 = .pointer (some ⟨P, 0, none⟩) := hR 1 (by decide)
      have f2 : vals 2 = .int .i64 (ix : Int) := hR 2 (by decide)
      have f3 : vals 3 = .pointer (some ⟨ga, ix, none⟩) := hR 3 (by decide)
      have f4 : vals 4 = .int .i32 a := hR 4 (by decide)
      have f5 : vals 5 = .slice (some ⟨gb, 0, none⟩) m cb0 := hR 5 (by decide)
      have f6 : vals 6 = .pointer (some ⟨P, 1, none⟩) := hR 6 (by decide)
      have f7 : vals 7 = .int .i64 (jx : Int) := hR 7 (by decide)
      have f8 : vals 8 = .pointer (some ⟨gb, jx, none⟩) := hR 8 (by decide)
      have f9 : vals 9 = .int .i32 bb := hR 9 (by decide)
      have f10 : vals 10 = .bool (a == bb) := hR 10 (by decide)
      simp only [List.drop, List.take, putAll, List.setIfInBounds_toArray, List.set_cons_succ, List.set_cons_zero, f0, f1, f2, f3, f4, f5, f6, f7, f8, f9, f10]
      clear f0 f1 f2 f3 f4 f5 f6 f7 f8 f9 f10 hR
      have HJ := hid_of' (And.intro (HI.out.1.later hX) (And.intro (HI.out.2.1.later hX) (And.intro HI.out.2.2.1 (And.intro HI.out.2.2.2.1 (HI.out.2.2.2.2.later hX)))))
      have hPl3 : P < W3.heap.size := Nat.lt_of_lt_of_le hPl hX.size
      have cq0 : W3.cell? ⟨P, 0, none⟩ = some (.int .i64 (ix : Int)) := HJ.out.1.is rfl
      have cq1 : W3.cell? ⟨P, 1, none⟩ = some (.int .i64 (jx : Int)) := HJ.out.1.is rfl
      have hbX : Below W1.heap.size W1 W3 := HJ.out.2.2.2.2.none (fun _ _ q => q)
      have HX3 := hid_of' (And.intro hbX hX)
      clear HI hX ca cb hgq hhq cp0 cp1 hbX HX hPl hsz
      by_cases hab : a = bb
      · have habb : (a == bb) = true := by simp [hab]
        rw [habb]
        have HB := hid_of' hab
        have hs1 := so_new W3 111 2 #[.int .i64 (ix : Int), .int .i64 (jx : Int)] rfl (fc plc [(ix, jx)]) rfl
        have HS := hid_of' (And.intro (HJ.out.2.1.later (below_one W3 (.cells #[.int .i64 (ix : Int), .int .i64 (jx : Int)] 111))) hs1)
        clear hs1 hab habb
        go_upto_region 10 with (at_builtin; refine wpL_appP (m := [(ix, jx)]) rfl _ _ rfl rfl rfl HS.out.1 HS.out.2 (by have := HG.out; show _ + 1 ≤ _; omega) ?_; intro u6 w6 q1 q2 q3)
        have hPo := H0.out.2.2
        have hr6 : RowAt P #[.int .i64 (ix : Int), .int .i64 (jx : Int)] 111 w6 := (HJ.out.1.later (below_one W3 _)).grow q2 (fun e => by have := HJ.out.2.2.1 P e; omega)
        have hC6 := (HJ.out.2.2.2.2.later (below_one W3 _)).own q2 (fun k hk => by have := HJ.out.2.2.1 k hk; omega)
        have ho6 : ∀ k, u6.ownBlock = some k → P < k := fun k hk => (q3 k hk).elim (fun q => HJ.out.2.2.1 k q) (fun q => by rw [World.size_alloc] at q; omega)
        have k0 : w6.cell? ⟨P, 0, none⟩ = some (.int .i64 (ix : Int)) := hr6.is rfl
        have k1 : w6.cell? ⟨P, 1, none⟩ = some (.int .i64 (jx : Int)) := hr6.is rfl
        have z0 : w6.frozen? ⟨P, 0, none⟩ = false := hr6.free 0
        have z1 : w6.frozen? ⟨P, 1, none⟩ = false := hr6.free 1
        have H6 := hid_of' (And.intro hr6 (And.intro hC6 (And.intro ho6 (And.intro q1 hPo))))
        clear hr6 hC6 ho6 q1 q2 q3 HS cq0 cq1 hPo
        go_wp2
        go_roundg ((n - (ix + 1)) + (m - (jx + 1)) + 1)
        case rel =>
          refine ⟨ix + 1, jx + 1, l ++ [(ix, jx)], rfl, by omega, by omega, by have := HG.out; rw [List.length_append]; show _ + 1 ≤ _; omega, (H6.out.1.two0 _).two1 _, ?_, H6.out.2.2.1, ?_, (H6.out.2.1.set (p := ⟨P, 0, none⟩) (.inr (by have := H6.out.2.2.2.2; show _ ≤ P; omega)) _).set (p := ⟨P, 1, none⟩) (.inr (by have := H6.out.2.2.2.2; show _ ≤ P; omega)) _⟩
          · have hn9 : ∀ k, u6.ownBlock = some k → ¬ k = P := fun k hk => by have := H6.out.2.2.1 k hk; omega
            exact Rw.setO (Rw.setO H6.out.2.2.2.1 ⟨P, 0, none⟩ _ hn9) ⟨P, 1, none⟩ _ hn9
          · rw [List.append_assoc, List.cons_append, List.nil_append, ← kp_e HAB.out.1 (by rw [HB.out]; exact HAB.out.2)]
            exact HJ.out.2.2.2.1
        case measure => have := HG.out; omega
      · have habb : (a == bb) = false := by simp [hab]
        rw [habb]
        obtain ⟨i2, hi2e⟩ : ∃ i2, i2 = ix + 1 := ⟨_, rfl⟩
        obtain ⟨j2, hj2e⟩ : ∃ j2, j2 = jx + 1 := ⟨_, rfl⟩
        have hTb := HT.out.1.later HX3.out.1
        obtain ⟨b2, ctb2, hc2⟩ := hTb.row (k := ix + 1) (by have := HN.out; omega)
        obtain ⟨b1, ctb1, hc1⟩ := hTb.row (k := ix) (by have := HN.out; omega)
        rw [← HN.out.2.1, ← HN.out.2.2.2] at ctb1 ctb2
        obtain ⟨d10, hd10⟩ : ∃ d : Nat, d = ds (xs.drop (ix + 1)) (ys.drop jx) := ⟨_, rfl⟩
        obtain ⟨d01, hd01⟩ : ∃ d : Nat, d = ds (xs.drop ix) (ys.drop (jx + 1)) := ⟨_, rfl⟩
        have c10 : W3.cell? ⟨b2, jx, none⟩ = some (.int .i32 (d10 : Int)) := by rw [hd10]; exact hc2 jx (by have := HN.out; omega)
        have c01 : W3.cell? ⟨b1, j2, none⟩ = some (.int .i32 (d01 : Int)) := by rw [hd01, hj2e]; exact hc1 (jx + 1) (by have := HN.out; omega)
        have hb2l : b2 < W3.heap.size := World.block_lt_of_cell? _ _ c10
        have hb1l : b1 < W3.heap.size := World.block_lt_of_cell? _ _ c01
        have hTl : T < W3.heap.size := World.block_lt_of_cell? _ _ ctb1
        rw [← hi2e] at ctb2
        have hi2 : (i2 : Int) < (N : Int) := by have := HN.out; omega
        have hj2 : (j2 : Int) < (M : Int) := by have := HN.out; omega
        have hiN : (ix : Int) < (N : Int) := by have := HN.out; omega
        have hjM : (jx : Int) < (M : Int) := by have := HN.out; omega
        have hPl := hPl3
        have cp0 := cq0
        have cp1 := cq1
        have HK := hid_of' (And.intro hd10 (And.intro hd01 hab))
        have HEW1 := hid_of' (wrapK hi2e (by omega))
        have HEW2 := hid_of' (wrapK hj2e (by omega))
        clear hc1 hc2 hTb hd10 hd01 hab habb hi2e hj2e cq0 cq1
        go_upto_region 12 with fail
        have ew1 := HEW1.out
        have ew2 := HEW2.out
        refine wp_region_tail 21 (by kernel_rfl) (fun _ => none) (by kernel_rfl) (by kernel_rfl) (by decide) (fun i v x => match i with
          | 0 => v = .slice (some ⟨T, 0, none⟩) N N
          | 1 => v = .pointer (some ⟨P, 0, none⟩)
          | 2 => v = .int .i64 (ix : Int)
          | 3 => v = .int .i64 (i2 : Int)
          | 4 => v = .pointer (some ⟨T, i2, none⟩)
          | 5 => v = .slice (some ⟨b2, 0, none⟩) M M
          | 6 => v = .pointer (some ⟨P, 1, none⟩)
          | 7 => v = .int .i64 (jx : Int)
          | 8 => v = .pointer (some ⟨b2, jx, none⟩)
          | 9 => v = .int .i32 (d10 : Int)
          | 10 => v = .slice (some ⟨T, 0, none⟩) N N
          | 11 => v = .pointer (some ⟨P, 0, none⟩)
          | 12 => v = .int .i64 (ix : Int)
          | 13 => v = .pointer (some ⟨T, ix, none⟩)
          | 14 => v = .slice (some ⟨b1, 0, none⟩) M M
          | 15 => v = .pointer (some ⟨P, 1, none⟩)
          | 16 => v = .int .i64 (jx : Int)
          | 17 => v = .int .i64 (j2 : Int)
          | 18 => v = .pointer (some ⟨b1, j2, none⟩)
          | 19 => v = .int .i32 (d01 : Int)
          | 20 => v = .bool (decide (d10 ≤ d01))
          | _ => True) (fun _ => false) (fun _ _ _ _ h => by cases h) ?_ ?_ ?_
        · intro i v x x' hR hb
          match i, hR with
          | 0, h => exact h
          | 1, h => exact h
          | 2, h => exact h
          | 3, h => exact h
          | 4, h => exact h
          | 5, h => exact h
          | 6, h => exact h
          | 7, h => exact h
          | 8, h => exact h
          | 9, h => exact h
          | 10, h => exact h
          | 11, h => exact h
          | 12, h => exact h
          | 13, h => exact h
          | 14, h => exact h
          | 15, h => exact h
          | 16, h => exact h
          | 17, h => exact h
          | 18, h => exact h
          | 19, h => exact h
          | 20, h => exact h
          | m + 21, h => exact h
        · intro i o hi ho q x vals hX hdep hoth
          have t0 : q.tmps[0]? = some (.slice (some ⟨ga, 0, none⟩) n ca0) := by rw [hoth 0 (by kernel_rfl)]; rfl
          have t1 : q.tmps[1]? = some (.slice (some ⟨gb, 0, none⟩) m cb0) := by rw [hoth 1 (by kernel_rfl)]; rfl
          have t6 : q.tmps[6]? = some (.slice (some ⟨T, 0, none⟩) N N) := by rw [hoth 6 (by kernel_rfl)]; rfl
          have t7 : q.tmps[7]? = some (.pointer (some ⟨P, 0, none⟩)) := by rw [hoth 7 (by kernel_rfl)]; rfl
          match i, hi, ho with
          | 0, _, ho =>
            simp only [List.getElem?_cons_zero, Option.some.injEq] at ho
            subst ho
            unfold Oper.wp
            simp [execOp, go_sem, t6]
            exact came _ rfl (Below.refl _ _) rfl (fun h => absurd h (by decide))
          | 1, _, ho =>
            simp only [List.getElem?_cons_succ, List.getElem?_cons_zero, Option.some.injEq] at ho
            subst ho
            unfold Oper.wp
            simp [execOp, go_sem, t7]
            exact came _ rfl (Below.refl _ _) rfl (fun h => absurd h (by decide))
          | 2, _, ho =>
            simp only [List.getElem?_cons_succ, List.getElem?_cons_zero, Option.some.injEq] at ho
            subst ho
            obtain ⟨u1, e1⟩ := hdep ⟨1, .data⟩ (by simp) rfl _ 63 rfl rfl
            rw [show vals 1 = .pointer (some ⟨P, 0, none⟩) from e1] at u1
            have cc : x.cell? ⟨P, 0, none⟩ = some (.int .i64 (ix : Int)) := by rw [hX.cell hPl]; exact cp0
            unfold Oper.wp
            simp [execOp, go_sem, u1, cc]
            exact came _ rfl (Below.refl _ _) rfl (fun h => absurd h (by decide))
          | 3, _, ho =>
            simp only [List.getElem?_cons_succ, List.getElem?_cons_zero, Option.some.injEq] at ho
            subst ho
            obtain ⟨u2, e2⟩ := hdep ⟨2, .data⟩ (by simp) rfl _ 64 rfl rfl
            rw [show vals 2 = .int .i64 (ix : Int) from e2] at u2
            unfold Oper.wp
            simp [execOp, go_sem, u2, ew1]
            exact came _ rfl (Below.refl _ _) rfl (fun h => absurd h (by decide))
          | 4, _, ho =>
            simp only [List.getElem?_cons_succ, List.getElem?_cons_zero, Option.some.injEq] at ho
            subst ho
            obtain ⟨u0, e0⟩ := hdep ⟨0, .data⟩ (by simp) rfl _ 62 rfl rfl
            rw [show vals 0 = .slice (some ⟨T, 0, none⟩) N N from e0] at u0
            obtain ⟨u3, e3⟩ := hdep ⟨3, .data⟩ (by simp) rfl _ 65 rfl rfl
            rw [show vals 3 = .int .i64 (i2 : Int) from e3] at u3
            unfold Oper.wp
            simp [execOp, go_sem, u0, u3, hi2]
            exact came _ rfl (Below.refl _ _) rfl (fun h => absurd h (by decide))
          | 5, _, ho =>
            simp only [List.getElem?_cons_succ, List.getElem?_cons_zero, Option.some.injEq] at ho
            subst ho
            obtain ⟨u4, e4⟩ := hdep ⟨4, .data⟩ (by simp) rfl _ 66 rfl rfl
            rw [show vals 4 = .pointer (some ⟨T, i2, none⟩) from e4] at u4
            have cc : x.cell? ⟨T, i2, none⟩ = some (.slice (some ⟨b2, 0, none⟩) M M) := by rw [hX.cell hTl]; exact ctb2
            unfold Oper.wp
            simp [execOp, go_sem, u4, cc]
            exact came _ rfl (Below.refl _ _) rfl (fun h => absurd h (by decide))
          | 6, _, ho =>
            simp only [List.getElem?_cons_succ, List.getElem?_cons_zero, Option.some.injEq] at ho
            subst ho
            unfold Oper.wp
            simp [execOp, go_sem, t7]
            exact came _ rfl (Below.refl _ _) rfl (fun h => absurd h (by decide))
          | 7, _, ho =>
            simp only [List.getElem?_cons_succ, List.getElem?_cons_zero, Option.some.injEq] at ho
            subst ho
            obtain ⟨u6, e6⟩ := hdep ⟨6, .data⟩ (by simp) rfl _ 68 rfl rfl
            rw [show vals 6 = .pointer (some ⟨P, 1, none⟩) from e6] at u6
            have cc : x.cell? ⟨P, 1, none⟩ = some (.int .i64 (jx : Int)) := by rw [hX.cell hPl]; exact cp1
            unfold Oper.wp
            simp [execOp, go_sem, u6, cc]
            exact came _ rfl (Below.refl _ _) rfl (fun h => absurd h (by decide))
          | 8, _, ho =>
            simp only [List.getElem?_cons_succ, List.getElem?_cons_zero, Option.some.injEq] at ho
            subst ho
            obtain ⟨u5, e5⟩ := hdep ⟨5, .data⟩ (by simp) rfl _ 67 rfl rfl
            rw [show vals 5 = .slice (some ⟨b2, 0, none⟩) M M from e5] at u5
            obtain ⟨u7, e7⟩ := hdep ⟨7, .data⟩ (by simp) rfl _ 69 rfl rfl
            rw [show vals 7 = .int .i64 (jx : Int) from e7] at u7
            unfold Oper.wp
            simp [execOp, go_sem, u5, u7, hjM]
            exact came _ rfl (Below.refl _ _) rfl (fun h => absurd h (by decide))
          | 9, _, ho =>
            simp only [List.getElem?_cons_succ, List.getElem?_cons_zero, Option.some.injEq] at ho
            subst ho
            obtain ⟨u8, e8⟩ := hdep ⟨8, .data⟩ (by simp) rfl _ 70 rfl rfl
            rw [show vals 8 = .pointer (some ⟨b2, jx, none⟩) from e8] at u8
            have cc : x.cell? ⟨b2, jx, none⟩ = some (.int .i32 (d10 : Int)) := by rw [hX.cell hb2l]; exact c10
            unfold Oper.wp
            simp [execOp, go_sem, u8, cc]
            exact came _ rfl (Below.refl _ _) rfl (fun h => absurd h (by decide))
          | 10, _, ho =>
            simp only [List.getElem?_cons_succ, List.getElem?_cons_zero, Option.some.injEq] at ho
            subst ho
            unfold Oper.wp
            simp [execOp, go_sem, t6]
            exact came _ rfl (Below.refl _ _) rfl (fun h => absurd h (by decide))
          | 11, _, ho =>
            simp only [List.getElem?_cons_succ, List.getElem?_cons_zero, Option.some.injEq] at ho
            subst ho
            unfold Oper.wp
            simp [execOp, go_sem, t7]
            exact came _ rfl (Below.refl _ _) rfl (fun h => absurd h (by decide))
          | 12, _, ho =>
            simp only [List.getElem?_cons_succ, List.getElem?_cons_zero, Option.some.injEq] at ho
            subst ho
            obtain ⟨u11, e11⟩ := hdep ⟨11, .data⟩ (by simp) rfl _ 73 rfl rfl
            rw [show vals 11 = .pointer (some ⟨P, 0, none⟩) from e11] at u11
            have cc : x.cell? ⟨P, 0, none⟩ = some (.int .i64 (ix : Int)) := by rw [hX.cell hPl]; exact cp0
            unfold Oper.wp
            simp [execOp, go_sem, u11, cc]
            exact came _ rfl (Below.refl _ _) rfl (fun h => absurd h (by decide))
          | 13, _, ho =>
            simp only [List.getElem?_cons_succ, List.getElem?_cons_zero, Option.some.injEq] at ho
            subst ho
            obtain ⟨u10, e10⟩ := hdep ⟨10, .data⟩ (by simp) rfl _ 72 rfl rfl
            rw [show vals 10 = .slice (some ⟨T, 0, none⟩) N N from e10] at u10
            obtain ⟨u12, e12⟩ := hdep ⟨12, .data⟩ (by simp) rfl _ 74 rfl rfl
            rw [show vals 12 = .int .i64 (ix : Int) from e12] at u12
            unfold Oper.wp
            simp [execOp, go_sem, u10, u12, hiN]
            exact came _ rfl (Below.refl _ _) rfl (fun h => absurd h (by decide))
          | 14, _, ho =>
            simp only [List.getElem?_cons_succ, List.getElem?_cons_zero, Option.some.injEq] at ho
            subst ho
            obtain ⟨u13, e13⟩ := hdep ⟨13, .data⟩ (by simp) rfl _ 75 rfl rfl
            rw [show vals 13 = .pointer (some ⟨T, ix, none⟩) from e13] at u13
            have cc : x.cell? ⟨T, ix, none⟩ = some (.slice (some ⟨b1, 0, none⟩) M M) := by rw [hX.cell hTl]; exact ctb1
            unfold Oper.wp
            simp [execOp, go_sem, u13, cc]
            exact came _ rfl (Below.refl _ _) rfl (fun h => absurd h (by decide))
          | 15, _, ho =>
            simp only [List.getElem?_cons_succ, List.getElem?_cons_zero, Option.some.injEq] at ho
            subst ho
            unfold Oper.wp
            simp [execOp, go_sem, t7]
            exact came _ rfl (Below.refl _ _) rfl (fun h => absurd h (by decide))
          | 16, _, ho =>
            simp only [List.getElem?_cons_succ, List.getElem?_cons_zero, Option.some.injEq] at ho
            subst ho
            obtain ⟨u15, e15⟩ := hdep ⟨15, .data⟩ (by simp) rfl _ 77 rfl rfl
            rw [show vals 15 = .pointer (some ⟨P, 1, none⟩) from e15] at u15
            have cc : x.cell? ⟨P, 1, none⟩ = some (.int .i64 (jx : Int)) := by rw [hX.cell hPl]; exact cp1
            unfold Oper.wp
            simp [execOp, go_sem, u15, cc]
            exact came _ rfl (Below.refl _ _) rfl (fun h => absurd h (by decide))
          | 17, _, ho =>
            simp only [List.getElem?_cons_succ, List.getElem?_cons_zero, Option.some.injEq] at ho
            subst ho
            obtain ⟨u16, e16⟩ := hdep ⟨16, .data⟩ (by simp) rfl _ 78 rfl rfl
            rw [show vals 16 = .int .i64 (jx : Int) from e16] at u16
            unfold Oper.wp
            simp [execOp, go_sem, u16, ew2]
            exact came _ rfl (Below.refl _ _) rfl (fun h => absurd h (by decide))
          | 18, _, ho =>
            simp only [List.getElem?_cons_succ, List.getElem?_cons_zero, Option.some.injEq] at ho
            subst ho
            obtain ⟨u14, e14⟩ := hdep ⟨14, .data⟩ (by simp) rfl _ 76 rfl rfl
            rw [show vals 14 = .slice (some ⟨b1, 0, none⟩) M M from e14] at u14
            obtain ⟨u17, e17⟩ := hdep ⟨17, .data⟩ (by simp) rfl _ 79 rfl rfl
            rw [show vals 17 = .int .i64 (j2 : Int) from e17] at u17
            unfold Oper.wp
            simp [execOp, go_sem, u14, u17, hj2]
            exact came _ rfl (Below.refl _ _) rfl (fun h => absurd h (by decide))
          | 19, _, ho =>
            simp only [List.getElem?_cons_succ, List.getElem?_cons_zero, Option.some.injEq] at ho
            subst ho
            obtain ⟨u18, e18⟩ := hdep ⟨18, .data⟩ (by simp) rfl _ 80 rfl rfl
            rw [show vals 18 = .pointer (some ⟨b1, j2, none⟩) from e18] at u18
            have cc : x.cell? ⟨b1, j2, none⟩ = some (.int .i32 (d01 : Int)) := by rw [hX.cell hb1l]; exact c01
            unfold Oper.wp
            simp [execOp, go_sem, u18, cc]
            exact came _ rfl (Below.refl _ _) rfl (fun h => absurd h (by decide))
          | 20, _, ho =>
            simp only [List.getElem?_cons_succ, List.getElem?_cons_zero, Option.some.injEq] at ho
            subst ho
            obtain ⟨u9, e9⟩ := hdep ⟨9, .data⟩ (by simp) rfl _ 71 rfl rfl
            rw [show vals 9 = .int .i32 (d10 : Int) from e9] at u9
            obtain ⟨u19, e19⟩ := hdep ⟨19, .data⟩ (by simp) rfl _ 81 rfl rfl
            rw [show vals 19 = .int .i32 (d01 : Int) from e19] at u19
            unfold Oper.wp
            simp [execOp, go_sem, u9, u19]
            exact came _ rfl (Below.refl _ _) rfl (fun h => absurd h (by decide))
          | m + 21, hi, _ => exact absurd hi (by omega)
        · intro vals W4 hX hR _
          have f0 : vals 0 = .slice (some ⟨T, 0, none⟩) N N := hR 0 (by decide)
          have f1 : vals 1 = .pointer (some ⟨P, 0, none⟩) := hR 1 (by decide)
          have f2 : vals 2 = .int .i64 (ix : Int) := hR 2 (by decide)
          have f3 : vals 3 = .int .i64 (i2 : Int) := hR 3 (by decide)
          have f4 : vals 4 = .pointer (some ⟨T, i2, none⟩) := hR 4 (by decide)
          have f5 : vals 5 = .slice (some ⟨b2, 0, none⟩) M M := hR 5 (by decide)
          have f6 : vals 6 = .pointer (some ⟨P, 1, none⟩) := hR 6 (by decide)
          have f7 : vals 7 = .int .i64 (jx : Int) := hR 7 (by decide)
          have f8 : vals 8 = .pointer (some ⟨b2, jx, none⟩) := hR 8 (by decide)
          have f9 : vals 9 = .int .i32 (d10 : Int) := hR 9 (by decide)
          have f10 : vals 10 = .slice (some ⟨T, 0, none⟩) N N := hR 10 (by decide)
          have f11 : vals 11 = .pointer (some ⟨P, 0, none⟩) := hR 11 (by decide)
          have f12 : vals 12 = .int .i64 (ix : Int) := hR 12 (by decide)
          have f13 : vals 13 = .pointer (some ⟨T, ix, none⟩) := hR 13 (by decide)
          have f14 : vals 14 = .slice (some ⟨b1, 0, none⟩) M M := hR 14 (by decide)
          have f15 : vals 15 = .pointer (some ⟨P, 1, none⟩) := hR 15 (by decide)
          have f16 : vals 16 = .int .i64 (jx : Int) := hR 16 (by decide)
          have f17 : vals 17 = .int .i64 (j2 : Int) := hR 17 (by decide)
          have f18 : vals 18 = .pointer (some ⟨b1, j2, none⟩) := hR 18 (by decide)
          have f19 : vals 19 = .int .i32 (d01 : Int) := hR 19 (by decide)
          have f20 : vals 20 = .bool (decide (d10 ≤ d01)) := hR 20 (by decide)
          simp only [List.drop, List.take, putAll, List.setIfInBounds_toArray, List.set_cons_succ, List.set_cons_zero, f0, f1, f2, f3, f4, f5, f6, f7, f8, f9, f10, f11, f12, f13, f14, f15, f16, f17, f18, f19, f20]
          clear f0 f1 f2 f3 f4 f5 f6 f7 f8 f9 f10 f11 f12 f13 f14 f15 f16 f17 f18 f19 f20 hR
          have hr4 := HJ.out.1.later hX
          have k0 : W4.cell? ⟨P, 0, none⟩ = some (.int .i64 (ix : Int)) := hr4.is rfl
          have k1 : W4.cell? ⟨P, 1, none⟩ = some (.int .i64 (jx : Int)) := hr4.is rfl
          have z0 : W4.frozen? ⟨P, 0, none⟩ = false := hr4.free 0
          have z1 : W4.frozen? ⟨P, 1, none⟩ = false := hr4.free 1
          have H6 := hid_of' (And.intro hr4 (And.intro (HJ.out.2.2.2.2.later hX) (And.intro HJ.out.2.2.1 (And.intro (HJ.out.2.1.later hX) H0.out.2.2))))
          clear hr4 ew1 ew2 c10 c01 ctb1 ctb2 cp0 cp1 hb2l hb1l hTl hX hPl hPl3
          by_cases hd : d10 ≤ d01
          · rw [decide_eq_true hd]
            have HDD := hid_of' hd
            clear hd
            go_wp2
            go_roundg ((n - (ix + 1)) + (m - jx) + 1)
            case rel =>
              refine ⟨ix + 1, jx, l, rfl, by omega, by omega, by have := HG.out; omega, H6.out.1.two0 _, ?_, H6.out.2.2.1, ?_, H6.out.2.1.set (p := ⟨P, 0, none⟩) (.inr (by have := H6.out.2.2.2.2; show _ ≤ P; omega)) _⟩
              · exact Rw.setO H6.out.2.2.2.1 ⟨P, 0, none⟩ _ (fun k hk => by have := H6.out.2.2.1 k hk; show ¬ k = P; omega)
              · rw [← kp_d HAB.out.1 HAB.out.2 HK.out.2.2 (by rw [← HK.out.1, ← HK.out.2.1]; exact HDD.out)]
                exact HJ.out.2.2.2.1
            case measure => have := HG.out; omega
          · rw [decide_eq_false hd]
            have HDD := hid_of' hd
            clear hd
            go_wp2
            go_roundg ((n - ix) + (m - (jx + 1)) + 1)
            case rel =>
              refine ⟨ix, jx + 1, l, rfl, by omega, by omega, by have := HG.out; omega, H6.out.1.two1 _, ?_, H6.out.2.2.1, ?_, H6.out.2.1.set (p := ⟨P, 1, none⟩) (.inr (by have := H6.out.2.2.2.2; show _ ≤ P; omega)) _⟩
              · exact Rw.setO H6.out.2.2.2.1 ⟨P, 1, none⟩ _ (fun k hk => by have := H6.out.2.2.1 k hk; show ¬ k = P; omega)
              · rw [← kp_i HAB.out.1 HAB.out.2 HK.out.2.2 (by rw [← HK.out.1, ← HK.out.2.1]; exact HDD.out)]
                exact HJ.out.2.2.2.1
            case measure => have := HG.out; omega
theorem kept_ok {w : World} {va vb : Value} {xs ys : List Int} (hx : RwR va xs w) (hy : RwR vb ys w) (hl : xs = [] ∨ ys = [] ∨ xs.length + ys.length ≤ 8388608) :
    Calls Tryd.prog 36 #[va, vb] w fun r w' => ∃ v, r = .returned v ∧ RwP v (kp 0 0 xs ys) w' ∧ (∀ k, v.ownBlock = some k → w.heap.size ≤ k) ∧ Below w.heap.size w w' := by
  by_cases h1 : xs = []
  · exact kept_none hx hy (.inl h1)
  by_cases h2 : ys = []
  · exact kept_none hx hy (.inr h2)
  · exact kept_some hx hy h1 h2 (by rcases hl with h | h | h; exact absurd h h1; exact absurd h h2; exact h)
end Go.Proofs.YtaimmjoekahleaaDoor
