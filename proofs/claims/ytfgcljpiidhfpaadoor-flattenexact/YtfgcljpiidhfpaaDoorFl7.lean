
/-
  Package flatten: goneOn.
-/
import Derived.Test.YtfgcljpiidhfpaaDoorFl6
namespace Go.Proofs.YtfgcljpiidhfpaaDoor
open Go.RowKit
set_option maxRecDepth 100000

theorem rnd_cutIn {r : Rnd} (hr : r.Ok) {b : Nat} {t : TypeId} {w : World} (h : RowAt b (cv (rc r)) t w) : CsIn b 1 (cv r.cut) w := by
  have := h.subI 1 8 (by rw [rc_len hr]; decide)
  rw [sub_cut hr] at this
  exact this
theorem DkAt.ch {d : Nat} {n s : Int} {l : List Rnd} {S : Nat → Prop} {w w' : World} (h : DkAt d n s l w) (c : Ch S w w') (hn : ¬ S d) : DkAt d n s l w' := ⟨h.1.ch c hn, h.2⟩
/-- A round, brought on as far as s can. -/
def goneR (n : Int) (s c : Nat) (hv : List Int) (r : Rnd) : Rnd :=
  if openR r = false then r else
    if c = s then { (if en r.vot s = 0 then { r with vot := r.vot.set s (voteR r.cut hv) } else r) with dec := verdI (if en r.vot s = 0 then { r with vot := r.vot.set s (voteR r.cut hv) } else r) n }
    else if en r.vot s = 0 then { r with vot := r.vot.set s (voteR r.cut hv) } else r
theorem open_num {r : Rnd} (h : openR r = true) : ¬ r.num < 1 := by have := (openR_iff r).1 h; omega

set_option maxHeartbeats 2000000 in
theorem goneOn_closed {d : Nat} {n : Int} {s c : Nat} {l : List Rnd} {w : World} (h : DkAt d n s l w) (hs : s < 8) (hc : c < 8) {r : Rnd} (hrc : l[c]? = some r) {hv : List Int} (hh : hv.length = 8) (ho : openR r = false) {v : Int} (hre : reachR s r = v) (hv1 : (v == 1) = false) (hv2 : (v == 2) = false) :
    Calls Tryd.prog 62 #[.pointer (some ⟨d, 0, none⟩), .int .i64 (c : Int), .agg (cv hv)] w fun e w' => e = .returned (.agg (cv (rc (goneR n s c hv r)))) ∧ Below w.heap.size w w' := by
  have hr := h.2.2 r (List.mem_of_getElem? hrc)
  have ho1 := hr
  have HV : Hid (goneR n s c hv r = r) := if_pos ho
  have HRe := fun (X : World) (hX : DkAt d n s l X) => hid_of' (reached_any hX hs hr)
  rw [show reachR s r = v from hre] at HRe
  have hsi : (s : Int) < 8 := by omega
  have hci : (c : Int) < 8 := by omega
  go_enter Tryd.func62, Tryd.ntmps62
  go_upto_region 1 with (refine wpL_alloc rfl _ rfl zRnd ?_)
  simp only [World.size_alloc]
  obtain ⟨hb0, hb0e⟩ : ∃ b, w.heap.size = b := ⟨_, rfl⟩
  have k1 : CkAt hb0 hv ((w.alloc (.cells (cv hv) 42)).alloc (.cells (cv (rc rnd0)) 44)) := by rw [← hb0e]; exact (CkAt.new w hh).alloc _
  have k2 : RowAt (hb0 + 1) (cv (rc rnd0)) 44 ((w.alloc (.cells (cv hv) 42)).alloc (.cells (cv (rc rnd0)) 44)) := by
    have := RowAt.news (w.alloc (.cells (cv hv) 42)) (cv (rc rnd0)) 44
    rw [World.size_alloc, hb0e] at this
    exact this
  have hB := bgo (below_one w (.cells (cv hv) 42)) (below_one _ (.cells (cv (rc rnd0)) 44))
  have hd1 := h.later hB
  have hsz : hb0 + 1 < ((w.alloc (.cells (cv hv) 42)).alloc (.cells (cv (rc rnd0)) 44)).heap.size := by simp [← hb0e]
  have hdl := h.lt
  clear h
  generalize (w.alloc (.cells (cv hv) 42)).alloc (.cells (cv (rc rnd0)) 44) = W1 at *
  rw [hb0e] at hdl ⊢
  have HB0 := hid_of' hb0e
  clear hb0e
  have hcs := hd1.rnd hrc
  go_upto_region 2 with (first | (refine ldRnd hr rfl _ rfl rfl hcs ?_) | (refine wpL_alloc rfl _ rfl zRnd ?_) | (refine wpL_stRow rfl _ _ _ rfl rfl rfl (RowAt.news W1 _ _) (rnd_size hr) (two_sz (by rw [rc_len hr, rc_len rnd0_ok])) (cv_one _) ?_))
  obtain ⟨rb, hrb⟩ : ∃ b, W1.heap.size = b := ⟨_, rfl⟩
  have hB2 := below_row (below_one W1 (.cells (cv (rc rnd0)) 44)) (Nat.le_refl W1.heap.size) (cv (rc r))
  have r2 := (RowAt.news W1 (cv (rc rnd0)) 44).rowI (cv (rc r))
  have H2 := hid_of' (And.intro (hd1.later hB2) (And.intro r2 (And.intro (k1.later hB2) (And.intro (k2.later hB2) (bgo hB hB2)))))
  clear r2 k1 k2 hB hd1 hcs hB2
  generalize (W1.alloc (.cells (cv (rc rnd0)) 44)).setRow W1.heap.size (cv (rc r)) = W2 at H2 ⊢
  rw [hrb] at H2 hsz ⊢
  clear hrb
  go_upto_region 3 with (first | (refine ldRnd hr rfl _ rfl rfl H2.out.2.1.in ?_) | (go_at_call 73; refine (HRe _ H2.out.1).out.mono ?_; rintro e w3 ⟨rfl, hb3⟩))
  have H3 := hid_of' (And.intro (H2.out.1.later hb3) (And.intro (H2.out.2.1.later hb3) (And.intro (H2.out.2.2.1.later hb3) (And.intro (H2.out.2.2.2.1.later hb3) (bgo H2.out.2.2.2.2 hb3)))))
  clear H2 hb3 HRe
  have hne : ¬ rb = hb0 + 1 := by omega
  go_wp2_with (first | (refine ldRnd ho1 rfl _ rfl rfl H3.out.2.1.in ?_) | (refine wpL_stRow rfl _ _ _ rfl rfl rfl H3.out.2.2.2.1 (rnd_size ho1) (two_sz (by rw [rc_len ho1, rc_len rnd0_ok])) (cv_one _) ?_))
  exact bodyPost_ret (v := .agg (cv (rc r))) (results_cell_row rfl _ _ (hb0 + 1) _ _ _ _ rfl (H3.out.2.2.2.1.rowI (cv (rc r))) Tryd.underlying44 rfl (rnd_size ho1)) rfl ⟨by rw [HV.out], by
    have q := below_row H3.out.2.2.2.2 (g := hb0 + 1) (by have := HB0.out; omega) (cv (rc r))
    exact q⟩
set_option maxHeartbeats 2000000 in
theorem goneOn_voted {d : Nat} {n : Int} {s c : Nat} {l : List Rnd} {w : World} (h : DkAt d n s l w) (hs : s < 8) (hc : c < 8) {r : Rnd} (hrc : l[c]? = some r) {hv : List Int} (hh : hv.length = 8) (ho : openR r = true) (hne0 : ¬ en r.vot s = 0) (hcs : ¬ c = s) :
    Calls Tryd.prog 62 #[.pointer (some ⟨d, 0, none⟩), .int .i64 (c : Int), .agg (cv hv)] w fun e w' => e = .returned (.agg (cv (rc (goneR n s c hv r)))) ∧ Below w.heap.size w w' := by
  have hr := h.2.2 r (List.mem_of_getElem? hrc)
  have ho1 := hr
  have HV : Hid (goneR n s c hv r = r) := by unfold Hid goneR; rw [if_neg (by rw [ho]; decide), if_neg hcs, if_neg hne0]
  have hre : reachR s r = 2 := by unfold reachR; rw [if_neg (open_num ho), if_neg (by rw [ho]; decide), if_pos hne0]
  have hcs' : ((c : Int) == (s : Int)) = false := by rw [beq_eq_false_iff_ne]; omega
  clear hcs
  have HRe := fun (X : World) (hX : DkAt d n s l X) => hid_of' (reached_any hX hs hr)
  rw [show reachR s r = 2 from hre] at HRe
  have hsi : (s : Int) < 8 := by omega
  have hci : (c : Int) < 8 := by omega
  go_enter Tryd.func62, Tryd.ntmps62
  go_upto_region 1 with (refine wpL_alloc rfl _ rfl zRnd ?_)
  simp only [World.size_alloc]
  obtain ⟨hb0, hb0e⟩ : ∃ b, w.heap.size = b := ⟨_, rfl⟩
  have k1 : CkAt hb0 hv ((w.alloc (.cells (cv hv) 42)).alloc (.cells (cv (rc rnd0)) 44)) := by rw [← hb0e]; exact (CkAt.new w hh).alloc _
  have k2 : RowAt (hb0 + 1) (cv (rc rnd0)) 44 ((w.alloc (.cells (cv hv) 42)).alloc (.cells (cv (rc rnd0)) 44)) := by
    have := RowAt.news (w.alloc (.cells (cv hv) 42)) (cv (rc rnd0)) 44
    rw [World.size_alloc, hb0e] at this
    exact this
  have hB := bgo (below_one w (.cells (cv hv) 42)) (below_one _ (.cells (cv (rc rnd0)) 44))
  have hd1 := h.later hB
  have hsz : hb0 + 1 < ((w.alloc (.cells (cv hv) 42)).alloc (.cells (cv (rc rnd0)) 44)).heap.size := by simp [← hb0e]
  have hdl := h.lt
  clear h
  generalize (w.alloc (.cells (cv hv) 42)).alloc (.cells (cv (rc rnd0)) 44) = W1 at *
  rw [hb0e] at hdl ⊢
  have HB0 := hid_of' hb0e
  clear hb0e
  have hcs := hd1.rnd hrc
  go_upto_region 2 with (first | (refine ldRnd hr rfl _ rfl rfl hcs ?_) | (refine wpL_alloc rfl _ rfl zRnd ?_) | (refine wpL_stRow rfl _ _ _ rfl rfl rfl (RowAt.news W1 _ _) (rnd_size hr) (two_sz (by rw [rc_len hr, rc_len rnd0_ok])) (cv_one _) ?_))
  obtain ⟨rb, hrb⟩ : ∃ b, W1.heap.size = b := ⟨_, rfl⟩
  have hB2 := below_row (below_one W1 (.cells (cv (rc rnd0)) 44)) (Nat.le_refl W1.heap.size) (cv (rc r))
  have r2 := (RowAt.news W1 (cv (rc rnd0)) 44).rowI (cv (rc r))
  have H2 := hid_of' (And.intro (hd1.later hB2) (And.intro r2 (And.intro (k1.later hB2) (And.intro (k2.later hB2) (bgo hB hB2)))))
  clear r2 k1 k2 hB hd1 hcs hB2
  generalize (W1.alloc (.cells (cv (rc rnd0)) 44)).setRow W1.heap.size (cv (rc r)) = W2 at H2 ⊢
  rw [hrb] at H2 hsz ⊢
  clear hrb
  go_upto_region 3 with (first | (refine ldRnd hr rfl _ rfl rfl H2.out.2.1.in ?_) | (go_at_call 73; refine (HRe _ H2.out.1).out.mono ?_; rintro e w3 ⟨rfl, hb3⟩))
  have H3 := hid_of' (And.intro (H2.out.1.later hb3) (And.intro (H2.out.2.1.later hb3) (And.intro (H2.out.2.2.1.later hb3) (And.intro (H2.out.2.2.2.1.later hb3) (bgo H2.out.2.2.2.2 hb3)))))
  clear H2 hb3 HRe
  have c6 := H3.out.1.c1
  have hne : ¬ rb = hb0 + 1 := by omega
  go_wp2_with (first | (refine ldRnd ho1 rfl _ rfl rfl H3.out.2.1.in ?_) | (refine wpL_stRow rfl _ _ _ rfl rfl rfl H3.out.2.2.2.1 (rnd_size ho1) (two_sz (by rw [rc_len ho1, rc_len rnd0_ok])) (cv_one _) ?_))
  exact bodyPost_ret (v := .agg (cv (rc r))) (results_cell_row rfl _ _ (hb0 + 1) _ _ _ _ rfl (H3.out.2.2.2.1.rowI (cv (rc r))) Tryd.underlying44 rfl (rnd_size ho1)) rfl ⟨by rw [HV.out], by
    have q := below_row H3.out.2.2.2.2 (g := hb0 + 1) (by have := HB0.out; omega) (cv (rc r))
    exact q⟩
set_option maxHeartbeats 2000000 in
theorem goneOn_votedOwn {d : Nat} {n : Int} {s c : Nat} {l : List Rnd} {w : World} (h : DkAt d n s l w) (hs : s < 8) (hc : c < 8) {r : Rnd} (hrc : l[c]? = some r) {hv : List Int} (hh : hv.length = 8) (ho : openR r = true) (hne0 : ¬ en r.vot s = 0) (hcs : c = s) :
    Calls Tryd.prog 62 #[.pointer (some ⟨d, 0, none⟩), .int .i64 (c : Int), .agg (cv hv)] w fun e w' => e = .returned (.agg (cv (rc (goneR n s c hv r)))) ∧ Below w.heap.size w w' := by
  have hr := h.2.2 r (List.mem_of_getElem? hrc)
  have ho1 := hr
  have HV : Hid (goneR n s c hv r = { r with dec := verdI r n }) := by unfold Hid goneR; rw [if_neg (by rw [ho]; decide), if_pos hcs, if_neg hne0]
  have hre : reachR s r = 2 := by unfold reachR; rw [if_neg (open_num ho), if_neg (by rw [ho]; decide), if_pos hne0]
  have hcs' : ((c : Int) == (s : Int)) = true := by rw [hcs]; simp
  clear hcs
  have HRe := fun (X : World) (hX : DkAt d n s l X) => hid_of' (reached_any hX hs hr)
  rw [show reachR s r = 2 from hre] at HRe
  have hsi : (s : Int) < 8 := by omega
  have hci : (c : Int) < 8 := by omega
  go_enter Tryd.func62, Tryd.ntmps62
  go_upto_region 1 with (refine wpL_alloc rfl _ rfl zRnd ?_)
  simp only [World.size_alloc]
  obtain ⟨hb0, hb0e⟩ : ∃ b, w.heap.size = b := ⟨_, rfl⟩
  have k1 : CkAt hb0 hv ((w.alloc (.cells (cv hv) 42)).alloc (.cells (cv (rc rnd0)) 44)) := by rw [← hb0e]; exact (CkAt.new w hh).alloc _
  have k2 : RowAt (hb0 + 1) (cv (rc rnd0)) 44 ((w.alloc (.cells (cv hv) 42)).alloc (.cells (cv (rc rnd0)) 44)) := by
    have := RowAt.news (w.alloc (.cells (cv hv) 42)) (cv (rc rnd0)) 44
    rw [World.size_alloc, hb0e] at this
    exact this
  have hB := bgo (below_one w (.cells (cv hv) 42)) (below_one _ (.cells (cv (rc rnd0)) 44))
  have hd1 := h.later hB
  have hsz : hb0 + 1 < ((w.alloc (.cells (cv hv) 42)).alloc (.cells (cv (rc rnd0)) 44)).heap.size := by simp [← hb0e]
  have hdl := h.lt
  clear h
  generalize (w.alloc (.cells (cv hv) 42)).alloc (.cells (cv (rc rnd0)) 44) = W1 at *
  rw [hb0e] at hdl ⊢
  have HB0 := hid_of' hb0e
  clear hb0e
  have hcs := hd1.rnd hrc
  go_upto_region 2 with (first | (refine ldRnd hr rfl _ rfl rfl hcs ?_) | (refine wpL_alloc rfl _ rfl zRnd ?_) | (refine wpL_stRow rfl _ _ _ rfl rfl rfl (RowAt.news W1 _ _) (rnd_size hr) (two_sz (by rw [rc_len hr, rc_len rnd0_ok])) (cv_one _) ?_))
  obtain ⟨rb, hrb⟩ : ∃ b, W1.heap.size = b := ⟨_, rfl⟩
  have hB2 := below_row (below_one W1 (.cells (cv (rc rnd0)) 44)) (Nat.le_refl W1.heap.size) (cv (rc r))
  have r2 := (RowAt.news W1 (cv (rc rnd0)) 44).rowI (cv (rc r))
  have H2 := hid_of' (And.intro (hd1.later hB2) (And.intro r2 (And.intro (k1.later hB2) (And.intro (k2.later hB2) (bgo hB hB2)))))
  clear r2 k1 k2 hB hd1 hcs hB2
  generalize (W1.alloc (.cells (cv (rc rnd0)) 44)).setRow W1.heap.size (cv (rc r)) = W2 at H2 ⊢
  rw [hrb] at H2 hsz ⊢
  clear hrb
  go_upto_region 3 with (first | (refine ldRnd hr rfl _ rfl rfl H2.out.2.1.in ?_) | (go_at_call 73; refine (HRe _ H2.out.1).out.mono ?_; rintro e w3 ⟨rfl, hb3⟩))
  have H3 := hid_of' (And.intro (H2.out.1.later hb3) (And.intro (H2.out.2.1.later hb3) (And.intro (H2.out.2.2.1.later hb3) (And.intro (H2.out.2.2.2.1.later hb3) (bgo H2.out.2.2.2.2 hb3)))))
  clear H2 hb3 HRe
  have c6 := H3.out.1.c1
  go_upto_region 7 with fail
  have H5 := H3
  clear H3 c6
  refine wp_region_tail 7 (by kernel_rfl) (fun _ => none) (by kernel_rfl) (by kernel_rfl) (by decide) (fun ii u X => match ii with
    | 0 => u = .agg (cv (rc r))
    | 1 => u = .pointer (some ⟨d, 0, none⟩)
    | 2 => u = .pointer (some ⟨d, 0, none⟩)
    | 3 => u = .pointer (some ⟨d, 0, none⟩)
    | 4 => u = .int .i64 n
    | 5 => u = .int .i64 (verdI r n)
    | 6 => u = .pointer (some ⟨rb, 17, none⟩)
    | _ => True) (fun _ => false) (fun _ _ _ _ h => by cases h) ?_ ?_ ?_
  · intro ii u X X' hR hb
    match ii, hR with
    | 0, h => exact h
    | 1, h => exact h
    | 2, h => exact h
    | 3, h => exact h
    | 4, h => exact h
    | 5, h => exact h
    | 6, h => exact h
    | m + 7, h => exact h
  · intro ii o hi ho qq X vals hX hdep hoth
    have t0 : qq.tmps[0]? = some (.pointer (some ⟨d, 0, none⟩)) := by rw [hoth 0 (by kernel_rfl)]; rfl
    have t7 : qq.tmps[7]? = some (.pointer (some ⟨rb, 0, none⟩)) := by rw [hoth 7 (by kernel_rfl)]; rfl
    match ii, hi, ho with
    | 0, _, ho =>
      simp only [List.getElem?_cons_zero, Option.some.injEq] at ho
      subst ho
      exact opRnd ho1 _ rfl (by simp [Act.eval, t7]) (RowAt.later H5.out.2.1 hX).in (came _ rfl (Below.refl _ _) rfl (fun h => absurd h (by decide)))
    | 1, _, ho =>
      simp only [List.getElem?_cons_succ, List.getElem?_cons_zero, Option.some.injEq] at ho
      subst ho
      unfold Oper.wp
      simp [execOp, go_sem, t0]
      exact came _ rfl (Below.refl _ _) rfl (fun h => absurd h (by decide))
    | 2, _, ho =>
      simp only [List.getElem?_cons_succ, List.getElem?_cons_zero, Option.some.injEq] at ho
      subst ho
      obtain ⟨u1, e1⟩ := hdep ⟨1, .data⟩ (by simp) rfl _ 38 rfl rfl
      rw [show vals 1 = .pointer (some ⟨d, 0, none⟩) from e1] at u1
      unfold Oper.wp
      simp [execOp, go_sem, u1]
      exact came _ rfl (Below.refl _ _) rfl (fun h => absurd h (by decide))
    | 3, _, ho =>
      simp only [List.getElem?_cons_succ, List.getElem?_cons_zero, Option.some.injEq] at ho
      subst ho
      obtain ⟨u2, e2⟩ := hdep ⟨2, .data⟩ (by simp) rfl _ 39 rfl rfl
      rw [show vals 2 = .pointer (some ⟨d, 0, none⟩) from e2] at u2
      unfold Oper.wp
      simp [execOp, go_sem, u2]
      exact came _ rfl (Below.refl _ _) rfl (fun h => absurd h (by decide))
    | 4, _, ho =>
      simp only [List.getElem?_cons_succ, List.getElem?_cons_zero, Option.some.injEq] at ho
      subst ho
      obtain ⟨u3, e3⟩ := hdep ⟨3, .data⟩ (by simp) rfl _ 40 rfl rfl
      rw [show vals 3 = .pointer (some ⟨d, 0, none⟩) from e3] at u3
      have cc := (DkAt.later H5.out.1 hX).c0
      unfold Oper.wp
      simp [execOp, go_sem, u3, cc]
      exact came _ rfl (Below.refl _ _) rfl (fun h => absurd h (by decide))
    | 5, _, ho =>
      simp only [List.getElem?_cons_succ, List.getElem?_cons_zero, Option.some.injEq] at ho
      subst ho
      obtain ⟨u0, e0⟩ := hdep ⟨0, .data⟩ (by simp) rfl _ 37 rfl rfl
      rw [show vals 0 = .agg (cv (rc r)) from e0] at u0
      obtain ⟨u4, e4⟩ := hdep ⟨4, .data⟩ (by simp) rfl _ 41 rfl rfl
      rw [show vals 4 = .int .i64 n from e4] at u4
      unfold Oper.wp
      simp [go_sem, u0, u4]
      refine (verdict_any r n ho1 X).mono ?_
      rintro r x1 ⟨rfl, hb1⟩
      exact came _ rfl hb1 rfl (fun h => absurd h (by decide))
    | 6, _, ho =>
      simp only [List.getElem?_cons_succ, List.getElem?_cons_zero, Option.some.injEq] at ho
      subst ho
      unfold Oper.wp
      simp [execOp, go_sem, t7]
      exact came _ rfl (Below.refl _ _) rfl (fun h => absurd h (by decide))
    | m + 7, hi, _ => exact absurd hi (by omega)
  · intro vals Y hY hR _
    have e5 : vals 5 = .int .i64 (verdI r n) := hR 5 (by decide)
    have e6 : vals 6 = .pointer (some ⟨rb, 17, none⟩) := hR 6 (by decide)
    have q3 := RowAt.later H5.out.2.1 hY
    have c3 := q3.int (k := 17) (by rw [rc_len ho1]; decide)
    have f3 := q3.frz 17
    have p3 := q3.setI 17 (verdI r n)
    rw [rc_setDec ho1] at p3
    have H6 := hid_of' (And.intro (DkAt.ch (S := fun k => k = rb) (DkAt.later H5.out.1 hY) ((Ch.refl (fun k => k = rb) Y).set (p := ⟨rb, 17, none⟩) (.inl rfl) (.int .i64 (verdI r n))) (by omega)) (And.intro p3 (And.intro ((CkAt.later H5.out.2.2.1 hY).other ⟨rb, 17, none⟩ (.int .i64 (verdI r n)) (by show ¬ hb0 = rb; omega)) (And.intro ((RowAt.later H5.out.2.2.2.1 hY).otherI ⟨rb, 17, none⟩ (.int .i64 (verdI r n)) (by show ¬ hb0 + 1 = rb; omega)) ((bgo H5.out.2.2.2.2 hY).setCell (p := ⟨rb, 17, none⟩) (by show w.heap.size ≤ rb; have := HB0.out; omega) (.int .i64 (verdI r n)))))))
    clear hR hY q3 p3
    simp only [List.drop, List.take, putAll, List.setIfInBounds_toArray, List.set_cons_succ, List.set_cons_zero, e5, e6]
    clear e5 e6
    go_upto_region 8 with fail
    clear c3 f3
    generalize Y.setCell ⟨rb, 17, none⟩ (.int .i64 (verdI r n)) = Y6 at H6 ⊢
    have ho2 : Rnd.Ok { r with dec := verdI r n } := hr
    have hne : ¬ rb = hb0 + 1 := by omega
    go_wp2_with (first | (refine ldRnd ho2 rfl _ rfl rfl H6.out.2.1.in ?_) | (refine wpL_stRow rfl _ _ _ rfl rfl rfl H6.out.2.2.2.1 (rnd_size ho2) (two_sz (by rw [rc_len ho2, rc_len rnd0_ok])) (cv_one _) ?_))
    exact bodyPost_ret (v := .agg (cv (rc { r with dec := verdI r n }))) (results_cell_row rfl _ _ (hb0 + 1) _ _ _ _ rfl (H6.out.2.2.2.1.rowI (cv (rc { r with dec := verdI r n }))) Tryd.underlying44 rfl (rnd_size ho2)) rfl ⟨by rw [HV.out], by
      have q := below_row H6.out.2.2.2.2 (g := hb0 + 1) (by have := HB0.out; omega) (cv (rc { r with dec := verdI r n }))
      exact q⟩
set_option maxHeartbeats 4000000 in
theorem goneOn_new {d : Nat} {n : Int} {s c : Nat} {l : List Rnd} {w : World} (h : DkAt d n s l w) (hs : s < 8) (hc : c < 8) {r : Rnd} (hrc : l[c]? = some r) {hv : List Int} (hh : hv.length = 8) (ho : openR r = true) (he0 : en r.vot s = 0) (hcs : ¬ c = s) :
    Calls Tryd.prog 62 #[.pointer (some ⟨d, 0, none⟩), .int .i64 (c : Int), .agg (cv hv)] w fun e w' => e = .returned (.agg (cv (rc (goneR n s c hv r)))) ∧ Below w.heap.size w w' := by
  have hr := h.2.2 r (List.mem_of_getElem? hrc)
  have HV : Hid (goneR n s c hv r = { r with vot := r.vot.set s (voteR r.cut hv) }) := by unfold Hid goneR; rw [if_neg (by rw [ho]; decide), if_neg hcs, if_pos he0]
  have hre : reachR s r = 1 := by unfold reachR; rw [if_neg (open_num ho), if_neg (by rw [ho]; decide), if_neg (fun q => q he0)]
  have hcs' : ((c : Int) == (s : Int)) = false := by rw [beq_eq_false_iff_ne]; omega
  clear hcs he0
  have HRe := fun (X : World) (hX : DkAt d n s l X) => hid_of' (reached_any hX hs hr)
  rw [show reachR s r = 1 from hre] at HRe
  have hsi : (s : Int) < 8 := by omega
  have hci : (c : Int) < 8 := by omega
  go_enter Tryd.func62, Tryd.ntmps62
  go_upto_region 1 with (refine wpL_alloc rfl _ rfl zRnd ?_)
  simp only [World.size_alloc]
  obtain ⟨hb0, hb0e⟩ : ∃ b, w.heap.size = b := ⟨_, rfl⟩
  have k1 : CkAt hb0 hv ((w.alloc (.cells (cv hv) 42)).alloc (.cells (cv (rc rnd0)) 44)) := by rw [← hb0e]; exact (CkAt.new w hh).alloc _
  have k2 : RowAt (hb0 + 1) (cv (rc rnd0)) 44 ((w.alloc (.cells (cv hv) 42)).alloc (.cells (cv (rc rnd0)) 44)) := by
    have := RowAt.news (w.alloc (.cells (cv hv) 42)) (cv (rc rnd0)) 44
    rw [World.size_alloc, hb0e] at this
    exact this
  have hB := bgo (below_one w (.cells (cv hv) 42)) (below_one _ (.cells (cv (rc rnd0)) 44))
  have hd1 := h.later hB
  have hsz : hb0 + 1 < ((w.alloc (.cells (cv hv) 42)).alloc (.cells (cv (rc rnd0)) 44)).heap.size := by simp [← hb0e]
  have hdl := h.lt
  clear h
  generalize (w.alloc (.cells (cv hv) 42)).alloc (.cells (cv (rc rnd0)) 44) = W1 at *
  rw [hb0e] at hdl ⊢
  have HB0 := hid_of' hb0e
  clear hb0e
  have hcs := hd1.rnd hrc
  go_upto_region 2 with (first | (refine ldRnd hr rfl _ rfl rfl hcs ?_) | (refine wpL_alloc rfl _ rfl zRnd ?_) | (refine wpL_stRow rfl _ _ _ rfl rfl rfl (RowAt.news W1 _ _) (rnd_size hr) (two_sz (by rw [rc_len hr, rc_len rnd0_ok])) (cv_one _) ?_))
  obtain ⟨rb, hrb⟩ : ∃ b, W1.heap.size = b := ⟨_, rfl⟩
  have hB2 := below_row (below_one W1 (.cells (cv (rc rnd0)) 44)) (Nat.le_refl W1.heap.size) (cv (rc r))
  have r2 := (RowAt.news W1 (cv (rc rnd0)) 44).rowI (cv (rc r))
  have H2 := hid_of' (And.intro (hd1.later hB2) (And.intro r2 (And.intro (k1.later hB2) (And.intro (k2.later hB2) (bgo hB hB2)))))
  clear r2 k1 k2 hB hd1 hcs hB2
  generalize (W1.alloc (.cells (cv (rc rnd0)) 44)).setRow W1.heap.size (cv (rc r)) = W2 at H2 ⊢
  rw [hrb] at H2 hsz ⊢
  clear hrb
  go_upto_region 3 with (first | (refine ldRnd hr rfl _ rfl rfl H2.out.2.1.in ?_) | (go_at_call 73; refine (HRe _ H2.out.1).out.mono ?_; rintro e w3 ⟨rfl, hb3⟩))
  have H3 := hid_of' (And.intro (H2.out.1.later hb3) (And.intro (H2.out.2.1.later hb3) (And.intro (H2.out.2.2.1.later hb3) (And.intro (H2.out.2.2.2.1.later hb3) (bgo H2.out.2.2.2.2 hb3)))))
  clear H2 hb3 HRe
  go_upto_region 5 with fail
  refine wp_region_tail 10 (by kernel_rfl) (fun _ => none) (by kernel_rfl) (by kernel_rfl) (by decide) (fun ii u X => match ii with
    | 0 => u = .pointer (some ⟨d, 0, none⟩)
    | 1 => u = .pointer (some ⟨d, 0, none⟩)
    | 2 => u = .pointer (some ⟨d, 1, none⟩)
    | 3 => u = .int .i64 (s : Int)
    | 4 => u = .pointer (some ⟨rb, 1, none⟩)
    | 5 => u = .agg (cv r.cut)
    | 6 => u = .agg (cv hv)
    | 7 => u = .int .i64 (voteR r.cut hv)
    | 8 => u = .pointer (some ⟨rb, 9, none⟩)
    | 9 => u = .pointer (some ⟨rb, 9 + s, none⟩)
    | _ => True) (fun _ => false) (fun _ _ _ _ h => by cases h) ?_ ?_ ?_
  · intro ii u X X' hR hb
    match ii, hR with
    | 0, h => exact h
    | 1, h => exact h
    | 2, h => exact h
    | 3, h => exact h
    | 4, h => exact h
    | 5, h => exact h
    | 6, h => exact h
    | 7, h => exact h
    | 8, h => exact h
    | 9, h => exact h
    | m + 10, h => exact h
  · intro ii o hi ho qq X vals hX hdep hoth
    have t0 : qq.tmps[0]? = some (.pointer (some ⟨d, 0, none⟩)) := by rw [hoth 0 (by kernel_rfl)]; rfl
    have t7 : qq.tmps[7]? = some (.pointer (some ⟨rb, 0, none⟩)) := by rw [hoth 7 (by kernel_rfl)]; rfl
    have t5 : qq.tmps[5]? = some (.pointer (some ⟨hb0, 0, none⟩)) := by rw [hoth 5 (by kernel_rfl)]; rfl
    match ii, hi, ho with
    | 0, _, ho =>
      simp only [List.getElem?_cons_zero, Option.some.injEq] at ho
      subst ho
      unfold Oper.wp
      simp [execOp, go_sem, t0]
      exact came _ rfl (Below.refl _ _) rfl (fun h => absurd h (by decide))
    | 1, _, ho =>
      simp only [List.getElem?_cons_succ, List.getElem?_cons_zero, Option.some.injEq] at ho
      subst ho
      obtain ⟨u0, e0⟩ := hdep ⟨0, .data⟩ (by simp) rfl _ 21 rfl rfl
      rw [show vals 0 = .pointer (some ⟨d, 0, none⟩) from e0] at u0
      unfold Oper.wp
      simp [execOp, go_sem, u0]
      exact came _ rfl (Below.refl _ _) rfl (fun h => absurd h (by decide))
    | 2, _, ho =>
      simp only [List.getElem?_cons_succ, List.getElem?_cons_zero, Option.some.injEq] at ho
      subst ho
      obtain ⟨u1, e1⟩ := hdep ⟨1, .data⟩ (by simp) rfl _ 22 rfl rfl
      rw [show vals 1 = .pointer (some ⟨d, 0, none⟩) from e1] at u1
      unfold Oper.wp
      simp [execOp, go_sem, u1]
      exact came _ rfl (Below.refl _ _) rfl (fun h => absurd h (by decide))
    | 3, _, ho =>
      simp only [List.getElem?_cons_succ, List.getElem?_cons_zero, Option.some.injEq] at ho
      subst ho
      obtain ⟨u2, e2⟩ := hdep ⟨2, .data⟩ (by simp) rfl _ 23 rfl rfl
      rw [show vals 2 = .pointer (some ⟨d, 1, none⟩) from e2] at u2
      have cc := (DkAt.later H3.out.1 hX).c1
      unfold Oper.wp
      simp [execOp, go_sem, u2, cc]
      exact came _ rfl (Below.refl _ _) rfl (fun h => absurd h (by decide))
    | 4, _, ho =>
      simp only [List.getElem?_cons_succ, List.getElem?_cons_zero, Option.some.injEq] at ho
      subst ho
      unfold Oper.wp
      simp [execOp, go_sem, t7]
      exact came _ rfl (Below.refl _ _) rfl (fun h => absurd h (by decide))
    | 5, _, ho =>
      simp only [List.getElem?_cons_succ, List.getElem?_cons_zero, Option.some.injEq] at ho
      subst ho
      obtain ⟨u4, e4⟩ := hdep ⟨4, .data⟩ (by simp) rfl _ 25 rfl rfl
      rw [show vals 4 = .pointer (some ⟨rb, 1, none⟩) from e4] at u4
      exact opCk hr.1 _ rfl (by simp [Act.eval, u4]) (rnd_cutIn hr (RowAt.later H3.out.2.1 hX)) (came _ rfl (Below.refl _ _) rfl (fun h => absurd h (by decide)))
    | 6, _, ho =>
      simp only [List.getElem?_cons_succ, List.getElem?_cons_zero, Option.some.injEq] at ho
      subst ho
      exact opCk hh _ rfl (by simp [Act.eval, t5]) (CkAt.later H3.out.2.2.1 hX).in (came _ rfl (Below.refl _ _) rfl (fun h => absurd h (by decide)))
    | 7, _, ho =>
      simp only [List.getElem?_cons_succ, List.getElem?_cons_zero, Option.some.injEq] at ho
      subst ho
      obtain ⟨u5, e5⟩ := hdep ⟨5, .data⟩ (by simp) rfl _ 26 rfl rfl
      rw [show vals 5 = .agg (cv r.cut) from e5] at u5
      obtain ⟨u6, e6⟩ := hdep ⟨6, .data⟩ (by simp) rfl _ 27 rfl rfl
      rw [show vals 6 = .agg (cv hv) from e6] at u6
      unfold Oper.wp
      simp [go_sem, u5, u6]
      refine (vote_any r.cut hv X hr.1 hh).mono ?_
      rintro r x1 ⟨rfl, hb1⟩
      exact came _ rfl hb1 rfl (fun h => absurd h (by decide))
    | 8, _, ho =>
      simp only [List.getElem?_cons_succ, List.getElem?_cons_zero, Option.some.injEq] at ho
      subst ho
      unfold Oper.wp
      simp [execOp, go_sem, t7]
      exact came _ rfl (Below.refl _ _) rfl (fun h => absurd h (by decide))
    | 9, _, ho =>
      simp only [List.getElem?_cons_succ, List.getElem?_cons_zero, Option.some.injEq] at ho
      subst ho
      obtain ⟨u8, e8⟩ := hdep ⟨8, .data⟩ (by simp) rfl _ 29 rfl rfl
      rw [show vals 8 = .pointer (some ⟨rb, 9, none⟩) from e8] at u8
      obtain ⟨u3, e3⟩ := hdep ⟨3, .data⟩ (by simp) rfl _ 24 rfl rfl
      rw [show vals 3 = .int .i64 (s : Int) from e3] at u3
      unfold Oper.wp
      simp [execOp, go_sem, u8, u3, hsi]
      exact came _ rfl (Below.refl _ _) rfl (fun h => absurd h (by decide))
    | m + 10, hi, _ => exact absurd hi (by omega)
  · intro vals X hX hR _
    have e7 : vals 7 = .int .i64 (voteR r.cut hv) := hR 7 (by decide)
    have e9 : vals 9 = .pointer (some ⟨rb, 9 + s, none⟩) := hR 9 (by decide)
    have q2 := RowAt.later H3.out.2.1 hX
    have c2 := q2.int (k := 9 + s) (by rw [rc_len hr]; omega)
    have f2 := q2.frz (9 + s)
    have p2 := q2.setI (9 + s) (voteR r.cut hv)
    rw [rc_setVot hr hs] at p2
    have H4 := hid_of' (And.intro (DkAt.ch (S := fun k => k = rb) (DkAt.later H3.out.1 hX) ((Ch.refl (fun k => k = rb) X).set (p := ⟨rb, 9 + s, none⟩) (.inl rfl) (.int .i64 (voteR r.cut hv))) (by omega)) (And.intro p2 (And.intro ((CkAt.later H3.out.2.2.1 hX).other ⟨rb, 9 + s, none⟩ (.int .i64 (voteR r.cut hv)) (by show ¬ hb0 = rb; omega)) (And.intro ((RowAt.later H3.out.2.2.2.1 hX).otherI ⟨rb, 9 + s, none⟩ (.int .i64 (voteR r.cut hv)) (by show ¬ hb0 + 1 = rb; omega)) ((bgo H3.out.2.2.2.2 hX).setCell (p := ⟨rb, 9 + s, none⟩) (by show w.heap.size ≤ rb; have := HB0.out; omega) (.int .i64 (voteR r.cut hv)))))))
    clear hR hX q2 p2
    simp only [List.drop, List.take, putAll, List.setIfInBounds_toArray, List.set_cons_succ, List.set_cons_zero, e7, e9]
    clear e7 e9
    go_upto_region 6 with fail
    clear c2 f2
    generalize X.setCell ⟨rb, 9 + s, none⟩ (.int .i64 (voteR r.cut hv)) = X4 at H4 ⊢
    have ho1 : Rnd.Ok { r with vot := r.vot.set s (voteR r.cut hv) } := ⟨hr.1, by show (r.vot.set s _).length = 8; rw [List.length_set]; exact hr.2⟩
    have c6 := H4.out.1.c1
    have hne : ¬ rb = hb0 + 1 := by omega
    go_wp2_with (first | (refine ldRnd ho1 rfl _ rfl rfl H4.out.2.1.in ?_) | (refine wpL_stRow rfl _ _ _ rfl rfl rfl H4.out.2.2.2.1 (rnd_size ho1) (two_sz (by rw [rc_len ho1, rc_len rnd0_ok])) (cv_one _) ?_))
    exact bodyPost_ret (v := .agg (cv (rc { r with vot := r.vot.set s (voteR r.cut hv) }))) (results_cell_row rfl _ _ (hb0 + 1) _ _ _ _ rfl (H4.out.2.2.2.1.rowI (cv (rc { r with vot := r.vot.set s (voteR r.cut hv) }))) Tryd.underlying44 rfl (rnd_size ho1)) rfl ⟨by rw [HV.out], by
      have q := below_row H4.out.2.2.2.2 (g := hb0 + 1) (by have := HB0.out; omega) (cv (rc { r with vot := r.vot.set s (voteR r.cut hv) }))
      exact q⟩
set_option maxHeartbeats 4000000 in
theorem goneOn_newOwn {d : Nat} {n : Int} {s c : Nat} {l : List Rnd} {w : World} (h : DkAt d n s l w) (hs : s < 8) (hc : c < 8) {r : Rnd} (hrc : l[c]? = some r) {hv : List Int} (hh : hv.length = 8) (ho : openR r = true) (he0 : en r.vot s = 0) (hcs : c = s) :
    Calls Tryd.prog 62 #[.pointer (some ⟨d, 0, none⟩), .int .i64 (c : Int), .agg (cv hv)] w fun e w' => e = .returned (.agg (cv (rc (goneR n s c hv r)))) ∧ Below w.heap.size w w' := by
  have hr := h.2.2 r (List.mem_of_getElem? hrc)
  have HV : Hid (goneR n s c hv r = (⟨r.num, r.cut, r.vot.set s (voteR r.cut hv), verdI { r with vot := r.vot.set s (voteR r.cut hv) } n⟩ : Rnd)) := by unfold Hid goneR; rw [if_neg (by rw [ho]; decide), if_pos hcs, if_pos he0]
  have hre : reachR s r = 1 := by unfold reachR; rw [if_neg (open_num ho), if_neg (by rw [ho]; decide), if_neg (fun q => q he0)]
  have hcs' : ((c : Int) == (s : Int)) = true := by rw [hcs]; simp
  clear hcs he0
  have HRe := fun (X : World) (hX : DkAt d n s l X) => hid_of' (reached_any hX hs hr)
  rw [show reachR s r = 1 from hre] at HRe
  have hsi : (s : Int) < 8 := by omega
  have hci : (c : Int) < 8 := by omega
  go_enter Tryd.func62, Tryd.ntmps62
  go_upto_region 1 with (refine wpL_alloc rfl _ rfl zRnd ?_)
  simp only [World.size_alloc]
  obtain ⟨hb0, hb0e⟩ : ∃ b, w.heap.size = b := ⟨_, rfl⟩
  have k1 : CkAt hb0 hv ((w.alloc (.cells (cv hv) 42)).alloc (.cells (cv (rc rnd0)) 44)) := by rw [← hb0e]; exact (CkAt.new w hh).alloc _
  have k2 : RowAt (hb0 + 1) (cv (rc rnd0)) 44 ((w.alloc (.cells (cv hv) 42)).alloc (.cells (cv (rc rnd0)) 44)) := by
    have := RowAt.news (w.alloc (.cells (cv hv) 42)) (cv (rc rnd0)) 44
    rw [World.size_alloc, hb0e] at this
    exact this
  have hB := bgo (below_one w (.cells (cv hv) 42)) (below_one _ (.cells (cv (rc rnd0)) 44))
  have hd1 := h.later hB
  have hsz : hb0 + 1 < ((w.alloc (.cells (cv hv) 42)).alloc (.cells (cv (rc rnd0)) 44)).heap.size := by simp [← hb0e]
  have hdl := h.lt
  clear h
  generalize (w.alloc (.cells (cv hv) 42)).alloc (.cells (cv (rc rnd0)) 44) = W1 at *
  rw [hb0e] at hdl ⊢
  have HB0 := hid_of' hb0e
  clear hb0e
  have hcs := hd1.rnd hrc
  go_upto_region 2 with (first | (refine ldRnd hr rfl _ rfl rfl hcs ?_) | (refine wpL_alloc rfl _ rfl zRnd ?_) | (refine wpL_stRow rfl _ _ _ rfl rfl rfl (RowAt.news W1 _ _) (rnd_size hr) (two_sz (by rw [rc_len hr, rc_len rnd0_ok])) (cv_one _) ?_))
  obtain ⟨rb, hrb⟩ : ∃ b, W1.heap.size = b := ⟨_, rfl⟩
  have hB2 := below_row (below_one W1 (.cells (cv (rc rnd0)) 44)) (Nat.le_refl W1.heap.size) (cv (rc r))
  have r2 := (RowAt.news W1 (cv (rc rnd0)) 44).rowI (cv (rc r))
  have H2 := hid_of' (And.intro (hd1.later hB2) (And.intro r2 (And.intro (k1.later hB2) (And.intro (k2.later hB2) (bgo hB hB2)))))
  clear r2 k1 k2 hB hd1 hcs hB2
  generalize (W1.alloc (.cells (cv (rc rnd0)) 44)).setRow W1.heap.size (cv (rc r)) = W2 at H2 ⊢
  rw [hrb] at H2 hsz ⊢
  clear hrb
  go_upto_region 3 with (first | (refine ldRnd hr rfl _ rfl rfl H2.out.2.1.in ?_) | (go_at_call 73; refine (HRe _ H2.out.1).out.mono ?_; rintro e w3 ⟨rfl, hb3⟩))
  have H3 := hid_of' (And.intro (H2.out.1.later hb3) (And.intro (H2.out.2.1.later hb3) (And.intro (H2.out.2.2.1.later hb3) (And.intro (H2.out.2.2.2.1.later hb3) (bgo H2.out.2.2.2.2 hb3)))))
  clear H2 hb3 HRe
  go_upto_region 5 with fail
  refine wp_region_tail 10 (by kernel_rfl) (fun _ => none) (by kernel_rfl) (by kernel_rfl) (by decide) (fun ii u X => match ii with
    | 0 => u = .pointer (some ⟨d, 0, none⟩)
    | 1 => u = .pointer (some ⟨d, 0, none⟩)
    | 2 => u = .pointer (some ⟨d, 1, none⟩)
    | 3 => u = .int .i64 (s : Int)
    | 4 => u = .pointer (some ⟨rb, 1, none⟩)
    | 5 => u = .agg (cv r.cut)
    | 6 => u = .agg (cv hv)
    | 7 => u = .int .i64 (voteR r.cut hv)
    | 8 => u = .pointer (some ⟨rb, 9, none⟩)
    | 9 => u = .pointer (some ⟨rb, 9 + s, none⟩)
    | _ => True) (fun _ => false) (fun _ _ _ _ h => by cases h) ?_ ?_ ?_
  · intro ii u X X' hR hb
    match ii, hR with
    | 0, h => exact h
    | 1, h => exact h
    | 2, h => exact h
    | 3, h => exact h
    | 4, h => exact h
    | 5, h => exact h
    | 6, h => exact h
    | 7, h => exact h
    | 8, h => exact h
    | 9, h => exact h
    | m + 10, h => exact h
  · intro ii o hi ho qq X vals hX hdep hoth
    have t0 : qq.tmps[0]? = some (.pointer (some ⟨d, 0, none⟩)) := by rw [hoth 0 (by kernel_rfl)]; rfl
    have t7 : qq.tmps[7]? = some (.pointer (some ⟨rb, 0, none⟩)) := by rw [hoth 7 (by kernel_rfl)]; rfl
    have t5 : qq.tmps[5]? = some (.pointer (some ⟨hb0, 0, none⟩)) := by rw [hoth 5 (by kernel_rfl)]; rfl
    match ii, hi, ho with
    | 0, _, ho =>
      simp only [List.getElem?_cons_zero, Option.some.injEq] at ho
      subst ho
      unfold Oper.wp
      simp [execOp, go_sem, t0]
      exact came _ rfl (Below.refl _ _) rfl (fun h => absurd h (by decide))
    | 1, _, ho =>
      simp only [List.getElem?_cons_succ, List.getElem?_cons_zero, Option.some.injEq] at ho
      subst ho
      obtain ⟨u0, e0⟩ := hdep ⟨0, .data⟩ (by simp) rfl _ 21 rfl rfl
      rw [show vals 0 = .pointer (some ⟨d, 0, none⟩) from e0] at u0
      unfold Oper.wp
      simp [execOp, go_sem, u0]
      exact came _ rfl (Below.refl _ _) rfl (fun h => absurd h (by decide))
    | 2, _, ho =>
      simp only [List.getElem?_cons_succ, List.getElem?_cons_zero, Option.some.injEq] at ho
      subst ho
      obtain ⟨u1, e1⟩ := hdep ⟨1, .data⟩ (by simp) rfl _ 22 rfl rfl
      rw [show vals 1 = .pointer (some ⟨d, 0, none⟩) from e1] at u1
      unfold Oper.wp
      simp [execOp, go_sem, u1]
      exact came _ rfl (Below.refl _ _) rfl (fun h => absurd h (by decide))
    | 3, _, ho =>
      simp only [List.getElem?_cons_succ, List.getElem?_cons_zero, Option.some.injEq] at ho
      subst ho
      obtain ⟨u2, e2⟩ := hdep ⟨2, .data⟩ (by simp) rfl _ 23 rfl rfl
      rw [show vals 2 = .pointer (some ⟨d, 1, none⟩) from e2] at u2
      have cc := (DkAt.later H3.out.1 hX).c1
      unfold Oper.wp
      simp [execOp, go_sem, u2, cc]
      exact came _ rfl (Below.refl _ _) rfl (fun h => absurd h (by decide))
    | 4, _, ho =>
      simp only [List.getElem?_cons_succ, List.getElem?_cons_zero, Option.some.injEq] at ho
      subst ho
      unfold Oper.wp
      simp [execOp, go_sem, t7]
      exact came _ rfl (Below.refl _ _) rfl (fun h => absurd h (by decide))
    | 5, _, ho =>
      simp only [List.getElem?_cons_succ, List.getElem?_cons_zero, Option.some.injEq] at ho
      subst ho
      obtain ⟨u4, e4⟩ := hdep ⟨4, .data⟩ (by simp) rfl _ 25 rfl rfl
      rw [show vals 4 = .pointer (some ⟨rb, 1, none⟩) from e4] at u4
      exact opCk hr.1 _ rfl (by simp [Act.eval, u4]) (rnd_cutIn hr (RowAt.later H3.out.2.1 hX)) (came _ rfl (Below.refl _ _) rfl (fun h => absurd h (by decide)))
    | 6, _, ho =>
      simp only [List.getElem?_cons_succ, List.getElem?_cons_zero, Option.some.injEq] at ho
      subst ho
      exact opCk hh _ rfl (by simp [Act.eval, t5]) (CkAt.later H3.out.2.2.1 hX).in (came _ rfl (Below.refl _ _) rfl (fun h => absurd h (by decide)))
    | 7, _, ho =>
      simp only [List.getElem?_cons_succ, List.getElem?_cons_zero, Option.some.injEq] at ho
      subst ho
      obtain ⟨u5, e5⟩ := hdep ⟨5, .data⟩ (by simp) rfl _ 26 rfl rfl
      rw [show vals 5 = .agg (cv r.cut) from e5] at u5
      obtain ⟨u6, e6⟩ := hdep ⟨6, .data⟩ (by simp) rfl _ 27 rfl rfl
      rw [show vals 6 = .agg (cv hv) from e6] at u6
      unfold Oper.wp
      simp [go_sem, u5, u6]
      refine (vote_any r.cut hv X hr.1 hh).mono ?_
      rintro r x1 ⟨rfl, hb1⟩
      exact came _ rfl hb1 rfl (fun h => absurd h (by decide))
    | 8, _, ho =>
      simp only [List.getElem?_cons_succ, List.getElem?_cons_zero, Option.some.injEq] at ho
      subst ho
      unfold Oper.wp
      simp [execOp, go_sem, t7]
      exact came _ rfl (Below.refl _ _) rfl (fun h => absurd h (by decide))
    | 9, _, ho =>
      simp only [List.getElem?_cons_succ, List.getElem?_cons_zero, Option.some.injEq] at ho
      subst ho
      obtain ⟨u8, e8⟩ := hdep ⟨8, .data⟩ (by simp) rfl _ 29 rfl rfl
      rw [show vals 8 = .pointer (some ⟨rb, 9, none⟩) from e8] at u8
      obtain ⟨u3, e3⟩ := hdep ⟨3, .data⟩ (by simp) rfl _ 24 rfl rfl
      rw [show vals 3 = .int .i64 (s : Int) from e3] at u3
      unfold Oper.wp
      simp [execOp, go_sem, u8, u3, hsi]
      exact came _ rfl (Below.refl _ _) rfl (fun h => absurd h (by decide))
    | m + 10, hi, _ => exact absurd hi (by omega)
  · intro vals X hX hR _
    have e7 : vals 7 = .int .i64 (voteR r.cut hv) := hR 7 (by decide)
    have e9 : vals 9 = .pointer (some ⟨rb, 9 + s, none⟩) := hR 9 (by decide)
    have q2 := RowAt.later H3.out.2.1 hX
    have c2 := q2.int (k := 9 + s) (by rw [rc_len hr]; omega)
    have f2 := q2.frz (9 + s)
    have p2 := q2.setI (9 + s) (voteR r.cut hv)
    rw [rc_setVot hr hs] at p2
    have H4 := hid_of' (And.intro (DkAt.ch (S := fun k => k = rb) (DkAt.later H3.out.1 hX) ((Ch.refl (fun k => k = rb) X).set (p := ⟨rb, 9 + s, none⟩) (.inl rfl) (.int .i64 (voteR r.cut hv))) (by omega)) (And.intro p2 (And.intro ((CkAt.later H3.out.2.2.1 hX).other ⟨rb, 9 + s, none⟩ (.int .i64 (voteR r.cut hv)) (by show ¬ hb0 = rb; omega)) (And.intro ((RowAt.later H3.out.2.2.2.1 hX).otherI ⟨rb, 9 + s, none⟩ (.int .i64 (voteR r.cut hv)) (by show ¬ hb0 + 1 = rb; omega)) ((bgo H3.out.2.2.2.2 hX).setCell (p := ⟨rb, 9 + s, none⟩) (by show w.heap.size ≤ rb; have := HB0.out; omega) (.int .i64 (voteR r.cut hv)))))))
    clear hR hX q2 p2
    simp only [List.drop, List.take, putAll, List.setIfInBounds_toArray, List.set_cons_succ, List.set_cons_zero, e7, e9]
    clear e7 e9
    go_upto_region 6 with fail
    clear c2 f2
    generalize X.setCell ⟨rb, 9 + s, none⟩ (.int .i64 (voteR r.cut hv)) = X4 at H4 ⊢
    have ho1 : Rnd.Ok { r with vot := r.vot.set s (voteR r.cut hv) } := ⟨hr.1, by show (r.vot.set s _).length = 8; rw [List.length_set]; exact hr.2⟩
    have c6 := H4.out.1.c1
    go_upto_region 7 with fail
    have H5 := H4
    clear H4 c6
    refine wp_region_tail 7 (by kernel_rfl) (fun _ => none) (by kernel_rfl) (by kernel_rfl) (by decide) (fun ii u X => match ii with
      | 0 => u = .agg (cv (rc { r with vot := r.vot.set s (voteR r.cut hv) }))
      | 1 => u = .pointer (some ⟨d, 0, none⟩)
      | 2 => u = .pointer (some ⟨d, 0, none⟩)
      | 3 => u = .pointer (some ⟨d, 0, none⟩)
      | 4 => u = .int .i64 n
      | 5 => u = .int .i64 (verdI { r with vot := r.vot.set s (voteR r.cut hv) } n)
      | 6 => u = .pointer (some ⟨rb, 17, none⟩)
      | _ => True) (fun _ => false) (fun _ _ _ _ h => by cases h) ?_ ?_ ?_
    · intro ii u X X' hR hb
      match ii, hR with
      | 0, h => exact h
      | 1, h => exact h
      | 2, h => exact h
      | 3, h => exact h
      | 4, h => exact h
      | 5, h => exact h
      | 6, h => exact h
      | m + 7, h => exact h
    · intro ii o hi ho qq X vals hX hdep hoth
      have t0 : qq.tmps[0]? = some (.pointer (some ⟨d, 0, none⟩)) := by rw [hoth 0 (by kernel_rfl)]; rfl
      have t7 : qq.tmps[7]? = some (.pointer (some ⟨rb, 0, none⟩)) := by rw [hoth 7 (by kernel_rfl)]; rfl
      match ii, hi, ho with
      | 0, _, ho =>
        simp only [List.getElem?_cons_zero, Option.some.injEq] at ho
        subst ho
        exact opRnd ho1 _ rfl (by simp [Act.eval, t7]) (RowAt.later H5.out.2.1 hX).in (came _ rfl (Below.refl _ _) rfl (fun h => absurd h (by decide)))
      | 1, _, ho =>
        simp only [List.getElem?_cons_succ, List.getElem?_cons_zero, Option.some.injEq] at ho
        subst ho
        unfold Oper.wp
        simp [execOp, go_sem, t0]
        exact came _ rfl (Below.refl _ _) rfl (fun h => absurd h (by decide))
      | 2, _, ho =>
        simp only [List.getElem?_cons_succ, List.getElem?_cons_zero, Option.some.injEq] at ho
        subst ho
        obtain ⟨u1, e1⟩ := hdep ⟨1, .data⟩ (by simp) rfl _ 38 rfl rfl
        rw [show vals 1 = .pointer (some ⟨d, 0, none⟩) from e1] at u1
        unfold Oper.wp
        simp [execOp, go_sem, u1]
        exact came _ rfl (Below.refl _ _) rfl (fun h => absurd h (by decide))
      | 3, _, ho =>
        simp only [List.getElem?_cons_succ, List.getElem?_cons_zero, Option.some.injEq] at ho
        subst ho
        obtain ⟨u2, e2⟩ := hdep ⟨2, .data⟩ (by simp) rfl _ 39 rfl rfl
        rw [show vals 2 = .pointer (some ⟨d, 0, none⟩) from e2] at u2
        unfold Oper.wp
        simp [execOp, go_sem, u2]
        exact came _ rfl (Below.refl _ _) rfl (fun h => absurd h (by decide))
      | 4, _, ho =>
        simp only [List.getElem?_cons_succ, List.getElem?_cons_zero, Option.some.injEq] at ho
        subst ho
        obtain ⟨u3, e3⟩ := hdep ⟨3, .data⟩ (by simp) rfl _ 40 rfl rfl
        rw [show vals 3 = .pointer (some ⟨d, 0, none⟩) from e3] at u3
        have cc := (DkAt.later H5.out.1 hX).c0
        unfold Oper.wp
        simp [execOp, go_sem, u3, cc]
        exact came _ rfl (Below.refl _ _) rfl (fun h => absurd h (by decide))
      | 5, _, ho =>
        simp only [List.getElem?_cons_succ, List.getElem?_cons_zero, Option.some.injEq] at ho
        subst ho
        obtain ⟨u0, e0⟩ := hdep ⟨0, .data⟩ (by simp) rfl _ 37 rfl rfl
        rw [show vals 0 = .agg (cv (rc { r with vot := r.vot.set s (voteR r.cut hv) })) from e0] at u0
        obtain ⟨u4, e4⟩ := hdep ⟨4, .data⟩ (by simp) rfl _ 41 rfl rfl
        rw [show vals 4 = .int .i64 n from e4] at u4
        unfold Oper.wp
        simp [go_sem, u0, u4]
        refine (verdict_any { r with vot := r.vot.set s (voteR r.cut hv) } n ho1 X).mono ?_
        rintro r x1 ⟨rfl, hb1⟩
        exact came _ rfl hb1 rfl (fun h => absurd h (by decide))
      | 6, _, ho =>
        simp only [List.getElem?_cons_succ, List.getElem?_cons_zero, Option.some.injEq] at ho
        subst ho
        unfold Oper.wp
        simp [execOp, go_sem, t7]
        exact came _ rfl (Below.refl _ _) rfl (fun h => absurd h (by decide))
      | m + 7, hi, _ => exact absurd hi (by omega)
    · intro vals Y hY hR _
      have e5 : vals 5 = .int .i64 (verdI { r with vot := r.vot.set s (voteR r.cut hv) } n) := hR 5 (by decide)
      have e6 : vals 6 = .pointer (some ⟨rb, 17, none⟩) := hR 6 (by decide)
      have q3 := RowAt.later H5.out.2.1 hY
      have c3 := q3.int (k := 17) (by rw [rc_len ho1]; decide)
      have f3 := q3.frz 17
      have p3 := q3.setI 17 (verdI { r with vot := r.vot.set s (voteR r.cut hv) } n)
      rw [rc_setDec ho1] at p3
      have H6 := hid_of' (And.intro (DkAt.ch (S := fun k => k = rb) (DkAt.later H5.out.1 hY) ((Ch.refl (fun k => k = rb) Y).set (p := ⟨rb, 17, none⟩) (.inl rfl) (.int .i64 (verdI { r with vot := r.vot.set s (voteR r.cut hv) } n))) (by omega)) (And.intro p3 (And.intro ((CkAt.later H5.out.2.2.1 hY).other ⟨rb, 17, none⟩ (.int .i64 (verdI { r with vot := r.vot.set s (voteR r.cut hv) } n)) (by show ¬ hb0 = rb; omega)) (And.intro ((RowAt.later H5.out.2.2.2.1 hY).otherI ⟨rb, 17, none⟩ (.int .i64 (verdI { r with vot := r.vot.set s (voteR r.cut hv) } n)) (by show ¬ hb0 + 1 = rb; omega)) ((bgo H5.out.2.2.2.2 hY).setCell (p := ⟨rb, 17, none⟩) (by show w.heap.size ≤ rb; have := HB0.out; omega) (.int .i64 (verdI { r with vot := r.vot.set s (voteR r.cut hv) } n)))))))
      clear hR hY q3 p3
      simp only [List.drop, List.take, putAll, List.setIfInBounds_toArray, List.set_cons_succ, List.set_cons_zero, e5, e6]
      clear e5 e6
      go_upto_region 8 with fail
      clear c3 f3
      generalize Y.setCell ⟨rb, 17, none⟩ (.int .i64 (verdI { r with vot := r.vot.set s (voteR r.cut hv) } n)) = Y6 at H6 ⊢
      have ho2 : Rnd.Ok (⟨r.num, r.cut, r.vot.set s (voteR r.cut hv), verdI { r with vot := r.vot.set s (voteR r.cut hv) } n⟩ : Rnd) := ho1
      have hne : ¬ rb = hb0 + 1 := by omega
      go_wp2_with (first | (refine ldRnd ho2 rfl _ rfl rfl H6.out.2.1.in ?_) | (refine wpL_stRow rfl _ _ _ rfl rfl rfl H6.out.2.2.2.1 (rnd_size ho2) (two_sz (by rw [rc_len ho2, rc_len rnd0_ok])) (cv_one _) ?_))
      exact bodyPost_ret (v := .agg (cv (rc (⟨r.num, r.cut, r.vot.set s (voteR r.cut hv), verdI { r with vot := r.vot.set s (voteR r.cut hv) } n⟩ : Rnd)))) (results_cell_row rfl _ _ (hb0 + 1) _ _ _ _ rfl (H6.out.2.2.2.1.rowI (cv (rc (⟨r.num, r.cut, r.vot.set s (voteR r.cut hv), verdI { r with vot := r.vot.set s (voteR r.cut hv) } n⟩ : Rnd)))) Tryd.underlying44 rfl (rnd_size ho2)) rfl ⟨by rw [HV.out], by
        have q := below_row H6.out.2.2.2.2 (g := hb0 + 1) (by have := HB0.out; omega) (cv (rc (⟨r.num, r.cut, r.vot.set s (voteR r.cut hv), verdI { r with vot := r.vot.set s (voteR r.cut hv) } n⟩ : Rnd)))
        exact q⟩

theorem goneOn_any {d : Nat} {n : Int} {s c : Nat} {l : List Rnd} {w : World} (h : DkAt d n s l w) (hs : s < 8) (hc : c < 8) {r : Rnd} (hrc : l[c]? = some r) {hv : List Int} (hh : hv.length = 8) :
    Calls Tryd.prog 62 #[.pointer (some ⟨d, 0, none⟩), .int .i64 (c : Int), .agg (cv hv)] w fun e w' => e = .returned (.agg (cv (rc (goneR n s c hv r)))) ∧ Below w.heap.size w w' := by
  have hr := h.2.2 r (List.mem_of_getElem? hrc)
  cases ho : openR r
  · by_cases hn : r.num < 1
    · exact goneOn_closed h hs hc hrc hh ho (v := 0) (if_pos hn) rfl rfl
    · exact goneOn_closed h hs hc hrc hh ho (v := 3) (by unfold reachR; rw [if_neg hn, if_pos ho]) rfl rfl
  · by_cases hv0 : en r.vot s = 0
    · by_cases hcs : c = s
      · exact goneOn_newOwn h hs hc hrc hh ho hv0 hcs
      · exact goneOn_new h hs hc hrc hh ho hv0 hcs
    · by_cases hcs : c = s
      · exact goneOn_votedOwn h hs hc hrc hh ho hv0 hcs
      · exact goneOn_voted h hs hc hrc hh ho hv0 hcs
theorem goneR_ok {n : Int} {s c : Nat} {hv : List Int} {r : Rnd} (h : r.Ok) : (goneR n s c hv r).Ok := by
  have h1 : ∀ x : Int, Rnd.Ok { r with vot := r.vot.set s x } := fun x => ⟨h.1, by show (r.vot.set s x).length = 8; rw [List.length_set]; exact h.2⟩
  unfold goneR
  split
  · exact h
  · split
    · split
      · exact h1 _
      · exact h
    · split
      · exact h1 _
      · exact h
end Go.Proofs.YtfgcljpiidhfpaaDoor
