
/-
  (*tree.Tree).Insert into an empty tree. tree.leafAt, (*tree.Tree).At; tree.passed, (*tree.Tree).Find.
-/
import Derived.Test.YtjalehlmldlooaaGreatDoorZap08
namespace Go.Proofs.YtjalehlmldlooaaGreatDoor
open Go.RowKit
set_option maxRecDepth 100000

set_option maxHeartbeats 1000000 in
theorem insert_none (b ch : Nat) (a : Option Addr) (c : Nat) (w : World) (h1 : RowAt b #[.int .i64 (ch : Int), .pointer none] 89 w) :
    Calls Tryz.prog 19 #[pv b, .int .i64 0, .slice a 0 c] w fun r w' => r = .returned .nilIface ∧ w' = w := by
  have HL := hid_of' (len_any (R := R0) (.inl ⟨rfl, h1⟩))
  unfold pv at *
  go_enter Tryz.func19, Tryz.ntmps19
  go_wp2_with (go_at_call 42; refine HL.out.mono ?_; rintro r w1 ⟨rfl, hw⟩; obtain rfl := hw.symm)
  go_ret
  exact ⟨rfl, rfl⟩

set_option maxHeartbeats 4000000 in
theorem insert_nil {R : Rows} (b ch : Nat) (l : List El) (u : Value) (w : World) (h1 : RowAt b #[.int .i64 (ch : Int), .pointer none] 89 w) (hu : SlE w u l) (hn : l.length ≤ 1073741824) (h0 : l ≠ []) (c1 : 1 ≤ ch) (c2 : ch ≤ 64) (hz : R.hi ≤ w.heap.size) :
    Calls Tryz.prog 19 #[pv b, .int .i64 0, u] w fun r w' => r = .returned .nilIface ∧ ∃ (w2 : World) (t : Nd), w' = w2.setCell ⟨b, 1, none⟩ (pv t.blk) ∧ Below w.heap.size w w2 ∧ t.At R w2 ∧ t.Full ∧ t.els = l := by
  obtain ⟨a', c', rfl⟩ := hu.form
  have hp : 0 < l.length := List.length_pos_iff.2 h0
  have hl0 : ((l.length : Int) == 0) = false := by rw [beq_eq_false_iff_ne]; omega
  have HL := hid_of' (len_any (R := R0) (.inl ⟨rfl, h1⟩))
  have HR := hid_of' (hasRoom_nil (ch := ch) 0 (l.length : Int) h1)
  have HC : Hid (∀ x, Below w.heap.size w x → _) := fun x hx => spliced_nil ch l _ x (hu.later hx) hn h0 c1 c2 (Nat.le_trans hz hx.size)
  have HN := hid_of' h1
  unfold pv at HL HR ⊢
  clear hu hp
  go_enter Tryz.func19, Tryz.ntmps19
  go_upto_region 7 with (first | (go_at_call 42; refine HL.out.mono ?_; rintro r w1 ⟨rfl, hw⟩; obtain rfl := hw.symm) | (go_at_call 44; refine HR.out.mono ?_; rintro r w1 ⟨rfl, hw⟩; obtain rfl := hw.symm))
  clear HL HR
  refine wp_region_tail 12 (by kernel_rfl) (fun _ => none) (by kernel_rfl) (by kernel_rfl) (by decide) (fun i v x => match i with
    | 0 => v = .pointer (some ⟨b, 0, none⟩)
    | 1 => v = .pointer (some ⟨b, 0, none⟩)
    | 2 => v = .pointer (some ⟨b, 0, none⟩)
    | 3 => v = .pointer (some ⟨b, 0, none⟩)
    | 4 => v = .int .i64 (ch : Int)
    | 5 => v = .pointer (some ⟨b, 0, none⟩)
    | 6 => v = .pointer (some ⟨b, 0, none⟩)
    | 7 => v = .pointer (some ⟨b, 1, none⟩)
    | 8 => v = .pointer none
    | 9 => v = .int .i64 0
    | 10 => v = .slice a' l.length c'
    | 11 => TreeOf R l (cutL (pkN ch l.length) l) v x
    | _ => True) (fun _ => false) (fun _ _ _ _ h => by cases h) ?_ ?_ ?_
  · intro i v x x' hR hb
    match i, hR with
    | 0, h => exact h
    | 1, h => exact h
    | 2, h => exact h
    | 3, h => exact h
    | 4, h => exact h
    | 5, h => exact h
    | 6, h => exact h
    | 7, h => exact h
    | 8, h => exact h
    | 9, h => exact h
    | 10, h => exact h
    | 11, h => exact TreeOf.later h hb
    | m + 12, h => exact h
  · intro i o hi ho q x vals hX hdep hoth
    have t0 : q.tmps[0]? = some (.pointer (some ⟨b, 0, none⟩)) := by rw [hoth 0 (by kernel_rfl)]; rfl
    have t1 : q.tmps[1]? = some (.int .i64 0) := by rw [hoth 1 (by kernel_rfl)]; rfl
    have t2 : q.tmps[2]? = some (.slice a' l.length c') := by rw [hoth 2 (by kernel_rfl)]; rfl
    match i, hi, ho with
    | 0, _, ho =>
      simp only [List.getElem?_cons_zero, Option.some.injEq] at ho
      subst ho
      unfold Oper.wp
      simp [execOp, go_sem, t0]
      exact came _ rfl (Below.refl _ _) rfl (fun h => absurd h (by decide))
    | 1, _, ho =>
      simp only [List.getElem?_cons_succ, List.getElem?_cons_zero, Option.some.injEq] at ho
      subst ho
      unfold Oper.wp
      simp [execOp, go_sem, t0]
      exact came _ rfl (Below.refl _ _) rfl (fun h => absurd h (by decide))
    | 2, _, ho =>
      simp only [List.getElem?_cons_succ, List.getElem?_cons_zero, Option.some.injEq] at ho
      subst ho
      obtain ⟨u1, e1⟩ := hdep ⟨1, .data⟩ (by simp) rfl _ 36 rfl rfl
      rw [show vals 1 = .pointer (some ⟨b, 0, none⟩) from e1] at u1
      unfold Oper.wp
      simp [execOp, go_sem, u1]
      exact came _ rfl (Below.refl _ _) rfl (fun h => absurd h (by decide))
    | 3, _, ho =>
      simp only [List.getElem?_cons_succ, List.getElem?_cons_zero, Option.some.injEq] at ho
      subst ho
      obtain ⟨u2, e2⟩ := hdep ⟨2, .data⟩ (by simp) rfl _ 37 rfl rfl
      rw [show vals 2 = .pointer (some ⟨b, 0, none⟩) from e2] at u2
      unfold Oper.wp
      simp [execOp, go_sem, u2]
      exact came _ rfl (Below.refl _ _) rfl (fun h => absurd h (by decide))
    | 4, _, ho =>
      simp only [List.getElem?_cons_succ, List.getElem?_cons_zero, Option.some.injEq] at ho
      subst ho
      obtain ⟨u3, e3⟩ := hdep ⟨3, .data⟩ (by simp) rfl _ 38 rfl rfl
      rw [show vals 3 = .pointer (some ⟨b, 0, none⟩) from e3] at u3
      have cc := (h1.later hX).cell 0
      unfold Oper.wp
      simp [execOp, go_sem, u3, cc]
      exact came _ rfl (Below.refl _ _) rfl (fun h => absurd h (by decide))
    | 5, _, ho =>
      simp only [List.getElem?_cons_succ, List.getElem?_cons_zero, Option.some.injEq] at ho
      subst ho
      unfold Oper.wp
      simp [execOp, go_sem, t0]
      exact came _ rfl (Below.refl _ _) rfl (fun h => absurd h (by decide))
    | 6, _, ho =>
      simp only [List.getElem?_cons_succ, List.getElem?_cons_zero, Option.some.injEq] at ho
      subst ho
      obtain ⟨u5, e5⟩ := hdep ⟨5, .data⟩ (by simp) rfl _ 40 rfl rfl
      rw [show vals 5 = .pointer (some ⟨b, 0, none⟩) from e5] at u5
      unfold Oper.wp
      simp [execOp, go_sem, u5]
      exact came _ rfl (Below.refl _ _) rfl (fun h => absurd h (by decide))
    | 7, _, ho =>
      simp only [List.getElem?_cons_succ, List.getElem?_cons_zero, Option.some.injEq] at ho
      subst ho
      obtain ⟨u6, e6⟩ := hdep ⟨6, .data⟩ (by simp) rfl _ 41 rfl rfl
      rw [show vals 6 = .pointer (some ⟨b, 0, none⟩) from e6] at u6
      unfold Oper.wp
      simp [execOp, go_sem, u6]
      exact came _ rfl (Below.refl _ _) rfl (fun h => absurd h (by decide))
    | 8, _, ho =>
      simp only [List.getElem?_cons_succ, List.getElem?_cons_zero, Option.some.injEq] at ho
      subst ho
      obtain ⟨u7, e7⟩ := hdep ⟨7, .data⟩ (by simp) rfl _ 42 rfl rfl
      rw [show vals 7 = .pointer (some ⟨b, 1, none⟩) from e7] at u7
      have cc := (h1.later hX).cell 1
      unfold Oper.wp
      simp [execOp, go_sem, u7, cc]
      exact came _ rfl (Below.refl _ _) rfl (fun h => absurd h (by decide))
    | 9, _, ho =>
      simp only [List.getElem?_cons_succ, List.getElem?_cons_zero, Option.some.injEq] at ho
      subst ho
      unfold Oper.wp
      simp [execOp, go_sem, t1]
      exact came _ rfl (Below.refl _ _) rfl (fun h => absurd h (by decide))
    | 10, _, ho =>
      simp only [List.getElem?_cons_succ, List.getElem?_cons_zero, Option.some.injEq] at ho
      subst ho
      unfold Oper.wp
      simp [execOp, go_sem, t2]
      exact came _ rfl (Below.refl _ _) rfl (fun h => absurd h (by decide))
    | 11, _, ho =>
      simp only [List.getElem?_cons_succ, List.getElem?_cons_zero, Option.some.injEq] at ho
      subst ho
      obtain ⟨u4, e4⟩ := hdep ⟨4, .data⟩ (by simp) rfl _ 39 rfl rfl
      rw [show vals 4 = .int .i64 (ch : Int) from e4] at u4
      obtain ⟨u8, e8⟩ := hdep ⟨8, .data⟩ (by simp) rfl _ 43 rfl rfl
      rw [show vals 8 = .pointer none from e8] at u8
      obtain ⟨u9, e9⟩ := hdep ⟨9, .data⟩ (by simp) rfl _ 44 rfl rfl
      rw [show vals 9 = .int .i64 0 from e9] at u9
      obtain ⟨u10, e10⟩ := hdep ⟨10, .data⟩ (by simp) rfl _ 45 rfl rfl
      rw [show vals 10 = .slice a' l.length c' from e10] at u10
      unfold Oper.wp
      simp [go_sem, u4, u8, u9, u10]
      refine (HC.out _ hX).mono ?_
      rintro r x1 ⟨v, rfl, hv, hb1⟩
      exact came _ rfl hb1 hv (fun h => absurd h (by decide))
    | m + 12, hi, _ => exact absurd hi (by omega)
  · intro vals x' hX hR _
    obtain ⟨t, k1, k2, k3, k4, _⟩ : TreeOf R l (cutL (pkN ch l.length) l) (vals 11) x' := hR 11 (by decide)
    have r0 : vals 0 = .pointer (some ⟨b, 0, none⟩) := hR 0 (by decide)
    have cc := (h1.later hX).cell 1
    have cf : x'.frozen? ⟨b, 1, none⟩ = false := Lib.frozen_of_heap (h1.later hX) 1
    simp only [List.take, List.drop, putAll, k1, r0, pv]
    go_wp2
    go_ret
    exact ⟨rfl, x', t, rfl, hX, k2, k3, k4⟩
end Go.Proofs.YtjalehlmldlooaaGreatDoor
namespace Go.Proofs.YtjalehlmldlooaaGreatDoor
open Go.RowKit
set_option maxRecDepth 100000

/-- Is it a leaf? -/
def Nd.isL : Nd → Bool
  | .leaf .. => true
  | .inner .. => false
set_option maxHeartbeats 400000 in
theorem isLeaf_any {R : Rows} {t : Nd} {w : World} (ht : t.At R w) : Calls Tryz.prog 62 #[pv t.blk] w fun r w' => r = .returned (.bool t.isL) ∧ w' = w := by
  cases t with
  | leaf b g o_ c l =>
    have c1 := ht.1.cell 0
    simp only [ndc] at c1
    unfold pv Nd.blk
    go_enter Tryz.func62, Tryz.ntmps62
    go_wp2
    go_ret
    exact ⟨rfl, rfl⟩
  | inner b x y =>
    have c1 := ht.1.cell 0
    simp only [ndc, pv] at c1
    unfold pv Nd.blk
    go_enter Tryz.func62, Tryz.ntmps62
    go_wp2
    go_ret
    exact ⟨rfl, rfl⟩
/-- The leaf in which a place lies, and where in it. -/
def Nd.leafAt : Nd → Nat → Value × Nat
  | .leaf _ g o_ c l, i => (.slice (some ⟨g, o_, none⟩) l.length c, i)
  | .inner _ x y, i => if i < x.els.length then x.leafAt i else y.leafAt (i - x.els.length)
theorem blk_row {R : Rows} {t : Nd} {w : World} (h : t.At R w) : ∃ lf rt leaf, RowAt t.blk (ndc lf rt leaf t.ht t.els.length (liveL t.els) (lineL t.els)) 125 w := h.row

set_option maxHeartbeats 2000000 in
theorem leafAt_any {R : Rows} (t : Nd) (i : Nat) (w : World) (ht : t.At R w) (hn : t.els.length ≤ 1073741824) (hi : i ≤ 1073741824) :
    Calls Tryz.prog 61 #[pv t.blk, .int .i64 (i : Int)] w fun r w' => r = .returned (.tuple #[(t.leafAt i).1, .int .i64 ((t.leafAt i).2 : Int)]) ∧ w' = w := by
  unfold pv
  go_enter Tryz.func61, Tryz.ntmps61
  go_wp2
  go_loopg [0, 1] t.ht (fun k v iv wr => ∃ (t' : Nd) (i' : Nat), k = t'.ht ∧ v = .pointer (some ⟨t'.blk, 0, none⟩) ∧ iv = .int .i64 (i' : Int) ∧ i' ≤ 1073741824 ∧ t'.At R w ∧ t'.els.length ≤ 1073741824 ∧ Hid (t.leafAt i = t'.leafAt i') ∧ wr = w)
  case atStart => exact ⟨t, i, rfl, rfl, rfl, hi, ht, hn, rfl, rfl⟩
  case round =>
    obtain ⟨t', i', hgk, rfl, rfl, hi', ht', hn', HQ, hw⟩ := hrel
    have hw' : w = wr := hw.symm
    subst hw'
    clear hw
    have HI := hid_of' (isLeaf_any ht')
    unfold pv at HI
    cases t' with
    | leaf b g o_ c l =>
      have c1 := ht'.1.cell 2
      simp only [ndc] at c1
      unfold Nd.blk at *
      unfold Nd.isL at HI
      go_wp2_with (go_at_call 62; refine HI.out.mono ?_; rintro r w1 ⟨rfl, hw⟩; obtain rfl := hw.symm)
      go_ret2
      rw [HQ.out]
      exact ⟨rfl, rfl⟩
    | inner b x y =>
      have d0 := ht'.1.cell 0
      have d1 := ht'.1.cell 1
      simp only [ndc, pv] at d0 d1
      obtain ⟨a1, a2, a3, hr⟩ := ht'.2.1.row
      have c1 : w.cell? ⟨x.blk, 4, none⟩ = some (.int .i64 (x.els.length : Int)) := hr.cell 4
      have hx : x.els.length ≤ 1073741824 ∧ y.els.length ≤ 1073741824 := by simp only [Nd.els, List.length_append] at hn'; omega
      have HX := hid_of' (show x.At R w ∧ y.At R w ∧ x.els.length ≤ 1073741824 ∧ y.els.length ≤ 1073741824 from ⟨ht'.2.1, ht'.2.2, hx⟩)
      have HK := hid_of' hgk
      have hxi : (x.els.length : Int) ≤ 1073741824 := by omega
      replace HQ : Hid (t.leafAt i = if i' < x.els.length then x.leafAt i' else y.leafAt (i' - x.els.length)) := HQ
      unfold Nd.blk at HI ⊢
      unfold Nd.isL at HI
      clear hgk ht' hn' hr a1 a2 a3 hx
      by_cases hlt : i' < x.els.length
      · have hli : (i' : Int) < (x.els.length : Int) := by omega
        rw [if_pos hlt] at HQ
        go_wp2_with (go_at_call 62; refine HI.out.mono ?_; rintro r w1 ⟨rfl, hw⟩; obtain rfl := hw.symm)
        go_roundg x.ht
        case measure => rw [HK.out]; simp only [Nd.ht]; omega
        case rel => exact ⟨x, i', rfl, rfl, rfl, hi', HX.out.1, HX.out.2.2.1, HQ, rfl⟩
      · have hli : ¬ (i' : Int) < (x.els.length : Int) := by omega
        rw [if_neg hlt] at HQ
        have hsub : (i' : Int) - (x.els.length : Int) = ((i' - x.els.length : Nat) : Int) := by omega
        go_wp2_with (go_at_call 62; refine HI.out.mono ?_; rintro r w1 ⟨rfl, hw⟩; obtain rfl := hw.symm)
        go_roundg y.ht
        case measure => rw [HK.out]; simp only [Nd.ht]; omega
        case rel => exact ⟨y, i' - x.els.length, rfl, rfl, by go_num, by omega, HX.out.2.1, HX.out.2.2.2, HQ, rfl⟩
theorem leafAt_spec {R : Rows} : ∀ (t : Nd) (i : Nat) (w : World), t.At R w → i < t.els.length → ∃ g o_ c l j, t.leafAt i = (.slice (some ⟨g, o_, none⟩) l.length c, j) ∧ ElsAt g o_ l w ∧ l[j]? = t.els[i]? ∧ j < l.length
  | .leaf b g o_ c l, i, w, h, hi => ⟨g, o_, c, l, i, rfl, h.2.1, rfl, hi⟩
  | .inner b x y, i, w, h, hi => by
    unfold Nd.leafAt
    simp only [Nd.els] at hi ⊢
    by_cases hlt : i < x.els.length
    · rw [if_pos hlt, List.getElem?_append_left hlt]
      exact leafAt_spec x i w h.2.1 hlt
    · rw [if_neg hlt, List.getElem?_append_right (by omega)]
      exact leafAt_spec y (i - x.els.length) w h.2.2 (by rw [List.length_append] at hi; omega)

theorem results_e2 {fn : Func} {p u : Tmp} {tmps : Array Value} {w : World} {g : Nat} {e : El} (h : fn.results = #[.cell p 49, .tmp u]) (hp : tmps.getD p undef = .pointer (some ⟨g, 0, none⟩)) (hg : RowAt g (ev e) 49 w) :
    (results fn tmps).run Tryz.prog w = .ok (.tuple #[.agg (ev e), tmps.getD u undef]) w := by
  have hp' : tmps[p]?.getD undef = .pointer (some ⟨g, 0, none⟩) := by simpa using hp
  simp [results, h, hp', asAddr, run_loadVar_row w g _ _ _ _ _ hg Tryz.underlying49 rfl (e_size e)]
set_option maxHeartbeats 2000000 in
/-- At, of a place that there is. -/
theorem at_ok {R : Rows} {b ch : Nat} {t : Nd} {w : World} (i : Nat) (e : El) (h1 : RowAt b #[.int .i64 (ch : Int), pv t.blk] 89 w) (h2 : t.At R w) (h3 : t.Full) (hn : t.els.length ≤ 1073741824) (he : t.els[i]? = some e) :
    Calls Tryz.prog 72 #[pv b, .int .i64 (i : Int)] w fun r w' => r = .returned (.tuple #[.agg (ev e), .nilIface]) ∧ Below w.heap.size w w' := by
  have hi : i < t.els.length := (List.getElem?_eq_some_iff.1 he).1
  obtain ⟨g, o_, c, l, j, q1, q2, q3, q4⟩ := leafAt_spec t i w h2 hi
  rw [he] at q3
  have hB := below_one w (.cells #[.int .i64 0, .int .i64 0, .int .i64 0, .int .i32 0, .int .i64 0] 49)
  have HL := hid_of' (len_any (b := b) (ch := ch) (.inr ⟨t, h1.later hB, h2.later hB, h3, rfl⟩))
  have HA := hid_of' (leafAt_any t i _ (h2.later hB) hn (by omega))
  rw [q1] at HA
  have cE := (q2.later hB) j e q3
  have c1 := (h1.later hB).cell 1
  simp only [pv] at c1
  unfold pv at *
  have e1 : ¬ (i : Int) < 0 := by omega
  have e2 : ¬ (t.els.length : Int) ≤ (i : Int) := by omega
  have e3 : (j : Int) < (l.length : Int) := by omega
  clear q1 q2 q3 he h2 h3 h1
  go_enter Tryz.func72, Tryz.ntmps72
  go_wp2_with (first | (go_at_call 42; refine HL.out.mono ?_; rintro r w1 ⟨rfl, hw⟩; obtain rfl := hw.symm) | (go_at_call 61; refine HA.out.mono ?_; rintro r w1 ⟨rfl, hw⟩; obtain rfl := hw.symm) | (refine wpL_loadE rfl _ rfl rfl cE ?_) | (refine wpL_storeE rfl _ _ rfl rfl rfl (row_new w _ _) ?_))
  exact bodyPost_ret (v := .tuple #[.agg (ev e), .nilIface]) (results_e2 (fn := Tryz.f72) (p := 4) (u := 5) rfl rfl ((row_new w _ _).put (ev e))) rfl ⟨rfl, below_row hB (by omega) _⟩
end Go.Proofs.YtjalehlmldlooaaGreatDoor
