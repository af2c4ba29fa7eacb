
/-
  barrowlaw07.XformSwap: two operations in the other order.
-/
import Derived.Test.YtbcilnbjhjepgabDoorXr3
import Derived.Test.YtbcilnbjhjepgabDoorXb1
import Derived.Great.BuildSlice
namespace Go.Proofs.YtbcilnbjhjepgabDoor
open Go.RowKit
set_option maxRecDepth 100000

/-- Two operations in the other order. -/
def swO (a b : Xo) : Xo × Xo × Bool := if (bkO b a).2 = true then ((bkO b a).1, tO a (bkO b a).1, true) else (a, b, false)
theorem k2_row {g : Nat} (w : World) (c : Array Value) : K2 g g w (w.setRow g c) := ⟨rfl, rfl, rfl, by simp, fun k _ h _ => setRow_other w g k c h⟩
theorem RowAt.row_other {g h : Nat} {cs c : Array Value} {t : TypeId} {w : World} (hr : RowAt h cs t w) (hn : ¬ h = g) : RowAt h cs t (w.setRow g c) := (setRow_other w g h c hn).trans hr
theorem results_ooB {fn : Func} {p q u : Tmp} {tmps : Array Value} {w : World} {g h : Nat} {e e' : Xo} (hf : fn.results = #[.cell p 24, .cell q 24, .tmp u]) (hp : tmps.getD p undef = .pointer (some ⟨g, 0, none⟩)) (hq : tmps.getD q undef = .pointer (some ⟨h, 0, none⟩)) (hg : RowAt g (ov e) 24 w) (hh : RowAt h (ov e') 24 w) :
    (results fn tmps).run Tryd.prog w = .ok (.tuple #[.agg (ov e), .agg (ov e'), tmps.getD u undef]) w := by
  have hp' : tmps[p]?.getD undef = .pointer (some ⟨g, 0, none⟩) := by simpa using hp
  have hq' : tmps[q]?.getD undef = .pointer (some ⟨h, 0, none⟩) := by simpa using hq
  simp [results, hf, hp', hq', asAddr, run_loadVar_row w g _ _ _ _ _ hg Tryd.underlying24 rfl (o_size e), run_loadVar_row w h _ _ _ _ _ hh Tryd.underlying24 rfl (o_size e')]

set_option maxHeartbeats 2000000 in
theorem swapX_any (a b : Xo) (w : World) (ha0 : -9223372036854775808 ≤ a.p) (hb0 : 0 ≤ b.p) (hb1 : b.p ≤ 9223372036854775807) : Calls Tryd.prog 17 #[.agg (ov a), .agg (ov b)] w fun r w' => r = .returned (.tuple #[.agg (ov (swO a b).1), .agg (ov (swO a b).2.1), .bool (swO a b).2.2]) ∧ Below w.heap.size w w' := by
  have r0 : RowAt w.heap.size (ov a) 24 ((((w.alloc (.cells (ov a) 24)).alloc (.cells (ov b) 24)).alloc (.cells #[.int .i64 0, .int .i64 0, .int .i32 0, .int .i64 0] 24)).alloc (.cells #[.int .i64 0, .int .i64 0, .int .i32 0, .int .i64 0] 24)) := ((row_new w _ _).later (below_two _ _ _)).later (below_one _ _)
  have r1 : RowAt (w.heap.size + 1) (ov b) 24 ((((w.alloc (.cells (ov a) 24)).alloc (.cells (ov b) 24)).alloc (.cells #[.int .i64 0, .int .i64 0, .int .i32 0, .int .i64 0] 24)).alloc (.cells #[.int .i64 0, .int .i64 0, .int .i32 0, .int .i64 0] 24)) := ((row_new2 w _ _ _).later (below_one _ _)).later (below_one _ _)
  have r2 : RowAt (w.heap.size + 1 + 1) #[.int .i64 0, .int .i64 0, .int .i32 0, .int .i64 0] 24 ((((w.alloc (.cells (ov a) 24)).alloc (.cells (ov b) 24)).alloc (.cells #[.int .i64 0, .int .i64 0, .int .i32 0, .int .i64 0] 24)).alloc (.cells #[.int .i64 0, .int .i64 0, .int .i32 0, .int .i64 0] 24)) := (row_new3 w (.cells (ov a) 24) (.cells (ov b) 24) #[.int .i64 0, .int .i64 0, .int .i32 0, .int .i64 0] 24).later (below_one _ _)
  have r3 : RowAt (w.heap.size + 1 + 1 + 1) #[.int .i64 0, .int .i64 0, .int .i32 0, .int .i64 0] 24 ((((w.alloc (.cells (ov a) 24)).alloc (.cells (ov b) 24)).alloc (.cells #[.int .i64 0, .int .i64 0, .int .i32 0, .int .i64 0] 24)).alloc (.cells #[.int .i64 0, .int .i64 0, .int .i32 0, .int .i64 0] 24)) := by
    have := row_new (((w.alloc (.cells (ov a) 24)).alloc (.cells (ov b) 24)).alloc (.cells #[.int .i64 0, .int .i64 0, .int .i32 0, .int .i64 0] 24)) #[.int .i64 0, .int .i64 0, .int .i32 0, .int .i64 0] 24
    rw [World.size_alloc, World.size_alloc, World.size_alloc] at this
    exact this
  have hB : Below w.heap.size w ((((w.alloc (.cells (ov a) 24)).alloc (.cells (ov b) 24)).alloc (.cells #[.int .i64 0, .int .i64 0, .int .i32 0, .int .i64 0] 24)).alloc (.cells #[.int .i64 0, .int .i64 0, .int .i32 0, .int .i64 0] 24)) := bgo (below_three w (.cells (ov a) 24) (.cells (ov b) 24) (.cells #[.int .i64 0, .int .i64 0, .int .i32 0, .int .i64 0] 24)) (below_one _ _)
  go_enter Tryd.func17, Tryd.ntmps17
  go_upto_region 1 with fail
  generalize ((((w.alloc (.cells (ov a) 24)).alloc (.cells (ov b) 24)).alloc (.cells #[.int .i64 0, .int .i64 0, .int .i32 0, .int .i64 0] 24)).alloc (.cells #[.int .i64 0, .int .i64 0, .int .i32 0, .int .i64 0] 24)) = W at r0 r1 r2 r3 hB ⊢
  have HB := hid_of' (fun x => backX_any b a x hb0 hb1)
  obtain ⟨⟨X, ok⟩, eX⟩ : ∃ x, bkO b a = x := ⟨_, rfl⟩
  rw [eX] at HB
  go_upto_region 2 with (first | (refine wpL_loadO rfl (.tmp 3) rfl rfl r1.in ?_; go_simp) | (refine wpL_loadO rfl (.tmp 2) rfl rfl r0.in ?_; go_simp) | (go_at_call 10; refine (HB.out _).mono ?_; clear HB; rintro r w2 ⟨rfl, hbw⟩) | (refine wpL_storeO (e := X) rfl _ _ rfl rfl rfl (row_new w2 _ _) ?_))
  have r7 := (row_new w2 #[.int .i64 0, .int .i64 0, .int .i32 0, .int .i64 0] 24).put (ov X)
  have hbn : Below W.heap.size W ((w2.alloc (.cells #[.int .i64 0, .int .i64 0, .int .i32 0, .int .i64 0] 24)).setRow w2.heap.size (ov X)) := bgo hbw (below_row (below_one w2 _) (Nat.le_refl _) _)
  have l2 := Nat.lt_of_lt_of_le r2.lt hbw.size
  have l3 := Nat.lt_of_lt_of_le r3.lt hbw.size
  generalize (w2.alloc (.cells #[.int .i64 0, .int .i64 0, .int .i32 0, .int .i64 0] 24)).setRow w2.heap.size (ov X) = w3 at r7 hbn ⊢
  generalize w2.heap.size = g7 at r7 l2 l3 ⊢
  replace hB := bgo hB hbn
  replace r0 := r0.later hbn
  replace r1 := r1.later hbn
  replace r2 := r2.later hbn
  replace r3 := r3.later hbn
  clear hbw hbn w2
  cases ok with
  | false =>
    have hv : Hid (swO a b = (a, b, false)) := by show _ = _; unfold swO; rw [eX]; rfl
    go_upto_region 3 with fail
    refine wp_region_once 3 (by kernel_rfl) (fun _ => none) (by kernel_rfl) (by kernel_rfl) (by decide) (fun i v x => match i with
      | 0 => v = .agg (ov a)
      | 1 => v = .agg (ov b)
      | 2 => RowAt (w.heap.size + 1 + 1) (ov a) 24 x
      | _ => True) (fun _ => false) (fun _ _ _ _ h => by cases h) 2 (by decide) (fun u v => K2 (w.heap.size + 1 + 1) (w.heap.size + 1 + 1) u v) (fun u v => K2 (w.heap.size + 1 + 1) (w.heap.size + 1 + 1) u v) (fun _ _ h hb => h.trans (K2.of hb)) (fun _ h => K2.of h) (fun _ _ h k => (K2.of h).trans k) (fun _ _ k => k.size) ?_ ?_ ?_ ?_
    · intro i v x x' hR hb
      match i, hR with
      | 0, h => exact h
      | 1, h => exact h
      | 2, h => exact h.later hb
      | m + 3, h => exact h
    · intro i v x x' hne hR hb
      match i, hne, hR with
      | 0, hne, h => exact h
      | 1, hne, h => exact h
      | 2, hne, h => exact absurd rfl hne
      | m + 3, _, h => exact h
    · intro i o hi ho q x vals hX hC hdep hoth
      have t2 : q.tmps[2]? = some (.pointer (some ⟨w.heap.size, 0, none⟩)) := by rw [hoth 2 (by kernel_rfl)]; rfl
      have t3 : q.tmps[3]? = some (.pointer (some ⟨w.heap.size + 1, 0, none⟩)) := by rw [hoth 3 (by kernel_rfl)]; rfl
      have t4 : q.tmps[4]? = some (.pointer (some ⟨w.heap.size + 1 + 1, 0, none⟩)) := by rw [hoth 4 (by kernel_rfl)]; rfl
      match i, hi, ho, hC with
      | 0, _, ho, hC =>
        simp only [List.getElem?_cons_zero, Option.some.injEq] at ho
        subst ho
        exact opw_loadO _ rfl (by simp [Act.eval, t2]) (r0.in.k2 hX (by omega) (by omega)) (cameB _ rfl (by decide) (Below.refl _ _) rfl (fun h => absurd h (by decide)))
      | 1, _, ho, hC =>
        simp only [List.getElem?_cons_succ, List.getElem?_cons_zero, Option.some.injEq] at ho
        subst ho
        exact opw_loadO _ rfl (by simp [Act.eval, t3]) (r1.in.k2 hX (by omega) (by omega)) (cameB _ rfl (by decide) (Below.refl _ _) rfl (fun h => absurd h (by decide)))
      | 2, _, ho, hC =>
        simp only [List.getElem?_cons_succ, List.getElem?_cons_zero, Option.some.injEq] at ho
        subst ho
        obtain ⟨u0, e0⟩ := hdep ⟨0, .data⟩ (by simp) rfl _ 17 rfl rfl
        rw [show vals 0 = .agg (ov a) from e0] at u0
        have hs2 : RowAt (w.heap.size + 1 + 1) #[.int .i64 0, .int .i64 0, .int .i32 0, .int .i64 0] 24 x := r2.later (hC rfl)
        exact wp_store_row _ _ _ rfl (w.heap.size + 1 + 1) (ov a) (by simp [Act.eval, t4]) (by simp [Act.eval, u0]) _ _ hs2 (o_size a) rfl (by simp [Value.oneCell', ov]) (cameX _ rfl (k2_row _ _) (hs2.put _) rfl)
      | m + 3, hi, _, _ => exact absurd hi (by omega)
    · intro vals x hX hRv _
      have q0 : vals 0 = .agg (ov a) := hRv 0 (by decide)
      have q1 : vals 1 = .agg (ov b) := hRv 1 (by decide)
      have q2 : RowAt (w.heap.size + 1 + 1) (ov a) 24 x := hRv 2 (by decide)
      have q3 : RowAt (w.heap.size + 1 + 1 + 1) #[.int .i64 0, .int .i64 0, .int .i32 0, .int .i64 0] 24 x := r3.k2 hX (by omega) (by omega)
      have hBx : Below w.heap.size w x := K2.below hB hX (by omega) (by omega) hB.size
      simp only [List.take, List.drop, putAll, q0, q1]
      clear hRv q0 q1
      try simp only [List.setIfInBounds_toArray, List.set_cons_succ, List.set_cons_zero]
      go_wp2_with (refine wpL_storeO (e := b) rfl _ _ rfl rfl rfl q3 ?_)
      exact bodyPost_ret (results_ooB (fn := Tryd.f17) (p := 4) (q := 5) (u := 6) rfl rfl rfl (q2.row_other (by omega)) (q3.put _)) rfl ⟨by rw [hv.out]; rfl, below_row hBx (by omega) _⟩
  | true =>
    have hv : Hid (swO a b = (X, tO a X, true)) := by show _ = _; unfold swO; rw [eX]; rfl
    go_upto_region 4 with fail
    refine wp_region_tail 4 (by kernel_rfl) (fun _ => none) (by kernel_rfl) (by kernel_rfl) (by decide) (fun i v x => match i with
      | 0 => v = .agg (ov X)
      | 1 => v = .agg (ov a)
      | 2 => v = .agg (ov X)
      | 3 => v = .agg (ov (tO a X))
      | _ => True) (fun _ => false) (fun _ _ _ _ h => by cases h) ?_ ?_ ?_
    · intro i v x x' hR hb
      match i, hR with
      | 0, h => exact h
      | 1, h => exact h
      | 2, h => exact h
      | 3, h => exact h
      | m + 4, h => exact h
    · intro i o hi ho q x vals hX hdep hoth
      have t2 : q.tmps[2]? = some (.pointer (some ⟨w.heap.size, 0, none⟩)) := by rw [hoth 2 (by kernel_rfl)]; rfl
      have t7 : q.tmps[7]? = some (.pointer (some ⟨g7, 0, none⟩)) := by rw [hoth 7 (by kernel_rfl)]; rfl
      match i, hi, ho with
      | 0, _, ho =>
        simp only [List.getElem?_cons_zero, Option.some.injEq] at ho
        subst ho
        exact opw_loadO _ rfl (by simp [Act.eval, t7]) (r7.in.later hX) (came _ rfl (Below.refl _ _) rfl (fun h => absurd h (by decide)))
      | 1, _, ho =>
        simp only [List.getElem?_cons_succ, List.getElem?_cons_zero, Option.some.injEq] at ho
        subst ho
        exact opw_loadO _ rfl (by simp [Act.eval, t2]) (r0.in.later hX) (came _ rfl (Below.refl _ _) rfl (fun h => absurd h (by decide)))
      | 2, _, ho =>
        simp only [List.getElem?_cons_succ, List.getElem?_cons_zero, Option.some.injEq] at ho
        subst ho
        exact opw_loadO _ rfl (by simp [Act.eval, t7]) (r7.in.later hX) (came _ rfl (Below.refl _ _) rfl (fun h => absurd h (by decide)))
      | 3, _, ho =>
        simp only [List.getElem?_cons_succ, List.getElem?_cons_zero, Option.some.injEq] at ho
        subst ho
        obtain ⟨u1, e1⟩ := hdep ⟨1, .data⟩ (by simp) rfl _ 20 rfl rfl
        rw [show vals 1 = .agg (ov a) from e1] at u1
        obtain ⟨u2, e2⟩ := hdep ⟨2, .data⟩ (by simp) rfl _ 21 rfl rfl
        rw [show vals 2 = .agg (ov X) from e2] at u2
        unfold Oper.wp
        simp [go_sem, u1, u2]
        refine (tX_any a X x (by omega)).mono ?_
        rintro r x1 ⟨rfl, hb1⟩
        exact came _ rfl hb1 rfl (fun h => absurd h (by decide))
      | m + 4, hi, _ => exact absurd hi (by omega)
    · intro vals x hX hRv _
      have q0 : vals 0 = .agg (ov X) := hRv 0 (by decide)
      have q3 : vals 3 = .agg (ov (tO a X)) := hRv 3 (by decide)
      replace r2 := r2.later hX
      replace r3 := r3.later hX
      replace hB := bgo hB hX
      simp only [List.take, List.drop, putAll, q0, q3]
      clear hRv q0 q3
      try simp only [List.setIfInBounds_toArray, List.set_cons_succ, List.set_cons_zero]
      go_wp2_with (first | (refine wpL_storeO (e := X) rfl (.tmp 4) _ rfl rfl rfl r2 ?_; go_simp) | (refine wpL_storeO (e := tO a X) rfl (.tmp 5) _ rfl rfl rfl (r3.row_other (by omega)) ?_))
      exact bodyPost_ret (results_ooB (fn := Tryd.f17) (p := 4) (q := 5) (u := 6) rfl rfl rfl ((r2.put (ov X)).row_other (by omega)) ((r3.row_other (by omega)).put _)) rfl ⟨by rw [hv.out]; rfl, below_row (below_row hB (by omega) _) (by omega) _⟩

set_option maxHeartbeats 2000000 in
theorem refSwap_any (a b : Xo) (w : World) (ha0 : 0 ≤ a.p) (ha1 : a.p ≤ 9223372036854775807) (hb0 : 0 ≤ b.p) (hb1 : b.p ≤ 9223372036854775807) : Calls Tryd.prog 18 #[.agg (ov a), .agg (ov b)] w fun r w' => r = .returned (.tuple #[.agg (ov (swO a b).1), .agg (ov (swO a b).2.1), .bool (swO a b).2.2]) ∧ Below w.heap.size w w' := by
  have r0 : RowAt w.heap.size (ov a) 24 ((((w.alloc (.cells (ov a) 24)).alloc (.cells (ov b) 24)).alloc (.cells #[.int .i64 0, .int .i64 0, .int .i32 0, .int .i64 0] 24)).alloc (.cells #[.int .i64 0, .int .i64 0, .int .i32 0, .int .i64 0] 24)) := ((row_new w _ _).later (below_two _ _ _)).later (below_one _ _)
  have r1 : RowAt (w.heap.size + 1) (ov b) 24 ((((w.alloc (.cells (ov a) 24)).alloc (.cells (ov b) 24)).alloc (.cells #[.int .i64 0, .int .i64 0, .int .i32 0, .int .i64 0] 24)).alloc (.cells #[.int .i64 0, .int .i64 0, .int .i32 0, .int .i64 0] 24)) := ((row_new2 w _ _ _).later (below_one _ _)).later (below_one _ _)
  have r2 : RowAt (w.heap.size + 1 + 1) #[.int .i64 0, .int .i64 0, .int .i32 0, .int .i64 0] 24 ((((w.alloc (.cells (ov a) 24)).alloc (.cells (ov b) 24)).alloc (.cells #[.int .i64 0, .int .i64 0, .int .i32 0, .int .i64 0] 24)).alloc (.cells #[.int .i64 0, .int .i64 0, .int .i32 0, .int .i64 0] 24)) := (row_new3 w (.cells (ov a) 24) (.cells (ov b) 24) #[.int .i64 0, .int .i64 0, .int .i32 0, .int .i64 0] 24).later (below_one _ _)
  have r3 : RowAt (w.heap.size + 1 + 1 + 1) #[.int .i64 0, .int .i64 0, .int .i32 0, .int .i64 0] 24 ((((w.alloc (.cells (ov a) 24)).alloc (.cells (ov b) 24)).alloc (.cells #[.int .i64 0, .int .i64 0, .int .i32 0, .int .i64 0] 24)).alloc (.cells #[.int .i64 0, .int .i64 0, .int .i32 0, .int .i64 0] 24)) := by
    have := row_new (((w.alloc (.cells (ov a) 24)).alloc (.cells (ov b) 24)).alloc (.cells #[.int .i64 0, .int .i64 0, .int .i32 0, .int .i64 0] 24)) #[.int .i64 0, .int .i64 0, .int .i32 0, .int .i64 0] 24
    rw [World.size_alloc, World.size_alloc, World.size_alloc] at this
    exact this
  have hB : Below w.heap.size w ((((w.alloc (.cells (ov a) 24)).alloc (.cells (ov b) 24)).alloc (.cells #[.int .i64 0, .int .i64 0, .int .i32 0, .int .i64 0] 24)).alloc (.cells #[.int .i64 0, .int .i64 0, .int .i32 0, .int .i64 0] 24)) := bgo (below_three w (.cells (ov a) 24) (.cells (ov b) 24) (.cells #[.int .i64 0, .int .i64 0, .int .i32 0, .int .i64 0] 24)) (below_one _ _)
  go_enter Tryd.func18, Tryd.ntmps18
  go_upto_region 1 with fail
  generalize ((((w.alloc (.cells (ov a) 24)).alloc (.cells (ov b) 24)).alloc (.cells #[.int .i64 0, .int .i64 0, .int .i32 0, .int .i64 0] 24)).alloc (.cells #[.int .i64 0, .int .i64 0, .int .i32 0, .int .i64 0] 24)) = W at r0 r1 r2 r3 hB ⊢
  have HB := hid_of' (fun x => refBack_any b a x hb0 hb1 ha0)
  obtain ⟨⟨X, ok⟩, eX⟩ : ∃ x, bkO b a = x := ⟨_, rfl⟩
  rw [eX] at HB
  go_upto_region 2 with (first | (refine wpL_loadO rfl (.tmp 3) rfl rfl r1.in ?_; go_simp) | (refine wpL_loadO rfl (.tmp 2) rfl rfl r0.in ?_; go_simp) | (go_at_call 11; refine (HB.out _).mono ?_; clear HB; rintro r w2 ⟨rfl, hbw⟩) | (refine wpL_storeO (e := X) rfl _ _ rfl rfl rfl (row_new w2 _ _) ?_))
  have r7 := (row_new w2 #[.int .i64 0, .int .i64 0, .int .i32 0, .int .i64 0] 24).put (ov X)
  have hbn : Below W.heap.size W ((w2.alloc (.cells #[.int .i64 0, .int .i64 0, .int .i32 0, .int .i64 0] 24)).setRow w2.heap.size (ov X)) := bgo hbw (below_row (below_one w2 _) (Nat.le_refl _) _)
  have l2 := Nat.lt_of_lt_of_le r2.lt hbw.size
  have l3 := Nat.lt_of_lt_of_le r3.lt hbw.size
  generalize (w2.alloc (.cells #[.int .i64 0, .int .i64 0, .int .i32 0, .int .i64 0] 24)).setRow w2.heap.size (ov X) = w3 at r7 hbn ⊢
  generalize w2.heap.size = g7 at r7 l2 l3 ⊢
  replace hB := bgo hB hbn
  replace r0 := r0.later hbn
  replace r1 := r1.later hbn
  replace r2 := r2.later hbn
  replace r3 := r3.later hbn
  clear hbw hbn w2
  cases ok with
  | false =>
    have hv : Hid (swO a b = (a, b, false)) := by show _ = _; unfold swO; rw [eX]; rfl
    go_upto_region 3 with fail
    refine wp_region_once 3 (by kernel_rfl) (fun _ => none) (by kernel_rfl) (by kernel_rfl) (by decide) (fun i v x => match i with
      | 0 => v = .agg (ov a)
      | 1 => v = .agg (ov b)
      | 2 => RowAt (w.heap.size + 1 + 1) (ov a) 24 x
      | _ => True) (fun _ => false) (fun _ _ _ _ h => by cases h) 2 (by decide) (fun u v => K2 (w.heap.size + 1 + 1) (w.heap.size + 1 + 1) u v) (fun u v => K2 (w.heap.size + 1 + 1) (w.heap.size + 1 + 1) u v) (fun _ _ h hb => h.trans (K2.of hb)) (fun _ h => K2.of h) (fun _ _ h k => (K2.of h).trans k) (fun _ _ k => k.size) ?_ ?_ ?_ ?_
    · intro i v x x' hR hb
      match i, hR with
      | 0, h => exact h
      | 1, h => exact h
      | 2, h => exact h.later hb
      | m + 3, h => exact h
    · intro i v x x' hne hR hb
      match i, hne, hR with
      | 0, hne, h => exact h
      | 1, hne, h => exact h
      | 2, hne, h => exact absurd rfl hne
      | m + 3, _, h => exact h
    · intro i o hi ho q x vals hX hC hdep hoth
      have t2 : q.tmps[2]? = some (.pointer (some ⟨w.heap.size, 0, none⟩)) := by rw [hoth 2 (by kernel_rfl)]; rfl
      have t3 : q.tmps[3]? = some (.pointer (some ⟨w.heap.size + 1, 0, none⟩)) := by rw [hoth 3 (by kernel_rfl)]; rfl
      have t4 : q.tmps[4]? = some (.pointer (some ⟨w.heap.size + 1 + 1, 0, none⟩)) := by rw [hoth 4 (by kernel_rfl)]; rfl
      match i, hi, ho, hC with
      | 0, _, ho, hC =>
        simp only [List.getElem?_cons_zero, Option.some.injEq] at ho
        subst ho
        exact opw_loadO _ rfl (by simp [Act.eval, t2]) (r0.in.k2 hX (by omega) (by omega)) (cameB _ rfl (by decide) (Below.refl _ _) rfl (fun h => absurd h (by decide)))
      | 1, _, ho, hC =>
        simp only [List.getElem?_cons_succ, List.getElem?_cons_zero, Option.some.injEq] at ho
        subst ho
        exact opw_loadO _ rfl (by simp [Act.eval, t3]) (r1.in.k2 hX (by omega) (by omega)) (cameB _ rfl (by decide) (Below.refl _ _) rfl (fun h => absurd h (by decide)))
      | 2, _, ho, hC =>
        simp only [List.getElem?_cons_succ, List.getElem?_cons_zero, Option.some.injEq] at ho
        subst ho
        obtain ⟨u0, e0⟩ := hdep ⟨0, .data⟩ (by simp) rfl _ 17 rfl rfl
        rw [show vals 0 = .agg (ov a) from e0] at u0
        have hs2 : RowAt (w.heap.size + 1 + 1) #[.int .i64 0, .int .i64 0, .int .i32 0, .int .i64 0] 24 x := r2.later (hC rfl)
        exact wp_store_row _ _ _ rfl (w.heap.size + 1 + 1) (ov a) (by simp [Act.eval, t4]) (by simp [Act.eval, u0]) _ _ hs2 (o_size a) rfl (by simp [Value.oneCell', ov]) (cameX _ rfl (k2_row _ _) (hs2.put _) rfl)
      | m + 3, hi, _, _ => exact absurd hi (by omega)
    · intro vals x hX hRv _
      have q0 : vals 0 = .agg (ov a) := hRv 0 (by decide)
      have q1 : vals 1 = .agg (ov b) := hRv 1 (by decide)
      have q2 : RowAt (w.heap.size + 1 + 1) (ov a) 24 x := hRv 2 (by decide)
      have q3 : RowAt (w.heap.size + 1 + 1 + 1) #[.int .i64 0, .int .i64 0, .int .i32 0, .int .i64 0] 24 x := r3.k2 hX (by omega) (by omega)
      have hBx : Below w.heap.size w x := K2.below hB hX (by omega) (by omega) hB.size
      simp only [List.take, List.drop, putAll, q0, q1]
      clear hRv q0 q1
      try simp only [List.setIfInBounds_toArray, List.set_cons_succ, List.set_cons_zero]
      go_wp2_with (refine wpL_storeO (e := b) rfl _ _ rfl rfl rfl q3 ?_)
      exact bodyPost_ret (results_ooB (fn := Tryd.f18) (p := 4) (q := 5) (u := 6) rfl rfl rfl (q2.row_other (by omega)) (q3.put _)) rfl ⟨by rw [hv.out]; rfl, below_row hBx (by omega) _⟩
  | true =>
    have hv : Hid (swO a b = (X, tO a X, true)) := by show _ = _; unfold swO; rw [eX]; rfl
    go_upto_region 4 with fail
    refine wp_region_tail 4 (by kernel_rfl) (fun _ => none) (by kernel_rfl) (by kernel_rfl) (by decide) (fun i v x => match i with
      | 0 => v = .agg (ov X)
      | 1 => v = .agg (ov a)
      | 2 => v = .agg (ov X)
      | 3 => v = .agg (ov (tO a X))
      | _ => True) (fun _ => false) (fun _ _ _ _ h => by cases h) ?_ ?_ ?_
    · intro i v x x' hR hb
      match i, hR with
      | 0, h => exact h
      | 1, h => exact h
      | 2, h => exact h
      | 3, h => exact h
      | m + 4, h => exact h
    · intro i o hi ho q x vals hX hdep hoth
      have t2 : q.tmps[2]? = some (.pointer (some ⟨w.heap.size, 0, none⟩)) := by rw [hoth 2 (by kernel_rfl)]; rfl
      have t7 : q.tmps[7]? = some (.pointer (some ⟨g7, 0, none⟩)) := by rw [hoth 7 (by kernel_rfl)]; rfl
      match i, hi, ho with
      | 0, _, ho =>
        simp only [List.getElem?_cons_zero, Option.some.injEq] at ho
        subst ho
        exact opw_loadO _ rfl (by simp [Act.eval, t7]) (r7.in.later hX) (came _ rfl (Below.refl _ _) rfl (fun h => absurd h (by decide)))
      | 1, _, ho =>
        simp only [List.getElem?_cons_succ, List.getElem?_cons_zero, Option.some.injEq] at ho
        subst ho
        exact opw_loadO _ rfl (by simp [Act.eval, t2]) (r0.in.later hX) (came _ rfl (Below.refl _ _) rfl (fun h => absurd h (by decide)))
      | 2, _, ho =>
        simp only [List.getElem?_cons_succ, List.getElem?_cons_zero, Option.some.injEq] at ho
        subst ho
        exact opw_loadO _ rfl (by simp [Act.eval, t7]) (r7.in.later hX) (came _ rfl (Below.refl _ _) rfl (fun h => absurd h (by decide)))
      | 3, _, ho =>
        simp only [List.getElem?_cons_succ, List.getElem?_cons_zero, Option.some.injEq] at ho
        subst ho
        obtain ⟨u1, e1⟩ := hdep ⟨1, .data⟩ (by simp) rfl _ 20 rfl rfl
        rw [show vals 1 = .agg (ov a) from e1] at u1
        obtain ⟨u2, e2⟩ := hdep ⟨2, .data⟩ (by simp) rfl _ 21 rfl rfl
        rw [show vals 2 = .agg (ov X) from e2] at u2
        unfold Oper.wp
        simp [go_sem, u1, u2]
        refine (refT_any a X x (by omega) (by omega)).mono ?_
        rintro r x1 ⟨rfl, hb1⟩
        exact came _ rfl hb1 rfl (fun h => absurd h (by decide))
      | m + 4, hi, _ => exact absurd hi (by omega)
    · intro vals x hX hRv _
      have q0 : vals 0 = .agg (ov X) := hRv 0 (by decide)
      have q3 : vals 3 = .agg (ov (tO a X)) := hRv 3 (by decide)
      replace r2 := r2.later hX
      replace r3 := r3.later hX
      replace hB := bgo hB hX
      simp only [List.take, List.drop, putAll, q0, q3]
      clear hRv q0 q3
      try simp only [List.setIfInBounds_toArray, List.set_cons_succ, List.set_cons_zero]
      go_wp2_with (first | (refine wpL_storeO (e := X) rfl (.tmp 4) _ rfl rfl rfl r2 ?_; go_simp) | (refine wpL_storeO (e := tO a X) rfl (.tmp 5) _ rfl rfl rfl (r3.row_other (by omega)) ?_))
      exact bodyPost_ret (results_ooB (fn := Tryd.f18) (p := 4) (q := 5) (u := 6) rfl rfl rfl ((r2.put (ov X)).row_other (by omega)) ((r3.row_other (by omega)).put _)) rfl ⟨by rw [hv.out]; rfl, below_row (below_row hB (by omega) _) (by omega) _⟩
end Go.Proofs.YtbcilnbjhjepgabDoor
namespace Go.Proofs.YtbcilnbjhjepgabDoor
open Go.RowKit
set_option maxRecDepth 100000

section
variable {ops : Array Oper} {rest : List Oper} {o : Oper} {A : Act} {w : World} {Q : Exit → Act → World → Prop}
theorem wpL_bs2 (hgd : o.guard = none) (x y : Operand) (ho : o.op = .buildSlice 22 2 #[(0, x), (1, y)]) {a b : Xo} (hx : A.eval x = .agg (ov a)) (hy : A.eval y = .agg (ov b))
    (k : ∀ w' g, SlO w' (.slice (some ⟨g, 0, none⟩) 2 2) [a, b] → Below w.heap.size w w' → wpList Tryd.prog ops Q rest (A.put o.dst (.slice (some ⟨g, 0, none⟩) 2 2)) w') : wpList Tryd.prog ops Q (o :: rest) A w := by
  have hs : (Tryd.prog.info? 24).isSome = true := by kernel_rfl
  have sz : ((Tryd.prog.info? 24).get hs).size = 4 := by kernel_rfl
  have e : ((#[(0, x), (1, y)] : Array (Nat × Operand)).map fun (i, x) => (i, A.eval x)).toList = [(0, .agg (ov a)), (1, .agg (ov b))] := by
    simp only [List.map_toArray, List.map_cons, List.map_nil, hx, hy]
  exact wpList_buildSlice hgd _ 24 2 _ ho (ocells [a, b]).toArray ((Tryd.prog.info? 24).get hs) (.agg #[.int .i64 0, .int .i64 0, .int .i32 0, .int .i64 0]) (by kernel_rfl) (Option.some_get hs).symm (by kernel_rfl) (by rw [sz]; decide) (by rw [sz]; decide) (by rw [e]; kernel_rfl) (k _ _ (sov_new w a b).1 (below_one _ _))
theorem wpL_storeP (hgd : o.guard = none) (x y : Operand) (ho : o.op = .store 24 x y) {w1 : World} (hx : A.eval x = .pointer (some ⟨w1.heap.size, 0, none⟩)) {e : Xo} (hy : A.eval y = .agg (ov e))
    (k : ∀ w', RowAt w1.heap.size (ov e) 24 w' → RowAt (w1.heap.size + 1) #[.int .i64 0, .int .i64 0, .int .i32 0, .int .i64 0] 24 w' → Below w1.heap.size w1 w' → wpList Tryd.prog ops Q rest (A.put o.dst undef) w') : wpList Tryd.prog ops Q (o :: rest) A ((w1.alloc (.cells #[.int .i64 0, .int .i64 0, .int .i32 0, .int .i64 0] 24)).alloc (.cells #[.int .i64 0, .int .i64 0, .int .i32 0, .int .i64 0] 24)) := by
  have h1 := (row_new w1 #[.int .i64 0, .int .i64 0, .int .i32 0, .int .i64 0] 24).later (below_one _ (.cells #[.int .i64 0, .int .i64 0, .int .i32 0, .int .i64 0] 24))
  exact wpL_storeO hgd x y ho hx hy h1 (k _ (h1.put _) ((row_new2 w1 _ _ _).row_other (by omega)) (below_row (below_two w1 _ _) (Nat.le_refl _) _))
end
theorem sw_false {a b x y : Xo} (h : swO a b = (x, y, false)) : x = a ∧ y = b := by
  unfold swO at h
  split at h
  · simp at h
  · simp at h; exact ⟨h.1.symm, h.2.symm⟩
theorem sw_true {a b x y : Xo} (h : swO a b = (x, y, true)) : bkO b a = (x, true) ∧ y = tO a x ∧ tO x a = b := by
  unfold swO at h
  split at h
  next q =>
    simp at h
    obtain ⟨h1, h2⟩ := h
    subst h1
    refine ⟨?_, h2.symm, t_back q⟩
    rw [← q]
  next => simp at h
theorem sw_back {a b x y : Xo} (h : swO a b = (x, y, true)) (ha : a.k = 1 ∨ a.k = 2 ∨ a.k = 3) (hp : a.p < 4611686018427387900) : swO x y = (a, b, true) := by
  obtain ⟨_, rfl, h3⟩ := sw_true h
  unfold swO
  rw [back_t ha hp, if_pos rfl, h3]

set_option maxHeartbeats 4000000 in
theorem xformSwap_all {W : World} {v : Value} {l0 : List El} {a0 b0 c0 : Xo} {n : Int} (hv : SlE W v l0) (hin : ∀ e ∈ l0, e.In) (hml : l0.length ≤ 9223372036854775807) (ha0 : a0.In) (hb0 : b0.In) (hn : In64 n) :
    Calls Tryd.prog 4 #[.agg (tv v a0 b0 c0 n)] W fun r w' => r = .returned (.bool true) ∧ Below W.heap.size W w' := by
  obtain ⟨va, vc, rfl⟩ := hv.form
  have HW := hid_of' wakes7_ok
  have r0 := row_new W (tv (.slice va l0.length vc) a0 b0 c0 n) 33
  have hB := below_one W (.cells (tv (.slice va l0.length vc) a0 b0 c0 n) 33)
  go_enter Tryd.func4, Tryd.ntmps4
  go_upto_region 1 with fail
  generalize W.alloc (.cells (tv (.slice va l0.length vc) a0 b0 c0 n) 33) = W1 at r0 hB ⊢
  generalize W.heap.size = g0 at r0 ⊢
  have HRw := hid_of' (row7_ok (hv.later hB) hin hml)
  have d0 : W1.cell? ⟨g0, 0, none⟩ = some (.slice va l0.length vc) := r0.cell 0
  go_upto_region 2 with (go_at_call 14; refine HRw.out.mono ?_; clear HRw; rintro r w2 ⟨u, out, k, rfl, hO, hR, hk, hb2⟩; obtain ⟨ua, uc, hu⟩ := hO.sl.form; subst hu)
  replace hB := bgo hB hb2
  replace r0 := r0.later hb2
  have hS := hO.sl
  clear hO hb2 d0 hv hin hml
  have d13 : w2.cell? ⟨g0, 13, none⟩ = some (.int .i64 n) := r0.cell 13
  have H3 := hid_of' (three_ok n hn w2)
  go_upto_region 3 with (first | (go_at_call 15; refine H3.out.mono ?_; clear H3; rintro r w3 ⟨ra, rb, rc, rfl, q1, q2, q3, q4, q5, q6, hb3⟩) | (refine wpL_store3 rfl _ _ rfl rfl rfl (row_new w3 _ _) ?_))
  have r3 := (row_new w3 #[.int .i64 0, .int .i64 0, .int .i64 0] 35).put #[.int .i64 (ra : Int), .int .i64 (rb : Int), .int .i64 (rc : Int)]
  have hb4 : Below w2.heap.size w2 ((w3.alloc (.cells #[.int .i64 0, .int .i64 0, .int .i64 0] 35)).setRow w3.heap.size #[.int .i64 (ra : Int), .int .i64 (rb : Int), .int .i64 (rc : Int)]) := bgo hb3 (below_row (below_one w3 _) (Nat.le_refl _) _)
  generalize (w3.alloc (.cells #[.int .i64 0, .int .i64 0, .int .i64 0] 35)).setRow w3.heap.size #[.int .i64 (ra : Int), .int .i64 (rb : Int), .int .i64 (rc : Int)] = w4 at r3 hb4 ⊢
  generalize w3.heap.size = g3 at r3 ⊢
  replace hB := bgo hB hb4
  replace r0 := r0.later hb4
  replace hS := hS.later hb4
  clear hb3 hb4 d13 w3
  have hol := hR.len
  have d3 : w4.cell? ⟨g3, 0, none⟩ = some (.int .i64 (ra : Int)) := r3.cell 0
  have HF := hid_of' (fun x => fit_ok a0 ha0 out.length ra (by omega) q1 x)
  go_upto_region 4 with (first | (refine wpL_loadO rfl _ rfl rfl (tv_a r0) ?_) | (go_at_call 16; refine (HF.out _).mono ?_; clear HF; rintro r w5 ⟨xa, pa, rfl, va1, va2, va3, hb5⟩) | (refine wpL_storeO (e := xa) rfl _ _ rfl rfl rfl (row_new w5 _ _) ?_))
  have rA := (row_new w5 #[.int .i64 0, .int .i64 0, .int .i32 0, .int .i64 0] 24).put (ov xa)
  have hb6 : Below w4.heap.size w4 ((w5.alloc (.cells #[.int .i64 0, .int .i64 0, .int .i32 0, .int .i64 0] 24)).setRow w5.heap.size (ov xa)) := bgo hb5 (below_row (below_one w5 _) (Nat.le_refl _) _)
  generalize (w5.alloc (.cells #[.int .i64 0, .int .i64 0, .int .i32 0, .int .i64 0] 24)).setRow w5.heap.size (ov xa) = w6 at rA hb6 ⊢
  generalize w5.heap.size = rAg at rA ⊢
  replace hB := bgo hB hb6
  replace r0 := r0.later hb6
  replace r3 := r3.later hb6
  replace hS := hS.later hb6
  clear hb5 hb6 d3 w5
  have d3 : w6.cell? ⟨g3, 1, none⟩ = some (.int .i64 (rb : Int)) := r3.cell 1
  by_cases k1 : xa.k = 1
  · have e1 : (xa.k == 1) = true := by rw [k1]; rfl
    have cA : w6.cell? ⟨rAg, 0, none⟩ = some (.int .i64 xa.k) := rA.cell 0
    go_upto_region 7 with fail
    clear cA e1
    have HF := hid_of' (fun x => fit_ok b0 hb0 (out.length + 1) rb (by omega) q2 x)
    go_upto_region 8 with (first | (refine wpL_loadO rfl _ rfl rfl (tv_b r0) ?_) | (go_at_call 16; refine (HF.out _).mono ?_; clear HF; rintro r w7 ⟨xb, pb, rfl, vb1, vb2, vb3, hb7⟩) | (refine wpL_storeO (e := xb) rfl _ _ rfl rfl rfl (row_new w7 _ _) ?_))
    have rB := (row_new w7 #[.int .i64 0, .int .i64 0, .int .i32 0, .int .i64 0] 24).put (ov xb)
    have hb8 : Below w6.heap.size w6 ((w7.alloc (.cells #[.int .i64 0, .int .i64 0, .int .i32 0, .int .i64 0] 24)).setRow w7.heap.size (ov xb)) := bgo hb7 (below_row (below_one w7 _) (Nat.le_refl _) _)
    generalize (w7.alloc (.cells #[.int .i64 0, .int .i64 0, .int .i32 0, .int .i64 0] 24)).setRow w7.heap.size (ov xb) = w8 at rB hb8 ⊢
    generalize w7.heap.size = rBg at rB ⊢
    replace hB := bgo hB hb8
    replace rA := rA.later hb8
    replace hS := hS.later hb8
    clear hb7 hb8 d3 w7 r0 r3
    cases pa with
    | false =>
      go_wp2_with (go_at_call 13; refine (HW.out _).mono ?_; rintro r w9 ⟨rfl, hb9⟩)
      go_ret
      exact ⟨rfl, bgo hB hb9⟩
    | true =>
      cases pb with
      | false =>
        go_wp2_with (go_at_call 13; refine (HW.out _).mono ?_; rintro r w9 ⟨rfl, hb9⟩)
        go_ret
        exact ⟨rfl, bgo hB hb9⟩
      | true =>
        have hva := va1 rfl
        have hvb := vb1 rfl
        have hpa := validO_place hva
        have hpb := validO_place hvb
        have hrr : xa.r ≠ xb.r := by omega
        have hra : 0 ≤ xa.r ∧ xa.r < 8 := by omega
        have hrb : 0 ≤ xb.r ∧ xb.r < 8 := by omega
        have h3 : ∀ e ∈ out, e.ep = 3 := fun e he => (hR.ep e he).1
        have hvb' : validO xb (stepL out xa ⟨0, 0, 0⟩).length = true := by
          rw [step_len hva, if_pos k1]
          exact hvb
        have bv := back_valid hva hvb' (by omega)
        have HX := hid_of' (fun x => swapX_any xa xb x (by omega) hpb.1 (by omega))
        have HS := hid_of' (fun x => refSwap_any xa xb x hpa.1 (by omega) hpb.1 (by omega))
        obtain ⟨⟨X, Y, ok⟩, eS⟩ : ∃ x, swO xa xb = x := ⟨_, rfl⟩
        rw [eS] at HX HS
        go_upto_region 10 with fail
        have HP : True := trivial
        go_upto_region 11 with (first | (refine wpL_loadO rfl (.tmp 5) rfl rfl rA.in ?_; go_simp) | (refine wpL_loadO rfl (.tmp 8) rfl rfl rB.in ?_; go_simp) | (go_at_call 17; refine (HX.out _).mono ?_; clear HX; rintro r w9 ⟨rfl, hbw⟩) | (refine wpL_storeP rfl (.tmp 10) _ rfl (w1 := w9) rfl (e := X) rfl ?_; intro wp rP rQ hbp; go_simp) | (refine wpL_storeO (e := Y) rfl (.tmp 11) _ rfl rfl rfl rQ ?_))
        clear HP
        have rX := rP.row_other (g := w9.heap.size + 1) (c := ov Y) (by omega)
        have rY := rQ.put (ov Y)
        have hbn : Below w8.heap.size w8 (wp.setRow (w9.heap.size + 1) (ov Y)) := bgo hbw (below_row hbp (by omega) _)
        generalize wp.setRow (w9.heap.size + 1) (ov Y) = w10 at rX rY hbn ⊢
        generalize w9.heap.size = gX at rX rY ⊢
        replace hB := bgo hB hbn
        replace hS := hS.later hbn
        replace rA := rA.later hbn
        replace rB := rB.later hbn
        clear hbw hbn rP rQ hbp wp w9
        have HP : True := trivial
        go_upto_region 12 with (first | (refine wpL_loadO rfl (.tmp 5) rfl rfl rA.in ?_; go_simp) | (refine wpL_loadO rfl (.tmp 8) rfl rfl rB.in ?_; go_simp) | (go_at_call 18; refine (HS.out _).mono ?_; clear HS; rintro r w9 ⟨rfl, hbw⟩) | (refine wpL_storeP rfl (.tmp 13) _ rfl (w1 := w9) rfl (e := X) rfl ?_; intro wp rP rQ hbp; go_simp) | (refine wpL_storeO (e := Y) rfl (.tmp 14) _ rfl rfl rfl rQ ?_))
        clear HP
        have rU := rP.row_other (g := w9.heap.size + 1) (c := ov Y) (by omega)
        have rV := rQ.put (ov Y)
        have hbn : Below w10.heap.size w10 (wp.setRow (w9.heap.size + 1) (ov Y)) := bgo hbw (below_row hbp (by omega) _)
        generalize wp.setRow (w9.heap.size + 1) (ov Y) = w12 at rU rV hbn ⊢
        generalize w9.heap.size = gU at rU rV ⊢
        replace hB := bgo hB hbn
        replace hS := hS.later hbn
        replace rA := rA.later hbn
        replace rB := rB.later hbn
        replace rX := rX.later hbn
        replace rY := rY.later hbn
        clear hbw hbn rP rQ hbp wp w9
        have hq1 := eq_O X
        have hq2 := eq_O Y
        cases ok with
        | false =>
          refine wp_region_cls0 ?_
          repeat (first | go_big_quiet_skip | (go_big_quiet_want; first | (refine quiet_load_in _ _ rfl rfl rX.in.cls Tryd.underlying24 rfl (o_size X) ?_; simp only [Act.put, List.setIfInBounds_toArray, List.set_cons_succ, List.set_cons_zero]; go_big_quiet_on) | (refine quiet_load_in _ _ rfl rfl rY.in.cls Tryd.underlying24 rfl (o_size Y) ?_; simp only [Act.put, List.setIfInBounds_toArray, List.set_cons_succ, List.set_cons_zero]; go_big_quiet_on) | (refine quiet_load_in _ _ rfl rfl rU.in.cls Tryd.underlying24 rfl (o_size X) ?_; simp only [Act.put, List.setIfInBounds_toArray, List.set_cons_succ, List.set_cons_zero]; go_big_quiet_on) | (refine quiet_load_in _ _ rfl rfl rV.in.cls Tryd.underlying24 rfl (o_size Y) ?_; simp only [Act.put, List.setIfInBounds_toArray, List.set_cons_succ, List.set_cons_zero]; go_big_quiet_on) | (go_big_quiet_op; first | go_big_quiet_on | go_big_quiet_call ((fail)))))
          refine wpQuiet_nil ?_
          rintro w1 ⟨s1, e1⟩
          have hb1 := wOf_below s1
          rw [← e1] at hb1
          clear e1 s1
          replace rA := rA.later hb1
          replace rB := rB.later hb1
          replace rX := rX.later hb1
          replace rY := rY.later hb1
          replace hB := bgo hB hb1
          clear hb1
          obtain ⟨e1, e2⟩ := sw_false eS
          subst e1 e2
          go_upto_region 15 with fail
          refine wp_region_cls0 ?_
          repeat (first | go_big_quiet_skip | (go_big_quiet_want; first | (refine quiet_load_in _ _ rfl rfl rX.in.cls Tryd.underlying24 rfl (o_size X) ?_; simp only [Act.put, List.setIfInBounds_toArray, List.set_cons_succ, List.set_cons_zero]; go_big_quiet_on) | (refine quiet_load_in _ _ rfl rfl rY.in.cls Tryd.underlying24 rfl (o_size Y) ?_; simp only [Act.put, List.setIfInBounds_toArray, List.set_cons_succ, List.set_cons_zero]; go_big_quiet_on) | (refine quiet_load_in _ _ rfl rfl rA.in.cls Tryd.underlying24 rfl (o_size X) ?_; simp only [Act.put, List.setIfInBounds_toArray, List.set_cons_succ, List.set_cons_zero]; go_big_quiet_on) | (refine quiet_load_in _ _ rfl rfl rB.in.cls Tryd.underlying24 rfl (o_size Y) ?_; simp only [Act.put, List.setIfInBounds_toArray, List.set_cons_succ, List.set_cons_zero]; go_big_quiet_on) | (go_big_quiet_op; first | go_big_quiet_on | go_big_quiet_call ((go_at_call 13; exact cls_of (HW.out _))))))
          refine wpQuiet_nil ?_
          rintro w1 ⟨s1, e1⟩
          have hb1 := wOf_below s1
          rw [← e1] at hb1
          clear e1 s1
          replace hB := bgo hB hb1
          clear hb1
          go_wp2
          go_ret
          exact ⟨rfl, hB⟩
        | true =>
          refine wp_region_cls0 ?_
          repeat (first | go_big_quiet_skip | (go_big_quiet_want; first | (refine quiet_load_in _ _ rfl rfl rX.in.cls Tryd.underlying24 rfl (o_size X) ?_; simp only [Act.put, List.setIfInBounds_toArray, List.set_cons_succ, List.set_cons_zero]; go_big_quiet_on) | (refine quiet_load_in _ _ rfl rfl rY.in.cls Tryd.underlying24 rfl (o_size Y) ?_; simp only [Act.put, List.setIfInBounds_toArray, List.set_cons_succ, List.set_cons_zero]; go_big_quiet_on) | (refine quiet_load_in _ _ rfl rfl rU.in.cls Tryd.underlying24 rfl (o_size X) ?_; simp only [Act.put, List.setIfInBounds_toArray, List.set_cons_succ, List.set_cons_zero]; go_big_quiet_on) | (refine quiet_load_in _ _ rfl rfl rV.in.cls Tryd.underlying24 rfl (o_size Y) ?_; simp only [Act.put, List.setIfInBounds_toArray, List.set_cons_succ, List.set_cons_zero]; go_big_quiet_on) | (go_big_quiet_op; first | go_big_quiet_on | go_big_quiet_call ((fail)))))
          refine wpQuiet_nil ?_
          rintro w1 ⟨s1, e1⟩
          have hb1 := wOf_below s1
          rw [← e1] at hb1
          clear e1 s1
          replace rA := rA.later hb1
          replace rB := rB.later hb1
          replace rX := rX.later hb1
          replace rY := rY.later hb1
          replace hS := hS.later hb1
          replace hB := bgo hB hb1
          clear hb1
          clear hq1 hq2 rU rV
          obtain ⟨ebk, eY, eb⟩ := sw_true eS
          have hback := sw_back eS va3 (by omega)
          rw [ebk] at bv
          have hvX : validO X out.length = true := bv rfl
          have hpX := validO_place hvX
          have hXr : X.r = xb.r := by
            have := back_r xb xa
            rw [ebk] at this
            exact this
          have as1 := two_ask hva hvX (by omega) (by rw [hXr]; exact hrr) hra (by rw [hXr]; exact hrb) h3
          have as2 := two_ask hvX hva (by omega) (by rw [hXr]; exact Ne.symm hrr) (by rw [hXr]; exact hrb) hra h3
          have hsame := hid_of' (two_same hva hvX (by omega) (by rw [hXr]; exact hrr))
          rw [eb] at as1 hsame
          rw [← eY] at as2 hsame
          have hYp : 0 ≤ Y.p ∧ Y.p ≤ 1000 := by
            rw [eY]
            rcases tO_is xa X with h | h <;> rw [h]
            · omega
            · show 0 ≤ xa.p + 1 ∧ xa.p + 1 ≤ 1000; omega
          have HX := hid_of' (fun x => swapX_any X Y x (by omega) hYp.1 (by omega))
          rw [hback] at HX
          clear bv ebk eY eb eS
          go_upto_region 16 with fail
          have HD := hid_of' (fun (x : World) (hX : Below w1.heap.size w1 x) (g : Nat) (h : SlO x (.slice (some ⟨g, 0, none⟩) 2 2) [xa, xb]) => done_ok (hS.later hX) h (show out.length + 2 ≤ 1000 by omega) hR.ok (by decide) (by decide) as1.1 as1.2)
          go_upto_region 17 with (first | (refine wpL_loadO rfl (.tmp 5) rfl rfl rA.in ?_; go_simp) | (refine wpL_loadO rfl (.tmp 8) rfl rfl rB.in ?_; go_simp) | (refine wpL_bs2 rfl _ _ rfl (a := xa) (b := xb) rfl rfl ?_; intro wb gb hsb hbb; go_simp) | (go_at_call 19; refine (HD.out wb hbb gb hsb).mono ?_; clear HD; rintro r w13 ⟨vq1, rfl, ho1, hbd⟩))
          have q1 := ho1.sl
          replace hbd := bgo hbb hbd
          replace hB := bgo hB hbd
          replace hS := hS.later hbd
          replace rA := rA.later hbd
          replace rB := rB.later hbd
          replace rX := rX.later hbd
          replace rY := rY.later hbd
          clear hbb hsb hbd ho1 wb
          have HD := hid_of' (fun (x : World) (hX : Below w13.heap.size w13 x) (g : Nat) (h : SlO x (.slice (some ⟨g, 0, none⟩) 2 2) [X, Y]) => done_ok (hS.later hX) h (show out.length + 2 ≤ 1000 by omega) hR.ok (by decide) (by decide) as2.1 as2.2)
          go_upto_region 18 with (first | (refine wpL_loadO rfl (.tmp 10) rfl rfl rX.in ?_; go_simp) | (refine wpL_loadO rfl (.tmp 11) rfl rfl rY.in ?_; go_simp) | (refine wpL_bs2 rfl _ _ rfl (a := X) (b := Y) rfl rfl ?_; intro wb gb hsb hbb; go_simp) | (go_at_call 19; refine (HD.out wb hbb gb hsb).mono ?_; clear HD; rintro r w14 ⟨vq2, rfl, ho2, hbd⟩))
          have q2 := ho2.sl
          replace hbd := bgo hbb hbd
          replace hB := bgo hB hbd
          replace hS := hS.later hbd
          replace rA := rA.later hbd
          replace rB := rB.later hbd
          replace rX := rX.later hbd
          replace rY := rY.later hbd
          replace q1 := q1.later hbd
          clear hbb hsb hbd ho2 wb
          have HP : True := trivial
          go_upto_region 19 with (first | (refine wpL_loadO rfl (.tmp 10) rfl rfl rX.in ?_; go_simp) | (refine wpL_loadO rfl (.tmp 11) rfl rfl rY.in ?_; go_simp) | (go_at_call 17; refine (HX.out _).mono ?_; clear HX; rintro r w9 ⟨rfl, hbw⟩) | (refine wpL_storeP rfl (.tmp 20) _ rfl (w1 := w9) rfl (e := xa) rfl ?_; intro wp rP rQ hbp; go_simp) | (refine wpL_storeO (e := xb) rfl (.tmp 21) _ rfl rfl rfl rQ ?_))
          clear HP
          have rC := rP.row_other (g := w9.heap.size + 1) (c := ov xb) (by omega)
          have rD := rQ.put (ov xb)
          have hbn : Below w14.heap.size w14 (wp.setRow (w9.heap.size + 1) (ov xb)) := bgo hbw (below_row hbp (by omega) _)
          generalize wp.setRow (w9.heap.size + 1) (ov xb) = w15 at rC rD hbn ⊢
          generalize w9.heap.size = gC at rC rD ⊢
          replace hB := bgo hB hbn
          replace hS := hS.later hbn
          replace rA := rA.later hbn
          replace rB := rB.later hbn
          replace q1 := q1.later hbn
          replace q2 := q2.later hbn
          clear hbw hbn rP rQ hbp wp w9
          rw [← hsame.out] at q2
          have hrl := (runs_len (named [xa, xb]) out as1.1).1
          have hn2 : (named [xa, xb]).length = 2 := rfl
          have HE := hid_of' (fun (x : World) (hX : Below w15.heap.size w15 x) => elements_eq (q1.later hX) (q2.later hX) (by omega))
          clear hrl hn2
          have hq1 := eq_O xa
          have hq2 := eq_O xb
          refine wp_region_cls0 ?_
          repeat (first | go_big_quiet_skip | (go_big_quiet_want; first | (refine quiet_load_in _ _ rfl rfl rC.in.cls Tryd.underlying24 rfl (o_size xa) ?_; simp only [Act.put, List.setIfInBounds_toArray, List.set_cons_succ, List.set_cons_zero]; go_big_quiet_on) | (refine quiet_load_in _ _ rfl rfl rD.in.cls Tryd.underlying24 rfl (o_size xb) ?_; simp only [Act.put, List.setIfInBounds_toArray, List.set_cons_succ, List.set_cons_zero]; go_big_quiet_on) | (refine quiet_load_in _ _ rfl rfl rA.in.cls Tryd.underlying24 rfl (o_size xa) ?_; simp only [Act.put, List.setIfInBounds_toArray, List.set_cons_succ, List.set_cons_zero]; go_big_quiet_on) | (refine quiet_load_in _ _ rfl rfl rB.in.cls Tryd.underlying24 rfl (o_size xb) ?_; simp only [Act.put, List.setIfInBounds_toArray, List.set_cons_succ, List.set_cons_zero]; go_big_quiet_on) | (go_big_quiet_op; first | go_big_quiet_on | go_big_quiet_call ((first | (go_at_call 20; exact cls_of (HE.out _ (wOf_below _))) | (go_at_call 13; exact cls_of (HW.out _)))))))
          refine wpQuiet_nil ?_
          rintro w1 ⟨s1, e1⟩
          have hb1 := wOf_below s1
          rw [← e1] at hb1
          clear e1 s1
          replace hB := bgo hB hb1
          clear hb1
          go_wp2
          go_ret
          exact ⟨rfl, hB⟩
  · have e1 : (xa.k == 1) = false := ne_beq k1
    have cA : w6.cell? ⟨rAg, 0, none⟩ = some (.int .i64 xa.k) := rA.cell 0
    go_upto_region 7 with fail
    clear cA e1
    have HF := hid_of' (fun x => fit_ok b0 hb0 (out.length) rb (by omega) q2 x)
    go_upto_region 8 with (first | (refine wpL_loadO rfl _ rfl rfl (tv_b r0) ?_) | (go_at_call 16; refine (HF.out _).mono ?_; clear HF; rintro r w7 ⟨xb, pb, rfl, vb1, vb2, vb3, hb7⟩) | (refine wpL_storeO (e := xb) rfl _ _ rfl rfl rfl (row_new w7 _ _) ?_))
    have rB := (row_new w7 #[.int .i64 0, .int .i64 0, .int .i32 0, .int .i64 0] 24).put (ov xb)
    have hb8 : Below w6.heap.size w6 ((w7.alloc (.cells #[.int .i64 0, .int .i64 0, .int .i32 0, .int .i64 0] 24)).setRow w7.heap.size (ov xb)) := bgo hb7 (below_row (below_one w7 _) (Nat.le_refl _) _)
    generalize (w7.alloc (.cells #[.int .i64 0, .int .i64 0, .int .i32 0, .int .i64 0] 24)).setRow w7.heap.size (ov xb) = w8 at rB hb8 ⊢
    generalize w7.heap.size = rBg at rB ⊢
    replace hB := bgo hB hb8
    replace rA := rA.later hb8
    replace hS := hS.later hb8
    clear hb7 hb8 d3 w7 r0 r3
    cases pa with
    | false =>
      go_wp2_with (go_at_call 13; refine (HW.out _).mono ?_; rintro r w9 ⟨rfl, hb9⟩)
      go_ret
      exact ⟨rfl, bgo hB hb9⟩
    | true =>
      cases pb with
      | false =>
        go_wp2_with (go_at_call 13; refine (HW.out _).mono ?_; rintro r w9 ⟨rfl, hb9⟩)
        go_ret
        exact ⟨rfl, bgo hB hb9⟩
      | true =>
        have hva := va1 rfl
        have hvb := vb1 rfl
        have hpa := validO_place hva
        have hpb := validO_place hvb
        have hrr : xa.r ≠ xb.r := by omega
        have hra : 0 ≤ xa.r ∧ xa.r < 8 := by omega
        have hrb : 0 ≤ xb.r ∧ xb.r < 8 := by omega
        have h3 : ∀ e ∈ out, e.ep = 3 := fun e he => (hR.ep e he).1
        have hvb' : validO xb (stepL out xa ⟨0, 0, 0⟩).length = true := by
          rw [step_len hva, if_neg k1]
          exact hvb
        have bv := back_valid hva hvb' (by omega)
        have HX := hid_of' (fun x => swapX_any xa xb x (by omega) hpb.1 (by omega))
        have HS := hid_of' (fun x => refSwap_any xa xb x hpa.1 (by omega) hpb.1 (by omega))
        obtain ⟨⟨X, Y, ok⟩, eS⟩ : ∃ x, swO xa xb = x := ⟨_, rfl⟩
        rw [eS] at HX HS
        go_upto_region 10 with fail
        have HP : True := trivial
        go_upto_region 11 with (first | (refine wpL_loadO rfl (.tmp 5) rfl rfl rA.in ?_; go_simp) | (refine wpL_loadO rfl (.tmp 8) rfl rfl rB.in ?_; go_simp) | (go_at_call 17; refine (HX.out _).mono ?_; clear HX; rintro r w9 ⟨rfl, hbw⟩) | (refine wpL_storeP rfl (.tmp 10) _ rfl (w1 := w9) rfl (e := X) rfl ?_; intro wp rP rQ hbp; go_simp) | (refine wpL_storeO (e := Y) rfl (.tmp 11) _ rfl rfl rfl rQ ?_))
        clear HP
        have rX := rP.row_other (g := w9.heap.size + 1) (c := ov Y) (by omega)
        have rY := rQ.put (ov Y)
        have hbn : Below w8.heap.size w8 (wp.setRow (w9.heap.size + 1) (ov Y)) := bgo hbw (below_row hbp (by omega) _)
        generalize wp.setRow (w9.heap.size + 1) (ov Y) = w10 at rX rY hbn ⊢
        generalize w9.heap.size = gX at rX rY ⊢
        replace hB := bgo hB hbn
        replace hS := hS.later hbn
        replace rA := rA.later hbn
        replace rB := rB.later hbn
        clear hbw hbn rP rQ hbp wp w9
        have HP : True := trivial
        go_upto_region 12 with (first | (refine wpL_loadO rfl (.tmp 5) rfl rfl rA.in ?_; go_simp) | (refine wpL_loadO rfl (.tmp 8) rfl rfl rB.in ?_; go_simp) | (go_at_call 18; refine (HS.out _).mono ?_; clear HS; rintro r w9 ⟨rfl, hbw⟩) | (refine wpL_storeP rfl (.tmp 13) _ rfl (w1 := w9) rfl (e := X) rfl ?_; intro wp rP rQ hbp; go_simp) | (refine wpL_storeO (e := Y) rfl (.tmp 14) _ rfl rfl rfl rQ ?_))
        clear HP
        have rU := rP.row_other (g := w9.heap.size + 1) (c := ov Y) (by omega)
        have rV := rQ.put (ov Y)
        have hbn : Below w10.heap.size w10 (wp.setRow (w9.heap.size + 1) (ov Y)) := bgo hbw (below_row hbp (by omega) _)
        generalize wp.setRow (w9.heap.size + 1) (ov Y) = w12 at rU rV hbn ⊢
        generalize w9.heap.size = gU at rU rV ⊢
        replace hB := bgo hB hbn
        replace hS := hS.later hbn
        replace rA := rA.later hbn
        replace rB := rB.later hbn
        replace rX := rX.later hbn
        replace rY := rY.later hbn
        clear hbw hbn rP rQ hbp wp w9
        have hq1 := eq_O X
        have hq2 := eq_O Y
        cases ok with
        | false =>
          refine wp_region_cls0 ?_
          repeat (first | go_big_quiet_skip | (go_big_quiet_want; first | (refine quiet_load_in _ _ rfl rfl rX.in.cls Tryd.underlying24 rfl (o_size X) ?_; simp only [Act.put, List.setIfInBounds_toArray, List.set_cons_succ, List.set_cons_zero]; go_big_quiet_on) | (refine quiet_load_in _ _ rfl rfl rY.in.cls Tryd.underlying24 rfl (o_size Y) ?_; simp only [Act.put, List.setIfInBounds_toArray, List.set_cons_succ, List.set_cons_zero]; go_big_quiet_on) | (refine quiet_load_in _ _ rfl rfl rU.in.cls Tryd.underlying24 rfl (o_size X) ?_; simp only [Act.put, List.setIfInBounds_toArray, List.set_cons_succ, List.set_cons_zero]; go_big_quiet_on) | (refine quiet_load_in _ _ rfl rfl rV.in.cls Tryd.underlying24 rfl (o_size Y) ?_; simp only [Act.put, List.setIfInBounds_toArray, List.set_cons_succ, List.set_cons_zero]; go_big_quiet_on) | (go_big_quiet_op; first | go_big_quiet_on | go_big_quiet_call ((fail)))))
          refine wpQuiet_nil ?_
          rintro w1 ⟨s1, e1⟩
          have hb1 := wOf_below s1
          rw [← e1] at hb1
          clear e1 s1
          replace rA := rA.later hb1
          replace rB := rB.later hb1
          replace rX := rX.later hb1
          replace rY := rY.later hb1
          replace hB := bgo hB hb1
          clear hb1
          obtain ⟨e1, e2⟩ := sw_false eS
          subst e1 e2
          go_upto_region 15 with fail
          refine wp_region_cls0 ?_
          repeat (first | go_big_quiet_skip | (go_big_quiet_want; first | (refine quiet_load_in _ _ rfl rfl rX.in.cls Tryd.underlying24 rfl (o_size X) ?_; simp only [Act.put, List.setIfInBounds_toArray, List.set_cons_succ, List.set_cons_zero]; go_big_quiet_on) | (refine quiet_load_in _ _ rfl rfl rY.in.cls Tryd.underlying24 rfl (o_size Y) ?_; simp only [Act.put, List.setIfInBounds_toArray, List.set_cons_succ, List.set_cons_zero]; go_big_quiet_on) | (refine quiet_load_in _ _ rfl rfl rA.in.cls Tryd.underlying24 rfl (o_size X) ?_; simp only [Act.put, List.setIfInBounds_toArray, List.set_cons_succ, List.set_cons_zero]; go_big_quiet_on) | (refine quiet_load_in _ _ rfl rfl rB.in.cls Tryd.underlying24 rfl (o_size Y) ?_; simp only [Act.put, List.setIfInBounds_toArray, List.set_cons_succ, List.set_cons_zero]; go_big_quiet_on) | (go_big_quiet_op; first | go_big_quiet_on | go_big_quiet_call ((go_at_call 13; exact cls_of (HW.out _))))))
          refine wpQuiet_nil ?_
          rintro w1 ⟨s1, e1⟩
          have hb1 := wOf_below s1
          rw [← e1] at hb1
          clear e1 s1
          replace hB := bgo hB hb1
          clear hb1
          go_wp2
          go_ret
          exact ⟨rfl, hB⟩
        | true =>
          refine wp_region_cls0 ?_
          repeat (first | go_big_quiet_skip | (go_big_quiet_want; first | (refine quiet_load_in _ _ rfl rfl rX.in.cls Tryd.underlying24 rfl (o_size X) ?_; simp only [Act.put, List.setIfInBounds_toArray, List.set_cons_succ, List.set_cons_zero]; go_big_quiet_on) | (refine quiet_load_in _ _ rfl rfl rY.in.cls Tryd.underlying24 rfl (o_size Y) ?_; simp only [Act.put, List.setIfInBounds_toArray, List.set_cons_succ, List.set_cons_zero]; go_big_quiet_on) | (refine quiet_load_in _ _ rfl rfl rU.in.cls Tryd.underlying24 rfl (o_size X) ?_; simp only [Act.put, List.setIfInBounds_toArray, List.set_cons_succ, List.set_cons_zero]; go_big_quiet_on) | (refine quiet_load_in _ _ rfl rfl rV.in.cls Tryd.underlying24 rfl (o_size Y) ?_; simp only [Act.put, List.setIfInBounds_toArray, List.set_cons_succ, List.set_cons_zero]; go_big_quiet_on) | (go_big_quiet_op; first | go_big_quiet_on | go_big_quiet_call ((fail)))))
          refine wpQuiet_nil ?_
          rintro w1 ⟨s1, e1⟩
          have hb1 := wOf_below s1
          rw [← e1] at hb1
          clear e1 s1
          replace rA := rA.later hb1
          replace rB := rB.later hb1
          replace rX := rX.later hb1
          replace rY := rY.later hb1
          replace hS := hS.later hb1
          replace hB := bgo hB hb1
          clear hb1
          clear hq1 hq2 rU rV
          obtain ⟨ebk, eY, eb⟩ := sw_true eS
          have hback := sw_back eS va3 (by omega)
          rw [ebk] at bv
          have hvX : validO X out.length = true := bv rfl
          have hpX := validO_place hvX
          have hXr : X.r = xb.r := by
            have := back_r xb xa
            rw [ebk] at this
            exact this
          have as1 := two_ask hva hvX (by omega) (by rw [hXr]; exact hrr) hra (by rw [hXr]; exact hrb) h3
          have as2 := two_ask hvX hva (by omega) (by rw [hXr]; exact Ne.symm hrr) (by rw [hXr]; exact hrb) hra h3
          have hsame := hid_of' (two_same hva hvX (by omega) (by rw [hXr]; exact hrr))
          rw [eb] at as1 hsame
          rw [← eY] at as2 hsame
          have hYp : 0 ≤ Y.p ∧ Y.p ≤ 1000 := by
            rw [eY]
            rcases tO_is xa X with h | h <;> rw [h]
            · omega
            · show 0 ≤ xa.p + 1 ∧ xa.p + 1 ≤ 1000; omega
          have HX := hid_of' (fun x => swapX_any X Y x (by omega) hYp.1 (by omega))
          rw [hback] at HX
          clear bv ebk eY eb eS
          go_upto_region 16 with fail
          have HD := hid_of' (fun (x : World) (hX : Below w1.heap.size w1 x) (g : Nat) (h : SlO x (.slice (some ⟨g, 0, none⟩) 2 2) [xa, xb]) => done_ok (hS.later hX) h (show out.length + 2 ≤ 1000 by omega) hR.ok (by decide) (by decide) as1.1 as1.2)
          go_upto_region 17 with (first | (refine wpL_loadO rfl (.tmp 5) rfl rfl rA.in ?_; go_simp) | (refine wpL_loadO rfl (.tmp 8) rfl rfl rB.in ?_; go_simp) | (refine wpL_bs2 rfl _ _ rfl (a := xa) (b := xb) rfl rfl ?_; intro wb gb hsb hbb; go_simp) | (go_at_call 19; refine (HD.out wb hbb gb hsb).mono ?_; clear HD; rintro r w13 ⟨vq1, rfl, ho1, hbd⟩))
          have q1 := ho1.sl
          replace hbd := bgo hbb hbd
          replace hB := bgo hB hbd
          replace hS := hS.later hbd
          replace rA := rA.later hbd
          replace rB := rB.later hbd
          replace rX := rX.later hbd
          replace rY := rY.later hbd
          clear hbb hsb hbd ho1 wb
          have HD := hid_of' (fun (x : World) (hX : Below w13.heap.size w13 x) (g : Nat) (h : SlO x (.slice (some ⟨g, 0, none⟩) 2 2) [X, Y]) => done_ok (hS.later hX) h (show out.length + 2 ≤ 1000 by omega) hR.ok (by decide) (by decide) as2.1 as2.2)
          go_upto_region 18 with (first | (refine wpL_loadO rfl (.tmp 10) rfl rfl rX.in ?_; go_simp) | (refine wpL_loadO rfl (.tmp 11) rfl rfl rY.in ?_; go_simp) | (refine wpL_bs2 rfl _ _ rfl (a := X) (b := Y) rfl rfl ?_; intro wb gb hsb hbb; go_simp) | (go_at_call 19; refine (HD.out wb hbb gb hsb).mono ?_; clear HD; rintro r w14 ⟨vq2, rfl, ho2, hbd⟩))
          have q2 := ho2.sl
          replace hbd := bgo hbb hbd
          replace hB := bgo hB hbd
          replace hS := hS.later hbd
          replace rA := rA.later hbd
          replace rB := rB.later hbd
          replace rX := rX.later hbd
          replace rY := rY.later hbd
          replace q1 := q1.later hbd
          clear hbb hsb hbd ho2 wb
          have HP : True := trivial
          go_upto_region 19 with (first | (refine wpL_loadO rfl (.tmp 10) rfl rfl rX.in ?_; go_simp) | (refine wpL_loadO rfl (.tmp 11) rfl rfl rY.in ?_; go_simp) | (go_at_call 17; refine (HX.out _).mono ?_; clear HX; rintro r w9 ⟨rfl, hbw⟩) | (refine wpL_storeP rfl (.tmp 20) _ rfl (w1 := w9) rfl (e := xa) rfl ?_; intro wp rP rQ hbp; go_simp) | (refine wpL_storeO (e := xb) rfl (.tmp 21) _ rfl rfl rfl rQ ?_))
          clear HP
          have rC := rP.row_other (g := w9.heap.size + 1) (c := ov xb) (by omega)
          have rD := rQ.put (ov xb)
          have hbn : Below w14.heap.size w14 (wp.setRow (w9.heap.size + 1) (ov xb)) := bgo hbw (below_row hbp (by omega) _)
          generalize wp.setRow (w9.heap.size + 1) (ov xb) = w15 at rC rD hbn ⊢
          generalize w9.heap.size = gC at rC rD ⊢
          replace hB := bgo hB hbn
          replace hS := hS.later hbn
          replace rA := rA.later hbn
          replace rB := rB.later hbn
          replace q1 := q1.later hbn
          replace q2 := q2.later hbn
          clear hbw hbn rP rQ hbp wp w9
          rw [← hsame.out] at q2
          have hrl := (runs_len (named [xa, xb]) out as1.1).1
          have hn2 : (named [xa, xb]).length = 2 := rfl
          have HE := hid_of' (fun (x : World) (hX : Below w15.heap.size w15 x) => elements_eq (q1.later hX) (q2.later hX) (by omega))
          clear hrl hn2
          have hq1 := eq_O xa
          have hq2 := eq_O xb
          refine wp_region_cls0 ?_
          repeat (first | go_big_quiet_skip | (go_big_quiet_want; first | (refine quiet_load_in _ _ rfl rfl rC.in.cls Tryd.underlying24 rfl (o_size xa) ?_; simp only [Act.put, List.setIfInBounds_toArray, List.set_cons_succ, List.set_cons_zero]; go_big_quiet_on) | (refine quiet_load_in _ _ rfl rfl rD.in.cls Tryd.underlying24 rfl (o_size xb) ?_; simp only [Act.put, List.setIfInBounds_toArray, List.set_cons_succ, List.set_cons_zero]; go_big_quiet_on) | (refine quiet_load_in _ _ rfl rfl rA.in.cls Tryd.underlying24 rfl (o_size xa) ?_; simp only [Act.put, List.setIfInBounds_toArray, List.set_cons_succ, List.set_cons_zero]; go_big_quiet_on) | (refine quiet_load_in _ _ rfl rfl rB.in.cls Tryd.underlying24 rfl (o_size xb) ?_; simp only [Act.put, List.setIfInBounds_toArray, List.set_cons_succ, List.set_cons_zero]; go_big_quiet_on) | (go_big_quiet_op; first | go_big_quiet_on | go_big_quiet_call ((first | (go_at_call 20; exact cls_of (HE.out _ (wOf_below _))) | (go_at_call 13; exact cls_of (HW.out _)))))))
          refine wpQuiet_nil ?_
          rintro w1 ⟨s1, e1⟩
          have hb1 := wOf_below s1
          rw [← e1] at hb1
          clear e1 s1
          replace hB := bgo hB hb1
          clear hb1
          go_wp2
          go_ret
          exact ⟨rfl, hB⟩
end Go.Proofs.YtbcilnbjhjepgabDoor
