
/-
  barrowlaw07.wakes.
-/
import Derived.Test.YtdihbgmjnfpppaaGreatDoorXf6
namespace Go.Proofs.YtdihbgmjnfpppaaGreatDoor
open Go.RowKit
set_option maxRecDepth 100000

def xa : Xo := ⟨1, 0, 97, 1⟩
def xb : Xo := ⟨1, 0, 98, 2⟩
def xl : List El := [⟨4, 1, 1, 97, 0⟩, ⟨4, 2, 1, 98, 0⟩]
theorem tX_is {a b c : Xo} (h : tO a b = c) (w : World) (hp : -9223372036854775808 ≤ a.p) : Calls Tryz.prog 37 #[.agg (ov a), .agg (ov b)] w fun r w' => r = .returned (.agg (ov c)) ∧ Below w.heap.size w w' := h ▸ tX_any a b w hp
theorem xl_is : runs [] (named [xb, xa]) = xl := rfl
theorem rowOk_nil (b : Int) : RowOk b [] := ⟨fun i j x y _ h => by simp at h, fun e he => by simp at he⟩
theorem in64_small {n : Int} (h0 : -1000 ≤ n) (h1 : n ≤ 1000) : In64 n := ⟨by omega, by omega⟩
theorem xs_ok : okS [] (named [xb, xa]) ∧ frS [] (named [xb, xa]) := by
  refine ⟨⟨by decide, by decide, trivial⟩, fr_of _ _ (fun e he => by simp at he) ?_ ?_⟩
  · simp [named, xa, xb]
  · intro z hz
    have h3 : z = (xb, ⟨4, 2, 1⟩) ∨ z = (xa, ⟨4, 1, 1⟩) := by simpa [named, xa, xb] using hz
    rcases h3 with rfl | rfl
    · exact ⟨in64_small (by decide) (by decide), in64_small (by decide) (by decide), in64_small (by decide) (by decide)⟩
    · exact ⟨in64_small (by decide) (by decide), in64_small (by decide) (by decide), in64_small (by decide) (by decide)⟩
/-- A list of two operations has been laid. -/
def SoV (a b : Xo) (v : Value) (x : World) : Prop := SlO x v [a, b] ∧ ∃ g : Nat, v = .slice (some ⟨g, 0, none⟩) 2 2
theorem SoV.later {a b : Xo} {v : Value} {x x' : World} (h : SoV a b v x) (hb : Below x.heap.size x x') : SoV a b v x' := ⟨h.1.later hb, h.2⟩
/-- The cells of operations. -/
def ocells : List Xo → List Value
  | [] => []
  | o :: l => .int .i64 o.k :: .int .i64 o.p :: .int .i32 o.c :: .int .i64 o.r :: ocells l
theorem ocells_at : ∀ (l : List Xo) (i : Nat) (o : Xo), l[i]? = some o → ∀ j v, (ov o)[j]? = some v → (ocells l)[i * 4 + j]? = some v
  | [], i, o, h => by simp at h
  | x :: l, 0, o, h => by
    simp only [List.getElem?_cons_zero, Option.some.injEq] at h
    subst h
    intro j v hv
    match j, hv with
    | 0, hv => simpa [ov, ocells] using hv
    | 1, hv => simpa [ov, ocells] using hv
    | 2, hv => simpa [ov, ocells] using hv
    | 3, hv => simpa [ov, ocells] using hv
    | m + 4, hv => simp [ov] at hv
  | x :: l, i + 1, o, h => by
    intro j v hv
    rw [List.getElem?_cons_succ] at h
    have := ocells_at l i o h j v hv
    rw [show (i + 1) * 4 + j = (i * 4 + j) + 4 by omega]
    simpa [ocells] using this
theorem so_new (w : World) (l : List Xo) (n c : Nat) (hn : l.length = n) : SlO (w.alloc (.cells (ocells l).toArray 40)) (.slice (some ⟨w.heap.size, 0, none⟩) n c) l := by
  subst hn
  have hr := row_new w (ocells l).toArray 40
  refine .inr ⟨w.heap.size, 0, c, rfl, fun i o ho => ⟨hr.lt, fun j v hv => ?_⟩⟩
  rw [hr.cell]
  have := ocells_at l i o ho j v hv
  rw [show 0 + i * 4 + j = i * 4 + j by omega]
  simpa using this
theorem sov_new (x : World) (a b : Xo) : SoV a b (.slice (some ⟨x.heap.size, 0, none⟩) 2 2) (x.alloc (.cells (ocells [a, b]).toArray 40)) := ⟨so_new x [a, b] 2 2 rfl, _, rfl⟩
/-- What done answers. -/
def DnV (l : List El) (v : Value) (x : World) : Prop := ∃ q, v = .tuple #[q, .bool true] ∧ SlE x q l
theorem DnV.later {l : List El} {v : Value} {x x' : World} (h : DnV l v x) (hb : Below x.heap.size x x') : DnV l v x' := by
  obtain ⟨q, h1, h2⟩ := h
  exact ⟨q, h1, h2.later hb⟩
theorem field_at (o : Xo) (w : World) : (Instr.field 40 (.agg (ov o)) 1).run Tryz.prog w = .ok (.int .i64 o.p) w := by kernel_rfl

set_option maxHeartbeats 2000000 in
theorem wakes7_ok (w : World) : Calls Tryz.prog 12 #[] w fun r w' => r = .returned (.bool true) ∧ Below w.heap.size w w' := by
  have r0 : RowAt w.heap.size (ov xa) 40 ((w.alloc (.cells (ov xa) 40)).alloc (.cells (ov xb) 40)) := (row_new w _ _).later (below_one _ _)
  have r1 : RowAt (w.heap.size + 1) (ov xb) 40 ((w.alloc (.cells (ov xa) 40)).alloc (.cells (ov xb) 40)) := row_new2 w _ _ _
  have hB0 := below_two w (.cells (ov xa) 40) (.cells (ov xb) 40)
  have HT := hid_of' (fun x => tX_is (show tO xa xb = xa by decide) x (by decide))
  have HT2 := hid_of' (fun x => tX_is (show tO xb xa = ⟨1, 1, 98, 2⟩ by decide) x (by decide))
  have HD := hid_of' (fun (x : World) (g : Nat) (h : SlO x (.slice (some ⟨g, 0, none⟩) 2 2) [xb, xa]) => done_ok (w := x) (u := .slice none 0 0) (l := []) (b := 0) (.inl ⟨rfl, _, _, rfl⟩) h (by decide) (rowOk_nil 0) (by decide) (by decide) xs_ok.1 xs_ok.2)
  rw [xl_is] at HD
  go_enter Tryz.func12, Tryz.ntmps12
  go_upto_region 3 with fail
  change Code.wp _ _ _ _ ((w.alloc (.cells (ov xa) 40)).alloc (.cells (ov xb) 40))
  generalize (w.alloc (.cells (ov xa) 40)).alloc (.cells (ov xb) 40) = W at r0 r1 hB0 ⊢
  refine wp_region_tail 11 (by kernel_rfl) (fun _ => none) (by kernel_rfl) (by kernel_rfl) (by decide) (fun i v x => match i with
    | 0 => v = .agg (ov xb)
    | 1 => v = .agg (ov xa)
    | 2 => v = .agg (ov xb)
    | 3 => v = .agg (ov xa)
    | 4 => SoV xb xa v x
    | 5 => DnV xl v x
    | 6 => DnV xl v x
    | 7 => SlE x v xl
    | 8 => v = .bool true
    | 9 => SlE x v xl
    | 10 => v = .bool true
    | _ => True) (fun _ => false) (fun _ _ _ _ h => by cases h) ?_ ?_ ?_
  · intro i v x x' hR hb
    match i, hR with
    | 0, h => exact h
    | 1, h => exact h
    | 2, h => exact h
    | 3, h => exact h
    | 4, h => exact h.later hb
    | 5, h => exact h.later hb
    | 6, h => exact h.later hb
    | 7, h => exact h.later hb
    | 8, h => exact h
    | 9, h => exact h.later hb
    | 10, h => exact h
    | m + 11, h => exact h
  · intro i o hi ho q x vals hX hdep hoth
    have t1 : q.tmps[1]? = some (.pointer (some ⟨w.heap.size, 0, none⟩)) := by rw [hoth 1 (by kernel_rfl)]; rfl
    have t2 : q.tmps[2]? = some (.pointer (some ⟨w.heap.size + 1, 0, none⟩)) := by rw [hoth 2 (by kernel_rfl)]; rfl
    match i, hi, ho with
    | 0, _, ho =>
      simp only [List.getElem?_cons_zero, Option.some.injEq] at ho
      subst ho
      exact opw_loadO _ rfl (by simp [Act.eval, t2]) (r1.in.later hX) (came _ rfl (Below.refl _ _) rfl (fun h => absurd h (by decide)))
    | 1, _, ho =>
      simp only [List.getElem?_cons_succ, List.getElem?_cons_zero, Option.some.injEq] at ho
      subst ho
      exact opw_loadO _ rfl (by simp [Act.eval, t1]) (r0.in.later hX) (came _ rfl (Below.refl _ _) rfl (fun h => absurd h (by decide)))
    | 2, _, ho =>
      simp only [List.getElem?_cons_succ, List.getElem?_cons_zero, Option.some.injEq] at ho
      subst ho
      exact opw_loadO _ rfl (by simp [Act.eval, t2]) (r1.in.later hX) (came _ rfl (Below.refl _ _) rfl (fun h => absurd h (by decide)))
    | 3, _, ho =>
      simp only [List.getElem?_cons_succ, List.getElem?_cons_zero, Option.some.injEq] at ho
      subst ho
      obtain ⟨u1, e1⟩ := hdep ⟨1, .data⟩ (by simp) rfl _ 9 rfl rfl
      rw [show vals 1 = .agg (ov xa) from e1] at u1
      obtain ⟨u2, e2⟩ := hdep ⟨2, .data⟩ (by simp) rfl _ 10 rfl rfl
      rw [show vals 2 = .agg (ov xb) from e2] at u2
      unfold Oper.wp
      simp [go_sem, u1, u2]
      refine (HT.out x).mono ?_
      rintro r x1 ⟨rfl, hb1⟩
      exact came _ rfl hb1 rfl (fun h => absurd h (by decide))
    | 4, _, ho =>
      simp only [List.getElem?_cons_succ, List.getElem?_cons_zero, Option.some.injEq] at ho
      subst ho
      obtain ⟨u0, e0⟩ := hdep ⟨0, .data⟩ (by simp) rfl _ 8 rfl rfl
      rw [show vals 0 = .agg (ov xb) from e0] at u0
      obtain ⟨u3, e3⟩ := hdep ⟨3, .data⟩ (by simp) rfl _ 11 rfl rfl
      rw [show vals 3 = .agg (ov xa) from e3] at u3
      unfold ov at u0 u3
      unfold Oper.wp
      simp [execOp, go_sem, u0, u3]
      exact came _ rfl (below_one _ _) (sov_new x xb xa) (fun h => absurd h (by decide))
    | 5, _, ho =>
      simp only [List.getElem?_cons_succ, List.getElem?_cons_zero, Option.some.injEq] at ho
      subst ho
      obtain ⟨u4, e4⟩ := hdep ⟨4, .data⟩ (by simp) rfl _ 12 rfl rfl
      obtain ⟨q6, g6, q7⟩ : SoV xb xa (vals 4) x := e4
      rw [q7] at q6
      rw [show vals (Edge.on ⟨4, .data⟩) = _ from q7] at u4
      unfold Oper.wp
      simp [go_sem, u4]
      refine (HD.out x g6 q6).mono ?_
      rintro r x1 ⟨q, rfl, ho9, hb1⟩
      exact came _ rfl hb1 ⟨q, rfl, ho9.sl⟩ (fun h => absurd h (by decide))
    | 6, _, ho =>
      simp only [List.getElem?_cons_succ, List.getElem?_cons_zero, Option.some.injEq] at ho
      subst ho
      obtain ⟨u5, e5⟩ := hdep ⟨5, .data⟩ (by simp) rfl _ 13 rfl rfl
      have e5b : DnV xl (vals 5) x := e5
      obtain ⟨q, hq, _⟩ := id e5b
      unfold Oper.wp
      simp [execOp, go_sem, u5]
      exact came _ rfl (Below.refl _ _) e5b (fun h => absurd h (by decide))
    | 7, _, ho =>
      simp only [List.getElem?_cons_succ, List.getElem?_cons_zero, Option.some.injEq] at ho
      subst ho
      obtain ⟨u6, e6⟩ := hdep ⟨6, .data⟩ (by simp) rfl _ 7 rfl rfl
      obtain ⟨q, hq, hs⟩ : DnV xl (vals 6) x := e6
      rw [show vals (Edge.on ⟨6, .data⟩) = _ from hq] at u6
      unfold Oper.wp
      simp [execOp, go_sem, u6]
      exact came _ rfl (Below.refl _ _) hs (fun h => absurd h (by decide))
    | 8, _, ho =>
      simp only [List.getElem?_cons_succ, List.getElem?_cons_zero, Option.some.injEq] at ho
      subst ho
      obtain ⟨u6, e6⟩ := hdep ⟨6, .data⟩ (by simp) rfl _ 7 rfl rfl
      obtain ⟨q, hq, hs⟩ : DnV xl (vals 6) x := e6
      rw [show vals (Edge.on ⟨6, .data⟩) = _ from hq] at u6
      unfold Oper.wp
      simp [execOp, go_sem, u6]
      exact came _ rfl (Below.refl _ _) rfl (fun h => absurd h (by decide))
    | 9, _, ho =>
      simp only [List.getElem?_cons_succ, List.getElem?_cons_zero, Option.some.injEq] at ho
      subst ho
      obtain ⟨u7, e7⟩ := hdep ⟨7, .data⟩ (by simp) rfl _ 14 rfl rfl
      have e7b : SlE x (vals 7) xl := e7
      unfold Oper.wp
      simp [execOp, go_sem, u7]
      exact came _ rfl (Below.refl _ _) e7b (fun h => absurd h (by decide))
    | 10, _, ho =>
      simp only [List.getElem?_cons_succ, List.getElem?_cons_zero, Option.some.injEq] at ho
      subst ho
      obtain ⟨u8, e8⟩ := hdep ⟨8, .data⟩ (by simp) rfl _ 15 rfl rfl
      rw [show vals 8 = .bool true from e8] at u8
      unfold Oper.wp
      simp [execOp, go_sem, u8]
      exact came _ rfl (Below.refl _ _) rfl (fun h => absurd h (by decide))
    | m + 11, hi, _ => exact absurd hi (by omega)
  · intro vals x' hX hR _
    have q9 : SlE x' (vals 9) xl := hR 9 (by decide)
    have q10 : vals 10 = .bool true := hR 10 (by decide)
    obtain ⟨g, o_, c, h9, hE⟩ : ∃ g o_ c, vals 9 = .slice (some ⟨g, o_, none⟩) 2 c ∧ ElsAt g o_ xl x' := by
      rcases q9 with ⟨h, _⟩ | ⟨g, o_, c, h1, h2⟩
      · cases h
      · exact ⟨g, o_, c, h1, h2⟩
    have hE0 := hE 0 _ rfl
    have hB := bgo hB0 hX
    replace r0 := r0.later hX
    replace r1 := r1.later hX
    simp only [List.take, List.drop, putAll, h9, q10]
    clear q9 q10 h9 hR hX hE
    simp only [List.setIfInBounds_toArray, List.set_cons_succ, List.set_cons_zero]
    go_upto_region 4 with fail
    have d3 : ∀ s : Wld x', (wOf s).cell? ⟨g, o_ + 3, none⟩ = some (.int .i32 97) := fun s => (hE0.cls _ ⟨s, rfl⟩).2 3 _ rfl
    have hfa := field_at ⟨1, 1, 98, 2⟩
    clear hE0
    refine wp_region_cls0 ?_
    repeat (first | go_big_quiet_skip | (go_big_quiet_want; first | (refine quiet_load_in _ _ rfl rfl r0.in.cls Tryz.underlying40 rfl (o_size xa) ?_; simp only [Act.put, List.setIfInBounds_toArray, List.set_cons_succ, List.set_cons_zero]; go_big_quiet_on) | (refine quiet_load_in _ _ rfl rfl r1.in.cls Tryz.underlying40 rfl (o_size xb) ?_; simp only [Act.put, List.setIfInBounds_toArray, List.set_cons_succ, List.set_cons_zero]; go_big_quiet_on) | (go_big_quiet_op; first | go_big_quiet_on | go_big_quiet_call ((go_at_call 37; exact cls_of (HT2.out _))))))
    refine wpQuiet_nil ?_
    rintro w1 ⟨s1, e1⟩
    have hb1 := wOf_below s1
    rw [← e1] at hb1
    clear e1 s1
    replace hB := bgo hB hb1
    clear hb1
    go_wp2
    go_ret
    exact ⟨rfl, hB⟩
end Go.Proofs.YtdihbgmjnfpppaaGreatDoor
