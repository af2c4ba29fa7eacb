
/-
  barrowlaw07.wakes. barrowkeep.Elements of two rows that are alike; barrowkeep.Within. barrowlaw07.row, fit, three: rows, operations and replicas made right.
-/
import Derived.Test.YtjalehlmldlooaaGreatDoorZap29
import Derived.Test.YtjalehlmldlooaaGreatDoorZap17
namespace Go.Proofs.YtjalehlmldlooaaGreatDoor
open Go.RowKit
set_option maxRecDepth 100000

def xa : Xo := ⟨1, 0, 97, 1⟩
def xb : Xo := ⟨1, 0, 98, 2⟩
def xl : List El := [⟨4, 1, 1, 97, 0⟩, ⟨4, 2, 1, 98, 0⟩]
theorem tX_is {a b c : Xo} (h : tO a b = c) (w : World) (hp : -9223372036854775808 ≤ a.p) : Calls Tryz.prog 37 #[.agg (ov a), .agg (ov b)] w fun r w' => r = .returned (.agg (ov c)) ∧ Below w.heap.size w w' := h ▸ tX_any a b w hp
theorem xl_is : runs [] (named [xb, xa]) = xl := rfl
theorem rowOk_nil (b : Int) : RowOk b [] := ⟨fun i j x y _ h => by simp at h, fun e he => by simp at he⟩
theorem in64_small {n : Int} (h0 : -1000 ≤ n) (h1 : n ≤ 1000) : In64 n := ⟨by omega, by omega⟩
theorem xs_ok : okS [] (named [xb, xa]) ∧ frS [] (named [xb, xa]) := by
  refine ⟨⟨by decide, by decide, trivial⟩, fr_of _ _ (fun e he => by simp at he) ?_ ?_⟩
  · simp [named, xa, xb]
  · intro z hz
    have h3 : z = (xb, ⟨4, 2, 1⟩) ∨ z = (xa, ⟨4, 1, 1⟩) := by simpa [named, xa, xb] using hz
    rcases h3 with rfl | rfl
    · exact ⟨in64_small (by decide) (by decide), in64_small (by decide) (by decide), in64_small (by decide) (by decide)⟩
    · exact ⟨in64_small (by decide) (by decide), in64_small (by decide) (by decide), in64_small (by decide) (by decide)⟩
/-- A list of two operations has been laid. -/
def SoV (a b : Xo) (v : Value) (x : World) : Prop := SlO x v [a, b] ∧ ∃ g : Nat, v = .slice (some ⟨g, 0, none⟩) 2 2
theorem SoV.later {a b : Xo} {v : Value} {x x' : World} (h : SoV a b v x) (hb : Below x.heap.size x x') : SoV a b v x' := ⟨h.1.later hb, h.2⟩
/-- The cells of operations. -/
def ocells : List Xo → List Value
  | [] => []
  | o :: l => .int .i64 o.k :: .int .i64 o.p :: .int .i32 o.c :: .int .i64 o.r :: ocells l
theorem ocells_at : ∀ (l : List Xo) (i : Nat) (o : Xo), l[i]? = some o → ∀ j v, (ov o)[j]? = some v → (ocells l)[i * 4 + j]? = some v
  | [], i, o, h => by simp at h
  | x :: l, 0, o, h => by
    simp only [List.getElem?_cons_zero, Option.some.injEq] at h
    subst h
    intro j v hv
    match j, hv with
    | 0, hv => simpa [ov, ocells] using hv
    | 1, hv => simpa [ov, ocells] using hv
    | 2, hv => simpa [ov, ocells] using hv
    | 3, hv => simpa [ov, ocells] using hv
    | m + 4, hv => simp [ov] at hv
  | x :: l, i + 1, o, h => by
    intro j v hv
    rw [List.getElem?_cons_succ] at h
    have := ocells_at l i o h j v hv
    rw [show (i + 1) * 4 + j = (i * 4 + j) + 4 by omega]
    simpa [ocells] using this
theorem so_new (w : World) (l : List Xo) (n c : Nat) (hn : l.length = n) : SlO (w.alloc (.cells (ocells l).toArray 40)) (.slice (some ⟨w.heap.size, 0, none⟩) n c) l := by
  subst hn
  have hr := row_new w (ocells l).toArray 40
  refine .inr ⟨w.heap.size, 0, c, rfl, fun i o ho => ⟨hr.lt, fun j v hv => ?_⟩⟩
  rw [hr.cell]
  have := ocells_at l i o ho j v hv
  rw [show 0 + i * 4 + j = i * 4 + j by omega]
  simpa using this
theorem sov_new (x : World) (a b : Xo) : SoV a b (.slice (some ⟨x.heap.size, 0, none⟩) 2 2) (x.alloc (.cells (ocells [a, b]).toArray 40)) := ⟨so_new x [a, b] 2 2 rfl, _, rfl⟩
/-- What done answers. -/
def DnV (l : List El) (v : Value) (x : World) : Prop := ∃ q, v = .tuple #[q, .bool true] ∧ SlE x q l
theorem DnV.later {l : List El} {v : Value} {x x' : World} (h : DnV l v x) (hb : Below x.heap.size x x') : DnV l v x' := by
  obtain ⟨q, h1, h2⟩ := h
  exact ⟨q, h1, h2.later hb⟩
theorem field_at (o : Xo) (w : World) : (Instr.field 40 (.agg (ov o)) 1).run Tryz.prog w = .ok (.int .i64 o.p) w := by kernel_rfl

set_option maxHeartbeats 2000000 in
theorem wakes7_ok (w : World) : Calls Tryz.prog 12 #[] w fun r w' => r = .returned (.bool true) ∧ Below w.heap.size w w' := by
  have r0 : RowAt w.heap.size (ov xa) 40 ((w.alloc (.cells (ov xa) 40)).alloc (.cells (ov xb) 40)) := (row_new w _ _).later (below_one _ _)
  have r1 : RowAt (w.heap.size + 1) (ov xb) 40 ((w.alloc (.cells (ov xa) 40)).alloc (.cells (ov xb) 40)) := row_new2 w _ _ _
  have hB0 := below_two w (.cells (ov xa) 40) (.cells (ov xb) 40)
  have HT := hid_of' (fun x => tX_is (show tO xa xb = xa by decide) x (by decide))
  have HT2 := hid_of' (fun x => tX_is (show tO xb xa = ⟨1, 1, 98, 2⟩ by decide) x (by decide))
  have HD := hid_of' (fun (x : World) (g : Nat) (h : SlO x (.slice (some ⟨g, 0, none⟩) 2 2) [xb, xa]) => done_ok (w := x) (u := .slice none 0 0) (l := []) (b := 0) (.inl ⟨rfl, _, _, rfl⟩) h (by decide) (rowOk_nil 0) (by decide) (by decide) xs_ok.1 xs_ok.2)
  rw [xl_is] at HD
  go_enter Tryz.func12, Tryz.ntmps12
  go_upto_region 3 with fail
  change Code.wp _ _ _ _ ((w.alloc (.cells (ov xa) 40)).alloc (.cells (ov xb) 40))
  generalize (w.alloc (.cells (ov xa) 40)).alloc (.cells (ov xb) 40) = W at r0 r1 hB0 ⊢
  refine wp_region_tail 11 (by kernel_rfl) (fun _ => none) (by kernel_rfl) (by kernel_rfl) (by decide) (fun i v x => match i with
    | 0 => v = .agg (ov xb)
    | 1 => v = .agg (ov xa)
    | 2 => v = .agg (ov xb)
    | 3 => v = .agg (ov xa)
    | 4 => SoV xb xa v x
    | 5 => DnV xl v x
    | 6 => DnV xl v x
    | 7 => SlE x v xl
    | 8 => v = .bool true
    | 9 => SlE x v xl
    | 10 => v = .bool true
    | _ => True) (fun _ => false) (fun _ _ _ _ h => by cases h) ?_ ?_ ?_
  · intro i v x x' hR hb
    match i, hR with
    | 0, h => exact h
    | 1, h => exact h
    | 2, h => exact h
    | 3, h => exact h
    | 4, h => exact h.later hb
    | 5, h => exact h.later hb
    | 6, h => exact h.later hb
    | 7, h => exact h.later hb
    | 8, h => exact h
    | 9, h => exact h.later hb
    | 10, h => exact h
    | m + 11, h => exact h
  · intro i o hi ho q x vals hX hdep hoth
    have t1 : q.tmps[1]? = some (.pointer (some ⟨w.heap.size, 0, none⟩)) := by rw [hoth 1 (by kernel_rfl)]; rfl
    have t2 : q.tmps[2]? = some (.pointer (some ⟨w.heap.size + 1, 0, none⟩)) := by rw [hoth 2 (by kernel_rfl)]; rfl
    match i, hi, ho with
    | 0, _, ho =>
      simp only [List.getElem?_cons_zero, Option.some.injEq] at ho
      subst ho
      exact opw_loadO _ rfl (by simp [Act.eval, t2]) (r1.in.later hX) (came _ rfl (Below.refl _ _) rfl (fun h => absurd h (by decide)))
    | 1, _, ho =>
      simp only [List.getElem?_cons_succ, List.getElem?_cons_zero, Option.some.injEq] at ho
      subst ho
      exact opw_loadO _ rfl (by simp [Act.eval, t1]) (r0.in.later hX) (came _ rfl (Below.refl _ _) rfl (fun h => absurd h (by decide)))
    | 2, _, ho =>
      simp only [List.getElem?_cons_succ, List.getElem?_cons_zero, Option.some.injEq] at ho
      subst ho
      exact opw_loadO _ rfl (by simp [Act.eval, t2]) (r1.in.later hX) (came _ rfl (Below.refl _ _) rfl (fun h => absurd h (by decide)))
    | 3, _, ho =>
      simp only [List.getElem?_cons_succ, List.getElem?_cons_zero, Option.some.injEq] at ho
      subst ho
      obtain ⟨u1, e1⟩ := hdep ⟨1, .data⟩ (by simp) rfl _ 9 rfl rfl
      rw [show vals 1 = .agg (ov xa) from e1] at u1
      obtain ⟨u2, e2⟩ := hdep ⟨2, .data⟩ (by simp) rfl _ 10 rfl rfl
      rw [show vals 2 = .agg (ov xb) from e2] at u2
      unfold Oper.wp
      simp [go_sem, u1, u2]
      refine (HT.out x).mono ?_
      rintro r x1 ⟨rfl, hb1⟩
      exact came _ rfl hb1 rfl (fun h => absurd h (by decide))
    | 4, _, ho =>
      simp only [List.getElem?_cons_succ, List.getElem?_cons_zero, Option.some.injEq] at ho
      subst ho
      obtain ⟨u0, e0⟩ := hdep ⟨0, .data⟩ (by simp) rfl _ 8 rfl rfl
      rw [show vals 0 = .agg (ov xb) from e0] at u0
      obtain ⟨u3, e3⟩ := hdep ⟨3, .data⟩ (by simp) rfl _ 11 rfl rfl
      rw [show vals 3 = .agg (ov xa) from e3] at u3
      unfold ov at u0 u3
      unfold Oper.wp
      simp [execOp, go_sem, u0, u3]
      exact came _ rfl (below_one _ _) (sov_new x xb xa) (fun h => absurd h (by decide))
    | 5, _, ho =>
      simp only [List.getElem?_cons_succ, List.getElem?_cons_zero, Option.some.injEq] at ho
      subst ho
      obtain ⟨u4, e4⟩ := hdep ⟨4, .data⟩ (by simp) rfl _ 12 rfl rfl
      obtain ⟨q6, g6, q7⟩ : SoV xb xa (vals 4) x := e4
      rw [q7] at q6
      rw [show vals (Edge.on ⟨4, .data⟩) = _ from q7] at u4
      unfold Oper.wp
      simp [go_sem, u4]
      refine (HD.out x g6 q6).mono ?_
      rintro r x1 ⟨q, rfl, ho9, hb1⟩
      exact came _ rfl hb1 ⟨q, rfl, ho9.sl⟩ (fun h => absurd h (by decide))
    | 6, _, ho =>
      simp only [List.getElem?_cons_succ, List.getElem?_cons_zero, Option.some.injEq] at ho
      subst ho
      obtain ⟨u5, e5⟩ := hdep ⟨5, .data⟩ (by simp) rfl _ 13 rfl rfl
      have e5b : DnV xl (vals 5) x := e5
      obtain ⟨q, hq, _⟩ := id e5b
      unfold Oper.wp
      simp [execOp, go_sem, u5]
      exact came _ rfl (Below.refl _ _) e5b (fun h => absurd h (by decide))
    | 7, _, ho =>
      simp only [List.getElem?_cons_succ, List.getElem?_cons_zero, Option.some.injEq] at ho
      subst ho
      obtain ⟨u6, e6⟩ := hdep ⟨6, .data⟩ (by simp) rfl _ 7 rfl rfl
      obtain ⟨q, hq, hs⟩ : DnV xl (vals 6) x := e6
      rw [show vals (Edge.on ⟨6, .data⟩) = _ from hq] at u6
      unfold Oper.wp
      simp [execOp, go_sem, u6]
      exact came _ rfl (Below.refl _ _) hs (fun h => absurd h (by decide))
    | 8, _, ho =>
      simp only [List.getElem?_cons_succ, List.getElem?_cons_zero, Option.some.injEq] at ho
      subst ho
      obtain ⟨u6, e6⟩ := hdep ⟨6, .data⟩ (by simp) rfl _ 7 rfl rfl
      obtain ⟨q, hq, hs⟩ : DnV xl (vals 6) x := e6
      rw [show vals (Edge.on ⟨6, .data⟩) = _ from hq] at u6
      unfold Oper.wp
      simp [execOp, go_sem, u6]
      exact came _ rfl (Below.refl _ _) rfl (fun h => absurd h (by decide))
    | 9, _, ho =>
      simp only [List.getElem?_cons_succ, List.getElem?_cons_zero, Option.some.injEq] at ho
      subst ho
      obtain ⟨u7, e7⟩ := hdep ⟨7, .data⟩ (by simp) rfl _ 14 rfl rfl
      have e7b : SlE x (vals 7) xl := e7
      unfold Oper.wp
      simp [execOp, go_sem, u7]
      exact came _ rfl (Below.refl _ _) e7b (fun h => absurd h (by decide))
    | 10, _, ho =>
      simp only [List.getElem?_cons_succ, List.getElem?_cons_zero, Option.some.injEq] at ho
      subst ho
      obtain ⟨u8, e8⟩ := hdep ⟨8, .data⟩ (by simp) rfl _ 15 rfl rfl
      rw [show vals 8 = .bool true from e8] at u8
      unfold Oper.wp
      simp [execOp, go_sem, u8]
      exact came _ rfl (Below.refl _ _) rfl (fun h => absurd h (by decide))
    | m + 11, hi, _ => exact absurd hi (by omega)
  · intro vals x' hX hR _
    have q9 : SlE x' (vals 9) xl := hR 9 (by decide)
    have q10 : vals 10 = .bool true := hR 10 (by decide)
    obtain ⟨g, o_, c, h9, hE⟩ : ∃ g o_ c, vals 9 = .slice (some ⟨g, o_, none⟩) 2 c ∧ ElsAt g o_ xl x' := by
      rcases q9 with ⟨h, _⟩ | ⟨g, o_, c, h1, h2⟩
      · cases h
      · exact ⟨g, o_, c, h1, h2⟩
    have hE0 := hE 0 _ rfl
    have hB := bgo hB0 hX
    replace r0 := r0.later hX
    replace r1 := r1.later hX
    simp only [List.take, List.drop, putAll, h9, q10]
    clear q9 q10 h9 hR hX hE
    simp only [List.setIfInBounds_toArray, List.set_cons_succ, List.set_cons_zero]
    go_upto_region 4 with fail
    have d3 : ∀ s : Wld x', (wOf s).cell? ⟨g, o_ + 3, none⟩ = some (.int .i32 97) := fun s => (hE0.cls _ ⟨s, rfl⟩).2 3 _ rfl
    have hfa := field_at ⟨1, 1, 98, 2⟩
    clear hE0
    refine wp_region_cls0 ?_
    repeat (first | go_big_quiet_skip | (go_big_quiet_want; first | (refine quiet_load_in _ _ rfl rfl r0.in.cls Tryz.underlying40 rfl (o_size xa) ?_; simp only [Act.put, List.setIfInBounds_toArray, List.set_cons_succ, List.set_cons_zero]; go_big_quiet_on) | (refine quiet_load_in _ _ rfl rfl r1.in.cls Tryz.underlying40 rfl (o_size xb) ?_; simp only [Act.put, List.setIfInBounds_toArray, List.set_cons_succ, List.set_cons_zero]; go_big_quiet_on) | (go_big_quiet_op; first | go_big_quiet_on | go_big_quiet_call ((go_at_call 37; exact cls_of (HT2.out _))))))
    refine wpQuiet_nil ?_
    rintro w1 ⟨s1, e1⟩
    have hb1 := wOf_below s1
    rw [← e1] at hb1
    clear e1 s1
    replace hB := bgo hB hb1
    clear hb1
    go_wp2
    go_ret
    exact ⟨rfl, hB⟩
end Go.Proofs.YtjalehlmldlooaaGreatDoor
namespace Go.Proofs.YtjalehlmldlooaaGreatDoor
open Go.RowKit
set_option maxRecDepth 100000

theorem eq_E (e : El) (w : World) : (Op.equalIn 10000 49 (.agg (ev e)) (.agg (ev e))).run Tryz.prog w = .ok true w := by
  unfold ev
  simp [go_sem]
set_option maxHeartbeats 2000000 in
/-- Two rows that are alike. -/
theorem elements_eq {w : World} {v u : Value} {l : List El} (hv : SlE w v l) (hu : SlE w u l) (hn : l.length ≤ 1073741824) :
    Calls Tryz.prog 9 #[v, u] w fun e w' => e = .returned (.bool true) ∧ Below w.heap.size w w' := by
  have zero : ∀ (a b : Option Addr) (c d : Nat), Calls Tryz.prog 9 #[.slice a 0 c, .slice b 0 d] w fun e w' => e = .returned (.bool true) ∧ Below w.heap.size w w' := by
    intro a b c d
    clear hv hu
    go_enter Tryz.func9, Tryz.ntmps9
    go_wp2
    refine wp_loop_rounds 1 ?_
    rw [rounds_succ]
    go_wp2
    go_ret
    exact ⟨rfl, Below.refl _ _⟩
  rcases hv with ⟨h0, a, c, rfl⟩ | ⟨g, o_, c, rfl, hc⟩
  · subst h0
    obtain ⟨a', c', rfl⟩ := hu.form
    exact zero _ _ _ _
  · rcases hu with ⟨h0, a', c', rfl⟩ | ⟨g', o', c', rfl, hc'⟩
    · subst h0
      exact zero _ _ _ _
    · clear zero
      go_enter Tryz.func9, Tryz.ntmps9
      go_wp2
      go_loopw [5] (fun i wr => ∃ k n : Nat, i = .int .i64 (k : Int) ∧ k ≤ l.length ∧ wr = w.drewN n) (fun i _ => l.length - (intOf i).toNat)
      case atStart => exact ⟨0, 0, rfl, Nat.zero_le _, rfl⟩
      case round =>
        obtain ⟨k, n, rfl, hk, rfl⟩ := hrel
        by_cases hlt : k < l.length
        · have hki : (k : Int) < (l.length : Int) := by omega
          obtain ⟨e, he⟩ : ∃ e, l[k]? = some e := ⟨_, List.getElem?_eq_getElem hlt⟩
          have f1 := (hc k e he).2
          have f2 := (hc' k e he).2
          have c10 : w.cell? ⟨g, o_ + k * 5, none⟩ = some (.int .i64 e.ep) := f1 0 _ rfl
          have c11 : w.cell? ⟨g, o_ + k * 5 + 1, none⟩ = some (.int .i64 e.rp) := f1 1 _ rfl
          have c12 : w.cell? ⟨g, o_ + k * 5 + 2, none⟩ = some (.int .i64 e.no) := f1 2 _ rfl
          have c13 : w.cell? ⟨g, o_ + k * 5 + 3, none⟩ = some (.int .i32 e.ch) := f1 3 _ rfl
          have c14 : w.cell? ⟨g, o_ + k * 5 + 4, none⟩ = some (.int .i64 e.hd) := f1 4 _ rfl
          have c20 : w.cell? ⟨g', o' + k * 5, none⟩ = some (.int .i64 e.ep) := f2 0 _ rfl
          have c21 : w.cell? ⟨g', o' + k * 5 + 1, none⟩ = some (.int .i64 e.rp) := f2 1 _ rfl
          have c22 : w.cell? ⟨g', o' + k * 5 + 2, none⟩ = some (.int .i64 e.no) := f2 2 _ rfl
          have c23 : w.cell? ⟨g', o' + k * 5 + 3, none⟩ = some (.int .i32 e.ch) := f2 3 _ rfl
          have c24 : w.cell? ⟨g', o' + k * 5 + 4, none⟩ = some (.int .i64 e.hd) := f2 4 _ rfl
          clear f1 f2 he
          go_wp2_with fail
          go_quiet (fail)
          go_wp2
          go_roundw
          case rel => exact ⟨k + 1, n + nq, by go_num, by omega, rfl⟩
          case measure => simp [intOf]; omega
        · have hki : ¬ (k : Int) < (l.length : Int) := by omega
          go_wp2
          go_ret
          exact ⟨rfl, ⟨rfl, rfl, rfl, Nat.le_refl _, fun _ _ => rfl⟩⟩
theorem OwnE.later {base : Nat} {v : Value} {l : List El} {w w' : World} (h : OwnE base v l w) (hb : Below w.heap.size w w') : OwnE base v l w' := by
  refine ⟨h.1, ?_⟩
  rcases h.2 with h1 | ⟨g, cap, cur, h1, h2, h3, h4⟩
  · exact .inl h1
  · exact .inr ⟨g, cap, cur, h1, h2, (hb.block g (Array.getElem?_eq_some_iff.1 h3).1).trans h3, h4⟩
theorem OwnE.base {b b' : Nat} {v : Value} {l : List El} {w : World} (h : OwnE b v l w) (hb : b' ≤ b) : OwnE b' v l w := by
  refine ⟨h.1, ?_⟩
  rcases h.2 with h1 | ⟨g, cap, cur, h1, h2, h3⟩
  · exact .inl h1
  · exact .inr ⟨g, cap, cur, h1, Nat.le_trans hb h2, h3⟩
set_option maxHeartbeats 1000000 in
theorem within_any (n : Int) (m : Nat) (w : World) (hm : 0 < m) (hm2 : m ≤ 1073741824) (_h1 : -9223372036854775808 ≤ n) (_h2 : n ≤ 9223372036854775807) :
    Calls Tryz.prog 14 #[.int .i64 n, .int .i64 (m : Int)] w fun r w' => ∃ k : Nat, k < m ∧ r = .returned (.int .i64 (k : Int)) ∧ w' = w := by
  have m0 : ((m : Int) == 0) = false := by rw [beq_eq_false_iff_ne]; omega
  have t1 : n.tmod (m : Int) < (m : Int) := Int.tmod_lt_of_pos n (by omega)
  have t2 : -(m : Int) < n.tmod (m : Int) := by
    have := Int.tmod_lt_of_pos (-n) (show (0 : Int) < (m : Int) by omega)
    rw [Int.neg_tmod] at this
    omega
  obtain ⟨t, et⟩ : ∃ t, n.tmod (m : Int) = t := ⟨_, rfl⟩
  rw [et] at t1 t2
  by_cases ht : t < 0
  · go_enter Tryz.func14, Tryz.ntmps14
    go_wp2
    go_ret
    exact ⟨(t + m).toNat, by omega, by rw [Int.toNat_of_nonneg (by omega)]; rfl, rfl⟩
  · go_enter Tryz.func14, Tryz.ntmps14
    go_wp2
    go_ret
    exact ⟨t.toNat, by omega, by rw [Int.toNat_of_nonneg (by omega)]; rfl, rfl⟩

end Go.Proofs.YtjalehlmldlooaaGreatDoor
namespace Go.Proofs.YtjalehlmldlooaaGreatDoor
open Go.RowKit
set_option maxRecDepth 100000

theorem within_lit (n : Int) (m : Int) (w : World) (hm : 0 < m) (hm2 : m ≤ 1073741824) (h1 : In64 n) :
    Calls Tryz.prog 14 #[.int .i64 n, .int .i64 m] w fun r w' => ∃ k : Nat, (k : Int) < m ∧ r = .returned (.int .i64 (k : Int)) ∧ w' = w := by
  obtain ⟨k, rfl⟩ : ∃ k : Nat, m = (k : Int) := ⟨m.toNat, by omega⟩
  refine (within_any n k w (by omega) (by omega) h1.1 h1.2).mono ?_
  rintro r w' ⟨j, hj, h2, h3⟩
  exact ⟨j, by omega, h2, h3⟩
theorem infoE5 : (Tryz.prog.info? 49).map (fun i => (i.zero, i.size, i.bytes)) = some (some (.agg #[.int .i64 0, .int .i64 0, .int .i64 0, .int .i32 0, .int .i64 0]), 5, 40) := by kernel_rfl
/-- Numbers of Go's int. -/
def El.In (e : El) : Prop := In64 e.hd
/-- What row tells. -/
structure RowR (k : Nat) (out : List El) : Prop where
  ok : RowOk 2 out
  len : out.length ≤ k
  ep : ∀ e ∈ out, e.ep = 3 ∧ e.rp = 0 ∧ e.no ≤ k
theorem RowR.nil : RowR 0 [] := ⟨rowOk_nil 2, Nat.le_refl _, fun e he => by simp at he⟩
theorem RowR.skip {k : Nat} {out : List El} (h : RowR k out) : RowR (k + 1) out := ⟨h.ok, by have := h.len; omega, fun e he => by have := h.ep e he; omega⟩
theorem RowR.add {k : Nat} {out : List El} {c d : Int} (h : RowR k out) (hk : k < 60) (hc : rightC c = true) (h0 : -2 ≤ d) (h1 : d ≤ 2) : RowR (k + 1) (out ++ [⟨3, 0, (k : Int) + 1, c, d⟩]) := by
  refine ⟨⟨?_, ?_⟩, by have := h.len; simp; omega, ?_⟩
  · intro i j x y hij hx hy
    have hjl := (List.getElem?_eq_some_iff.1 hy).1
    simp at hjl
    rw [List.getElem?_append_left (by omega)] at hx
    by_cases q : j < out.length
    · rw [List.getElem?_append_left q] at hy
      exact h.ok.apart i j x y hij hx hy
    · rw [List.getElem?_append_right (by omega), show j - out.length = 0 by omega] at hy
      simp only [List.getElem?_cons_zero, Option.some.injEq] at hy
      subst hy
      have := h.ep x (List.mem_of_getElem? hx)
      intro e
      simp only [El.id, Idn.mk.injEq] at e
      omega
  · intro e he
    rcases List.mem_append.1 he with he | he
    · exact h.ok.good e he
    · simp only [List.mem_singleton] at he
      subst he
      exact ⟨⟨⟨show _ ≤ (3 : Int) by decide, show (3 : Int) ≤ _ by decide⟩, ⟨show _ ≤ (0 : Int) by decide, show (0 : Int) ≤ _ by decide⟩, ⟨by show _ ≤ (k : Int) + 1; omega, by show (k : Int) + 1 ≤ _; omega⟩⟩, hc, h0, h1⟩
  · intro e he
    rcases List.mem_append.1 he with he | he
    · have := h.ep e he; omega
    · simp only [List.mem_singleton] at he
      subst he
      refine ⟨rfl, rfl, ?_⟩
      show (k : Int) + 1 ≤ _
      omega
theorem row_setE {w : World} {g : Nat} {e : El} (h : RowAt g (ev e) 49 w) (d : Int) : RowAt g (ev ⟨e.ep, e.rp, e.no, e.ch, d⟩) 49 (w.setCell ⟨g, 4, none⟩ (.int .i64 d)) := heap_setCell_at h 4 _

/-- What row answers. -/
def RowO (w : World) (r : Ending) (w' : World) : Prop := ∃ u out k, r = .returned u ∧ OwnE w.heap.size u out w' ∧ RowR k out ∧ k ≤ 60 ∧ Below w.heap.size w w'
set_option maxHeartbeats 4000000 in
theorem row7_ok {w : World} {v : Value} {l : List El} (hv : SlE w v l) (hin : ∀ e ∈ l, e.In) (hml : l.length ≤ 9223372036854775807) :
    Calls Tryz.prog 4 #[v] w (RowO w) := by
  obtain ⟨a0, c0, rfl⟩ := hv.form
  obtain ⟨i0, hi, hz0, hz1, hz2⟩ := info_parts infoE5
  have hmx : maxLen = 9223372036854775807 := rfl
  go_enter Tryz.func4, Tryz.ntmps4
  go_wp2
  go_loopw [3, 4] (fun u i wr => ∃ (k : Nat) (out : List El) (ua : Option Addr) (uc : Nat), u = .slice ua out.length uc ∧ i = .int .i64 (k : Int) ∧ k ≤ 60 ∧ k ≤ l.length ∧ RowR k out ∧ OwnE w.heap.size (.slice ua out.length uc) out wr ∧ Below w.heap.size w wr) (fun _ i _ => 60 - (intOf i).toNat)
  case atStart => exact ⟨0, [], none, 0, rfl, rfl, by omega, Nat.zero_le _, RowR.nil, ⟨rfl, .inl ⟨rfl, rfl⟩⟩, Below.refl _ _⟩
  case round =>
    obtain ⟨k, out, ua, uc, rfl, rfl, hk, hkl, hR, hO, hB⟩ := hrel
    by_cases q0 : k < l.length
    · have p0 : (k : Int) < (l.length : Int) := by omega
      by_cases q1 : k < 60
      · have p1 : (k : Int) < 60 := by omega
        obtain ⟨e, he⟩ : ∃ e, l[k]? = some e := ⟨_, List.getElem?_eq_getElem q0⟩
        have hei := hin e (List.mem_of_getElem? he)
        rcases hv.later hB with ⟨h0, _⟩ | ⟨g, o_, c, hvv, hc⟩
        · exfalso; subst h0; simp at q0
        simp only [Value.slice.injEq] at hvv
        obtain ⟨rfl, _, rfl⟩ := hvv
        have hce := hc k e he
        clear hc
        go_upto_region 6 with (first | (refine wpL_loadE rfl _ rfl rfl hce ?_) | (refine wpL_storeE rfl _ _ rfl rfl rfl (row_new wr _ _) ?_))
        have hr5 := (row_new wr #[.int .i64 0, .int .i64 0, .int .i64 0, .int .i32 0, .int .i64 0] 49).put (ev e)
        have hB5 : Below wr.heap.size wr ((wr.alloc (.cells #[.int .i64 0, .int .i64 0, .int .i64 0, .int .i32 0, .int .i64 0] 49)).setRow wr.heap.size (ev e)) := below_row (below_one wr _) (Nat.le_refl _) _
        generalize (wr.alloc (.cells #[.int .i64 0, .int .i64 0, .int .i64 0, .int .i32 0, .int .i64 0] 49)).setRow wr.heap.size (ev e) = W5 at hr5 hB5 ⊢
        have c3 : W5.cell? ⟨wr.heap.size, 3, none⟩ = some (.int .i32 e.ch) := hr5.cell 3
        have HV := hid_of' (fun x => refRight_any e.ch x)
        cases hrc : rightC e.ch with
        | false =>
          rw [hrc] at HV
          go_wp2_with (go_at_call 13; refine (HV.out _).mono ?_; rintro r w2 ⟨rfl, hw⟩; obtain rfl := hw.symm)
          go_roundw
          case rel => exact ⟨k + 1, out, ua, uc, rfl, by go_num, by omega, by omega, hR.skip, OwnE.later hO hB5, bgo hB hB5⟩
          case measure => simp [intOf]; omega
        | true =>
          rw [hrc] at HV
          go_upto_region 7 with (go_at_call 13; refine (HV.out _).mono ?_; rintro r w2 ⟨rfl, hw⟩; obtain rfl := hw.symm)
          have f0 : W5.frozen? ⟨wr.heap.size, 0, none⟩ = false := Lib.frozen_of_heap hr5 0
          have f1 : W5.frozen? ⟨wr.heap.size, 1, none⟩ = false := Lib.frozen_of_heap hr5 1
          have f2 : W5.frozen? ⟨wr.heap.size, 2, none⟩ = false := Lib.frozen_of_heap hr5 2
          have c0 : W5.cell? ⟨wr.heap.size, 0, none⟩ = some (.int .i64 e.ep) := hr5.cell 0
          have c1 : W5.cell? ⟨wr.heap.size, 1, none⟩ = some (.int .i64 e.rp) := hr5.cell 1
          have c2 : W5.cell? ⟨wr.heap.size, 2, none⟩ = some (.int .i64 e.no) := hr5.cell 2
          go_upto_region 8 with fail
          have hr6 : RowAt wr.heap.size (ev ⟨3, 0, (k : Int) + 1, e.ch, e.hd⟩) 49 (((W5.setCell ⟨wr.heap.size, 0, none⟩ (.int .i64 3)).setCell ⟨wr.heap.size, 1, none⟩ (.int .i64 0)).setCell ⟨wr.heap.size, 2, none⟩ (.int .i64 ((k : Int) + 1))) := heap_setCell_at (heap_setCell_at (heap_setCell_at hr5 0 _) 1 _) 2 _
          have hB6 : Below wr.heap.size wr (((W5.setCell ⟨wr.heap.size, 0, none⟩ (.int .i64 3)).setCell ⟨wr.heap.size, 1, none⟩ (.int .i64 0)).setCell ⟨wr.heap.size, 2, none⟩ (.int .i64 ((k : Int) + 1))) := below_setO (below_setO (below_setO hB5 (Nat.le_refl _) _ _) (Nat.le_refl _) _ _) (Nat.le_refl _) _ _
          generalize ((W5.setCell ⟨wr.heap.size, 0, none⟩ (.int .i64 3)).setCell ⟨wr.heap.size, 1, none⟩ (.int .i64 0)).setCell ⟨wr.heap.size, 2, none⟩ (.int .i64 ((k : Int) + 1)) = W6 at hr6 hB6 ⊢
          clear hr5 hB5 c0 c1 c2 c3 f0 f1 f2 HV
          have c4 : W6.cell? ⟨wr.heap.size, 4, none⟩ = some (.int .i64 e.hd) := hr6.cell 4
          have f4 : W6.frozen? ⟨wr.heap.size, 4, none⟩ = false := Lib.frozen_of_heap hr6 4
          have HQ := hid_of' (fun x => within_lit e.hd 5 x (by decide) (by decide) hei)
          go_upto_region 9 with (go_at_call 14; refine (HQ.out _).mono ?_; rintro r w2 ⟨j, hj, rfl, hw⟩; obtain rfl := hw.symm)
          have hr7 := row_setE hr6 ((j : Int) - 2)
          have hB7 : Below wr.heap.size wr (W6.setCell ⟨wr.heap.size, 4, none⟩ (.int .i64 ((j : Int) - 2))) := below_setO hB6 (Nat.le_refl _) _ _
          generalize W6.setCell ⟨wr.heap.size, 4, none⟩ (.int .i64 ((j : Int) - 2)) = W7 at hr7 hB7 ⊢
          clear hr6 hB6 c4 f4 HQ
          have hO7 := OwnE.later hO hB7
          have hol := hR.len
          simp only at hr7
          go_wp2_with (first | (refine wpL_loadE (e := ⟨3, 0, (k : Int) + 1, e.ch, (j : Int) - 2⟩) rfl _ rfl rfl hr7.in ?_; unfold ev) | (at_builtin; refine wpList_append_own _ rfl _ _ 22 rfl w.heap.size 49 i0 _ 5 40 Tryz.underlying22 hi hz0 hz1 hz2 rfl (by decide) _ _ _ rfl (hO7.alloc _) ⟨W7.heap.size, 0, none⟩ 1 1 (ev ⟨3, 0, (k : Int) + 1, e.ch, (j : Int) - 2⟩).toList rfl rfl (ev_cells W7 _) (by simp [ev, Value.oneCell']) (by omega) (by omega) (by have h1 := hB.size; have h2 := hB7.size; rw [World.size_alloc]; omega) ?_; intro v' w9 hown9 hgr9 _; obtain ⟨g9, cap9, rfl⟩ := ownsRow_succ hown9))
          have hln : (out ++ [(⟨3, 0, (k : Int) + 1, e.ch, (j : Int) - 2⟩ : El)]).length = out.length + 1 := by simp
          have hb7 := bgo hB hB7
          refine ⟨⟨k + 1, out ++ [⟨3, 0, (k : Int) + 1, e.ch, (j : Int) - 2⟩], some ⟨g9, 0, none⟩, cap9, by rw [hln], by go_num, by omega, by omega, hR.add q1 hrc (by omega) (by omega), ?_, ?_⟩, by simp [intOf]; omega⟩
          · unfold OwnE
            rw [hln, ecells_app]
            exact hown9
          · exact (hb7.alloc hb7.size _).grown hgr9 (by rw [World.size_alloc]; have := hb7.size; omega) (fun j e => (hO7.lt j e).1)
      · have p1 : ¬ (k : Int) < 60 := by omega
        go_wp2
        go_ret
        exact ⟨_, out, k, rfl, hO, hR, hk, hB⟩
    · have p0 : ¬ (k : Int) < (l.length : Int) := by omega
      go_wp2
      go_ret
      exact ⟨_, out, k, rfl, hO, hR, hk, hB⟩
end Go.Proofs.YtjalehlmldlooaaGreatDoor
