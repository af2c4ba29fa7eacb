
/-
  tree.front, tree.back: what stands ahead of a place, and from it on.
-/
import Derived.Test.YtjalehlmldlooaaGreatDoorZap13
import Derived.Test.YtjalehlmldlooaaGreatDoorZap08
import Derived.Test.YtjalehlmldlooaaGreatDoorZap09
namespace Go.Proofs.YtjalehlmldlooaaGreatDoor
open Go.RowKit
set_option maxRecDepth 100000

theorem Nd.els_flat : ∀ t : Nd, t.els = t.leaves.flatten
  | .leaf .. => by simp [Nd.els, Nd.leaves]
  | .inner _ x y => by simp only [Nd.els, Nd.leaves, List.flatten_append, Nd.els_flat x, Nd.els_flat y]
/-- A tree of these leaves, or none. -/
def OTree (R : Rows) (ls : List (List El)) (v : Value) (w : World) : Prop := (ls = [] ∧ v = .pointer none) ∨ ∃ t : Nd, v = .pointer (some ⟨t.blk, 0, none⟩) ∧ t.At R w ∧ t.Full ∧ t.leaves = ls
theorem OTree.later {R : Rows} {ls : List (List El)} {v : Value} {w w' : World} (h : OTree R ls v w) (hb : Below w.heap.size w w') : OTree R ls v w' := by
  rcases h with h | ⟨t, h1, h2, h3⟩
  · exact .inl h
  · exact .inr ⟨t, h1, h2.later hb, h3⟩
theorem TreeOf.o {R : Rows} {l : List El} {ls : List (List El)} {v : Value} {w : World} (h : TreeOf R l ls v w) : OTree R ls v w := by
  obtain ⟨t, h1, h2, h3, _, h5⟩ := h
  exact .inr ⟨t, h1, h2, h3, h5⟩
theorem joinedO {R : Rows} {ls ms : List (List El)} {v u : Value} {w : World} (h1 : OTree R ls v w) (h2 : OTree R ms u w) (hn : (ls ++ ms).flatten.length ≤ 1073741824) :
    Calls Tryz.prog 82 #[v, u] w fun r w' => ∃ v', r = .returned v' ∧ OTree R (ls ++ ms) v' w' ∧ Below w.heap.size w w' := by
  rcases h1 with ⟨rfl, rfl⟩ | ⟨t, rfl, a1, a2, rfl⟩
  · obtain ⟨p, rfl⟩ : ∃ p, u = .pointer p := by
      rcases h2 with ⟨_, rfl⟩ | ⟨t, rfl, _⟩
      · exact ⟨_, rfl⟩
      · exact ⟨_, rfl⟩
    refine (joined_nil1 p w).mono ?_
    rintro r w1 ⟨rfl, rfl⟩
    exact ⟨_, rfl, h2, Below.refl _ _⟩
  · rcases h2 with ⟨rfl, rfl⟩ | ⟨t', rfl, b1, b2, rfl⟩
    · refine (joined_nil2 t.blk w).mono ?_
      rintro r w1 ⟨rfl, rfl⟩
      exact ⟨_, rfl, .inr ⟨t, rfl, a1, a2, by rw [List.append_nil]⟩, Below.refl _ _⟩
    · rw [List.flatten_append, ← Nd.els_flat, ← Nd.els_flat] at hn
      refine (joined_any _ t t' rfl w a1 b1 a2 b2 hn).mono ?_
      rintro r w1 ⟨v', rfl, ht, hb⟩
      exact ⟨_, rfl, ht.o, hb⟩
/-- What stands ahead of a place: the leaves ahead, and the beginning of the one in which it lies. -/
def Nd.fr : Nd → Nat → List (List El) × List El
  | .leaf _ _ _ _ l, i => ([], l.take i)
  | .inner _ x y, i => if i < x.els.length then x.fr i else (x.leaves ++ (y.fr (i - x.els.length)).1, (y.fr (i - x.els.length)).2)
/-- What stands from a place on. -/
def Nd.bk : Nd → Nat → List El × List (List El)
  | .leaf _ _ _ _ l, i => (l.drop i, [])
  | .inner _ x y, i => if i < x.els.length then ((x.bk i).1, (x.bk i).2 ++ y.leaves) else y.bk (i - x.els.length)
theorem Nd.fr_els : ∀ (t : Nd) (i : Nat), (t.fr i).1.flatten ++ (t.fr i).2 = t.els.take i
  | .leaf _ _ _ _ l, i => by simp [Nd.fr, Nd.els]
  | .inner _ x y, i => by
    unfold Nd.fr
    split
    · rename_i h
      rw [Nd.fr_els x i, Nd.els, List.take_append_of_le_length (by omega)]
    · rename_i h
      simp only [List.flatten_append, List.append_assoc]
      rw [Nd.fr_els y _, ← Nd.els_flat, Nd.els, List.take_append, List.take_of_length_le (show x.els.length ≤ i by omega)]
theorem Nd.bk_els : ∀ (t : Nd) (i : Nat), (t.bk i).1 ++ (t.bk i).2.flatten = t.els.drop i
  | .leaf _ _ _ _ l, i => by simp [Nd.bk, Nd.els]
  | .inner _ x y, i => by
    unfold Nd.bk
    split
    · rename_i h
      simp only [List.flatten_append]
      rw [← List.append_assoc, Nd.bk_els x i, ← Nd.els_flat, Nd.els, List.drop_append_of_le_length (by omega)]
    · rename_i h
      rw [Nd.bk_els y _, Nd.els, List.drop_append, List.drop_eq_nil_of_le (show x.els.length ≤ i by omega), List.nil_append]

set_option maxHeartbeats 2000000 in
theorem front_leaf {R : Rows} (b g o_ c : Nat) (l : List El) (i : Nat) (w : World) (ht : (Nd.leaf b g o_ c l).At R w) (hi : i ≤ l.length) :
    Calls Tryz.prog 66 #[.pointer (some ⟨b, 0, none⟩), .int .i64 (i : Int)] w fun r w' => ∃ v u, r = .returned (.tuple #[v, u]) ∧ OTree R [] v w' ∧ SlE w' u (l.take i) ∧ Below w.heap.size w w' := by
  have HI := hid_of' (isLeaf_any ht)
  unfold pv Nd.blk Nd.isL at HI
  have d2 : w.cell? ⟨b, 2, none⟩ = some (.slice (some ⟨g, o_, none⟩) l.length c) := ht.1.cell 2
  obtain ⟨hE, hlc, hc9, _⟩ := ht.2
  have e1 : (i : Int) ≤ (c : Int) := by omega
  have e0 : 0 ≤ (i : Int) := by omega
  have hE2 : Hid (SlE w (.slice (some ⟨g, o_, none⟩) i c) (l.take i)) := .inr ⟨g, o_, c, by rw [List.length_take, Nat.min_eq_left hi], hE.take i⟩
  clear hE ht
  go_enter Tryz.func66, Tryz.ntmps66
  go_upto_region 4 with (go_at_call 62; refine HI.out.mono ?_; rintro r w1 ⟨rfl, hw⟩; obtain rfl := hw.symm)
  go_quiet (fail)
  go_wp2
  go_ret2
  exact ⟨_, _, rfl, .inl ⟨rfl, rfl⟩, hE2.out, ⟨rfl, rfl, rfl, Nat.le_refl _, fun _ _ => rfl⟩⟩

set_option maxHeartbeats 2000000 in
theorem front_low {R : Rows} {nx ny : Nd} {b : Nat} {w : World} (ip : Nat) (ht : (Nd.inner b nx ny).At R w) (hlt : ip < nx.els.length) (_hn : nx.els.length ≤ 1073741824)
    (C0 : Calls Tryz.prog 66 #[.pointer (some ⟨nx.blk, 0, none⟩), .int .i64 (ip : Int)] w fun r w' => ∃ v u, r = .returned (.tuple #[v, u]) ∧ OTree R ((nx).fr ip).1 v w' ∧ SlE w' u ((nx).fr ip).2 ∧ Below w.heap.size w w') :
    Calls Tryz.prog 66 #[.pointer (some ⟨b, 0, none⟩), .int .i64 (ip : Int)] w fun r w' => ∃ v u, r = .returned (.tuple #[v, u]) ∧ OTree R ((Nd.inner b nx ny).fr ip).1 v w' ∧ SlE w' u ((Nd.inner b nx ny).fr ip).2 ∧ Below w.heap.size w w' := by
  have HI := hid_of' (isLeaf_any ht)
  unfold pv Nd.blk Nd.isL at HI
  have d0 := nd_l ht
  have d4 := nd_sz ht.2.1
  have C := hid_of' C0
  have hli : (ip : Int) < (nx.els.length : Int) := by omega
  have HE : Hid ((Nd.inner b nx ny).fr ip = nx.fr ip) := by show Nd.fr _ _ = _; rw [Nd.fr, if_pos hlt]
  clear C0 ht hlt
  go_enter Tryz.func66, Tryz.ntmps66
  go_wp2_with (first | (go_at_call 62; refine HI.out.mono ?_; rintro r w1 ⟨rfl, hw⟩; obtain rfl := hw.symm) | (go_at_call 66; refine C.out.mono ?_; rintro r w1 ⟨v1, v2, rfl, g1, g2, hb1⟩))
  go_ret2
  rw [HE.out]
  exact ⟨_, _, rfl, g1, g2, hb1⟩
set_option maxHeartbeats 4000000 in
theorem front_high {R : Rows} {nx ny : Nd} {b : Nat} {w : World} (ip : Nat) (ht : (Nd.inner b nx ny).At R w) (hf : nx.Full) (hlt : ¬ ip < nx.els.length) (hi : ip ≤ 1073741824) (hn : (nx.els ++ ny.els).length ≤ 1073741824)
    (C0 : ∀ w' : World, Below w.heap.size w w' → Calls Tryz.prog 66 #[.pointer (some ⟨ny.blk, 0, none⟩), .int .i64 ((ip - nx.els.length : Nat) : Int)] w' fun r w'' => ∃ v u, r = .returned (.tuple #[v, u]) ∧ OTree R (ny.fr (ip - nx.els.length)).1 v w'' ∧ SlE w'' u (ny.fr (ip - nx.els.length)).2 ∧ Below w'.heap.size w' w'') :
    Calls Tryz.prog 66 #[.pointer (some ⟨b, 0, none⟩), .int .i64 (ip : Int)] w fun r w' => ∃ v u, r = .returned (.tuple #[v, u]) ∧ OTree R ((Nd.inner b nx ny).fr ip).1 v w' ∧ SlE w' u ((Nd.inner b nx ny).fr ip).2 ∧ Below w.heap.size w w' := by
  have HI := hid_of' (isLeaf_any ht)
  unfold pv Nd.blk Nd.isL at HI
  have d0 := nd_l ht
  have d4 := nd_sz ht.2.1
  have C := hid_of' C0
  have hli : ¬ (ip : Int) < (nx.els.length : Int) := by omega
  have HE : Hid ((Nd.inner b nx ny).fr ip = (nx.leaves ++ (ny.fr (ip - nx.els.length)).1, (ny.fr (ip - nx.els.length)).2)) := by show Nd.fr _ _ = _; rw [Nd.fr, if_neg hlt]
  have HN : Hid ((nx.leaves ++ (ny.fr (ip - nx.els.length)).1).flatten.length ≤ 1073741824) := by
    have h1 := congrArg List.length (Nd.fr_els ny (ip - nx.els.length))
    rw [List.length_append, List.length_take] at h1
    rw [List.length_append] at hn
    show _ ≤ _
    rw [List.flatten_append, List.length_append, ← Nd.els_flat]
    omega
  have HX := hid_of' (show nx.At R w ∧ nx.Full from ⟨ht.2.1, hf⟩)
  clear C0
  go_enter Tryz.func66, Tryz.ntmps66
  go_upto_region 7 with (go_at_call 62; refine HI.out.mono ?_; rintro r w1 ⟨rfl, hw⟩; obtain rfl := hw.symm)
  refine wp_region_tail 19 (by kernel_rfl) (fun _ => none) (by kernel_rfl) (by kernel_rfl) (by decide) (fun i v x => match i with
    | 0 => v = .pointer (some ⟨b, 0, none⟩)
    | 1 => v = .pointer (some ⟨b, 0, none⟩)
    | 2 => v = .pointer (some ⟨b, 1, none⟩)
    | 3 => v = .pointer (some ⟨ny.blk, 0, none⟩)
    | 4 => v = .int .i64 (ip : Int)
    | 5 => v = .pointer (some ⟨b, 0, none⟩)
    | 6 => v = .pointer (some ⟨b, 0, none⟩)
    | 7 => v = .pointer (some ⟨b, 0, none⟩)
    | 8 => v = .pointer (some ⟨nx.blk, 0, none⟩)
    | 9 => v = .pointer (some ⟨nx.blk, 0, none⟩)
    | 10 => v = .pointer (some ⟨nx.blk, 4, none⟩)
    | 11 => v = .int .i64 (nx.els.length : Int)
    | 12 => v = .int .i64 ((ip - nx.els.length : Nat) : Int)
    | 13 => ∃ p1 p2, v = .tuple #[p1, p2] ∧ OTree R (ny.fr (ip - nx.els.length)).1 p1 x ∧ SlE x p2 (ny.fr (ip - nx.els.length)).2
    | 14 => ∃ p1 p2, v = .tuple #[p1, p2] ∧ OTree R (ny.fr (ip - nx.els.length)).1 p1 x ∧ SlE x p2 (ny.fr (ip - nx.els.length)).2
    | 15 => OTree R (ny.fr (ip - nx.els.length)).1 v x
    | 16 => SlE x v (ny.fr (ip - nx.els.length)).2
    | 17 => OTree R (ny.fr (ip - nx.els.length)).1 v x
    | 18 => SlE x v (ny.fr (ip - nx.els.length)).2
    | _ => True) (fun _ => false) (fun _ _ _ _ h => by cases h) ?_ ?_ ?_
  · intro i v x x' hR hb
    match i, hR with
    | 0, h => exact h
    | 1, h => exact h
    | 2, h => exact h
    | 3, h => exact h
    | 4, h => exact h
    | 5, h => exact h
    | 6, h => exact h
    | 7, h => exact h
    | 8, h => exact h
    | 9, h => exact h
    | 10, h => exact h
    | 11, h => exact h
    | 12, h => exact h
    | 13, h => exact (by obtain ⟨p1, p2, k1, k2, k3⟩ := h; exact ⟨p1, p2, k1, k2.later hb, k3.later hb⟩)
    | 14, h => exact (by obtain ⟨p1, p2, k1, k2, k3⟩ := h; exact ⟨p1, p2, k1, k2.later hb, k3.later hb⟩)
    | 15, h => exact OTree.later h hb
    | 16, h => exact SlE.later h hb
    | 17, h => exact OTree.later h hb
    | 18, h => exact SlE.later h hb
    | m + 19, h => exact h
  · intro i o hi ho q x vals hX hdep hoth
    have t0 : q.tmps[0]? = some (.pointer (some ⟨b, 0, none⟩)) := by rw [hoth 0 (by kernel_rfl)]; rfl
    have t1 : q.tmps[1]? = some (.int .i64 (ip : Int)) := by rw [hoth 1 (by kernel_rfl)]; rfl
    match i, hi, ho with
    | 0, _, ho =>
      simp only [List.getElem?_cons_zero, Option.some.injEq] at ho
      subst ho
      unfold Oper.wp
      simp [execOp, go_sem, t0]
      exact came _ rfl (Below.refl _ _) rfl (fun h => absurd h (by decide))
    | 1, _, ho =>
      simp only [List.getElem?_cons_succ, List.getElem?_cons_zero, Option.some.injEq] at ho
      subst ho
      obtain ⟨u0, e0⟩ := hdep ⟨0, .data⟩ (by simp) rfl _ 39 rfl rfl
      rw [show vals 0 = .pointer (some ⟨b, 0, none⟩) from e0] at u0
      unfold Oper.wp
      simp [execOp, go_sem, u0]
      exact came _ rfl (Below.refl _ _) rfl (fun h => absurd h (by decide))
    | 2, _, ho =>
      simp only [List.getElem?_cons_succ, List.getElem?_cons_zero, Option.some.injEq] at ho
      subst ho
      obtain ⟨u1, e1⟩ := hdep ⟨1, .data⟩ (by simp) rfl _ 40 rfl rfl
      rw [show vals 1 = .pointer (some ⟨b, 0, none⟩) from e1] at u1
      unfold Oper.wp
      simp [execOp, go_sem, u1]
      exact came _ rfl (Below.refl _ _) rfl (fun h => absurd h (by decide))
    | 3, _, ho =>
      simp only [List.getElem?_cons_succ, List.getElem?_cons_zero, Option.some.injEq] at ho
      subst ho
      obtain ⟨u2, e2⟩ := hdep ⟨2, .data⟩ (by simp) rfl _ 41 rfl rfl
      rw [show vals 2 = .pointer (some ⟨b, 1, none⟩) from e2] at u2
      have cc := nd_r (ht.later hX)
      unfold Oper.wp
      simp [execOp, go_sem, u2, cc]
      exact came _ rfl (Below.refl _ _) rfl (fun h => absurd h (by decide))
    | 4, _, ho =>
      simp only [List.getElem?_cons_succ, List.getElem?_cons_zero, Option.some.injEq] at ho
      subst ho
      unfold Oper.wp
      simp [execOp, go_sem, t1]
      exact came _ rfl (Below.refl _ _) rfl (fun h => absurd h (by decide))
    | 5, _, ho =>
      simp only [List.getElem?_cons_succ, List.getElem?_cons_zero, Option.some.injEq] at ho
      subst ho
      unfold Oper.wp
      simp [execOp, go_sem, t0]
      exact came _ rfl (Below.refl _ _) rfl (fun h => absurd h (by decide))
    | 6, _, ho =>
      simp only [List.getElem?_cons_succ, List.getElem?_cons_zero, Option.some.injEq] at ho
      subst ho
      obtain ⟨u5, e5⟩ := hdep ⟨5, .data⟩ (by simp) rfl _ 44 rfl rfl
      rw [show vals 5 = .pointer (some ⟨b, 0, none⟩) from e5] at u5
      unfold Oper.wp
      simp [execOp, go_sem, u5]
      exact came _ rfl (Below.refl _ _) rfl (fun h => absurd h (by decide))
    | 7, _, ho =>
      simp only [List.getElem?_cons_succ, List.getElem?_cons_zero, Option.some.injEq] at ho
      subst ho
      obtain ⟨u6, e6⟩ := hdep ⟨6, .data⟩ (by simp) rfl _ 45 rfl rfl
      rw [show vals 6 = .pointer (some ⟨b, 0, none⟩) from e6] at u6
      unfold Oper.wp
      simp [execOp, go_sem, u6]
      exact came _ rfl (Below.refl _ _) rfl (fun h => absurd h (by decide))
    | 8, _, ho =>
      simp only [List.getElem?_cons_succ, List.getElem?_cons_zero, Option.some.injEq] at ho
      subst ho
      obtain ⟨u7, e7⟩ := hdep ⟨7, .data⟩ (by simp) rfl _ 46 rfl rfl
      rw [show vals 7 = .pointer (some ⟨b, 0, none⟩) from e7] at u7
      have cc := nd_l (ht.later hX)
      unfold Oper.wp
      simp [execOp, go_sem, u7, cc]
      exact came _ rfl (Below.refl _ _) rfl (fun h => absurd h (by decide))
    | 9, _, ho =>
      simp only [List.getElem?_cons_succ, List.getElem?_cons_zero, Option.some.injEq] at ho
      subst ho
      obtain ⟨u8, e8⟩ := hdep ⟨8, .data⟩ (by simp) rfl _ 47 rfl rfl
      rw [show vals 8 = .pointer (some ⟨nx.blk, 0, none⟩) from e8] at u8
      unfold Oper.wp
      simp [execOp, go_sem, u8]
      exact came _ rfl (Below.refl _ _) rfl (fun h => absurd h (by decide))
    | 10, _, ho =>
      simp only [List.getElem?_cons_succ, List.getElem?_cons_zero, Option.some.injEq] at ho
      subst ho
      obtain ⟨u9, e9⟩ := hdep ⟨9, .data⟩ (by simp) rfl _ 48 rfl rfl
      rw [show vals 9 = .pointer (some ⟨nx.blk, 0, none⟩) from e9] at u9
      unfold Oper.wp
      simp [execOp, go_sem, u9]
      exact came _ rfl (Below.refl _ _) rfl (fun h => absurd h (by decide))
    | 11, _, ho =>
      simp only [List.getElem?_cons_succ, List.getElem?_cons_zero, Option.some.injEq] at ho
      subst ho
      obtain ⟨u10, e10⟩ := hdep ⟨10, .data⟩ (by simp) rfl _ 49 rfl rfl
      rw [show vals 10 = .pointer (some ⟨nx.blk, 4, none⟩) from e10] at u10
      have cc := nd_sz (ht.2.1.later hX)
      unfold Oper.wp
      simp [execOp, go_sem, u10, cc]
      exact came _ rfl (Below.refl _ _) rfl (fun h => absurd h (by decide))
    | 12, _, ho =>
      simp only [List.getElem?_cons_succ, List.getElem?_cons_zero, Option.some.injEq] at ho
      subst ho
      obtain ⟨u4, e4⟩ := hdep ⟨4, .data⟩ (by simp) rfl _ 43 rfl rfl
      rw [show vals 4 = .int .i64 (ip : Int) from e4] at u4
      obtain ⟨u11, e11⟩ := hdep ⟨11, .data⟩ (by simp) rfl _ 50 rfl rfl
      rw [show vals 11 = .int .i64 (nx.els.length : Int) from e11] at u11
      have wr1 : IntKind.i64.wrap ((ip : Int) - (nx.els.length : Int)) = ((ip - nx.els.length : Nat) : Int) := by rw [IntKind.wrap_i64]; omega
      unfold Oper.wp
      simp [execOp, go_sem, u4, u11, wr1]
      exact came _ rfl (Below.refl _ _) rfl (fun h => absurd h (by decide))
    | 13, _, ho =>
      simp only [List.getElem?_cons_succ, List.getElem?_cons_zero, Option.some.injEq] at ho
      subst ho
      obtain ⟨u3, e3⟩ := hdep ⟨3, .data⟩ (by simp) rfl _ 42 rfl rfl
      rw [show vals 3 = .pointer (some ⟨ny.blk, 0, none⟩) from e3] at u3
      obtain ⟨u12, e12⟩ := hdep ⟨12, .data⟩ (by simp) rfl _ 51 rfl rfl
      rw [show vals 12 = .int .i64 ((ip - nx.els.length : Nat) : Int) from e12] at u12
      unfold Oper.wp
      simp [go_sem, u3, u12]
      refine (C.out _ hX).mono ?_
      rintro r x1 ⟨v1, v2, rfl, g1, g2, hb1⟩
      exact came _ rfl hb1 ⟨v1, v2, rfl, g1, g2⟩ (fun h => absurd h (by decide))
    | 14, _, ho =>
      simp only [List.getElem?_cons_succ, List.getElem?_cons_zero, Option.some.injEq] at ho
      subst ho
      obtain ⟨u13, e13⟩ := hdep ⟨13, .data⟩ (by simp) rfl _ 52 rfl rfl
      obtain ⟨p1, p2, k1, k2, k3⟩ : ∃ p1 p2, vals 13 = .tuple #[p1, p2] ∧ OTree R (ny.fr (ip - nx.els.length)).1 p1 x ∧ SlE x p2 (ny.fr (ip - nx.els.length)).2 := e13
      rw [k1] at u13
      unfold Oper.wp
      simp [execOp, go_sem, u13]
      exact came _ rfl (Below.refl _ _) ⟨p1, p2, rfl, k2, k3⟩ (fun h => absurd h (by decide))
    | 15, _, ho =>
      simp only [List.getElem?_cons_succ, List.getElem?_cons_zero, Option.some.injEq] at ho
      subst ho
      obtain ⟨u14, e14⟩ := hdep ⟨14, .data⟩ (by simp) rfl _ 38 rfl rfl
      obtain ⟨p1, p2, k1, k2, k3⟩ : ∃ p1 p2, vals 14 = .tuple #[p1, p2] ∧ OTree R (ny.fr (ip - nx.els.length)).1 p1 x ∧ SlE x p2 (ny.fr (ip - nx.els.length)).2 := e14
      rw [k1] at u14
      unfold Oper.wp
      simp [execOp, go_sem, u14]
      exact came _ rfl (Below.refl _ _) k2 (fun h => absurd h (by decide))
    | 16, _, ho =>
      simp only [List.getElem?_cons_succ, List.getElem?_cons_zero, Option.some.injEq] at ho
      subst ho
      obtain ⟨u14, e14⟩ := hdep ⟨14, .data⟩ (by simp) rfl _ 38 rfl rfl
      obtain ⟨p1, p2, k1, k2, k3⟩ : ∃ p1 p2, vals 14 = .tuple #[p1, p2] ∧ OTree R (ny.fr (ip - nx.els.length)).1 p1 x ∧ SlE x p2 (ny.fr (ip - nx.els.length)).2 := e14
      rw [k1] at u14
      unfold Oper.wp
      simp [execOp, go_sem, u14]
      exact came _ rfl (Below.refl _ _) k3 (fun h => absurd h (by decide))
    | 17, _, ho =>
      simp only [List.getElem?_cons_succ, List.getElem?_cons_zero, Option.some.injEq] at ho
      subst ho
      obtain ⟨u15, e15⟩ := hdep ⟨15, .data⟩ (by simp) rfl _ 53 rfl rfl
      unfold Oper.wp
      simp [execOp, go_sem, u15]
      exact came _ rfl (Below.refl _ _) e15 (fun h => absurd h (by decide))
    | 18, _, ho =>
      simp only [List.getElem?_cons_succ, List.getElem?_cons_zero, Option.some.injEq] at ho
      subst ho
      obtain ⟨u16, e16⟩ := hdep ⟨16, .data⟩ (by simp) rfl _ 54 rfl rfl
      unfold Oper.wp
      simp [execOp, go_sem, u16]
      exact came _ rfl (Below.refl _ _) e16 (fun h => absurd h (by decide))
    | m + 19, hi, _ => exact absurd hi (by omega)
  · intro vals x' hX hR _
    have r17 : OTree R (ny.fr (ip - nx.els.length)).1 (vals 17) x' := hR 17 (by decide)
    have r18 : SlE x' (vals 18) (ny.fr (ip - nx.els.length)).2 := hR 18 (by decide)
    have d0' := nd_l (ht.later hX)
    have HJ := hid_of' (joinedO (.inr ⟨nx, rfl, HX.out.1.later hX, HX.out.2, rfl⟩) r17 HN.out)
    clear d0 d4 ht
    simp only [List.take, List.drop, putAll]
    go_wp2_with (go_at_call 82; refine HJ.out.mono ?_; rintro r w1 ⟨v1, rfl, g1, hb1⟩)
    go_ret2
    rw [HE.out]
    exact ⟨_, _, rfl, g1, r18.later hb1, bgo hX hb1⟩

theorem front_any {R : Rows} : ∀ (t : Nd) (ip : Nat) (w : World), t.At R w → t.Full → t.els.length ≤ 1073741824 → ip ≤ t.els.length → Calls Tryz.prog 66 #[.pointer (some ⟨t.blk, 0, none⟩), .int .i64 (ip : Int)] w fun r w' => ∃ v u, r = .returned (.tuple #[v, u]) ∧ OTree R ((t).fr ip).1 v w' ∧ SlE w' u ((t).fr ip).2 ∧ Below w.heap.size w w'
  | .leaf b g o_ c l, ip, w, ht, _, _, hi => front_leaf b g o_ c l ip w ht hi
  | .inner b nx ny, ip, w, ht, hf, hn, hi => by
    simp only [Nd.els, List.length_append] at hn hi
    by_cases hlt : ip < nx.els.length
    · exact front_low ip ht hlt (by omega) (front_any nx ip w ht.2.1 hf.1 (by omega) (by omega))
    · exact front_high ip ht hf.1 hlt (by omega) (by rw [List.length_append]; omega) (fun w' hb => front_any ny (ip - nx.els.length) w' (ht.2.2.later hb) hf.2 (by omega) (by omega))
end Go.Proofs.YtjalehlmldlooaaGreatDoor
