
/-
  tree.replaced.
-/
import Derived.Test.YtjalehlmldlooaaGreatDoorZap17
namespace Go.Proofs.YtjalehlmldlooaaGreatDoor
open Go.RowKit
set_option maxRecDepth 100000

/-- A row that was made new, behind all that is kept clear of. -/
def CatRow (R : Rows) (cat : List El) (v : Value) (x : World) : Prop := ∃ g1 c1, R.hi ≤ g1 ∧ v = .slice (some ⟨g1, 0, none⟩) cat.length c1 ∧ ElsAt g1 0 cat x ∧ cat.length ≤ c1 ∧ c1 ≤ 9223372036854775807

set_option maxHeartbeats 4000000 in
theorem replaced_leaf {R : Rows} (b g o_ c : Nat) (m : List El) (ip cn : Nat) (l : List El) (a' : Option Addr) (c' : Nat) (w : World) (ht : (Nd.leaf b g o_ c m).At R w) (hl : l ≠ []) (hic : ip + cn ≤ m.length) (hn : m.length + l.length ≤ 1073741824) (hu : SlE w (.slice a' l.length c') l) (hc : ¬ c = ip + cn) :
    Calls Tryz.prog 45 #[.pointer (some ⟨b, 0, none⟩), .int .i64 (ip : Int), .int .i64 (cn : Int), .slice a' l.length c'] w fun r w' => ∃ v, r = .returned v ∧ LTree R ((Nd.leaf b g o_ c m).rp ip cn l) v w' ∧ Below w.heap.size w w' := by
  have HI := hid_of' (isLeaf_any ht)
  unfold pv Nd.blk Nd.isL at HI
  obtain ⟨hE, hlc, hc9, hrk, hz⟩ := ht.2
  have e1 : (ip : Int) ≤ (c : Int) := by omega
  have e0 : 0 ≤ (ip : Int) := by omega
  have s1 : Hid (∀ x, Below w.heap.size w x → SlE x (.slice (some ⟨g, o_, none⟩) ip c) (m.take ip)) := fun x hx => .inr ⟨g, o_, c, by rw [List.length_take, Nat.min_eq_left (by omega)], (hE.later hx).take ip⟩
  have s2 : Hid (∀ x, Below w.heap.size w x → SlE x (.slice (some ⟨g, o_ + (ip + cn) * 5, none⟩) (m.length - (ip + cn)) (c - (ip + cn))) (m.drop (ip + cn))) := fun x hx => .inr ⟨g, o_ + (ip + cn) * 5, c - (ip + cn), by rw [List.length_drop], (hE.later hx).drop (ip + cn)⟩
  have HU := hid_of' hu
  have hne : m.take ip ++ (l ++ m.drop (ip + cn)) ≠ [] := by simp [hl]
  have hlen : (m.take ip ++ (l ++ m.drop (ip + cn))).length ≤ 1099511627776 := by simp only [List.length_append, List.length_take, List.length_drop]; omega
  have HCE : Hid (catE [(.slice (some ⟨g, o_, none⟩) ip c, m.take ip), (.slice a' l.length c', l), (.slice (some ⟨g, o_ + (ip + cn) * 5, none⟩) (m.length - (ip + cn)) (c - (ip + cn)), m.drop (ip + cn))] = m.take ip ++ (l ++ m.drop (ip + cn))) := by show catE _ = _; simp only [catE, List.flatMap_cons, List.flatMap_nil, List.append_nil]
  clear hE hu
  go_enter Tryz.func45, Tryz.ntmps45
  go_upto_region 2 with (go_at_call 62; refine HI.out.mono ?_; rintro r w1 ⟨rfl, hw⟩; obtain rfl := hw.symm)
  refine wp_region_tail 18 (by kernel_rfl) (fun _ => none) (by kernel_rfl) (by kernel_rfl) (by decide) (fun i v x => match i with
    | 0 => v = .pointer (some ⟨b, 0, none⟩)
    | 1 => v = .pointer (some ⟨b, 0, none⟩)
    | 2 => v = .pointer (some ⟨b, 2, none⟩)
    | 3 => v = .slice (some ⟨g, o_, none⟩) m.length c
    | 4 => v = .int .i64 (ip : Int)
    | 5 => v = .slice (some ⟨g, o_, none⟩) ip c
    | 6 => v = .slice a' l.length c'
    | 7 => v = .pointer (some ⟨b, 0, none⟩)
    | 8 => v = .pointer (some ⟨b, 0, none⟩)
    | 9 => v = .pointer (some ⟨b, 2, none⟩)
    | 10 => v = .slice (some ⟨g, o_, none⟩) m.length c
    | 11 => v = .int .i64 (ip : Int)
    | 12 => v = .int .i64 (cn : Int)
    | 13 => v = .int .i64 ((ip + cn : Nat) : Int)
    | 14 => v = .slice (some ⟨g, o_ + (ip + cn) * 5, none⟩) (m.length - (ip + cn)) (c - (ip + cn))
    | 15 => ∃ gg, v = .slice (some ⟨gg, 0, none⟩) 3 3 ∧ RowAt gg #[.slice (some ⟨g, o_, none⟩) ip c, .slice a' l.length c', .slice (some ⟨g, o_ + (ip + cn) * 5, none⟩) (m.length - (ip + cn)) (c - (ip + cn))] 22 x
    | 16 => CatRow R (m.take ip ++ (l ++ m.drop (ip + cn))) v x
    | 17 => LTree R [(m.take ip ++ (l ++ m.drop (ip + cn)))] v x
    | _ => True) (fun _ => false) (fun _ _ _ _ h => by cases h) ?_ ?_ ?_
  · intro i v x x' hR hb
    match i, hR with
    | 0, h => exact h
    | 1, h => exact h
    | 2, h => exact h
    | 3, h => exact h
    | 4, h => exact h
    | 5, h => exact h
    | 6, h => exact h
    | 7, h => exact h
    | 8, h => exact h
    | 9, h => exact h
    | 10, h => exact h
    | 11, h => exact h
    | 12, h => exact h
    | 13, h => exact h
    | 14, h => exact h
    | 15, h => exact (by obtain ⟨gg, k1, k2⟩ := h; exact ⟨gg, k1, k2.later hb⟩)
    | 16, h => exact (by obtain ⟨g1, c1, k1, k2, k3, k4⟩ := h; exact ⟨g1, c1, k1, k2, k3.later hb, k4⟩)
    | 17, h => exact LTree.later h hb
    | m + 18, h => exact h
  · intro i o hi ho q x vals hX hdep hoth
    have t0 : q.tmps[0]? = some (.pointer (some ⟨b, 0, none⟩)) := by rw [hoth 0 (by kernel_rfl)]; rfl
    have t1 : q.tmps[1]? = some (.int .i64 (ip : Int)) := by rw [hoth 1 (by kernel_rfl)]; rfl
    have t2 : q.tmps[2]? = some (.int .i64 (cn : Int)) := by rw [hoth 2 (by kernel_rfl)]; rfl
    have t3 : q.tmps[3]? = some (.slice a' l.length c') := by rw [hoth 3 (by kernel_rfl)]; rfl
    match i, hi, ho with
    | 0, _, ho =>
      simp only [List.getElem?_cons_zero, Option.some.injEq] at ho
      subst ho
      unfold Oper.wp
      simp [execOp, go_sem, t0]
      exact came _ rfl (Below.refl _ _) rfl (fun h => absurd h (by decide))
    | 1, _, ho =>
      simp only [List.getElem?_cons_succ, List.getElem?_cons_zero, Option.some.injEq] at ho
      subst ho
      obtain ⟨u0, e0⟩ := hdep ⟨0, .data⟩ (by simp) rfl _ 11 rfl rfl
      rw [show vals 0 = .pointer (some ⟨b, 0, none⟩) from e0] at u0
      unfold Oper.wp
      simp [execOp, go_sem, u0]
      exact came _ rfl (Below.refl _ _) rfl (fun h => absurd h (by decide))
    | 2, _, ho =>
      simp only [List.getElem?_cons_succ, List.getElem?_cons_zero, Option.some.injEq] at ho
      subst ho
      obtain ⟨u1, e1⟩ := hdep ⟨1, .data⟩ (by simp) rfl _ 12 rfl rfl
      rw [show vals 1 = .pointer (some ⟨b, 0, none⟩) from e1] at u1
      unfold Oper.wp
      simp [execOp, go_sem, u1]
      exact came _ rfl (Below.refl _ _) rfl (fun h => absurd h (by decide))
    | 3, _, ho =>
      simp only [List.getElem?_cons_succ, List.getElem?_cons_zero, Option.some.injEq] at ho
      subst ho
      obtain ⟨u2, e2⟩ := hdep ⟨2, .data⟩ (by simp) rfl _ 13 rfl rfl
      rw [show vals 2 = .pointer (some ⟨b, 2, none⟩) from e2] at u2
      have cc : x.cell? ⟨b, 2, none⟩ = some (.slice (some ⟨g, o_, none⟩) m.length c) := (ht.1.later hX).cell 2
      unfold Oper.wp
      simp [execOp, go_sem, u2, cc]
      exact came _ rfl (Below.refl _ _) rfl (fun h => absurd h (by decide))
    | 4, _, ho =>
      simp only [List.getElem?_cons_succ, List.getElem?_cons_zero, Option.some.injEq] at ho
      subst ho
      unfold Oper.wp
      simp [execOp, go_sem, t1]
      exact came _ rfl (Below.refl _ _) rfl (fun h => absurd h (by decide))
    | 5, _, ho =>
      simp only [List.getElem?_cons_succ, List.getElem?_cons_zero, Option.some.injEq] at ho
      subst ho
      obtain ⟨u3, e3⟩ := hdep ⟨3, .data⟩ (by simp) rfl _ 14 rfl rfl
      rw [show vals 3 = .slice (some ⟨g, o_, none⟩) m.length c from e3] at u3
      obtain ⟨u4, e4⟩ := hdep ⟨4, .data⟩ (by simp) rfl _ 15 rfl rfl
      rw [show vals 4 = .int .i64 (ip : Int) from e4] at u4
      unfold Oper.wp
      simp [execOp, go_sem, u3, u4, e1, e0]
      exact came _ rfl (Below.refl _ _) rfl (fun h => absurd h (by decide))
    | 6, _, ho =>
      simp only [List.getElem?_cons_succ, List.getElem?_cons_zero, Option.some.injEq] at ho
      subst ho
      unfold Oper.wp
      simp [execOp, go_sem, t3]
      exact came _ rfl (Below.refl _ _) rfl (fun h => absurd h (by decide))
    | 7, _, ho =>
      simp only [List.getElem?_cons_succ, List.getElem?_cons_zero, Option.some.injEq] at ho
      subst ho
      unfold Oper.wp
      simp [execOp, go_sem, t0]
      exact came _ rfl (Below.refl _ _) rfl (fun h => absurd h (by decide))
    | 8, _, ho =>
      simp only [List.getElem?_cons_succ, List.getElem?_cons_zero, Option.some.injEq] at ho
      subst ho
      obtain ⟨u7, e7⟩ := hdep ⟨7, .data⟩ (by simp) rfl _ 18 rfl rfl
      rw [show vals 7 = .pointer (some ⟨b, 0, none⟩) from e7] at u7
      unfold Oper.wp
      simp [execOp, go_sem, u7]
      exact came _ rfl (Below.refl _ _) rfl (fun h => absurd h (by decide))
    | 9, _, ho =>
      simp only [List.getElem?_cons_succ, List.getElem?_cons_zero, Option.some.injEq] at ho
      subst ho
      obtain ⟨u8, e8⟩ := hdep ⟨8, .data⟩ (by simp) rfl _ 19 rfl rfl
      rw [show vals 8 = .pointer (some ⟨b, 0, none⟩) from e8] at u8
      unfold Oper.wp
      simp [execOp, go_sem, u8]
      exact came _ rfl (Below.refl _ _) rfl (fun h => absurd h (by decide))
    | 10, _, ho =>
      simp only [List.getElem?_cons_succ, List.getElem?_cons_zero, Option.some.injEq] at ho
      subst ho
      obtain ⟨u9, e9⟩ := hdep ⟨9, .data⟩ (by simp) rfl _ 20 rfl rfl
      rw [show vals 9 = .pointer (some ⟨b, 2, none⟩) from e9] at u9
      have cc : x.cell? ⟨b, 2, none⟩ = some (.slice (some ⟨g, o_, none⟩) m.length c) := (ht.1.later hX).cell 2
      unfold Oper.wp
      simp [execOp, go_sem, u9, cc]
      exact came _ rfl (Below.refl _ _) rfl (fun h => absurd h (by decide))
    | 11, _, ho =>
      simp only [List.getElem?_cons_succ, List.getElem?_cons_zero, Option.some.injEq] at ho
      subst ho
      unfold Oper.wp
      simp [execOp, go_sem, t1]
      exact came _ rfl (Below.refl _ _) rfl (fun h => absurd h (by decide))
    | 12, _, ho =>
      simp only [List.getElem?_cons_succ, List.getElem?_cons_zero, Option.some.injEq] at ho
      subst ho
      unfold Oper.wp
      simp [execOp, go_sem, t2]
      exact came _ rfl (Below.refl _ _) rfl (fun h => absurd h (by decide))
    | 13, _, ho =>
      simp only [List.getElem?_cons_succ, List.getElem?_cons_zero, Option.some.injEq] at ho
      subst ho
      obtain ⟨u11, e11⟩ := hdep ⟨11, .data⟩ (by simp) rfl _ 22 rfl rfl
      rw [show vals 11 = .int .i64 (ip : Int) from e11] at u11
      obtain ⟨u12, e12⟩ := hdep ⟨12, .data⟩ (by simp) rfl _ 23 rfl rfl
      rw [show vals 12 = .int .i64 (cn : Int) from e12] at u12
      have wr1 : IntKind.i64.wrap ((ip : Int) + (cn : Int)) = ((ip + cn : Nat) : Int) := by rw [IntKind.wrap_i64]; omega
      unfold Oper.wp
      simp [execOp, go_sem, u11, u12, wr1]
      exact came _ rfl (Below.refl _ _) rfl (fun h => absurd h (by decide))
    | 14, _, ho =>
      simp only [List.getElem?_cons_succ, List.getElem?_cons_zero, Option.some.injEq] at ho
      subst ho
      obtain ⟨u10, e10⟩ := hdep ⟨10, .data⟩ (by simp) rfl _ 21 rfl rfl
      rw [show vals 10 = .slice (some ⟨g, o_, none⟩) m.length c from e10] at u10
      obtain ⟨u13, e13⟩ := hdep ⟨13, .data⟩ (by simp) rfl _ 24 rfl rfl
      rw [show vals 13 = .int .i64 ((ip + cn : Nat) : Int) from e13] at u13
      have f1 : 0 ≤ (ip : Int) + (cn : Int) := by omega
      have f2 : (ip : Int) + (cn : Int) ≤ (m.length : Int) := by omega
      have f3 : ((ip : Int) + (cn : Int)).toNat = ip + cn := by omega
      have f5 : ¬ (c = ip + cn) := hc
      unfold Oper.wp
      simp [execOp, go_sem, u10, u13, f1, f2, f3, f5]
      exact came _ rfl (Below.refl _ _) rfl (fun h => absurd h (by decide))
    | 15, _, ho =>
      simp only [List.getElem?_cons_succ, List.getElem?_cons_zero, Option.some.injEq] at ho
      subst ho
      obtain ⟨u5, e5⟩ := hdep ⟨5, .data⟩ (by simp) rfl _ 16 rfl rfl
      rw [show vals 5 = .slice (some ⟨g, o_, none⟩) ip c from e5] at u5
      obtain ⟨u6, e6⟩ := hdep ⟨6, .data⟩ (by simp) rfl _ 17 rfl rfl
      rw [show vals 6 = .slice a' l.length c' from e6] at u6
      obtain ⟨u14, e14⟩ := hdep ⟨14, .data⟩ (by simp) rfl _ 25 rfl rfl
      rw [show vals 14 = .slice (some ⟨g, o_ + (ip + cn) * 5, none⟩) (m.length - (ip + cn)) (c - (ip + cn)) from e14] at u14
      unfold Oper.wp
      simp [execOp, go_sem, u5, u6, u14]
      exact came _ rfl (below_one _ _) ⟨x.heap.size, rfl, row_new x _ _⟩ (fun h => absurd h (by decide))
    | 16, _, ho =>
      simp only [List.getElem?_cons_succ, List.getElem?_cons_zero, Option.some.injEq] at ho
      subst ho
      obtain ⟨u15, e15⟩ := hdep ⟨15, .data⟩ (by simp) rfl _ 26 rfl rfl
      obtain ⟨gg, k1, k2⟩ : ∃ gg, vals 15 = .slice (some ⟨gg, 0, none⟩) 3 3 ∧ RowAt gg #[.slice (some ⟨g, o_, none⟩) ip c, .slice a' l.length c', .slice (some ⟨g, o_ + (ip + cn) * 5, none⟩) (m.length - (ip + cn)) (c - (ip + cn))] 22 x := e15
      rw [k1] at u15
      unfold Oper.wp
      simp [go_sem, u15]
      refine (concat_any [(.slice (some ⟨g, o_, none⟩) ip c, m.take ip), (.slice a' l.length c', l), (.slice (some ⟨g, o_ + (ip + cn) * 5, none⟩) (m.length - (ip + cn)) (c - (ip + cn)), m.drop (ip + cn))] gg 0 3 x (fun i p hp => by match i, hp with | 0, hp => (simp at hp; subst hp; exact ⟨by rw [k2.cell]; rfl, s1.out _ hX⟩) | 1, hp => (simp at hp; subst hp; exact ⟨by rw [k2.cell]; rfl, HU.out.later hX⟩) | 2, hp => (simp at hp; subst hp; exact ⟨by rw [k2.cell]; rfl, s2.out _ hX⟩) | i + 3, hp => simp at hp) k2.lt (by rw [HCE.out]; exact hlen) (by simp)).mono ?_
      rintro r x1 ⟨v3, rfl, ho, hb1⟩
      rw [HCE.out] at ho
      obtain ⟨g1, c1, hg1, rfl, he1, hlc1, hc1⟩ := ho.room hne
      exact came _ rfl hb1 ⟨g1, c1, Nat.le_trans hz (Nat.le_trans hX.size hg1), rfl, he1, hlc1, hc1⟩ (fun h => absurd h (by decide))
    | 17, _, ho =>
      simp only [List.getElem?_cons_succ, List.getElem?_cons_zero, Option.some.injEq] at ho
      subst ho
      obtain ⟨u16, e16⟩ := hdep ⟨16, .data⟩ (by simp) rfl _ 27 rfl rfl
      obtain ⟨g1, c1, k1, k2, k3, k4, k5⟩ : CatRow R (m.take ip ++ (l ++ m.drop (ip + cn))) (vals 16) x := e16
      rw [k2] at u16
      unfold Oper.wp
      simp only [go_sem]
      simp [go_sem, u16]
      have HO := leafOf_any (m.take ip ++ (l ++ m.drop (ip + cn))) g1 0 c1 x k3 hlen k4 k5 (Rk.new k1) (Nat.le_trans hz hX.size)
      simp only [List.length_append, List.length_take, List.length_drop] at HO
      refine HO.mono ?_
      rintro r x1 ⟨b4, _, rfl, t4, hb4⟩
      exact came _ rfl hb4 ⟨_, rfl, t4, hne, rfl⟩ (fun h => absurd h (by decide))
    | m + 18, hi, _ => exact absurd hi (by omega)
  · intro vals w2 hX hR _
    obtain ⟨tn, p1, p2, p3, p4⟩ : LTree R [m.take ip ++ (l ++ m.drop (ip + cn))] (vals 17) w2 := hR 17 (by decide)
    clear HI s1 s2 HU ht
    simp only [List.take, List.drop, putAll, p1]
    go_wp2
    go_ret
    exact ⟨_, rfl, ⟨tn, rfl, p2, p3, p4⟩, hX⟩

set_option maxHeartbeats 4000000 in
theorem replaced_leafE {R : Rows} (b g o_ c : Nat) (m : List El) (ip cn : Nat) (l : List El) (a' : Option Addr) (c' : Nat) (w : World) (ht : (Nd.leaf b g o_ c m).At R w) (hl : l ≠ []) (hic : ip + cn ≤ m.length) (hn : m.length + l.length ≤ 1073741824) (hu : SlE w (.slice a' l.length c') l) (hc : c = ip + cn) :
    Calls Tryz.prog 45 #[.pointer (some ⟨b, 0, none⟩), .int .i64 (ip : Int), .int .i64 (cn : Int), .slice a' l.length c'] w fun r w' => ∃ v, r = .returned v ∧ LTree R ((Nd.leaf b g o_ c m).rp ip cn l) v w' ∧ Below w.heap.size w w' := by
  have HI := hid_of' (isLeaf_any ht)
  unfold pv Nd.blk Nd.isL at HI
  obtain ⟨hE, hlc, hc9, hrk, hz⟩ := ht.2
  have e1 : (ip : Int) ≤ (c : Int) := by omega
  have e0 : 0 ≤ (ip : Int) := by omega
  have s1 : Hid (∀ x, Below w.heap.size w x → SlE x (.slice (some ⟨g, o_, none⟩) ip c) (m.take ip)) := fun x hx => .inr ⟨g, o_, c, by rw [List.length_take, Nat.min_eq_left (by omega)], (hE.later hx).take ip⟩
  have s2 : Hid (∀ x, Below w.heap.size w x → SlE x (.slice (some ⟨g, o_, none⟩) 0 0) (m.drop (ip + cn))) := fun x hx => .inl ⟨List.drop_eq_nil_of_le (by omega), _, _, rfl⟩
  have HU := hid_of' hu
  have hne : m.take ip ++ (l ++ m.drop (ip + cn)) ≠ [] := by simp [hl]
  have hlen : (m.take ip ++ (l ++ m.drop (ip + cn))).length ≤ 1099511627776 := by simp only [List.length_append, List.length_take, List.length_drop]; omega
  have HCE : Hid (catE [(.slice (some ⟨g, o_, none⟩) ip c, m.take ip), (.slice a' l.length c', l), (.slice (some ⟨g, o_, none⟩) 0 0, m.drop (ip + cn))] = m.take ip ++ (l ++ m.drop (ip + cn))) := by show catE _ = _; simp only [catE, List.flatMap_cons, List.flatMap_nil, List.append_nil]
  clear hE hu
  go_enter Tryz.func45, Tryz.ntmps45
  go_upto_region 2 with (go_at_call 62; refine HI.out.mono ?_; rintro r w1 ⟨rfl, hw⟩; obtain rfl := hw.symm)
  refine wp_region_tail 18 (by kernel_rfl) (fun _ => none) (by kernel_rfl) (by kernel_rfl) (by decide) (fun i v x => match i with
    | 0 => v = .pointer (some ⟨b, 0, none⟩)
    | 1 => v = .pointer (some ⟨b, 0, none⟩)
    | 2 => v = .pointer (some ⟨b, 2, none⟩)
    | 3 => v = .slice (some ⟨g, o_, none⟩) m.length c
    | 4 => v = .int .i64 (ip : Int)
    | 5 => v = .slice (some ⟨g, o_, none⟩) ip c
    | 6 => v = .slice a' l.length c'
    | 7 => v = .pointer (some ⟨b, 0, none⟩)
    | 8 => v = .pointer (some ⟨b, 0, none⟩)
    | 9 => v = .pointer (some ⟨b, 2, none⟩)
    | 10 => v = .slice (some ⟨g, o_, none⟩) m.length c
    | 11 => v = .int .i64 (ip : Int)
    | 12 => v = .int .i64 (cn : Int)
    | 13 => v = .int .i64 ((ip + cn : Nat) : Int)
    | 14 => v = .slice (some ⟨g, o_, none⟩) 0 0
    | 15 => ∃ gg, v = .slice (some ⟨gg, 0, none⟩) 3 3 ∧ RowAt gg #[.slice (some ⟨g, o_, none⟩) ip c, .slice a' l.length c', .slice (some ⟨g, o_, none⟩) 0 0] 22 x
    | 16 => CatRow R (m.take ip ++ (l ++ m.drop (ip + cn))) v x
    | 17 => LTree R [(m.take ip ++ (l ++ m.drop (ip + cn)))] v x
    | _ => True) (fun _ => false) (fun _ _ _ _ h => by cases h) ?_ ?_ ?_
  · intro i v x x' hR hb
    match i, hR with
    | 0, h => exact h
    | 1, h => exact h
    | 2, h => exact h
    | 3, h => exact h
    | 4, h => exact h
    | 5, h => exact h
    | 6, h => exact h
    | 7, h => exact h
    | 8, h => exact h
    | 9, h => exact h
    | 10, h => exact h
    | 11, h => exact h
    | 12, h => exact h
    | 13, h => exact h
    | 14, h => exact h
    | 15, h => exact (by obtain ⟨gg, k1, k2⟩ := h; exact ⟨gg, k1, k2.later hb⟩)
    | 16, h => exact (by obtain ⟨g1, c1, k1, k2, k3, k4⟩ := h; exact ⟨g1, c1, k1, k2, k3.later hb, k4⟩)
    | 17, h => exact LTree.later h hb
    | m + 18, h => exact h
  · intro i o hi ho q x vals hX hdep hoth
    have t0 : q.tmps[0]? = some (.pointer (some ⟨b, 0, none⟩)) := by rw [hoth 0 (by kernel_rfl)]; rfl
    have t1 : q.tmps[1]? = some (.int .i64 (ip : Int)) := by rw [hoth 1 (by kernel_rfl)]; rfl
    have t2 : q.tmps[2]? = some (.int .i64 (cn : Int)) := by rw [hoth 2 (by kernel_rfl)]; rfl
    have t3 : q.tmps[3]? = some (.slice a' l.length c') := by rw [hoth 3 (by kernel_rfl)]; rfl
    match i, hi, ho with
    | 0, _, ho =>
      simp only [List.getElem?_cons_zero, Option.some.injEq] at ho
      subst ho
      unfold Oper.wp
      simp [execOp, go_sem, t0]
      exact came _ rfl (Below.refl _ _) rfl (fun h => absurd h (by decide))
    | 1, _, ho =>
      simp only [List.getElem?_cons_succ, List.getElem?_cons_zero, Option.some.injEq] at ho
      subst ho
      obtain ⟨u0, e0⟩ := hdep ⟨0, .data⟩ (by simp) rfl _ 11 rfl rfl
      rw [show vals 0 = .pointer (some ⟨b, 0, none⟩) from e0] at u0
      unfold Oper.wp
      simp [execOp, go_sem, u0]
      exact came _ rfl (Below.refl _ _) rfl (fun h => absurd h (by decide))
    | 2, _, ho =>
      simp only [List.getElem?_cons_succ, List.getElem?_cons_zero, Option.some.injEq] at ho
      subst ho
      obtain ⟨u1, e1⟩ := hdep ⟨1, .data⟩ (by simp) rfl _ 12 rfl rfl
      rw [show vals 1 = .pointer (some ⟨b, 0, none⟩) from e1] at u1
      unfold Oper.wp
      simp [execOp, go_sem, u1]
      exact came _ rfl (Below.refl _ _) rfl (fun h => absurd h (by decide))
    | 3, _, ho =>
      simp only [List.getElem?_cons_succ, List.getElem?_cons_zero, Option.some.injEq] at ho
      subst ho
      obtain ⟨u2, e2⟩ := hdep ⟨2, .data⟩ (by simp) rfl _ 13 rfl rfl
      rw [show vals 2 = .pointer (some ⟨b, 2, none⟩) from e2] at u2
      have cc : x.cell? ⟨b, 2, none⟩ = some (.slice (some ⟨g, o_, none⟩) m.length c) := (ht.1.later hX).cell 2
      unfold Oper.wp
      simp [execOp, go_sem, u2, cc]
      exact came _ rfl (Below.refl _ _) rfl (fun h => absurd h (by decide))
    | 4, _, ho =>
      simp only [List.getElem?_cons_succ, List.getElem?_cons_zero, Option.some.injEq] at ho
      subst ho
      unfold Oper.wp
      simp [execOp, go_sem, t1]
      exact came _ rfl (Below.refl _ _) rfl (fun h => absurd h (by decide))
    | 5, _, ho =>
      simp only [List.getElem?_cons_succ, List.getElem?_cons_zero, Option.some.injEq] at ho
      subst ho
      obtain ⟨u3, e3⟩ := hdep ⟨3, .data⟩ (by simp) rfl _ 14 rfl rfl
      rw [show vals 3 = .slice (some ⟨g, o_, none⟩) m.length c from e3] at u3
      obtain ⟨u4, e4⟩ := hdep ⟨4, .data⟩ (by simp) rfl _ 15 rfl rfl
      rw [show vals 4 = .int .i64 (ip : Int) from e4] at u4
      unfold Oper.wp
      simp [execOp, go_sem, u3, u4, e1, e0]
      exact came _ rfl (Below.refl _ _) rfl (fun h => absurd h (by decide))
    | 6, _, ho =>
      simp only [List.getElem?_cons_succ, List.getElem?_cons_zero, Option.some.injEq] at ho
      subst ho
      unfold Oper.wp
      simp [execOp, go_sem, t3]
      exact came _ rfl (Below.refl _ _) rfl (fun h => absurd h (by decide))
    | 7, _, ho =>
      simp only [List.getElem?_cons_succ, List.getElem?_cons_zero, Option.some.injEq] at ho
      subst ho
      unfold Oper.wp
      simp [execOp, go_sem, t0]
      exact came _ rfl (Below.refl _ _) rfl (fun h => absurd h (by decide))
    | 8, _, ho =>
      simp only [List.getElem?_cons_succ, List.getElem?_cons_zero, Option.some.injEq] at ho
      subst ho
      obtain ⟨u7, e7⟩ := hdep ⟨7, .data⟩ (by simp) rfl _ 18 rfl rfl
      rw [show vals 7 = .pointer (some ⟨b, 0, none⟩) from e7] at u7
      unfold Oper.wp
      simp [execOp, go_sem, u7]
      exact came _ rfl (Below.refl _ _) rfl (fun h => absurd h (by decide))
    | 9, _, ho =>
      simp only [List.getElem?_cons_succ, List.getElem?_cons_zero, Option.some.injEq] at ho
      subst ho
      obtain ⟨u8, e8⟩ := hdep ⟨8, .data⟩ (by simp) rfl _ 19 rfl rfl
      rw [show vals 8 = .pointer (some ⟨b, 0, none⟩) from e8] at u8
      unfold Oper.wp
      simp [execOp, go_sem, u8]
      exact came _ rfl (Below.refl _ _) rfl (fun h => absurd h (by decide))
    | 10, _, ho =>
      simp only [List.getElem?_cons_succ, List.getElem?_cons_zero, Option.some.injEq] at ho
      subst ho
      obtain ⟨u9, e9⟩ := hdep ⟨9, .data⟩ (by simp) rfl _ 20 rfl rfl
      rw [show vals 9 = .pointer (some ⟨b, 2, none⟩) from e9] at u9
      have cc : x.cell? ⟨b, 2, none⟩ = some (.slice (some ⟨g, o_, none⟩) m.length c) := (ht.1.later hX).cell 2
      unfold Oper.wp
      simp [execOp, go_sem, u9, cc]
      exact came _ rfl (Below.refl _ _) rfl (fun h => absurd h (by decide))
    | 11, _, ho =>
      simp only [List.getElem?_cons_succ, List.getElem?_cons_zero, Option.some.injEq] at ho
      subst ho
      unfold Oper.wp
      simp [execOp, go_sem, t1]
      exact came _ rfl (Below.refl _ _) rfl (fun h => absurd h (by decide))
    | 12, _, ho =>
      simp only [List.getElem?_cons_succ, List.getElem?_cons_zero, Option.some.injEq] at ho
      subst ho
      unfold Oper.wp
      simp [execOp, go_sem, t2]
      exact came _ rfl (Below.refl _ _) rfl (fun h => absurd h (by decide))
    | 13, _, ho =>
      simp only [List.getElem?_cons_succ, List.getElem?_cons_zero, Option.some.injEq] at ho
      subst ho
      obtain ⟨u11, e11⟩ := hdep ⟨11, .data⟩ (by simp) rfl _ 22 rfl rfl
      rw [show vals 11 = .int .i64 (ip : Int) from e11] at u11
      obtain ⟨u12, e12⟩ := hdep ⟨12, .data⟩ (by simp) rfl _ 23 rfl rfl
      rw [show vals 12 = .int .i64 (cn : Int) from e12] at u12
      have wr1 : IntKind.i64.wrap ((ip : Int) + (cn : Int)) = ((ip + cn : Nat) : Int) := by rw [IntKind.wrap_i64]; omega
      unfold Oper.wp
      simp [execOp, go_sem, u11, u12, wr1]
      exact came _ rfl (Below.refl _ _) rfl (fun h => absurd h (by decide))
    | 14, _, ho =>
      simp only [List.getElem?_cons_succ, List.getElem?_cons_zero, Option.some.injEq] at ho
      subst ho
      obtain ⟨u10, e10⟩ := hdep ⟨10, .data⟩ (by simp) rfl _ 21 rfl rfl
      rw [show vals 10 = .slice (some ⟨g, o_, none⟩) m.length c from e10] at u10
      obtain ⟨u13, e13⟩ := hdep ⟨13, .data⟩ (by simp) rfl _ 24 rfl rfl
      rw [show vals 13 = .int .i64 ((ip + cn : Nat) : Int) from e13] at u13
      have f1 : 0 ≤ (ip : Int) + (cn : Int) := by omega
      have f2 : ((ip : Int) + (cn : Int)).toNat = ip + cn := by omega
      have f3 : m.length = ip + cn := by omega
      have f5 : c = ip + cn := hc
      unfold Oper.wp
      simp [execOp, go_sem, u10, u13, f1, f2, f3, f5]
      exact came _ rfl (Below.refl _ _) rfl (fun h => absurd h (by decide))
    | 15, _, ho =>
      simp only [List.getElem?_cons_succ, List.getElem?_cons_zero, Option.some.injEq] at ho
      subst ho
      obtain ⟨u5, e5⟩ := hdep ⟨5, .data⟩ (by simp) rfl _ 16 rfl rfl
      rw [show vals 5 = .slice (some ⟨g, o_, none⟩) ip c from e5] at u5
      obtain ⟨u6, e6⟩ := hdep ⟨6, .data⟩ (by simp) rfl _ 17 rfl rfl
      rw [show vals 6 = .slice a' l.length c' from e6] at u6
      obtain ⟨u14, e14⟩ := hdep ⟨14, .data⟩ (by simp) rfl _ 25 rfl rfl
      rw [show vals 14 = .slice (some ⟨g, o_, none⟩) 0 0 from e14] at u14
      unfold Oper.wp
      simp [execOp, go_sem, u5, u6, u14]
      exact came _ rfl (below_one _ _) ⟨x.heap.size, rfl, row_new x _ _⟩ (fun h => absurd h (by decide))
    | 16, _, ho =>
      simp only [List.getElem?_cons_succ, List.getElem?_cons_zero, Option.some.injEq] at ho
      subst ho
      obtain ⟨u15, e15⟩ := hdep ⟨15, .data⟩ (by simp) rfl _ 26 rfl rfl
      obtain ⟨gg, k1, k2⟩ : ∃ gg, vals 15 = .slice (some ⟨gg, 0, none⟩) 3 3 ∧ RowAt gg #[.slice (some ⟨g, o_, none⟩) ip c, .slice a' l.length c', .slice (some ⟨g, o_, none⟩) 0 0] 22 x := e15
      rw [k1] at u15
      unfold Oper.wp
      simp [go_sem, u15]
      refine (concat_any [(.slice (some ⟨g, o_, none⟩) ip c, m.take ip), (.slice a' l.length c', l), (.slice (some ⟨g, o_, none⟩) 0 0, m.drop (ip + cn))] gg 0 3 x (fun i p hp => by match i, hp with | 0, hp => (simp at hp; subst hp; exact ⟨by rw [k2.cell]; rfl, s1.out _ hX⟩) | 1, hp => (simp at hp; subst hp; exact ⟨by rw [k2.cell]; rfl, HU.out.later hX⟩) | 2, hp => (simp at hp; subst hp; exact ⟨by rw [k2.cell]; rfl, s2.out _ hX⟩) | i + 3, hp => simp at hp) k2.lt (by rw [HCE.out]; exact hlen) (by simp)).mono ?_
      rintro r x1 ⟨v3, rfl, ho, hb1⟩
      rw [HCE.out] at ho
      obtain ⟨g1, c1, hg1, rfl, he1, hlc1, hc1⟩ := ho.room hne
      exact came _ rfl hb1 ⟨g1, c1, Nat.le_trans hz (Nat.le_trans hX.size hg1), rfl, he1, hlc1, hc1⟩ (fun h => absurd h (by decide))
    | 17, _, ho =>
      simp only [List.getElem?_cons_succ, List.getElem?_cons_zero, Option.some.injEq] at ho
      subst ho
      obtain ⟨u16, e16⟩ := hdep ⟨16, .data⟩ (by simp) rfl _ 27 rfl rfl
      obtain ⟨g1, c1, k1, k2, k3, k4, k5⟩ : CatRow R (m.take ip ++ (l ++ m.drop (ip + cn))) (vals 16) x := e16
      rw [k2] at u16
      unfold Oper.wp
      simp only [go_sem]
      simp [go_sem, u16]
      have HO := leafOf_any (m.take ip ++ (l ++ m.drop (ip + cn))) g1 0 c1 x k3 hlen k4 k5 (Rk.new k1) (Nat.le_trans hz hX.size)
      simp only [List.length_append, List.length_take, List.length_drop] at HO
      refine HO.mono ?_
      rintro r x1 ⟨b4, _, rfl, t4, hb4⟩
      exact came _ rfl hb4 ⟨_, rfl, t4, hne, rfl⟩ (fun h => absurd h (by decide))
    | m + 18, hi, _ => exact absurd hi (by omega)
  · intro vals w2 hX hR _
    obtain ⟨tn, p1, p2, p3, p4⟩ : LTree R [m.take ip ++ (l ++ m.drop (ip + cn))] (vals 17) w2 := hR 17 (by decide)
    clear HI s1 s2 HU ht
    simp only [List.take, List.drop, putAll, p1]
    go_wp2
    go_ret
    exact ⟨_, rfl, ⟨tn, rfl, p2, p3, p4⟩, hX⟩

set_option maxHeartbeats 4000000 in
theorem replaced_low {R : Rows} {nx ny : Nd} {b : Nat} {w : World} (ip cn : Nat) (l : List El) (a' : Option Addr) (c' : Nat) (ht : (Nd.inner b nx ny).At R w) (fx : nx.Full) (fy : ny.Full) (hlt : ip < nx.els.length) (_hi : ip ≤ 1073741824) (hn : nx.els.length + ny.els.length + l.length ≤ 1073741824) (hfit : (Nd.inner b nx ny).fits ip cn)
    (C0 : ∀ w' : World, Below w.heap.size w w' → Calls Tryz.prog 45 #[.pointer (some ⟨nx.blk, 0, none⟩), .int .i64 (ip : Int), .int .i64 (cn : Int), .slice a' l.length c'] w' fun r w'' => ∃ v, r = .returned v ∧ LTree R (nx.rp ip cn l) v w'' ∧ Below w'.heap.size w' w'') :
    Calls Tryz.prog 45 #[.pointer (some ⟨b, 0, none⟩), .int .i64 (ip : Int), .int .i64 (cn : Int), .slice a' l.length c'] w fun r w' => ∃ v, r = .returned v ∧ LTree R ((Nd.inner b nx ny).rp ip cn l) v w' ∧ Below w.heap.size w w' := by
  have HI := hid_of' (isLeaf_any ht)
  unfold pv Nd.blk Nd.isL at HI
  have d0 := nd_l ht
  have d4 := nd_sz ht.2.1
  have C := hid_of' C0
  have hli : (ip : Int) < (nx.els.length : Int) := by omega
  have HE : Hid ((Nd.inner b nx ny).rp ip cn l = nx.rp ip cn l ++ ny.leaves) := by show Nd.rp _ _ _ _ = _; rw [Nd.rp, if_pos hlt]
  have HL := hid_of' (Nd.rp_els l hfit)
  have hfl := Nd.fits_le hfit
  simp only [Nd.els, List.length_append] at hfl
  have HQ := hid_of' (show (Nd.inner b nx ny).At R w ∧ nx.Full ∧ ny.Full ∧ nx.els.length + ny.els.length + l.length ≤ 1073741824 ∧ ip + cn ≤ nx.els.length + ny.els.length from ⟨ht, fx, fy, hn, hfl⟩)
  clear C0 fx fy hfl
  go_enter Tryz.func45, Tryz.ntmps45
  go_upto_region 4 with (go_at_call 62; refine HI.out.mono ?_; rintro r w1 ⟨rfl, hw⟩; obtain rfl := hw.symm)
  refine wp_region_tail 13 (by kernel_rfl) (fun _ => none) (by kernel_rfl) (by kernel_rfl) (by decide) (fun i v x => match i with
    | 0 => v = .pointer (some ⟨b, 0, none⟩)
    | 1 => v = .pointer (some ⟨b, 0, none⟩)
    | 2 => v = .pointer (some ⟨b, 0, none⟩)
    | 3 => v = .pointer (some ⟨nx.blk, 0, none⟩)
    | 4 => v = .int .i64 (ip : Int)
    | 5 => v = .int .i64 (cn : Int)
    | 6 => v = .slice a' l.length c'
    | 7 => LTree R (nx.rp ip cn l) v x
    | 8 => v = .pointer (some ⟨b, 0, none⟩)
    | 9 => v = .pointer (some ⟨b, 0, none⟩)
    | 10 => v = .pointer (some ⟨b, 1, none⟩)
    | 11 => v = .pointer (some ⟨ny.blk, 0, none⟩)
    | 12 => LTree R (nx.rp ip cn l ++ ny.leaves) v x
    | _ => True) (fun _ => false) (fun _ _ _ _ h => by cases h) ?_ ?_ ?_
  · intro i v x x' hR hb
    match i, hR with
    | 0, h => exact h
    | 1, h => exact h
    | 2, h => exact h
    | 3, h => exact h
    | 4, h => exact h
    | 5, h => exact h
    | 6, h => exact h
    | 7, h => exact LTree.later h hb
    | 8, h => exact h
    | 9, h => exact h
    | 10, h => exact h
    | 11, h => exact h
    | 12, h => exact LTree.later h hb
    | m + 13, h => exact h
  · intro i o hi ho q x vals hX hdep hoth
    have t0 : q.tmps[0]? = some (.pointer (some ⟨b, 0, none⟩)) := by rw [hoth 0 (by kernel_rfl)]; rfl
    have t1 : q.tmps[1]? = some (.int .i64 (ip : Int)) := by rw [hoth 1 (by kernel_rfl)]; rfl
    have t2 : q.tmps[2]? = some (.int .i64 (cn : Int)) := by rw [hoth 2 (by kernel_rfl)]; rfl
    have t3 : q.tmps[3]? = some (.slice a' l.length c') := by rw [hoth 3 (by kernel_rfl)]; rfl
    match i, hi, ho with
    | 0, _, ho =>
      simp only [List.getElem?_cons_zero, Option.some.injEq] at ho
      subst ho
      unfold Oper.wp
      simp [execOp, go_sem, t0]
      exact came _ rfl (Below.refl _ _) rfl (fun h => absurd h (by decide))
    | 1, _, ho =>
      simp only [List.getElem?_cons_succ, List.getElem?_cons_zero, Option.some.injEq] at ho
      subst ho
      obtain ⟨u0, e0⟩ := hdep ⟨0, .data⟩ (by simp) rfl _ 38 rfl rfl
      rw [show vals 0 = .pointer (some ⟨b, 0, none⟩) from e0] at u0
      unfold Oper.wp
      simp [execOp, go_sem, u0]
      exact came _ rfl (Below.refl _ _) rfl (fun h => absurd h (by decide))
    | 2, _, ho =>
      simp only [List.getElem?_cons_succ, List.getElem?_cons_zero, Option.some.injEq] at ho
      subst ho
      obtain ⟨u1, e1⟩ := hdep ⟨1, .data⟩ (by simp) rfl _ 39 rfl rfl
      rw [show vals 1 = .pointer (some ⟨b, 0, none⟩) from e1] at u1
      unfold Oper.wp
      simp [execOp, go_sem, u1]
      exact came _ rfl (Below.refl _ _) rfl (fun h => absurd h (by decide))
    | 3, _, ho =>
      simp only [List.getElem?_cons_succ, List.getElem?_cons_zero, Option.some.injEq] at ho
      subst ho
      obtain ⟨u2, e2⟩ := hdep ⟨2, .data⟩ (by simp) rfl _ 40 rfl rfl
      rw [show vals 2 = .pointer (some ⟨b, 0, none⟩) from e2] at u2
      have cc := nd_l (ht.later hX)
      unfold Oper.wp
      simp [execOp, go_sem, u2, cc]
      exact came _ rfl (Below.refl _ _) rfl (fun h => absurd h (by decide))
    | 4, _, ho =>
      simp only [List.getElem?_cons_succ, List.getElem?_cons_zero, Option.some.injEq] at ho
      subst ho
      unfold Oper.wp
      simp [execOp, go_sem, t1]
      exact came _ rfl (Below.refl _ _) rfl (fun h => absurd h (by decide))
    | 5, _, ho =>
      simp only [List.getElem?_cons_succ, List.getElem?_cons_zero, Option.some.injEq] at ho
      subst ho
      unfold Oper.wp
      simp [execOp, go_sem, t2]
      exact came _ rfl (Below.refl _ _) rfl (fun h => absurd h (by decide))
    | 6, _, ho =>
      simp only [List.getElem?_cons_succ, List.getElem?_cons_zero, Option.some.injEq] at ho
      subst ho
      unfold Oper.wp
      simp [execOp, go_sem, t3]
      exact came _ rfl (Below.refl _ _) rfl (fun h => absurd h (by decide))
    | 7, _, ho =>
      simp only [List.getElem?_cons_succ, List.getElem?_cons_zero, Option.some.injEq] at ho
      subst ho
      obtain ⟨u3, e3⟩ := hdep ⟨3, .data⟩ (by simp) rfl _ 41 rfl rfl
      rw [show vals 3 = .pointer (some ⟨nx.blk, 0, none⟩) from e3] at u3
      obtain ⟨u4, e4⟩ := hdep ⟨4, .data⟩ (by simp) rfl _ 42 rfl rfl
      rw [show vals 4 = .int .i64 (ip : Int) from e4] at u4
      obtain ⟨u5, e5⟩ := hdep ⟨5, .data⟩ (by simp) rfl _ 43 rfl rfl
      rw [show vals 5 = .int .i64 (cn : Int) from e5] at u5
      obtain ⟨u6, e6⟩ := hdep ⟨6, .data⟩ (by simp) rfl _ 44 rfl rfl
      rw [show vals 6 = .slice a' l.length c' from e6] at u6
      unfold Oper.wp
      simp [go_sem, u3, u4, u5, u6]
      refine (C.out _ hX).mono ?_
      rintro r x1 ⟨v1, rfl, g1, hb1⟩
      exact came _ rfl hb1 g1 (fun h => absurd h (by decide))
    | 8, _, ho =>
      simp only [List.getElem?_cons_succ, List.getElem?_cons_zero, Option.some.injEq] at ho
      subst ho
      unfold Oper.wp
      simp [execOp, go_sem, t0]
      exact came _ rfl (Below.refl _ _) rfl (fun h => absurd h (by decide))
    | 9, _, ho =>
      simp only [List.getElem?_cons_succ, List.getElem?_cons_zero, Option.some.injEq] at ho
      subst ho
      obtain ⟨u8, e8⟩ := hdep ⟨8, .data⟩ (by simp) rfl _ 46 rfl rfl
      rw [show vals 8 = .pointer (some ⟨b, 0, none⟩) from e8] at u8
      unfold Oper.wp
      simp [execOp, go_sem, u8]
      exact came _ rfl (Below.refl _ _) rfl (fun h => absurd h (by decide))
    | 10, _, ho =>
      simp only [List.getElem?_cons_succ, List.getElem?_cons_zero, Option.some.injEq] at ho
      subst ho
      obtain ⟨u9, e9⟩ := hdep ⟨9, .data⟩ (by simp) rfl _ 47 rfl rfl
      rw [show vals 9 = .pointer (some ⟨b, 0, none⟩) from e9] at u9
      unfold Oper.wp
      simp [execOp, go_sem, u9]
      exact came _ rfl (Below.refl _ _) rfl (fun h => absurd h (by decide))
    | 11, _, ho =>
      simp only [List.getElem?_cons_succ, List.getElem?_cons_zero, Option.some.injEq] at ho
      subst ho
      obtain ⟨u10, e10⟩ := hdep ⟨10, .data⟩ (by simp) rfl _ 48 rfl rfl
      rw [show vals 10 = .pointer (some ⟨b, 1, none⟩) from e10] at u10
      have cc := nd_r (ht.later hX)
      unfold Oper.wp
      simp [execOp, go_sem, u10, cc]
      exact came _ rfl (Below.refl _ _) rfl (fun h => absurd h (by decide))
    | 12, _, ho =>
      simp only [List.getElem?_cons_succ, List.getElem?_cons_zero, Option.some.injEq] at ho
      subst ho
      obtain ⟨u7, e7⟩ := hdep ⟨7, .data⟩ (by simp) rfl _ 45 rfl rfl
      obtain ⟨u11, e11⟩ := hdep ⟨11, .data⟩ (by simp) rfl _ 49 rfl rfl
      rw [show vals 11 = .pointer (some ⟨ny.blk, 0, none⟩) from e11] at u11
      obtain ⟨tn, p1, p2, p3, p4⟩ : LTree R (nx.rp ip cn l) (vals 7) x := e7
      rw [p1] at u7
      unfold Oper.wp
      simp [go_sem, u7, u11]
      have hlen := congrArg List.length HL.out
      rw [HE.out] at hlen
      simp only [List.flatten_append, List.length_append, ← p4, ← Nd.els_flat, List.length_take, List.length_drop, Nd.els] at hlen
      have hq := HQ.out.2.2.2
      have HN := inner_any p2 (HQ.out.1.later hX).2.2 p3 HQ.out.2.2.1 (by rw [List.length_append]; omega)
      unfold pv at HN
      refine HN.mono ?_
      rintro r x1 ⟨bb, _, rfl, hin, hb1⟩
      exact came _ rfl hb1 ⟨.inner bb tn ny, rfl, hin, ⟨p3, HQ.out.2.2.1⟩, by simp only [Nd.leaves, p4]⟩ (fun h => absurd h (by decide))
    | m + 13, hi, _ => exact absurd hi (by omega)
  · intro vals x' hX hR _
    obtain ⟨tn, p1, p2, p3, p4⟩ : LTree R (nx.rp ip cn l ++ ny.leaves) (vals 12) x' := hR 12 (by decide)
    clear d0 d4 ht HI C
    simp only [List.take, List.drop, putAll, p1]
    go_wp2
    go_ret
    rw [HE.out]
    exact ⟨_, rfl, ⟨tn, rfl, p2, p3, p4⟩, hX⟩

set_option maxHeartbeats 4000000 in
theorem replaced_high {R : Rows} {nx ny : Nd} {b : Nat} {w : World} (ip cn : Nat) (l : List El) (a' : Option Addr) (c' : Nat) (ht : (Nd.inner b nx ny).At R w) (fx : nx.Full) (fy : ny.Full) (hlt : ¬ ip < nx.els.length) (hi : ip ≤ 1073741824) (hn : nx.els.length + ny.els.length + l.length ≤ 1073741824) (hfit : (Nd.inner b nx ny).fits ip cn)
    (C0 : ∀ w' : World, Below w.heap.size w w' → Calls Tryz.prog 45 #[.pointer (some ⟨ny.blk, 0, none⟩), .int .i64 ((ip - nx.els.length : Nat) : Int), .int .i64 (cn : Int), .slice a' l.length c'] w' fun r w'' => ∃ v, r = .returned v ∧ LTree R (ny.rp (ip - nx.els.length) cn l) v w'' ∧ Below w'.heap.size w' w'') :
    Calls Tryz.prog 45 #[.pointer (some ⟨b, 0, none⟩), .int .i64 (ip : Int), .int .i64 (cn : Int), .slice a' l.length c'] w fun r w' => ∃ v, r = .returned v ∧ LTree R ((Nd.inner b nx ny).rp ip cn l) v w' ∧ Below w.heap.size w w' := by
  have HI := hid_of' (isLeaf_any ht)
  unfold pv Nd.blk Nd.isL at HI
  have d0 := nd_l ht
  have d4 := nd_sz ht.2.1
  have C := hid_of' C0
  have hli : ¬ (ip : Int) < (nx.els.length : Int) := by omega
  have HE : Hid ((Nd.inner b nx ny).rp ip cn l = nx.leaves ++ (ny.rp (ip - nx.els.length) cn l)) := by show Nd.rp _ _ _ _ = _; rw [Nd.rp, if_neg hlt]
  have HL := hid_of' (Nd.rp_els l hfit)
  have hfl := Nd.fits_le hfit
  simp only [Nd.els, List.length_append] at hfl
  have HQ := hid_of' (show (Nd.inner b nx ny).At R w ∧ nx.Full ∧ ny.Full ∧ nx.els.length + ny.els.length + l.length ≤ 1073741824 ∧ ip + cn ≤ nx.els.length + ny.els.length from ⟨ht, fx, fy, hn, hfl⟩)
  clear C0 fx fy hfl
  go_enter Tryz.func45, Tryz.ntmps45
  go_upto_region 5 with (go_at_call 62; refine HI.out.mono ?_; rintro r w1 ⟨rfl, hw⟩; obtain rfl := hw.symm)
  refine wp_region_tail 21 (by kernel_rfl) (fun _ => none) (by kernel_rfl) (by kernel_rfl) (by decide) (fun i v x => match i with
    | 0 => v = .pointer (some ⟨b, 0, none⟩)
    | 1 => v = .pointer (some ⟨b, 0, none⟩)
    | 2 => v = .pointer (some ⟨b, 0, none⟩)
    | 3 => v = .pointer (some ⟨nx.blk, 0, none⟩)
    | 4 => v = .pointer (some ⟨b, 0, none⟩)
    | 5 => v = .pointer (some ⟨b, 0, none⟩)
    | 6 => v = .pointer (some ⟨b, 1, none⟩)
    | 7 => v = .pointer (some ⟨ny.blk, 0, none⟩)
    | 8 => v = .int .i64 (ip : Int)
    | 9 => v = .pointer (some ⟨b, 0, none⟩)
    | 10 => v = .pointer (some ⟨b, 0, none⟩)
    | 11 => v = .pointer (some ⟨b, 0, none⟩)
    | 12 => v = .pointer (some ⟨nx.blk, 0, none⟩)
    | 13 => v = .pointer (some ⟨nx.blk, 0, none⟩)
    | 14 => v = .pointer (some ⟨nx.blk, 4, none⟩)
    | 15 => v = .int .i64 (nx.els.length : Int)
    | 16 => v = .int .i64 ((ip - nx.els.length : Nat) : Int)
    | 17 => v = .int .i64 (cn : Int)
    | 18 => v = .slice a' l.length c'
    | 19 => LTree R (ny.rp (ip - nx.els.length) cn l) v x
    | 20 => LTree R (nx.leaves ++ (ny.rp (ip - nx.els.length) cn l)) v x
    | _ => True) (fun _ => false) (fun _ _ _ _ h => by cases h) ?_ ?_ ?_
  · intro i v x x' hR hb
    match i, hR with
    | 0, h => exact h
    | 1, h => exact h
    | 2, h => exact h
    | 3, h => exact h
    | 4, h => exact h
    | 5, h => exact h
    | 6, h => exact h
    | 7, h => exact h
    | 8, h => exact h
    | 9, h => exact h
    | 10, h => exact h
    | 11, h => exact h
    | 12, h => exact h
    | 13, h => exact h
    | 14, h => exact h
    | 15, h => exact h
    | 16, h => exact h
    | 17, h => exact h
    | 18, h => exact h
    | 19, h => exact LTree.later h hb
    | 20, h => exact LTree.later h hb
    | m + 21, h => exact h
  · intro i o hi ho q x vals hX hdep hoth
    have t0 : q.tmps[0]? = some (.pointer (some ⟨b, 0, none⟩)) := by rw [hoth 0 (by kernel_rfl)]; rfl
    have t1 : q.tmps[1]? = some (.int .i64 (ip : Int)) := by rw [hoth 1 (by kernel_rfl)]; rfl
    have t2 : q.tmps[2]? = some (.int .i64 (cn : Int)) := by rw [hoth 2 (by kernel_rfl)]; rfl
    have t3 : q.tmps[3]? = some (.slice a' l.length c') := by rw [hoth 3 (by kernel_rfl)]; rfl
    match i, hi, ho with
    | 0, _, ho =>
      simp only [List.getElem?_cons_zero, Option.some.injEq] at ho
      subst ho
      unfold Oper.wp
      simp [execOp, go_sem, t0]
      exact came _ rfl (Below.refl _ _) rfl (fun h => absurd h (by decide))
    | 1, _, ho =>
      simp only [List.getElem?_cons_succ, List.getElem?_cons_zero, Option.some.injEq] at ho
      subst ho
      obtain ⟨u0, e0⟩ := hdep ⟨0, .data⟩ (by simp) rfl _ 51 rfl rfl
      rw [show vals 0 = .pointer (some ⟨b, 0, none⟩) from e0] at u0
      unfold Oper.wp
      simp [execOp, go_sem, u0]
      exact came _ rfl (Below.refl _ _) rfl (fun h => absurd h (by decide))
    | 2, _, ho =>
      simp only [List.getElem?_cons_succ, List.getElem?_cons_zero, Option.some.injEq] at ho
      subst ho
      obtain ⟨u1, e1⟩ := hdep ⟨1, .data⟩ (by simp) rfl _ 52 rfl rfl
      rw [show vals 1 = .pointer (some ⟨b, 0, none⟩) from e1] at u1
      unfold Oper.wp
      simp [execOp, go_sem, u1]
      exact came _ rfl (Below.refl _ _) rfl (fun h => absurd h (by decide))
    | 3, _, ho =>
      simp only [List.getElem?_cons_succ, List.getElem?_cons_zero, Option.some.injEq] at ho
      subst ho
      obtain ⟨u2, e2⟩ := hdep ⟨2, .data⟩ (by simp) rfl _ 53 rfl rfl
      rw [show vals 2 = .pointer (some ⟨b, 0, none⟩) from e2] at u2
      have cc := nd_l (ht.later hX)
      unfold Oper.wp
      simp [execOp, go_sem, u2, cc]
      exact came _ rfl (Below.refl _ _) rfl (fun h => absurd h (by decide))
    | 4, _, ho =>
      simp only [List.getElem?_cons_succ, List.getElem?_cons_zero, Option.some.injEq] at ho
      subst ho
      unfold Oper.wp
      simp [execOp, go_sem, t0]
      exact came _ rfl (Below.refl _ _) rfl (fun h => absurd h (by decide))
    | 5, _, ho =>
      simp only [List.getElem?_cons_succ, List.getElem?_cons_zero, Option.some.injEq] at ho
      subst ho
      obtain ⟨u4, e4⟩ := hdep ⟨4, .data⟩ (by simp) rfl _ 55 rfl rfl
      rw [show vals 4 = .pointer (some ⟨b, 0, none⟩) from e4] at u4
      unfold Oper.wp
      simp [execOp, go_sem, u4]
      exact came _ rfl (Below.refl _ _) rfl (fun h => absurd h (by decide))
    | 6, _, ho =>
      simp only [List.getElem?_cons_succ, List.getElem?_cons_zero, Option.some.injEq] at ho
      subst ho
      obtain ⟨u5, e5⟩ := hdep ⟨5, .data⟩ (by simp) rfl _ 56 rfl rfl
      rw [show vals 5 = .pointer (some ⟨b, 0, none⟩) from e5] at u5
      unfold Oper.wp
      simp [execOp, go_sem, u5]
      exact came _ rfl (Below.refl _ _) rfl (fun h => absurd h (by decide))
    | 7, _, ho =>
      simp only [List.getElem?_cons_succ, List.getElem?_cons_zero, Option.some.injEq] at ho
      subst ho
      obtain ⟨u6, e6⟩ := hdep ⟨6, .data⟩ (by simp) rfl _ 57 rfl rfl
      rw [show vals 6 = .pointer (some ⟨b, 1, none⟩) from e6] at u6
      have cc := nd_r (ht.later hX)
      unfold Oper.wp
      simp [execOp, go_sem, u6, cc]
      exact came _ rfl (Below.refl _ _) rfl (fun h => absurd h (by decide))
    | 8, _, ho =>
      simp only [List.getElem?_cons_succ, List.getElem?_cons_zero, Option.some.injEq] at ho
      subst ho
      unfold Oper.wp
      simp [execOp, go_sem, t1]
      exact came _ rfl (Below.refl _ _) rfl (fun h => absurd h (by decide))
    | 9, _, ho =>
      simp only [List.getElem?_cons_succ, List.getElem?_cons_zero, Option.some.injEq] at ho
      subst ho
      unfold Oper.wp
      simp [execOp, go_sem, t0]
      exact came _ rfl (Below.refl _ _) rfl (fun h => absurd h (by decide))
    | 10, _, ho =>
      simp only [List.getElem?_cons_succ, List.getElem?_cons_zero, Option.some.injEq] at ho
      subst ho
      obtain ⟨u9, e9⟩ := hdep ⟨9, .data⟩ (by simp) rfl _ 60 rfl rfl
      rw [show vals 9 = .pointer (some ⟨b, 0, none⟩) from e9] at u9
      unfold Oper.wp
      simp [execOp, go_sem, u9]
      exact came _ rfl (Below.refl _ _) rfl (fun h => absurd h (by decide))
    | 11, _, ho =>
      simp only [List.getElem?_cons_succ, List.getElem?_cons_zero, Option.some.injEq] at ho
      subst ho
      obtain ⟨u10, e10⟩ := hdep ⟨10, .data⟩ (by simp) rfl _ 61 rfl rfl
      rw [show vals 10 = .pointer (some ⟨b, 0, none⟩) from e10] at u10
      unfold Oper.wp
      simp [execOp, go_sem, u10]
      exact came _ rfl (Below.refl _ _) rfl (fun h => absurd h (by decide))
    | 12, _, ho =>
      simp only [List.getElem?_cons_succ, List.getElem?_cons_zero, Option.some.injEq] at ho
      subst ho
      obtain ⟨u11, e11⟩ := hdep ⟨11, .data⟩ (by simp) rfl _ 62 rfl rfl
      rw [show vals 11 = .pointer (some ⟨b, 0, none⟩) from e11] at u11
      have cc := nd_l (ht.later hX)
      unfold Oper.wp
      simp [execOp, go_sem, u11, cc]
      exact came _ rfl (Below.refl _ _) rfl (fun h => absurd h (by decide))
    | 13, _, ho =>
      simp only [List.getElem?_cons_succ, List.getElem?_cons_zero, Option.some.injEq] at ho
      subst ho
      obtain ⟨u12, e12⟩ := hdep ⟨12, .data⟩ (by simp) rfl _ 63 rfl rfl
      rw [show vals 12 = .pointer (some ⟨nx.blk, 0, none⟩) from e12] at u12
      unfold Oper.wp
      simp [execOp, go_sem, u12]
      exact came _ rfl (Below.refl _ _) rfl (fun h => absurd h (by decide))
    | 14, _, ho =>
      simp only [List.getElem?_cons_succ, List.getElem?_cons_zero, Option.some.injEq] at ho
      subst ho
      obtain ⟨u13, e13⟩ := hdep ⟨13, .data⟩ (by simp) rfl _ 64 rfl rfl
      rw [show vals 13 = .pointer (some ⟨nx.blk, 0, none⟩) from e13] at u13
      unfold Oper.wp
      simp [execOp, go_sem, u13]
      exact came _ rfl (Below.refl _ _) rfl (fun h => absurd h (by decide))
    | 15, _, ho =>
      simp only [List.getElem?_cons_succ, List.getElem?_cons_zero, Option.some.injEq] at ho
      subst ho
      obtain ⟨u14, e14⟩ := hdep ⟨14, .data⟩ (by simp) rfl _ 65 rfl rfl
      rw [show vals 14 = .pointer (some ⟨nx.blk, 4, none⟩) from e14] at u14
      have cc := nd_sz (ht.2.1.later hX)
      unfold Oper.wp
      simp [execOp, go_sem, u14, cc]
      exact came _ rfl (Below.refl _ _) rfl (fun h => absurd h (by decide))
    | 16, _, ho =>
      simp only [List.getElem?_cons_succ, List.getElem?_cons_zero, Option.some.injEq] at ho
      subst ho
      obtain ⟨u8, e8⟩ := hdep ⟨8, .data⟩ (by simp) rfl _ 59 rfl rfl
      rw [show vals 8 = .int .i64 (ip : Int) from e8] at u8
      obtain ⟨u15, e15⟩ := hdep ⟨15, .data⟩ (by simp) rfl _ 66 rfl rfl
      rw [show vals 15 = .int .i64 (nx.els.length : Int) from e15] at u15
      have wr1 : IntKind.i64.wrap ((ip : Int) - (nx.els.length : Int)) = ((ip - nx.els.length : Nat) : Int) := by rw [IntKind.wrap_i64]; omega
      unfold Oper.wp
      simp [execOp, go_sem, u8, u15, wr1]
      exact came _ rfl (Below.refl _ _) rfl (fun h => absurd h (by decide))
    | 17, _, ho =>
      simp only [List.getElem?_cons_succ, List.getElem?_cons_zero, Option.some.injEq] at ho
      subst ho
      unfold Oper.wp
      simp [execOp, go_sem, t2]
      exact came _ rfl (Below.refl _ _) rfl (fun h => absurd h (by decide))
    | 18, _, ho =>
      simp only [List.getElem?_cons_succ, List.getElem?_cons_zero, Option.some.injEq] at ho
      subst ho
      unfold Oper.wp
      simp [execOp, go_sem, t3]
      exact came _ rfl (Below.refl _ _) rfl (fun h => absurd h (by decide))
    | 19, _, ho =>
      simp only [List.getElem?_cons_succ, List.getElem?_cons_zero, Option.some.injEq] at ho
      subst ho
      obtain ⟨u7, e7⟩ := hdep ⟨7, .data⟩ (by simp) rfl _ 58 rfl rfl
      rw [show vals 7 = .pointer (some ⟨ny.blk, 0, none⟩) from e7] at u7
      obtain ⟨u16, e16⟩ := hdep ⟨16, .data⟩ (by simp) rfl _ 67 rfl rfl
      rw [show vals 16 = .int .i64 ((ip - nx.els.length : Nat) : Int) from e16] at u16
      obtain ⟨u17, e17⟩ := hdep ⟨17, .data⟩ (by simp) rfl _ 68 rfl rfl
      rw [show vals 17 = .int .i64 (cn : Int) from e17] at u17
      obtain ⟨u18, e18⟩ := hdep ⟨18, .data⟩ (by simp) rfl _ 69 rfl rfl
      rw [show vals 18 = .slice a' l.length c' from e18] at u18
      unfold Oper.wp
      simp [go_sem, u7, u16, u17, u18]
      refine (C.out _ hX).mono ?_
      rintro r x1 ⟨v1, rfl, g1, hb1⟩
      exact came _ rfl hb1 g1 (fun h => absurd h (by decide))
    | 20, _, ho =>
      simp only [List.getElem?_cons_succ, List.getElem?_cons_zero, Option.some.injEq] at ho
      subst ho
      obtain ⟨u3, e3⟩ := hdep ⟨3, .data⟩ (by simp) rfl _ 54 rfl rfl
      rw [show vals 3 = .pointer (some ⟨nx.blk, 0, none⟩) from e3] at u3
      obtain ⟨u19, e19⟩ := hdep ⟨19, .data⟩ (by simp) rfl _ 70 rfl rfl
      obtain ⟨tn, p1, p2, p3, p4⟩ : LTree R (ny.rp (ip - nx.els.length) cn l) (vals 19) x := e19
      rw [p1] at u19
      unfold Oper.wp
      simp [go_sem, u3, u19]
      have hlen := congrArg List.length HL.out
      rw [HE.out] at hlen
      simp only [List.flatten_append, List.length_append, ← p4, ← Nd.els_flat, List.length_take, List.length_drop, Nd.els] at hlen
      have hq := HQ.out.2.2.2
      have HN := inner_any (HQ.out.1.later hX).2.1 p2 HQ.out.2.1 p3 (by rw [List.length_append]; omega)
      unfold pv at HN
      refine HN.mono ?_
      rintro r x1 ⟨bb, _, rfl, hin, hb1⟩
      exact came _ rfl hb1 ⟨.inner bb nx tn, rfl, hin, ⟨HQ.out.2.1, p3⟩, by simp only [Nd.leaves, p4]⟩ (fun h => absurd h (by decide))
    | m + 21, hi, _ => exact absurd hi (by omega)
  · intro vals x' hX hR _
    obtain ⟨tn, p1, p2, p3, p4⟩ : LTree R (nx.leaves ++ (ny.rp (ip - nx.els.length) cn l)) (vals 20) x' := hR 20 (by decide)
    clear d0 d4 ht HI C
    simp only [List.take, List.drop, putAll, p1]
    go_wp2
    go_ret
    rw [HE.out]
    exact ⟨_, rfl, ⟨tn, rfl, p2, p3, p4⟩, hX⟩

theorem replaced_any {R : Rows} : ∀ (t : Nd) (ip cn : Nat) (l : List El) (a' : Option Addr) (c' : Nat) (w : World), t.At R w → t.Full → l ≠ [] → t.fits ip cn → t.els.length + l.length ≤ 1073741824 → SlE w (.slice a' l.length c') l → Calls Tryz.prog 45 #[.pointer (some ⟨t.blk, 0, none⟩), .int .i64 (ip : Int), .int .i64 (cn : Int), .slice a' l.length c'] w fun r w' => ∃ v, r = .returned v ∧ LTree R ((t).rp ip cn l) v w' ∧ Below w.heap.size w w'
  | .leaf b g o_ c m, ip, cn, l, a', c', w, ht, _, hl, hfit, hn, hu => by
    by_cases hc : c = ip + cn
    · exact replaced_leafE b g o_ c m ip cn l a' c' w ht hl hfit hn hu hc
    · exact replaced_leaf b g o_ c m ip cn l a' c' w ht hl hfit hn hu hc
  | .inner b nx ny, ip, cn, l, a', c', w, ht, hf, hl, hfit, hn, hu => by
    have hle := Nd.fits_le hfit
    simp only [Nd.els, List.length_append] at hn hle
    by_cases hlt : ip < nx.els.length
    · have hx : nx.fits ip cn := by simpa only [Nd.fits, if_pos hlt] using hfit
      exact replaced_low ip cn l a' c' ht hf.1 hf.2 hlt (by omega) hn hfit (fun w' hb => replaced_any nx ip cn l a' c' w' (ht.2.1.later hb) hf.1 hl hx (by omega) (hu.later hb))
    · have hy : ny.fits (ip - nx.els.length) cn := by simpa only [Nd.fits, if_neg hlt] using hfit
      exact replaced_high ip cn l a' c' ht hf.1 hf.2 hlt (by omega) hn hfit (fun w' hb => replaced_any ny (ip - nx.els.length) cn l a' c' w' (ht.2.2.later hb) hf.2 hl hy (by omega) (hu.later hb))
end Go.Proofs.YtjalehlmldlooaaGreatDoor
