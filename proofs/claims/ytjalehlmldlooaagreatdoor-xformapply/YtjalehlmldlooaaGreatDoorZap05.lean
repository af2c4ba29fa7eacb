
/-
  Nodes in memory; tree.leafOf, tree.inner.
-/
import Derived.Test.YtjalehlmldlooaaGreatDoorZap04
namespace Go.Proofs.YtjalehlmldlooaaGreatDoor
open Go.RowKit
set_option maxRecDepth 100000

set_option maxHeartbeats 400000 in
theorem sum_none (a : Option Addr) (c : Nat) (w : World) :
    Calls Tryz.prog 79 #[.slice a 0 c] w fun r w' => r = .returned (wv 0 0) ∧ Below w.heap.size w w' := by
  go_enter Tryz.func79, Tryz.ntmps79
  go_wp2
  go_loopw [8] (fun i wr => i = .int .i64 0 ∧ RowAt w.heap.size #[.int .i64 0, .int .i64 0] 123 wr ∧ RowAt (w.heap.size + 1) #[.int .i64 0, .int .i64 0] 123 wr ∧ Below w.heap.size w wr) (fun _ _ => 0)
  case atStart => exact ⟨rfl, (row_new w _ _).later (below_one _ _), row_new2 w _ _ _, below_two w _ _⟩
  case round =>
    obtain ⟨rfl, h1, h2, hB⟩ := hrel
    go_wp2_with (first | (refine wpL_loadW rfl _ rfl rfl h2.in ?_) | (refine wpL_storeW rfl _ _ rfl rfl rfl h1 ?_))
    exact bodyPost_ret (v := wv 0 0) (results_w (fn := Tryz.f79) (p := 2) rfl rfl (h1.put _)) rfl ⟨rfl, below_row hB (by omega) _⟩

/-- A tree, with where its nodes and leaves lie. -/
inductive Nd where
  | leaf (b g o_ c : Nat) (l : List El)
  | inner (b : Nat) (x y : Nd)
def Nd.blk : Nd → Nat
  | .leaf b _ _ _ _ => b
  | .inner b _ _ => b
def Nd.ht : Nd → Nat
  | .leaf _ _ _ _ _ => 0
  | .inner _ x y => 1 + max x.ht y.ht
def Nd.els : Nd → List El
  | .leaf _ _ _ _ l => l
  | .inner _ x y => x.els ++ y.els
/-- No leaf is empty. -/
def Nd.Full : Nd → Prop
  | .leaf _ _ _ _ l => l ≠ []
  | .inner _ x y => x.Full ∧ y.Full
def pv (b : Nat) : Value := .pointer (some ⟨b, 0, none⟩)
/-- A node's cells. -/
def ndc (lf rt leaf : Value) (h s x y : Int) : Array Value := #[lf, rt, leaf, .int .i64 h, .int .i64 s, .int .i64 x, .int .i64 y]
/-- Blocks that are kept clear of: the rows of leaves lie in none of these. -/
structure Rows where
  no : Nat → Prop
  hi : Nat
  lt : ∀ g, no g → g < hi
def R0 : Rows := ⟨fun _ => False, 0, fun _ h => h.elim⟩
def Rk (R : Rows) (g : Nat) : Prop := ¬ R.no g
theorem Rk.new {R : Rows} {g : Nat} (h : R.hi ≤ g) : Rk R g := fun k => absurd (R.lt g k) (by omega)
/-- It lies in memory. -/
def Nd.At (R : Rows) : Nd → World → Prop
  | .leaf b g o_ c l, w => RowAt b (ndc (.pointer none) (.pointer none) (.slice (some ⟨g, o_, none⟩) l.length c) 0 l.length (liveL l) (lineL l)) 125 w ∧ ElsAt g o_ l w ∧ l.length ≤ c ∧ c ≤ 9223372036854775807 ∧ Rk R g ∧ R.hi ≤ w.heap.size
  | .inner b x y, w => RowAt b (ndc (pv x.blk) (pv y.blk) (.slice none 0 0) ((1 + max x.ht y.ht : Nat) : Int) ((x.els ++ y.els).length : Int) (liveL (x.els ++ y.els)) (lineL (x.els ++ y.els))) 125 w ∧ x.At R w ∧ y.At R w
theorem Nd.At.hi {R : Rows} : ∀ {t : Nd} {w : World}, t.At R w → R.hi ≤ w.heap.size
  | .leaf .., _, h => h.2.2.2.2.2
  | .inner _ _ _, _, h => Nd.At.hi h.2.1
/-- What stands in the row of any node. -/
theorem Nd.At.row {R : Rows} : ∀ {t : Nd} {w : World}, t.At R w → ∃ lf rt leaf, RowAt t.blk (ndc lf rt leaf t.ht t.els.length (liveL t.els) (lineL t.els)) 125 w
  | .leaf .., _, h => ⟨_, _, _, h.1⟩
  | .inner .., _, h => ⟨_, _, _, h.1⟩
theorem Nd.At.later {R : Rows} : ∀ {t : Nd} {w w' : World}, t.At R w → Below w.heap.size w w' → t.At R w'
  | .leaf .., _, _, h, hb => ⟨h.1.later hb, h.2.1.later hb, h.2.2.1, h.2.2.2.1, h.2.2.2.2.1, Nat.le_trans h.2.2.2.2.2 hb.size⟩
  | .inner .., _, _, h, hb => ⟨h.1.later hb, Nd.At.later h.2.1 hb, Nd.At.later h.2.2 hb⟩
theorem Nd.Full.pos : ∀ {t : Nd}, t.Full → 0 < t.els.length
  | .leaf _ _ _ _ l, h => List.length_pos_iff.2 h
  | .inner _ x y, h => by have := Nd.Full.pos h.1; simp only [Nd.els, List.length_append]; omega
theorem Nd.Full.ht_le : ∀ {t : Nd}, t.Full → t.ht < t.els.length
  | .leaf .., h => Nd.Full.pos h
  | .inner _ x y, h => by
    have h1 := Nd.Full.ht_le h.1
    have h2 := Nd.Full.ht_le h.2
    simp only [Nd.els, Nd.ht, List.length_append]
    omega

set_option maxHeartbeats 1000000 in
theorem leafOf_any {R : Rows} (l : List El) (g o_ c : Nat) (w : World) (hl : ElsAt g o_ l w) (hn : l.length ≤ 1099511627776) (hlc : l.length ≤ c) (hc : c ≤ 9223372036854775807) (hg : Rk R g) (hz : R.hi ≤ w.heap.size) :
    Calls Tryz.prog 63 #[.slice (some ⟨g, o_, none⟩) l.length c] w fun r w' => ∃ b, w.heap.size ≤ b ∧ r = .returned (pv b) ∧ (Nd.leaf b g o_ c l).At R w' ∧ Below w.heap.size w w' := by
  go_enter Tryz.func63, Tryz.ntmps63
  go_wp2_with (go_at_call 79; refine (sum_some l g o_ c _ hl hn).mono ?_; rintro r w1 ⟨rfl, hb1⟩; unfold wv)
  go_ret
  refine ⟨w1.heap.size, hb1.size, rfl, ⟨row_new w1 _ _, (hl.later hb1).later (below_one _ _), hlc, hc, hg, Nat.le_trans hz (Nat.le_trans hb1.size (below_one _ _).size)⟩, bgo hb1 (below_one _ _)⟩

set_option maxHeartbeats 4000000 in
theorem inner_any {R : Rows} {x y : Nd} {w : World} (hx : x.At R w) (hy : y.At R w) (fx : x.Full) (fy : y.Full) (hn : (x.els ++ y.els).length ≤ 1099511627776) :
    Calls Tryz.prog 65 #[pv x.blk, pv y.blk] w fun r w' => ∃ b, w.heap.size ≤ b ∧ r = .returned (pv b) ∧ (Nd.inner b x y).At R w' ∧ Below w.heap.size w w' := by
  obtain ⟨a1, a2, a3, rx⟩ := hx.row
  obtain ⟨b1, b2, b3, ry⟩ := hy.row
  have h1 := fx.ht_le
  have h2 := fy.ht_le
  have h3 := liveL_b x.els
  have h4 := liveL_b y.els
  have h5 := lineL_b x.els
  have h6 := lineL_b y.els
  rw [List.length_append] at hn
  have HA : Hid (x.At R w ∧ y.At R w ∧ liveL (x.els ++ y.els) = liveL x.els + liveL y.els ∧ lineL (x.els ++ y.els) = lineL x.els + lineL y.els ∧ ((x.els ++ y.els).length : Int) = (x.els.length : Int) + y.els.length ∧ ((1 + max x.ht y.ht : Nat) : Int) = 1 + max (x.ht : Int) y.ht) :=
    ⟨hx, hy, liveL_app _ _, lineL_app _ _, by rw [List.length_append]; omega, by omega⟩
  obtain ⟨hxl, e1⟩ : ∃ h, (x.ht : Int) = h := ⟨_, rfl⟩
  obtain ⟨hyl, e2⟩ : ∃ h, (y.ht : Int) = h := ⟨_, rfl⟩
  obtain ⟨sx, e3⟩ : ∃ h, (x.els.length : Int) = h := ⟨_, rfl⟩
  obtain ⟨sy, e4⟩ : ∃ h, (y.els.length : Int) = h := ⟨_, rfl⟩
  obtain ⟨vx, e5⟩ : ∃ h, liveL x.els = h := ⟨_, rfl⟩
  obtain ⟨vy, e6⟩ : ∃ h, liveL y.els = h := ⟨_, rfl⟩
  obtain ⟨nx, e7⟩ : ∃ h, lineL x.els = h := ⟨_, rfl⟩
  obtain ⟨ny, e8⟩ : ∃ h, lineL y.els = h := ⟨_, rfl⟩
  rw [e1, e3, e5, e7] at rx
  rw [e2, e4, e6, e8] at ry
  rw [e5, e6, e7, e8, e3, e4, e1, e2] at HA
  have B1 : 0 ≤ hxl ∧ hxl ≤ 1099511627776 ∧ 0 ≤ hyl ∧ hyl ≤ 1099511627776 := by omega
  have B2 : 0 ≤ sx ∧ 0 ≤ sy ∧ sx + sy ≤ 1099511627776 := by omega
  have HB : Hid (0 ≤ vx + vy ∧ vx + vy ≤ 1099511627776 ∧ 0 ≤ nx + ny ∧ nx + ny ≤ 1099511627776) := by show _ ∧ _; omega
  have M : max hxl hyl ≤ 1099511627776 ∧ 0 ≤ max hxl hyl := by omega
  have em0 : max hxl hyl = if hxl < hyl then hyl else hxl := by split <;> omega
  obtain ⟨mm, em⟩ : ∃ m, (if hxl < hyl then hyl else hxl) = m := ⟨_, rfl⟩
  rw [em0, em] at M HA
  clear em0
  clear e1 e2 e3 e4 e5 e6 e7 e8 h1 h2 h3 h4 h5 h6 hn hx hy
  obtain ⟨bx, ebx⟩ : ∃ b, x.blk = b := ⟨_, rfl⟩
  obtain ⟨by_, eby⟩ : ∃ b, y.blk = b := ⟨_, rfl⟩
  rw [ebx] at rx ⊢
  rw [eby] at ry ⊢
  go_enter Tryz.func65, Tryz.ntmps65
  go_upto_region 1 with fail
  refine wp_region_tail 32 (by kernel_rfl) (fun _ => none) (by kernel_rfl) (by kernel_rfl) (by decide) (fun i v x => match i with
    | 0 => v = .pointer (some ⟨bx, 0, none⟩)
    | 1 => v = .pointer (some ⟨by_, 0, none⟩)
    | 2 => v = .pointer (some ⟨bx, 0, none⟩)
    | 3 => v = .pointer (some ⟨bx, 0, none⟩)
    | 4 => v = .pointer (some ⟨bx, 3, none⟩)
    | 5 => v = .int .i64 hxl
    | 6 => v = .pointer (some ⟨by_, 0, none⟩)
    | 7 => v = .pointer (some ⟨by_, 0, none⟩)
    | 8 => v = .pointer (some ⟨by_, 3, none⟩)
    | 9 => v = .int .i64 hyl
    | 10 => v = .int .i64 mm
    | 11 => v = .int .i64 (1 + mm)
    | 12 => v = .pointer (some ⟨bx, 0, none⟩)
    | 13 => v = .pointer (some ⟨bx, 0, none⟩)
    | 14 => v = .pointer (some ⟨bx, 4, none⟩)
    | 15 => v = .int .i64 sx
    | 16 => v = .pointer (some ⟨by_, 0, none⟩)
    | 17 => v = .pointer (some ⟨by_, 0, none⟩)
    | 18 => v = .pointer (some ⟨by_, 4, none⟩)
    | 19 => v = .int .i64 sy
    | 20 => v = .int .i64 (sx + sy)
    | 21 => v = .pointer (some ⟨bx, 0, none⟩)
    | 22 => v = .pointer (some ⟨bx, 0, none⟩)
    | 23 => v = .pointer (some ⟨bx, 5, none⟩)
    | 24 => v = wv vx nx
    | 25 => v = .pointer (some ⟨by_, 0, none⟩)
    | 26 => v = .pointer (some ⟨by_, 0, none⟩)
    | 27 => v = .pointer (some ⟨by_, 5, none⟩)
    | 28 => v = wv vy ny
    | 29 => v = wv (vx + vy) (nx + ny)
    | 30 => v = .agg (ndc (.pointer (some ⟨bx, 0, none⟩)) (.pointer (some ⟨by_, 0, none⟩)) (.slice none 0 0) (1 + mm) (sx + sy) (vx + vy) (nx + ny))
    | 31 => ∃ b, w.heap.size ≤ b ∧ v = pv b ∧ RowAt b (ndc (.pointer (some ⟨bx, 0, none⟩)) (.pointer (some ⟨by_, 0, none⟩)) (.slice none 0 0) (1 + mm) (sx + sy) (vx + vy) (nx + ny)) 125 x
    | _ => True) (fun _ => false) (fun _ _ _ _ h => by cases h) ?_ ?_ ?_
  · intro i v x x' hR hb
    match i, hR with
    | 0, h => exact h
    | 1, h => exact h
    | 2, h => exact h
    | 3, h => exact h
    | 4, h => exact h
    | 5, h => exact h
    | 6, h => exact h
    | 7, h => exact h
    | 8, h => exact h
    | 9, h => exact h
    | 10, h => exact h
    | 11, h => exact h
    | 12, h => exact h
    | 13, h => exact h
    | 14, h => exact h
    | 15, h => exact h
    | 16, h => exact h
    | 17, h => exact h
    | 18, h => exact h
    | 19, h => exact h
    | 20, h => exact h
    | 21, h => exact h
    | 22, h => exact h
    | 23, h => exact h
    | 24, h => exact h
    | 25, h => exact h
    | 26, h => exact h
    | 27, h => exact h
    | 28, h => exact h
    | 29, h => exact h
    | 30, h => exact h
    | 31, h => exact (by obtain ⟨b, k1, k2, k3⟩ := h; exact ⟨b, k1, k2, k3.later hb⟩)
    | m + 32, h => exact h
  · intro i o hi ho q x vals hX hdep hoth
    have t0 : q.tmps[0]? = some (.pointer (some ⟨bx, 0, none⟩)) := by rw [hoth 0 (by kernel_rfl)]; rfl
    have t1 : q.tmps[1]? = some (.pointer (some ⟨by_, 0, none⟩)) := by rw [hoth 1 (by kernel_rfl)]; rfl
    match i, hi, ho with
    | 0, _, ho =>
      simp only [List.getElem?_cons_zero, Option.some.injEq] at ho
      subst ho
      unfold Oper.wp
      simp [execOp, go_sem, t0]
      exact came _ rfl (Below.refl _ _) rfl (fun h => absurd h (by decide))
    | 1, _, ho =>
      simp only [List.getElem?_cons_succ, List.getElem?_cons_zero, Option.some.injEq] at ho
      subst ho
      unfold Oper.wp
      simp [execOp, go_sem, t1]
      exact came _ rfl (Below.refl _ _) rfl (fun h => absurd h (by decide))
    | 2, _, ho =>
      simp only [List.getElem?_cons_succ, List.getElem?_cons_zero, Option.some.injEq] at ho
      subst ho
      unfold Oper.wp
      simp [execOp, go_sem, t0]
      exact came _ rfl (Below.refl _ _) rfl (fun h => absurd h (by decide))
    | 3, _, ho =>
      simp only [List.getElem?_cons_succ, List.getElem?_cons_zero, Option.some.injEq] at ho
      subst ho
      obtain ⟨u2, e2⟩ := hdep ⟨2, .data⟩ (by simp) rfl _ 7 rfl rfl
      rw [show vals 2 = .pointer (some ⟨bx, 0, none⟩) from e2] at u2
      unfold Oper.wp
      simp [execOp, go_sem, u2]
      exact came _ rfl (Below.refl _ _) rfl (fun h => absurd h (by decide))
    | 4, _, ho =>
      simp only [List.getElem?_cons_succ, List.getElem?_cons_zero, Option.some.injEq] at ho
      subst ho
      obtain ⟨u3, e3⟩ := hdep ⟨3, .data⟩ (by simp) rfl _ 8 rfl rfl
      rw [show vals 3 = .pointer (some ⟨bx, 0, none⟩) from e3] at u3
      unfold Oper.wp
      simp [execOp, go_sem, u3]
      exact came _ rfl (Below.refl _ _) rfl (fun h => absurd h (by decide))
    | 5, _, ho =>
      simp only [List.getElem?_cons_succ, List.getElem?_cons_zero, Option.some.injEq] at ho
      subst ho
      obtain ⟨u4, e4⟩ := hdep ⟨4, .data⟩ (by simp) rfl _ 9 rfl rfl
      rw [show vals 4 = .pointer (some ⟨bx, 3, none⟩) from e4] at u4
      have cc := (rx.later hX).cell 3
      unfold Oper.wp
      simp [execOp, go_sem, u4, cc, ndc]
      exact came _ rfl (Below.refl _ _) rfl (fun h => absurd h (by decide))
    | 6, _, ho =>
      simp only [List.getElem?_cons_succ, List.getElem?_cons_zero, Option.some.injEq] at ho
      subst ho
      unfold Oper.wp
      simp [execOp, go_sem, t1]
      exact came _ rfl (Below.refl _ _) rfl (fun h => absurd h (by decide))
    | 7, _, ho =>
      simp only [List.getElem?_cons_succ, List.getElem?_cons_zero, Option.some.injEq] at ho
      subst ho
      obtain ⟨u6, e6⟩ := hdep ⟨6, .data⟩ (by simp) rfl _ 11 rfl rfl
      rw [show vals 6 = .pointer (some ⟨by_, 0, none⟩) from e6] at u6
      unfold Oper.wp
      simp [execOp, go_sem, u6]
      exact came _ rfl (Below.refl _ _) rfl (fun h => absurd h (by decide))
    | 8, _, ho =>
      simp only [List.getElem?_cons_succ, List.getElem?_cons_zero, Option.some.injEq] at ho
      subst ho
      obtain ⟨u7, e7⟩ := hdep ⟨7, .data⟩ (by simp) rfl _ 12 rfl rfl
      rw [show vals 7 = .pointer (some ⟨by_, 0, none⟩) from e7] at u7
      unfold Oper.wp
      simp [execOp, go_sem, u7]
      exact came _ rfl (Below.refl _ _) rfl (fun h => absurd h (by decide))
    | 9, _, ho =>
      simp only [List.getElem?_cons_succ, List.getElem?_cons_zero, Option.some.injEq] at ho
      subst ho
      obtain ⟨u8, e8⟩ := hdep ⟨8, .data⟩ (by simp) rfl _ 13 rfl rfl
      rw [show vals 8 = .pointer (some ⟨by_, 3, none⟩) from e8] at u8
      have cc := (ry.later hX).cell 3
      unfold Oper.wp
      simp [execOp, go_sem, u8, cc, ndc]
      exact came _ rfl (Below.refl _ _) rfl (fun h => absurd h (by decide))
    | 10, _, ho =>
      simp only [List.getElem?_cons_succ, List.getElem?_cons_zero, Option.some.injEq] at ho
      subst ho
      obtain ⟨u5, e5⟩ := hdep ⟨5, .data⟩ (by simp) rfl _ 10 rfl rfl
      rw [show vals 5 = .int .i64 hxl from e5] at u5
      obtain ⟨u9, e9⟩ := hdep ⟨9, .data⟩ (by simp) rfl _ 14 rfl rfl
      rw [show vals 9 = .int .i64 hyl from e9] at u9
      unfold Oper.wp
      simp [go_sem, u5, u9, em]
      exact came _ rfl (Below.refl _ _) rfl (fun h => absurd h (by decide))
    | 11, _, ho =>
      simp only [List.getElem?_cons_succ, List.getElem?_cons_zero, Option.some.injEq] at ho
      subst ho
      obtain ⟨u10, e10⟩ := hdep ⟨10, .data⟩ (by simp) rfl _ 15 rfl rfl
      rw [show vals 10 = .int .i64 mm from e10] at u10
      have wr1 : IntKind.i64.wrap (1 + mm) = 1 + mm := by rw [IntKind.wrap_i64]; omega
      unfold Oper.wp
      simp [execOp, go_sem, u10, wr1]
      exact came _ rfl (Below.refl _ _) rfl (fun h => absurd h (by decide))
    | 12, _, ho =>
      simp only [List.getElem?_cons_succ, List.getElem?_cons_zero, Option.some.injEq] at ho
      subst ho
      unfold Oper.wp
      simp [execOp, go_sem, t0]
      exact came _ rfl (Below.refl _ _) rfl (fun h => absurd h (by decide))
    | 13, _, ho =>
      simp only [List.getElem?_cons_succ, List.getElem?_cons_zero, Option.some.injEq] at ho
      subst ho
      obtain ⟨u12, e12⟩ := hdep ⟨12, .data⟩ (by simp) rfl _ 17 rfl rfl
      rw [show vals 12 = .pointer (some ⟨bx, 0, none⟩) from e12] at u12
      unfold Oper.wp
      simp [execOp, go_sem, u12]
      exact came _ rfl (Below.refl _ _) rfl (fun h => absurd h (by decide))
    | 14, _, ho =>
      simp only [List.getElem?_cons_succ, List.getElem?_cons_zero, Option.some.injEq] at ho
      subst ho
      obtain ⟨u13, e13⟩ := hdep ⟨13, .data⟩ (by simp) rfl _ 18 rfl rfl
      rw [show vals 13 = .pointer (some ⟨bx, 0, none⟩) from e13] at u13
      unfold Oper.wp
      simp [execOp, go_sem, u13]
      exact came _ rfl (Below.refl _ _) rfl (fun h => absurd h (by decide))
    | 15, _, ho =>
      simp only [List.getElem?_cons_succ, List.getElem?_cons_zero, Option.some.injEq] at ho
      subst ho
      obtain ⟨u14, e14⟩ := hdep ⟨14, .data⟩ (by simp) rfl _ 19 rfl rfl
      rw [show vals 14 = .pointer (some ⟨bx, 4, none⟩) from e14] at u14
      have cc := (rx.later hX).cell 4
      unfold Oper.wp
      simp [execOp, go_sem, u14, cc, ndc]
      exact came _ rfl (Below.refl _ _) rfl (fun h => absurd h (by decide))
    | 16, _, ho =>
      simp only [List.getElem?_cons_succ, List.getElem?_cons_zero, Option.some.injEq] at ho
      subst ho
      unfold Oper.wp
      simp [execOp, go_sem, t1]
      exact came _ rfl (Below.refl _ _) rfl (fun h => absurd h (by decide))
    | 17, _, ho =>
      simp only [List.getElem?_cons_succ, List.getElem?_cons_zero, Option.some.injEq] at ho
      subst ho
      obtain ⟨u16, e16⟩ := hdep ⟨16, .data⟩ (by simp) rfl _ 21 rfl rfl
      rw [show vals 16 = .pointer (some ⟨by_, 0, none⟩) from e16] at u16
      unfold Oper.wp
      simp [execOp, go_sem, u16]
      exact came _ rfl (Below.refl _ _) rfl (fun h => absurd h (by decide))
    | 18, _, ho =>
      simp only [List.getElem?_cons_succ, List.getElem?_cons_zero, Option.some.injEq] at ho
      subst ho
      obtain ⟨u17, e17⟩ := hdep ⟨17, .data⟩ (by simp) rfl _ 22 rfl rfl
      rw [show vals 17 = .pointer (some ⟨by_, 0, none⟩) from e17] at u17
      unfold Oper.wp
      simp [execOp, go_sem, u17]
      exact came _ rfl (Below.refl _ _) rfl (fun h => absurd h (by decide))
    | 19, _, ho =>
      simp only [List.getElem?_cons_succ, List.getElem?_cons_zero, Option.some.injEq] at ho
      subst ho
      obtain ⟨u18, e18⟩ := hdep ⟨18, .data⟩ (by simp) rfl _ 23 rfl rfl
      rw [show vals 18 = .pointer (some ⟨by_, 4, none⟩) from e18] at u18
      have cc := (ry.later hX).cell 4
      unfold Oper.wp
      simp [execOp, go_sem, u18, cc, ndc]
      exact came _ rfl (Below.refl _ _) rfl (fun h => absurd h (by decide))
    | 20, _, ho =>
      simp only [List.getElem?_cons_succ, List.getElem?_cons_zero, Option.some.injEq] at ho
      subst ho
      obtain ⟨u15, e15⟩ := hdep ⟨15, .data⟩ (by simp) rfl _ 20 rfl rfl
      rw [show vals 15 = .int .i64 sx from e15] at u15
      obtain ⟨u19, e19⟩ := hdep ⟨19, .data⟩ (by simp) rfl _ 24 rfl rfl
      rw [show vals 19 = .int .i64 sy from e19] at u19
      have wr1 : IntKind.i64.wrap (sx + sy) = sx + sy := by rw [IntKind.wrap_i64]; omega
      unfold Oper.wp
      simp [execOp, go_sem, u15, u19, wr1]
      exact came _ rfl (Below.refl _ _) rfl (fun h => absurd h (by decide))
    | 21, _, ho =>
      simp only [List.getElem?_cons_succ, List.getElem?_cons_zero, Option.some.injEq] at ho
      subst ho
      unfold Oper.wp
      simp [execOp, go_sem, t0]
      exact came _ rfl (Below.refl _ _) rfl (fun h => absurd h (by decide))
    | 22, _, ho =>
      simp only [List.getElem?_cons_succ, List.getElem?_cons_zero, Option.some.injEq] at ho
      subst ho
      obtain ⟨u21, e21⟩ := hdep ⟨21, .data⟩ (by simp) rfl _ 26 rfl rfl
      rw [show vals 21 = .pointer (some ⟨bx, 0, none⟩) from e21] at u21
      unfold Oper.wp
      simp [execOp, go_sem, u21]
      exact came _ rfl (Below.refl _ _) rfl (fun h => absurd h (by decide))
    | 23, _, ho =>
      simp only [List.getElem?_cons_succ, List.getElem?_cons_zero, Option.some.injEq] at ho
      subst ho
      obtain ⟨u22, e22⟩ := hdep ⟨22, .data⟩ (by simp) rfl _ 27 rfl rfl
      rw [show vals 22 = .pointer (some ⟨bx, 0, none⟩) from e22] at u22
      unfold Oper.wp
      simp [execOp, go_sem, u22]
      exact came _ rfl (Below.refl _ _) rfl (fun h => absurd h (by decide))
    | 24, _, ho =>
      simp only [List.getElem?_cons_succ, List.getElem?_cons_zero, Option.some.injEq] at ho
      subst ho
      obtain ⟨u23, e23⟩ := hdep ⟨23, .data⟩ (by simp) rfl _ 28 rfl rfl
      rw [show vals 23 = .pointer (some ⟨bx, 5, none⟩) from e23] at u23
      exact opw_loadW _ rfl (by simp [Act.eval, u23]) (((rx.later hX).in.sub 5 (ds := #[.int .i64 vx, .int .i64 nx]) (fun j v hv => by match j, hv with | 0, hv => exact hv | 1, hv => exact hv | j + 2, hv => simp at hv))) (came _ rfl (Below.refl _ _) rfl (fun h => absurd h (by decide)))
    | 25, _, ho =>
      simp only [List.getElem?_cons_succ, List.getElem?_cons_zero, Option.some.injEq] at ho
      subst ho
      unfold Oper.wp
      simp [execOp, go_sem, t1]
      exact came _ rfl (Below.refl _ _) rfl (fun h => absurd h (by decide))
    | 26, _, ho =>
      simp only [List.getElem?_cons_succ, List.getElem?_cons_zero, Option.some.injEq] at ho
      subst ho
      obtain ⟨u25, e25⟩ := hdep ⟨25, .data⟩ (by simp) rfl _ 30 rfl rfl
      rw [show vals 25 = .pointer (some ⟨by_, 0, none⟩) from e25] at u25
      unfold Oper.wp
      simp [execOp, go_sem, u25]
      exact came _ rfl (Below.refl _ _) rfl (fun h => absurd h (by decide))
    | 27, _, ho =>
      simp only [List.getElem?_cons_succ, List.getElem?_cons_zero, Option.some.injEq] at ho
      subst ho
      obtain ⟨u26, e26⟩ := hdep ⟨26, .data⟩ (by simp) rfl _ 31 rfl rfl
      rw [show vals 26 = .pointer (some ⟨by_, 0, none⟩) from e26] at u26
      unfold Oper.wp
      simp [execOp, go_sem, u26]
      exact came _ rfl (Below.refl _ _) rfl (fun h => absurd h (by decide))
    | 28, _, ho =>
      simp only [List.getElem?_cons_succ, List.getElem?_cons_zero, Option.some.injEq] at ho
      subst ho
      obtain ⟨u27, e27⟩ := hdep ⟨27, .data⟩ (by simp) rfl _ 32 rfl rfl
      rw [show vals 27 = .pointer (some ⟨by_, 5, none⟩) from e27] at u27
      exact opw_loadW _ rfl (by simp [Act.eval, u27]) (((ry.later hX).in.sub 5 (ds := #[.int .i64 vy, .int .i64 ny]) (fun j v hv => by match j, hv with | 0, hv => exact hv | 1, hv => exact hv | j + 2, hv => simp at hv))) (came _ rfl (Below.refl _ _) rfl (fun h => absurd h (by decide)))
    | 29, _, ho =>
      simp only [List.getElem?_cons_succ, List.getElem?_cons_zero, Option.some.injEq] at ho
      subst ho
      obtain ⟨u24, e24⟩ := hdep ⟨24, .data⟩ (by simp) rfl _ 29 rfl rfl
      rw [show vals 24 = wv vx nx from e24] at u24
      obtain ⟨u28, e28⟩ := hdep ⟨28, .data⟩ (by simp) rfl _ 33 rfl rfl
      rw [show vals 28 = wv vy ny from e28] at u28
      unfold Oper.wp
      simp [go_sem, u24, u28]
      refine (plus_is rfl rfl ⟨HB.out.1, HB.out.2.1⟩ ⟨HB.out.2.2.1, HB.out.2.2.2⟩ _).mono ?_
      rintro r x1 ⟨rfl, hb1⟩
      exact came _ rfl hb1 rfl (fun h => absurd h (by decide))
    | 30, _, ho =>
      simp only [List.getElem?_cons_succ, List.getElem?_cons_zero, Option.some.injEq] at ho
      subst ho
      obtain ⟨u0, e0⟩ := hdep ⟨0, .data⟩ (by simp) rfl _ 5 rfl rfl
      rw [show vals 0 = .pointer (some ⟨bx, 0, none⟩) from e0] at u0
      obtain ⟨u1, e1⟩ := hdep ⟨1, .data⟩ (by simp) rfl _ 6 rfl rfl
      rw [show vals 1 = .pointer (some ⟨by_, 0, none⟩) from e1] at u1
      obtain ⟨u11, e11⟩ := hdep ⟨11, .data⟩ (by simp) rfl _ 16 rfl rfl
      rw [show vals 11 = .int .i64 (1 + mm) from e11] at u11
      obtain ⟨u20, e20⟩ := hdep ⟨20, .data⟩ (by simp) rfl _ 25 rfl rfl
      rw [show vals 20 = .int .i64 (sx + sy) from e20] at u20
      obtain ⟨u29, e29⟩ := hdep ⟨29, .data⟩ (by simp) rfl _ 34 rfl rfl
      rw [show vals 29 = wv (vx + vy) (nx + ny) from e29] at u29
      unfold Oper.wp
      simp [execOp, go_sem, u0, u1, u11, u20, u29, wv]
      exact came _ rfl (Below.refl _ _) rfl (fun h => absurd h (by decide))
    | 31, _, ho =>
      simp only [List.getElem?_cons_succ, List.getElem?_cons_zero, Option.some.injEq] at ho
      subst ho
      obtain ⟨u30, e30⟩ := hdep ⟨30, .data⟩ (by simp) rfl _ 35 rfl rfl
      rw [show vals 30 = .agg (ndc (.pointer (some ⟨bx, 0, none⟩)) (.pointer (some ⟨by_, 0, none⟩)) (.slice none 0 0) (1 + mm) (sx + sy) (vx + vy) (nx + ny)) from e30] at u30
      unfold Oper.wp
      simp [execOp, go_sem, u30]
      exact came _ rfl (below_one _ _) ⟨x.heap.size, hX.size, rfl, row_new x _ _⟩ (fun h => absurd h (by decide))
    | m + 32, hi, _ => exact absurd hi (by omega)
  · intro vals x' hX hR _
    obtain ⟨b, k1, k2, k3⟩ : ∃ b, w.heap.size ≤ b ∧ vals 31 = pv b ∧ RowAt b (ndc (.pointer (some ⟨bx, 0, none⟩)) (.pointer (some ⟨by_, 0, none⟩)) (.slice none 0 0) (1 + mm) (sx + sy) (vx + vy) (nx + ny)) 125 x' := hR 31 (by decide)
    simp only [List.take, List.drop, putAll, k2]
    unfold pv
    go_wp2
    go_ret
    obtain ⟨g1, g2, g3, g4, g5, g6⟩ := HA.out
    refine ⟨b, k1, rfl, ⟨?_, g1.later hX, g2.later hX⟩, hX⟩
    rw [g3, g4, g5, g6, ebx, eby]
    exact k3
end Go.Proofs.YtjalehlmldlooaaGreatDoor
