
/-
  barrowlaw14.does: Peek.
-/
import Derived.Test.YtgkbgojgpomcdaaDoorUn21
namespace Go.Proofs.YtgkbgojgpomcdaaDoor
open Go.RowKit Go.Extern.Stop Go.Stop Go.Extern
set_option maxRecDepth 100000

def TpY (N : Nat) (xs : List Xg) (v : Value) (x : World) : Prop := ∃ v1, v = .tuple #[v1, .nilIface] ∧ NwX N v1 xs x
theorem TpY.later {N : Nat} {xs : List Xg} {v : Value} {x x' : World} (h : TpY N xs v x) (hb : Below x.heap.size x x') : TpY N xs v x' := by
  obtain ⟨v1, h1, h2⟩ := h
  exact ⟨v1, h1, h2.later hb⟩
def TqY (N : Nat) (xs : List Xg) (v : Value) (x : World) : Prop := ∃ v1, v = .tuple #[v1, .agg (nov 0 none 0 0 none 0 0)] ∧ NwX N v1 xs x
theorem TqY.later {N : Nat} {xs : List Xg} {v : Value} {x x' : World} (h : TqY N xs v x) (hb : Below x.heap.size x x') : TqY N xs v x' := by
  obtain ⟨v1, h1, h2⟩ := h
  exact ⟨v1, h1, h2.later hb⟩
def TpN (ad : Nat → Addr) (N : Nat) (c : ByteArray) (v : Value) (x : World) : Prop := ∃ v1, v = .tuple #[.slice none 0 0, v1] ∧ ErrR ad N (some (c, -1, 11)) v1 x
theorem TpN.later {ad : Nat → Addr} {N : Nat} {c : ByteArray} {v : Value} {x x' : World} (h : TpN ad N c v x) (hb : Below x.heap.size x x') : TpN ad N c v x' := by
  obtain ⟨v1, h1, h2⟩ := h
  exact ⟨v1, h1, ErrR.later h2 hb⟩
def TqN (N : Nat) (c : ByteArray) (v : Value) (x : World) : Prop := ∃ v1, v = .tuple #[.slice none 0 0, v1] ∧ NoR N (some (c, -1, 11)) v1 x
theorem TqN.later {N : Nat} {c : ByteArray} {v : Value} {x x' : World} (h : TqN N c v x) (hb : Below x.heap.size x x') : TqN N c v x' := by
  obtain ⟨v1, h1, h2⟩ := h
  exact ⟨v1, h1, NoR.later h2 hb⟩
/-- A refusal's room has come up. -/
def NwN (N : Nat) (v : Value) (x : World) : Prop := ∃ g, v = .pointer (some ⟨g, 0, none⟩) ∧ N ≤ g ∧ RowAt g (nov 0 none 0 0 none 0 0) 47 x
theorem NwN.later {N : Nat} {v : Value} {x x' : World} (h : NwN N v x) (hb : Below x.heap.size x x') : NwN N v x' := by
  obtain ⟨g, h1, h2, h3⟩ := h
  exact ⟨g, h1, h2, h3.later hb⟩
theorem ErrR.mono' {ad : Nat → Addr} {M M' : Nat} {o : Rf} {v : Value} {w : World} (h : ErrR ad M o v w) (hm : M' ≤ M) : ErrR ad M' o v w := by
  match o, h with
  | none, h => exact h
  | some (_, _, _), ⟨b, h1, h2, h3, h4⟩ => exact ⟨b, h1, Nat.le_trans hm h2, h3, h4⟩
theorem NoR.mono' {M M' : Nat} {o : Rf} {v : Value} {w : World} (h : NoR M o v w) (hm : M' ≤ M) : NoR M' o v w := by
  match o, h with
  | none, h => exact h
  | some (_, _, _), ⟨g, g', h1, h2, h3, h4, h5⟩ => exact ⟨g, g', h1, Nat.le_trans hm h2, Nat.le_trans hm h3, h4, h5⟩
set_option maxHeartbeats 8000000 in
theorem does_peekUndo_yes {N P Bs Br : Nat} {d u : List (List Xg)} {vd vu vd' vu' : Value} {F F' : Nat → Prop} {w : World} {vL : Value} {lL : List Xg} (h : PrAt N P Bs Br d u vd vu vd' vu' F F' w) (dd : Int) (hdd : -9223372036854775808 ≤ dd ∧ dd ≤ 9223372036854775807) {ad : Nat → Addr} (hLa : ∀ x, Below N w x → Laid ad x) (hL : ∀ x, Below N w x → SlD x vL lL) (hcap : ∀ a n c, vL = .slice a n c → n ≤ c) {n : Nat} {l : List Xg} (hn : d.length = n + 1) (hl : d[n]? = some l) (hm : wiN dd 6 = 3) :
    Calls Tryd.prog 10 #[.pointer (some ⟨P, 0, none⟩), .agg #[.int .i64 dd, .bool false, vL]] w fun e w' => DoQ N P Bs Br w e w' := by
  have HWi := hid_of' (fun x => within_is dd 6 x (by decide) (by decide) hdd)
  rw [hm, show ((6 : Nat) : Int) = 6 from rfl, show ((3 : Nat) : Int) = 3 from rfl] at HWi
  obtain ⟨aL, cL, hvL⟩ := (hL w (Below.refl _ _)).form
  have HL := hid_of' (And.intro hL hcap)
  generalize lL.length = nL at hvL
  subst hvL
  have r0 := row_new w (#[.int .i64 dd, .bool false, .slice aL nL cL]) 35
  have b0 := below_one w (.cells (#[.int .i64 dd, .bool false, .slice aL nL cL]) 35)
  have HK := hid_of' h
  clear h hL hcap hm hdd
  go_enter Tryd.func10, Tryd.ntmps10
  go_upto_region 1 with fail
  change Code.wp _ _ _ _ (w.alloc (.cells (#[.int .i64 dd, .bool false, .slice aL nL cL]) 35))
  generalize w.alloc (.cells (#[.int .i64 dd, .bool false, .slice aL nL cL]) 35) = X0 at r0 b0 ⊢
  generalize hob : w.heap.size = ob at r0 ⊢
  have c0 := r0.cellIs 0 rfl
  have c1 := r0.cellIs 1 rfl
  have c2 := r0.cellIs 2 rfl
  have HLa := hid_of' hLa
  have H := hid_of' (HK.out.later b0)
  clear hLa
  have hfl : l.length ≤ 4398046510976 := (H.out.s.rd.fits l (List.mem_of_getElem? hl)).2
  have HFl := hid_of' (Nat.le_trans (bkL_len l) hfl)
  clear hfl
  go_upto_region 17 with (go_at_call 31; (with_reducible refine (HWi.out _).mono ?_); rintro e w1 ⟨rfl, h0⟩; obtain rfl := h0.symm)
  clear c0 c1 c2
  refine wp_region_tail 11 (by kernel_rfl) (fun _ => none) (by kernel_rfl) (by kernel_rfl) (by decide) (fun i v x => match i with
    | 0 => v = .pointer (some ⟨P, 0, none⟩)
    | 1 => v = .pointer (some ⟨P, 0, none⟩)
    | 2 => v = .pointer (some ⟨P, 0, none⟩)
    | 3 => v = .pointer (some ⟨Bs, 0, none⟩)
    | 4 => v = .pointer (some ⟨ob, 1, none⟩)
    | 5 => v = .bool false
    | 6 => TpY X0.heap.size (bkL l) v x
    | 7 => TpY X0.heap.size (bkL l) v x
    | 8 => NwX X0.heap.size v (bkL l) x
    | 9 => v = .nilIface
    | 10 => NwX X0.heap.size v (bkL l) x
    | _ => True) (fun _ => false) (fun _ _ _ _ h => by cases h) ?_ ?_ ?_
  · intro i v x x' hR hb
    match i, hR with
    | 0, h => exact h
    | 1, h => exact h
    | 2, h => exact h
    | 3, h => exact h
    | 4, h => exact h
    | 5, h => exact h
    | 6, h => exact h.later hb
    | 7, h => exact h.later hb
    | 8, h => exact h.later hb
    | 9, h => exact h
    | 10, h => exact h.later hb
    | m + 11, h => exact h
  · intro i o hi ho q x vals hX hdep hoth
    have t0 : q.tmps[0]? = some (.pointer (some ⟨P, 0, none⟩)) := by rw [hoth 0 (by kernel_rfl)]; rfl
    have t3 : q.tmps[3]? = some (.pointer (some ⟨ob, 0, none⟩)) := by rw [hoth 3 (by kernel_rfl)]; rfl
    match i, hi, ho with
    | 0, _, ho =>
      simp only [List.getElem?_cons_zero, Option.some.injEq] at ho
      subst ho
      unfold Oper.wp
      simp [execOp, go_sem, t0]
      exact came _ rfl (Below.refl _ _) rfl (fun h => absurd h (by decide))
    | 1, _, ho =>
      simp only [List.getElem?_cons_succ, List.getElem?_cons_zero, Option.some.injEq] at ho
      subst ho
      obtain ⟨u0, e0⟩ := hdep ⟨0, .data⟩ (by simp) rfl _ 93 rfl rfl
      rw [show vals 0 = .pointer (some ⟨P, 0, none⟩) from e0] at u0
      unfold Oper.wp
      simp [execOp, go_sem, u0]
      exact came _ rfl (Below.refl _ _) rfl (fun h => absurd h (by decide))
    | 2, _, ho =>
      simp only [List.getElem?_cons_succ, List.getElem?_cons_zero, Option.some.injEq] at ho
      subst ho
      obtain ⟨u1, e1⟩ := hdep ⟨1, .data⟩ (by simp) rfl _ 94 rfl rfl
      rw [show vals 1 = .pointer (some ⟨P, 0, none⟩) from e1] at u1
      unfold Oper.wp
      simp [execOp, go_sem, u1]
      exact came _ rfl (Below.refl _ _) rfl (fun h => absurd h (by decide))
    | 3, _, ho =>
      simp only [List.getElem?_cons_succ, List.getElem?_cons_zero, Option.some.injEq] at ho
      subst ho
      obtain ⟨u2, e2⟩ := hdep ⟨2, .data⟩ (by simp) rfl _ 95 rfl rfl
      rw [show vals 2 = .pointer (some ⟨P, 0, none⟩) from e2] at u2
      have cc : x.cell? ⟨P, 0, none⟩ = some (.pointer (some ⟨Bs, 0, none⟩)) := (H.out.lies.later hX).cellIs 0 rfl
      unfold Oper.wp
      simp [execOp, go_sem, u2, cc]
      exact came _ rfl (Below.refl _ _) rfl (fun h => absurd h (by decide))
    | 4, _, ho =>
      simp only [List.getElem?_cons_succ, List.getElem?_cons_zero, Option.some.injEq] at ho
      subst ho
      unfold Oper.wp
      simp [execOp, go_sem, t3]
      exact came _ rfl (Below.refl _ _) rfl (fun h => absurd h (by decide))
    | 5, _, ho =>
      simp only [List.getElem?_cons_succ, List.getElem?_cons_zero, Option.some.injEq] at ho
      subst ho
      obtain ⟨u4, e4⟩ := hdep ⟨4, .data⟩ (by simp) rfl _ 97 rfl rfl
      rw [show vals 4 = .pointer (some ⟨ob, 1, none⟩) from e4] at u4
      have cc : x.cell? ⟨ob, 1, none⟩ = some (.bool false) := (r0.later hX).cellIs 1 rfl
      unfold Oper.wp
      simp [execOp, go_sem, u4, cc]
      exact came _ rfl (Below.refl _ _) rfl (fun h => absurd h (by decide))
    | 6, _, ho =>
      simp only [List.getElem?_cons_succ, List.getElem?_cons_zero, Option.some.injEq] at ho
      subst ho
      obtain ⟨u3, e3⟩ := hdep ⟨3, .data⟩ (by simp) rfl _ 96 rfl rfl
      rw [show vals 3 = .pointer (some ⟨Bs, 0, none⟩) from e3] at u3
      obtain ⟨u5, e5⟩ := hdep ⟨5, .data⟩ (by simp) rfl _ 98 rfl rfl
      rw [show vals 5 = .bool false from e5] at u5
      unfold Oper.wp
      simp [go_sem, u3, u5]
      refine (peekUndo_yes (H.out.s.later hX) hn hl).mono ?_
      rintro r x1 ⟨v1, rfl, hn1, hb1⟩
      exact came _ rfl hb1 ⟨v1, rfl, hn1.1, fun k hk => by have := hn1.2 k hk; have := hX.size; omega⟩ (fun h => absurd h (by decide))
    | 7, _, ho =>
      simp only [List.getElem?_cons_succ, List.getElem?_cons_zero, Option.some.injEq] at ho
      subst ho
      obtain ⟨u6, e6⟩ := hdep ⟨6, .data⟩ (by simp) rfl _ 99 rfl rfl
      unfold Oper.wp
      simp [execOp, go_sem, u6]
      exact came _ rfl (Below.refl _ _) e6 (fun h => absurd h (by decide))
    | 8, _, ho =>
      simp only [List.getElem?_cons_succ, List.getElem?_cons_zero, Option.some.injEq] at ho
      subst ho
      obtain ⟨u7, e7⟩ := hdep ⟨7, .data⟩ (by simp) rfl _ 92 rfl rfl
      obtain ⟨v1, h1, h2⟩ : TpY X0.heap.size (bkL l) (vals 7) x := e7
      rw [h1] at u7
      unfold Oper.wp
      simp [execOp, go_sem, u7]
      exact came _ rfl (Below.refl _ _) h2 (fun h => absurd h (by decide))
    | 9, _, ho =>
      simp only [List.getElem?_cons_succ, List.getElem?_cons_zero, Option.some.injEq] at ho
      subst ho
      obtain ⟨u7, e7⟩ := hdep ⟨7, .data⟩ (by simp) rfl _ 92 rfl rfl
      obtain ⟨v1, h1, h2⟩ : TpY X0.heap.size (bkL l) (vals 7) x := e7
      rw [h1] at u7
      unfold Oper.wp
      simp [execOp, go_sem, u7]
      exact came _ rfl (Below.refl _ _) rfl (fun h => absurd h (by decide))
    | 10, _, ho =>
      simp only [List.getElem?_cons_succ, List.getElem?_cons_zero, Option.some.injEq] at ho
      subst ho
      obtain ⟨u8, e8⟩ := hdep ⟨8, .data⟩ (by simp) rfl _ 100 rfl rfl
      unfold Oper.wp
      simp [execOp, go_sem, u8]
      exact came _ rfl (Below.refl _ _) e8 (fun h => absurd h (by decide))
    | m + 11, hi, _ => exact absurd hi (by omega)
  · intro vals W2 hX hR _
    have e9 : vals 9 = .nilIface := hR 9 (by decide)
    have q1 : NwX X0.heap.size (vals 10) (bkL l) W2 := hR 10 (by decide)
    obtain ⟨a2, c2, hv2, _⟩ := Rw.form q1.1
    generalize List.length _ = n2 at hv2
    rw [hv2] at q1
    have H1 := hid_of' q1
    have HX1 := hid_of' hX
    simp only [List.drop, List.take, putAll, List.setIfInBounds_toArray, List.set_cons_succ, List.set_cons_zero, e9, hv2]
    clear e9 hv2 hR q1 hX
    go_upto_region 18 with fail
    refine wp_region_tail 12 (by kernel_rfl) (fun _ => none) (by kernel_rfl) (by kernel_rfl) (by decide) (fun i v x => match i with
      | 0 => v = .pointer (some ⟨P, 0, none⟩)
      | 1 => v = .pointer (some ⟨P, 0, none⟩)
      | 2 => v = .pointer (some ⟨P, 1, none⟩)
      | 3 => v = .pointer (some ⟨Br, 0, none⟩)
      | 4 => v = .pointer (some ⟨ob, 1, none⟩)
      | 5 => v = .bool false
      | 6 => TqY W2.heap.size (bkL l) v x
      | 7 => TqY W2.heap.size (bkL l) v x
      | 8 => NwX W2.heap.size v (bkL l) x
      | 9 => v = .agg (nov 0 none 0 0 none 0 0)
      | 10 => NwN W2.heap.size v x
      | 11 => NwX W2.heap.size v (bkL l) x
      | _ => True) (fun _ => false) (fun _ _ _ _ h => by cases h) ?_ ?_ ?_
    · intro i v x x' hR hb
      match i, hR with
      | 0, h => exact h
      | 1, h => exact h
      | 2, h => exact h
      | 3, h => exact h
      | 4, h => exact h
      | 5, h => exact h
      | 6, h => exact h.later hb
      | 7, h => exact h.later hb
      | 8, h => exact h.later hb
      | 9, h => exact h
      | 10, h => exact h.later hb
      | 11, h => exact h.later hb
      | m + 12, h => exact h
    · intro i o hi ho q x vals hX hdep hoth
      have t0 : q.tmps[0]? = some (.pointer (some ⟨P, 0, none⟩)) := by rw [hoth 0 (by kernel_rfl)]; rfl
      have t3 : q.tmps[3]? = some (.pointer (some ⟨ob, 0, none⟩)) := by rw [hoth 3 (by kernel_rfl)]; rfl
      match i, hi, ho with
      | 0, _, ho =>
        simp only [List.getElem?_cons_zero, Option.some.injEq] at ho
        subst ho
        unfold Oper.wp
        simp [execOp, go_sem, t0]
        exact came _ rfl (Below.refl _ _) rfl (fun h => absurd h (by decide))
      | 1, _, ho =>
        simp only [List.getElem?_cons_succ, List.getElem?_cons_zero, Option.some.injEq] at ho
        subst ho
        obtain ⟨u0, e0⟩ := hdep ⟨0, .data⟩ (by simp) rfl _ 103 rfl rfl
        rw [show vals 0 = .pointer (some ⟨P, 0, none⟩) from e0] at u0
        unfold Oper.wp
        simp [execOp, go_sem, u0]
        exact came _ rfl (Below.refl _ _) rfl (fun h => absurd h (by decide))
      | 2, _, ho =>
        simp only [List.getElem?_cons_succ, List.getElem?_cons_zero, Option.some.injEq] at ho
        subst ho
        obtain ⟨u1, e1⟩ := hdep ⟨1, .data⟩ (by simp) rfl _ 104 rfl rfl
        rw [show vals 1 = .pointer (some ⟨P, 0, none⟩) from e1] at u1
        unfold Oper.wp
        simp [execOp, go_sem, u1]
        exact came _ rfl (Below.refl _ _) rfl (fun h => absurd h (by decide))
      | 3, _, ho =>
        simp only [List.getElem?_cons_succ, List.getElem?_cons_zero, Option.some.injEq] at ho
        subst ho
        obtain ⟨u2, e2⟩ := hdep ⟨2, .data⟩ (by simp) rfl _ 105 rfl rfl
        rw [show vals 2 = .pointer (some ⟨P, 1, none⟩) from e2] at u2
        have cc : x.cell? ⟨P, 1, none⟩ = some (.pointer (some ⟨Br, 0, none⟩)) := (H.out.lies.later (bgo HX1.out hX)).cellIs 1 rfl
        unfold Oper.wp
        simp [execOp, go_sem, u2, cc]
        exact came _ rfl (Below.refl _ _) rfl (fun h => absurd h (by decide))
      | 4, _, ho =>
        simp only [List.getElem?_cons_succ, List.getElem?_cons_zero, Option.some.injEq] at ho
        subst ho
        unfold Oper.wp
        simp [execOp, go_sem, t3]
        exact came _ rfl (Below.refl _ _) rfl (fun h => absurd h (by decide))
      | 5, _, ho =>
        simp only [List.getElem?_cons_succ, List.getElem?_cons_zero, Option.some.injEq] at ho
        subst ho
        obtain ⟨u4, e4⟩ := hdep ⟨4, .data⟩ (by simp) rfl _ 107 rfl rfl
        rw [show vals 4 = .pointer (some ⟨ob, 1, none⟩) from e4] at u4
        have cc : x.cell? ⟨ob, 1, none⟩ = some (.bool false) := (r0.later (bgo HX1.out hX)).cellIs 1 rfl
        unfold Oper.wp
        simp [execOp, go_sem, u4, cc]
        exact came _ rfl (Below.refl _ _) rfl (fun h => absurd h (by decide))
      | 6, _, ho =>
        simp only [List.getElem?_cons_succ, List.getElem?_cons_zero, Option.some.injEq] at ho
        subst ho
        obtain ⟨u3, e3⟩ := hdep ⟨3, .data⟩ (by simp) rfl _ 106 rfl rfl
        rw [show vals 3 = .pointer (some ⟨Br, 0, none⟩) from e3] at u3
        obtain ⟨u5, e5⟩ := hdep ⟨5, .data⟩ (by simp) rfl _ 108 rfl rfl
        rw [show vals 5 = .bool false from e5] at u5
        unfold Oper.wp
        simp [go_sem, u3, u5]
        refine (refPeekUndo_yes (H.out.r.later (bgo HX1.out hX)) hn hl).mono ?_
        rintro r x1 ⟨v1, rfl, hn1, hb1⟩
        exact came _ rfl hb1 ⟨v1, rfl, hn1.1, fun k hk => by have := hn1.2 k hk; have := hX.size; omega⟩ (fun h => absurd h (by decide))
      | 7, _, ho =>
        simp only [List.getElem?_cons_succ, List.getElem?_cons_zero, Option.some.injEq] at ho
        subst ho
        obtain ⟨u6, e6⟩ := hdep ⟨6, .data⟩ (by simp) rfl _ 109 rfl rfl
        unfold Oper.wp
        simp [execOp, go_sem, u6]
        exact came _ rfl (Below.refl _ _) e6 (fun h => absurd h (by decide))
      | 8, _, ho =>
        simp only [List.getElem?_cons_succ, List.getElem?_cons_zero, Option.some.injEq] at ho
        subst ho
        obtain ⟨u7, e7⟩ := hdep ⟨7, .data⟩ (by simp) rfl _ 102 rfl rfl
        obtain ⟨v1, h1, h2⟩ : TqY W2.heap.size (bkL l) (vals 7) x := e7
        rw [h1] at u7
        unfold Oper.wp
        simp [execOp, go_sem, u7]
        exact came _ rfl (Below.refl _ _) h2 (fun h => absurd h (by decide))
      | 9, _, ho =>
        simp only [List.getElem?_cons_succ, List.getElem?_cons_zero, Option.some.injEq] at ho
        subst ho
        obtain ⟨u7, e7⟩ := hdep ⟨7, .data⟩ (by simp) rfl _ 102 rfl rfl
        obtain ⟨v1, h1, h2⟩ : TqY W2.heap.size (bkL l) (vals 7) x := e7
        rw [h1] at u7
        unfold Oper.wp
        simp [execOp, go_sem, u7]
        exact came _ rfl (Below.refl _ _) rfl (fun h => absurd h (by decide))
      | 10, _, ho =>
        simp only [List.getElem?_cons_succ, List.getElem?_cons_zero, Option.some.injEq] at ho
        subst ho
        unfold Oper.wp
        simp [execOp, go_sem]
        exact came _ rfl (below_one _ _) ⟨x.heap.size, rfl, hX.size, row_new x _ _⟩ (fun h => absurd h (by decide))
      | 11, _, ho =>
        simp only [List.getElem?_cons_succ, List.getElem?_cons_zero, Option.some.injEq] at ho
        subst ho
        obtain ⟨u8, e8⟩ := hdep ⟨8, .data⟩ (by simp) rfl _ 110 rfl rfl
        unfold Oper.wp
        simp [execOp, go_sem, u8]
        exact came _ rfl (Below.refl _ _) e8 (fun h => absurd h (by decide))
      | m + 12, hi, _ => exact absurd hi (by omega)
    · intro vals x hX hR _
      obtain ⟨nb7, e7, hn7, r7⟩ : NwN W2.heap.size (vals 10) x := hR 10 (by decide)
      have e9 : vals 9 = .agg (nov 0 none 0 0 none 0 0) := hR 9 (by decide)
      have q3 : NwX W2.heap.size (vals 11) (bkL l) x := hR 11 (by decide)
      obtain ⟨a3, c3, hv3, _⟩ := Rw.form q3.1
      generalize List.length _ = n3 at hv3
      rw [hv3] at q3
      have k7 := Ch.row (S := fun k => k = nb7) (Ch.refl _ x) (.inl rfl) (nov 0 none 0 0 none 0 0)
      have hPx := (H.out.later (bgo HX1.out hX)).ch k7 (fun k hk => by
        have e' : k = nb7 := hk
        have h1 := HX1.out.size
        refine ⟨fun q => ?_, fun q => ?_, fun q => ?_⟩
        · have := H.out.s.lt k q; omega
        · have := H.out.r.lt k q; omega
        · have := H.out.lies.lt; omega)
      have q3' : SlD (x.setRow nb7 (nov 0 none 0 0 none 0 0)) (.slice a3 n3 c3) (bkL l) := RwX.sl (Rw.ch q3.1 k7 (fun k hk e => by
        have e' : k = nb7 := e
        subst e'
        obtain ⟨cur, h1⟩ := Rw.typ q3.1 k hk
        have h2 : x.heap[k]? = _ := r7
        rw [h1] at h2
        simp at h2))
      have q1' : RwX (.slice a2 n2 c2) (bkL l) (x.setRow nb7 (nov 0 none 0 0 none 0 0)) := Rw.ch (Rw.later H1.out.1 hX) k7 (fun k hk e => by
        have e' : k = nb7 := e
        have := Rw.lt H1.out.1 k hk
        omega)
      have hbx : Below w.heap.size w (x.setRow nb7 (nov 0 none 0 0 none 0 0)) := below_row (bgo b0 (bgo HX1.out hX)) (by have := (bgo b0 HX1.out).size; omega) _
      have HG := hid_of' (got_yes (HLa.out _ (hbx.mono HK.out.size)) q1' q3' HFl.out)
      have HZ := hid_of' (And.intro hPx hbx)
      have r7' := r7.put (nov 0 none 0 0 none 0 0)
      have HO := hid_of' H1.out.2
      have HO2 : Hid (∀ k, Value.ownBlock (.slice a2 n2 c2) = some k → k < W2.heap.size) := Rw.lt H1.out.1
      have HR7 := hid_of' (And.intro r7 r7')
      simp only [List.drop, List.take, putAll, List.setIfInBounds_toArray, List.set_cons_succ, List.set_cons_zero, e7, e9, hv3]
      clear e7 e9 hv3 hR q3 q3' q1' hPx hbx k7 r7 r7'
      go_upto_region 19 with (refine wpL_storeNo rfl _ _ rfl rfl rfl HR7.out.1 ?_)
      generalize x.setRow nb7 (nov 0 none 0 0 none 0 0) = W4 at HZ HG HR7 ⊢
      go_wp2_with (first | (refine wpL_loadNo rfl _ rfl rfl HR7.out.2 rfl ?_) | (go_at_call 34; (with_reducible refine HG.out.mono ?_); rintro e w5 ⟨rfl, hc5⟩; clear HG))
      go_ret
      obtain ⟨hPx, hbx⟩ := HZ.out
      have hS : ∀ k, Value.ownBlock (.slice a2 n2 c2) = some k → ¬ F k ∧ ¬ F' k ∧ ¬ k = P := fun k hk => by
        have h1 := HO.out k hk
        refine ⟨fun q => ?_, fun q => ?_, fun q => ?_⟩
        · have := H.out.s.lt k q; omega
        · have := H.out.r.lt k q; omega
        · have := H.out.lies.lt; omega
      exact ⟨rfl, ⟨_, _, _, _, _, _, _, _, hPx.ch hc5 hS⟩, (hbx.mono HK.out.size).trans (hc5.below (fun s hs q => by have := HO.out s q; have := H.out.size; omega) hPx.size)⟩
set_option maxHeartbeats 8000000 in
theorem does_peekUndo_no {N P Bs Br : Nat} {d u : List (List Xg)} {vd vu vd' vu' : Value} {F F' : Nat → Prop} {w : World} {vL : Value} {lL : List Xg} (h : PrAt N P Bs Br d u vd vu vd' vu' F F' w) (dd : Int) (hdd : -9223372036854775808 ≤ dd ∧ dd ≤ 9223372036854775807) {ad : Nat → Addr} (hLa : ∀ x, Below N w x → Laid ad x) (hL : ∀ x, Below N w x → SlD x vL lL) (hcap : ∀ a n c, vL = .slice a n c → n ≤ c) (hem : d = []) (hm : wiN dd 6 = 3) :
    Calls Tryd.prog 10 #[.pointer (some ⟨P, 0, none⟩), .agg #[.int .i64 dd, .bool false, vL]] w fun e w' => DoQ N P Bs Br w e w' := by
  have HWi := hid_of' (fun x => within_is dd 6 x (by decide) (by decide) hdd)
  rw [hm, show ((6 : Nat) : Int) = 6 from rfl, show ((3 : Nat) : Int) = 3 from rfl] at HWi
  obtain ⟨aL, cL, hvL⟩ := (hL w (Below.refl _ _)).form
  have HL := hid_of' (And.intro hL hcap)
  generalize lL.length = nL at hvL
  subst hvL
  have r0 := row_new w (#[.int .i64 dd, .bool false, .slice aL nL cL]) 35
  have b0 := below_one w (.cells (#[.int .i64 dd, .bool false, .slice aL nL cL]) 35)
  have HK := hid_of' h
  clear h hL hcap hm hdd
  go_enter Tryd.func10, Tryd.ntmps10
  go_upto_region 1 with fail
  change Code.wp _ _ _ _ (w.alloc (.cells (#[.int .i64 dd, .bool false, .slice aL nL cL]) 35))
  generalize w.alloc (.cells (#[.int .i64 dd, .bool false, .slice aL nL cL]) 35) = X0 at r0 b0 ⊢
  generalize hob : w.heap.size = ob at r0 ⊢
  have c0 := r0.cellIs 0 rfl
  have c1 := r0.cellIs 1 rfl
  have c2 := r0.cellIs 2 rfl
  have HLa := hid_of' hLa
  have H := hid_of' (HK.out.later b0)
  clear hLa
  go_upto_region 17 with (go_at_call 31; (with_reducible refine (HWi.out _).mono ?_); rintro e w1 ⟨rfl, h0⟩; obtain rfl := h0.symm)
  clear c0 c1 c2
  refine wp_region_tail 11 (by kernel_rfl) (fun _ => none) (by kernel_rfl) (by kernel_rfl) (by decide) (fun i v x => match i with
    | 0 => v = .pointer (some ⟨P, 0, none⟩)
    | 1 => v = .pointer (some ⟨P, 0, none⟩)
    | 2 => v = .pointer (some ⟨P, 0, none⟩)
    | 3 => v = .pointer (some ⟨Bs, 0, none⟩)
    | 4 => v = .pointer (some ⟨ob, 1, none⟩)
    | 5 => v = .bool false
    | 6 => TpN ad X0.heap.size bUndo v x
    | 7 => TpN ad X0.heap.size bUndo v x
    | 8 => v = .slice none 0 0
    | 9 => ErrR ad X0.heap.size (some (bUndo, -1, 11)) v x
    | 10 => v = .slice none 0 0
    | _ => True) (fun _ => false) (fun _ _ _ _ h => by cases h) ?_ ?_ ?_
  · intro i v x x' hR hb
    match i, hR with
    | 0, h => exact h
    | 1, h => exact h
    | 2, h => exact h
    | 3, h => exact h
    | 4, h => exact h
    | 5, h => exact h
    | 6, h => exact h.later hb
    | 7, h => exact h.later hb
    | 8, h => exact h
    | 9, h => exact ErrR.later h hb
    | 10, h => exact h
    | m + 11, h => exact h
  · intro i o hi ho q x vals hX hdep hoth
    have t0 : q.tmps[0]? = some (.pointer (some ⟨P, 0, none⟩)) := by rw [hoth 0 (by kernel_rfl)]; rfl
    have t3 : q.tmps[3]? = some (.pointer (some ⟨ob, 0, none⟩)) := by rw [hoth 3 (by kernel_rfl)]; rfl
    match i, hi, ho with
    | 0, _, ho =>
      simp only [List.getElem?_cons_zero, Option.some.injEq] at ho
      subst ho
      unfold Oper.wp
      simp [execOp, go_sem, t0]
      exact came _ rfl (Below.refl _ _) rfl (fun h => absurd h (by decide))
    | 1, _, ho =>
      simp only [List.getElem?_cons_succ, List.getElem?_cons_zero, Option.some.injEq] at ho
      subst ho
      obtain ⟨u0, e0⟩ := hdep ⟨0, .data⟩ (by simp) rfl _ 93 rfl rfl
      rw [show vals 0 = .pointer (some ⟨P, 0, none⟩) from e0] at u0
      unfold Oper.wp
      simp [execOp, go_sem, u0]
      exact came _ rfl (Below.refl _ _) rfl (fun h => absurd h (by decide))
    | 2, _, ho =>
      simp only [List.getElem?_cons_succ, List.getElem?_cons_zero, Option.some.injEq] at ho
      subst ho
      obtain ⟨u1, e1⟩ := hdep ⟨1, .data⟩ (by simp) rfl _ 94 rfl rfl
      rw [show vals 1 = .pointer (some ⟨P, 0, none⟩) from e1] at u1
      unfold Oper.wp
      simp [execOp, go_sem, u1]
      exact came _ rfl (Below.refl _ _) rfl (fun h => absurd h (by decide))
    | 3, _, ho =>
      simp only [List.getElem?_cons_succ, List.getElem?_cons_zero, Option.some.injEq] at ho
      subst ho
      obtain ⟨u2, e2⟩ := hdep ⟨2, .data⟩ (by simp) rfl _ 95 rfl rfl
      rw [show vals 2 = .pointer (some ⟨P, 0, none⟩) from e2] at u2
      have cc : x.cell? ⟨P, 0, none⟩ = some (.pointer (some ⟨Bs, 0, none⟩)) := (H.out.lies.later hX).cellIs 0 rfl
      unfold Oper.wp
      simp [execOp, go_sem, u2, cc]
      exact came _ rfl (Below.refl _ _) rfl (fun h => absurd h (by decide))
    | 4, _, ho =>
      simp only [List.getElem?_cons_succ, List.getElem?_cons_zero, Option.some.injEq] at ho
      subst ho
      unfold Oper.wp
      simp [execOp, go_sem, t3]
      exact came _ rfl (Below.refl _ _) rfl (fun h => absurd h (by decide))
    | 5, _, ho =>
      simp only [List.getElem?_cons_succ, List.getElem?_cons_zero, Option.some.injEq] at ho
      subst ho
      obtain ⟨u4, e4⟩ := hdep ⟨4, .data⟩ (by simp) rfl _ 97 rfl rfl
      rw [show vals 4 = .pointer (some ⟨ob, 1, none⟩) from e4] at u4
      have cc : x.cell? ⟨ob, 1, none⟩ = some (.bool false) := (r0.later hX).cellIs 1 rfl
      unfold Oper.wp
      simp [execOp, go_sem, u4, cc]
      exact came _ rfl (Below.refl _ _) rfl (fun h => absurd h (by decide))
    | 6, _, ho =>
      simp only [List.getElem?_cons_succ, List.getElem?_cons_zero, Option.some.injEq] at ho
      subst ho
      obtain ⟨u3, e3⟩ := hdep ⟨3, .data⟩ (by simp) rfl _ 96 rfl rfl
      rw [show vals 3 = .pointer (some ⟨Bs, 0, none⟩) from e3] at u3
      obtain ⟨u5, e5⟩ := hdep ⟨5, .data⟩ (by simp) rfl _ 98 rfl rfl
      rw [show vals 5 = .bool false from e5] at u5
      unfold Oper.wp
      simp [go_sem, u3, u5]
      refine (peekUndo_no (HLa.out x ((bgo b0 hX).mono HK.out.size)).ln (H.out.s.later hX) hem).mono ?_
      rintro r x1 ⟨v1, rfl, hn1, hb1⟩
      exact came _ rfl hb1 ⟨v1, rfl, hn1.mono' hX.size⟩ (fun h => absurd h (by decide))
    | 7, _, ho =>
      simp only [List.getElem?_cons_succ, List.getElem?_cons_zero, Option.some.injEq] at ho
      subst ho
      obtain ⟨u6, e6⟩ := hdep ⟨6, .data⟩ (by simp) rfl _ 99 rfl rfl
      unfold Oper.wp
      simp [execOp, go_sem, u6]
      exact came _ rfl (Below.refl _ _) e6 (fun h => absurd h (by decide))
    | 8, _, ho =>
      simp only [List.getElem?_cons_succ, List.getElem?_cons_zero, Option.some.injEq] at ho
      subst ho
      obtain ⟨u7, e7⟩ := hdep ⟨7, .data⟩ (by simp) rfl _ 92 rfl rfl
      obtain ⟨v1, h1, h2⟩ : TpN ad X0.heap.size bUndo (vals 7) x := e7
      rw [h1] at u7
      unfold Oper.wp
      simp [execOp, go_sem, u7]
      exact came _ rfl (Below.refl _ _) rfl (fun h => absurd h (by decide))
    | 9, _, ho =>
      simp only [List.getElem?_cons_succ, List.getElem?_cons_zero, Option.some.injEq] at ho
      subst ho
      obtain ⟨u7, e7⟩ := hdep ⟨7, .data⟩ (by simp) rfl _ 92 rfl rfl
      obtain ⟨v1, h1, h2⟩ : TpN ad X0.heap.size bUndo (vals 7) x := e7
      rw [h1] at u7
      unfold Oper.wp
      simp [execOp, go_sem, u7]
      exact came _ rfl (Below.refl _ _) h2 (fun h => absurd h (by decide))
    | 10, _, ho =>
      simp only [List.getElem?_cons_succ, List.getElem?_cons_zero, Option.some.injEq] at ho
      subst ho
      obtain ⟨u8, e8⟩ := hdep ⟨8, .data⟩ (by simp) rfl _ 100 rfl rfl
      rw [show vals 8 = .slice none 0 0 from e8] at u8
      unfold Oper.wp
      simp [execOp, go_sem, u8]
      exact came _ rfl (Below.refl _ _) rfl (fun h => absurd h (by decide))
    | m + 11, hi, _ => exact absurd hi (by omega)
  · intro vals W2 hX hR _
    have e10 : vals 10 = .slice none 0 0 := hR 10 (by decide)
    have q1 : ErrR ad X0.heap.size (some (bUndo, -1, 11)) (vals 9) W2 := hR 9 (by decide)
    obtain ⟨b4, hv2, q1⟩ := q1
    have H1 := hid_of' q1
    have HX1 := hid_of' hX
    simp only [List.drop, List.take, putAll, List.setIfInBounds_toArray, List.set_cons_succ, List.set_cons_zero, e10, hv2]
    clear e10 hv2 hR q1 hX
    go_upto_region 18 with fail
    refine wp_region_tail 12 (by kernel_rfl) (fun _ => none) (by kernel_rfl) (by kernel_rfl) (by decide) (fun i v x => match i with
      | 0 => v = .pointer (some ⟨P, 0, none⟩)
      | 1 => v = .pointer (some ⟨P, 0, none⟩)
      | 2 => v = .pointer (some ⟨P, 1, none⟩)
      | 3 => v = .pointer (some ⟨Br, 0, none⟩)
      | 4 => v = .pointer (some ⟨ob, 1, none⟩)
      | 5 => v = .bool false
      | 6 => TqN W2.heap.size bUndo v x
      | 7 => TqN W2.heap.size bUndo v x
      | 8 => v = .slice none 0 0
      | 9 => NoR W2.heap.size (some (bUndo, -1, 11)) v x
      | 10 => NwN W2.heap.size v x
      | 11 => v = .slice none 0 0
      | _ => True) (fun _ => false) (fun _ _ _ _ h => by cases h) ?_ ?_ ?_
    · intro i v x x' hR hb
      match i, hR with
      | 0, h => exact h
      | 1, h => exact h
      | 2, h => exact h
      | 3, h => exact h
      | 4, h => exact h
      | 5, h => exact h
      | 6, h => exact h.later hb
      | 7, h => exact h.later hb
      | 8, h => exact h
      | 9, h => exact NoR.later h hb
      | 10, h => exact h.later hb
      | 11, h => exact h
      | m + 12, h => exact h
    · intro i o hi ho q x vals hX hdep hoth
      have t0 : q.tmps[0]? = some (.pointer (some ⟨P, 0, none⟩)) := by rw [hoth 0 (by kernel_rfl)]; rfl
      have t3 : q.tmps[3]? = some (.pointer (some ⟨ob, 0, none⟩)) := by rw [hoth 3 (by kernel_rfl)]; rfl
      match i, hi, ho with
      | 0, _, ho =>
        simp only [List.getElem?_cons_zero, Option.some.injEq] at ho
        subst ho
        unfold Oper.wp
        simp [execOp, go_sem, t0]
        exact came _ rfl (Below.refl _ _) rfl (fun h => absurd h (by decide))
      | 1, _, ho =>
        simp only [List.getElem?_cons_succ, List.getElem?_cons_zero, Option.some.injEq] at ho
        subst ho
        obtain ⟨u0, e0⟩ := hdep ⟨0, .data⟩ (by simp) rfl _ 103 rfl rfl
        rw [show vals 0 = .pointer (some ⟨P, 0, none⟩) from e0] at u0
        unfold Oper.wp
        simp [execOp, go_sem, u0]
        exact came _ rfl (Below.refl _ _) rfl (fun h => absurd h (by decide))
      | 2, _, ho =>
        simp only [List.getElem?_cons_succ, List.getElem?_cons_zero, Option.some.injEq] at ho
        subst ho
        obtain ⟨u1, e1⟩ := hdep ⟨1, .data⟩ (by simp) rfl _ 104 rfl rfl
        rw [show vals 1 = .pointer (some ⟨P, 0, none⟩) from e1] at u1
        unfold Oper.wp
        simp [execOp, go_sem, u1]
        exact came _ rfl (Below.refl _ _) rfl (fun h => absurd h (by decide))
      | 3, _, ho =>
        simp only [List.getElem?_cons_succ, List.getElem?_cons_zero, Option.some.injEq] at ho
        subst ho
        obtain ⟨u2, e2⟩ := hdep ⟨2, .data⟩ (by simp) rfl _ 105 rfl rfl
        rw [show vals 2 = .pointer (some ⟨P, 1, none⟩) from e2] at u2
        have cc : x.cell? ⟨P, 1, none⟩ = some (.pointer (some ⟨Br, 0, none⟩)) := (H.out.lies.later (bgo HX1.out hX)).cellIs 1 rfl
        unfold Oper.wp
        simp [execOp, go_sem, u2, cc]
        exact came _ rfl (Below.refl _ _) rfl (fun h => absurd h (by decide))
      | 4, _, ho =>
        simp only [List.getElem?_cons_succ, List.getElem?_cons_zero, Option.some.injEq] at ho
        subst ho
        unfold Oper.wp
        simp [execOp, go_sem, t3]
        exact came _ rfl (Below.refl _ _) rfl (fun h => absurd h (by decide))
      | 5, _, ho =>
        simp only [List.getElem?_cons_succ, List.getElem?_cons_zero, Option.some.injEq] at ho
        subst ho
        obtain ⟨u4, e4⟩ := hdep ⟨4, .data⟩ (by simp) rfl _ 107 rfl rfl
        rw [show vals 4 = .pointer (some ⟨ob, 1, none⟩) from e4] at u4
        have cc : x.cell? ⟨ob, 1, none⟩ = some (.bool false) := (r0.later (bgo HX1.out hX)).cellIs 1 rfl
        unfold Oper.wp
        simp [execOp, go_sem, u4, cc]
        exact came _ rfl (Below.refl _ _) rfl (fun h => absurd h (by decide))
      | 6, _, ho =>
        simp only [List.getElem?_cons_succ, List.getElem?_cons_zero, Option.some.injEq] at ho
        subst ho
        obtain ⟨u3, e3⟩ := hdep ⟨3, .data⟩ (by simp) rfl _ 106 rfl rfl
        rw [show vals 3 = .pointer (some ⟨Br, 0, none⟩) from e3] at u3
        obtain ⟨u5, e5⟩ := hdep ⟨5, .data⟩ (by simp) rfl _ 108 rfl rfl
        rw [show vals 5 = .bool false from e5] at u5
        unfold Oper.wp
        simp [go_sem, u3, u5]
        refine (refPeekUndo_no (H.out.r.later (bgo HX1.out hX)) hem).mono ?_
        rintro r x1 ⟨v1, rfl, hn1, hb1⟩
        exact came _ rfl hb1 ⟨v1, rfl, hn1.mono' hX.size⟩ (fun h => absurd h (by decide))
      | 7, _, ho =>
        simp only [List.getElem?_cons_succ, List.getElem?_cons_zero, Option.some.injEq] at ho
        subst ho
        obtain ⟨u6, e6⟩ := hdep ⟨6, .data⟩ (by simp) rfl _ 109 rfl rfl
        unfold Oper.wp
        simp [execOp, go_sem, u6]
        exact came _ rfl (Below.refl _ _) e6 (fun h => absurd h (by decide))
      | 8, _, ho =>
        simp only [List.getElem?_cons_succ, List.getElem?_cons_zero, Option.some.injEq] at ho
        subst ho
        obtain ⟨u7, e7⟩ := hdep ⟨7, .data⟩ (by simp) rfl _ 102 rfl rfl
        obtain ⟨v1, h1, h2⟩ : TqN W2.heap.size bUndo (vals 7) x := e7
        rw [h1] at u7
        unfold Oper.wp
        simp [execOp, go_sem, u7]
        exact came _ rfl (Below.refl _ _) rfl (fun h => absurd h (by decide))
      | 9, _, ho =>
        simp only [List.getElem?_cons_succ, List.getElem?_cons_zero, Option.some.injEq] at ho
        subst ho
        obtain ⟨u7, e7⟩ := hdep ⟨7, .data⟩ (by simp) rfl _ 102 rfl rfl
        obtain ⟨v1, h1, h2⟩ : TqN W2.heap.size bUndo (vals 7) x := e7
        rw [h1] at u7
        unfold Oper.wp
        simp [execOp, go_sem, u7]
        exact came _ rfl (Below.refl _ _) h2 (fun h => absurd h (by decide))
      | 10, _, ho =>
        simp only [List.getElem?_cons_succ, List.getElem?_cons_zero, Option.some.injEq] at ho
        subst ho
        unfold Oper.wp
        simp [execOp, go_sem]
        exact came _ rfl (below_one _ _) ⟨x.heap.size, rfl, hX.size, row_new x _ _⟩ (fun h => absurd h (by decide))
      | 11, _, ho =>
        simp only [List.getElem?_cons_succ, List.getElem?_cons_zero, Option.some.injEq] at ho
        subst ho
        obtain ⟨u8, e8⟩ := hdep ⟨8, .data⟩ (by simp) rfl _ 110 rfl rfl
        rw [show vals 8 = .slice none 0 0 from e8] at u8
        unfold Oper.wp
        simp [execOp, go_sem, u8]
        exact came _ rfl (Below.refl _ _) rfl (fun h => absurd h (by decide))
      | m + 12, hi, _ => exact absurd hi (by omega)
    · intro vals x hX hR _
      obtain ⟨nb7, e7, hn7, r7⟩ : NwN W2.heap.size (vals 10) x := hR 10 (by decide)
      have e11 : vals 11 = .slice none 0 0 := hR 11 (by decide)
      have q3 : NoR W2.heap.size (some (bUndo, -1, 11)) (vals 9) x := hR 9 (by decide)
      obtain ⟨g4, g4', hv3, i1, i2, i3, i4⟩ := q3
      have k7 := Ch.row (S := fun k => k = nb7) (Ch.refl _ x) (.inl rfl) (nov (((11 : Nat) : Int) + 1) (some ⟨g4', 0, none⟩) 1 1 (some ⟨g4, 0, none⟩) 1 1)
      have hbx : Below w.heap.size w (x.setRow nb7 (nov (((11 : Nat) : Int) + 1) (some ⟨g4', 0, none⟩) 1 1 (some ⟨g4, 0, none⟩) 1 1)) := below_row (bgo b0 (bgo HX1.out hX)) (by have := (bgo b0 HX1.out).size; omega) _
      have hne1 : ¬ g4' = nb7 := fun e => by
        subst e
        have h1 : x.cell? ⟨g4', 0, none⟩ = some (.string bU) := i3.2 0 _ rfl
        have h2 : x.cell? ⟨g4', 0, none⟩ = some (.int .i64 0) := r7.cellIs 0 rfl
        rw [h1] at h2
        simp at h2
      have hne2 : ¬ g4 = nb7 := fun e => by
        subst e
        have h1 : x.cell? ⟨g4, 0, none⟩ = some (.int .i64 12) := i4.2 0 _ rfl
        have h2 : x.cell? ⟨g4, 0, none⟩ = some (.int .i64 0) := r7.cellIs 0 rfl
        rw [h1] at h2
        simp at h2
      have hno : NoR W2.heap.size (some (bUndo, -1, 11)) (.agg (nov (((11 : Nat) : Int) + 1) (some ⟨g4', 0, none⟩) 1 1 (some ⟨g4, 0, none⟩) 1 1)) (x.setRow nb7 (nov (((11 : Nat) : Int) + 1) (some ⟨g4', 0, none⟩) 1 1 (some ⟨g4, 0, none⟩) 1 1)) := ⟨g4, g4', rfl, i1, i2, i3.ch k7 hne1, i4.ch k7 hne2⟩
      have her : ErrR ad X0.heap.size (some (bUndo, -1, 11)) (.iface 90 (.pointer (some ⟨b4, 0, none⟩))) (x.setRow nb7 (nov (((11 : Nat) : Int) + 1) (some ⟨g4', 0, none⟩) 1 1 (some ⟨g4, 0, none⟩) 1 1)) := by
        have h1 : ErrR ad X0.heap.size (some (bUndo, -1, 11)) (.iface 90 (.pointer (some ⟨b4, 0, none⟩))) W2 := ⟨b4, rfl, H1.out⟩
        obtain ⟨b, z1, z2, z3, z4⟩ := h1.later hX
        have hbl : b4 < W2.heap.size := RowAt.lt H1.out.2.2
        refine ⟨b, z1, z2, z3, RowAt.ch z4 k7 (fun e => ?_)⟩
        have e' : b = nb7 := e
        simp only [Value.iface.injEq, Value.pointer.injEq, Option.some.injEq, Addr.mk.injEq, true_and, and_true] at z1
        omega
      have HG := hid_of' (got_no (cc := bUndo) (HLa.out _ (hbx.mono HK.out.size)) (RwX.nil _) (.inl ⟨rfl, none, 0, rfl⟩) (by simp) her hno)
      have hPx := (H.out.later (bgo HX1.out hX)).ch k7 (fun k hk => by
        have e' : k = nb7 := hk
        have h1 := HX1.out.size
        refine ⟨fun q => ?_, fun q => ?_, fun q => ?_⟩
        · have := H.out.s.lt k q; omega
        · have := H.out.r.lt k q; omega
        · have := H.out.lies.lt; omega)
      have HZ := hid_of' (And.intro hPx hbx)
      have r7' := r7.put (nov (((11 : Nat) : Int) + 1) (some ⟨g4', 0, none⟩) 1 1 (some ⟨g4, 0, none⟩) 1 1)
      have HR7 := hid_of' (And.intro r7 r7')
      simp only [List.drop, List.take, putAll, List.setIfInBounds_toArray, List.set_cons_succ, List.set_cons_zero, e7, e11, hv3]
      clear e7 e11 hv3 hR i1 i2 i3 i4 hne1 hne2 hno her hPx hbx k7 r7 r7'
      go_upto_region 19 with (refine wpL_storeNo rfl _ _ rfl rfl rfl HR7.out.1 ?_)
      generalize x.setRow nb7 (nov (((11 : Nat) : Int) + 1) (some ⟨g4', 0, none⟩) 1 1 (some ⟨g4, 0, none⟩) 1 1) = W4 at HZ HG HR7 ⊢
      have r9 := HR7.out.2
      rw [show (((11 : Nat) : Int) + 1) = 12 from rfl] at HG r9
      clear HR7
      go_wp2_with (first | (refine wpL_loadNo rfl _ rfl rfl r9 rfl ?_) | (go_at_call 34; (with_reducible refine HG.out.mono ?_); rintro e w5 ⟨rfl, hc5⟩; clear HG))
      go_ret
      obtain ⟨hPx, hbx⟩ := HZ.out
      have hb5 : Below W4.heap.size W4 w5 := hc5.none (fun s _ q => by cases q)
      exact ⟨rfl, ⟨_, _, _, _, _, _, _, _, hPx.later hb5⟩, (bgo hbx hb5).mono HK.out.size⟩
set_option maxHeartbeats 8000000 in
theorem does_peekRedo_yes {N P Bs Br : Nat} {d u : List (List Xg)} {vd vu vd' vu' : Value} {F F' : Nat → Prop} {w : World} {vL : Value} {lL : List Xg} (h : PrAt N P Bs Br d u vd vu vd' vu' F F' w) (dd : Int) (hdd : -9223372036854775808 ≤ dd ∧ dd ≤ 9223372036854775807) {ad : Nat → Addr} (hLa : ∀ x, Below N w x → Laid ad x) (hL : ∀ x, Below N w x → SlD x vL lL) (hcap : ∀ a n c, vL = .slice a n c → n ≤ c) {n : Nat} {l : List Xg} (hn : u.length = n + 1) (hl : u[n]? = some l) (hm : wiN dd 6 = 3) :
    Calls Tryd.prog 10 #[.pointer (some ⟨P, 0, none⟩), .agg #[.int .i64 dd, .bool true, vL]] w fun e w' => DoQ N P Bs Br w e w' := by
  have HWi := hid_of' (fun x => within_is dd 6 x (by decide) (by decide) hdd)
  rw [hm, show ((6 : Nat) : Int) = 6 from rfl, show ((3 : Nat) : Int) = 3 from rfl] at HWi
  obtain ⟨aL, cL, hvL⟩ := (hL w (Below.refl _ _)).form
  have HL := hid_of' (And.intro hL hcap)
  generalize lL.length = nL at hvL
  subst hvL
  have r0 := row_new w (#[.int .i64 dd, .bool true, .slice aL nL cL]) 35
  have b0 := below_one w (.cells (#[.int .i64 dd, .bool true, .slice aL nL cL]) 35)
  have HK := hid_of' h
  clear h hL hcap hm hdd
  go_enter Tryd.func10, Tryd.ntmps10
  go_upto_region 1 with fail
  change Code.wp _ _ _ _ (w.alloc (.cells (#[.int .i64 dd, .bool true, .slice aL nL cL]) 35))
  generalize w.alloc (.cells (#[.int .i64 dd, .bool true, .slice aL nL cL]) 35) = X0 at r0 b0 ⊢
  generalize hob : w.heap.size = ob at r0 ⊢
  have c0 := r0.cellIs 0 rfl
  have c1 := r0.cellIs 1 rfl
  have c2 := r0.cellIs 2 rfl
  have HLa := hid_of' hLa
  have H := hid_of' (HK.out.later b0)
  clear hLa
  have hfl : l.length ≤ 4398046510976 := (H.out.s.ru.fits l (List.mem_of_getElem? hl)).2
  have HFl := hid_of' (Nat.le_trans (agL_len l) hfl)
  clear hfl
  go_upto_region 17 with (go_at_call 31; (with_reducible refine (HWi.out _).mono ?_); rintro e w1 ⟨rfl, h0⟩; obtain rfl := h0.symm)
  clear c0 c1 c2
  refine wp_region_tail 11 (by kernel_rfl) (fun _ => none) (by kernel_rfl) (by kernel_rfl) (by decide) (fun i v x => match i with
    | 0 => v = .pointer (some ⟨P, 0, none⟩)
    | 1 => v = .pointer (some ⟨P, 0, none⟩)
    | 2 => v = .pointer (some ⟨P, 0, none⟩)
    | 3 => v = .pointer (some ⟨Bs, 0, none⟩)
    | 4 => v = .pointer (some ⟨ob, 1, none⟩)
    | 5 => v = .bool true
    | 6 => TpY X0.heap.size (agL l) v x
    | 7 => TpY X0.heap.size (agL l) v x
    | 8 => NwX X0.heap.size v (agL l) x
    | 9 => v = .nilIface
    | 10 => NwX X0.heap.size v (agL l) x
    | _ => True) (fun _ => false) (fun _ _ _ _ h => by cases h) ?_ ?_ ?_
  · intro i v x x' hR hb
    match i, hR with
    | 0, h => exact h
    | 1, h => exact h
    | 2, h => exact h
    | 3, h => exact h
    | 4, h => exact h
    | 5, h => exact h
    | 6, h => exact h.later hb
    | 7, h => exact h.later hb
    | 8, h => exact h.later hb
    | 9, h => exact h
    | 10, h => exact h.later hb
    | m + 11, h => exact h
  · intro i o hi ho q x vals hX hdep hoth
    have t0 : q.tmps[0]? = some (.pointer (some ⟨P, 0, none⟩)) := by rw [hoth 0 (by kernel_rfl)]; rfl
    have t3 : q.tmps[3]? = some (.pointer (some ⟨ob, 0, none⟩)) := by rw [hoth 3 (by kernel_rfl)]; rfl
    match i, hi, ho with
    | 0, _, ho =>
      simp only [List.getElem?_cons_zero, Option.some.injEq] at ho
      subst ho
      unfold Oper.wp
      simp [execOp, go_sem, t0]
      exact came _ rfl (Below.refl _ _) rfl (fun h => absurd h (by decide))
    | 1, _, ho =>
      simp only [List.getElem?_cons_succ, List.getElem?_cons_zero, Option.some.injEq] at ho
      subst ho
      obtain ⟨u0, e0⟩ := hdep ⟨0, .data⟩ (by simp) rfl _ 93 rfl rfl
      rw [show vals 0 = .pointer (some ⟨P, 0, none⟩) from e0] at u0
      unfold Oper.wp
      simp [execOp, go_sem, u0]
      exact came _ rfl (Below.refl _ _) rfl (fun h => absurd h (by decide))
    | 2, _, ho =>
      simp only [List.getElem?_cons_succ, List.getElem?_cons_zero, Option.some.injEq] at ho
      subst ho
      obtain ⟨u1, e1⟩ := hdep ⟨1, .data⟩ (by simp) rfl _ 94 rfl rfl
      rw [show vals 1 = .pointer (some ⟨P, 0, none⟩) from e1] at u1
      unfold Oper.wp
      simp [execOp, go_sem, u1]
      exact came _ rfl (Below.refl _ _) rfl (fun h => absurd h (by decide))
    | 3, _, ho =>
      simp only [List.getElem?_cons_succ, List.getElem?_cons_zero, Option.some.injEq] at ho
      subst ho
      obtain ⟨u2, e2⟩ := hdep ⟨2, .data⟩ (by simp) rfl _ 95 rfl rfl
      rw [show vals 2 = .pointer (some ⟨P, 0, none⟩) from e2] at u2
      have cc : x.cell? ⟨P, 0, none⟩ = some (.pointer (some ⟨Bs, 0, none⟩)) := (H.out.lies.later hX).cellIs 0 rfl
      unfold Oper.wp
      simp [execOp, go_sem, u2, cc]
      exact came _ rfl (Below.refl _ _) rfl (fun h => absurd h (by decide))
    | 4, _, ho =>
      simp only [List.getElem?_cons_succ, List.getElem?_cons_zero, Option.some.injEq] at ho
      subst ho
      unfold Oper.wp
      simp [execOp, go_sem, t3]
      exact came _ rfl (Below.refl _ _) rfl (fun h => absurd h (by decide))
    | 5, _, ho =>
      simp only [List.getElem?_cons_succ, List.getElem?_cons_zero, Option.some.injEq] at ho
      subst ho
      obtain ⟨u4, e4⟩ := hdep ⟨4, .data⟩ (by simp) rfl _ 97 rfl rfl
      rw [show vals 4 = .pointer (some ⟨ob, 1, none⟩) from e4] at u4
      have cc : x.cell? ⟨ob, 1, none⟩ = some (.bool true) := (r0.later hX).cellIs 1 rfl
      unfold Oper.wp
      simp [execOp, go_sem, u4, cc]
      exact came _ rfl (Below.refl _ _) rfl (fun h => absurd h (by decide))
    | 6, _, ho =>
      simp only [List.getElem?_cons_succ, List.getElem?_cons_zero, Option.some.injEq] at ho
      subst ho
      obtain ⟨u3, e3⟩ := hdep ⟨3, .data⟩ (by simp) rfl _ 96 rfl rfl
      rw [show vals 3 = .pointer (some ⟨Bs, 0, none⟩) from e3] at u3
      obtain ⟨u5, e5⟩ := hdep ⟨5, .data⟩ (by simp) rfl _ 98 rfl rfl
      rw [show vals 5 = .bool true from e5] at u5
      unfold Oper.wp
      simp [go_sem, u3, u5]
      refine (peekRedo_yes (H.out.s.later hX) hn hl).mono ?_
      rintro r x1 ⟨v1, rfl, hn1, hb1⟩
      exact came _ rfl hb1 ⟨v1, rfl, hn1.1, fun k hk => by have := hn1.2 k hk; have := hX.size; omega⟩ (fun h => absurd h (by decide))
    | 7, _, ho =>
      simp only [List.getElem?_cons_succ, List.getElem?_cons_zero, Option.some.injEq] at ho
      subst ho
      obtain ⟨u6, e6⟩ := hdep ⟨6, .data⟩ (by simp) rfl _ 99 rfl rfl
      unfold Oper.wp
      simp [execOp, go_sem, u6]
      exact came _ rfl (Below.refl _ _) e6 (fun h => absurd h (by decide))
    | 8, _, ho =>
      simp only [List.getElem?_cons_succ, List.getElem?_cons_zero, Option.some.injEq] at ho
      subst ho
      obtain ⟨u7, e7⟩ := hdep ⟨7, .data⟩ (by simp) rfl _ 92 rfl rfl
      obtain ⟨v1, h1, h2⟩ : TpY X0.heap.size (agL l) (vals 7) x := e7
      rw [h1] at u7
      unfold Oper.wp
      simp [execOp, go_sem, u7]
      exact came _ rfl (Below.refl _ _) h2 (fun h => absurd h (by decide))
    | 9, _, ho =>
      simp only [List.getElem?_cons_succ, List.getElem?_cons_zero, Option.some.injEq] at ho
      subst ho
      obtain ⟨u7, e7⟩ := hdep ⟨7, .data⟩ (by simp) rfl _ 92 rfl rfl
      obtain ⟨v1, h1, h2⟩ : TpY X0.heap.size (agL l) (vals 7) x := e7
      rw [h1] at u7
      unfold Oper.wp
      simp [execOp, go_sem, u7]
      exact came _ rfl (Below.refl _ _) rfl (fun h => absurd h (by decide))
    | 10, _, ho =>
      simp only [List.getElem?_cons_succ, List.getElem?_cons_zero, Option.some.injEq] at ho
      subst ho
      obtain ⟨u8, e8⟩ := hdep ⟨8, .data⟩ (by simp) rfl _ 100 rfl rfl
      unfold Oper.wp
      simp [execOp, go_sem, u8]
      exact came _ rfl (Below.refl _ _) e8 (fun h => absurd h (by decide))
    | m + 11, hi, _ => exact absurd hi (by omega)
  · intro vals W2 hX hR _
    have e9 : vals 9 = .nilIface := hR 9 (by decide)
    have q1 : NwX X0.heap.size (vals 10) (agL l) W2 := hR 10 (by decide)
    obtain ⟨a2, c2, hv2, _⟩ := Rw.form q1.1
    generalize List.length _ = n2 at hv2
    rw [hv2] at q1
    have H1 := hid_of' q1
    have HX1 := hid_of' hX
    simp only [List.drop, List.take, putAll, List.setIfInBounds_toArray, List.set_cons_succ, List.set_cons_zero, e9, hv2]
    clear e9 hv2 hR q1 hX
    go_upto_region 18 with fail
    refine wp_region_tail 12 (by kernel_rfl) (fun _ => none) (by kernel_rfl) (by kernel_rfl) (by decide) (fun i v x => match i with
      | 0 => v = .pointer (some ⟨P, 0, none⟩)
      | 1 => v = .pointer (some ⟨P, 0, none⟩)
      | 2 => v = .pointer (some ⟨P, 1, none⟩)
      | 3 => v = .pointer (some ⟨Br, 0, none⟩)
      | 4 => v = .pointer (some ⟨ob, 1, none⟩)
      | 5 => v = .bool true
      | 6 => TqY W2.heap.size (agL l) v x
      | 7 => TqY W2.heap.size (agL l) v x
      | 8 => NwX W2.heap.size v (agL l) x
      | 9 => v = .agg (nov 0 none 0 0 none 0 0)
      | 10 => NwN W2.heap.size v x
      | 11 => NwX W2.heap.size v (agL l) x
      | _ => True) (fun _ => false) (fun _ _ _ _ h => by cases h) ?_ ?_ ?_
    · intro i v x x' hR hb
      match i, hR with
      | 0, h => exact h
      | 1, h => exact h
      | 2, h => exact h
      | 3, h => exact h
      | 4, h => exact h
      | 5, h => exact h
      | 6, h => exact h.later hb
      | 7, h => exact h.later hb
      | 8, h => exact h.later hb
      | 9, h => exact h
      | 10, h => exact h.later hb
      | 11, h => exact h.later hb
      | m + 12, h => exact h
    · intro i o hi ho q x vals hX hdep hoth
      have t0 : q.tmps[0]? = some (.pointer (some ⟨P, 0, none⟩)) := by rw [hoth 0 (by kernel_rfl)]; rfl
      have t3 : q.tmps[3]? = some (.pointer (some ⟨ob, 0, none⟩)) := by rw [hoth 3 (by kernel_rfl)]; rfl
      match i, hi, ho with
      | 0, _, ho =>
        simp only [List.getElem?_cons_zero, Option.some.injEq] at ho
        subst ho
        unfold Oper.wp
        simp [execOp, go_sem, t0]
        exact came _ rfl (Below.refl _ _) rfl (fun h => absurd h (by decide))
      | 1, _, ho =>
        simp only [List.getElem?_cons_succ, List.getElem?_cons_zero, Option.some.injEq] at ho
        subst ho
        obtain ⟨u0, e0⟩ := hdep ⟨0, .data⟩ (by simp) rfl _ 103 rfl rfl
        rw [show vals 0 = .pointer (some ⟨P, 0, none⟩) from e0] at u0
        unfold Oper.wp
        simp [execOp, go_sem, u0]
        exact came _ rfl (Below.refl _ _) rfl (fun h => absurd h (by decide))
      | 2, _, ho =>
        simp only [List.getElem?_cons_succ, List.getElem?_cons_zero, Option.some.injEq] at ho
        subst ho
        obtain ⟨u1, e1⟩ := hdep ⟨1, .data⟩ (by simp) rfl _ 104 rfl rfl
        rw [show vals 1 = .pointer (some ⟨P, 0, none⟩) from e1] at u1
        unfold Oper.wp
        simp [execOp, go_sem, u1]
        exact came _ rfl (Below.refl _ _) rfl (fun h => absurd h (by decide))
      | 3, _, ho =>
        simp only [List.getElem?_cons_succ, List.getElem?_cons_zero, Option.some.injEq] at ho
        subst ho
        obtain ⟨u2, e2⟩ := hdep ⟨2, .data⟩ (by simp) rfl _ 105 rfl rfl
        rw [show vals 2 = .pointer (some ⟨P, 1, none⟩) from e2] at u2
        have cc : x.cell? ⟨P, 1, none⟩ = some (.pointer (some ⟨Br, 0, none⟩)) := (H.out.lies.later (bgo HX1.out hX)).cellIs 1 rfl
        unfold Oper.wp
        simp [execOp, go_sem, u2, cc]
        exact came _ rfl (Below.refl _ _) rfl (fun h => absurd h (by decide))
      | 4, _, ho =>
        simp only [List.getElem?_cons_succ, List.getElem?_cons_zero, Option.some.injEq] at ho
        subst ho
        unfold Oper.wp
        simp [execOp, go_sem, t3]
        exact came _ rfl (Below.refl _ _) rfl (fun h => absurd h (by decide))
      | 5, _, ho =>
        simp only [List.getElem?_cons_succ, List.getElem?_cons_zero, Option.some.injEq] at ho
        subst ho
        obtain ⟨u4, e4⟩ := hdep ⟨4, .data⟩ (by simp) rfl _ 107 rfl rfl
        rw [show vals 4 = .pointer (some ⟨ob, 1, none⟩) from e4] at u4
        have cc : x.cell? ⟨ob, 1, none⟩ = some (.bool true) := (r0.later (bgo HX1.out hX)).cellIs 1 rfl
        unfold Oper.wp
        simp [execOp, go_sem, u4, cc]
        exact came _ rfl (Below.refl _ _) rfl (fun h => absurd h (by decide))
      | 6, _, ho =>
        simp only [List.getElem?_cons_succ, List.getElem?_cons_zero, Option.some.injEq] at ho
        subst ho
        obtain ⟨u3, e3⟩ := hdep ⟨3, .data⟩ (by simp) rfl _ 106 rfl rfl
        rw [show vals 3 = .pointer (some ⟨Br, 0, none⟩) from e3] at u3
        obtain ⟨u5, e5⟩ := hdep ⟨5, .data⟩ (by simp) rfl _ 108 rfl rfl
        rw [show vals 5 = .bool true from e5] at u5
        unfold Oper.wp
        simp [go_sem, u3, u5]
        refine (refPeekRedo_yes (H.out.r.later (bgo HX1.out hX)) hn hl).mono ?_
        rintro r x1 ⟨v1, rfl, hn1, hb1⟩
        exact came _ rfl hb1 ⟨v1, rfl, hn1.1, fun k hk => by have := hn1.2 k hk; have := hX.size; omega⟩ (fun h => absurd h (by decide))
      | 7, _, ho =>
        simp only [List.getElem?_cons_succ, List.getElem?_cons_zero, Option.some.injEq] at ho
        subst ho
        obtain ⟨u6, e6⟩ := hdep ⟨6, .data⟩ (by simp) rfl _ 109 rfl rfl
        unfold Oper.wp
        simp [execOp, go_sem, u6]
        exact came _ rfl (Below.refl _ _) e6 (fun h => absurd h (by decide))
      | 8, _, ho =>
        simp only [List.getElem?_cons_succ, List.getElem?_cons_zero, Option.some.injEq] at ho
        subst ho
        obtain ⟨u7, e7⟩ := hdep ⟨7, .data⟩ (by simp) rfl _ 102 rfl rfl
        obtain ⟨v1, h1, h2⟩ : TqY W2.heap.size (agL l) (vals 7) x := e7
        rw [h1] at u7
        unfold Oper.wp
        simp [execOp, go_sem, u7]
        exact came _ rfl (Below.refl _ _) h2 (fun h => absurd h (by decide))
      | 9, _, ho =>
        simp only [List.getElem?_cons_succ, List.getElem?_cons_zero, Option.some.injEq] at ho
        subst ho
        obtain ⟨u7, e7⟩ := hdep ⟨7, .data⟩ (by simp) rfl _ 102 rfl rfl
        obtain ⟨v1, h1, h2⟩ : TqY W2.heap.size (agL l) (vals 7) x := e7
        rw [h1] at u7
        unfold Oper.wp
        simp [execOp, go_sem, u7]
        exact came _ rfl (Below.refl _ _) rfl (fun h => absurd h (by decide))
      | 10, _, ho =>
        simp only [List.getElem?_cons_succ, List.getElem?_cons_zero, Option.some.injEq] at ho
        subst ho
        unfold Oper.wp
        simp [execOp, go_sem]
        exact came _ rfl (below_one _ _) ⟨x.heap.size, rfl, hX.size, row_new x _ _⟩ (fun h => absurd h (by decide))
      | 11, _, ho =>
        simp only [List.getElem?_cons_succ, List.getElem?_cons_zero, Option.some.injEq] at ho
        subst ho
        obtain ⟨u8, e8⟩ := hdep ⟨8, .data⟩ (by simp) rfl _ 110 rfl rfl
        unfold Oper.wp
        simp [execOp, go_sem, u8]
        exact came _ rfl (Below.refl _ _) e8 (fun h => absurd h (by decide))
      | m + 12, hi, _ => exact absurd hi (by omega)
    · intro vals x hX hR _
      obtain ⟨nb7, e7, hn7, r7⟩ : NwN W2.heap.size (vals 10) x := hR 10 (by decide)
      have e9 : vals 9 = .agg (nov 0 none 0 0 none 0 0) := hR 9 (by decide)
      have q3 : NwX W2.heap.size (vals 11) (agL l) x := hR 11 (by decide)
      obtain ⟨a3, c3, hv3, _⟩ := Rw.form q3.1
      generalize List.length _ = n3 at hv3
      rw [hv3] at q3
      have k7 := Ch.row (S := fun k => k = nb7) (Ch.refl _ x) (.inl rfl) (nov 0 none 0 0 none 0 0)
      have hPx := (H.out.later (bgo HX1.out hX)).ch k7 (fun k hk => by
        have e' : k = nb7 := hk
        have h1 := HX1.out.size
        refine ⟨fun q => ?_, fun q => ?_, fun q => ?_⟩
        · have := H.out.s.lt k q; omega
        · have := H.out.r.lt k q; omega
        · have := H.out.lies.lt; omega)
      have q3' : SlD (x.setRow nb7 (nov 0 none 0 0 none 0 0)) (.slice a3 n3 c3) (agL l) := RwX.sl (Rw.ch q3.1 k7 (fun k hk e => by
        have e' : k = nb7 := e
        subst e'
        obtain ⟨cur, h1⟩ := Rw.typ q3.1 k hk
        have h2 : x.heap[k]? = _ := r7
        rw [h1] at h2
        simp at h2))
      have q1' : RwX (.slice a2 n2 c2) (agL l) (x.setRow nb7 (nov 0 none 0 0 none 0 0)) := Rw.ch (Rw.later H1.out.1 hX) k7 (fun k hk e => by
        have e' : k = nb7 := e
        have := Rw.lt H1.out.1 k hk
        omega)
      have hbx : Below w.heap.size w (x.setRow nb7 (nov 0 none 0 0 none 0 0)) := below_row (bgo b0 (bgo HX1.out hX)) (by have := (bgo b0 HX1.out).size; omega) _
      have HG := hid_of' (got_yes (HLa.out _ (hbx.mono HK.out.size)) q1' q3' HFl.out)
      have HZ := hid_of' (And.intro hPx hbx)
      have r7' := r7.put (nov 0 none 0 0 none 0 0)
      have HO := hid_of' H1.out.2
      have HO2 : Hid (∀ k, Value.ownBlock (.slice a2 n2 c2) = some k → k < W2.heap.size) := Rw.lt H1.out.1
      have HR7 := hid_of' (And.intro r7 r7')
      simp only [List.drop, List.take, putAll, List.setIfInBounds_toArray, List.set_cons_succ, List.set_cons_zero, e7, e9, hv3]
      clear e7 e9 hv3 hR q3 q3' q1' hPx hbx k7 r7 r7'
      go_upto_region 19 with (refine wpL_storeNo rfl _ _ rfl rfl rfl HR7.out.1 ?_)
      generalize x.setRow nb7 (nov 0 none 0 0 none 0 0) = W4 at HZ HG HR7 ⊢
      go_wp2_with (first | (refine wpL_loadNo rfl _ rfl rfl HR7.out.2 rfl ?_) | (go_at_call 34; (with_reducible refine HG.out.mono ?_); rintro e w5 ⟨rfl, hc5⟩; clear HG))
      go_ret
      obtain ⟨hPx, hbx⟩ := HZ.out
      have hS : ∀ k, Value.ownBlock (.slice a2 n2 c2) = some k → ¬ F k ∧ ¬ F' k ∧ ¬ k = P := fun k hk => by
        have h1 := HO.out k hk
        refine ⟨fun q => ?_, fun q => ?_, fun q => ?_⟩
        · have := H.out.s.lt k q; omega
        · have := H.out.r.lt k q; omega
        · have := H.out.lies.lt; omega
      exact ⟨rfl, ⟨_, _, _, _, _, _, _, _, hPx.ch hc5 hS⟩, (hbx.mono HK.out.size).trans (hc5.below (fun s hs q => by have := HO.out s q; have := H.out.size; omega) hPx.size)⟩
set_option maxHeartbeats 8000000 in
theorem does_peekRedo_no {N P Bs Br : Nat} {d u : List (List Xg)} {vd vu vd' vu' : Value} {F F' : Nat → Prop} {w : World} {vL : Value} {lL : List Xg} (h : PrAt N P Bs Br d u vd vu vd' vu' F F' w) (dd : Int) (hdd : -9223372036854775808 ≤ dd ∧ dd ≤ 9223372036854775807) {ad : Nat → Addr} (hLa : ∀ x, Below N w x → Laid ad x) (hL : ∀ x, Below N w x → SlD x vL lL) (hcap : ∀ a n c, vL = .slice a n c → n ≤ c) (hem : u = []) (hm : wiN dd 6 = 3) :
    Calls Tryd.prog 10 #[.pointer (some ⟨P, 0, none⟩), .agg #[.int .i64 dd, .bool true, vL]] w fun e w' => DoQ N P Bs Br w e w' := by
  have HWi := hid_of' (fun x => within_is dd 6 x (by decide) (by decide) hdd)
  rw [hm, show ((6 : Nat) : Int) = 6 from rfl, show ((3 : Nat) : Int) = 3 from rfl] at HWi
  obtain ⟨aL, cL, hvL⟩ := (hL w (Below.refl _ _)).form
  have HL := hid_of' (And.intro hL hcap)
  generalize lL.length = nL at hvL
  subst hvL
  have r0 := row_new w (#[.int .i64 dd, .bool true, .slice aL nL cL]) 35
  have b0 := below_one w (.cells (#[.int .i64 dd, .bool true, .slice aL nL cL]) 35)
  have HK := hid_of' h
  clear h hL hcap hm hdd
  go_enter Tryd.func10, Tryd.ntmps10
  go_upto_region 1 with fail
  change Code.wp _ _ _ _ (w.alloc (.cells (#[.int .i64 dd, .bool true, .slice aL nL cL]) 35))
  generalize w.alloc (.cells (#[.int .i64 dd, .bool true, .slice aL nL cL]) 35) = X0 at r0 b0 ⊢
  generalize hob : w.heap.size = ob at r0 ⊢
  have c0 := r0.cellIs 0 rfl
  have c1 := r0.cellIs 1 rfl
  have c2 := r0.cellIs 2 rfl
  have HLa := hid_of' hLa
  have H := hid_of' (HK.out.later b0)
  clear hLa
  go_upto_region 17 with (go_at_call 31; (with_reducible refine (HWi.out _).mono ?_); rintro e w1 ⟨rfl, h0⟩; obtain rfl := h0.symm)
  clear c0 c1 c2
  refine wp_region_tail 11 (by kernel_rfl) (fun _ => none) (by kernel_rfl) (by kernel_rfl) (by decide) (fun i v x => match i with
    | 0 => v = .pointer (some ⟨P, 0, none⟩)
    | 1 => v = .pointer (some ⟨P, 0, none⟩)
    | 2 => v = .pointer (some ⟨P, 0, none⟩)
    | 3 => v = .pointer (some ⟨Bs, 0, none⟩)
    | 4 => v = .pointer (some ⟨ob, 1, none⟩)
    | 5 => v = .bool true
    | 6 => TpN ad X0.heap.size bRedo v x
    | 7 => TpN ad X0.heap.size bRedo v x
    | 8 => v = .slice none 0 0
    | 9 => ErrR ad X0.heap.size (some (bRedo, -1, 11)) v x
    | 10 => v = .slice none 0 0
    | _ => True) (fun _ => false) (fun _ _ _ _ h => by cases h) ?_ ?_ ?_
  · intro i v x x' hR hb
    match i, hR with
    | 0, h => exact h
    | 1, h => exact h
    | 2, h => exact h
    | 3, h => exact h
    | 4, h => exact h
    | 5, h => exact h
    | 6, h => exact h.later hb
    | 7, h => exact h.later hb
    | 8, h => exact h
    | 9, h => exact ErrR.later h hb
    | 10, h => exact h
    | m + 11, h => exact h
  · intro i o hi ho q x vals hX hdep hoth
    have t0 : q.tmps[0]? = some (.pointer (some ⟨P, 0, none⟩)) := by rw [hoth 0 (by kernel_rfl)]; rfl
    have t3 : q.tmps[3]? = some (.pointer (some ⟨ob, 0, none⟩)) := by rw [hoth 3 (by kernel_rfl)]; rfl
    match i, hi, ho with
    | 0, _, ho =>
      simp only [List.getElem?_cons_zero, Option.some.injEq] at ho
      subst ho
      unfold Oper.wp
      simp [execOp, go_sem, t0]
      exact came _ rfl (Below.refl _ _) rfl (fun h => absurd h (by decide))
    | 1, _, ho =>
      simp only [List.getElem?_cons_succ, List.getElem?_cons_zero, Option.some.injEq] at ho
      subst ho
      obtain ⟨u0, e0⟩ := hdep ⟨0, .data⟩ (by simp) rfl _ 93 rfl rfl
      rw [show vals 0 = .pointer (some ⟨P, 0, none⟩) from e0] at u0
      unfold Oper.wp
      simp [execOp, go_sem, u0]
      exact came _ rfl (Below.refl _ _) rfl (fun h => absurd h (by decide))
    | 2, _, ho =>
      simp only [List.getElem?_cons_succ, List.getElem?_cons_zero, Option.some.injEq] at ho
      subst ho
      obtain ⟨u1, e1⟩ := hdep ⟨1, .data⟩ (by simp) rfl _ 94 rfl rfl
      rw [show vals 1 = .pointer (some ⟨P, 0, none⟩) from e1] at u1
      unfold Oper.wp
      simp [execOp, go_sem, u1]
      exact came _ rfl (Below.refl _ _) rfl (fun h => absurd h (by decide))
    | 3, _, ho =>
      simp only [List.getElem?_cons_succ, List.getElem?_cons_zero, Option.some.injEq] at ho
      subst ho
      obtain ⟨u2, e2⟩ := hdep ⟨2, .data⟩ (by simp) rfl _ 95 rfl rfl
      rw [show vals 2 = .pointer (some ⟨P, 0, none⟩) from e2] at u2
      have cc : x.cell? ⟨P, 0, none⟩ = some (.pointer (some ⟨Bs, 0, none⟩)) := (H.out.lies.later hX).cellIs 0 rfl
      unfold Oper.wp
      simp [execOp, go_sem, u2, cc]
      exact came _ rfl (Below.refl _ _) rfl (fun h => absurd h (by decide))
    | 4, _, ho =>
      simp only [List.getElem?_cons_succ, List.getElem?_cons_zero, Option.some.injEq] at ho
      subst ho
      unfold Oper.wp
      simp [execOp, go_sem, t3]
      exact came _ rfl (Below.refl _ _) rfl (fun h => absurd h (by decide))
    | 5, _, ho =>
      simp only [List.getElem?_cons_succ, List.getElem?_cons_zero, Option.some.injEq] at ho
      subst ho
      obtain ⟨u4, e4⟩ := hdep ⟨4, .data⟩ (by simp) rfl _ 97 rfl rfl
      rw [show vals 4 = .pointer (some ⟨ob, 1, none⟩) from e4] at u4
      have cc : x.cell? ⟨ob, 1, none⟩ = some (.bool true) := (r0.later hX).cellIs 1 rfl
      unfold Oper.wp
      simp [execOp, go_sem, u4, cc]
      exact came _ rfl (Below.refl _ _) rfl (fun h => absurd h (by decide))
    | 6, _, ho =>
      simp only [List.getElem?_cons_succ, List.getElem?_cons_zero, Option.some.injEq] at ho
      subst ho
      obtain ⟨u3, e3⟩ := hdep ⟨3, .data⟩ (by simp) rfl _ 96 rfl rfl
      rw [show vals 3 = .pointer (some ⟨Bs, 0, none⟩) from e3] at u3
      obtain ⟨u5, e5⟩ := hdep ⟨5, .data⟩ (by simp) rfl _ 98 rfl rfl
      rw [show vals 5 = .bool true from e5] at u5
      unfold Oper.wp
      simp [go_sem, u3, u5]
      refine (peekRedo_no (HLa.out x ((bgo b0 hX).mono HK.out.size)).ln (H.out.s.later hX) hem).mono ?_
      rintro r x1 ⟨v1, rfl, hn1, hb1⟩
      exact came _ rfl hb1 ⟨v1, rfl, hn1.mono' hX.size⟩ (fun h => absurd h (by decide))
    | 7, _, ho =>
      simp only [List.getElem?_cons_succ, List.getElem?_cons_zero, Option.some.injEq] at ho
      subst ho
      obtain ⟨u6, e6⟩ := hdep ⟨6, .data⟩ (by simp) rfl _ 99 rfl rfl
      unfold Oper.wp
      simp [execOp, go_sem, u6]
      exact came _ rfl (Below.refl _ _) e6 (fun h => absurd h (by decide))
    | 8, _, ho =>
      simp only [List.getElem?_cons_succ, List.getElem?_cons_zero, Option.some.injEq] at ho
      subst ho
      obtain ⟨u7, e7⟩ := hdep ⟨7, .data⟩ (by simp) rfl _ 92 rfl rfl
      obtain ⟨v1, h1, h2⟩ : TpN ad X0.heap.size bRedo (vals 7) x := e7
      rw [h1] at u7
      unfold Oper.wp
      simp [execOp, go_sem, u7]
      exact came _ rfl (Below.refl _ _) rfl (fun h => absurd h (by decide))
    | 9, _, ho =>
      simp only [List.getElem?_cons_succ, List.getElem?_cons_zero, Option.some.injEq] at ho
      subst ho
      obtain ⟨u7, e7⟩ := hdep ⟨7, .data⟩ (by simp) rfl _ 92 rfl rfl
      obtain ⟨v1, h1, h2⟩ : TpN ad X0.heap.size bRedo (vals 7) x := e7
      rw [h1] at u7
      unfold Oper.wp
      simp [execOp, go_sem, u7]
      exact came _ rfl (Below.refl _ _) h2 (fun h => absurd h (by decide))
    | 10, _, ho =>
      simp only [List.getElem?_cons_succ, List.getElem?_cons_zero, Option.some.injEq] at ho
      subst ho
      obtain ⟨u8, e8⟩ := hdep ⟨8, .data⟩ (by simp) rfl _ 100 rfl rfl
      rw [show vals 8 = .slice none 0 0 from e8] at u8
      unfold Oper.wp
      simp [execOp, go_sem, u8]
      exact came _ rfl (Below.refl _ _) rfl (fun h => absurd h (by decide))
    | m + 11, hi, _ => exact absurd hi (by omega)
  · intro vals W2 hX hR _
    have e10 : vals 10 = .slice none 0 0 := hR 10 (by decide)
    have q1 : ErrR ad X0.heap.size (some (bRedo, -1, 11)) (vals 9) W2 := hR 9 (by decide)
    obtain ⟨b4, hv2, q1⟩ := q1
    have H1 := hid_of' q1
    have HX1 := hid_of' hX
    simp only [List.drop, List.take, putAll, List.setIfInBounds_toArray, List.set_cons_succ, List.set_cons_zero, e10, hv2]
    clear e10 hv2 hR q1 hX
    go_upto_region 18 with fail
    refine wp_region_tail 12 (by kernel_rfl) (fun _ => none) (by kernel_rfl) (by kernel_rfl) (by decide) (fun i v x => match i with
      | 0 => v = .pointer (some ⟨P, 0, none⟩)
      | 1 => v = .pointer (some ⟨P, 0, none⟩)
      | 2 => v = .pointer (some ⟨P, 1, none⟩)
      | 3 => v = .pointer (some ⟨Br, 0, none⟩)
      | 4 => v = .pointer (some ⟨ob, 1, none⟩)
      | 5 => v = .bool true
      | 6 => TqN W2.heap.size bRedo v x
      | 7 => TqN W2.heap.size bRedo v x
      | 8 => v = .slice none 0 0
      | 9 => NoR W2.heap.size (some (bRedo, -1, 11)) v x
      | 10 => NwN W2.heap.size v x
      | 11 => v = .slice none 0 0
      | _ => True) (fun _ => false) (fun _ _ _ _ h => by cases h) ?_ ?_ ?_
    · intro i v x x' hR hb
      match i, hR with
      | 0, h => exact h
      | 1, h => exact h
      | 2, h => exact h
      | 3, h => exact h
      | 4, h => exact h
      | 5, h => exact h
      | 6, h => exact h.later hb
      | 7, h => exact h.later hb
      | 8, h => exact h
      | 9, h => exact NoR.later h hb
      | 10, h => exact h.later hb
      | 11, h => exact h
      | m + 12, h => exact h
    · intro i o hi ho q x vals hX hdep hoth
      have t0 : q.tmps[0]? = some (.pointer (some ⟨P, 0, none⟩)) := by rw [hoth 0 (by kernel_rfl)]; rfl
      have t3 : q.tmps[3]? = some (.pointer (some ⟨ob, 0, none⟩)) := by rw [hoth 3 (by kernel_rfl)]; rfl
      match i, hi, ho with
      | 0, _, ho =>
        simp only [List.getElem?_cons_zero, Option.some.injEq] at ho
        subst ho
        unfold Oper.wp
        simp [execOp, go_sem, t0]
        exact came _ rfl (Below.refl _ _) rfl (fun h => absurd h (by decide))
      | 1, _, ho =>
        simp only [List.getElem?_cons_succ, List.getElem?_cons_zero, Option.some.injEq] at ho
        subst ho
        obtain ⟨u0, e0⟩ := hdep ⟨0, .data⟩ (by simp) rfl _ 103 rfl rfl
        rw [show vals 0 = .pointer (some ⟨P, 0, none⟩) from e0] at u0
        unfold Oper.wp
        simp [execOp, go_sem, u0]
        exact came _ rfl (Below.refl _ _) rfl (fun h => absurd h (by decide))
      | 2, _, ho =>
        simp only [List.getElem?_cons_succ, List.getElem?_cons_zero, Option.some.injEq] at ho
        subst ho
        obtain ⟨u1, e1⟩ := hdep ⟨1, .data⟩ (by simp) rfl _ 104 rfl rfl
        rw [show vals 1 = .pointer (some ⟨P, 0, none⟩) from e1] at u1
        unfold Oper.wp
        simp [execOp, go_sem, u1]
        exact came _ rfl (Below.refl _ _) rfl (fun h => absurd h (by decide))
      | 3, _, ho =>
        simp only [List.getElem?_cons_succ, List.getElem?_cons_zero, Option.some.injEq] at ho
        subst ho
        obtain ⟨u2, e2⟩ := hdep ⟨2, .data⟩ (by simp) rfl _ 105 rfl rfl
        rw [show vals 2 = .pointer (some ⟨P, 1, none⟩) from e2] at u2
        have cc : x.cell? ⟨P, 1, none⟩ = some (.pointer (some ⟨Br, 0, none⟩)) := (H.out.lies.later (bgo HX1.out hX)).cellIs 1 rfl
        unfold Oper.wp
        simp [execOp, go_sem, u2, cc]
        exact came _ rfl (Below.refl _ _) rfl (fun h => absurd h (by decide))
      | 4, _, ho =>
        simp only [List.getElem?_cons_succ, List.getElem?_cons_zero, Option.some.injEq] at ho
        subst ho
        unfold Oper.wp
        simp [execOp, go_sem, t3]
        exact came _ rfl (Below.refl _ _) rfl (fun h => absurd h (by decide))
      | 5, _, ho =>
        simp only [List.getElem?_cons_succ, List.getElem?_cons_zero, Option.some.injEq] at ho
        subst ho
        obtain ⟨u4, e4⟩ := hdep ⟨4, .data⟩ (by simp) rfl _ 107 rfl rfl
        rw [show vals 4 = .pointer (some ⟨ob, 1, none⟩) from e4] at u4
        have cc : x.cell? ⟨ob, 1, none⟩ = some (.bool true) := (r0.later (bgo HX1.out hX)).cellIs 1 rfl
        unfold Oper.wp
        simp [execOp, go_sem, u4, cc]
        exact came _ rfl (Below.refl _ _) rfl (fun h => absurd h (by decide))
      | 6, _, ho =>
        simp only [List.getElem?_cons_succ, List.getElem?_cons_zero, Option.some.injEq] at ho
        subst ho
        obtain ⟨u3, e3⟩ := hdep ⟨3, .data⟩ (by simp) rfl _ 106 rfl rfl
        rw [show vals 3 = .pointer (some ⟨Br, 0, none⟩) from e3] at u3
        obtain ⟨u5, e5⟩ := hdep ⟨5, .data⟩ (by simp) rfl _ 108 rfl rfl
        rw [show vals 5 = .bool true from e5] at u5
        unfold Oper.wp
        simp [go_sem, u3, u5]
        refine (refPeekRedo_no (H.out.r.later (bgo HX1.out hX)) hem).mono ?_
        rintro r x1 ⟨v1, rfl, hn1, hb1⟩
        exact came _ rfl hb1 ⟨v1, rfl, hn1.mono' hX.size⟩ (fun h => absurd h (by decide))
      | 7, _, ho =>
        simp only [List.getElem?_cons_succ, List.getElem?_cons_zero, Option.some.injEq] at ho
        subst ho
        obtain ⟨u6, e6⟩ := hdep ⟨6, .data⟩ (by simp) rfl _ 109 rfl rfl
        unfold Oper.wp
        simp [execOp, go_sem, u6]
        exact came _ rfl (Below.refl _ _) e6 (fun h => absurd h (by decide))
      | 8, _, ho =>
        simp only [List.getElem?_cons_succ, List.getElem?_cons_zero, Option.some.injEq] at ho
        subst ho
        obtain ⟨u7, e7⟩ := hdep ⟨7, .data⟩ (by simp) rfl _ 102 rfl rfl
        obtain ⟨v1, h1, h2⟩ : TqN W2.heap.size bRedo (vals 7) x := e7
        rw [h1] at u7
        unfold Oper.wp
        simp [execOp, go_sem, u7]
        exact came _ rfl (Below.refl _ _) rfl (fun h => absurd h (by decide))
      | 9, _, ho =>
        simp only [List.getElem?_cons_succ, List.getElem?_cons_zero, Option.some.injEq] at ho
        subst ho
        obtain ⟨u7, e7⟩ := hdep ⟨7, .data⟩ (by simp) rfl _ 102 rfl rfl
        obtain ⟨v1, h1, h2⟩ : TqN W2.heap.size bRedo (vals 7) x := e7
        rw [h1] at u7
        unfold Oper.wp
        simp [execOp, go_sem, u7]
        exact came _ rfl (Below.refl _ _) h2 (fun h => absurd h (by decide))
      | 10, _, ho =>
        simp only [List.getElem?_cons_succ, List.getElem?_cons_zero, Option.some.injEq] at ho
        subst ho
        unfold Oper.wp
        simp [execOp, go_sem]
        exact came _ rfl (below_one _ _) ⟨x.heap.size, rfl, hX.size, row_new x _ _⟩ (fun h => absurd h (by decide))
      | 11, _, ho =>
        simp only [List.getElem?_cons_succ, List.getElem?_cons_zero, Option.some.injEq] at ho
        subst ho
        obtain ⟨u8, e8⟩ := hdep ⟨8, .data⟩ (by simp) rfl _ 110 rfl rfl
        rw [show vals 8 = .slice none 0 0 from e8] at u8
        unfold Oper.wp
        simp [execOp, go_sem, u8]
        exact came _ rfl (Below.refl _ _) rfl (fun h => absurd h (by decide))
      | m + 12, hi, _ => exact absurd hi (by omega)
    · intro vals x hX hR _
      obtain ⟨nb7, e7, hn7, r7⟩ : NwN W2.heap.size (vals 10) x := hR 10 (by decide)
      have e11 : vals 11 = .slice none 0 0 := hR 11 (by decide)
      have q3 : NoR W2.heap.size (some (bRedo, -1, 11)) (vals 9) x := hR 9 (by decide)
      obtain ⟨g4, g4', hv3, i1, i2, i3, i4⟩ := q3
      have k7 := Ch.row (S := fun k => k = nb7) (Ch.refl _ x) (.inl rfl) (nov (((11 : Nat) : Int) + 1) (some ⟨g4', 0, none⟩) 1 1 (some ⟨g4, 0, none⟩) 1 1)
      have hbx : Below w.heap.size w (x.setRow nb7 (nov (((11 : Nat) : Int) + 1) (some ⟨g4', 0, none⟩) 1 1 (some ⟨g4, 0, none⟩) 1 1)) := below_row (bgo b0 (bgo HX1.out hX)) (by have := (bgo b0 HX1.out).size; omega) _
      have hne1 : ¬ g4' = nb7 := fun e => by
        subst e
        have h1 : x.cell? ⟨g4', 0, none⟩ = some (.string bU) := i3.2 0 _ rfl
        have h2 : x.cell? ⟨g4', 0, none⟩ = some (.int .i64 0) := r7.cellIs 0 rfl
        rw [h1] at h2
        simp at h2
      have hne2 : ¬ g4 = nb7 := fun e => by
        subst e
        have h1 : x.cell? ⟨g4, 0, none⟩ = some (.int .i64 12) := i4.2 0 _ rfl
        have h2 : x.cell? ⟨g4, 0, none⟩ = some (.int .i64 0) := r7.cellIs 0 rfl
        rw [h1] at h2
        simp at h2
      have hno : NoR W2.heap.size (some (bRedo, -1, 11)) (.agg (nov (((11 : Nat) : Int) + 1) (some ⟨g4', 0, none⟩) 1 1 (some ⟨g4, 0, none⟩) 1 1)) (x.setRow nb7 (nov (((11 : Nat) : Int) + 1) (some ⟨g4', 0, none⟩) 1 1 (some ⟨g4, 0, none⟩) 1 1)) := ⟨g4, g4', rfl, i1, i2, i3.ch k7 hne1, i4.ch k7 hne2⟩
      have her : ErrR ad X0.heap.size (some (bRedo, -1, 11)) (.iface 90 (.pointer (some ⟨b4, 0, none⟩))) (x.setRow nb7 (nov (((11 : Nat) : Int) + 1) (some ⟨g4', 0, none⟩) 1 1 (some ⟨g4, 0, none⟩) 1 1)) := by
        have h1 : ErrR ad X0.heap.size (some (bRedo, -1, 11)) (.iface 90 (.pointer (some ⟨b4, 0, none⟩))) W2 := ⟨b4, rfl, H1.out⟩
        obtain ⟨b, z1, z2, z3, z4⟩ := h1.later hX
        have hbl : b4 < W2.heap.size := RowAt.lt H1.out.2.2
        refine ⟨b, z1, z2, z3, RowAt.ch z4 k7 (fun e => ?_)⟩
        have e' : b = nb7 := e
        simp only [Value.iface.injEq, Value.pointer.injEq, Option.some.injEq, Addr.mk.injEq, true_and, and_true] at z1
        omega
      have HG := hid_of' (got_no (cc := bRedo) (HLa.out _ (hbx.mono HK.out.size)) (RwX.nil _) (.inl ⟨rfl, none, 0, rfl⟩) (by simp) her hno)
      have hPx := (H.out.later (bgo HX1.out hX)).ch k7 (fun k hk => by
        have e' : k = nb7 := hk
        have h1 := HX1.out.size
        refine ⟨fun q => ?_, fun q => ?_, fun q => ?_⟩
        · have := H.out.s.lt k q; omega
        · have := H.out.r.lt k q; omega
        · have := H.out.lies.lt; omega)
      have HZ := hid_of' (And.intro hPx hbx)
      have r7' := r7.put (nov (((11 : Nat) : Int) + 1) (some ⟨g4', 0, none⟩) 1 1 (some ⟨g4, 0, none⟩) 1 1)
      have HR7 := hid_of' (And.intro r7 r7')
      simp only [List.drop, List.take, putAll, List.setIfInBounds_toArray, List.set_cons_succ, List.set_cons_zero, e7, e11, hv3]
      clear e7 e11 hv3 hR i1 i2 i3 i4 hne1 hne2 hno her hPx hbx k7 r7 r7'
      go_upto_region 19 with (refine wpL_storeNo rfl _ _ rfl rfl rfl HR7.out.1 ?_)
      generalize x.setRow nb7 (nov (((11 : Nat) : Int) + 1) (some ⟨g4', 0, none⟩) 1 1 (some ⟨g4, 0, none⟩) 1 1) = W4 at HZ HG HR7 ⊢
      have r9 := HR7.out.2
      rw [show (((11 : Nat) : Int) + 1) = 12 from rfl] at HG r9
      clear HR7
      go_wp2_with (first | (refine wpL_loadNo rfl _ rfl rfl r9 rfl ?_) | (go_at_call 34; (with_reducible refine HG.out.mono ?_); rintro e w5 ⟨rfl, hc5⟩; clear HG))
      go_ret
      obtain ⟨hPx, hbx⟩ := HZ.out
      have hb5 : Below W4.heap.size W4 w5 := hc5.none (fun s _ q => by cases q)
      exact ⟨rfl, ⟨_, _, _, _, _, _, _, _, hPx.later hb5⟩, (bgo hbx hb5).mono HK.out.size⟩
end Go.Proofs.YtgkbgojgpomcdaaDoor
