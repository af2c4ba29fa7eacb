
/-
  The document's refusals of two places; its rows: Insert and Add.
-/
import Derived.Test.YtjalehlmldlooaaGreatDoorZap44
namespace Go.Proofs.YtjalehlmldlooaaGreatDoor
open Go.RowKit Go.Extern.Stop Go.Stop Go.Extern
set_option maxRecDepth 100000

/-- A refusal of one place, in memory. -/
def No1 (B : Nat) (la ca : ByteArray) (at_ code : Int) (v : Value) (w : World) : Prop := ∃ g g', v = .agg (nov code (some ⟨g', 0, none⟩) 1 1 (some ⟨g, 0, none⟩) 1 1) ∧ CsIn g' 0 #[.string la, .string ca, .int .i64 at_] w ∧ CsIn g 0 #[.int .i64 code] w ∧ B ≤ g ∧ B ≤ g'
/-- A refusal of two places, in memory. -/
def No2 (B : Nat) (la ca : ByteArray) (at_ : Int) (lb cb : ByteArray) (at2 code : Int) (v : Value) (w : World) : Prop := ∃ g g' c', v = .agg (nov code (some ⟨g', 0, none⟩) 2 c' (some ⟨g, 0, none⟩) 1 1) ∧ CsIn g' 0 #[.string la, .string ca, .int .i64 at_, .string lb, .string cb, .int .i64 at2] w ∧ CsIn g 0 #[.int .i64 code] w ∧ B ≤ g ∧ B ≤ g'
theorem No1.later {B : Nat} {la ca : ByteArray} {at_ code : Int} {v : Value} {w w' : World} (h : No1 B la ca at_ code v w) (hb : Below w.heap.size w w') : No1 B la ca at_ code v w' := by
  obtain ⟨g, g', h1, h2, h3, h4⟩ := h
  exact ⟨g, g', h1, h2.later hb, h3.later hb, h4⟩
theorem No2.later {B : Nat} {la ca lb cb : ByteArray} {at_ at2 code : Int} {v : Value} {w w' : World} (h : No2 B la ca at_ lb cb at2 code v w) (hb : Below w.heap.size w w') : No2 B la ca at_ lb cb at2 code v w' := by
  obtain ⟨g, g', c', h1, h2, h3, h4⟩ := h
  exact ⟨g, g', c', h1, h2.later hb, h3.later hb, h4⟩
/-- append to a full row of one link. -/
theorem opw_grow {K : Act → World → Prop} {o : Oper} {A : Act} {w : World} {Q : Exit → Act → World → Prop} (s x : Operand) (ho : o.op = .call { callee := .builtin .append, args := #[s, x], argTypes := #[33, 33] }) {g g' : Nat} (hs : A.eval s = .slice (some ⟨g, 0, none⟩) 1 1) (hx : A.eval x = .slice (some ⟨g', 0, none⟩) 1 1) {a b c a' b' c' : Value} (h1 : CsIn g 0 #[a, b, c] w) (h2 : CsIn g' 0 #[a', b', c'] w)
    (k : ∀ cc w', CsIn w.heap.size 0 #[a, b, c, a', b', c'] w' → Below w.heap.size w w' → K (A.put o.dst (.slice (some ⟨w.heap.size, 0, none⟩) 2 cc)) w') : o.wp Tryz.prog A w K Q := by
  have hI := info_link
  cases hi : Tryz.prog.info? 94 with
  | none => rw [hi] at hI; cases hI
  | some i =>
    rw [hi] at hI
    simp only [Option.map_some, Option.some.injEq, Prod.mk.injEq] at hI
    obtain ⟨i1, i2, i3⟩ := hI
    have hr := run_append_grow (P := Tryz.prog) w 33 o.type 94 i _ Tryz.underlying33 hi i1 ⟨g, 0, none⟩ 1 1 [a, b, c] (by rw [i2]; rfl) (fun j v hj => by rw [Addr.add_lit]; exact h1.2 j v (by simpa using hj)) ⟨g', 0, none⟩ 1 1 [a', b', c'] (by rw [i2]; rfl) (fun j v hj => by rw [Addr.add_lit]; exact h2.2 j v (by simpa using hj)) (by decide) (by decide) (growslice_fits (by decide) (by rw [i3]; decide))
    unfold Oper.wp execOp
    simp only [ho, resolve, invoke, builtin, Sem.run_bind, Sem.run_pure, Result.andThen_ok, List.map_toArray, List.map_cons, List.map_nil, hs, hx, hr]
    refine k _ _ ⟨by simp, fun j v hj => ?_⟩ ⟨rfl, rfl, rfl, by simp, fun k hk => heap_alloc_old w.drew _ hk⟩
    have hl : RowAt w.heap.size _ _ _ := heap_alloc_last w.drew (.cells ([a, b, c].toArray ++ [a', b', c'].toArray ++ Builtin.zeroCells (Value.cells (.agg #[.string ⟨#[]⟩, .string ⟨#[]⟩, .int .i64 0])) (grownCap w (1 + 1) 1 94 - (1 + 1))) 94)
    rw [Nat.zero_add, hl.cell, Array.getElem?_append_left (by have := (Array.getElem?_eq_some_iff.1 hj).1; simpa using this)]
    exact hj
set_option maxHeartbeats 1000000 in
theorem wrap_ok (la ca : ByteArray) (at_ : Int) (w : World) :
    Calls Tryz.prog 24 #[.string la, .string ca, .int .i64 at_, .agg (nov 0 none 0 0 none 0 0)] w fun e w' => e = .returned (.agg (nov 0 none 0 0 none 0 0)) ∧ Below w.heap.size w w' := by
  unfold nov
  go_enter Tryz.func24, Tryz.ntmps24
  go_wp2
  exact bodyPost_ret (v := .agg #[.int .i64 0, .slice none 0 0, .slice none 0 0]) (by simp [results, Tryz.results24, go_sem]) rfl ⟨rfl, bgo (below_one w _) (below_one _ _)⟩
set_option maxHeartbeats 2000000 in
theorem wrap_one {B : Nat} {la ca lb cb : ByteArray} {at_ at2 code : Int} {v : Value} {w : World} (hn : No1 B lb cb at2 code v w) (hBw : B ≤ w.heap.size) (h0 : 0 ≤ at_) (hc : (code == 0) = false) :
    Calls Tryz.prog 24 #[.string la, .string ca, .int .i64 at_, v] w fun e w' => ∃ v9, e = .returned v9 ∧ No2 B la ca at_ lb cb at2 code v9 w' ∧ Below w.heap.size w w' := by
  obtain ⟨g, g', rfl, hch, hco, hb7, hb8⟩ := hn
  have e0 : ¬ at_ < 0 := by omega
  have hB := bgo (bgo (below_one w (.cells (nov code (some ⟨g', 0, none⟩) 1 1 (some ⟨g, 0, none⟩) 1 1) 36)) (below_one _ (.cells #[.int .i64 0, .slice none 0 0, .slice none 0 0] 36))) (below_one _ (.cells #[.string la, .string ca, .int .i64 at_] 94))
  have rN := ((row_new w (nov code (some ⟨g', 0, none⟩) 1 1 (some ⟨g, 0, none⟩) 1 1) 36).later (below_one _ (.cells #[.int .i64 0, .slice none 0 0, .slice none 0 0] 36))).later (below_one _ (.cells #[.string la, .string ca, .int .i64 at_] 94))
  have rO := (row_new (w.alloc (.cells (nov code (some ⟨g', 0, none⟩) 1 1 (some ⟨g, 0, none⟩) 1 1) 36)) #[.int .i64 0, .slice none 0 0, .slice none 0 0] 36).later (below_one _ (.cells #[.string la, .string ca, .int .i64 at_] 94))
  have rL := row_new ((w.alloc (.cells (nov code (some ⟨g', 0, none⟩) 1 1 (some ⟨g, 0, none⟩) 1 1) 36)).alloc (.cells #[.int .i64 0, .slice none 0 0, .slice none 0 0] 36)) #[.string la, .string ca, .int .i64 at_] 94
  simp only [World.size_alloc] at rO rL
  have HG := hid_of' (show g < w.heap.size from hco.1)
  replace hch := hch.later hB
  replace hco := hco.later hB
  unfold nov at hB rN rO rL hch hco ⊢
  go_enter Tryz.func24, Tryz.ntmps24
  go_upto_region 6 with fail
  generalize ((w.alloc (.cells #[.int .i64 code, .slice (some ⟨g', 0, none⟩) 1 1, .slice (some ⟨g, 0, none⟩) 1 1] 36)).alloc (.cells #[.int .i64 0, .slice none 0 0, .slice none 0 0] 36)).alloc (.cells #[.string la, .string ca, .int .i64 at_] 94) = W at hB rN rO rL hch hco ⊢
  refine wp_region_tail 9 (by kernel_rfl) (fun _ => none) (by kernel_rfl) (by kernel_rfl) (by decide) (fun ii u X => match ii with
    | 0 => u = .pointer (some ⟨w.heap.size, 0, none⟩)
    | 1 => u = .int .i64 code
    | 2 => u = .slice (some ⟨w.heap.size + 1 + 1, 0, none⟩) 1 1
    | 3 => u = .pointer (some ⟨w.heap.size, 1, none⟩)
    | 4 => u = .slice (some ⟨g', 0, none⟩) 1 1
    | 5 => ∃ g9 c9, u = .slice (some ⟨g9, 0, none⟩) 2 c9 ∧ W.heap.size ≤ g9 ∧ CsIn g9 0 #[.string la, .string ca, .int .i64 at_, .string lb, .string cb, .int .i64 at2] X
    | 6 => u = .pointer (some ⟨w.heap.size, 2, none⟩)
    | 7 => u = .slice (some ⟨g, 0, none⟩) 1 1
    | 8 => ∃ g9 c9, u = .agg #[.int .i64 code, .slice (some ⟨g9, 0, none⟩) 2 c9, .slice (some ⟨g, 0, none⟩) 1 1] ∧ W.heap.size ≤ g9 ∧ CsIn g9 0 #[.string la, .string ca, .int .i64 at_, .string lb, .string cb, .int .i64 at2] X
    | _ => True) (fun _ => false) (fun _ _ _ _ h => by cases h) ?_ ?_ ?_
  · intro ii u X X' hR hb
    match ii, hR with
    | 0, h => exact h
    | 1, h => exact h
    | 2, h => exact h
    | 3, h => exact h
    | 4, h => exact h
    | 5, h => exact by obtain ⟨g9, c9, h1, h2, h3⟩ := h; exact ⟨g9, c9, h1, h2, h3.later hb⟩
    | 6, h => exact h
    | 7, h => exact h
    | 8, h => exact by obtain ⟨g9, c9, h1, h2, h3⟩ := h; exact ⟨g9, c9, h1, h2, h3.later hb⟩
    | m + 9, h => exact h
  · intro ii o hi ho qq X vals hX hdep hoth
    have t7 : qq.tmps[7]? = some (.pointer (some ⟨w.heap.size, 0, none⟩)) := by rw [hoth 7 (by kernel_rfl)]; rfl
    have t9 : qq.tmps[9]? = some (.slice (some ⟨w.heap.size + 1 + 1, 0, none⟩) 1 1) := by rw [hoth 9 (by kernel_rfl)]; rfl
    match ii, hi, ho with
    | 0, _, ho =>
      simp only [List.getElem?_cons_zero, Option.some.injEq] at ho
      subst ho
      unfold Oper.wp
      simp [execOp, go_sem, t7]
      exact came _ rfl (Below.refl _ _) rfl (fun h => absurd h (by decide))
    | 1, _, ho =>
      simp only [List.getElem?_cons_succ, List.getElem?_cons_zero, Option.some.injEq] at ho
      subst ho
      obtain ⟨u0, e0⟩ := hdep ⟨0, .data⟩ (by simp) rfl _ 21 rfl rfl
      rw [show vals 0 = .pointer (some ⟨w.heap.size, 0, none⟩) from e0] at u0
      have cc : X.cell? ⟨w.heap.size, 0, none⟩ = some (.int .i64 code) := (rN.later hX).cell 0
      unfold Oper.wp
      simp [execOp, go_sem, u0, cc]
      exact came _ rfl (Below.refl _ _) rfl (fun h => absurd h (by decide))
    | 2, _, ho =>
      simp only [List.getElem?_cons_succ, List.getElem?_cons_zero, Option.some.injEq] at ho
      subst ho
      unfold Oper.wp
      simp [execOp, go_sem, t9]
      exact came _ rfl (Below.refl _ _) rfl (fun h => absurd h (by decide))
    | 3, _, ho =>
      simp only [List.getElem?_cons_succ, List.getElem?_cons_zero, Option.some.injEq] at ho
      subst ho
      unfold Oper.wp
      simp [execOp, go_sem, t7]
      exact came _ rfl (Below.refl _ _) rfl (fun h => absurd h (by decide))
    | 4, _, ho =>
      simp only [List.getElem?_cons_succ, List.getElem?_cons_zero, Option.some.injEq] at ho
      subst ho
      obtain ⟨u3, e3⟩ := hdep ⟨3, .data⟩ (by simp) rfl _ 24 rfl rfl
      rw [show vals 3 = .pointer (some ⟨w.heap.size, 1, none⟩) from e3] at u3
      have cc : X.cell? ⟨w.heap.size, 1, none⟩ = some (.slice (some ⟨g', 0, none⟩) 1 1) := (rN.later hX).cell 1
      unfold Oper.wp
      simp [execOp, go_sem, u3, cc]
      exact came _ rfl (Below.refl _ _) rfl (fun h => absurd h (by decide))
    | 5, _, ho =>
      simp only [List.getElem?_cons_succ, List.getElem?_cons_zero, Option.some.injEq] at ho
      subst ho
      obtain ⟨u2, e2⟩ := hdep ⟨2, .data⟩ (by simp) rfl _ 23 rfl rfl
      rw [show vals 2 = .slice (some ⟨w.heap.size + 1 + 1, 0, none⟩) 1 1 from e2] at u2
      obtain ⟨u4, e4⟩ := hdep ⟨4, .data⟩ (by simp) rfl _ 25 rfl rfl
      rw [show vals 4 = .slice (some ⟨g', 0, none⟩) 1 1 from e4] at u4
      exact opw_grow _ _ rfl (by simp [Act.eval, u2]) (by simp [Act.eval, u4]) (rL.later hX).in (hch.later hX) fun c9 x1 q1 q2 => came _ rfl q2 ⟨_, c9, rfl, hX.size, q1⟩ (fun h => absurd h (by decide))
    | 6, _, ho =>
      simp only [List.getElem?_cons_succ, List.getElem?_cons_zero, Option.some.injEq] at ho
      subst ho
      unfold Oper.wp
      simp [execOp, go_sem, t7]
      exact came _ rfl (Below.refl _ _) rfl (fun h => absurd h (by decide))
    | 7, _, ho =>
      simp only [List.getElem?_cons_succ, List.getElem?_cons_zero, Option.some.injEq] at ho
      subst ho
      obtain ⟨u6, e6⟩ := hdep ⟨6, .data⟩ (by simp) rfl _ 27 rfl rfl
      rw [show vals 6 = .pointer (some ⟨w.heap.size, 2, none⟩) from e6] at u6
      have cc : X.cell? ⟨w.heap.size, 2, none⟩ = some (.slice (some ⟨g, 0, none⟩) 1 1) := (rN.later hX).cell 2
      unfold Oper.wp
      simp [execOp, go_sem, u6, cc]
      exact came _ rfl (Below.refl _ _) rfl (fun h => absurd h (by decide))
    | 8, _, ho =>
      simp only [List.getElem?_cons_succ, List.getElem?_cons_zero, Option.some.injEq] at ho
      subst ho
      obtain ⟨u1, e1⟩ := hdep ⟨1, .data⟩ (by simp) rfl _ 22 rfl rfl
      rw [show vals 1 = .int .i64 code from e1] at u1
      obtain ⟨u5, e5⟩ := hdep ⟨5, .data⟩ (by simp) rfl _ 26 rfl rfl
      obtain ⟨u7, e7⟩ := hdep ⟨7, .data⟩ (by simp) rfl _ 28 rfl rfl
      rw [show vals 7 = .slice (some ⟨g, 0, none⟩) 1 1 from e7] at u7
      obtain ⟨g9, c9, a1, a2, a3⟩ := e5
      rw [show vals (Edge.on ⟨5, .data⟩) = _ from a1] at u5
      unfold Oper.wp
      simp [execOp, go_sem, u1, u5, u7]
      exact came _ rfl (Below.refl _ _) ⟨g9, ⟨c9, rfl⟩, a2, a3⟩ (fun h => absurd h (by decide))
    | m + 9, hi, _ => exact absurd hi (by omega)
  · intro vals X hX hR _
    obtain ⟨g9, c9, a1, a2, a3⟩ : ∃ g9 c9, vals 8 = .agg #[.int .i64 code, .slice (some ⟨g9, 0, none⟩) 2 c9, .slice (some ⟨g, 0, none⟩) 1 1] ∧ W.heap.size ≤ g9 ∧ CsIn g9 0 #[.string la, .string ca, .int .i64 at_, .string lb, .string cb, .int .i64 at2] X := hR 8 (by decide)
    simp only [List.take, List.drop, putAll, a1]
    simp only [List.setIfInBounds_toArray, List.set_cons_succ, List.set_cons_zero]
    have rX := rO.later hX
    go_wp2_with (refine wpL_storeNo rfl _ _ rfl rfl rfl rX ?_)
    have r8 := rX.put (nov code (some ⟨g9, 0, none⟩) 2 c9 (some ⟨g, 0, none⟩) 1 1)
    have h1 := rO.lt
    exact bodyPost_ret (v := .agg (nov code (some ⟨g9, 0, none⟩) 2 c9 (some ⟨g, 0, none⟩) 1 1)) (results_cell_row rfl _ _ (w.heap.size + 1) _ _ _ _ rfl r8 Tryz.underlying36 rfl no_size) rfl ⟨_, rfl, ⟨g, g9, c9, rfl, a3.other _ _ (by omega), CsIn.other (hco.later hX) _ _ (by have := HG.out; omega), hb7, by have := hB.size; omega⟩, below_row (bgo hB hX) (by omega) _⟩
/-- No blocks to keep clear of. -/
def R00 : Rows := ⟨fun _ => False, 0, fun _ h => h.elim⟩
theorem OwnE.rowEx {base g n c : Nat} {l : List El} {w : World} (h : OwnE base (.slice (some ⟨g, 0, none⟩) n c) l w) : ∃ cs, RowAt g cs 49 w := by
  rcases h.2 with ⟨h1, _⟩ | ⟨g2, cap, cur, k1, _, k3, _⟩
  · cases h1
  · simp only [Value.slice.injEq, Option.some.injEq, Addr.mk.injEq] at k1
    obtain ⟨⟨rfl, _⟩, _, _⟩ := k1
    exact ⟨cur, k3⟩
theorem rowsNe {g g' : Nat} {cs cs' : Array Value} {t t' : TypeId} {w : World} (h : RowAt g cs t w) (h' : RowAt g' cs' t' w) (ht : ¬ t = t') : ¬ g = g' := by
  intro e
  subst e
  have h2 := (show w.heap[g]? = _ from h).symm.trans (show w.heap[g]? = _ from h')
  cases h2
  exact ht rfl
def XsAt (w : World) (v : Value) (l : List El) : Prop := (l = [] ∧ v = .slice none 0 0) ∨ ∃ g c cs, v = .slice (some ⟨g, 0, none⟩) l.length c ∧ ElsAt g 0 l w ∧ RowAt g cs 49 w ∧ l.length ≤ c ∧ c ≤ 9223372036854775807
theorem XsAt.of_own {base : Nat} {v : Value} {l : List El} {w : World} (h : OwnE base v l w) : XsAt w v l := by
  rcases PlAt.of_own (R := R00) h (Nat.zero_le _) with ⟨h1, h2⟩ | ⟨g, c, h1, h2, _, h4, h5⟩
  · exact .inl ⟨h1, h2⟩
  · subst h1
    obtain ⟨cs, hcs⟩ := h.rowEx
    exact .inr ⟨g, c, cs, rfl, h2, hcs, h4, h5⟩
theorem XsAt.pl {v : Value} {l : List El} {w : World} (h : XsAt w v l) : PlAt R00 w v l := by
  rcases h with h | ⟨g, c, cs, h1, h2, _, h4, h5⟩
  · exact .inl h
  · exact .inr ⟨g, c, h1, h2, fun q => q, h4, h5⟩
theorem XsAt.sl {v : Value} {l : List El} {w : World} (h : XsAt w v l) : SlE w v l := h.pl.sl
theorem XsAt.form {v : Value} {l : List El} {w : World} (h : XsAt w v l) : ∃ a c, v = .slice a l.length c := h.pl.form
theorem XsAt.later {v : Value} {l : List El} {w w' : World} (h : XsAt w v l) (hb : Below w.heap.size w w') : XsAt w' v l := by
  rcases h with h | ⟨g, c, cs, h1, h2, h3, h4⟩
  · exact .inl h
  · exact .inr ⟨g, c, cs, h1, h2.later hb, h3.later hb, h4⟩
theorem XsAt.k2 {v : Value} {l : List El} {w w' : World} {x y : Nat} {cs : Array Value} {ty : TypeId} (h : XsAt w v l) (k : K2 x y w w') (hx : RowAt x cs ty w) (ht : ty ≠ 49) (hy : ∃ o : Obj, w.heap[y]? = some o ∧ o.isCells = false) : XsAt w' v l := by
  rcases h with h | ⟨g, c, cs', h1, h2, h3, h4⟩
  · exact .inl h
  · have n1 : ¬ g = x := rowsNe h3 hx (fun q => ht q.symm)
    have n2 : ¬ g = y := fun q => by
      obtain ⟨o, ho, hc⟩ := hy
      rw [← q] at ho
      have h3' : w.heap[g]? = _ := h3
      rw [h3'] at ho
      cases ho
      cases hc
    exact .inr ⟨g, c, cs', h1, fun i e he => (h2 i e he).k2 k n1 n2, h3.k2 k n1 n2, h4⟩
theorem els_hd {g : Nat} {l : List El} {w : World} {cs : Array Value} (h : ElsAt g 0 l w) (hr : RowAt g cs 49 w) {ip : Nat} {e : El} (he : l[ip]? = some e) (d : Int) : ElsAt g 0 (addE l ip d) (w.setCell ⟨g, ip * 5 + 4, none⟩ (.int .i64 (e.hd + d))) := by
  have h2 : RowAt g (cs.setIfInBounds (ip * 5 + 4) (.int .i64 (e.hd + d))) 49 (w.setCell ⟨g, ip * 5 + 4, none⟩ (.int .i64 (e.hd + d))) := heap_setCell_at hr _ _
  have hz : ip * 5 + 4 < cs.size := by
    have := (h ip e he).2 4 (.int .i64 e.hd) rfl
    rw [hr.cell, Nat.zero_add] at this
    exact (Array.getElem?_eq_some_iff.1 this).1
  intro k y hy
  refine ⟨h2.lt, fun j v hv => ?_⟩
  have hj : j < 5 := by
    have := (Array.getElem?_eq_some_iff.1 hv).1
    simpa [ev] using this
  rw [Nat.zero_add, h2.cell]
  by_cases c : ip * 5 + 4 = k * 5 + j
  · obtain ⟨rfl, rfl⟩ : k = ip ∧ j = 4 := by omega
    rw [addE_at, if_pos rfl, he] at hy
    cases hy
    cases hv
    rw [Array.getElem?_setIfInBounds_self_of_lt hz]
    rfl
  · rw [Array.getElem?_setIfInBounds_ne (by omega)]
    rw [addE_at] at hy
    by_cases q : k = ip
    · subst q
      rw [if_pos rfl, he] at hy
      cases hy
      have hj4 : j ≠ 4 := by omega
      have hv' : (ev e)[j]? = some v := by
        match j, hj, hj4, hv with
        | 0, _, _, hv => exact hv
        | 1, _, _, hv => exact hv
        | 2, _, _, hv => exact hv
        | 3, _, _, hv => exact hv
        | 4, _, hj4, _ => exact absurd rfl hj4
      have := (h k e he).2 j v hv'
      rw [hr.cell, Nat.zero_add] at this
      exact this
    · rw [if_neg q] at hy
      have := (h k y hy).2 j v hv
      rw [hr.cell, Nat.zero_add] at this
      exact this
def bAdd : ByteArray := ⟨#[65, 100, 100]⟩
set_option maxHeartbeats 2000000 in
theorem refAdd_up {w : World} {u : Value} {l : List El} (hl : XsAt w u l) (ip : Nat) (e : El) (he : l[ip]? = some e) (h1 : -1099511627776 ≤ e.hd) (h2 : e.hd ≤ 1099511627776) (hfr : fairH (e.hd + 1) = true) (hn : l.length ≤ 1000000) :
    Calls Tryz.prog 23 #[u, .int .i64 (ip : Int), .int .i64 (1)] w fun r w' => ∃ v, r = .returned (.tuple #[v, .agg (nov 0 none 0 0 none 0 0)]) ∧ XsAt w' v (addE l ip (1)) ∧ (∀ k, v.ownBlock = some k → w.heap.size ≤ k) ∧ Below w.heap.size w w' := by
  have r0 := row_new w (nov 0 none 0 0 none 0 0) 36
  have b0 := below_one w (.cells (nov 0 none 0 0 none 0 0) 36)
  have HC : Hid (∀ x, Below w.heap.size w x → _) := fun x hx => copy_ok (hl.later hx).sl (by omega)
  have HF := hid_of' (refFair_any (e.hd + 1))
  rw [hfr] at HF
  have hk := (List.getElem?_eq_some_iff.1 he).1
  have hlen : (addE l ip (1)).length = l.length := addE_len
  rcases hl with ⟨h0, _⟩ | ⟨g, c, cs, rfl, hE, hR, hlc, hcc⟩
  · exfalso; subst h0; simp at he
  have HE := hid_of' he
  have hc4 : Hid (∀ x, Below w.heap.size w x → x.cell? ⟨g, ip * 5 + 4, none⟩ = some (.int .i64 e.hd)) := fun x hx => by
    have := ((hE ip e he).later hx).2 4 (.int .i64 e.hd) rfl
    rwa [Nat.zero_add] at this
  have e1 : ¬ (ip : Int) < 0 := by omega
  have e2 : ¬ (l.length : Int) ≤ (ip : Int) := by omega
  have e3 : (ip : Int) < (l.length : Int) := by omega
  have e4 : ¬ l.length ≤ ip := by omega
  have ew : wrap64 (e.hd + 1) = e.hd + 1 := wrapIs (by omega) (by omega)
  clear hE hR he hlc hcc
  go_enter Tryz.func23, Tryz.ntmps23
  go_upto_region 1 with fail
  change Code.wp _ _ _ _ (w.alloc (.cells (nov 0 none 0 0 none 0 0) 36))
  generalize w.alloc (.cells (nov 0 none 0 0 none 0 0) 36) = W0 at r0 b0 ⊢
  have c4 := hc4.out _ b0
  go_upto_region 6 with (first | (go_at_call 49; refine (HF.out _).mono ?_; rintro r w1 ⟨rfl, hw1⟩; obtain rfl := hw1.symm) | (go_at_call 50; refine (HC.out _ b0).mono ?_; rintro r w2 ⟨v2, rfl, ho2, hb2⟩))
  clear c4
  obtain ⟨g2, c2, cs2, rfl, hE2, hR2, hlc2, hcc2⟩ : ∃ g2 c2 cs2, v2 = .slice (some ⟨g2, 0, none⟩) l.length c2 ∧ ElsAt g2 0 l w2 ∧ RowAt g2 cs2 49 w2 ∧ l.length ≤ c2 ∧ c2 ≤ 9223372036854775807 := by
    rcases XsAt.of_own ho2 with ⟨h0, _⟩ | ⟨g2, c2, cs2, q1, q2, q3, q4, q5⟩
    · exfalso; subst h0; simp at hk
    · exact ⟨g2, c2, cs2, q1, q2, q3, q4, q5⟩
  have d4 : w2.cell? ⟨g2, ip * 5 + 4, none⟩ = some (.int .i64 e.hd) := by
    have := (hE2 ip e HE.out).2 4 (.int .i64 e.hd) rfl
    rwa [Nat.zero_add] at this
  have f4 : w2.frozen? ⟨g2, ip * 5 + 4, none⟩ = false := Lib.frozen_of_heap hR2 _
  have r2 := r0.later hb2
  have hne : ¬ w.heap.size = g2 := rowsNe r2 hR2 (by decide)
  have hge : w.heap.size ≤ g2 := Nat.le_trans b0.size (ho2.lt g2 rfl).1
  go_upto_region 7 with fail
  have hE3 := els_hd hE2 hR2 HE.out (1)
  have hR3 : RowAt g2 (cs2.setIfInBounds (ip * 5 + 4) (.int .i64 (e.hd + 1))) 49 (w2.setCell ⟨g2, ip * 5 + 4, none⟩ (.int .i64 (e.hd + 1))) := heap_setCell_at hR2 _ _
  have k3 : Kp g2 w2 (w2.setCell ⟨g2, ip * 5 + 4, none⟩ (.int .i64 (e.hd + 1))) := Kp.cell _ _ _
  generalize w2.setCell ⟨g2, ip * 5 + 4, none⟩ (.int .i64 (e.hd + 1)) = W3 at hE3 hR3 k3 ⊢
  have r3 := r2.kp k3 hne
  have hB3 := k3.new (bgo b0 hb2) hge
  go_wp2_with (refine wpL_storeNo rfl _ _ rfl rfl rfl r3 ?_)
  have k4 : Kp w.heap.size W3 (W3.setRow w.heap.size (nov 0 none 0 0 none 0 0)) := Kp.row _ _
  exact bodyPost_ret (v := .tuple #[.slice (some ⟨g2, 0, none⟩) l.length c2, .agg (nov 0 none 0 0 none 0 0)]) (results_tNo (fn := Tryz.f23) (t := 6) (u := 7) rfl rfl (r3.put (nov 0 none 0 0 none 0 0)) rfl) rfl ⟨_, rfl, .inr ⟨g2, c2, _, by rw [hlen], fun i x hx => (hE3 i x hx).kp k4 (fun q => hne q.symm), hR3.kp k4 (fun q => hne q.symm), by omega, hcc2⟩, (fun k hk => by cases hk; exact hge), below_row hB3 (Nat.le_refl _) _⟩
set_option maxHeartbeats 2000000 in
theorem refAdd_down {w : World} {u : Value} {l : List El} (hl : XsAt w u l) (ip : Nat) (e : El) (he : l[ip]? = some e) (h1 : -1099511627776 ≤ e.hd) (h2 : e.hd ≤ 1099511627776) (hfr : fairH (e.hd + -1) = true) (hn : l.length ≤ 1000000) :
    Calls Tryz.prog 23 #[u, .int .i64 (ip : Int), .int .i64 (-1)] w fun r w' => ∃ v, r = .returned (.tuple #[v, .agg (nov 0 none 0 0 none 0 0)]) ∧ XsAt w' v (addE l ip (-1)) ∧ (∀ k, v.ownBlock = some k → w.heap.size ≤ k) ∧ Below w.heap.size w w' := by
  have r0 := row_new w (nov 0 none 0 0 none 0 0) 36
  have b0 := below_one w (.cells (nov 0 none 0 0 none 0 0) 36)
  have HC : Hid (∀ x, Below w.heap.size w x → _) := fun x hx => copy_ok (hl.later hx).sl (by omega)
  have HF := hid_of' (refFair_any (e.hd + -1))
  rw [hfr] at HF
  have hk := (List.getElem?_eq_some_iff.1 he).1
  have hlen : (addE l ip (-1)).length = l.length := addE_len
  rcases hl with ⟨h0, _⟩ | ⟨g, c, cs, rfl, hE, hR, hlc, hcc⟩
  · exfalso; subst h0; simp at he
  have HE := hid_of' he
  have hc4 : Hid (∀ x, Below w.heap.size w x → x.cell? ⟨g, ip * 5 + 4, none⟩ = some (.int .i64 e.hd)) := fun x hx => by
    have := ((hE ip e he).later hx).2 4 (.int .i64 e.hd) rfl
    rwa [Nat.zero_add] at this
  have e1 : ¬ (ip : Int) < 0 := by omega
  have e2 : ¬ (l.length : Int) ≤ (ip : Int) := by omega
  have e3 : (ip : Int) < (l.length : Int) := by omega
  have e4 : ¬ l.length ≤ ip := by omega
  have ew : wrap64 (e.hd + -1) = e.hd + -1 := wrapIs (by omega) (by omega)
  clear hE hR he hlc hcc
  go_enter Tryz.func23, Tryz.ntmps23
  go_upto_region 1 with fail
  change Code.wp _ _ _ _ (w.alloc (.cells (nov 0 none 0 0 none 0 0) 36))
  generalize w.alloc (.cells (nov 0 none 0 0 none 0 0) 36) = W0 at r0 b0 ⊢
  have c4 := hc4.out _ b0
  go_upto_region 6 with (first | (go_at_call 49; refine (HF.out _).mono ?_; rintro r w1 ⟨rfl, hw1⟩; obtain rfl := hw1.symm) | (go_at_call 50; refine (HC.out _ b0).mono ?_; rintro r w2 ⟨v2, rfl, ho2, hb2⟩))
  clear c4
  obtain ⟨g2, c2, cs2, rfl, hE2, hR2, hlc2, hcc2⟩ : ∃ g2 c2 cs2, v2 = .slice (some ⟨g2, 0, none⟩) l.length c2 ∧ ElsAt g2 0 l w2 ∧ RowAt g2 cs2 49 w2 ∧ l.length ≤ c2 ∧ c2 ≤ 9223372036854775807 := by
    rcases XsAt.of_own ho2 with ⟨h0, _⟩ | ⟨g2, c2, cs2, q1, q2, q3, q4, q5⟩
    · exfalso; subst h0; simp at hk
    · exact ⟨g2, c2, cs2, q1, q2, q3, q4, q5⟩
  have d4 : w2.cell? ⟨g2, ip * 5 + 4, none⟩ = some (.int .i64 e.hd) := by
    have := (hE2 ip e HE.out).2 4 (.int .i64 e.hd) rfl
    rwa [Nat.zero_add] at this
  have f4 : w2.frozen? ⟨g2, ip * 5 + 4, none⟩ = false := Lib.frozen_of_heap hR2 _
  have r2 := r0.later hb2
  have hne : ¬ w.heap.size = g2 := rowsNe r2 hR2 (by decide)
  have hge : w.heap.size ≤ g2 := Nat.le_trans b0.size (ho2.lt g2 rfl).1
  go_upto_region 7 with fail
  have hE3 := els_hd hE2 hR2 HE.out (-1)
  have hR3 : RowAt g2 (cs2.setIfInBounds (ip * 5 + 4) (.int .i64 (e.hd + -1))) 49 (w2.setCell ⟨g2, ip * 5 + 4, none⟩ (.int .i64 (e.hd + -1))) := heap_setCell_at hR2 _ _
  have k3 : Kp g2 w2 (w2.setCell ⟨g2, ip * 5 + 4, none⟩ (.int .i64 (e.hd + -1))) := Kp.cell _ _ _
  generalize w2.setCell ⟨g2, ip * 5 + 4, none⟩ (.int .i64 (e.hd + -1)) = W3 at hE3 hR3 k3 ⊢
  have r3 := r2.kp k3 hne
  have hB3 := k3.new (bgo b0 hb2) hge
  go_wp2_with (refine wpL_storeNo rfl _ _ rfl rfl rfl r3 ?_)
  have k4 : Kp w.heap.size W3 (W3.setRow w.heap.size (nov 0 none 0 0 none 0 0)) := Kp.row _ _
  exact bodyPost_ret (v := .tuple #[.slice (some ⟨g2, 0, none⟩) l.length c2, .agg (nov 0 none 0 0 none 0 0)]) (results_tNo (fn := Tryz.f23) (t := 6) (u := 7) rfl rfl (r3.put (nov 0 none 0 0 none 0 0)) rfl) rfl ⟨_, rfl, .inr ⟨g2, c2, _, by rw [hlen], fun i x hx => (hE3 i x hx).kp k4 (fun q => hne q.symm), hR3.kp k4 (fun q => hne q.symm), by omega, hcc2⟩, (fun k hk => by cases hk; exact hge), below_row hB3 (Nat.le_refl _) _⟩
set_option maxHeartbeats 2000000 in
theorem refInsert_ok {R : Rows} {w : World} {u : Value} {l : List El} (hl : PlAt R w u l) (ip : Nat) (e : El) (hip : ip ≤ l.length) (hn : l.length ≤ 1000000) (hw : wrK l e = none) :
    Calls Tryz.prog 22 #[u, .int .i64 (ip : Int), .agg (ev e)] w fun r w' => ∃ v, r = .returned (.tuple #[v, .agg (nov 0 none 0 0 none 0 0)]) ∧ OwnE w.heap.size v (insE l ip e) w' ∧ Below w.heap.size w w' := by
  obtain ⟨a', c', rfl⟩ := hl.form
  have rE := row_new w (ev e) 49
  have bE := below_one w (.cells (ev e) 49)
  have r0 := row_new (w.alloc (.cells (ev e) 49)) (nov 0 none 0 0 none 0 0) 36
  have b0 := below_one (w.alloc (.cells (ev e) 49)) (.cells (nov 0 none 0 0 none 0 0) 36)
  rw [show (w.alloc (.cells (ev e) 49)).heap.size = w.heap.size + 1 by simp] at r0
  replace rE := rE.later b0
  have hB := bgo bE b0
  clear bE b0
  have HW : Hid (∀ x, Below w.heap.size w x → _) := fun x hx => wrong_any (hl.later hx).sl e hn
  rw [hw] at HW
  unfold codeK at HW
  have HP : Hid (∀ (x : World) (um : Value), Below w.heap.size w x → SlE x um [e] → _) := fun x um hx hm => put_ok (hl.later hx) hm ip hip (by simp; omega)
  have e1 : ¬ (ip : Int) < 0 := by omega
  have e2 : ¬ (l.length : Int) < (ip : Int) := by omega
  have e3 : ¬ l.length < ip := by omega
  clear hl hw
  go_enter Tryz.func22, Tryz.ntmps22
  go_upto_region 1 with fail
  change Code.wp _ _ _ _ ((w.alloc (.cells (ev e) 49)).alloc (.cells (nov 0 none 0 0 none 0 0) 36))
  generalize (w.alloc (.cells (ev e) 49)).alloc (.cells (nov 0 none 0 0 none 0 0) 36) = W0 at r0 rE hB ⊢
  go_upto_region 6 with (first | (refine wpL_loadE rfl _ rfl rfl rE.in ?_) | (go_at_call 47; refine (HW.out _ hB).mono ?_; rintro r w1 ⟨rfl, hb1⟩; clear HW))
  replace rE := rE.later hb1
  replace r0 := r0.later hb1
  replace hB := bgo hB hb1
  clear hb1
  have hlt := r0.lt
  have hB2 := bgo hB (below_one w1 (.cells (ecells [e]).toArray 49))
  have hHP := hid_of' (HP.out _ _ hB2 (sl_new w1 [e] 1 1 rfl))
  clear HP
  go_wp2_with (first | (refine wpL_loadE rfl _ rfl rfl rE.in ?_; unfold ev) | (go_at_call 48; (refine hHP.out.mono ?_); rintro r w2 ⟨v2, rfl, ho2, hb2⟩; have r9 := (r0.later (below_one w1 _)).later hb2) | (refine wpL_storeNo rfl _ _ rfl rfl rfl r9 ?_))
  have r8 := r9.put (nov 0 none 0 0 none 0 0)
  have hE8 : OwnE w.heap.size v2 (insE l ip e) (w2.setRow (w.heap.size + 1) (nov 0 none 0 0 none 0 0)) :=
    (ownE_kp2 ho2 (Kp.row _ _) (rowNot r9 ho2 (by decide))).base (by simp; omega)
  exact bodyPost_ret (v := .tuple #[v2, .agg (nov 0 none 0 0 none 0 0)]) (results_tNo (fn := Tryz.f22) (t := 6) (u := 7) rfl rfl r8 rfl) rfl ⟨_, rfl, hE8, below_row (bgo hB2 hb2) (Nat.le_succ _) _⟩
set_option maxHeartbeats 2000000 in
theorem refInsert_bad {w : World} {u : Value} {l : List El} (hl : SlE w u l) (ip : Nat) (e : El) (hip : ip ≤ l.length) (hn : l.length ≤ 1000000) (kk : Nat) (hw : wrK l e = some kk) :
    Calls Tryz.prog 22 #[u, .int .i64 (ip : Int), .agg (ev e)] w fun r w' => ∃ v9, r = .returned (.tuple #[u, v9]) ∧ No1 w.heap.size bModel bInsert (ip : Int) ((kk : Int) + 1) v9 w' ∧ Below w.heap.size w w' := by
  obtain ⟨a', c', rfl⟩ := hl.form
  have rE := row_new w (ev e) 49
  have bE := below_one w (.cells (ev e) 49)
  have r0 := row_new (w.alloc (.cells (ev e) 49)) (nov 0 none 0 0 none 0 0) 36
  have b0 := below_one (w.alloc (.cells (ev e) 49)) (.cells (nov 0 none 0 0 none 0 0) 36)
  rw [show (w.alloc (.cells (ev e) 49)).heap.size = w.heap.size + 1 by simp] at r0
  replace rE := rE.later b0
  have hB := bgo bE b0
  clear bE b0
  have HW : Hid (∀ x, Below w.heap.size w x → _) := fun x hx => wrong_any (hl.later hx) e hn
  rw [hw] at HW
  unfold codeK at HW
  have hnz : (((kk : Int) + 1) == 0) = false := by rw [beq_eq_false_iff_ne]; omega
  have HS := hid_of' (fun x => say_any bModel bInsert (ip : Int) ((kk : Int) + 1) x hnz)
  have e1 : ¬ (ip : Int) < 0 := by omega
  have e2 : ¬ (l.length : Int) < (ip : Int) := by omega
  have e3 : ¬ l.length < ip := by omega
  clear hl hw
  go_enter Tryz.func22, Tryz.ntmps22
  go_upto_region 1 with fail
  change Code.wp _ _ _ _ ((w.alloc (.cells (ev e) 49)).alloc (.cells (nov 0 none 0 0 none 0 0) 36))
  generalize (w.alloc (.cells (ev e) 49)).alloc (.cells (nov 0 none 0 0 none 0 0) 36) = W0 at r0 rE hB ⊢
  go_wp2_with (first | (refine wpL_loadE rfl _ rfl rfl rE.in ?_) | (go_at_call 47; refine (HW.out _ hB).mono ?_; rintro r w1 ⟨rfl, hb1⟩; clear HW) | (go_at_call 11; refine (HS.out _).mono ?_; rintro r w2 ⟨g2, g3, rfl, k1, k2, k3, k4, hb2⟩; clear HS; have r9 := r0.later (bgo hb1 hb2)) | (refine wpL_storeNo rfl _ _ rfl rfl rfl r9 ?_))
  have r8 := r9.put (nov ((kk : Int) + 1) (some ⟨g3, 0, none⟩) 1 1 (some ⟨g2, 0, none⟩) 1 1)
  exact bodyPost_ret (v := .tuple #[.slice a' l.length c', .agg (nov ((kk : Int) + 1) (some ⟨g3, 0, none⟩) 1 1 (some ⟨g2, 0, none⟩) 1 1)]) (results_tNo (fn := Tryz.f22) (t := 6) (u := 7) rfl rfl r8 rfl) rfl ⟨_, rfl, ⟨g2, g3, rfl, (place_nat ip ▸ k3).other _ _ (by have := r0.lt; have := hb1.size; omega), k4.other _ _ (by have := r0.lt; have := hb1.size; omega), by have := hB.size; have := hb1.size; omega, by have := hB.size; have := hb1.size; omega⟩, below_row (bgo hB (bgo hb1 hb2)) (Nat.le_succ _) _⟩
end Go.Proofs.YtjalehlmldlooaaGreatDoor
