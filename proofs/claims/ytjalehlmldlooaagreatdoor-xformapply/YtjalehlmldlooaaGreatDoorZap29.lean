
/-
  Operations done one behind the other on a row of elements: barrowlaw07.done.
-/
import Derived.Test.YtjalehlmldlooaaGreatDoorZap26
import Derived.Test.YtjalehlmldlooaaGreatDoorZap27
import Derived.Test.YtjalehlmldlooaaGreatDoorZap28
namespace Go.Proofs.YtjalehlmldlooaaGreatDoor
open Go.RowKit
set_option maxRecDepth 100000

/-- Operations in memory. -/
def OsAt (g o_ : Nat) (l : List Xo) (w : World) : Prop := ∀ (i : Nat) (x : Xo), l[i]? = some x → CsIn g (o_ + i * 4) (ov x) w
theorem OsAt.later {g o_ : Nat} {l : List Xo} {w w' : World} (h : OsAt g o_ l w) (hb : Below w.heap.size w w') : OsAt g o_ l w' := fun i x hx => (h i x hx).later hb
/-- A list of operations, as a value. -/
def SlO (w : World) (v : Value) (l : List Xo) : Prop := (l = [] ∧ ∃ a c, v = .slice a 0 c) ∨ ∃ g o_ c, v = .slice (some ⟨g, o_, none⟩) l.length c ∧ OsAt g o_ l w
theorem SlO.later {w w' : World} {v : Value} {l : List Xo} (h : SlO w v l) (hb : Below w.heap.size w w') : SlO w' v l := by
  rcases h with ⟨h1, h2⟩ | ⟨g, o_, c, h1, h2⟩
  · exact .inl ⟨h1, h2⟩
  · exact .inr ⟨g, o_, c, h1, h2.later hb⟩
theorem SlO.form {w : World} {v : Value} {l : List Xo} (h : SlO w v l) : ∃ a c, v = .slice a l.length c := by
  rcases h with ⟨h1, a, c, h2⟩ | ⟨g, o_, c, h1, _⟩
  · subst h1; exact ⟨a, c, h2⟩
  · exact ⟨_, c, h1⟩
/-- Just the IDs of a row have ranks. -/
def KeysOk (f : Idn → Option Int) (l : List El) : Prop := ∀ i : Idn, (f i).isSome = true ↔ ∃ e ∈ l, e.id = i
/-- A model of a row. -/
def Mo (mb tb kb N : Nat) (R : Rows) (l : List El) (w : World) : Prop := ∃ n f, n ≤ N ∧ MdAt mb tb kb n R l f w ∧ KeysOk f l
theorem Mo.mv {mb tb kb N : Nat} {R : Rows} {l : List El} {w : World} (h : Mo mb tb kb N R l w) : MvAt mb l w := by
  obtain ⟨n, f, _, h, _⟩ := h
  exact h.mv
theorem Mo.later {mb tb kb N : Nat} {R : Rows} {l : List El} {w w' : World} (h : Mo mb tb kb N R l w) (hb : Below w.heap.size w w') : Mo mb tb kb N R l w' := by
  obtain ⟨n, f, h1, h2, h3⟩ := h
  exact ⟨n, f, h1, h2.later hb, h3⟩
theorem step_has {l : List El} {o : Xo} {ix : Idn} (hv : validO o l.length = true) (i : Idn) : (∃ e ∈ stepL l o ix, e.id = i) ↔ ((∃ e ∈ l, e.id = i) ∨ (o.k = 1 ∧ i = ix)) := by
  obtain ⟨p0, p1⟩ := validO_place hv
  constructor
  · rintro ⟨e, he, rfl⟩
    rcases step_ids he with ⟨k, h⟩ | ⟨x, hx, h⟩
    · exact .inr ⟨k, h⟩
    · exact .inl ⟨x, hx, h.symm⟩
  · rintro (⟨e, he, rfl⟩ | ⟨k, rfl⟩)
    · by_cases k : o.k = 1
      · rw [stepL_ins _ _ k]
        refine ⟨e, ?_, rfl⟩
        unfold insE
        rw [← List.take_append_drop o.p.toNat l] at he
        rcases List.mem_append.1 he with h | h
        · exact List.mem_append_left _ h
        · exact List.mem_append_right _ (List.mem_cons_of_mem _ h)
      · rw [stepL_add _ _ k]
        obtain ⟨j, hj⟩ := List.getElem?_of_mem he
        by_cases q : j = o.p.toNat
        · refine ⟨e.add (byO o), List.mem_of_getElem? (i := j) ?_, rfl⟩
          rw [addE_at, if_pos q, hj]; rfl
        · refine ⟨e, List.mem_of_getElem? (i := j) ?_, rfl⟩
          rw [addE_at, if_neg q, hj]
    · rw [stepL_ins _ _ k]
      refine ⟨⟨i.a, i.b, i.c, o.c, 0⟩, ?_, rfl⟩
      unfold insE
      exact List.mem_append_right _ (List.mem_cons_self ..)
/-- A valid operation, applied to a model. -/
theorem apply_mo {mb tb kb N : Nat} {R : Rows} {l : List El} {w : World} {b : Int} (h : Mo mb tb kb N R l w) (hN : N + l.length ≤ 1000000000000) (hR : RowOk b l) (hb : b ≤ 1000000000) (op : Xo) (ix : Idn) (hv : validO op l.length = true) (hi : ix.In) (hfr : op.k = 1 → ∀ e ∈ l, e.id ≠ ix) (hn : l.length + 1 ≤ 1073741824) :
    Calls Tryz.prog 7 #[pv mb, .agg (ov op), .agg (idc ix.a ix.b ix.c)] w fun r w' => r = .returned .nilIface ∧ Mo mb tb kb (N + l.length + 1) R (stepL l op ix) w' ∧ K2 tb kb w w' := by
  obtain ⟨n, f, hn0, hM, hK⟩ := h
  have hfx : op.k = 1 → (f ix).isSome = false := fun k => by
    cases q : (f ix).isSome with
    | false => rfl
    | true =>
      obtain ⟨e, he, e1⟩ := (hK ix).1 q
      exact absurd e1 (hfr k e he)
  have hg : ∀ (j : Nat) (e : El), l[j]? = some e → e.id.In ∧ (f e.id).isSome = true := fun j e he => ⟨(hR.good e (List.mem_of_getElem? he)).1, (hK e.id).2 ⟨e, List.mem_of_getElem? he, rfl⟩⟩
  have HR : RkH mb kb l f (n + l.length) w := fun ip hip x hx => (rankFor_any (hM.later hx) ip hip hg (by omega) (by omega))
  refine (apply_ok hM (N := n + l.length) (by omega) (by omega) op ix hv hi hfx (fun e he => by have := hR.good e he; omega) hn HR).mono ?_
  rintro r w' ⟨n', f', rfl, h1, h2, h3, h4⟩
  refine ⟨rfl, ⟨n', f', by omega, h2, fun i => ?_⟩, h4⟩
  rw [h3 i, step_has hv i]
  simp only [Bool.or_eq_true, Bool.and_eq_true, decide_eq_true_eq, hK i]
/-- What Of makes of a good row. -/
theorem of_mo {w : World} {u : Value} {l : List El} {b : Int} (hu : SlE w u l) (hn : l.length ≤ 1000000) (hR : RowOk b l) (hb : b ≤ 1000000000) :
    Calls Tryz.prog 5 #[u] w fun r w' => ∃ mb tb kb R, r = .returned (.tuple #[pv mb, .nilIface]) ∧ w.heap.size ≤ tb ∧ w.heap.size ≤ kb ∧ w.heap.size ≤ mb ∧ Mo mb tb kb 1000000 R l w' ∧ Below w.heap.size w w' := by
  refine (of_okN hu hn (hR.is (by omega)) hR.apart).mono ?_
  rintro r w' ⟨mb, tb, kb, n, R, rfl, rfl, h1, h2, h3, h4, h5⟩
  refine ⟨mb, tb, kb, R, rfl, h1, by omega, by omega, ⟨_, _, hn, h4, fun i => ⟨fun h => ?_, ?_⟩⟩, h5⟩
  · refine Decidable.byContradiction fun hne => ?_
    rw [rkF_none (fun j e _ he q => hne ⟨e, List.mem_of_getElem? he, q⟩)] at h
    cases h
  · rintro ⟨e, he, rfl⟩
    obtain ⟨j, hj⟩ := List.getElem?_of_mem he
    rw [rkF_at hR.apart (List.getElem?_eq_some_iff.1 hj).1 hj]
    rfl
theorem OwnE.lower {b b' : Nat} {v : Value} {l : List El} {w : World} (h : OwnE b v l w) (hb : b' ≤ b) : OwnE b' v l w := by
  obtain ⟨h1, h2⟩ := h
  refine ⟨h1, ?_⟩
  rcases h2 with h | ⟨g, cap, cur, q1, q2, q3⟩
  · exact .inl h
  · exact .inr ⟨g, cap, cur, q1, Nat.le_trans hb q2, q3⟩
/-- The names of what operations lay in. -/
def named (l : List Xo) : List (Xo × Idn) := l.map fun o => (o, ⟨4, o.r, 1⟩)
theorem take_drop_at {α : Type} {l : List α} {k : Nat} {x : α} (h : l[k]? = some x) : l.drop k = x :: l.drop (k + 1) ∧ l.take (k + 1) = l.take k ++ [x] := by
  have hk := (List.getElem?_eq_some_iff.1 h).1
  have e := (List.getElem?_eq_some_iff.1 h).2
  refine ⟨by rw [List.drop_eq_getElem_cons hk, e], ?_⟩
  rw [List.take_add_one, h]
  rfl
/-- What stands behind the first k operations. -/
theorem runs_at {l : List El} {zs : List (Xo × Idn)} {k : Nat} {o : Xo} {i : Idn} {b : Int} (hz : zs[k]? = some (o, i)) (h1 : okS l zs) (h2 : frS l zs) (hR : RowOk b l) (hb : 0 ≤ b) :
    RowOk (b + k) (runs l (zs.take k)) ∧ validO o (runs l (zs.take k)).length = true ∧ (o.k = 1 → ∀ e ∈ runs l (zs.take k), e.id ≠ i) ∧ i.In ∧ runs l (zs.take (k + 1)) = stepL (runs l (zs.take k)) o i ∧ (runs l (zs.take k)).length ≤ l.length + k := by
  have hk := (List.getElem?_eq_some_iff.1 hz).1
  obtain ⟨d1, d2⟩ := take_drop_at hz
  rw [← List.take_append_drop k zs, okS_app, d1] at h1
  rw [← List.take_append_drop k zs, frS_app, d1] at h2
  have hl : (zs.take k).length = k := by simp; omega
  have hr := rowOk_runs (zs.take k) hR hb h1.1 h2.1
  have hlen := (runs_len (zs.take k) l h1.1).1
  rw [hl] at hr hlen
  refine ⟨hr, h1.2.1, h2.2.1, h2.2.2.1, ?_, hlen⟩
  rw [d2, runs_app]
  rfl
theorem named_at {l : List Xo} {k : Nat} {o : Xo} (h : l[k]? = some o) : (named l)[k]? = some (o, ⟨4, o.r, 1⟩) := by
  unfold named
  rw [List.getElem?_map, h]
  rfl

set_option maxHeartbeats 4000000 in
theorem done_ok {w : World} {u v : Value} {l : List El} {ops : List Xo} {b : Int} (hu : SlE w u l) (hv : SlO w v ops) (hn : l.length + ops.length ≤ 1000) (hR : RowOk b l) (hb0 : 0 ≤ b) (hb : b ≤ 1000000) (h1 : okS l (named ops)) (h2 : frS l (named ops)) :
    Calls Tryz.prog 36 #[u, v] w fun r w' => ∃ q, r = .returned (.tuple #[q, .bool true]) ∧ OwnE w.heap.size q (runs l (named ops)) w' ∧ Below w.heap.size w w' := by
  have HO := hid_of' (of_mo hu (by omega) hR (by omega))
  obtain ⟨a1, c1, rfl⟩ := hv.form
  unfold pv at HO
  go_enter Tryz.func36, Tryz.ntmps36
  go_wp2_with (go_at_call 5; refine HO.out.mono ?_; clear HO; rintro r w1 ⟨mb, tb, kb, R, rfl, g1, g2, g3, hM1, hb1⟩)
  go_loopw [8] (fun i wr => ∃ k : Nat, i = .int .i64 (k : Int) ∧ k ≤ ops.length ∧ Mo mb tb kb (1000000 + k * 3000) R (runs l ((named ops).take k)) wr ∧ Below w.heap.size w wr) (fun i _ => ops.length - (intOf i).toNat)
  case atStart => exact ⟨0, rfl, Nat.zero_le _, hM1, hb1⟩
  case round =>
    obtain ⟨k, rfl, hk, hM, hB⟩ := hrel
    by_cases hlt : k < ops.length
    · have hki : (k : Int) < (ops.length : Int) := by omega
      obtain ⟨op, hop⟩ : ∃ op, ops[k]? = some op := ⟨_, List.getElem?_eq_getElem hlt⟩
      obtain ⟨q1, q2, q3, q4, q5, q6⟩ := runs_at (named_at hop) h1 h2 hR hb0
      rcases hv.later hB with ⟨h0, _⟩ | ⟨g, o_, c, hvv, hc⟩
      · exfalso; subst h0; simp at hlt
      simp only [Value.slice.injEq] at hvv
      obtain ⟨rfl, _, rfl⟩ := hvv
      have hce := hc k op hop
      have HA := hid_of' (fun (x : World) (hx : Below wr.heap.size wr x) => apply_mo (hM.later hx) (by omega) q1 (by omega) op ⟨4, op.r, 1⟩ q2 q4 q3 (by omega))
      have Hq := hid_of' q5
      have Hl := hid_of' q6
      have Hh := hid_of' (And.intro h1 (And.intro h2 hM))
      clear q1 q2 q3 q4 q5 q6 h1 h2 hM hc
      unfold pv at HA
      go_upto_region 7 with fail
      refine wp_region_tail 11 (by kernel_rfl) (fun _ => none) (by kernel_rfl) (by kernel_rfl) (by decide) (fun i v x => match i with
        | 0 => v = .pointer (some ⟨mb, 0, none⟩)
        | 1 => v = .slice (some ⟨g, o_, none⟩) ops.length c1
        | 2 => v = .int .i64 (k : Int)
        | 3 => v = .pointer (some ⟨g, o_ + k * 4, none⟩)
        | 4 => v = .agg (ov op)
        | 5 => v = .slice (some ⟨g, o_, none⟩) ops.length c1
        | 6 => v = .int .i64 (k : Int)
        | 7 => v = .pointer (some ⟨g, o_ + k * 4, none⟩)
        | 8 => v = .pointer (some ⟨g, o_ + k * 4 + 3, none⟩)
        | 9 => v = .int .i64 op.r
        | 10 => v = .agg (idc 4 op.r 1)
        | _ => True) (fun _ => false) (fun _ _ _ _ h => by cases h) ?_ ?_ ?_
      · intro i v x x' hR hb
        match i, hR with
        | 0, h => exact h
        | 1, h => exact h
        | 2, h => exact h
        | 3, h => exact h
        | 4, h => exact h
        | 5, h => exact h
        | 6, h => exact h
        | 7, h => exact h
        | 8, h => exact h
        | 9, h => exact h
        | 10, h => exact h
        | m + 11, h => exact h
      · intro i o hi ho q x vals hX hdep hoth
        have t1 : q.tmps[1]? = some (.slice (some ⟨g, o_, none⟩) ops.length c1) := by rw [hoth 1 (by kernel_rfl)]; rfl
        have t6 : q.tmps[6]? = some (.pointer (some ⟨mb, 0, none⟩)) := by rw [hoth 6 (by kernel_rfl)]; rfl
        have t8 : q.tmps[8]? = some (.int .i64 (k : Int)) := by rw [hoth 8 (by kernel_rfl)]; rfl
        match i, hi, ho with
        | 0, _, ho =>
          simp only [List.getElem?_cons_zero, Option.some.injEq] at ho
          subst ho
          unfold Oper.wp
          simp [execOp, go_sem, t6]
          exact came _ rfl (Below.refl _ _) rfl (fun h => absurd h (by decide))
        | 1, _, ho =>
          simp only [List.getElem?_cons_succ, List.getElem?_cons_zero, Option.some.injEq] at ho
          subst ho
          unfold Oper.wp
          simp [execOp, go_sem, t1]
          exact came _ rfl (Below.refl _ _) rfl (fun h => absurd h (by decide))
        | 2, _, ho =>
          simp only [List.getElem?_cons_succ, List.getElem?_cons_zero, Option.some.injEq] at ho
          subst ho
          unfold Oper.wp
          simp [execOp, go_sem, t8]
          exact came _ rfl (Below.refl _ _) rfl (fun h => absurd h (by decide))
        | 3, _, ho =>
          simp only [List.getElem?_cons_succ, List.getElem?_cons_zero, Option.some.injEq] at ho
          subst ho
          obtain ⟨u1, e1⟩ := hdep ⟨1, .data⟩ (by simp) rfl _ 27 rfl rfl
          rw [show vals 1 = .slice (some ⟨g, o_, none⟩) ops.length c1 from e1] at u1
          obtain ⟨u2, e2⟩ := hdep ⟨2, .data⟩ (by simp) rfl _ 28 rfl rfl
          rw [show vals 2 = .int .i64 (k : Int) from e2] at u2
          unfold Oper.wp
          simp [execOp, go_sem, u1, u2, hki]
          exact came _ rfl (Below.refl _ _) rfl (fun h => absurd h (by decide))
        | 4, _, ho =>
          simp only [List.getElem?_cons_succ, List.getElem?_cons_zero, Option.some.injEq] at ho
          subst ho
          obtain ⟨u3, e3⟩ := hdep ⟨3, .data⟩ (by simp) rfl _ 29 rfl rfl
          rw [show vals 3 = .pointer (some ⟨g, o_ + k * 4, none⟩) from e3] at u3
          exact opw_loadO _ rfl (by simp [Act.eval, u3]) (hce.later hX) (came _ rfl (Below.refl _ _) rfl (fun h => absurd h (by decide)))
        | 5, _, ho =>
          simp only [List.getElem?_cons_succ, List.getElem?_cons_zero, Option.some.injEq] at ho
          subst ho
          unfold Oper.wp
          simp [execOp, go_sem, t1]
          exact came _ rfl (Below.refl _ _) rfl (fun h => absurd h (by decide))
        | 6, _, ho =>
          simp only [List.getElem?_cons_succ, List.getElem?_cons_zero, Option.some.injEq] at ho
          subst ho
          unfold Oper.wp
          simp [execOp, go_sem, t8]
          exact came _ rfl (Below.refl _ _) rfl (fun h => absurd h (by decide))
        | 7, _, ho =>
          simp only [List.getElem?_cons_succ, List.getElem?_cons_zero, Option.some.injEq] at ho
          subst ho
          obtain ⟨u5, e5⟩ := hdep ⟨5, .data⟩ (by simp) rfl _ 31 rfl rfl
          rw [show vals 5 = .slice (some ⟨g, o_, none⟩) ops.length c1 from e5] at u5
          obtain ⟨u6, e6⟩ := hdep ⟨6, .data⟩ (by simp) rfl _ 32 rfl rfl
          rw [show vals 6 = .int .i64 (k : Int) from e6] at u6
          unfold Oper.wp
          simp [execOp, go_sem, u5, u6, hki]
          exact came _ rfl (Below.refl _ _) rfl (fun h => absurd h (by decide))
        | 8, _, ho =>
          simp only [List.getElem?_cons_succ, List.getElem?_cons_zero, Option.some.injEq] at ho
          subst ho
          obtain ⟨u7, e7⟩ := hdep ⟨7, .data⟩ (by simp) rfl _ 33 rfl rfl
          rw [show vals 7 = .pointer (some ⟨g, o_ + k * 4, none⟩) from e7] at u7
          unfold Oper.wp
          simp [execOp, go_sem, u7]
          exact came _ rfl (Below.refl _ _) rfl (fun h => absurd h (by decide))
        | 9, _, ho =>
          simp only [List.getElem?_cons_succ, List.getElem?_cons_zero, Option.some.injEq] at ho
          subst ho
          obtain ⟨u8, e8⟩ := hdep ⟨8, .data⟩ (by simp) rfl _ 34 rfl rfl
          rw [show vals 8 = .pointer (some ⟨g, o_ + k * 4 + 3, none⟩) from e8] at u8
          have cc : x.cell? ⟨g, o_ + k * 4 + 3, none⟩ = some (.int .i64 op.r) := (hce.later hX).2 3 _ rfl
          unfold Oper.wp
          simp [execOp, go_sem, u8, cc]
          exact came _ rfl (Below.refl _ _) rfl (fun h => absurd h (by decide))
        | 10, _, ho =>
          simp only [List.getElem?_cons_succ, List.getElem?_cons_zero, Option.some.injEq] at ho
          subst ho
          obtain ⟨u9, e9⟩ := hdep ⟨9, .data⟩ (by simp) rfl _ 35 rfl rfl
          rw [show vals 9 = .int .i64 op.r from e9] at u9
          unfold Oper.wp
          simp [execOp, go_sem, u9]
          exact came _ rfl (Below.refl _ _) rfl (fun h => absurd h (by decide))
        | m + 11, hi, _ => exact absurd hi (by omega)
      · intro vals x' hX hR7 _
        have r0 : vals 0 = .pointer (some ⟨mb, 0, none⟩) := hR7 0 (by decide)
        have r4 : vals 4 = .agg (ov op) := hR7 4 (by decide)
        have r10 : vals 10 = .agg (idc 4 op.r 1) := hR7 10 (by decide)
        simp only [List.take, List.drop, putAll, r0, r4, r10]
        clear r0 r4 r10 hR7
        simp only [List.setIfInBounds_toArray, List.set_cons_succ, List.set_cons_zero]
        go_wp2_with (go_at_call 7; with_reducible refine (HA.out _ hX).mono ?_; rintro r w9 ⟨rfl, hM9, hk9⟩)
        go_roundw
        case rel =>
          refine ⟨k + 1, by go_num, by omega, ?_, K2.below (bgo hB hX) hk9 g1 g2 (bgo hB hX).size⟩
          obtain ⟨n9, f9, hn9, hm9⟩ := hM9
          rw [Hq.out]
          exact ⟨n9, f9, by have := Hl.out; omega, hm9⟩
        case measure => simp [intOf]; omega
    · obtain rfl : k = ops.length := by omega
      have hnl : (named ops).length = ops.length := by simp [named]
      have htk : (named ops).take ops.length = named ops := List.take_of_length_le (by omega)
      rw [htk] at hM
      have hrl := (runs_len (named ops) l h1).1
      have HE := hid_of' (elements_ok hM.mv (by omega))
      clear htk hnl hrl h1 h2
      unfold pv at HE
      go_wp2_with (go_at_call 10; refine HE.out.mono ?_; rintro r w9 ⟨q, rfl, ho9, hb9⟩)
      go_ret2
      exact ⟨q, rfl, ho9.lower hB.size, bgo hB hb9⟩
end Go.Proofs.YtjalehlmldlooaaGreatDoor
