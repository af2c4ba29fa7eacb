
/-
  The document's Inbox: holds, Offer.
-/
import Derived.Test.YtlgdaaofpjpobaaDoorZca34
import Derived.Test.YtlgdaaofpjpobaaDoorZca35
namespace Go.Proofs.YtlgdaaofpjpobaaDoor
open Go.RowKit Go.Maps
set_option maxRecDepth 100000

/-- append to an empty row that has no room: nothing that was there turns. -/
theorem run_app0 {P : Program} (w : World) (t ty e : TypeId) (i : TypeInfo) (z : Value) (size bytes : Nat) (ht : P.underlying t = some (.slice e)) (hi : P.info? e = some i) (hz : i.zero = some z)
    (hsize : i.size = size) (hby : i.bytes = bytes) (hzs : z.cells.size = size) {g : Nat} (hg : w.heap[g]? = some (.cells #[] e (0, 0))) {u : Value} {m : Nat} {ys : List Value} (hu : So size u m ys w)
    (h63 : m ≤ maxLen) (hbytes : m * bytes ≤ 140737488355328) :
    ∃ v' w', (Builtin.append_ #[t, t] ty #[.slice (some ⟨g, 0, none⟩) 0 0, u]).run P w = .ok v' w' ∧ Rw e size v' m ys w' ∧ Below w.heap.size w w' ∧ ∀ k, v'.ownBlock = some k → k = g ∨ w.heap.size ≤ k := by
  subst hsize
  subst hby
  have hsmall : m ≤ 9223372036854775807 := by simp only [maxLen] at h63; omega
  by_cases hm0 : m = 0
  · subst hm0
    have hy : ys = [] := List.eq_nil_of_length_eq_zero (by simpa using hu.1)
    subst hy
    have hs : Src P i.size t u 0 [] w := by
      rcases hu.2 with ⟨_, a', c', rfl⟩ | ⟨a', c', rfl, hc⟩
      · cases a' with
        | none => exact Src.ofNil w ht c'
        | some a' => exact Src.ofSlice w ht a' 0 c' [] (by simp) (fun j u h => by simp at h) (fun u h => by simp at h)
      · exact Src.ofSlice w ht a' 0 c' [] (by simp) (fun j u h => by simp at h) (fun u h => by simp at h)
    exact ⟨_, w, run_append_nothing w t t ty e i ht hi _ 0 0 (Nat.le_refl _) u hs, ⟨by simp, .inr ⟨g, 0, #[], rfl, hg, Nat.le_refl _, Nat.zero_le _, by simp, by simp⟩⟩, Below.refl _ _, fun k hk => .inl (by cases hk; rfl)⟩
  · obtain ⟨a, c, rfl, hnews⟩ : ∃ a c, u = .slice (some a) m c ∧ ∀ j x, ys[j]? = some x → w.cell? (a.add j) = some x := by
      rcases hu.2 with ⟨q, _⟩ | q
      · exact absurd q hm0
      · exact q
    have hr := run_append_grow (P := P) w t ty e i z ht hi hz ⟨g, 0, none⟩ 0 0 [] (by simp) (fun j u hj => by simp at hj) a m c ys hu.1 hnews (by omega) (by omega) (growslice_fits (by omega) (by simpa using hbytes))
    simp only [Nat.zero_add] at hr
    have hge := grownCap_ge w m 0 e
    have hcm : grownCap w m 0 e ≤ maxLen := grownCap_le_maxLen w m 0 e h63
    refine ⟨_, _, hr, ⟨hu.1, .inr ⟨w.heap.size, _, _, rfl, heap_alloc_new w.drew _, hge, hcm, ?_, ?_⟩⟩, ?_, fun k hk => .inr (by cases hk; exact Nat.le_refl _)⟩
    · simp only [Array.size_append, List.size_toArray, size_zeroCells, hzs, hu.1]
      simp only [List.length_nil, Nat.zero_add, ← Nat.add_mul]
      exact Nat.mul_le_mul_right _ (by omega)
    · simp only [Array.toList_append, List.append_assoc]
      rw [← hu.1]
      simp
    · exact ⟨rfl, rfl, rfl, by simp, fun k hk => heap_alloc_old w.drew _ hk⟩
theorem opw_app0 {K : Act → World → Prop} {o : Oper} {A : Act} {w : World} {Q : Exit → Act → World → Prop} (s x : Operand) (ho : o.op = .call { callee := .builtin .append, args := #[s, x], argTypes := #[37, 37] })
    {g : Nat} {u : Value} {m : List Ac} (hs : A.eval s = .slice (some ⟨g, 0, none⟩) 0 0) (hx : A.eval x = u) (hg : w.heap[g]? = some (.cells #[] 48 (0, 0))) (hu : SlC w u m) (hm : AFit m) (hn : m.length ≤ 1000000)
    (k : ∀ v' w', OwnA v' m w' → Below w.heap.size w w' → (∀ k, v'.ownBlock = some k → k = g ∨ w.heap.size ≤ k) → K (A.put o.dst v') w') : o.wp Tryd.prog A w K Q := by
  obtain ⟨i0, hi, hz0, hz1, hz2⟩ := info_parts info_a
  obtain ⟨v', w', hr, h2, h3, h4⟩ := run_app0 (P := Tryd.prog) w 37 o.type 48 i0 (.agg (acv ac0)) 13 104 Tryd.underlying37 hi hz0 hz1 hz2 rfl hg (hu.so hm) (by unfold maxLen; omega) (by omega)
  unfold Oper.wp execOp
  simp only [ho, resolve, invoke, builtin, Sem.run_bind, Sem.run_pure, Result.andThen_ok, List.map_toArray, List.map_cons, List.map_nil, hs, hx, hr]
  exact k v' w' ⟨h2, hm⟩ h3 h4
theorem opw_none0 {K : Act → World → Prop} {o : Oper} {A : Act} {w : World} {Q : Exit → Act → World → Prop} (ho : o.op = .buildSlice 37 0 #[])
    (k : K (A.put o.dst (.slice (some ⟨w.heap.size, 0, none⟩) 0 0)) (w.alloc (.cells #[] 48))) : o.wp Tryd.prog A w K Q := by
  unfold Oper.wp
  simp [execOp, ho, go_sem]
  exact k
theorem newB_grow {w x x' : World} {v : Value} (h : NewB w v) (hg : x.grownBy x' v.ownBlock) (hs : w.heap.size ≤ x.heap.size) : Below w.heap.size x x' :=
  ⟨hg.os, hg.tape, hg.output, hg.size, fun k hk => hg.block k (by omega) (fun e => by have := h k e.symm; omega)⟩
/-- The document's Inbox in memory. -/
structure RbAt (R : Nat) (v : Value) (m : Int) (l : List Ac) (w : World) : Prop where
  lies : RowAt R #[.int .i64 m, v] 39 w
  row : OwnA v l w
theorem RbAt.later {R : Nat} {v : Value} {m : Int} {l : List Ac} {w w' : World} (h : RbAt R v m l w) (hb : Below w.heap.size w w') : RbAt R v m l w' := ⟨h.lies.later hb, h.row.later hb⟩
theorem RbAt.ch {R : Nat} {v : Value} {m : Int} {l : List Ac} {S : Nat → Prop} {w w' : World} (h : RbAt R v m l w) (c : Ch S w w') (h1 : ¬ S R) (h2 : ∀ k, v.ownBlock = some k → ¬ S k) : RbAt R v m l w' := ⟨h.lies.ch c h1, h.row.ch c h2⟩
/-- Its blocks. -/
def rbS (R : Nat) (v : Value) (k : Nat) : Prop := k = R ∨ v.ownBlock = some k
theorem RbAt.ne {R : Nat} {v : Value} {m : Int} {l : List Ac} {w : World} (h : RbAt R v m l w) : ∀ k, v.ownBlock = some k → ¬ k = R := fun k hk e => by
  rcases h.row.1.2 with ⟨hv, _⟩ | ⟨g, cap, cur, hv, hg, _⟩
  · rw [hv] at hk; cases hk
  · rw [hv] at hk
    have hgk : g = k := by simpa [Value.ownBlock] using hk
    have := h.lies
    unfold RowAt at this
    rw [hgk, e, this] at hg
    simp at hg
set_option maxHeartbeats 4000000 in
theorem refHolds_is {R : Nat} {v : Value} {m : Int} {l : List Ac} {w : World} (h : RbAt R v m l w) (hn : l.length ≤ 1000) {x : Ac} (hx : x.Fit) :
    Calls Tryd.prog 41 #[.pointer (some ⟨R, 0, none⟩), .agg (acv x)] w fun e w' => e = .returned (.bool (namesOf l x.rep x.num)) ∧ Below w.heap.size w w' := by
  obtain ⟨a9, c9, rfl, _⟩ := h.row.form
  have hB0 := below_one w (.cells (acv x) 48)
  have H := hid_of' (And.intro (h.later hB0) (And.intro (box1 w x) hB0))
  clear h hB0
  go_enter Tryd.func41, Tryd.ntmps41
  go_upto_region 1 with fail
  generalize w.alloc (.cells (acv x) 48) = W at H ⊢
  go_wp2
  go_loopw [5] (fun i wr => ∃ k : Nat, i = .int .i64 (k : Int) ∧ k ≤ l.length ∧ namesOf (l.take k) x.rep x.num = false ∧ Below W.heap.size W wr) (fun i _ => l.length - (intOf i).toNat)
  case atStart => exact ⟨0, rfl, by omega, rfl, Below.refl _ _⟩
  case round =>
    rename World => wr
    obtain ⟨k, rfl, hk, hno, hBr⟩ := hrel
    have hRr := H.out.1.later hBr
    have c1 := hRr.lies.cellIs 1 rfl
    by_cases hlt : k < l.length
    · have hki : (k : Int) < (l.length : Int) := by omega
      obtain ⟨y, hy⟩ : ∃ y, l[k]? = some y := ⟨_, List.getElem?_eq_getElem hlt⟩
      have hyf := H.out.1.row.2.at hy
      obtain ⟨g, o, c2, hv, _⟩ := hRr.row.sl.pos (by omega)
      simp only [Value.slice.injEq, true_and] at hv
      obtain ⟨rfl, rfl⟩ := hv
      have hin := hRr.row.sl.in H.out.1.row.2 hy
      have hbx := H.out.2.1.later hBr
      have hnx : namesOf (l.take (k + 1)) x.rep x.num = oneB y x := by
        rw [take_next hy]
        unfold namesOf at hno ⊢
        rw [List.any_append, hno]
        unfold oneB
        simp only [List.any_cons, List.any_nil, Bool.or_false, Bool.false_or]
        congr 1
      cases hone : oneB y x
      · have HN := hid_of' (And.intro hnx hBr)
        clear hno hnx hBr hy
        have hB := Below.refl wr.heap.size wr
        go_upto_region 4 with fail
        clear c1
        have c1 := hRr.lies.cls 1 _ rfl
        refine wp_region_cls (by kernel_rfl) (by kernel_rfl) ?_
        repeat (first | go_big_quiet_skip | (go_big_quiet_want; first | (refine quiet_act _ rfl rfl hyf hin.cls ?_; simp only [Act.put, List.setIfInBounds_toArray, List.set_cons_succ, List.set_cons_zero]; go_big_quiet_on) | (refine quiet_act _ rfl rfl hx hbx.in.cls ?_; simp only [Act.put, List.setIfInBounds_toArray, List.set_cons_succ, List.set_cons_zero]; go_big_quiet_on) | (go_big_quiet_op; first | go_big_quiet_on | go_big_quiet_call ((go_at_call 51; exact cls_of (one_v hone _))))))
        refine wpQuiet_nil ?_
        rintro w1 ⟨s1, e1⟩
        have hb1 := wOf_below s1
        rw [← e1] at hb1
        clear e1 s1
        replace hin := hin.later hb1
        replace hbx := hbx.later hb1
        replace hB := bgo hB hb1
        clear hb1
        clear c1
        go_wp2
        go_roundw
        case rel => exact ⟨k + 1, by go_num, by omega, by rw [HN.out.1]; exact hone, bgo HN.out.2 hB⟩
        case measure => simp [intOf]; omega
      · have hall : namesOf l x.rep x.num = true := by
          unfold namesOf
          rw [List.any_eq_true]
          exact ⟨y, List.mem_of_getElem? hy, by have := oneB_iff.1 hone; simp [this.1, this.2]⟩
        have HN := hid_of' (And.intro hall hBr)
        clear hno hnx hBr hy hall
        have hB := Below.refl wr.heap.size wr
        go_upto_region 4 with fail
        clear c1
        have c1 := hRr.lies.cls 1 _ rfl
        refine wp_region_cls (by kernel_rfl) (by kernel_rfl) ?_
        repeat (first | go_big_quiet_skip | (go_big_quiet_want; first | (refine quiet_act _ rfl rfl hyf hin.cls ?_; simp only [Act.put, List.setIfInBounds_toArray, List.set_cons_succ, List.set_cons_zero]; go_big_quiet_on) | (refine quiet_act _ rfl rfl hx hbx.in.cls ?_; simp only [Act.put, List.setIfInBounds_toArray, List.set_cons_succ, List.set_cons_zero]; go_big_quiet_on) | (go_big_quiet_op; first | go_big_quiet_on | go_big_quiet_call ((go_at_call 51; exact cls_of (one_v hone _))))))
        refine wpQuiet_nil ?_
        rintro w1 ⟨s1, e1⟩
        have hb1 := wOf_below s1
        rw [← e1] at hb1
        clear e1 s1
        replace hin := hin.later hb1
        replace hbx := hbx.later hb1
        replace hB := bgo hB hb1
        clear hb1
        clear c1
        go_wp2
        go_ret
        exact ⟨by rw [HN.out.1]; rfl, bgo H.out.2.2 (bgo HN.out.2 hB)⟩
    · have hki : ¬ (k : Int) < (l.length : Int) := by omega
      have hall : namesOf l x.rep x.num = false := by rw [← hno, List.take_of_length_le (by omega)]
      have HN := hid_of' (And.intro hall (bgo H.out.2.2 hBr))
      clear hno hall hBr
      go_wp2
      go_ret
      exact ⟨by rw [HN.out.1]; rfl, HN.out.2⟩
theorem refHolds_v {R : Nat} {v : Value} {m : Int} {l : List Ac} {w : World} (h : RbAt R v m l w) (hn : l.length ≤ 1000) {x : Ac} (hx : x.Fit) {b : Bool} (hb : namesOf l x.rep x.num = b) :
    Calls Tryd.prog 41 #[.pointer (some ⟨R, 0, none⟩), .agg (acv x)] w fun e w' => e = .returned (.bool b) ∧ Below w.heap.size w w' := hb ▸ refHolds_is h hn hx
/-- What the document's Offer leaves. -/
def ROffQ (h : List Int) (R : Nat) (v : Value) (m : Int) (l : List Ac) (x : Ac) (w : World) (e : Ending) (w' : World) : Prop :=
  ∃ v', e = .returned (.int .i64 (offR h m l x).1) ∧ RbAt R v' m (offR h m l x).2 w' ∧ At' w v v' ∧ Ch (rbS R v) w w'
theorem ROffQ.stay {h : List Int} {R : Nat} {v : Value} {m : Int} {l : List Ac} {x : Ac} {w w' : World} {c : Int} (hi : RbAt R v m l w) (hb : Below w.heap.size w w') (ho : offR h m l x = (c, l)) : ROffQ h R v m l x w (.returned (.int .i64 c)) w' :=
  ⟨v, by rw [ho], by rw [ho]; exact hi.later hb, At'.refl _ _, Ch.of hb⟩
set_option maxHeartbeats 8000000 in
theorem refOffer_any {R : Nat} {v : Value} {m : Int} {l : List Ac} {w : World} (hI : RbAt R v m l w) (hn : l.length ≤ 1000) {h : List Int} (ha : Ck h) {x : Ac} (hx : x.Full) :
    Calls Tryd.prog 21 #[.pointer (some ⟨R, 0, none⟩), .agg (cv h), .agg (acv x)] w (ROffQ h R v m l x w) := by
  obtain ⟨h1, h2, hB⟩ := startA w (x := x) ha.1
  have hJ := hI.later hB
  have r1 := acv_rep x
  have r2 := acv_num x
  have x3 := h2.cellIs 3 r1
  cases hha : hasA h x
  case true =>
    have hcc : hasC h x.rep x.num = true := hha
    have HS := hid_of' (fun (w' : World) (hb : Below w.heap.size w w') => ROffQ.stay (h := h) (x := x) (c := 2) hI hb (by unfold offR; rw [if_pos (.inr hha)]))
    clear hI
    go_enter Tryd.func21, Tryd.ntmps21
    go_upto_region 2 with fail
    clear x3
    have k4 := h2.cls 4 _ r2
    refine wp_region_cls0 ?_
    repeat (first | go_big_quiet_skip | (go_big_quiet_want; first | (refine quiet_load_ck _ rfl rfl (cls_ck h1) ?_; simp only [Act.put, List.setIfInBounds_toArray, List.set_cons_succ, List.set_cons_zero]; go_big_quiet_on) | (go_big_quiet_op; first | go_big_quiet_on | go_big_quiet_call ((go_at_call 39; exact cls_of (refHas_is hcc _ ha.1))))))
    refine wpQuiet_nil ?_
    rintro w1 ⟨s1, e1⟩
    have hb1 := wOf_below s1
    rw [← e1] at hb1
    clear e1 s1
    replace h1 := h1.later hb1
    replace h2 := h2.later hb1
    replace hJ := hJ.later hb1
    replace hB := bgo hB hb1
    clear hb1
    go_wp2
    go_ret
    exact HS.out _ hB
  have hcc : hasC h x.rep x.num = false := hha
  cases hnm : x.named
  · have HS := hid_of' (fun (w' : World) (hb : Below w.heap.size w w') => ROffQ.stay (h := h) (x := x) (c := 2) hI hb (by unfold offR; rw [if_pos (.inl hnm)]))
    clear hI
    by_cases q1 : x.rep < 0
    · go_enter Tryd.func21, Tryd.ntmps21
      go_upto_region 2 with fail
      clear x3
      have k4 := h2.cls 4 _ r2
      have q1d : decide (x.rep < 0) = true := decide_eq_true q1
      refine wp_region_cls0 ?_
      repeat (first | go_big_quiet_skip | (go_big_quiet_want; first | (refine quiet_load_ck _ rfl rfl (cls_ck h1) ?_; simp only [Act.put, List.setIfInBounds_toArray, List.set_cons_succ, List.set_cons_zero]; go_big_quiet_on) | (go_big_quiet_op; first | go_big_quiet_on | go_big_quiet_call ((go_at_call 39; exact cls_of (refHas_is hcc _ ha.1))))))
      refine wpQuiet_nil ?_
      rintro w1 ⟨s1, e1⟩
      have hb1 := wOf_below s1
      rw [← e1] at hb1
      clear e1 s1
      replace h1 := h1.later hb1
      replace h2 := h2.later hb1
      replace hJ := hJ.later hb1
      replace hB := bgo hB hb1
      clear hb1
      go_wp2
      go_ret
      exact HS.out _ hB
    · by_cases q2 : 7 < x.rep
      · go_enter Tryd.func21, Tryd.ntmps21
        go_upto_region 2 with fail
        clear x3
        have k4 := h2.cls 4 _ r2
        have q1d : decide (x.rep < 0) = false := decide_eq_false q1
        have q2d : decide (7 < x.rep) = true := decide_eq_true q2
        refine wp_region_cls0 ?_
        repeat (first | go_big_quiet_skip | (go_big_quiet_want; first | (refine quiet_load_ck _ rfl rfl (cls_ck h1) ?_; simp only [Act.put, List.setIfInBounds_toArray, List.set_cons_succ, List.set_cons_zero]; go_big_quiet_on) | (go_big_quiet_op; first | go_big_quiet_on | go_big_quiet_call ((go_at_call 39; exact cls_of (refHas_is hcc _ ha.1))))))
        refine wpQuiet_nil ?_
        rintro w1 ⟨s1, e1⟩
        have hb1 := wOf_below s1
        rw [← e1] at hb1
        clear e1 s1
        replace h1 := h1.later hb1
        replace h2 := h2.later hb1
        replace hJ := hJ.later hb1
        replace hB := bgo hB hb1
        clear hb1
        go_wp2
        go_ret
        exact HS.out _ hB
      · have q3 : x.num < 1 := by
          unfold Ac.named at hnm
          rw [decide_eq_true (show 0 ≤ x.rep ∧ x.rep < 8 by omega), Bool.true_and, decide_eq_false_iff_not] at hnm
          omega
        go_enter Tryd.func21, Tryd.ntmps21
        go_upto_region 2 with fail
        clear x3
        have k4 := h2.cls 4 _ r2
        have q1d : decide (x.rep < 0) = false := decide_eq_false q1
        have q2d : decide (7 < x.rep) = false := decide_eq_false q2
        have q3d : decide (x.num < 1) = true := decide_eq_true q3
        refine wp_region_cls0 ?_
        repeat (first | go_big_quiet_skip | (go_big_quiet_want; first | (refine quiet_load_ck _ rfl rfl (cls_ck h1) ?_; simp only [Act.put, List.setIfInBounds_toArray, List.set_cons_succ, List.set_cons_zero]; go_big_quiet_on) | (go_big_quiet_op; first | go_big_quiet_on | go_big_quiet_call ((go_at_call 39; exact cls_of (refHas_is hcc _ ha.1))))))
        refine wpQuiet_nil ?_
        rintro w1 ⟨s1, e1⟩
        have hb1 := wOf_below s1
        rw [← e1] at hb1
        clear e1 s1
        replace h1 := h1.later hb1
        replace h2 := h2.later hb1
        replace hJ := hJ.later hb1
        replace hB := bgo hB hb1
        clear hb1
        go_wp2
        go_ret
        exact HS.out _ hB
  have hno1 : ¬ (x.named = false ∨ hasA h x = true) := by rw [hnm, hha]; simp
  have hnm2 : (0 ≤ x.rep ∧ x.rep < 8) ∧ 1 ≤ x.num := by
    unfold Ac.named at hnm
    simpa using hnm
  have q1d : decide (x.rep < 0) = false := decide_eq_false (by omega)
  have q2d : decide (7 < x.rep) = false := decide_eq_false (by omega)
  have q3d : decide (x.num < 1) = false := decide_eq_false (by omega)
  have q1 : ¬ x.rep < 0 := by omega
  have q2 : ¬ 7 < x.rep := by omega
  have q3 : ¬ x.num < 1 := by omega
  clear hnm2 hnm
  cases hrd : rdyC h x
  case true =>
    have HS := hid_of' (fun (w' : World) (hb : Below w.heap.size w w') => ROffQ.stay (h := h) (x := x) (c := 1) hI hb (by unfold offR; rw [if_neg hno1, if_pos hrd]))
    clear hI hno1
    go_enter Tryd.func21, Tryd.ntmps21
    go_upto_region 2 with fail
    clear x3
    have k4 := h2.cls 4 _ r2
    refine wp_region_cls0 ?_
    repeat (first | go_big_quiet_skip | (go_big_quiet_want; first | (refine quiet_load_ck _ rfl rfl (cls_ck h1) ?_; simp only [Act.put, List.setIfInBounds_toArray, List.set_cons_succ, List.set_cons_zero]; go_big_quiet_on) | (go_big_quiet_op; first | go_big_quiet_on | go_big_quiet_call ((go_at_call 39; exact cls_of (refHas_is hcc _ ha.1))))))
    refine wpQuiet_nil ?_
    rintro w1 ⟨s1, e1⟩
    have hb1 := wOf_below s1
    rw [← e1] at hb1
    clear e1 s1
    replace h1 := h1.later hb1
    replace h2 := h2.later hb1
    replace hJ := hJ.later hb1
    replace hB := bgo hB hb1
    clear hb1
    clear k4
    go_upto_region 4 with fail
    refine wp_region_cls0 ?_
    repeat (first | go_big_quiet_skip | (go_big_quiet_want; first | (refine quiet_load_ck _ rfl rfl (cls_ck h1) ?_; simp only [Act.put, List.setIfInBounds_toArray, List.set_cons_succ, List.set_cons_zero]; go_big_quiet_on) | (refine quiet_act _ rfl rfl hx.1 h2.in.cls ?_; simp only [Act.put, List.setIfInBounds_toArray, List.set_cons_succ, List.set_cons_zero]; go_big_quiet_on) | (go_big_quiet_op; first | go_big_quiet_on | go_big_quiet_call ((go_at_call 40; exact cls_of (refReady_is hrd _ ha hx.1))))))
    refine wpQuiet_nil ?_
    rintro w1 ⟨s1, e1⟩
    have hb1 := wOf_below s1
    rw [← e1] at hb1
    clear e1 s1
    replace h1 := h1.later hb1
    replace h2 := h2.later hb1
    replace hJ := hJ.later hb1
    replace hB := bgo hB hb1
    clear hb1
    go_wp2
    go_ret
    exact HS.out _ hB
  cases hkn : namesOf l x.rep x.num
  case true =>
    have HS := hid_of' (fun (w' : World) (hb : Below w.heap.size w w') => ROffQ.stay (h := h) (x := x) (c := 4) hI hb (by unfold offR; rw [if_neg hno1, if_neg (by rw [hrd]; decide), if_pos hkn]))
    clear hI hno1
    go_enter Tryd.func21, Tryd.ntmps21
    go_upto_region 2 with fail
    clear x3
    have k4 := h2.cls 4 _ r2
    refine wp_region_cls0 ?_
    repeat (first | go_big_quiet_skip | (go_big_quiet_want; first | (refine quiet_load_ck _ rfl rfl (cls_ck h1) ?_; simp only [Act.put, List.setIfInBounds_toArray, List.set_cons_succ, List.set_cons_zero]; go_big_quiet_on) | (go_big_quiet_op; first | go_big_quiet_on | go_big_quiet_call ((go_at_call 39; exact cls_of (refHas_is hcc _ ha.1))))))
    refine wpQuiet_nil ?_
    rintro w1 ⟨s1, e1⟩
    have hb1 := wOf_below s1
    rw [← e1] at hb1
    clear e1 s1
    replace h1 := h1.later hb1
    replace h2 := h2.later hb1
    replace hJ := hJ.later hb1
    replace hB := bgo hB hb1
    clear hb1
    clear k4
    go_upto_region 4 with fail
    refine wp_region_cls0 ?_
    repeat (first | go_big_quiet_skip | (go_big_quiet_want; first | (refine quiet_load_ck _ rfl rfl (cls_ck h1) ?_; simp only [Act.put, List.setIfInBounds_toArray, List.set_cons_succ, List.set_cons_zero]; go_big_quiet_on) | (refine quiet_act _ rfl rfl hx.1 h2.in.cls ?_; simp only [Act.put, List.setIfInBounds_toArray, List.set_cons_succ, List.set_cons_zero]; go_big_quiet_on) | (go_big_quiet_op; first | go_big_quiet_on | go_big_quiet_call ((go_at_call 40; exact cls_of (refReady_is hrd _ ha hx.1))))))
    refine wpQuiet_nil ?_
    rintro w1 ⟨s1, e1⟩
    have hb1 := wOf_below s1
    rw [← e1] at hb1
    clear e1 s1
    replace h1 := h1.later hb1
    replace h2 := h2.later hb1
    replace hJ := hJ.later hb1
    replace hB := bgo hB hb1
    clear hb1
    go_upto_region 6 with fail
    refine wp_region_cls0 ?_
    repeat (first | go_big_quiet_skip | (go_big_quiet_want; first | (refine quiet_load_ck _ rfl rfl (cls_ck h1) ?_; simp only [Act.put, List.setIfInBounds_toArray, List.set_cons_succ, List.set_cons_zero]; go_big_quiet_on) | (refine quiet_act _ rfl rfl hx.1 h2.in.cls ?_; simp only [Act.put, List.setIfInBounds_toArray, List.set_cons_succ, List.set_cons_zero]; go_big_quiet_on) | (go_big_quiet_op; first | go_big_quiet_on | go_big_quiet_call ((go_at_call 41; exact cls_of (refHolds_v (hJ.later (wOf_below _)) hn hx.1 hkn))))))
    refine wpQuiet_nil ?_
    rintro w1 ⟨s1, e1⟩
    have hb1 := wOf_below s1
    rw [← e1] at hb1
    clear e1 s1
    replace h1 := h1.later hb1
    replace h2 := h2.later hb1
    replace hJ := hJ.later hb1
    replace hB := bgo hB hb1
    clear hb1
    go_wp2
    go_ret
    exact HS.out _ hB
  obtain ⟨a9, c9, rfl, _⟩ := hI.row.form
  by_cases hfull : m ≤ (l.length : Int)
  · have HS := hid_of' (fun (w' : World) (hb : Below w.heap.size w w') => ROffQ.stay (h := h) (x := x) (c := 5) hI hb (by unfold offR; rw [if_neg hno1, if_neg (by rw [hrd]; decide), if_neg (by rw [hkn]; decide), if_pos hfull]))
    clear hI hno1
    go_enter Tryd.func21, Tryd.ntmps21
    go_upto_region 2 with fail
    clear x3
    have k4 := h2.cls 4 _ r2
    refine wp_region_cls0 ?_
    repeat (first | go_big_quiet_skip | (go_big_quiet_want; first | (refine quiet_load_ck _ rfl rfl (cls_ck h1) ?_; simp only [Act.put, List.setIfInBounds_toArray, List.set_cons_succ, List.set_cons_zero]; go_big_quiet_on) | (go_big_quiet_op; first | go_big_quiet_on | go_big_quiet_call ((go_at_call 39; exact cls_of (refHas_is hcc _ ha.1))))))
    refine wpQuiet_nil ?_
    rintro w1 ⟨s1, e1⟩
    have hb1 := wOf_below s1
    rw [← e1] at hb1
    clear e1 s1
    replace h1 := h1.later hb1
    replace h2 := h2.later hb1
    replace hJ := hJ.later hb1
    replace hB := bgo hB hb1
    clear hb1
    clear k4
    go_upto_region 4 with fail
    refine wp_region_cls0 ?_
    repeat (first | go_big_quiet_skip | (go_big_quiet_want; first | (refine quiet_load_ck _ rfl rfl (cls_ck h1) ?_; simp only [Act.put, List.setIfInBounds_toArray, List.set_cons_succ, List.set_cons_zero]; go_big_quiet_on) | (refine quiet_act _ rfl rfl hx.1 h2.in.cls ?_; simp only [Act.put, List.setIfInBounds_toArray, List.set_cons_succ, List.set_cons_zero]; go_big_quiet_on) | (go_big_quiet_op; first | go_big_quiet_on | go_big_quiet_call ((go_at_call 40; exact cls_of (refReady_is hrd _ ha hx.1))))))
    refine wpQuiet_nil ?_
    rintro w1 ⟨s1, e1⟩
    have hb1 := wOf_below s1
    rw [← e1] at hb1
    clear e1 s1
    replace h1 := h1.later hb1
    replace h2 := h2.later hb1
    replace hJ := hJ.later hb1
    replace hB := bgo hB hb1
    clear hb1
    go_upto_region 6 with fail
    refine wp_region_cls0 ?_
    repeat (first | go_big_quiet_skip | (go_big_quiet_want; first | (refine quiet_load_ck _ rfl rfl (cls_ck h1) ?_; simp only [Act.put, List.setIfInBounds_toArray, List.set_cons_succ, List.set_cons_zero]; go_big_quiet_on) | (refine quiet_act _ rfl rfl hx.1 h2.in.cls ?_; simp only [Act.put, List.setIfInBounds_toArray, List.set_cons_succ, List.set_cons_zero]; go_big_quiet_on) | (go_big_quiet_op; first | go_big_quiet_on | go_big_quiet_call ((go_at_call 41; exact cls_of (refHolds_v (hJ.later (wOf_below _)) hn hx.1 hkn))))))
    refine wpQuiet_nil ?_
    rintro w1 ⟨s1, e1⟩
    have hb1 := wOf_below s1
    rw [← e1] at hb1
    clear e1 s1
    replace h1 := h1.later hb1
    replace h2 := h2.later hb1
    replace hJ := hJ.later hb1
    replace hB := bgo hB hb1
    clear hb1
    have c0 := hJ.lies.cls 0 _ rfl
    have c1 := hJ.lies.cls 1 _ rfl
    go_upto_region 8 with fail
    refine wp_region_cls (by kernel_rfl) (by kernel_rfl) ?_
    repeat (first | go_big_quiet_skip | (go_big_quiet_want; first | (go_big_quiet_op; first | go_big_quiet_on | go_big_quiet_call ((fail)))))
    refine wpQuiet_nil ?_
    rintro w1 ⟨s1, e1⟩
    have hb1 := wOf_below s1
    rw [← e1] at hb1
    clear e1 s1
    replace hJ := hJ.later hb1
    replace hB := bgo hB hb1
    clear hb1
    go_wp2
    go_ret
    exact HS.out _ hB
  · have HO : Hid (offR h m l x = (3, l ++ [x])) := by unfold Hid offR; rw [if_neg hno1, if_neg (by rw [hrd]; decide), if_neg (by rw [hkn]; decide), if_neg hfull]
    have HI := hid_of' hI
    clear hI hno1
    go_enter Tryd.func21, Tryd.ntmps21
    go_upto_region 2 with fail
    clear x3
    have k4 := h2.cls 4 _ r2
    refine wp_region_cls0 ?_
    repeat (first | go_big_quiet_skip | (go_big_quiet_want; first | (refine quiet_load_ck _ rfl rfl (cls_ck h1) ?_; simp only [Act.put, List.setIfInBounds_toArray, List.set_cons_succ, List.set_cons_zero]; go_big_quiet_on) | (go_big_quiet_op; first | go_big_quiet_on | go_big_quiet_call ((go_at_call 39; exact cls_of (refHas_is hcc _ ha.1))))))
    refine wpQuiet_nil ?_
    rintro w1 ⟨s1, e1⟩
    have hb1 := wOf_below s1
    rw [← e1] at hb1
    clear e1 s1
    replace h1 := h1.later hb1
    replace h2 := h2.later hb1
    replace hJ := hJ.later hb1
    replace hB := bgo hB hb1
    clear hb1
    clear k4
    go_upto_region 4 with fail
    refine wp_region_cls0 ?_
    repeat (first | go_big_quiet_skip | (go_big_quiet_want; first | (refine quiet_load_ck _ rfl rfl (cls_ck h1) ?_; simp only [Act.put, List.setIfInBounds_toArray, List.set_cons_succ, List.set_cons_zero]; go_big_quiet_on) | (refine quiet_act _ rfl rfl hx.1 h2.in.cls ?_; simp only [Act.put, List.setIfInBounds_toArray, List.set_cons_succ, List.set_cons_zero]; go_big_quiet_on) | (go_big_quiet_op; first | go_big_quiet_on | go_big_quiet_call ((go_at_call 40; exact cls_of (refReady_is hrd _ ha hx.1))))))
    refine wpQuiet_nil ?_
    rintro w1 ⟨s1, e1⟩
    have hb1 := wOf_below s1
    rw [← e1] at hb1
    clear e1 s1
    replace h1 := h1.later hb1
    replace h2 := h2.later hb1
    replace hJ := hJ.later hb1
    replace hB := bgo hB hb1
    clear hb1
    go_upto_region 6 with fail
    refine wp_region_cls0 ?_
    repeat (first | go_big_quiet_skip | (go_big_quiet_want; first | (refine quiet_load_ck _ rfl rfl (cls_ck h1) ?_; simp only [Act.put, List.setIfInBounds_toArray, List.set_cons_succ, List.set_cons_zero]; go_big_quiet_on) | (refine quiet_act _ rfl rfl hx.1 h2.in.cls ?_; simp only [Act.put, List.setIfInBounds_toArray, List.set_cons_succ, List.set_cons_zero]; go_big_quiet_on) | (go_big_quiet_op; first | go_big_quiet_on | go_big_quiet_call ((go_at_call 41; exact cls_of (refHolds_v (hJ.later (wOf_below _)) hn hx.1 hkn))))))
    refine wpQuiet_nil ?_
    rintro w1 ⟨s1, e1⟩
    have hb1 := wOf_below s1
    rw [← e1] at hb1
    clear e1 s1
    replace h1 := h1.later hb1
    replace h2 := h2.later hb1
    replace hJ := hJ.later hb1
    replace hB := bgo hB hb1
    clear hb1
    have c0 := hJ.lies.cls 0 _ rfl
    have c1 := hJ.lies.cls 1 _ rfl
    go_upto_region 8 with fail
    refine wp_region_cls (by kernel_rfl) (by kernel_rfl) ?_
    repeat (first | go_big_quiet_skip | (go_big_quiet_want; first | (go_big_quiet_op; first | go_big_quiet_on | go_big_quiet_call ((fail)))))
    refine wpQuiet_nil ?_
    rintro w1 ⟨s1, e1⟩
    have hb1 := wOf_below s1
    rw [← e1] at hb1
    clear e1 s1
    replace hJ := hJ.later hb1
    replace h2 := h2.later hb1
    replace hB := bgo hB hb1
    clear hb1
    clear c0 c1 h1 hrd hkn hha hcc
    have H := hid_of' (And.intro hJ.lies (And.intro hJ.row (And.intro h2 hB)))
    have hsR := HI.out.lies.lt
    clear hJ h2 hB
    have hln : l.length + [x].length ≤ 1000000 := by simp only [List.length_singleton]; omega
    go_upto_region 10 with fail
    refine wp_region_onceD 10 (by kernel_rfl) (fun _ => none) (by kernel_rfl) (by kernel_rfl) (by decide) (fun ii u X => match ii with
      | 0 => u = .pointer (some ⟨R, 0, none⟩)
      | 1 => ∃ g, u = .slice (some ⟨g, 0, none⟩) 0 0 ∧ w1.heap.size ≤ g ∧ X.heap[g]? = some (.cells #[] 48 (0, 0))
      | 2 => u = .pointer (some ⟨R, 0, none⟩)
      | 3 => u = .pointer (some ⟨R, 0, none⟩)
      | 4 => u = .pointer (some ⟨R, 1, none⟩)
      | 5 => u = .slice a9 l.length c9
      | 6 => OwnA u l X ∧ NewB w1 u
      | 7 => u = .agg (acv x)
      | 8 => SlC X u [x] ∧ ∃ gs, u = .slice (some ⟨gs, 0, none⟩) 1 1
      | 9 => OwnA u (l ++ [x]) X ∧ NewB w1 u
      | _ => True) (fun _ => false) (fun i => i == 0 || i == 2 || i == 3 || i == 4 || i == 9) (fun _ h => absurd rfl h) (fun _ _ _ _ h => by cases h) 9 (by decide) (fun a b => Below a.heap.size a b) (fun a b => Below (w1.heap.size) a b) (fun _ _ g h => g.trans (h.mono g.size)) (fun _ h => h) (fun _ _ h g => ⟨g.os.trans h.os, g.tape.trans h.tape, g.output.trans h.output, Nat.le_trans h.size g.size, fun k hk => (g.block k hk).trans (h.block k hk)⟩) (fun _ _ g => g.size) ?_ ?_ ?_ ?_
    · intro ii u X X' hR hb
      match ii, hR with
      | 0, h => exact h
      | 1, h => exact (by obtain ⟨g, h1, h2, h3⟩ := h; exact ⟨g, h1, h2, (hb.block g (Array.getElem?_eq_some_iff.1 h3).1).trans h3⟩)
      | 2, h => exact h
      | 3, h => exact h
      | 4, h => exact h
      | 5, h => exact h
      | 6, h => exact ⟨h.1.later hb, h.2⟩
      | 7, h => exact h
      | 8, h => exact ⟨h.1.later hb, h.2⟩
      | 9, h => exact ⟨h.1.later hb, h.2⟩
      | m + 10, h => exact h
    · intro ii u X X' hne hD hR hb
      match ii, hne, hD, hR with
      | 0, hne, hD, h => exact h
      | 1, hne, hD, h => cases hD
      | 2, hne, hD, h => exact h
      | 3, hne, hD, h => exact h
      | 4, hne, hD, h => exact h
      | 5, hne, hD, h => cases hD
      | 6, hne, hD, h => cases hD
      | 7, hne, hD, h => cases hD
      | 8, hne, hD, h => cases hD
      | 9, hne, hD, h => exact absurd rfl hne
      | m + 10, _, _, h => exact h
    · intro ii o hi ho q X vals hX hC hdep hoth
      have t0 : q.tmps[0]? = some (.pointer (some ⟨R, 0, none⟩)) := by rw [hoth 0 (by kernel_rfl)]; rfl
      have t5 : q.tmps[5]? = some (.pointer (some ⟨w.heap.size + 1, 0, none⟩)) := by rw [hoth 5 (by kernel_rfl)]; rfl
      match ii, hi, ho, hC with
      | 0, _, ho, hC =>
        simp only [List.getElem?_cons_zero, Option.some.injEq] at ho
        subst ho
        unfold Oper.wp
        simp [execOp, go_sem, t0]
        exact cameB _ rfl (by decide) (Below.refl _ _) rfl (fun h => absurd h (by decide))
      | 1, _, ho, hC =>
        simp only [List.getElem?_cons_succ, List.getElem?_cons_zero, Option.some.injEq] at ho
        subst ho
        refine opw_none0 rfl ?_
        exact cameB _ rfl (by decide) (below_one _ _) ⟨X.heap.size, rfl, hX.size, heap_alloc_last X _⟩ (fun h => absurd h (by decide))
      | 2, _, ho, hC =>
        simp only [List.getElem?_cons_succ, List.getElem?_cons_zero, Option.some.injEq] at ho
        subst ho
        unfold Oper.wp
        simp [execOp, go_sem, t0]
        exact cameB _ rfl (by decide) (Below.refl _ _) rfl (fun h => absurd h (by decide))
      | 3, _, ho, hC =>
        simp only [List.getElem?_cons_succ, List.getElem?_cons_zero, Option.some.injEq] at ho
        subst ho
        obtain ⟨u2, e2⟩ := hdep ⟨2, .data⟩ (by simp) rfl _ 51 rfl rfl
        replace e2 := e2 (.inl rfl)
        rw [show vals 2 = .pointer (some ⟨R, 0, none⟩) from e2] at u2
        unfold Oper.wp
        simp [execOp, go_sem, u2]
        exact cameB _ rfl (by decide) (Below.refl _ _) rfl (fun h => absurd h (by decide))
      | 4, _, ho, hC =>
        simp only [List.getElem?_cons_succ, List.getElem?_cons_zero, Option.some.injEq] at ho
        subst ho
        obtain ⟨u3, e3⟩ := hdep ⟨3, .data⟩ (by simp) rfl _ 52 rfl rfl
        replace e3 := e3 (.inl rfl)
        rw [show vals 3 = .pointer (some ⟨R, 0, none⟩) from e3] at u3
        unfold Oper.wp
        simp [execOp, go_sem, u3]
        exact cameB _ rfl (by decide) (Below.refl _ _) rfl (fun h => absurd h (by decide))
      | 5, _, ho, hC =>
        simp only [List.getElem?_cons_succ, List.getElem?_cons_zero, Option.some.injEq] at ho
        subst ho
        obtain ⟨u4, e4⟩ := hdep ⟨4, .data⟩ (by simp) rfl _ 53 rfl rfl
        replace e4 := e4 (.inl rfl)
        rw [show vals 4 = .pointer (some ⟨R, 1, none⟩) from e4] at u4
        have cc : X.cell? ⟨R, 1, none⟩ = some (.slice a9 l.length c9) := (H.out.1.later hX).cellIs 1 rfl
        unfold Oper.wp
        simp [execOp, go_sem, u4, cc]
        exact cameB _ rfl (by decide) (Below.refl _ _) rfl (fun h => absurd h (by decide))
      | 6, _, ho, hC =>
        simp only [List.getElem?_cons_succ, List.getElem?_cons_zero, Option.some.injEq] at ho
        subst ho
        obtain ⟨u1, e1⟩ := hdep ⟨1, .data⟩ (by simp) rfl _ 50 rfl rfl
        replace e1 := e1 (.inr (.inr (by kernel_rfl)))
        obtain ⟨u5, e5⟩ := hdep ⟨5, .data⟩ (by simp) rfl _ 54 rfl rfl
        replace e5 := e5 (.inr (.inr (by kernel_rfl)))
        rw [show vals 5 = .slice a9 l.length c9 from e5] at u5
        obtain ⟨g1, e1, hg1, hc1⟩ : ∃ g, vals 1 = .slice (some ⟨g, 0, none⟩) 0 0 ∧ w1.heap.size ≤ g ∧ X.heap[g]? = some (.cells #[] 48 (0, 0)) := e1
        rw [e1] at u1
        refine opw_app0 _ _ rfl (by simp [Act.eval, u1]) (by simp [Act.eval, u5]) hc1 (H.out.2.1.later hX).sl H.out.2.1.2 (by omega) ?_
        intro v' X' q1 q2 q3
        exact cameB _ rfl (by decide) q2 ⟨q1, fun k hk => (q3 k hk).elim (fun e => by omega) (fun q => Nat.le_trans hX.size q)⟩ (fun h => absurd h (by decide))
      | 7, _, ho, hC =>
        simp only [List.getElem?_cons_succ, List.getElem?_cons_zero, Option.some.injEq] at ho
        subst ho
        exact opw_loadA _ rfl (by simp [Act.eval, t5]) hx.1 (H.out.2.2.1.later hX).in (cameB _ rfl (by decide) (Below.refl _ _) rfl (fun h => absurd h (by decide)))
      | 8, _, ho, hC =>
        simp only [List.getElem?_cons_succ, List.getElem?_cons_zero, Option.some.injEq] at ho
        subst ho
        obtain ⟨u7, e7⟩ := hdep ⟨7, .data⟩ (by simp) rfl _ 56 rfl rfl
        replace e7 := e7 (.inr (.inr (by kernel_rfl)))
        rw [show vals 7 = .agg (acv x) from e7] at u7
        refine opw_oneA (p := x) _ rfl (by simp [Act.eval, u7]) hx.1 ?_
        exact cameB _ rfl (by decide) (below_one _ _) ⟨slC_new X x 1, _, rfl⟩ (fun h => absurd h (by decide))
      | 9, _, ho, hC =>
        simp only [List.getElem?_cons_succ, List.getElem?_cons_zero, Option.some.injEq] at ho
        subst ho
        obtain ⟨u6, e6⟩ := hdep ⟨6, .data⟩ (by simp) rfl _ 55 rfl rfl
        replace e6 := e6 (.inr (.inl rfl))
        obtain ⟨u8, e8⟩ := hdep ⟨8, .data⟩ (by simp) rfl _ 57 rfl rfl
        replace e8 := e8 (.inr (.inl rfl))
        obtain ⟨q6, n6⟩ : OwnA (vals 6) l X ∧ NewB w1 (vals 6) := e6
        obtain ⟨q8, gs8, e8g⟩ : SlC X (vals 8) [x] ∧ ∃ gs, vals 8 = .slice (some ⟨gs, 0, none⟩) 1 1 := e8
        have hb := hC (.inl rfl)
        refine opw_appA _ _ rfl (by simp [Act.eval, u6]) (by simp [Act.eval, u8]) q6 q8 (AFit.one hx.1) hln ?_
        intro v' X' p1 p2 p3
        exact cameX _ rfl (newB_grow n6 p2 hb.size) ⟨p1, newB_at n6 p3 hb.size⟩ rfl
      | m + 10, hi, _, _ => exact absurd hi (by omega)
    · intro vals X hX hR _
      have e0 : vals 0 = .pointer (some ⟨R, 0, none⟩) := hR 0 (by decide) rfl
      obtain ⟨p1, n9⟩ : OwnA (vals 9) (l ++ [x]) X ∧ NewB w1 (vals 9) := hR 9 (by decide) rfl
      obtain ⟨xa, xc, e9, _, _⟩ := p1.form
      rw [List.length_append, List.length_singleton] at e9
      rw [e9] at p1 n9
      have hR5 := H.out.1.later hX
      have c5 := hR5.cellIs 1 rfl
      have f5 := hR5.froz 1
      have hs1 := H.out.2.2.2.size
      have hb5 := bgo H.out.2.2.2 hX
      have HX := hid_of' (And.intro p1 (And.intro n9 (And.intro hR5 hb5)))
      clear hR p1 n9 hX hR5 hb5
      simp only [List.drop, List.take, putAll, List.setIfInBounds_toArray, List.set_cons_succ, List.set_cons_zero, e0, e9]
      clear e0 e9
      go_wp2
      go_ret
      have s5 := ch_cell (w := X) (b := R) (k := 1) (.slice xa (l.length + 1) xc)
      refine ⟨.slice xa (l.length + 1) xc, by rw [HO.out]; rfl, ?_, fun k hk => .inr (by have := HX.out.2.1 k hk; omega), (Ch.of (S := rbS R (.slice a9 l.length c9)) HX.out.2.2.2).set (p := ⟨R, 1, none⟩) (.inl (.inl rfl)) _⟩
      rw [HO.out]
      exact ⟨HX.out.2.2.1.setc 1 _, HX.out.1.ch s5 (fun k hk e => by have := HX.out.2.1 k hk; omega)⟩
end Go.Proofs.YtlgdaaofpjpobaaDoor
