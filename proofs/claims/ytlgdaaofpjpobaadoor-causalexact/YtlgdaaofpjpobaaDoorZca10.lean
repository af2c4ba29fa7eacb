
/-
  Rows of cells at an address; an Act; clock.Has, clock.Ready and the document's.
-/
import Derived.Test.YtlgdaaofpjpobaaDoorZca09
namespace Go.Proofs.YtlgdaaofpjpobaaDoor
open Go.RowKit
set_option maxRecDepth 100000

/-- Cells at an address. -/
def CsIn (b off : Nat) (cs : Array Value) (w : World) : Prop := b < w.heap.size ∧ ∀ (j : Nat) (v : Value), cs[j]? = some v → w.cell? ⟨b, off + j, none⟩ = some v
theorem CsIn.later {b off : Nat} {cs : Array Value} {w w' : World} (h : CsIn b off cs w) (hb : Below w.heap.size w w') : CsIn b off cs w' :=
  ⟨Nat.lt_of_lt_of_le h.1 hb.size, fun j v hv => by rw [hb.cell (p := ⟨b, off + j, none⟩) h.1]; exact h.2 j v hv⟩
theorem CsIn.cls {b off : Nat} {cs : Array Value} {w : World} (h : CsIn b off cs w) : ∀ w', (∃ n : Wld w, w' = wOf n) → CsIn b off cs w' := fun _ ⟨s, e⟩ => by rw [e]; exact h.later (wOf_below s)
theorem CsIn.sub {b off : Nat} {cs ds : Array Value} {w : World} (h : CsIn b off cs w) (k : Nat) (hk : ∀ j v, ds[j]? = some v → cs[k + j]? = some v) : CsIn b (off + k) ds w :=
  ⟨h.1, fun j v hv => by rw [Nat.add_assoc]; exact h.2 _ _ (hk j v hv)⟩
theorem CkAt.in {b : Nat} {x : List Int} {w : World} (h : CkAt b x w) : CsIn b 0 (cv x) w := ⟨h.lt, fun j v hv => by rw [Nat.zero_add, cell_of_row w b j _ _ _ h.1]; exact hv⟩

section
variable {P : Program}
theorem run_loadVar_in {w : World} {b off : Nat} {cs : Array Value} (h : CsIn b off cs w) {ty : TypeId} {d : TypeDesc} (hu : P.underlying ty = some d) (hd : (match d with | .struct _ | .array _ _ => true | _ => false) = true) (hi : (P.info? ty).map (·.size) = some cs.size) :
    (loadVar ty ⟨b, off, none⟩).run P w = .ok (.agg cs) w := by
  have hl : (loadCells ⟨b, off, none⟩ cs.toList.length).run P w = .ok cs.toList.toArray w :=
    run_loadCells_list (P := P) w ⟨b, off, none⟩ cs.toList (fun j v hv => by
      have hadd : (⟨b, off, none⟩ : Addr).add j = ⟨b, off + j, none⟩ := by unfold Addr.add; split <;> simp_all
      rw [hadd]
      exact h.2 j v (by simpa using hv))
  cases hq : P.info? ty with
  | none => simp [hq] at hi
  | some i =>
    have hs : i.size = cs.size := by simpa [hq] using hi
    have hagg : (isAgg ty).run P w = .ok true w := by
      unfold isAgg
      rw [Sem.run_bind, run_underlying hu w]
      cases d <;> simp_all
    simp only [Array.length_toList, Array.toArray_toList] at hl
    simp [loadVar, Sem.run_bind, hagg, sizeOf, typeInfo, hq, hs, hl]
theorem quiet_load_in {o : Oper} {a : Act} {C : World → Prop} {K : Act → Prop} (ty : TypeId) (x : Operand) (ho : o.op = .load ty x) {b off : Nat} (hx : a.eval x = .pointer (some ⟨b, off, none⟩)) {cs : Array Value} (h : ∀ w, C w → CsIn b off cs w)
    {d : TypeDesc} (hu : P.underlying ty = some d) (hd : (match d with | .struct _ | .array _ _ => true | _ => false) = true) (hi : (P.info? ty).map (·.size) = some cs.size)
    (k : K (a.put o.dst (.agg cs))) : o.quiet P a C K :=
  ⟨.agg cs, fun w hw => by
    unfold Oper.quietAt execOp
    simp only [ho, hx, Instr.loadAt, Instr.sureAddr, Sem.run_bind, Sem.run_pure, Result.andThen_ok, run_loadVar_in (h w hw) hu hd hi]
    exact ⟨rfl, rfl⟩, k⟩
end

/-- An Act. -/
structure Ac where
  kind : Int
  at' : Int
  char : Int
  rep : Int
  num : Int
  ck : List Int
instance : Inhabited Ac := ⟨⟨0, 0, 0, 0, 0, ck0⟩⟩
/-- Its cells. -/
def acv (x : Ac) : Array Value := #[.int .i64 x.kind, .int .i64 x.at', .int .i32 x.char, .int .i64 x.rep, .int .i64 x.num] ++ cv x.ck
theorem acv_size (x : Ac) (h : x.ck.length = 8) : (acv x).size = 13 := by simp [acv, cv_size, h]
theorem acv_rep (x : Ac) : (acv x)[3]? = some (.int .i64 x.rep) := by
  unfold acv; rw [Array.getElem?_append_left (by simp)]; rfl
theorem acv_num (x : Ac) : (acv x)[4]? = some (.int .i64 x.num) := by
  unfold acv; rw [Array.getElem?_append_left (by simp)]; rfl
theorem acv_ck (x : Ac) (j : Nat) (v : Value) (h : (cv x.ck)[j]? = some v) : (acv x)[5 + j]? = some v := by
  unfold acv
  rw [Array.getElem?_append_right (by simp)]
  simpa using h
theorem acv_en (x : Ac) (h : x.ck.length = 8) {k : Nat} (hk : k < 8) : (acv x)[5 + k]? = some (.int .i64 (en x.ck k)) := acv_ck x k _ (cv_get (by omega))

/-- Has. -/
def hasC (a : List Int) (r n : Int) : Bool := decide (0 ≤ r ∧ r < 8) && decide (1 ≤ n) && decide (n ≤ en a r.toNat)

set_option maxHeartbeats 400000 in
theorem has_any (a : List Int) (r n : Int) (w : World) (ha : a.length = 8) :
    Calls Tryd.prog 47 #[.agg (cv a), .int .i64 r, .int .i64 n] w fun e w' => e = .returned (.bool (hasC a r n)) ∧ Below w.heap.size w w' := by
  by_cases hr : 0 ≤ r ∧ r < 8
  · obtain ⟨k, rfl⟩ := Int.eq_ofNat_of_zero_le hr.1
    obtain ⟨h0, h8⟩ := hr
    have c1 := cv_get (a := a) (k := k) (by omega)
    have HV : Hid (hasC a (k : Int) n = (decide (1 ≤ n) && decide (n ≤ en a k))) := by simp [Hid, hasC, h8]
    by_cases hn : 1 ≤ n
    · go_enter Tryd.func47, Tryd.ntmps47
      go_wp2_with (go_at_call 48; refine (isRep_in _ (by omega) h8 _).mono ?_; rintro e w1 ⟨rfl, hw⟩; obtain rfl := hw.symm)
      go_ret
      exact ⟨by rw [HV.out]; simp [hn], below_one _ _⟩
    · have hn' : decide (1 ≤ n) = false := by simpa using hn
      go_enter Tryd.func47, Tryd.ntmps47
      go_wp2_with (go_at_call 48; refine (isRep_in _ (by omega) h8 _).mono ?_; rintro e w1 ⟨rfl, hw⟩; obtain rfl := hw.symm)
      go_ret
      exact ⟨by rw [HV.out]; simp [hn'], below_one _ _⟩
  · have HV : Hid (hasC a r n = false) := by simp only [Hid, hasC, decide_eq_false hr, Bool.false_and]
    go_enter Tryd.func47, Tryd.ntmps47
    go_wp2_with (go_at_call 48; refine (isRep_out _ (by omega) _).mono ?_; rintro e w1 ⟨rfl, hw⟩; obtain rfl := hw.symm)
    go_ret
    exact ⟨by rw [HV.out]; rfl, below_one _ _⟩

/-- Ready. -/
def rdyC (h : List Int) (x : Ac) : Bool := decide (0 ≤ x.rep ∧ x.rep < 8 ∧ 1 ≤ x.num ∧ en h x.rep.toNat = x.num - 1 ∧ en x.ck x.rep.toNat = x.num - 1) && cov h x.ck
theorem rdyC_no {h : List Int} {x : Ac} (hn : ¬ (0 ≤ x.rep ∧ x.rep < 8 ∧ 1 ≤ x.num ∧ en h x.rep.toNat = x.num - 1 ∧ en x.ck x.rep.toNat = x.num - 1)) : rdyC h x = false := by
  unfold rdyC; rw [decide_eq_false hn]; rfl
theorem rdyC_yes {h : List Int} {x : Ac} (hn : 0 ≤ x.rep ∧ x.rep < 8 ∧ 1 ≤ x.num ∧ en h x.rep.toNat = x.num - 1 ∧ en x.ck x.rep.toNat = x.num - 1) : rdyC h x = cov h x.ck := by
  unfold rdyC; rw [decide_eq_true hn]; exact Bool.true_and _

/-- The world behind the boxes of a clock and an Act. -/
theorem startA (w : World) {a : List Int} {x : Ac} (ha : a.length = 8) :
    CkAt w.heap.size a ((w.alloc (.cells (cv a) 44)).alloc (.cells (acv x) 48)) ∧ RowAt (w.heap.size + 1) (acv x) 48 ((w.alloc (.cells (cv a) 44)).alloc (.cells (acv x) 48)) ∧ Below w.heap.size w ((w.alloc (.cells (cv a) 44)).alloc (.cells (acv x) 48)) := by
  have h1 : RowAt (w.alloc (.cells (cv a) 44)).heap.size (acv x) 48 ((w.alloc (.cells (cv a) 44)).alloc (.cells (acv x) 48)) := heap_alloc_last _ _
  simp only [World.size_alloc] at h1
  exact ⟨(CkAt.new w ha).alloc _, h1, bgo (below_one w _) (below_one _ _)⟩
theorem RowAt.in {b : Nat} {cs : Array Value} {t : TypeId} {w : World} (h : RowAt b cs t w) : CsIn b 0 cs w := ⟨h.lt, fun j v hv => by rw [Nat.zero_add, h.cell]; exact hv⟩
theorem CkAt.cls {b : Nat} {x : List Int} {w : World} (h : CkAt b x w) {k : Nat} (hk : k < 8) (s : Wld w) : (wOf s).cell? ⟨b, k, none⟩ = some (.int .i64 (en x k)) := (h.later (wOf_below s)).cell hk

set_option maxHeartbeats 1000000 in
theorem ready_any (h : List Int) (x : Ac) (w : World) (ha : h.length = 8) (hx : x.ck.length = 8) (hlo : -9223372036854775808 ≤ x.num) (hhi : x.num ≤ 9223372036854775807) :
    Calls Tryd.prog 35 #[.agg (cv h), .agg (acv x)] w fun e w' => e = .returned (.bool (rdyC h x)) ∧ Below w.heap.size w w' := by
  have r1 := acv_rep x
  have r2 := acv_num x
  by_cases hr : 0 ≤ x.rep ∧ x.rep < 8
  · obtain ⟨k, hk⟩ := Int.eq_ofNat_of_zero_le hr.1
    obtain ⟨h0, h8⟩ := hr
    have hkt : x.rep.toNat = k := by omega
    have hk8 : k < 8 := by omega
    have hk8i : (k : Int) < 8 := by omega
    rw [hk] at r1
    by_cases hn : 1 ≤ x.num
    · by_cases e1 : en h k = x.num - 1
      · have e1' : (en h k == x.num - 1) = true := by simpa using e1
        by_cases e2 : en x.ck k = x.num - 1
        · have e2' : (en x.ck k == x.num - 1) = true := by simpa using e2
          have HV : Hid (rdyC h x = cov h x.ck) := rdyC_yes (by rw [hkt]; exact ⟨h0, h8, hn, e1, e2⟩)
          clear hk h0 h8 hkt
          clear e1 e2
          obtain ⟨h1, h2, hB⟩ := startA w (x := x) ha
          have h5 := h2.in.sub (ds := cv x.ck) 5 (fun j v hv => acv_ck x j v hv)
          rw [Nat.zero_add] at h5
          go_enter Tryd.func35, Tryd.ntmps35
          go_upto_region 5 with (go_at_call 48; refine (isRep_in _ (by omega) hk8i _).mono ?_; rintro e w1 ⟨rfl, hw⟩; obtain rfl := hw.symm)
          have c1 := h1.cls hk8
          have c2 := h2.cls (5 + k) _ (acv_en x hx hk8)
          refine wp_region_cls0 ?_
          repeat (first | go_big_quiet_skip | (go_big_quiet_want; first | (refine quiet_load_ck _ rfl rfl (cls_ck h1) ?_; simp only [Act.put, List.setIfInBounds_toArray, List.set_cons_succ, List.set_cons_zero]; go_big_quiet_on) | (refine quiet_load_in _ _ rfl rfl h5.cls Tryd.underlying44 rfl (ck_size hx) ?_; simp only [Act.put, List.setIfInBounds_toArray, List.set_cons_succ, List.set_cons_zero]; go_big_quiet_on) | (go_big_quiet_op; first | go_big_quiet_on | go_big_quiet_call ((go_at_call 49; exact cls_of (covers_any _ _ _ ha hx))))))
          refine wpQuiet_nil ?_
          rintro w1 ⟨s1, e1⟩
          have hb1 := wOf_below s1
          rw [← e1] at hb1
          clear e1 s1
          replace h1 := h1.later hb1
          replace hB := bgo hB hb1
          clear hb1
          go_wp2
          go_ret
          exact ⟨by rw [HV.out]; rfl, hB⟩
        · have e2' : (en x.ck k == x.num - 1) = false := by simpa using e2
          have HV : Hid (rdyC h x = false) := rdyC_no (by rw [hkt]; intro hh; exact e2 hh.2.2.2.2)
          clear hk h0 h8 hkt
          clear e1 e2
          obtain ⟨h1, h2, hB⟩ := startA w (x := x) ha
          have h5 := h2.in.sub (ds := cv x.ck) 5 (fun j v hv => acv_ck x j v hv)
          rw [Nat.zero_add] at h5
          go_enter Tryd.func35, Tryd.ntmps35
          go_upto_region 5 with (go_at_call 48; refine (isRep_in _ (by omega) hk8i _).mono ?_; rintro e w1 ⟨rfl, hw⟩; obtain rfl := hw.symm)
          have c1 := h1.cls hk8
          have c2 := h2.cls (5 + k) _ (acv_en x hx hk8)
          refine wp_region_cls0 ?_
          repeat (first | go_big_quiet_skip | (go_big_quiet_want; first | (refine quiet_load_ck _ rfl rfl (cls_ck h1) ?_; simp only [Act.put, List.setIfInBounds_toArray, List.set_cons_succ, List.set_cons_zero]; go_big_quiet_on) | (refine quiet_load_in _ _ rfl rfl h5.cls Tryd.underlying44 rfl (ck_size hx) ?_; simp only [Act.put, List.setIfInBounds_toArray, List.set_cons_succ, List.set_cons_zero]; go_big_quiet_on) | (go_big_quiet_op; first | go_big_quiet_on | go_big_quiet_call ((fail)))))
          refine wpQuiet_nil ?_
          rintro w1 ⟨s1, e1⟩
          have hb1 := wOf_below s1
          rw [← e1] at hb1
          clear e1 s1
          replace h1 := h1.later hb1
          replace hB := bgo hB hb1
          clear hb1
          go_wp2
          go_ret
          exact ⟨by rw [HV.out]; rfl, hB⟩
      · have e1' : (en h k == x.num - 1) = false := by simpa using e1
        have HV : Hid (rdyC h x = false) := rdyC_no (by rw [hkt]; intro hh; exact e1 hh.2.2.2.1)
        clear hk h0 h8 hkt
        clear e1
        obtain ⟨h1, h2, hB⟩ := startA w (x := x) ha
        have h5 := h2.in.sub (ds := cv x.ck) 5 (fun j v hv => acv_ck x j v hv)
        rw [Nat.zero_add] at h5
        go_enter Tryd.func35, Tryd.ntmps35
        go_upto_region 5 with (go_at_call 48; refine (isRep_in _ (by omega) hk8i _).mono ?_; rintro e w1 ⟨rfl, hw⟩; obtain rfl := hw.symm)
        have c1 := h1.cls hk8
        have c2 := h2.cls (5 + k) _ (acv_en x hx hk8)
        refine wp_region_cls0 ?_
        repeat (first | go_big_quiet_skip | (go_big_quiet_want; first | (refine quiet_load_ck _ rfl rfl (cls_ck h1) ?_; simp only [Act.put, List.setIfInBounds_toArray, List.set_cons_succ, List.set_cons_zero]; go_big_quiet_on) | (refine quiet_load_in _ _ rfl rfl h5.cls Tryd.underlying44 rfl (ck_size hx) ?_; simp only [Act.put, List.setIfInBounds_toArray, List.set_cons_succ, List.set_cons_zero]; go_big_quiet_on) | (go_big_quiet_op; first | go_big_quiet_on | go_big_quiet_call ((fail)))))
        refine wpQuiet_nil ?_
        rintro w1 ⟨s1, e1⟩
        have hb1 := wOf_below s1
        rw [← e1] at hb1
        clear e1 s1
        replace h1 := h1.later hb1
        replace hB := bgo hB hb1
        clear hb1
        go_wp2
        go_ret
        exact ⟨by rw [HV.out]; rfl, hB⟩
    · have HV : Hid (rdyC h x = false) := rdyC_no (by rw [hkt]; intro hh; exact hn hh.2.2.1)
      clear hk h0 h8 hkt
      have hn' : x.num < 1 := by omega
      obtain ⟨h1, h2, hB⟩ := startA w (x := x) ha
      go_enter Tryd.func35, Tryd.ntmps35
      go_wp2_with (go_at_call 48; refine (isRep_in _ (by omega) hk8i _).mono ?_; rintro e w1 ⟨rfl, hw⟩; obtain rfl := hw.symm)
      go_ret
      exact ⟨by rw [HV.out]; rfl, hB⟩
  · have HV : Hid (rdyC h x = false) := rdyC_no (fun hh => hr ⟨hh.1, hh.2.1⟩)
    obtain ⟨h1, h2, hB⟩ := startA w (x := x) ha
    go_enter Tryd.func35, Tryd.ntmps35
    go_wp2_with (go_at_call 48; refine (isRep_out _ (by omega) _).mono ?_; rintro e w1 ⟨rfl, hw⟩; obtain rfl := hw.symm)
    go_ret
    exact ⟨by rw [HV.out]; rfl, hB⟩

set_option maxHeartbeats 1000000 in
theorem refReady_any (h : List Int) (x : Ac) (w : World) (ha : h.length = 8) (hx : x.ck.length = 8) (hlo : -9223372036854775808 ≤ x.num) (hhi : x.num ≤ 9223372036854775807) (hf : ∀ k, k < 8 → fitsI (en h k)) :
    Calls Tryd.prog 40 #[.agg (cv h), .agg (acv x)] w fun e w' => e = .returned (.bool (rdyC h x)) ∧ Below w.heap.size w w' := by
  have r1 := acv_rep x
  have r2 := acv_num x
  by_cases hr : 0 ≤ x.rep ∧ x.rep < 8
  · obtain ⟨k, hk⟩ := Int.eq_ofNat_of_zero_le hr.1
    obtain ⟨h0, h8⟩ := hr
    have hkt : x.rep.toNat = k := by omega
    have hk8 : k < 8 := by omega
    have hk8i : (k : Int) < 8 := by omega
    rw [hk] at r1
    have hfk := hf k hk8
    unfold fitsI at hfk
    have c0 := cv_get (a := h) (k := k) (by omega)
    by_cases em : en h k = 9223372036854775807
    · have em' : (en h k == 9223372036854775807) = true := by simpa using em
      have HV : Hid (rdyC h x = false) := rdyC_no (by rw [hkt]; intro hh; have := hh.2.2.2.1; omega)
      clear hk h0 h8 hkt
      clear em
      obtain ⟨h1, h2, hB⟩ := startA w (x := x) ha
      go_enter Tryd.func40, Tryd.ntmps40
      go_wp2
      go_ret
      exact ⟨by rw [HV.out]; rfl, hB⟩
    · have em' : (en h k == 9223372036854775807) = false := by simpa using em
      by_cases hn : 1 ≤ x.num
      · by_cases e1 : x.num = en h k + 1
        · have e1' : (x.num == en h k + 1) = true := by simpa using e1
          by_cases e2 : en x.ck k = en h k
          · have e2' : (en x.ck k == en h k) = true := by simpa using e2
            have HV : Hid (rdyC h x = cov h x.ck) := rdyC_yes (by rw [hkt]; exact ⟨h0, h8, hn, by omega, by omega⟩)
            clear hk h0 h8 hkt
            clear e1 e2
            obtain ⟨h1, h2, hB⟩ := startA w (x := x) ha
            have h5 := h2.in.sub (ds := cv x.ck) 5 (fun j v hv => acv_ck x j v hv)
            rw [Nat.zero_add] at h5
            go_enter Tryd.func40, Tryd.ntmps40
            go_upto_region 4 with fail
            have c1 := h1.cls hk8
            have c2 := h2.cls (5 + k) _ (acv_en x hx hk8)
            have c3 := h2.cls 4 _ r2
            refine wp_region_cls (by kernel_rfl) (by kernel_rfl) ?_
            repeat (first | go_big_quiet_skip | (go_big_quiet_want; first | (refine quiet_load_ck _ rfl rfl (cls_ck h1) ?_; simp only [Act.put, List.setIfInBounds_toArray, List.set_cons_succ, List.set_cons_zero]; go_big_quiet_on) | (refine quiet_load_in _ _ rfl rfl h5.cls Tryd.underlying44 rfl (ck_size hx) ?_; simp only [Act.put, List.setIfInBounds_toArray, List.set_cons_succ, List.set_cons_zero]; go_big_quiet_on) | (go_big_quiet_op; first | go_big_quiet_on | go_big_quiet_call ((go_at_call 50; exact cls_of (refCovers_any _ _ _ ha hx))))))
            refine wpQuiet_nil ?_
            rintro w1 ⟨s1, e1⟩
            have hb1 := wOf_below s1
            rw [← e1] at hb1
            clear e1 s1
            replace h1 := h1.later hb1
            replace hB := bgo hB hb1
            clear hb1
            go_wp2
            go_ret
            exact ⟨by rw [HV.out]; rfl, hB⟩
          · have e2' : (en x.ck k == en h k) = false := by simpa using e2
            have HV : Hid (rdyC h x = false) := rdyC_no (by rw [hkt]; intro hh; have := hh.2.2.2.2; omega)
            clear hk h0 h8 hkt
            clear e1 e2
            obtain ⟨h1, h2, hB⟩ := startA w (x := x) ha
            have h5 := h2.in.sub (ds := cv x.ck) 5 (fun j v hv => acv_ck x j v hv)
            rw [Nat.zero_add] at h5
            go_enter Tryd.func40, Tryd.ntmps40
            go_upto_region 4 with fail
            have c1 := h1.cls hk8
            have c2 := h2.cls (5 + k) _ (acv_en x hx hk8)
            have c3 := h2.cls 4 _ r2
            refine wp_region_cls (by kernel_rfl) (by kernel_rfl) ?_
            repeat (first | go_big_quiet_skip | (go_big_quiet_want; first | (refine quiet_load_ck _ rfl rfl (cls_ck h1) ?_; simp only [Act.put, List.setIfInBounds_toArray, List.set_cons_succ, List.set_cons_zero]; go_big_quiet_on) | (refine quiet_load_in _ _ rfl rfl h5.cls Tryd.underlying44 rfl (ck_size hx) ?_; simp only [Act.put, List.setIfInBounds_toArray, List.set_cons_succ, List.set_cons_zero]; go_big_quiet_on) | (go_big_quiet_op; first | go_big_quiet_on | go_big_quiet_call ((fail)))))
            refine wpQuiet_nil ?_
            rintro w1 ⟨s1, e1⟩
            have hb1 := wOf_below s1
            rw [← e1] at hb1
            clear e1 s1
            replace h1 := h1.later hb1
            replace hB := bgo hB hb1
            clear hb1
            go_wp2
            go_ret
            exact ⟨by rw [HV.out]; rfl, hB⟩
        · have e1' : (x.num == en h k + 1) = false := by simpa using e1
          have HV : Hid (rdyC h x = false) := rdyC_no (by rw [hkt]; intro hh; have := hh.2.2.2.1; omega)
          clear hk h0 h8 hkt
          clear e1
          obtain ⟨h1, h2, hB⟩ := startA w (x := x) ha
          have h5 := h2.in.sub (ds := cv x.ck) 5 (fun j v hv => acv_ck x j v hv)
          rw [Nat.zero_add] at h5
          go_enter Tryd.func40, Tryd.ntmps40
          go_upto_region 4 with fail
          have c1 := h1.cls hk8
          have c2 := h2.cls (5 + k) _ (acv_en x hx hk8)
          have c3 := h2.cls 4 _ r2
          refine wp_region_cls (by kernel_rfl) (by kernel_rfl) ?_
          repeat (first | go_big_quiet_skip | (go_big_quiet_want; first | (refine quiet_load_ck _ rfl rfl (cls_ck h1) ?_; simp only [Act.put, List.setIfInBounds_toArray, List.set_cons_succ, List.set_cons_zero]; go_big_quiet_on) | (refine quiet_load_in _ _ rfl rfl h5.cls Tryd.underlying44 rfl (ck_size hx) ?_; simp only [Act.put, List.setIfInBounds_toArray, List.set_cons_succ, List.set_cons_zero]; go_big_quiet_on) | (go_big_quiet_op; first | go_big_quiet_on | go_big_quiet_call ((fail)))))
          refine wpQuiet_nil ?_
          rintro w1 ⟨s1, e1⟩
          have hb1 := wOf_below s1
          rw [← e1] at hb1
          clear e1 s1
          replace h1 := h1.later hb1
          replace hB := bgo hB hb1
          clear hb1
          go_wp2
          go_ret
          exact ⟨by rw [HV.out]; rfl, hB⟩
      · have hn' : decide (1 ≤ x.num) = false := by simpa using hn
        have HV : Hid (rdyC h x = false) := rdyC_no (by rw [hkt]; intro hh; exact hn hh.2.2.1)
        clear hk h0 h8 hkt
        obtain ⟨h1, h2, hB⟩ := startA w (x := x) ha
        have h5 := h2.in.sub (ds := cv x.ck) 5 (fun j v hv => acv_ck x j v hv)
        rw [Nat.zero_add] at h5
        go_enter Tryd.func40, Tryd.ntmps40
        go_upto_region 4 with fail
        have c1 := h1.cls hk8
        have c2 := h2.cls (5 + k) _ (acv_en x hx hk8)
        have c3 := h2.cls 4 _ r2
        refine wp_region_cls (by kernel_rfl) (by kernel_rfl) ?_
        repeat (first | go_big_quiet_skip | (go_big_quiet_want; first | (refine quiet_load_ck _ rfl rfl (cls_ck h1) ?_; simp only [Act.put, List.setIfInBounds_toArray, List.set_cons_succ, List.set_cons_zero]; go_big_quiet_on) | (refine quiet_load_in _ _ rfl rfl h5.cls Tryd.underlying44 rfl (ck_size hx) ?_; simp only [Act.put, List.setIfInBounds_toArray, List.set_cons_succ, List.set_cons_zero]; go_big_quiet_on) | (go_big_quiet_op; first | go_big_quiet_on | go_big_quiet_call ((fail)))))
        refine wpQuiet_nil ?_
        rintro w1 ⟨s1, e1⟩
        have hb1 := wOf_below s1
        rw [← e1] at hb1
        clear e1 s1
        replace h1 := h1.later hb1
        replace hB := bgo hB hb1
        clear hb1
        go_wp2
        go_ret
        exact ⟨by rw [HV.out]; rfl, hB⟩
  · have HV : Hid (rdyC h x = false) := rdyC_no (fun hh => hr ⟨hh.1, hh.2.1⟩)
    obtain ⟨h1, h2, hB⟩ := startA w (x := x) ha
    by_cases hneg : x.rep < 0
    · go_enter Tryd.func40, Tryd.ntmps40
      go_wp2
      go_ret
      exact ⟨by rw [HV.out]; rfl, hB⟩
    · have h8 : 8 ≤ x.rep := by omega
      go_enter Tryd.func40, Tryd.ntmps40
      go_wp2
      go_ret
      exact ⟨by rw [HV.out]; rfl, hB⟩

end Go.Proofs.YtlgdaaofpjpobaaDoor
