
/-
  barrowref05.Index, Fair, wrong, Of.
-/
import Derived.Test.YtjalehlmldlooaaGreatDoorZap39
import Derived.Test.YtjalehlmldlooaaGreatDoorZap30
namespace Go.Proofs.YtjalehlmldlooaaGreatDoor
open Go.RowKit Go.Extern.Stop Go.Stop Go.Extern
set_option maxRecDepth 100000

theorem wpL_loadJ {ops : Array Oper} {rest : List Oper} {o : Oper} {A : Act} {w : World} {Q : Exit → Act → World → Prop} (hgd : o.guard = none) (x : Operand) (ho : o.op = .load 32 x) {b off : Nat} (hx : A.eval x = .pointer (some ⟨b, off, none⟩)) {i j k : Int} (h : CsIn b off (idc i j k) w)
    (kk : wpList Tryz.prog ops Q rest (A.put o.dst (.agg (idc i j k))) w) : wpList Tryz.prog ops Q (o :: rest) A w :=
  wpList_plain hgd fun _ hK => by
    unfold Oper.wp execOp
    simp only [ho, hx, Instr.loadAt, Instr.sureAddr, Sem.run_bind, Sem.run_pure, Result.andThen_ok, run_loadVar_in h Tryz.underlying32 rfl (id_size i j k)]
    exact hK _ _ kk
/-- Where the element of an ID stands; -1: nowhere. -/
def ixI (l : List El) (i : Idn) : Int := match l.findIdx? fun x => decide (x.id = i) with
  | some k => (k : Int)
  | none => -1
theorem ixI_b (l : List El) (i : Idn) : -1 ≤ ixI l i ∧ ixI l i ≤ l.length := by
  unfold ixI
  cases h : l.findIdx? fun x => decide (x.id = i) with
  | none => simp only; omega
  | some k =>
    have := (List.findIdx?_eq_some_iff_getElem.1 h).1
    simp only
    omega
theorem ixI_has (l : List El) (i : Idn) : decide (0 ≤ ixI l i) = hasI l i := by
  unfold ixI hasI
  cases h : l.findIdx? fun x => decide (x.id = i) with
  | none =>
    have := List.findIdx?_eq_none_iff.1 h
    have h2 : (l.any fun x => decide (x.id = i)) = false := by
      rw [List.any_eq_false]
      intro x hx
      simpa using this x hx
    rw [h2]
    decide
  | some k =>
    obtain ⟨h1, h2, _⟩ := List.findIdx?_eq_some_iff_getElem.1 h
    have h3 : (l.any fun x => decide (x.id = i)) = true := List.any_eq_true.2 ⟨_, List.getElem_mem h1, h2⟩
    rw [h3]
    simp
theorem eqI_any (a b c x y z : Int) (w : World) : (Op.equalIn 10000 32 (.agg (idc a b c)) (.agg (idc x y z))).run Tryz.prog w = .ok (decide ((⟨a, b, c⟩ : Idn) = ⟨x, y, z⟩)) w := by
  unfold idc
  by_cases h1 : a = x
  · by_cases h2 : b = y
    · by_cases h3 : c = z
      · subst h1 h2 h3
        simp [go_sem]
      · have e3 : (c == z) = false := by rw [beq_eq_false_iff_ne]; exact h3
        subst h1 h2
        simp [go_sem, e3, h3]
    · have e2 : (b == y) = false := by rw [beq_eq_false_iff_ne]; exact h2
      subst h1
      simp [go_sem, e2, h2]
  · have e1 : (a == x) = false := by rw [beq_eq_false_iff_ne]; exact h1
    simp [go_sem, e1, h1]

theorem ixI_at {l : List El} {i : Idn} {k : Nat} {e : El} (he : l[k]? = some e) (h : e.id = i) (hno : ∀ (m : Nat) (x : El), m < k → l[m]? = some x → x.id ≠ i) : ixI l i = (k : Int) := by
  obtain ⟨hk1, hk2⟩ := List.getElem?_eq_some_iff.1 he
  unfold ixI
  have h1 : (l.findIdx? fun x => decide (x.id = i)) = some k := by
    refine List.findIdx?_eq_some_iff_getElem.2 ⟨hk1, ?_, fun j hj => ?_⟩
    · rw [hk2]; simpa using h
    · have := hno j l[j] hj (List.getElem?_eq_getElem (by omega))
      simpa using this
  rw [h1]
theorem ixI_no {l : List El} {i : Idn} (hno : ∀ (m : Nat) (x : El), m < l.length → l[m]? = some x → x.id ≠ i) : ixI l i = -1 := by
  unfold ixI
  have h1 : (l.findIdx? fun x => decide (x.id = i)) = none := by
    refine List.findIdx?_eq_none_iff.2 fun x hx => ?_
    obtain ⟨m, hm⟩ := List.getElem?_of_mem hx
    have := hno m x (List.getElem?_eq_some_iff.1 hm).1 hm
    simpa using this
  rw [h1]
set_option maxHeartbeats 2000000 in
theorem refIndex_any {w : World} {v : Value} {l : List El} (hv : SlE w v l) (i : Idn) (hn : l.length ≤ 1000000) :
    Calls Tryz.prog 70 #[v, .agg (idc i.a i.b i.c)] w fun r w' => r = .returned (.int .i64 (ixI l i)) ∧ Below w.heap.size w w' := by
  obtain ⟨a0, c0, rfl⟩ := hv.form
  have r0 := row_new w (idc i.a i.b i.c) 32
  have hB0 := below_one w (.cells (idc i.a i.b i.c) 32)
  go_enter Tryz.func70, Tryz.ntmps70
  go_upto_region 1 with fail
  change Code.wp _ _ _ _ (w.alloc (.cells (idc i.a i.b i.c) 32))
  generalize w.alloc (.cells (idc i.a i.b i.c) 32) = w0 at r0 hB0 ⊢
  go_wp2
  go_loopw [5] (fun iv wr => ∃ k : Nat, iv = .int .i64 (k : Int) ∧ k ≤ l.length ∧ (∀ (m : Nat) (x : El), m < k → l[m]? = some x → x.id ≠ i) ∧ RowAt w.heap.size (idc i.a i.b i.c) 32 wr ∧ Below w.heap.size w wr) (fun iv _ => l.length - (intOf iv).toNat)
  case atStart => exact ⟨0, rfl, Nat.zero_le _, fun m x h => absurd h (by omega), r0, hB0⟩
  case round =>
    clear r0 hB0
    obtain ⟨k, rfl, hk, hno, r0, hB⟩ := hrel
    by_cases hlt : k < l.length
    · have hki : (k : Int) < (l.length : Int) := by omega
      obtain ⟨e, he⟩ : ∃ e, l[k]? = some e := ⟨_, List.getElem?_eq_getElem hlt⟩
      rcases hv.later hB with ⟨h0, _⟩ | ⟨g, o_, c, hvv, hc⟩
      · exfalso; subst h0; simp at hlt
      simp only [Value.slice.injEq] at hvv
      obtain ⟨rfl, _, rfl⟩ := hvv
      have hce := hc k e he
      have hq := eqI_any e.ep e.rp e.no i.a i.b i.c
      by_cases q : e.id = i
      · have q2 : (⟨e.ep, e.rp, e.no⟩ : Idn) = ⟨i.a, i.b, i.c⟩ := q
        have HX := hid_of' (ixI_at he q hno)
        rw [decide_eq_true q2] at hq
        clear q q2 hno hc he
        go_upto_region 4 with fail
        refine wp_region_cls (by kernel_rfl) (by kernel_rfl) ?_
        repeat (first | go_big_quiet_skip | (go_big_quiet_want; first | (refine quiet_load_in _ _ rfl rfl (id_at hce).cls Tryz.underlying32 rfl (id_size _ _ _) ?_; simp only [Act.put, List.setIfInBounds_toArray, List.set_cons_succ, List.set_cons_zero]; go_big_quiet_on) | (refine quiet_load_in _ _ rfl rfl r0.in.cls Tryz.underlying32 rfl (id_size _ _ _) ?_; simp only [Act.put, List.setIfInBounds_toArray, List.set_cons_succ, List.set_cons_zero]; go_big_quiet_on) | (go_big_quiet_op; first | go_big_quiet_on | go_big_quiet_call ((fail)))))
        refine wpQuiet_nil ?_
        rintro w1 ⟨s1, e1⟩
        have hb1 := wOf_below s1
        rw [← e1] at hb1
        clear e1 s1
        replace hB := bgo hB hb1
        clear hb1
        go_wp2
        go_ret
        exact ⟨by rw [HX.out]; rfl, hB⟩
      · have q2 : ¬ (⟨e.ep, e.rp, e.no⟩ : Idn) = ⟨i.a, i.b, i.c⟩ := q
        have hno2 := hid_of' (fun (m : Nat) (x : El) (hm : m < k + 1) (hx : l[m]? = some x) => (show x.id ≠ i by
          by_cases e1 : m < k
          · exact hno m x e1 hx
          · obtain rfl : m = k := by omega
            rw [he] at hx
            cases hx
            exact q))
        rw [decide_eq_false q2] at hq
        clear q q2 hno hc he
        go_upto_region 4 with fail
        refine wp_region_cls (by kernel_rfl) (by kernel_rfl) ?_
        repeat (first | go_big_quiet_skip | (go_big_quiet_want; first | (refine quiet_load_in _ _ rfl rfl (id_at hce).cls Tryz.underlying32 rfl (id_size _ _ _) ?_; simp only [Act.put, List.setIfInBounds_toArray, List.set_cons_succ, List.set_cons_zero]; go_big_quiet_on) | (refine quiet_load_in _ _ rfl rfl r0.in.cls Tryz.underlying32 rfl (id_size _ _ _) ?_; simp only [Act.put, List.setIfInBounds_toArray, List.set_cons_succ, List.set_cons_zero]; go_big_quiet_on) | (go_big_quiet_op; first | go_big_quiet_on | go_big_quiet_call ((fail)))))
        refine wpQuiet_nil ?_
        rintro w1 ⟨s1, e1⟩
        have hb1 := wOf_below s1
        rw [← e1] at hb1
        clear e1 s1
        replace r0 := r0.later hb1
        replace hB := bgo hB hb1
        clear hb1
        go_wp2
        go_roundw
        case rel => exact ⟨k + 1, by go_num, by omega, hno2.out, r0, hB⟩
        case measure => simp [intOf]; omega
    · obtain rfl : k = l.length := by omega
      have HX := hid_of' (ixI_no hno)
      clear hno
      go_wp2
      go_ret
      exact ⟨by rw [HX.out]; rfl, hB⟩
theorem refFair_any (n : Int) (w : World) : Calls Tryz.prog 49 #[.int .i64 n] w fun r w' => r = .returned (.bool (fairH n)) ∧ w' = w := by
  by_cases h1 : -1099511627776 ≤ n
  · by_cases h2 : n ≤ 1099511627776
    · rw [show fairH n = true by unfold fairH; simp [h1, h2]]
      go_enter Tryz.func49, Tryz.ntmps49
      go_wp2
      go_ret
      exact ⟨rfl, rfl⟩
    · rw [show fairH n = false by unfold fairH; simp [h2]]
      go_enter Tryz.func49, Tryz.ntmps49
      go_wp2
      go_ret
      exact ⟨rfl, rfl⟩
  · rw [show fairH n = false by unfold fairH; simp [h1]]
    go_enter Tryz.func49, Tryz.ntmps49
    go_wp2
    go_ret
    exact ⟨rfl, rfl⟩
def codeK : Option Nat → Int
  | none => 0
  | some k => (k : Int) + 1
set_option maxHeartbeats 2000000 in
theorem wrong_any {w : World} {v : Value} {l : List El} (hv : SlE w v l) (e : El) (hn : l.length ≤ 1000000) :
    Calls Tryz.prog 47 #[v, .agg (ev e)] w fun r w' => r = .returned (.int .i64 (codeK (wrK l e))) ∧ Below w.heap.size w w' := by
  have r0 := row_new w (ev e) 49
  have hB := below_one w (.cells (ev e) 49)
  have HI := hid_of' (refIndex_any (hv.later hB) e.id hn)
  have HV := hid_of' (refRight_any e.ch)
  have HF := hid_of' (refFair_any e.hd)
  have hx := ixI_has l e.id
  have hxb := ixI_b l e.id
  obtain ⟨a0, c0, rfl⟩ := hv.form
  unfold El.id at HI
  go_enter Tryz.func47, Tryz.ntmps47
  go_upto_region 1 with fail
  change Code.wp _ _ _ _ (w.alloc (.cells (ev e) 49))
  generalize w.alloc (.cells (ev e) 49) = w0 at r0 hB HI ⊢
  have d3 : w0.cell? ⟨w.heap.size, 3, none⟩ = some (.int .i32 e.ch) := r0.cell 3
  have d4 : w0.cell? ⟨w.heap.size, 4, none⟩ = some (.int .i64 e.hd) := r0.cell 4
  have hid := id_at r0.in
  cases hc : rightC e.ch with
  | false =>
    have HK : Hid (wrK l e = some 2) := by show _ = _; unfold wrK flK; rw [if_pos hc]
    rw [hc] at HV
    clear HF HI hx hxb
    go_wp2_with (go_at_call 13; refine (HV.out _).mono ?_; rintro r w2 ⟨rfl, hw⟩; obtain rfl := hw.symm)
    go_ret
    exact ⟨by rw [HK.out]; rfl, hB⟩
  | true =>
    rw [hc] at HV
    cases hh : fairH e.hd with
    | false =>
      have HK : Hid (wrK l e = some 0) := by show _ = _; unfold wrK flK; rw [if_neg (by rw [hc]; decide), if_pos hh]
      rw [hh] at HF
      clear HI hx hxb
      go_wp2_with (first | (go_at_call 13; refine (HV.out _).mono ?_; rintro r w2 ⟨rfl, hw⟩; obtain rfl := hw.symm) | (go_at_call 49; refine (HF.out _).mono ?_; rintro r w2 ⟨rfl, hw⟩; obtain rfl := hw.symm))
      go_ret
      exact ⟨by rw [HK.out]; rfl, hB⟩
    | true =>
      rw [hh] at HF
      cases hq : hasI l e.id with
      | false =>
        have HK : Hid (wrK l e = none) := by show _ = _; unfold wrK flK; rw [if_neg (by rw [hc]; decide), if_neg (by rw [hh]; decide), if_neg (by rw [hq]; decide)]
        rw [hq] at hx
        have hz : ¬ 0 ≤ ixI l e.id := of_decide_eq_false hx
        clear hx hxb
        unfold El.id at hz
        generalize ixI l ⟨e.ep, e.rp, e.no⟩ = z at HI hz
        go_wp2_with (first | (refine wpL_loadJ rfl _ rfl rfl hid ?_) | (go_at_call 13; refine (HV.out _).mono ?_; rintro r w2 ⟨rfl, hw⟩; obtain rfl := hw.symm) | (go_at_call 49; refine (HF.out _).mono ?_; rintro r w2 ⟨rfl, hw⟩; obtain rfl := hw.symm) | (go_at_call 70; refine HI.out.mono ?_; rintro r w2 ⟨rfl, hb2⟩))
        go_ret
        exact ⟨by rw [HK.out]; rfl, bgo hB hb2⟩
      | true =>
        have HK : Hid (wrK l e = some 8) := by show _ = _; unfold wrK flK; rw [if_neg (by rw [hc]; decide), if_neg (by rw [hh]; decide), if_pos hq]
        rw [hq] at hx
        have hz : 0 ≤ ixI l e.id := of_decide_eq_true hx
        clear hx hxb
        unfold El.id at hz
        generalize ixI l ⟨e.ep, e.rp, e.no⟩ = z at HI hz
        go_wp2_with (first | (refine wpL_loadJ rfl _ rfl rfl hid ?_) | (go_at_call 13; refine (HV.out _).mono ?_; rintro r w2 ⟨rfl, hw⟩; obtain rfl := hw.symm) | (go_at_call 49; refine (HF.out _).mono ?_; rintro r w2 ⟨rfl, hw⟩; obtain rfl := hw.symm) | (go_at_call 70; refine HI.out.mono ?_; rintro r w2 ⟨rfl, hb2⟩))
        go_ret
        exact ⟨by rw [HK.out]; rfl, bgo hB hb2⟩
end Go.Proofs.YtjalehlmldlooaaGreatDoor
