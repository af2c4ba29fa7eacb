
/-
  Package causal: Offer.
-/
import Derived.Test.YtlgdaaofpjpobaaDoorZca16
namespace Go.Proofs.YtlgdaaofpjpobaaDoor
open Go.RowKit Go.Maps
set_option maxRecDepth 100000

/-- append of acts to a row of one's own, at the operation. -/
theorem opw_appA {K : Act → World → Prop} {o : Oper} {A : Act} {w : World} {Q : Exit → Act → World → Prop} (s x : Operand) (ho : o.op = .call { callee := .builtin .append, args := #[s, x], argTypes := #[37, 37] })
    {v u : Value} {l m : List Ac} (hs : A.eval s = v) (hx : A.eval x = u) (hv : OwnA v l w) (hu : SlC w u m) (hm : AFit m) (hn : l.length + m.length ≤ 1000000)
    (k : ∀ v' w', OwnA v' (l ++ m) w' → w.grownBy w' v.ownBlock → At' w v v' → K (A.put o.dst v') w') : o.wp Tryd.prog A w K Q := by
  obtain ⟨i0, hi, hz0, hz1, hz2⟩ := info_parts info_a
  refine opw_app s x 37 ho 48 i0 (.agg (acv ac0)) 13 104 Tryd.underlying37 hi hz0 hz1 hz2 rfl hs hx hv.1 (hu.so hm) (acells_oneC m) (by unfold maxLen; omega) (by omega) ?_
  intro v' w' h1 h2 h3
  refine k v' w' ⟨?_, hv.2.app hm⟩ h2 h3
  rw [List.length_append, acells_app]
  exact h1
theorem opw_mapS {K : Act → World → Prop} {o : Oper} {A : Act} {w : World} {Q : Exit → Act → World → Prop} (m x y : Operand) (ho : o.op = .mapUpdate 53 m x y) {kb n : Nat} {f : Int → Int → Bool} {r k : Int} (hm : A.eval m = .map (some kb)) (hx : A.eval x = .agg (nmc r k)) (hy : A.eval y = .agg #[]) (h : MpS kb n f w) (hr : fitsI r) (hk : fitsI k) (hn : n < 1099511627776)
    (kk : ∀ w', MpS kb (n + 1) (putS f r k) w' → w.grownBy w' (some kb) → K (A.put o.dst undef) w') : o.wp Tryd.prog A w K Q := by
  obtain ⟨w', h1, h2, h3⟩ := h.put hr hk hn
  unfold Oper.wp execOp
  simp only [ho, hm, hx, hy, Sem.run_bind, h1, Result.andThen_ok, Sem.run_pure]
  exact kk w' h2 h3
theorem wpL_mapS {ops : Array Oper} {rest : List Oper} {o : Oper} {A : Act} {w : World} {Q : Exit → Act → World → Prop} (hgd : o.guard = none) (m x y : Operand) (ho : o.op = .mapUpdate 53 m x y) {kb n : Nat} {f : Int → Int → Bool} {r k : Int} (hm : A.eval m = .map (some kb)) (hx : A.eval x = .agg (nmc r k)) (hy : A.eval y = .agg #[]) (h : MpS kb n f w) (hr : fitsI r) (hk : fitsI k) (hn : n < 1099511627776)
    (kk : ∀ w', MpS kb (n + 1) (putS f r k) w' → w.grownBy w' (some kb) → wpList Tryd.prog ops Q rest (A.put o.dst undef) w') : wpList Tryd.prog ops Q (o :: rest) A w :=
  wpList_plain hgd fun _ hK => opw_mapS m x y ho hm hx hy h hr hk hn fun w' q1 q2 => hK _ _ (kk w' q1 q2)
theorem opw_delS {K : Act → World → Prop} {o : Oper} {A : Act} {w : World} {Q : Exit → Act → World → Prop} (m x : Operand) (ho : o.op = .call { callee := .builtin .delete, args := #[m, x], argTypes := #[53, 92] }) {kb n : Nat} {f : Int → Int → Bool} {r k : Int} (hm : A.eval m = .map (some kb)) (hx : A.eval x = .agg (nmc r k)) (h : MpS kb n f w) (hr : fitsI r) (hk : fitsI k)
    (kk : ∀ w', MpS kb n (delS f r k) w' → w.grownBy w' (some kb) → K (A.put o.dst (.tuple #[])) w') : o.wp Tryd.prog A w K Q := by
  obtain ⟨w', h1, h2, h3⟩ := h.del hr hk o.type
  unfold Oper.wp execOp
  simp only [ho, resolve, invoke, builtin, Sem.run_bind, Sem.run_pure, Result.andThen_ok, List.map_toArray, List.map_cons, List.map_nil, hm, hx, h1]
  exact kk w' h2 h3
theorem wpL_delS {ops : Array Oper} {rest : List Oper} {o : Oper} {A : Act} {w : World} {Q : Exit → Act → World → Prop} (hgd : o.guard = none) (m x : Operand) (ho : o.op = .call { callee := .builtin .delete, args := #[m, x], argTypes := #[53, 92] }) {kb n : Nat} {f : Int → Int → Bool} {r k : Int} (hm : A.eval m = .map (some kb)) (hx : A.eval x = .agg (nmc r k)) (h : MpS kb n f w) (hr : fitsI r) (hk : fitsI k)
    (kk : ∀ w', MpS kb n (delS f r k) w' → w.grownBy w' (some kb) → wpList Tryd.prog ops Q rest (A.put o.dst (.tuple #[])) w') : wpList Tryd.prog ops Q (o :: rest) A w :=
  wpList_plain hgd fun _ hK => opw_delS m x ho hm hx h hr hk fun w' q1 q2 => hK _ _ (kk w' q1 q2)
/-- What Offer leaves. -/
def OffQ (h : List Int) (B : Nat) (v : Value) (kb n : Nat) (m : Int) (l : List Ac) (x : Ac) (w : World) (e : Ending) (w' : World) : Prop :=
  ∃ v', e = .returned (.int .i64 (offR h m l x).1) ∧ IbAt B v' kb (n + 1) m (offR h m l x).2 w' ∧ At' w v v' ∧ Ch (ibS B v kb) w w'
theorem OffQ.stay {h : List Int} {B : Nat} {v : Value} {kb n : Nat} {m : Int} {l : List Ac} {x : Ac} {w w' : World} {c : Int} (hi : IbAt B v kb n m l w) (hb : Below w.heap.size w w') (ho : offR h m l x = (c, l)) : OffQ h B v kb n m l x w (.returned (.int .i64 c)) w' :=
  ⟨v, by rw [ho], by rw [ho]; exact (hi.later hb).mono (by omega), At'.refl _ _, Ch.of hb⟩
theorem names_put (l : List Ac) (x : Ac) (a b : Int) : putS (namesOf l) x.rep x.num a b = namesOf (l ++ [x]) a b := by
  unfold putS namesOf
  rw [List.any_append, Bool.or_comm]
  simp [eq_comm]
theorem names_no {l : List Ac} {x : Ac} (h : namesOf l x.rep x.num = false) : ∀ y ∈ l, ¬ y.one x := by
  intro y hy hone
  unfold namesOf at h
  rw [List.any_eq_false] at h
  exact h y hy (by simp [hone.1, hone.2])
set_option maxHeartbeats 4000000 in
theorem offer_any {B : Nat} {v : Value} {kb n : Nat} {m : Int} {l : List Ac} {w : World} (hI : IbAt B v kb n m l w) {h : List Int} (ha : Ck h) {x : Ac} (hx : x.Full) (hn : n < 1099511627776) :
    Calls Tryd.prog 17 #[.pointer (some ⟨B, 0, none⟩), .agg (cv h), .agg (acv x)] w (OffQ h B v kb n m l x w) := by
  obtain ⟨h1, h2, hB⟩ := startA w (x := x) ha.1
  have hJ := hI.later hB
  cases hnm : x.named
  · have HS := hid_of' (fun (w' : World) (hb : Below w.heap.size w w') => OffQ.stay (h := h) (x := x) (c := 2) hI hb (by unfold offR; rw [if_pos (.inl hnm)]))
    clear hI
    go_enter Tryd.func17, Tryd.ntmps17
    go_upto_region 1 with fail
    refine wp_region_cls0 ?_
    repeat (first | go_big_quiet_skip | (go_big_quiet_want; first | (refine quiet_load_ck _ rfl rfl (cls_ck h1) ?_; simp only [Act.put, List.setIfInBounds_toArray, List.set_cons_succ, List.set_cons_zero]; go_big_quiet_on) | (refine quiet_act _ rfl rfl hx.1 h2.in.cls ?_; simp only [Act.put, List.setIfInBounds_toArray, List.set_cons_succ, List.set_cons_zero]; go_big_quiet_on) | (go_big_quiet_op; first | go_big_quiet_on | go_big_quiet_call ((go_at_call 33; exact cls_of (isNamed_v hnm _))))))
    refine wpQuiet_nil ?_
    rintro w1 ⟨s1, e1⟩
    have hb1 := wOf_below s1
    rw [← e1] at hb1
    clear e1 s1
    replace h1 := h1.later hb1
    replace h2 := h2.later hb1
    replace hJ := hJ.later hb1
    replace hB := bgo hB hb1
    clear hb1
    go_wp2
    go_ret
    exact HS.out _ hB
  cases hha : hasA h x
  case true =>
    have HS := hid_of' (fun (w' : World) (hb : Below w.heap.size w w') => OffQ.stay (h := h) (x := x) (c := 2) hI hb (by unfold offR; rw [if_pos (.inr hha)]))
    clear hI
    go_enter Tryd.func17, Tryd.ntmps17
    go_upto_region 1 with fail
    refine wp_region_cls0 ?_
    repeat (first | go_big_quiet_skip | (go_big_quiet_want; first | (refine quiet_load_ck _ rfl rfl (cls_ck h1) ?_; simp only [Act.put, List.setIfInBounds_toArray, List.set_cons_succ, List.set_cons_zero]; go_big_quiet_on) | (refine quiet_act _ rfl rfl hx.1 h2.in.cls ?_; simp only [Act.put, List.setIfInBounds_toArray, List.set_cons_succ, List.set_cons_zero]; go_big_quiet_on) | (go_big_quiet_op; first | go_big_quiet_on | go_big_quiet_call ((first | (go_at_call 33; exact cls_of (isNamed_v hnm _)) | (go_at_call 34; exact cls_of (hasA_is hha _ ha.1)))))))
    refine wpQuiet_nil ?_
    rintro w1 ⟨s1, e1⟩
    have hb1 := wOf_below s1
    rw [← e1] at hb1
    clear e1 s1
    replace h1 := h1.later hb1
    replace h2 := h2.later hb1
    replace hJ := hJ.later hb1
    replace hB := bgo hB hb1
    clear hb1
    go_wp2
    go_ret
    exact HS.out _ hB
  have hno1 : ¬ (x.named = false ∨ hasA h x = true) := by rw [hnm, hha]; simp
  cases hrd : rdyC h x
  case true =>
    have HS := hid_of' (fun (w' : World) (hb : Below w.heap.size w w') => OffQ.stay (h := h) (x := x) (c := 1) hI hb (by unfold offR; rw [if_neg hno1, if_pos hrd]))
    clear hI hno1
    go_enter Tryd.func17, Tryd.ntmps17
    go_upto_region 1 with fail
    refine wp_region_cls0 ?_
    repeat (first | go_big_quiet_skip | (go_big_quiet_want; first | (refine quiet_load_ck _ rfl rfl (cls_ck h1) ?_; simp only [Act.put, List.setIfInBounds_toArray, List.set_cons_succ, List.set_cons_zero]; go_big_quiet_on) | (refine quiet_act _ rfl rfl hx.1 h2.in.cls ?_; simp only [Act.put, List.setIfInBounds_toArray, List.set_cons_succ, List.set_cons_zero]; go_big_quiet_on) | (go_big_quiet_op; first | go_big_quiet_on | go_big_quiet_call ((first | (go_at_call 33; exact cls_of (isNamed_v hnm _)) | (go_at_call 34; exact cls_of (hasA_is hha _ ha.1)))))))
    refine wpQuiet_nil ?_
    rintro w1 ⟨s1, e1⟩
    have hb1 := wOf_below s1
    rw [← e1] at hb1
    clear e1 s1
    replace h1 := h1.later hb1
    replace h2 := h2.later hb1
    replace hJ := hJ.later hb1
    replace hB := bgo hB hb1
    clear hb1
    go_upto_region 3 with fail
    refine wp_region_cls0 ?_
    repeat (first | go_big_quiet_skip | (go_big_quiet_want; first | (refine quiet_load_ck _ rfl rfl (cls_ck h1) ?_; simp only [Act.put, List.setIfInBounds_toArray, List.set_cons_succ, List.set_cons_zero]; go_big_quiet_on) | (refine quiet_act _ rfl rfl hx.1 h2.in.cls ?_; simp only [Act.put, List.setIfInBounds_toArray, List.set_cons_succ, List.set_cons_zero]; go_big_quiet_on) | (go_big_quiet_op; first | go_big_quiet_on | go_big_quiet_call ((go_at_call 35; exact cls_of (ready_is hrd _ ha.1 hx.1))))))
    refine wpQuiet_nil ?_
    rintro w1 ⟨s1, e1⟩
    have hb1 := wOf_below s1
    rw [← e1] at hb1
    clear e1 s1
    replace h1 := h1.later hb1
    replace h2 := h2.later hb1
    replace hJ := hJ.later hb1
    replace hB := bgo hB hb1
    clear hb1
    go_wp2
    go_ret
    exact HS.out _ hB
  cases hkn : namesOf l x.rep x.num
  case true =>
    have HS := hid_of' (fun (w' : World) (hb : Below w.heap.size w w') => OffQ.stay (h := h) (x := x) (c := 4) hI hb (by unfold offR; rw [if_neg hno1, if_neg (by rw [hrd]; decide), if_pos hkn]))
    clear hI hno1
    go_enter Tryd.func17, Tryd.ntmps17
    go_upto_region 1 with fail
    refine wp_region_cls0 ?_
    repeat (first | go_big_quiet_skip | (go_big_quiet_want; first | (refine quiet_load_ck _ rfl rfl (cls_ck h1) ?_; simp only [Act.put, List.setIfInBounds_toArray, List.set_cons_succ, List.set_cons_zero]; go_big_quiet_on) | (refine quiet_act _ rfl rfl hx.1 h2.in.cls ?_; simp only [Act.put, List.setIfInBounds_toArray, List.set_cons_succ, List.set_cons_zero]; go_big_quiet_on) | (go_big_quiet_op; first | go_big_quiet_on | go_big_quiet_call ((first | (go_at_call 33; exact cls_of (isNamed_v hnm _)) | (go_at_call 34; exact cls_of (hasA_is hha _ ha.1)))))))
    refine wpQuiet_nil ?_
    rintro w1 ⟨s1, e1⟩
    have hb1 := wOf_below s1
    rw [← e1] at hb1
    clear e1 s1
    replace h1 := h1.later hb1
    replace h2 := h2.later hb1
    replace hJ := hJ.later hb1
    replace hB := bgo hB hb1
    clear hb1
    go_upto_region 3 with fail
    refine wp_region_cls0 ?_
    repeat (first | go_big_quiet_skip | (go_big_quiet_want; first | (refine quiet_load_ck _ rfl rfl (cls_ck h1) ?_; simp only [Act.put, List.setIfInBounds_toArray, List.set_cons_succ, List.set_cons_zero]; go_big_quiet_on) | (refine quiet_act _ rfl rfl hx.1 h2.in.cls ?_; simp only [Act.put, List.setIfInBounds_toArray, List.set_cons_succ, List.set_cons_zero]; go_big_quiet_on) | (go_big_quiet_op; first | go_big_quiet_on | go_big_quiet_call ((go_at_call 35; exact cls_of (ready_is hrd _ ha.1 hx.1))))))
    refine wpQuiet_nil ?_
    rintro w1 ⟨s1, e1⟩
    have hb1 := wOf_below s1
    rw [← e1] at hb1
    clear e1 s1
    replace h1 := h1.later hb1
    replace h2 := h2.later hb1
    replace hJ := hJ.later hb1
    replace hB := bgo hB hb1
    clear hb1
    go_upto_region 5 with fail
    refine wp_region_cls0 ?_
    repeat (first | go_big_quiet_skip | (go_big_quiet_want; first | (refine quiet_load_ck _ rfl rfl (cls_ck h1) ?_; simp only [Act.put, List.setIfInBounds_toArray, List.set_cons_succ, List.set_cons_zero]; go_big_quiet_on) | (refine quiet_act _ rfl rfl hx.1 h2.in.cls ?_; simp only [Act.put, List.setIfInBounds_toArray, List.set_cons_succ, List.set_cons_zero]; go_big_quiet_on) | (go_big_quiet_op; first | go_big_quiet_on | go_big_quiet_call ((go_at_call 36; exact cls_of (holds_v (hJ.later (wOf_below _)) hx hkn))))))
    refine wpQuiet_nil ?_
    rintro w1 ⟨s1, e1⟩
    have hb1 := wOf_below s1
    rw [← e1] at hb1
    clear e1 s1
    replace h1 := h1.later hb1
    replace h2 := h2.later hb1
    replace hJ := hJ.later hb1
    replace hB := bgo hB hb1
    clear hb1
    go_wp2
    go_ret
    exact HS.out _ hB
  obtain ⟨a9, c9, rfl, _⟩ := hI.slice
  by_cases hfull : m ≤ (l.length : Int)
  · have HS := hid_of' (fun (w' : World) (hb : Below w.heap.size w w') => OffQ.stay (h := h) (x := x) (c := 5) hI hb (by unfold offR; rw [if_neg hno1, if_neg (by rw [hrd]; decide), if_neg (by rw [hkn]; decide), if_pos hfull]))
    clear hI hno1
    go_enter Tryd.func17, Tryd.ntmps17
    go_upto_region 1 with fail
    refine wp_region_cls0 ?_
    repeat (first | go_big_quiet_skip | (go_big_quiet_want; first | (refine quiet_load_ck _ rfl rfl (cls_ck h1) ?_; simp only [Act.put, List.setIfInBounds_toArray, List.set_cons_succ, List.set_cons_zero]; go_big_quiet_on) | (refine quiet_act _ rfl rfl hx.1 h2.in.cls ?_; simp only [Act.put, List.setIfInBounds_toArray, List.set_cons_succ, List.set_cons_zero]; go_big_quiet_on) | (go_big_quiet_op; first | go_big_quiet_on | go_big_quiet_call ((first | (go_at_call 33; exact cls_of (isNamed_v hnm _)) | (go_at_call 34; exact cls_of (hasA_is hha _ ha.1)))))))
    refine wpQuiet_nil ?_
    rintro w1 ⟨s1, e1⟩
    have hb1 := wOf_below s1
    rw [← e1] at hb1
    clear e1 s1
    replace h1 := h1.later hb1
    replace h2 := h2.later hb1
    replace hJ := hJ.later hb1
    replace hB := bgo hB hb1
    clear hb1
    go_upto_region 3 with fail
    refine wp_region_cls0 ?_
    repeat (first | go_big_quiet_skip | (go_big_quiet_want; first | (refine quiet_load_ck _ rfl rfl (cls_ck h1) ?_; simp only [Act.put, List.setIfInBounds_toArray, List.set_cons_succ, List.set_cons_zero]; go_big_quiet_on) | (refine quiet_act _ rfl rfl hx.1 h2.in.cls ?_; simp only [Act.put, List.setIfInBounds_toArray, List.set_cons_succ, List.set_cons_zero]; go_big_quiet_on) | (go_big_quiet_op; first | go_big_quiet_on | go_big_quiet_call ((go_at_call 35; exact cls_of (ready_is hrd _ ha.1 hx.1))))))
    refine wpQuiet_nil ?_
    rintro w1 ⟨s1, e1⟩
    have hb1 := wOf_below s1
    rw [← e1] at hb1
    clear e1 s1
    replace h1 := h1.later hb1
    replace h2 := h2.later hb1
    replace hJ := hJ.later hb1
    replace hB := bgo hB hb1
    clear hb1
    go_upto_region 5 with fail
    refine wp_region_cls0 ?_
    repeat (first | go_big_quiet_skip | (go_big_quiet_want; first | (refine quiet_load_ck _ rfl rfl (cls_ck h1) ?_; simp only [Act.put, List.setIfInBounds_toArray, List.set_cons_succ, List.set_cons_zero]; go_big_quiet_on) | (refine quiet_act _ rfl rfl hx.1 h2.in.cls ?_; simp only [Act.put, List.setIfInBounds_toArray, List.set_cons_succ, List.set_cons_zero]; go_big_quiet_on) | (go_big_quiet_op; first | go_big_quiet_on | go_big_quiet_call ((go_at_call 36; exact cls_of (holds_v (hJ.later (wOf_below _)) hx hkn))))))
    refine wpQuiet_nil ?_
    rintro w1 ⟨s1, e1⟩
    have hb1 := wOf_below s1
    rw [← e1] at hb1
    clear e1 s1
    replace h1 := h1.later hb1
    replace h2 := h2.later hb1
    replace hJ := hJ.later hb1
    replace hB := bgo hB hb1
    clear hb1
    have c0 := hJ.lies.cls 0 _ rfl
    have c1 := hJ.lies.cls 1 _ rfl
    go_upto_region 7 with fail
    refine wp_region_cls (by kernel_rfl) (by kernel_rfl) ?_
    repeat (first | go_big_quiet_skip | (go_big_quiet_want; first | (go_big_quiet_op; first | go_big_quiet_on | go_big_quiet_call ((fail)))))
    refine wpQuiet_nil ?_
    rintro w1 ⟨s1, e1⟩
    have hb1 := wOf_below s1
    rw [← e1] at hb1
    clear e1 s1
    replace hJ := hJ.later hb1
    replace hB := bgo hB hb1
    clear hb1
    go_wp2
    go_ret
    exact HS.out _ hB
  · have HO : Hid (offR h m l x = (3, l ++ [x])) := by unfold Hid offR; rw [if_neg hno1, if_neg (by rw [hrd]; decide), if_neg (by rw [hkn]; decide), if_neg hfull]
    have HI := hid_of' (And.intro hI (And.intro (names_no hkn) hfull))
    clear hI hno1
    go_enter Tryd.func17, Tryd.ntmps17
    go_upto_region 1 with fail
    refine wp_region_cls0 ?_
    repeat (first | go_big_quiet_skip | (go_big_quiet_want; first | (refine quiet_load_ck _ rfl rfl (cls_ck h1) ?_; simp only [Act.put, List.setIfInBounds_toArray, List.set_cons_succ, List.set_cons_zero]; go_big_quiet_on) | (refine quiet_act _ rfl rfl hx.1 h2.in.cls ?_; simp only [Act.put, List.setIfInBounds_toArray, List.set_cons_succ, List.set_cons_zero]; go_big_quiet_on) | (go_big_quiet_op; first | go_big_quiet_on | go_big_quiet_call ((first | (go_at_call 33; exact cls_of (isNamed_v hnm _)) | (go_at_call 34; exact cls_of (hasA_is hha _ ha.1)))))))
    refine wpQuiet_nil ?_
    rintro w1 ⟨s1, e1⟩
    have hb1 := wOf_below s1
    rw [← e1] at hb1
    clear e1 s1
    replace h1 := h1.later hb1
    replace h2 := h2.later hb1
    replace hJ := hJ.later hb1
    replace hB := bgo hB hb1
    clear hb1
    go_upto_region 3 with fail
    refine wp_region_cls0 ?_
    repeat (first | go_big_quiet_skip | (go_big_quiet_want; first | (refine quiet_load_ck _ rfl rfl (cls_ck h1) ?_; simp only [Act.put, List.setIfInBounds_toArray, List.set_cons_succ, List.set_cons_zero]; go_big_quiet_on) | (refine quiet_act _ rfl rfl hx.1 h2.in.cls ?_; simp only [Act.put, List.setIfInBounds_toArray, List.set_cons_succ, List.set_cons_zero]; go_big_quiet_on) | (go_big_quiet_op; first | go_big_quiet_on | go_big_quiet_call ((go_at_call 35; exact cls_of (ready_is hrd _ ha.1 hx.1))))))
    refine wpQuiet_nil ?_
    rintro w1 ⟨s1, e1⟩
    have hb1 := wOf_below s1
    rw [← e1] at hb1
    clear e1 s1
    replace h1 := h1.later hb1
    replace h2 := h2.later hb1
    replace hJ := hJ.later hb1
    replace hB := bgo hB hb1
    clear hb1
    go_upto_region 5 with fail
    refine wp_region_cls0 ?_
    repeat (first | go_big_quiet_skip | (go_big_quiet_want; first | (refine quiet_load_ck _ rfl rfl (cls_ck h1) ?_; simp only [Act.put, List.setIfInBounds_toArray, List.set_cons_succ, List.set_cons_zero]; go_big_quiet_on) | (refine quiet_act _ rfl rfl hx.1 h2.in.cls ?_; simp only [Act.put, List.setIfInBounds_toArray, List.set_cons_succ, List.set_cons_zero]; go_big_quiet_on) | (go_big_quiet_op; first | go_big_quiet_on | go_big_quiet_call ((go_at_call 36; exact cls_of (holds_v (hJ.later (wOf_below _)) hx hkn))))))
    refine wpQuiet_nil ?_
    rintro w1 ⟨s1, e1⟩
    have hb1 := wOf_below s1
    rw [← e1] at hb1
    clear e1 s1
    replace h1 := h1.later hb1
    replace h2 := h2.later hb1
    replace hJ := hJ.later hb1
    replace hB := bgo hB hb1
    clear hb1
    have c0 := hJ.lies.cls 0 _ rfl
    have c1 := hJ.lies.cls 1 _ rfl
    go_upto_region 7 with fail
    refine wp_region_cls (by kernel_rfl) (by kernel_rfl) ?_
    repeat (first | go_big_quiet_skip | (go_big_quiet_want; first | (go_big_quiet_op; first | go_big_quiet_on | go_big_quiet_call ((fail)))))
    refine wpQuiet_nil ?_
    rintro w1 ⟨s1, e1⟩
    have hb1 := wOf_below s1
    rw [← e1] at hb1
    clear e1 s1
    replace hJ := hJ.later hb1
    replace h2 := h2.later hb1
    replace hB := bgo hB hb1
    clear hb1
    clear c0 c1 h1 hrd hkn hha hnm
    have H := hid_of' hJ
    have HBX := hid_of' h2
    have HB := hid_of' hB
    clear hJ h2 hB
    go_upto_region 9 with fail
    refine wp_region_tail 7 (by kernel_rfl) (fun _ => none) (by kernel_rfl) (by kernel_rfl) (by decide) (fun i u X => match i with
      | 0 => u = .pointer (some ⟨B, 0, none⟩)
      | 1 => u = .pointer (some ⟨B, 0, none⟩)
      | 2 => u = .pointer (some ⟨B, 2, none⟩)
      | 3 => u = .map (some kb)
      | 4 => u = .agg (acv x)
      | 5 => u = .agg (nmc x.rep x.num)
      | 6 => u = .agg #[]
      | _ => True) (fun _ => false) (fun _ _ _ _ h => by cases h) ?_ ?_ ?_
    · intro i u X X' hR hb
      match i, hR with
      | 0, h => exact h
      | 1, h => exact h
      | 2, h => exact h
      | 3, h => exact h
      | 4, h => exact h
      | 5, h => exact h
      | 6, h => exact h
      | m + 7, h => exact h
    · intro i o hi ho q X vals hX hdep hoth
      have t0 : q.tmps[0]? = some (.pointer (some ⟨B, 0, none⟩)) := by rw [hoth 0 (by kernel_rfl)]; rfl
      have t5 : q.tmps[5]? = some (.pointer (some ⟨w.heap.size + 1, 0, none⟩)) := by rw [hoth 5 (by kernel_rfl)]; rfl
      match i, hi, ho with
      | 0, _, ho =>
        simp only [List.getElem?_cons_zero, Option.some.injEq] at ho
        subst ho
        unfold Oper.wp
        simp [execOp, go_sem, t0]
        exact came _ rfl (Below.refl _ _) rfl (fun h => absurd h (by decide))
      | 1, _, ho =>
        simp only [List.getElem?_cons_succ, List.getElem?_cons_zero, Option.some.injEq] at ho
        subst ho
        obtain ⟨u0, e0⟩ := hdep ⟨0, .data⟩ (by simp) rfl _ 35 rfl rfl
        rw [show vals 0 = .pointer (some ⟨B, 0, none⟩) from e0] at u0
        unfold Oper.wp
        simp [execOp, go_sem, u0]
        exact came _ rfl (Below.refl _ _) rfl (fun h => absurd h (by decide))
      | 2, _, ho =>
        simp only [List.getElem?_cons_succ, List.getElem?_cons_zero, Option.some.injEq] at ho
        subst ho
        obtain ⟨u1, e1⟩ := hdep ⟨1, .data⟩ (by simp) rfl _ 36 rfl rfl
        rw [show vals 1 = .pointer (some ⟨B, 0, none⟩) from e1] at u1
        unfold Oper.wp
        simp [execOp, go_sem, u1]
        exact came _ rfl (Below.refl _ _) rfl (fun h => absurd h (by decide))
      | 3, _, ho =>
        simp only [List.getElem?_cons_succ, List.getElem?_cons_zero, Option.some.injEq] at ho
        subst ho
        obtain ⟨u2, e2⟩ := hdep ⟨2, .data⟩ (by simp) rfl _ 37 rfl rfl
        rw [show vals 2 = .pointer (some ⟨B, 2, none⟩) from e2] at u2
        have cc : X.cell? ⟨B, 2, none⟩ = some (.map (some kb)) := (H.out.lies.later hX).cellIs 2 rfl
        unfold Oper.wp
        simp [execOp, go_sem, u2, cc]
        exact came _ rfl (Below.refl _ _) rfl (fun h => absurd h (by decide))
      | 4, _, ho =>
        simp only [List.getElem?_cons_succ, List.getElem?_cons_zero, Option.some.injEq] at ho
        subst ho
        exact opw_loadA _ rfl (by simp [Act.eval, t5]) hx.1 (HBX.out.later hX).in (came _ rfl (Below.refl _ _) rfl (fun h => absurd h (by decide)))
      | 5, _, ho =>
        simp only [List.getElem?_cons_succ, List.getElem?_cons_zero, Option.some.injEq] at ho
        subst ho
        obtain ⟨u4, e4⟩ := hdep ⟨4, .data⟩ (by simp) rfl _ 39 rfl rfl
        rw [show vals 4 = .agg (acv x) from e4] at u4
        unfold Oper.wp
        simp [go_sem, u4]
        refine (nameOf_is x X).mono ?_
        rintro r X1 ⟨rfl, hb1⟩
        exact came _ rfl hb1 rfl (fun h => absurd h (by decide))
      | 6, _, ho =>
        simp only [List.getElem?_cons_succ, List.getElem?_cons_zero, Option.some.injEq] at ho
        subst ho
        unfold Oper.wp
        simp [execOp, go_sem, ]
        exact came _ rfl (Below.refl _ _) rfl (fun h => absurd h (by decide))
      | m + 7, hi, _ => exact absurd hi (by omega)
    · intro vals X hX hR _
      have e3 : vals 3 = .map (some kb) := hR 3 (by decide)
      have e5 : vals 5 = .agg (nmc x.rep x.num) := hR 5 (by decide)
      have e6 : vals 6 = .agg #[] := hR 6 (by decide)
      have hJ := H.out.later hX
      have hbx := HBX.out.later hX
      have hBX := bgo HB.out hX
      have HX := hid_of' (And.intro hJ (And.intro hbx hBX))
      clear hR hX hJ hbx hBX H HBX HB
      simp only [List.drop, List.take, putAll, List.setIfInBounds_toArray, List.set_cons_succ, List.set_cons_zero, e3, e5, e6]
      clear e3 e5 e6
      go_wp2_with (refine wpL_mapS rfl (.tmp 38) (.tmp 40) (.tmp 41) rfl rfl rfl rfl HX.out.1.map hx.2 hx.1.2 hn ?_; intro w2 hm2 hg2)
      have hk1 := HX.out.1.neB
      have hk2 := HX.out.1.map.ne HX.out.2.1
      have hk3 := HX.out.1.neV
      have cg := grown_ch hg2
      have r1 := HX.out.1.lies.ch cg (fun e => hk1 (Option.some.inj e))
      have r2 := HX.out.2.1.ch cg (fun e => hk2 (Option.some.inj e))
      have r3 := HX.out.1.row.ch cg (fun k hk e => (hk3 k hk).1 (Option.some.inj e))
      have hvl : ∀ k, Value.ownBlock (.slice a9 l.length c9) = some k → k < w.heap.size := HI.out.1.row.lt
      have hs0 := HX.out.2.2.size
      have hs2 := hg2.size
      have hBR : ¬ Value.ownBlock (.slice a9 l.length c9) = some B := fun e => (hk3 B e).2 rfl
      have hXR : ¬ Value.ownBlock (.slice a9 l.length c9) = some (w.heap.size + 1) := fun e => by have := hvl _ e; omega
      have HV : Hid (∀ k, Value.ownBlock (.slice a9 l.length c9) = some k → k < w2.heap.size) := fun k hk => by have := hvl k hk; omega
      have hll : l.length ≤ 256 := by have := HI.out.1.room; have := HI.out.1.most; omega
      have cw : Ch (ibS B (.slice a9 l.length c9) kb) w w2 := (Ch.of HX.out.2.2).grown hg2 (fun k hk => .inl (.inr (.inl (Option.some.inj hk).symm)))
      have hkb := HI.out.1.map.lt
      have H2 := hid_of' (And.intro r1 (And.intro r2 (And.intro r3 (And.intro hm2 cw))))
      have HK := hid_of' (And.intro hk1 (And.intro hk3 hkb))
      clear r1 r2 r3 hm2 cw cg hk1 hk2 hk3 hg2 hs0 hkb HX hvl
      go_upto_region 10 with fail
      refine wp_region_once 8 (by kernel_rfl) (fun _ => none) (by kernel_rfl) (by kernel_rfl) (by decide) (fun i u X => match i with
        | 0 => u = .pointer (some ⟨B, 0, none⟩)
        | 1 => u = .pointer (some ⟨B, 0, none⟩)
        | 2 => u = .pointer (some ⟨B, 0, none⟩)
        | 3 => u = .pointer (some ⟨B, 1, none⟩)
        | 4 => u = .slice a9 l.length c9
        | 5 => u = .agg (acv x)
        | 6 => ∃ gs, u = .slice (some ⟨gs, 0, none⟩) 1 1 ∧ w2.heap.size ≤ gs ∧ SlC X u [x]
        | 7 => OwnA u (l ++ [x]) X ∧ At' w2 (.slice a9 l.length c9) u
        | _ => True) (fun _ => false) (fun _ _ _ _ h => by cases h) 7 (by decide) (fun a b => World.grownBy a b (Value.ownBlock (.slice a9 l.length c9))) (fun a b => World.grownBy a b (Value.ownBlock (.slice a9 l.length c9))) (fun _ _ g h => grown_later g h) (fun _ h => grown_of h) (fun _ _ h g => grown_first h g) (fun _ _ g => g.size) ?_ ?_ ?_ ?_
      · intro i u X X' hR hb
        match i, hR with
        | 0, h => exact h
        | 1, h => exact h
        | 2, h => exact h
        | 3, h => exact h
        | 4, h => exact h
        | 5, h => exact h
        | 6, h => exact (by obtain ⟨gs, h1, h2, h3⟩ := h; exact ⟨gs, h1, h2, h3.later hb⟩)
        | 7, h => exact ⟨h.1.later hb, h.2⟩
        | m + 8, h => exact h
      · intro i u X X' hne hR hb
        match i, hne, hR with
        | 0, hne, h => exact h
        | 1, hne, h => exact h
        | 2, hne, h => exact h
        | 3, hne, h => exact h
        | 4, hne, h => exact h
        | 5, hne, h => exact h
        | 6, hne, h => exact (by obtain ⟨gs, rfl, h2, h3⟩ := h; exact ⟨gs, rfl, h2, h3.ch (grown_ch hb) (fun a n k e q => by cases e; have := HV.out gs q; omega)⟩)
        | 7, hne, h => exact absurd rfl hne
        | m + 8, _, h => exact h
      · intro i o hi ho q X vals hX hC hdep hoth
        have t0 : q.tmps[0]? = some (.pointer (some ⟨B, 0, none⟩)) := by rw [hoth 0 (by kernel_rfl)]; rfl
        have t5 : q.tmps[5]? = some (.pointer (some ⟨w.heap.size + 1, 0, none⟩)) := by rw [hoth 5 (by kernel_rfl)]; rfl
        match i, hi, ho, hC with
        | 0, _, ho, hC =>
          simp only [List.getElem?_cons_zero, Option.some.injEq] at ho
          subst ho
          unfold Oper.wp
          simp [execOp, go_sem, t0]
          exact cameB _ rfl (by decide) (Below.refl _ _) rfl (fun h => absurd h (by decide))
        | 1, _, ho, hC =>
          simp only [List.getElem?_cons_succ, List.getElem?_cons_zero, Option.some.injEq] at ho
          subst ho
          unfold Oper.wp
          simp [execOp, go_sem, t0]
          exact cameB _ rfl (by decide) (Below.refl _ _) rfl (fun h => absurd h (by decide))
        | 2, _, ho, hC =>
          simp only [List.getElem?_cons_succ, List.getElem?_cons_zero, Option.some.injEq] at ho
          subst ho
          obtain ⟨u1, e1⟩ := hdep ⟨1, .data⟩ (by simp) rfl _ 43 rfl rfl
          rw [show vals 1 = .pointer (some ⟨B, 0, none⟩) from e1] at u1
          unfold Oper.wp
          simp [execOp, go_sem, u1]
          exact cameB _ rfl (by decide) (Below.refl _ _) rfl (fun h => absurd h (by decide))
        | 3, _, ho, hC =>
          simp only [List.getElem?_cons_succ, List.getElem?_cons_zero, Option.some.injEq] at ho
          subst ho
          obtain ⟨u2, e2⟩ := hdep ⟨2, .data⟩ (by simp) rfl _ 44 rfl rfl
          rw [show vals 2 = .pointer (some ⟨B, 0, none⟩) from e2] at u2
          unfold Oper.wp
          simp [execOp, go_sem, u2]
          exact cameB _ rfl (by decide) (Below.refl _ _) rfl (fun h => absurd h (by decide))
        | 4, _, ho, hC =>
          simp only [List.getElem?_cons_succ, List.getElem?_cons_zero, Option.some.injEq] at ho
          subst ho
          obtain ⟨u3, e3⟩ := hdep ⟨3, .data⟩ (by simp) rfl _ 45 rfl rfl
          rw [show vals 3 = .pointer (some ⟨B, 1, none⟩) from e3] at u3
          have cc : X.cell? ⟨B, 1, none⟩ = some (.slice a9 l.length c9) := (RowAt.grow H2.out.1 hX hBR).cellIs 1 rfl
          unfold Oper.wp
          simp [execOp, go_sem, u3, cc]
          exact cameB _ rfl (by decide) (Below.refl _ _) rfl (fun h => absurd h (by decide))
        | 5, _, ho, hC =>
          simp only [List.getElem?_cons_succ, List.getElem?_cons_zero, Option.some.injEq] at ho
          subst ho
          exact opw_loadA _ rfl (by simp [Act.eval, t5]) hx.1 (RowAt.grow H2.out.2.1 hX hXR).in (cameB _ rfl (by decide) (Below.refl _ _) rfl (fun h => absurd h (by decide)))
        | 6, _, ho, hC =>
          simp only [List.getElem?_cons_succ, List.getElem?_cons_zero, Option.some.injEq] at ho
          subst ho
          obtain ⟨u5, e5⟩ := hdep ⟨5, .data⟩ (by simp) rfl _ 47 rfl rfl
          rw [show vals 5 = .agg (acv x) from e5] at u5
          have hgx := hX.size
          refine opw_oneA (p := x) _ rfl (by simp [Act.eval, u5]) hx.1 ?_
          exact cameB _ rfl (by decide) (below_one _ _) ⟨X.heap.size, rfl, by omega, slC_new X x 1⟩ (fun h => absurd h (by decide))
        | 7, _, ho, hC =>
          simp only [List.getElem?_cons_succ, List.getElem?_cons_zero, Option.some.injEq] at ho
          subst ho
          obtain ⟨u4, e4⟩ := hdep ⟨4, .data⟩ (by simp) rfl _ 46 rfl rfl
          rw [show vals 4 = .slice a9 l.length c9 from e4] at u4
          obtain ⟨u6, e6⟩ := hdep ⟨6, .data⟩ (by simp) rfl _ 48 rfl rfl
          have hb := hC (.inl rfl)
          obtain ⟨gs, e6, _, hs6⟩ : ∃ gs, vals 6 = .slice (some ⟨gs, 0, none⟩) 1 1 ∧ w2.heap.size ≤ gs ∧ SlC X (vals 6) [x] := e6
          rw [e6] at u6 hs6
          refine opw_appA _ _ rfl (by simp [Act.eval, u4]) (by simp [Act.eval, u6]) (H2.out.2.2.1.later hb) hs6 (AFit.one hx.1) (by simp; omega) ?_
          intro v' x' q1 q2 q3
          exact cameX _ rfl q2 ⟨q1, fun k hk => (q3 k hk).elim (fun q => .inl q) (fun q => .inr (Nat.le_trans hb.size q))⟩ rfl
        | m + 8, hi, _, _ => exact absurd hi (by omega)
      · intro vals X hX hR _
        have e0 : vals 0 = .pointer (some ⟨B, 0, none⟩) := hR 0 (by decide)
        obtain ⟨q1, q2⟩ : OwnA (vals 7) (l ++ [x]) X ∧ At' w2 (.slice a9 l.length c9) (vals 7) := hR 7 (by decide)
        obtain ⟨xa, xc, e7, _, _⟩ := q1.form
        rw [List.length_append, List.length_singleton] at e7
        rw [e7] at q1 q2
        have hx1 := RowAt.grow H2.out.1 hX hBR
        have cB := hx1.cellIs 1 rfl
        have fB := hx1.froz 1
        have rBy := hx1.setc 1 (.slice xa (l.length + 1) xc)
        have hBl := H2.out.1.lt
        have hq2 : ∀ k, Value.ownBlock (.slice xa (l.length + 1) xc) = some k → ¬ k = B := fun k hk e => by
          rcases q2 k hk with q | q
          · exact hBR (e ▸ q)
          · omega
        have cset : Ch (fun k => k = B) X (X.setCell ⟨B, 1, none⟩ (.slice xa (l.length + 1) xc)) := Ch.set (S := fun k => k = B) (Ch.refl _ X) (p := ⟨B, 1, none⟩) (.inl rfl) _
        have qy := q1.ch cset hq2
        have my := (H2.out.2.2.2.1.ch (grown_ch hX) (fun e => (HK.out.2.1 kb e).1 rfl)).ch cset HK.out.1
        have cy : Ch (ibS B (.slice a9 l.length c9) kb) w (X.setCell ⟨B, 1, none⟩ (.slice xa (l.length + 1) xc)) := (H2.out.2.2.2.2.grown hX (fun k hk => .inl (.inr (.inr hk)))).set (p := ⟨B, 1, none⟩) (.inl (.inl rfl)) _
        have hsw := H2.out.2.2.2.2.size
        have aty : At' w (.slice a9 l.length c9) (.slice xa (l.length + 1) xc) := fun k hk => (q2 k hk).elim .inl (fun q => .inr (by omega))
        have HY := hid_of' (And.intro rBy (And.intro qy (And.intro my (And.intro cy aty))))
        clear rBy qy my cy aty q1 q2 hx1 hR hX hq2 cset hsw
        simp only [List.drop, List.take, putAll, List.setIfInBounds_toArray, List.set_cons_succ, List.set_cons_zero, e0, e7]
        clear e0 e7
        go_wp2
        go_ret
        refine ⟨.slice xa (l.length + 1) xc, by rw [HO.out]; rfl, ?_, HY.out.2.2.2.2, HY.out.2.2.2.1⟩
        rw [HO.out]
        refine ⟨HY.out.1, HY.out.2.1, HY.out.2.2.1.eq (fun a b _ _ => names_put l x a b), ?_, ?_, ?_, HI.out.1.most⟩
        · intro y hy
          rcases List.mem_append.1 hy with hy | hy
          · exact HI.out.1.full y hy
          · rw [List.mem_singleton] at hy; subst hy; exact hx.2
        · rw [List.pairwise_append]
          exact ⟨HI.out.1.apart, List.pairwise_singleton _ _, fun y hy z hz => by rw [List.mem_singleton] at hz; subst hz; exact HI.out.2.1 y hy⟩
        · have := HI.out.2.2
          simp only [List.length_append, List.length_singleton]
          omega
end Go.Proofs.YtlgdaaofpjpobaaDoor
