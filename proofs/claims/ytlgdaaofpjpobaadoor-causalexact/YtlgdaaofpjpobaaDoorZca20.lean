
/-
  Package causal: Next.
-/
import Derived.Test.YtlgdaaofpjpobaaDoorZca19
namespace Go.Proofs.YtlgdaaofpjpobaaDoor
open Go.RowKit Go.Maps
set_option maxRecDepth 100000

/-- A new box of an act. -/
theorem boxed_act (w : World) {x : Ac} : RowAt w.heap.size (acv x) 48 ((w.alloc (.cells (acv ac0) 48)).setRow w.heap.size (acv x)) ∧ Below w.heap.size w ((w.alloc (.cells (acv ac0) 48)).setRow w.heap.size (acv x)) :=
  ⟨(row_new w (acv ac0) 48).put _, below_row (below_one w _) (Nat.le_refl _) _⟩
theorem results_actB {fn : Func} {p u : Tmp} {tmps : Array Value} {w : World} {g : Nat} {x : Ac} (h : fn.results = #[.cell p 48, .tmp u]) (hp : tmps.getD p undef = .pointer (some ⟨g, 0, none⟩)) (hx : x.Fit) (hg : RowAt g (acv x) 48 w) :
    (results fn tmps).run Tryd.prog w = .ok (.tuple #[.agg (acv x), tmps.getD u undef]) w := by
  have hp' : tmps[p]?.getD undef = .pointer (some ⟨g, 0, none⟩) := by simpa using hp
  simp [results, h, hp', asAddr, run_loadVar_row w g _ _ _ _ _ hg Tryd.underlying48 rfl (a_size hx)]
theorem startN (w : World) {a : List Int} (ha : a.length = 8) :
    CkAt w.heap.size a ((w.alloc (.cells (cv a) 44)).alloc (.cells (acv ac0) 48)) ∧ RowAt (w.heap.size + 1) (acv ac0) 48 ((w.alloc (.cells (cv a) 44)).alloc (.cells (acv ac0) 48)) ∧ Below w.heap.size w ((w.alloc (.cells (cv a) 44)).alloc (.cells (acv ac0) 48)) := startA w ha
theorem take_drop_sub (l : List Ac) (k : Nat) : (l.take k ++ l.drop (k + 1)).Sublist l := by
  have h : (l.take k ++ l.drop (k + 1)).Sublist (l.take k ++ l.drop k) := (List.Sublist.refl _).append (by rw [← List.drop_drop]; exact List.drop_sublist _ _)
  rwa [List.take_append_drop] at h
theorem names_del {l : List Ac} (hp : l.Pairwise fun x y => ¬ x.one y) {k : Nat} {y : Ac} (hy : l[k]? = some y) (a b : Int) : delS (namesOf l) y.rep y.num a b = namesOf (l.take k ++ l.drop (k + 1)) a b := by
  have hk := (List.getElem?_eq_some_iff.1 hy).1
  have hl : l = l.take k ++ y :: l.drop (k + 1) := by
    rw [show y = l[k] from (Option.some.inj ((List.getElem?_eq_getElem hk).symm.trans hy)).symm, List.getElem_cons_drop hk, List.take_append_drop]
  have hp' := hp
  rw [hl, List.pairwise_append] at hp'
  obtain ⟨_, h2, h3⟩ := hp'
  rw [List.pairwise_cons] at h2
  have e : namesOf l a b = ((decide (y.rep = a) && decide (y.num = b)) || namesOf (l.take k ++ l.drop (k + 1)) a b) := by
    conv => lhs; rw [hl]
    unfold namesOf
    simp only [List.any_append, List.any_cons]
    cases (l.take k).any fun x => decide (x.rep = a) && decide (x.num = b) <;> cases (decide (y.rep = a) && decide (y.num = b)) <;> simp
  unfold delS
  rw [e]
  by_cases hn : y.rep = a ∧ y.num = b
  · obtain ⟨rfl, rfl⟩ := hn
    have : namesOf (l.take k ++ l.drop (k + 1)) y.rep y.num = false := by
      unfold namesOf
      rw [List.any_eq_false]
      intro z hz hh
      simp only [Bool.and_eq_true, decide_eq_true_eq] at hh
      rcases List.mem_append.1 hz with hz | hz
      · exact h3 z hz y (by simp) hh
      · exact h2.1 z hz ⟨hh.1.symm, hh.2.symm⟩
    rw [this]
    simp
  · have h1 : (decide (y.rep = a) && decide (y.num = b)) = false := by
      rw [← Bool.not_eq_true, Bool.and_eq_true, decide_eq_true_eq, decide_eq_true_eq]; exact hn
    have h2 : (decide (a = y.rep) && decide (b = y.num)) = false := by
      rw [← Bool.not_eq_true, Bool.and_eq_true, decide_eq_true_eq, decide_eq_true_eq]; exact fun hh => hn ⟨hh.1.symm, hh.2.symm⟩
    rw [h1, h2]; simp
set_option maxHeartbeats 4000000 in
theorem next_none {B : Nat} {v : Value} {kb n : Nat} {m : Int} {l : List Ac} {w : World} (hI : IbAt B v kb n m l w) {h : List Int} (ha : Ck h) (hno : ∀ x ∈ l, rdyC h x = false) :
    Calls Tryd.prog 19 #[.pointer (some ⟨B, 0, none⟩), .agg (cv h)] w fun e w' => e = .returned (.tuple #[.agg (acv ac0), .bool false]) ∧ Below w.heap.size w w' := by
  obtain ⟨h1, h2, hB⟩ := startN w (a := h) ha.1
  have hJ := hI.later hB
  obtain ⟨a9, c9, rfl, _⟩ := hI.slice
  have hl : l.length ≤ 256 := by have := hI.room; have := hI.most; omega
  have c1 := hJ.lies.cellIs 1 rfl
  have H := hid_of' (And.intro h1 (And.intro h2 (And.intro hB hJ)))
  have HN := hid_of' hno
  clear hI hJ h1 h2 hB hno
  go_enter Tryd.func19, Tryd.ntmps19
  go_upto_region 1 with fail
  rw [show (Obj.cells #[Value.int .i64 0, .int .i64 0, .int .i32 0, .int .i64 0, .int .i64 0, .int .i64 0, .int .i64 0, .int .i64 0, .int .i64 0, .int .i64 0, .int .i64 0, .int .i64 0, .int .i64 0] 48) = Obj.cells (acv ac0) 48 from rfl]
  generalize (w.alloc (.cells (cv h) 44)).alloc (.cells (acv ac0) 48) = W at H c1 ⊢
  go_wp2
  clear c1
  go_loopw [6, 7, 13] (fun _ _ i wr => ∃ k : Nat, i = .int .i64 (k : Int) ∧ k ≤ l.length ∧ Below W.heap.size W wr) (fun _ _ i _ => l.length - (intOf i).toNat)
  case atStart => exact ⟨0, rfl, by omega, Below.refl _ _⟩
  case round =>
    rename World => wr
    obtain ⟨k, rfl, hk, hBr⟩ := hrel
    by_cases hlt : k < l.length
    · have hrd : rdyC h l[k] = false := HN.out _ (List.getElem_mem hlt)
      have hrd' : ∀ y, l[k]? = some y → rdyC h y = false := fun y hy => by rw [List.getElem?_eq_getElem hlt] at hy; cases hy; exact hrd
      clear hrd
      obtain ⟨x, hx⟩ : ∃ x, l[k]? = some x := ⟨_, List.getElem?_eq_getElem hlt⟩
      have hf := H.out.2.2.2.row.2.at hx
      obtain ⟨g, o, c, hv, _⟩ := H.out.2.2.2.row.sl.pos (by omega)
      simp only [Value.slice.injEq, true_and] at hv
      obtain ⟨rfl, rfl⟩ := hv
      have hin := (H.out.2.2.2.row.sl.in H.out.2.2.2.row.2 hx).later hBr
      have hck := H.out.1.later hBr
      have HIN := hid_of' (And.intro hin hck)
      have hki : (k : Int) < (l.length : Int) := by omega
      clear hin hck
      go_upto_region 4 with (first | (refine wpL_loadA rfl _ rfl rfl hf HIN.out.1 ?_) | (refine wpL_storeAr (p := x) (q := ac0) rfl _ _ rfl rfl rfl hf ac0_fit (row_new wr (acv ac0) _) ?_))
      obtain ⟨hb1, hb2⟩ := boxed_act wr (x := x)
      rw [show (Obj.cells #[Value.int .i64 0, .int .i64 0, .int .i32 0, .int .i64 0, .int .i64 0, .int .i64 0, .int .i64 0, .int .i64 0, .int .i64 0, .int .i64 0, .int .i64 0, .int .i64 0, .int .i64 0] 48) = Obj.cells (acv ac0) 48 from rfl]
      generalize (wr.alloc (.cells (acv ac0) 48)).setRow wr.heap.size (acv x) = w2 at hb1 hb2 ⊢
      have hck2 := HIN.out.2.later hb2
      have HR := hid_of' (ready_is (hrd' x hx) w2 ha.1 hf)
      clear hrd'
      go_wp2_with (first | (refine wpL_load rfl _ rfl rfl hck2 ?_) | (refine wpL_loadA rfl _ rfl rfl hf hb1.in ?_) | (go_at_call 35; refine HR.out.mono ?_; rintro e w3 ⟨rfl, hb3⟩; clear HR))
      go_roundw
      case rel => exact ⟨k + 1, by go_num, by omega, bgo (bgo hBr hb2) hb3⟩
      case measure => simp [intOf]; omega
    · have hki : ¬ (k : Int) < (l.length : Int) := by omega
      have hr := H.out.2.1.later hBr
      go_wp2_with (refine wpL_storeAr (p := ac0) rfl _ _ rfl rfl rfl ac0_fit ac0_fit hr ?_)
      exact bodyPost_ret (v := .tuple #[.agg (acv ac0), .bool false]) (results_actB (fn := Tryd.f19) (p := 4) (u := 5) rfl rfl ac0_fit (hr.put _)) rfl ⟨rfl, below_row (bgo H.out.2.2.1 hBr) (by omega) _⟩
set_option maxHeartbeats 4000000 in
theorem next_some {B : Nat} {v : Value} {kb n : Nat} {m : Int} {l : List Ac} {w : World} (hI : IbAt B v kb n m l w) {h : List Int} (ha : Ck h) {i0 : Nat} {y : Ac} (hy : l[i0]? = some y) (hyr : rdyC h y = true) (hno : ∀ j z, j < i0 → l[j]? = some z → rdyC h z = false) :
    Calls Tryd.prog 19 #[.pointer (some ⟨B, 0, none⟩), .agg (cv h)] w fun e w' => ∃ v', e = .returned (.tuple #[.agg (acv y), .bool true]) ∧ IbAt B v' kb n m (l.take i0 ++ l.drop (i0 + 1)) w' ∧ At' w v v' ∧ Ch (ibS B v kb) w w' := by
  obtain ⟨h1, h2, hB⟩ := startN w (a := h) ha.1
  have hJ := hI.later hB
  obtain ⟨a9, c9, rfl, _⟩ := hI.slice
  have hl : l.length ≤ 256 := by have := hI.room; have := hI.most; omega
  have c1 := hJ.lies.cellIs 1 rfl
  have H := hid_of' (And.intro h1 (And.intro h2 (And.intro hB hJ)))
  have HN := hid_of' (And.intro hI (And.intro hy (And.intro hyr hno)))
  have hi0 : i0 < l.length := (List.getElem?_eq_some_iff.1 hy).1
  clear hI hJ h1 h2 hB hno hy hyr
  go_enter Tryd.func19, Tryd.ntmps19
  go_upto_region 1 with fail
  rw [show (Obj.cells #[Value.int .i64 0, .int .i64 0, .int .i32 0, .int .i64 0, .int .i64 0, .int .i64 0, .int .i64 0, .int .i64 0, .int .i64 0, .int .i64 0, .int .i64 0, .int .i64 0, .int .i64 0] 48) = Obj.cells (acv ac0) 48 from rfl]
  generalize (w.alloc (.cells (cv h) 44)).alloc (.cells (acv ac0) 48) = W at H c1 ⊢
  go_wp2
  clear c1
  go_loopw [6, 7, 13] (fun _ _ i wr => ∃ k : Nat, i = .int .i64 (k : Int) ∧ k ≤ i0 ∧ Below W.heap.size W wr) (fun _ _ i _ => l.length - (intOf i).toNat)
  case atStart => exact ⟨0, rfl, by omega, Below.refl _ _⟩
  case round =>
    rename World => wr
    obtain ⟨k, rfl, hk, hBr⟩ := hrel
    have hlt : k < l.length := by omega
    by_cases hki0 : k < i0
    · have hrd' : ∀ z, l[k]? = some z → rdyC h z = false := fun z hz => HN.out.2.2.2 k z hki0 hz
      obtain ⟨x, hx⟩ : ∃ x, l[k]? = some x := ⟨_, List.getElem?_eq_getElem hlt⟩
      have hf := H.out.2.2.2.row.2.at hx
      obtain ⟨g, o, c, hv, _⟩ := H.out.2.2.2.row.sl.pos (by omega)
      simp only [Value.slice.injEq, true_and] at hv
      obtain ⟨rfl, rfl⟩ := hv
      have hin := (H.out.2.2.2.row.sl.in H.out.2.2.2.row.2 hx).later hBr
      have hck := H.out.1.later hBr
      have HIN := hid_of' (And.intro hin hck)
      have hki : (k : Int) < (l.length : Int) := by omega
      clear hin hck
      go_upto_region 4 with (first | (refine wpL_loadA rfl _ rfl rfl hf HIN.out.1 ?_) | (refine wpL_storeAr (p := x) (q := ac0) rfl _ _ rfl rfl rfl hf ac0_fit (row_new wr (acv ac0) _) ?_))
      obtain ⟨hb1, hb2⟩ := boxed_act wr (x := x)
      rw [show (Obj.cells #[Value.int .i64 0, .int .i64 0, .int .i32 0, .int .i64 0, .int .i64 0, .int .i64 0, .int .i64 0, .int .i64 0, .int .i64 0, .int .i64 0, .int .i64 0, .int .i64 0, .int .i64 0] 48) = Obj.cells (acv ac0) 48 from rfl]
      generalize (wr.alloc (.cells (acv ac0) 48)).setRow wr.heap.size (acv x) = w2 at hb1 hb2 ⊢
      have hck2 := HIN.out.2.later hb2
      have HR := hid_of' (ready_is (hrd' x hx) w2 ha.1 hf)
      clear hrd'
      go_wp2_with (first | (refine wpL_load rfl _ rfl rfl hck2 ?_) | (refine wpL_loadA rfl _ rfl rfl hf hb1.in ?_) | (go_at_call 35; refine HR.out.mono ?_; rintro e w3 ⟨rfl, hb3⟩; clear HR))
      go_roundw
      case rel => exact ⟨k + 1, by go_num, by omega, bgo (bgo hBr hb2) hb3⟩
      case measure => simp [intOf]; omega
    · obtain rfl : k = i0 := by omega
      clear hki0
      obtain ⟨x, hx, hrx⟩ : ∃ x, l[k]? = some x ∧ rdyC h x = true := ⟨y, HN.out.2.1, HN.out.2.2.1⟩
      obtain rfl : y = x := Option.some.inj (HN.out.2.1.symm.trans hx)
      have hf := H.out.2.2.2.row.2.at hx
      obtain ⟨g, o, c, hv, _⟩ := H.out.2.2.2.row.sl.pos (by omega)
      simp only [Value.slice.injEq, true_and] at hv
      obtain ⟨rfl, rfl⟩ := hv
      have hin := (H.out.2.2.2.row.sl.in H.out.2.2.2.row.2 hx).later hBr
      have hck := H.out.1.later hBr
      have HIN := hid_of' (And.intro hin hck)
      have hki : (k : Int) < (l.length : Int) := by omega
      clear hin hck
      go_upto_region 4 with (first | (refine wpL_loadA rfl _ rfl rfl hf HIN.out.1 ?_) | (refine wpL_storeAr (p := y) (q := ac0) rfl _ _ rfl rfl rfl hf ac0_fit (row_new wr (acv ac0) _) ?_))
      obtain ⟨hb1, hb2⟩ := boxed_act wr (x := y)
      rw [show (Obj.cells #[Value.int .i64 0, .int .i64 0, .int .i32 0, .int .i64 0, .int .i64 0, .int .i64 0, .int .i64 0, .int .i64 0, .int .i64 0, .int .i64 0, .int .i64 0, .int .i64 0, .int .i64 0] 48) = Obj.cells (acv ac0) 48 from rfl]
      generalize (wr.alloc (.cells (acv ac0) 48)).setRow wr.heap.size (acv y) = w2 at hb1 hb2 ⊢
      have hck2 := HIN.out.2.later hb2
      have HR := hid_of' (ready_is hrx w2 ha.1 hf)
      obtain ⟨xb, hxb⟩ : ∃ xb, wr.heap.size = xb := ⟨_, rfl⟩
      have hxW : W.heap.size ≤ xb := by have := hBr.size; omega
      rw [hxb] at hb1 ⊢
      have HB2 := hid_of' hb2
      clear hb2
      go_upto_region 5 with (first | (refine wpL_load rfl _ rfl rfl hck2 ?_) | (refine wpL_loadA rfl _ rfl rfl hf hb1.in ?_) | (go_at_call 35; refine HR.out.mono ?_; rintro e w3 ⟨rfl, hb3⟩; clear HR))
      have hB3 := bgo (bgo hBr HB2.out) hb3
      have hI3 := H.out.2.2.2.later hB3
      have hl2 : l.length ≤ 1000000 := by omega
      have HD := hid_of' (delA_ok hI3.row hlt hl2)
      have hx3 := hb1.later hb3
      have hr3 := H.out.2.1.later hB3
      have c1 := hI3.lies.cellIs 1 rfl
      have H3 := hid_of' (And.intro hB3 (And.intro hI3 (And.intro hx3 hr3)))
      clear hB3 hI3 hx3 hr3 hb1 hb3 HB2 hck2 hxb HIN
      go_upto_region 6 with (first | (go_at_call 38; refine HD.out.mono ?_; rintro e w4 ⟨gg, cp, hgv, rfl, hown, hgr⟩; clear HD; simp only [Value.slice.injEq, Option.some.injEq, Addr.mk.injEq, true_and, and_true] at hgv; obtain ⟨⟨rfl, rfl⟩, rfl⟩ := hgv; have r4 := H3.out.2.1.lies.ch (grown_ch hgr) (fun e => (H3.out.2.1.neV g rfl).2 (Option.some.inj e).symm); have c4 := r4.cellIs 1 rfl; have f4 := r4.froz 1))
      have hne := H3.out.2.1.neV g rfl
      have hkB := H3.out.2.1.neB
      have hgW : g < w.heap.size := HN.out.1.row.lt g rfl
      have hs0 := H.out.2.2.1.size
      have s4 : Ch (fun k => k = B) w4 (w4.setCell ⟨B, 1, none⟩ (.slice (some ⟨g, 0, none⟩) (l.length - 1) c9)) := Ch.set (S := fun k => k = B) (Ch.refl _ w4) (p := ⟨B, 1, none⟩) (.inl rfl) _
      have hBw : B < w.heap.size := HN.out.1.lies.lt
      have r5 := r4.setc 1 (.slice (some ⟨g, 0, none⟩) (l.length - 1) c9)
      have x5 := (H3.out.2.2.1.ch (grown_ch hgr) (fun e => by have := Option.some.inj e; omega)).ch s4 (by omega)
      have a5 := (H3.out.2.2.2.ch (grown_ch hgr) (fun e => by have := Option.some.inj e; omega)).ch s4 (by omega)
      have m5 := (H3.out.2.1.map.ch (grown_ch hgr) (fun e => hne.1 (Option.some.inj e).symm)).ch s4 hkB
      have o5 := hown.ch s4 (fun k hk e => by cases hk; exact hne.2 e.symm)
      have ch5 : Ch (ibS B (.slice (some ⟨g, 0, none⟩) l.length c9) kb) w (w4.setCell ⟨B, 1, none⟩ (.slice (some ⟨g, 0, none⟩) (l.length - 1) c9)) := (((Ch.of (bgo H.out.2.2.1 H3.out.1)).grown hgr (fun k hk => .inl (.inr (.inr hk))))).set (p := ⟨B, 1, none⟩) (.inl (.inl rfl)) _
      have H5 := hid_of' (And.intro r5 (And.intro x5 (And.intro a5 (And.intro m5 (And.intro o5 ch5)))))
      have hkbw : kb < w.heap.size := HN.out.1.map.lt
      clear r5 x5 a5 m5 o5 ch5 s4 r4 c4 f4 hown hgr c1
      generalize w4.setCell ⟨B, 1, none⟩ (.slice (some ⟨g, 0, none⟩) (l.length - 1) c9) = w5 at H5 ⊢
      refine wp_region_tail 6 (by kernel_rfl) (fun _ => none) (by kernel_rfl) (by kernel_rfl) (by decide) (fun ii u X => match ii with
        | 0 => u = .pointer (some ⟨B, 0, none⟩)
        | 1 => u = .pointer (some ⟨B, 0, none⟩)
        | 2 => u = .pointer (some ⟨B, 2, none⟩)
        | 3 => u = .map (some kb)
        | 4 => u = .agg (acv y)
        | 5 => u = .agg (nmc y.rep y.num)
        | _ => True) (fun _ => false) (fun _ _ _ _ h => by cases h) ?_ ?_ ?_
      · intro ii u X X' hR hb
        match ii, hR with
        | 0, h => exact h
        | 1, h => exact h
        | 2, h => exact h
        | 3, h => exact h
        | 4, h => exact h
        | 5, h => exact h
        | m + 6, h => exact h
      · intro ii o hi ho q X vals hX hdep hoth
        have t0 : q.tmps[0]? = some (.pointer (some ⟨B, 0, none⟩)) := by rw [hoth 0 (by kernel_rfl)]; rfl
        have t7 : q.tmps[7]? = some (.pointer (some ⟨xb, 0, none⟩)) := by rw [hoth 7 (by kernel_rfl)]; rfl
        match ii, hi, ho with
        | 0, _, ho =>
          simp only [List.getElem?_cons_zero, Option.some.injEq] at ho
          subst ho
          unfold Oper.wp
          simp [execOp, go_sem, t0]
          exact came _ rfl (Below.refl _ _) rfl (fun h => absurd h (by decide))
        | 1, _, ho =>
          simp only [List.getElem?_cons_succ, List.getElem?_cons_zero, Option.some.injEq] at ho
          subst ho
          obtain ⟨u0, e0⟩ := hdep ⟨0, .data⟩ (by simp) rfl _ 32 rfl rfl
          rw [show vals 0 = .pointer (some ⟨B, 0, none⟩) from e0] at u0
          unfold Oper.wp
          simp [execOp, go_sem, u0]
          exact came _ rfl (Below.refl _ _) rfl (fun h => absurd h (by decide))
        | 2, _, ho =>
          simp only [List.getElem?_cons_succ, List.getElem?_cons_zero, Option.some.injEq] at ho
          subst ho
          obtain ⟨u1, e1⟩ := hdep ⟨1, .data⟩ (by simp) rfl _ 33 rfl rfl
          rw [show vals 1 = .pointer (some ⟨B, 0, none⟩) from e1] at u1
          unfold Oper.wp
          simp [execOp, go_sem, u1]
          exact came _ rfl (Below.refl _ _) rfl (fun h => absurd h (by decide))
        | 3, _, ho =>
          simp only [List.getElem?_cons_succ, List.getElem?_cons_zero, Option.some.injEq] at ho
          subst ho
          obtain ⟨u2, e2⟩ := hdep ⟨2, .data⟩ (by simp) rfl _ 34 rfl rfl
          rw [show vals 2 = .pointer (some ⟨B, 2, none⟩) from e2] at u2
          have cc : X.cell? ⟨B, 2, none⟩ = some (.map (some kb)) := (H5.out.1.later hX).cellIs 2 rfl
          unfold Oper.wp
          simp [execOp, go_sem, u2, cc]
          exact came _ rfl (Below.refl _ _) rfl (fun h => absurd h (by decide))
        | 4, _, ho =>
          simp only [List.getElem?_cons_succ, List.getElem?_cons_zero, Option.some.injEq] at ho
          subst ho
          exact opw_loadA _ rfl (by simp [Act.eval, t7]) hf (H5.out.2.1.later hX).in (came _ rfl (Below.refl _ _) rfl (fun h => absurd h (by decide)))
        | 5, _, ho =>
          simp only [List.getElem?_cons_succ, List.getElem?_cons_zero, Option.some.injEq] at ho
          subst ho
          obtain ⟨u4, e4⟩ := hdep ⟨4, .data⟩ (by simp) rfl _ 36 rfl rfl
          rw [show vals 4 = .agg (acv y) from e4] at u4
          unfold Oper.wp
          simp [go_sem, u4]
          refine (nameOf_is y X).mono ?_
          rintro r X1 ⟨rfl, hb1⟩
          exact came _ rfl hb1 rfl (fun h => absurd h (by decide))
        | m + 6, hi, _ => exact absurd hi (by omega)
      · intro vals X hX hR _
        have e3 : vals 3 = .map (some kb) := hR 3 (by decide)
        have e5 : vals 5 = .agg (nmc y.rep y.num) := hR 5 (by decide)
        have hm := H5.out.2.2.2.1.later hX
        have hrep : fitsI y.rep := HN.out.1.full y (List.mem_of_getElem? hx)
        have HX := hid_of' (And.intro hX hm)
        clear hR hX hm
        simp only [List.drop, List.take, putAll, List.setIfInBounds_toArray, List.set_cons_succ, List.set_cons_zero, e3, e5]
        clear e3 e5
        go_upto_region 7 with (refine wpL_delS rfl (.tmp 35) (.tmp 37) rfl rfl rfl HX.out.2 hrep hf.2 ?_; intro w6 hm6 hg6)
        have hr6 := (H5.out.1.later HX.out.1).ch (grown_ch hg6) (fun e => hkB (Option.some.inj e))
        have hx6 := (H5.out.2.1.later HX.out.1).ch (grown_ch hg6) (fun e => by have := Option.some.inj e; omega)
        have ha6 := (H5.out.2.2.1.later HX.out.1).ch (grown_ch hg6) (fun e => by have := Option.some.inj e; omega)
        have ho6 := (H5.out.2.2.2.2.1.later HX.out.1).ch (grown_ch hg6) (fun k hk e => by cases hk; exact hne.1 (Option.some.inj e))
        have ch6 := (H5.out.2.2.2.2.2.later HX.out.1).grown hg6 (fun k hk => .inl (.inr (.inl (Option.some.inj hk).symm)))
        have hax : ¬ (w.heap.size + 1) = xb := by have := H.out.2.1.lt; omega
        have H6 := hid_of' (And.intro hr6 (And.intro ho6 (And.intro hm6 ch6)))
        have HA6 := hid_of' ha6
        clear hr6 ho6 hm6 ch6 hg6 ha6
        go_wp2_with (first | (refine wpL_loadA rfl _ rfl rfl hf hx6.in ?_) | (refine wpL_storeAr (p := y) (q := ac0) rfl _ _ rfl rfl rfl hf ac0_fit HA6.out ?_))
        have s7 : Ch (fun k => k = w.heap.size + 1) w6 (w6.setRow (w.heap.size + 1) (acv y)) := Ch.row (S := fun k => k = w.heap.size + 1) (Ch.refl _ w6) (.inl rfl) _
        refine bodyPost_ret (v := .tuple #[.agg (acv y), .bool true]) (results_actB (fn := Tryd.f19) (p := 4) (u := 5) rfl rfl hf (HA6.out.put _)) rfl ⟨.slice (some ⟨g, 0, none⟩) (l.length - 1) c9, rfl, ⟨H6.out.1.ch s7 (by omega), H6.out.2.1.ch s7 (fun k hk => by cases hk; show ¬ g = w.heap.size + 1; omega), ?_, ?_, ?_, ?_, HN.out.1.most⟩, fun k hk => .inl hk, H6.out.2.2.2.go s7 (fun k hk => .inr (by omega))⟩
        · refine (H6.out.2.2.1.ch s7 (by omega)).eq (fun a b _ _ => names_del HN.out.1.apart hx a b)
        · intro z hz
          exact HN.out.1.full z ((List.mem_append.1 hz).elim List.mem_of_mem_take List.mem_of_mem_drop)
        · exact HN.out.1.apart.sublist (take_drop_sub l k)
        · have := HN.out.1.room
          rw [List.length_append, List.length_take, List.length_drop]
          omega
end Go.Proofs.YtlgdaaofpjpobaaDoor
