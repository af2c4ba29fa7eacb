
/-
  The document's Order.
-/
import Derived.Test.YtlkcjbmdeimocaaDoorCa13
import Derived.Test.YtlkcjbmdeimocaaDoorCp
namespace Go.Proofs.YtlkcjbmdeimocaaDoor
open Go.RowKit Go.Maps
set_option maxRecDepth 100000

/-- How far the order has come. -/
structure OrI (h : List Int) (l : List Ac) (w : World) (s : List Ac) (c : List Int) (u : Value) (wr : World) : Prop where
  ck : CkAt w.heap.size c wr
  own : OwnA u s wr
  new : ∀ k, u.ownBlock = some k → w.heap.size < k
  below : Below w.heap.size w wr
  at' : c = dlv h s
  ok : okD h s
  sub : ∀ x ∈ s, x ∈ l
  rest : s ++ ordL l c = ordL l h
theorem OrI.len {h : List Int} {l : List Ac} {w : World} {s : List Ac} {c : List Int} {u : Value} {wr : World} (I : OrI h l w s c u wr) : s.length ≤ l.length := by
  have h1 := congrArg List.length I.rest
  rw [List.length_append] at h1
  have h2 : (ordL l h).length ≤ l.length := by
    unfold ordL
    have : ∀ (n : Nat) (h : List Int), (ordS l n h).length ≤ n := by
      intro n
      induction n with
      | zero => intro h; simp [ordS]
      | succ n ih =>
        intro h
        cases hf : l.find? (fun x => rdyC h x) with
        | none => rw [ordS_none hf]; simp
        | some x =>
          simp only [ordS, hf, List.length_cons]
          have := ih (adv h x)
          omega
    exact this _ _
  omega
theorem OrI.later {h : List Int} {l : List Ac} {w : World} {s : List Ac} {c : List Int} {u : Value} {wr w' : World} (I : OrI h l w s c u wr) (hb : Below wr.heap.size wr w') : OrI h l w s c u w' :=
  ⟨I.ck.later hb, I.own.later hb, I.new, bgo I.below hb, I.at', I.ok, I.sub, I.rest⟩
theorem ch_cell {w : World} {b k : Nat} (v : Value) : Ch (fun j => j = b) w (w.setCell ⟨b, k, none⟩ v) := Ch.set (S := fun j => j = b) (Ch.refl _ w) (p := ⟨b, k, none⟩) (.inl rfl) v
/-- One act more. -/
theorem OrI.next {h : List Int} {l : List Ac} {w : World} {s : List Ac} {c : List Int} {u v' : Value} {wr w' : World} {x : Ac} (I : OrI h l w s c u wr) (hl : h.length = 8) (hf : l.find? (fun x => rdyC c x) = some x)
    (hck : CkAt w.heap.size (adv c x) w') (hown : OwnA v' (s ++ [x]) w') (hnew : ∀ k, v'.ownBlock = some k → w.heap.size < k) (hb : Below w.heap.size w w') : OrI h l w (s ++ [x]) (adv c x) v' w' := by
  have hr : rdyC c x = true := List.find?_some hf
  have hc : c.length = 8 := by rw [I.at']; exact dlv_len hl s
  refine ⟨hck, hown, hnew, hb, ?_, ?_, ?_, ?_⟩
  · rw [dlv_app, ← I.at']; rfl
  · rw [okD_app, ← I.at']; exact ⟨I.ok, hr, trivial⟩
  · intro y hy
    rcases List.mem_append.1 hy with hy | hy
    · exact I.sub y hy
    · rw [List.mem_singleton] at hy; subst hy; exact List.mem_of_find?_eq_some hf
  · rw [← I.rest, ordL_some hc hf, List.append_assoc]; rfl
set_option maxHeartbeats 8000000 in
theorem refOrder_any {w : World} {v : Value} {l : List Ac} (hl : SlC w v l) (hf : AFit l) {h : List Int} (ha : Ck h) (hn : l.length ≤ 1000) :
    Calls Tryd.prog 23 #[v, .agg (cv h)] w fun e w' => ∃ r1 r2, e = .returned (.tuple #[r1, r2]) ∧ OwnA r1 (ordL l h) w' ∧ OwnA r2 (l.filter fun x => !hasA (dlv h (ordL l h)) x) w' ∧ NewB w r1 ∧ NewB w r2 ∧ Below w.heap.size w w' := by
  obtain ⟨a9, c9, rfl⟩ := hl.form
  have hB0 := below_one w (.cells (cv h) 44)
  have h0 : OrI h l w [] h (.slice none 0 0) (w.alloc (.cells (cv h) 44)) := ⟨CkAt.new w ha.1, OwnA.nil _, (fun k hk => by cases hk), hB0, rfl, trivial, (fun x hx => by cases hx), rfl⟩
  have H := hid_of' (And.intro hl (And.intro hf h0))
  clear hl hf hB0 h0
  go_enter Tryd.func23, Tryd.ntmps23
  go_upto_region 1 with fail
  generalize w.alloc (.cells (cv h) 44) = W at H ⊢
  go_wp2
  go_loopg [6, 8, 9] (lackN h l + 1) (fun n u6 u8 _ wr => ∃ (s : List Ac) (c : List Int) (b : Bool), u8 = .bool b ∧ n = lackN c l + (if b then 1 else 0) ∧ OrI h l w s c u6 wr ∧ (b = false → ∀ x ∈ l, rdyC c x = false))
  case atStart => exact ⟨[], h, true, rfl, rfl, H.out.2.2, fun e => by cases e⟩
  case round =>
    obtain ⟨s, c, b, rfl, hgk, I, hno⟩ := hrel
    cases b
    · have hord : s = ordL l h := by
        have := I.rest
        rw [ordL_none (find_no (hno rfl)), List.append_nil] at this
        exact this
      obtain ⟨ua, uc, hu6, _, _⟩ := I.own.form
      subst hu6
      have HI := hid_of' (And.intro I (And.intro hord hgk))
      have hc8 : Ck c := by rw [I.at']; exact dlv_ck ha I.ok (fun x hx => H.out.2.1 x (I.sub x hx))
      have hwsz := I.ck.lt
      clear I hord hno hgk
      go_wp2
      go_loopw [7, 10] (fun r i wq => ∃ k : Nat, i = .int .i64 (k : Int) ∧ k ≤ l.length ∧ OwnA r ((l.take k).filter fun x => !hasA c x) wq ∧ NewB wr r ∧ Below wr.heap.size wr wq) (fun _ i _ => l.length - (intOf i).toNat)
      case atStart => exact ⟨0, rfl, by omega, by simpa using OwnA.nil _, newB_nil _, Below.refl _ _⟩
      case round =>
        rename World => wq
        obtain ⟨k, rfl, hk, hown, hnew, hB⟩ := hrel
        obtain ⟨za, zc, hu7, _, _⟩ := hown.form
        subst hu7
        by_cases hlt : k < l.length
        · have hki : (k : Int) < (l.length : Int) := by omega
          obtain ⟨x, hx⟩ : ∃ x, l[k]? = some x := ⟨_, List.getElem?_eq_getElem hlt⟩
          have hxf := H.out.2.1.at hx
          obtain ⟨g, o, c2, hv, _⟩ := H.out.1.pos (by omega)
          simp only [Value.slice.injEq, true_and] at hv
          obtain ⟨rfl, rfl⟩ := hv
          have hin := ((H.out.1.in H.out.2.1 hx).later HI.out.1.below).later hB
          have h1 := HI.out.1.ck.later hB
          have htk : l.take (k + 1) = l.take k ++ [x] := by
            rw [List.take_add_one, hx]; rfl
          have hI9 := hown
          cases hha : hasA c x
          · have hcc : hasC c x.rep x.num = false := hha
            have HM : Hid ((l.take (k + 1)).filter (fun x => !hasA c x) = (l.take k).filter (fun x => !hasA c x) ++ [x] ∧ NewB wr (.slice za ((l.take k).filter fun x => !hasA c x).length zc)) := ⟨by rw [htk, List.filter_append]; simp [hha], hnew⟩
            have hfl : ((l.take k).filter fun x => !hasA c x).length ≤ k := Nat.le_trans (List.length_filter_le _ _) (by rw [List.length_take]; omega)
            have hln : ((l.take k).filter fun x => !hasA c x).length + [x].length ≤ 1000000 := by simp only [List.length_singleton]; omega
            generalize (l.take k).filter (fun x => !hasA c x) = fl at hI9 HM hln ⊢
            clear hnew hha hown htk hfl
            have hBB := hB
            go_upto_region 15 with fail
            have c3 : ∀ s : Wld wq, (wOf s).cell? ⟨g, o + k * 13 + 3, none⟩ = some (.int .i64 x.rep) := fun s => (hin.later (wOf_below s)).2 3 _ (acv_rep x)
            have c4 : ∀ s : Wld wq, (wOf s).cell? ⟨g, o + k * 13 + 4, none⟩ = some (.int .i64 x.num) := fun s => (hin.later (wOf_below s)).2 4 _ (acv_num x)
            replace hB := Below.refl wq.heap.size wq
            refine wp_region_cls (by kernel_rfl) (by kernel_rfl) ?_
            repeat (first | go_big_quiet_skip | (go_big_quiet_want; first | (refine quiet_load_ck _ rfl rfl (cls_ck h1) ?_; simp only [Act.put, List.setIfInBounds_toArray, List.set_cons_succ, List.set_cons_zero]; go_big_quiet_on) | (go_big_quiet_op; first | go_big_quiet_on | go_big_quiet_call ((go_at_call 45; exact cls_of (refHas_is hcc _ hc8.1))))))
            refine wpQuiet_nil ?_
            rintro w1 ⟨s1, e1⟩
            have hb1 := wOf_below s1
            rw [← e1] at hb1
            clear e1 s1
            replace h1 := h1.later hb1
            replace hin := hin.later hb1
            replace hI9 := hI9.later hb1
            replace hB := bgo hB hb1
            clear hb1
            clear c3 c4
            go_upto_region 14 with (first | (refine wpL_loadA rfl _ rfl rfl hxf hin ?_) | (refine wpList_plain rfl fun _ hK => opw_oneA (p := x) _ rfl rfl hxf ?_; refine hK _ _ ?_) | (at_builtin; refine wpL_appA rfl _ _ rfl rfl rfl (hI9.later (below_one w1 (.cells (acv x) 48))) (slC_new w1 x 1) (AFit.one hxf) hln ?_; intro v5 w5 q1 q2 q3))
            have hB3 := bgo (bgo hBB hB) (below_one w1 (.cells (acv x) 48))
            have hs3 := hB3.size
            have HZ := hid_of' (And.intro q1 (And.intro (newB_at HM.out.2 q3 hs3) (newB_below HM.out.2 hB3 q2)))
            clear q1 q2 q3 hB3
            go_wp2
            go_roundw
            case rel => exact ⟨k + 1, by go_num, by omega, by rw [HM.out.1]; exact HZ.out.1, HZ.out.2.1, HZ.out.2.2⟩
            case measure => simp [intOf]; omega
          · have hcc : hasC c x.rep x.num = true := hha
            have HM : Hid ((l.take (k + 1)).filter (fun x => !hasA c x) = (l.take k).filter (fun x => !hasA c x) ∧ NewB wr (.slice za ((l.take k).filter fun x => !hasA c x).length zc)) := ⟨by rw [htk, List.filter_append]; simp [hha], hnew⟩
            generalize (l.take k).filter (fun x => !hasA c x) = fl at hI9 HM ⊢
            clear hnew hha hown htk
            have hBB := hB
            go_upto_region 15 with fail
            have c3 : ∀ s : Wld wq, (wOf s).cell? ⟨g, o + k * 13 + 3, none⟩ = some (.int .i64 x.rep) := fun s => (hin.later (wOf_below s)).2 3 _ (acv_rep x)
            have c4 : ∀ s : Wld wq, (wOf s).cell? ⟨g, o + k * 13 + 4, none⟩ = some (.int .i64 x.num) := fun s => (hin.later (wOf_below s)).2 4 _ (acv_num x)
            replace hB := Below.refl wq.heap.size wq
            refine wp_region_cls (by kernel_rfl) (by kernel_rfl) ?_
            repeat (first | go_big_quiet_skip | (go_big_quiet_want; first | (refine quiet_load_ck _ rfl rfl (cls_ck h1) ?_; simp only [Act.put, List.setIfInBounds_toArray, List.set_cons_succ, List.set_cons_zero]; go_big_quiet_on) | (go_big_quiet_op; first | go_big_quiet_on | go_big_quiet_call ((go_at_call 45; exact cls_of (refHas_is hcc _ hc8.1))))))
            refine wpQuiet_nil ?_
            rintro w1 ⟨s1, e1⟩
            have hb1 := wOf_below s1
            rw [← e1] at hb1
            clear e1 s1
            replace h1 := h1.later hb1
            replace hin := hin.later hb1
            replace hI9 := hI9.later hb1
            replace hB := bgo hB hb1
            clear hb1
            clear c3 c4
            go_wp2
            go_roundw
            case rel => exact ⟨k + 1, by go_num, by omega, by rw [HM.out.1]; exact hI9, HM.out.2, bgo hBB hB⟩
            case measure => simp [intOf]; omega
        · have hki : ¬ (k : Int) < (l.length : Int) := by omega
          have htk : l.take k = l := List.take_of_length_le (by omega)
          rw [htk] at hown
          have hs0 := HI.out.1.below.size
          have HZ := hid_of' (And.intro hown (And.intro hnew hB))
          have hlen : (l.take k).filter (fun x => !hasA c x) = l.filter (fun x => !hasA c x) := by rw [htk]
          rw [hlen] at HZ ⊢
          clear hown hnew hB htk hlen
          generalize hfl : l.filter (fun x => !hasA c x) = fl at HZ ⊢
          have HF := hid_of' hfl
          clear hfl
          go_wp2
          go_ret2
          refine ⟨_, _, rfl, ?_, ?_, ?_, ?_, ?_⟩
          · rw [← HI.out.2.1]; exact HI.out.1.own.later HZ.out.2.2
          · rw [← HI.out.2.1, ← HI.out.1.at', HF.out]; exact HZ.out.1
          · exact fun k hk => Nat.le_of_lt (HI.out.1.new k hk)
          · exact fun k hk => Nat.le_trans hs0 (HZ.out.2.1 k hk)
          · exact bgo HI.out.1.below HZ.out.2.2
    · have HI := hid_of' (And.intro I hgk)
      have hc8 : Ck c := by rw [I.at']; exact dlv_ck ha I.ok (fun x hx => H.out.2.1 x (I.sub x hx))
      have hsl := I.len
      clear I hgk hno
      go_wp2
      go_loopg [6, 8, 9] (l.length + 1) (fun n u6 u8 i wq => ∃ k : Nat, i = .int .i64 (k : Int) ∧ k ≤ l.length ∧ ((u8 = .bool false ∧ n = l.length + 1 - k ∧ OrI h l w s c u6 wq ∧ ∀ j z, j < k → l[j]? = some z → rdyC c z = false) ∨ (u8 = .bool true ∧ n = 0 ∧ ∃ x, l.find? (fun x => rdyC c x) = some x ∧ OrI h l w (s ++ [x]) (adv c x) u6 wq)))
      case atStart => exact ⟨0, rfl, by omega, .inl ⟨rfl, rfl, HI.out.1, fun j z hj => by omega⟩⟩
      case round =>
        rename World => wq
        obtain ⟨k, rfl, hk, hcase⟩ := hrel
        rcases hcase with ⟨rfl, hn1, I, hno⟩ | ⟨rfl, hn1, x, hfx, I⟩
        · by_cases hlt : k < l.length
          · have hki : (k : Int) < (l.length : Int) := by omega
            obtain ⟨x, hx⟩ : ∃ x, l[k]? = some x := ⟨_, List.getElem?_eq_getElem hlt⟩
            have hxf := H.out.2.1.at hx
            obtain ⟨g, o, c2, hv, _⟩ := H.out.1.pos (by omega)
            simp only [Value.slice.injEq, true_and] at hv
            obtain ⟨rfl, rfl⟩ := hv
            have hin := (H.out.1.in H.out.2.1 hx).later I.below
            have h1 := I.ck
            have hgb : g < w.heap.size := by
              rcases H.out.1 with ⟨e, _⟩ | ⟨g2, o2, c2, hv2, hg2, _⟩
              · rw [e] at hlt; simp at hlt
              · cases hv2; exact hg2
            have hI9 := I
            cases hrd : rdyC c x
            · have HN := hid_of' (And.intro hno (And.intro hn1 hx))
              clear hno hn1 I hx
              have hB := Below.refl wq.heap.size wq
              go_upto_region 8 with fail
              refine wp_region_cls (by kernel_rfl) (by kernel_rfl) ?_
              repeat (first | go_big_quiet_skip | (go_big_quiet_want; first | (refine quiet_load_ck _ rfl rfl (cls_ck h1) ?_; simp only [Act.put, List.setIfInBounds_toArray, List.set_cons_succ, List.set_cons_zero]; go_big_quiet_on) | (refine quiet_act _ rfl rfl hxf hin.cls ?_; simp only [Act.put, List.setIfInBounds_toArray, List.set_cons_succ, List.set_cons_zero]; go_big_quiet_on) | (go_big_quiet_op; first | go_big_quiet_on | go_big_quiet_call ((go_at_call 24; exact cls_of (refReady_is hrd _ hc8 hxf))))))
              refine wpQuiet_nil ?_
              rintro w1 ⟨s1, e1⟩
              have hb1 := wOf_below s1
              rw [← e1] at hb1
              clear e1 s1
              replace h1 := h1.later hb1
              replace hin := hin.later hb1
              replace hI9 := hI9.later hb1
              replace hB := bgo hB hb1
              clear hb1
              go_wp2
              go_roundg (l.length + 1 - (k + 1))
              case measure => have := HN.out.2.1; omega
              case rel => exact ⟨k + 1, by go_num, by omega, .inl ⟨rfl, rfl, hI9, fun j z hj hz => by
                by_cases e : j = k
                · subst e
                  have := HN.out.2.2
                  rw [hz] at this
                  cases this
                  exact hrd
                · exact HN.out.1 j z (by omega) hz⟩⟩
            · have hfind := find_at hx hrd hno
              obtain ⟨r, hr1, hr2, hr8, hr3, hr4, _⟩ := rdy_at hrd
              have HN := hid_of' (And.intro hfind (And.intro hn1 (And.intro hr2 hr4)))
              have xr : (acv x)[3]? = some (.int .i64 (r : Int)) := by rw [acv_rep, hr1]
              have hr8i : (r : Int) < 8 := by omega
              have hxn := hxf.2
              unfold fitsI at hxn
              have hlo : -9223372036854775808 ≤ en c r + 1 := by omega
              have hhi : en c r + 1 ≤ 9223372036854775807 := by omega
              clear hno hn1 I hx hfind hr1 hr2 hr3 hr4 hxn
              have hB := Below.refl wq.heap.size wq
              go_upto_region 8 with fail
              refine wp_region_cls (by kernel_rfl) (by kernel_rfl) ?_
              repeat (first | go_big_quiet_skip | (go_big_quiet_want; first | (refine quiet_load_ck _ rfl rfl (cls_ck h1) ?_; simp only [Act.put, List.setIfInBounds_toArray, List.set_cons_succ, List.set_cons_zero]; go_big_quiet_on) | (refine quiet_act _ rfl rfl hxf hin.cls ?_; simp only [Act.put, List.setIfInBounds_toArray, List.set_cons_succ, List.set_cons_zero]; go_big_quiet_on) | (go_big_quiet_op; first | go_big_quiet_on | go_big_quiet_call ((go_at_call 24; exact cls_of (refReady_is hrd _ hc8 hxf))))))
              refine wpQuiet_nil ?_
              rintro w1 ⟨s1, e1⟩
              have hb1 := wOf_below s1
              rw [← e1] at hb1
              clear e1 s1
              replace h1 := h1.later hb1
              replace hin := hin.later hb1
              replace hI9 := hI9.later hb1
              replace hB := bgo hB hb1
              clear hb1
              have c3 := hin.2 3 _ xr
              have k1 := h1.cell hr8
              have k2 := h1.frozen r
              go_upto_region 10 with fail
              clear c3 k1 k2
              have hck2 := h1.set r (en c r + 1)
              have cs2 := ch_cell (w := w1) (b := w.heap.size) (k := r) (.int .i64 (en c r + 1))
              have hin2 := hin.ch cs2 (by omega)
              have hown2 := hI9.own.ch cs2 (fun k hk e => by have := hI9.new k hk; omega)
              have hb2 : Below w.heap.size w (w1.setCell ⟨w.heap.size, r, none⟩ (.int .i64 (en c r + 1))) := hI9.below.setCell (Nat.le_refl _) _
              have hs2 : w.heap.size < (w1.setCell ⟨w.heap.size, r, none⟩ (.int .i64 (en c r + 1))).heap.size := hck2.lt
              have HA : Hid (adv c x = c.set r (en c r + 1)) := by unfold Hid adv; rw [HN.out.2.2.1]
              have hln : s.length + [x].length ≤ 1000000 := by simp only [List.length_singleton]; omega
              have H2 := hid_of' (And.intro hI9 hck2)
              clear h1 hI9 hin cs2 hck2
              generalize w1.setCell ⟨w.heap.size, r, none⟩ (.int .i64 (en c r + 1)) = w2 at H2 hin2 hown2 hb2 hs2 ⊢
              obtain ⟨ua, uc, hu6, _, _⟩ := hown2.form
              subst hu6
              go_upto_region 11 with (first | (refine wpL_loadA rfl _ rfl rfl hxf hin2 ?_) | (refine wpList_plain rfl fun _ hK => opw_oneA (p := x) _ rfl rfl hxf ?_; refine hK _ _ ?_) | (at_builtin; refine wpL_appA rfl _ _ rfl rfl rfl (hown2.later (below_one w2 (.cells (acv x) 48))) (slC_new w2 x 1) (AFit.one hxf) hln ?_; intro v5 w5 q1 q2 q3))
              have hb3 := bgo hb2 (below_one w2 (.cells (acv x) 48))
              have hnew5 : ∀ k, v5.ownBlock = some k → w.heap.size < k := fun k hk => (q3 k hk).elim (H2.out.1.new k) (fun q => by rw [World.size_alloc] at q; omega)
              have hb5 : Below w.heap.size w w5 := Ch.none ((Ch.of (S := fun k => w.heap.size ≤ k) hb3).grown q2 (fun j hj => .inl (Nat.le_of_lt (H2.out.1.new j hj)))) (fun s hs q => by omega)
              have hck5 : CkAt w.heap.size (adv c x) w5 := by
                rw [HA.out]
                have e1 := H2.out.2.later (below_one w2 (.cells (acv x) 48))
                exact ⟨(grown_ch q2).heap e1.1 (fun e => by have := H2.out.1.new _ e; omega), e1.2⟩
              have HZ := hid_of' (H2.out.1.next ha.1 HN.out.1 hck5 q1 hnew5 hb5)
              clear q1 q2 q3 hb3 hnew5 hb5 hck5
              go_wp2
              go_roundg 0
              case measure => have := HN.out.2.1; omega
              case rel => exact ⟨k + 1, by go_num, by omega, .inr ⟨rfl, rfl, x, HN.out.1, HZ.out⟩⟩
          · have hki : ¬ (k : Int) < (l.length : Int) := by omega
            have hno2 : ∀ x ∈ l, rdyC c x = false := fun x hx => by
              obtain ⟨j, hj⟩ := List.getElem?_of_mem hx
              exact hno j x (by have := (List.getElem?_eq_some_iff.1 hj).1; omega) hj
            have HN := hid_of' (And.intro hno2 I)
            clear hno hno2 I hn1
            go_wp2
            go_roundg (lackN c l + 0)
            case measure => have := HI.out.2; simp at this; omega
            case rel => exact ⟨s, c, false, rfl, rfl, HN.out.2, fun _ => HN.out.1⟩
        · have HN := hid_of' (And.intro hfx I)
          clear hfx I hn1
          have hlt2 := lack_adv hc8.1 (List.mem_of_find?_eq_some HN.out.1) (List.find?_some HN.out.1)
          by_cases hlt : k < l.length
          · have hki : (k : Int) < (l.length : Int) := by omega
            go_wp2
            go_roundg (lackN (adv c x) l + 1)
            case measure => have := HI.out.2; simp at this; omega
            case rel => exact ⟨s ++ [x], adv c x, true, rfl, rfl, HN.out.2, fun e => by cases e⟩
          · have hki : ¬ (k : Int) < (l.length : Int) := by omega
            go_wp2
            go_roundg (lackN (adv c x) l + 1)
            case measure => have := HI.out.2; simp at this; omega
            case rel => exact ⟨s ++ [x], adv c x, true, rfl, rfl, HN.out.2, fun e => by cases e⟩
end Go.Proofs.YtlkcjbmdeimocaaDoor
