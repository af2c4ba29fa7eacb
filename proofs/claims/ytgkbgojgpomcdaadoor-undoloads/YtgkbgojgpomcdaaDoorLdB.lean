
/-
  What Load asks of edits: undo.firstWrong, slices.ContainsFunc, IndexFunc; slices.Grow of nil. slices.Concat of two rows of edits; undo.Load. undo.Load. The document's Load of a Stack.
-/
import Derived.Test.YtgkbgojgpomcdaaDoorUn6
import Derived.Lib.AppendZeros
import Derived.Lib.AppendZerosOnto
import Derived.Test.YtgkbgojgpomcdaaDoorUn14
import Derived.Test.YtgkbgojgpomcdaaDoorUn15
import Derived.Test.YtgkbgojgpomcdaaDoorUn18
namespace Go.Proofs.YtgkbgojgpomcdaaDoor
open Go.RowKit Go.Extern.Stop Go.Stop Go.Extern
set_option maxRecDepth 100000

/-- A change of a kind that is none. -/
def badB (l : List Xg) : Bool := l.any fun e => !okK e.k
theorem firstWrong1_is (e : Xg) (w : World) : Calls Tryd.prog 54 #[.agg (xgv e)] w fun r w' => r = .returned (.bool (!okK e.k)) ∧ Below w.heap.size w w' := by
  have HI := hid_of' (isKind_is e.k)
  have b0 := below_one w (.cells (xgv e) 66)
  have r0 := row_new w (xgv e) 66
  go_enter Tryd.func54, Tryd.ntmps54
  go_upto_region 1 with fail
  generalize w.alloc (.cells (xgv e) 66) = X0 at r0 b0 ⊢
  have c0 : X0.cell? ⟨w.heap.size, 0, none⟩ = some (.int .i64 e.k) := r0.cellIs 0 rfl
  go_wp2_with (go_at_call 55; refine (HI.out _).mono ?_; rintro e w1 ⟨rfl, h0⟩; obtain rfl := h0.symm)
  go_ret
  exact ⟨rfl, b0⟩
theorem any_take {l : List Xg} {k : Nat} {e : Xg} (h : l[k]? = some e) : badB (l.take (k + 1)) = (badB (l.take k) || !okK e.k) := by
  unfold badB
  rw [List.take_add_one, h, List.any_append]
  simp
set_option maxHeartbeats 2000000 in
theorem indexFunc_is {w : World} {v : Value} {l : List Xg} (h : SlD w v l) (hl : l.length ≤ 4398046510976) :
    Calls Tryd.prog 63 #[v, .func (.func 54) #[] #[]] w fun r w' => ∃ z : Int, r = .returned (.int .i64 z) ∧ decide (0 ≤ z) = badB l ∧ Below w.heap.size w w' := by
  obtain ⟨a, c, rfl⟩ := h.form
  have HD := hid_of' h
  clear h
  go_enter Tryd.func63, Tryd.ntmps63
  go_wp2
  go_loopw [8] (fun iv wr => ∃ k : Nat, iv = .int .i64 (k : Int) ∧ k ≤ l.length ∧ badB (l.take k) = false ∧ Below w.heap.size w wr) (fun iv _ => l.length - (intOf iv).toNat)
  case atStart => exact ⟨0, rfl, Nat.zero_le _, rfl, Below.refl _ _⟩
  case round =>
    obtain ⟨k, rfl, hk, hbad, hB⟩ := hrel
    by_cases hkl : k < l.length
    · have hki : (k : Int) < (l.length : Int) := by omega
      obtain ⟨e, he⟩ : ∃ e, l[k]? = some e := ⟨_, List.getElem?_eq_getElem hkl⟩
      obtain ⟨_, g, o_, rfl, hcell⟩ := HD.out.some' (by rintro rfl; simp at hkl)
      have hce := (hcell k e he).later hB
      have HF := hid_of' (firstWrong1_is e)
      have HT := hid_of' (And.intro (any_take he) (And.intro hbad (And.intro hB he)))
      clear hcell he hB
      cases hok : okK e.k
      · rw [hok] at HF
        go_wp2_with (first | (refine wpL_loadG rfl _ rfl rfl hce ?_) | (go_at_call 54; refine (HF.out _).mono ?_; rintro r w1 ⟨rfl, hb1⟩))
        go_ret
        refine ⟨(k : Int), rfl, ?_, bgo HT.out.2.2.1 hb1⟩
        rw [decide_eq_true (by omega)]
        symm
        unfold badB
        rw [List.any_eq_true]
        exact ⟨e, List.mem_of_getElem? HT.out.2.2.2, by rw [hok]; rfl⟩
      · rw [hok] at HF
        go_wp2_with (first | (refine wpL_loadG rfl _ rfl rfl hce ?_) | (go_at_call 54; refine (HF.out _).mono ?_; rintro r w1 ⟨rfl, hb1⟩))
        go_roundw
        case rel => exact ⟨k + 1, by go_num, by omega, by rw [HT.out.1, HT.out.2.1, hok]; rfl, bgo HT.out.2.2.1 hb1⟩
        case measure => simp [intOf]; omega
    · have hki : ¬ (k : Int) < (l.length : Int) := by omega
      obtain rfl : k = l.length := by omega
      rw [List.take_length] at hbad
      go_wp2
      go_ret
      exact ⟨-1, rfl, (by first | (rw [hbad]; rfl) | decide), hB⟩
set_option maxHeartbeats 1000000 in
theorem containsFunc_is {w : World} {v : Value} {l : List Xg} (h : SlD w v l) (hl : l.length ≤ 4398046510976) :
    Calls Tryd.prog 53 #[v, .func (.func 54) #[] #[]] w fun r w' => r = .returned (.bool (badB l)) ∧ Below w.heap.size w w' := by
  obtain ⟨a, c, hv⟩ := h.form
  have HI := hid_of' (indexFunc_is h hl)
  generalize l.length = n at hv
  subst hv
  clear h
  go_enter Tryd.func53, Tryd.ntmps53
  go_wp2_with (go_at_call 63; (with_reducible refine HI.out.mono ?_); rintro r w1 ⟨z, rfl, hz, hb1⟩; have HZ := hid_of' hz; clear hz)
  go_ret
  exact ⟨by rw [← HZ.out]; rfl, hb1⟩
/-- An edit of which no Stack can be loaded. -/
def wrongE (l : List Xg) : Bool := l.isEmpty || badB l
set_option maxHeartbeats 2000000 in
theorem firstWrong_is {w : World} {v : Value} {ls : List (List Xg)} (h : SlE w v ls) (hf : ∀ l ∈ ls, l.length ≤ 4398046510976) (hn : ls.length ≤ 100000) :
    Calls Tryd.prog 39 #[v] w fun r w' => ((∃ (i : Nat) (l : List Xg), ls[i]? = some l ∧ wrongE l = true ∧ (∀ m ∈ ls.take i, wrongE m = false) ∧ r = .returned (.tuple #[.int .i64 (i : Int), .bool true])) ∨ ((∀ m ∈ ls, wrongE m = false) ∧ r = .returned (.tuple #[.int .i64 0, .bool false]))) ∧ Below w.heap.size w w' := by
  obtain ⟨a, c, rfl⟩ := h.form
  have HD := hid_of' (And.intro h hf)
  obtain ⟨n, hnn⟩ : ∃ n, n = ls.length := ⟨_, rfl⟩
  rw [← hnn] at hn HD ⊢
  replace hnn := hid_of' hnn
  clear h hf
  go_enter Tryd.func39, Tryd.ntmps39
  go_wp2
  go_loopw [8] (fun iv wr => ∃ k : Nat, iv = .int .i64 (k : Int) ∧ k ≤ n ∧ (∀ m ∈ ls.take k, wrongE m = false) ∧ Below w.heap.size w wr) (fun iv _ => n - (intOf iv).toNat)
  case atStart => exact ⟨0, rfl, Nat.zero_le _, fun m hm => by simp at hm, Below.refl _ _⟩
  case round =>
    obtain ⟨k, rfl, hk, hall, hB⟩ := hrel
    by_cases hkn : k < n
    · have hki : (k : Int) < (n : Int) := by omega
      obtain ⟨l, hl⟩ : ∃ l, ls[k]? = some l := ⟨_, List.getElem?_eq_getElem (by rw [← hnn.out]; exact hkn)⟩
      obtain ⟨g, o_, u, rfl, hcu, hsu⟩ := HD.out.1.at hl
      have cu : wr.cell? ⟨g, o_ + k, none⟩ = some u := by rw [hB.cell (World.block_lt_of_cell? _ _ hcu)]; exact hcu
      have HC := hid_of' (containsFunc_is (hsu.later hB) (HD.out.2 l (List.mem_of_getElem? hl)))
      obtain ⟨a1, c1, hu9⟩ := hsu.form
      have HX := hid_of' (And.intro hall (And.intro hB hl))
      have HW0 : Hid (wrongE l = (l.isEmpty || badB l)) := rfl
      clear hcu hsu hall hB hl
      by_cases h0 : l = []
      · subst h0
        have hu0 : u = .slice a1 0 c1 := hu9
        subst hu0
        go_wp2
        go_ret2
        exact ⟨.inl ⟨k, [], HX.out.2.2, rfl, HX.out.1, rfl⟩, HX.out.2.1⟩
      · have hl0 : ¬ l.length = 0 := fun e => h0 (List.eq_nil_of_length_eq_zero e)
        have hem : l.isEmpty = false := by cases l with | nil => exact absurd rfl h0 | cons _ _ => rfl
        generalize l.length = nl at hu9 hl0
        subst hu9
        have hl1 : ¬ (nl : Int) = 0 := by omega
        cases hbb : badB l
        · rw [hbb] at HC
          go_wp2_with (go_at_call 53; (with_reducible refine HC.out.mono ?_); rintro r w1 ⟨rfl, hb1⟩)
          go_roundw
          case rel =>
            refine ⟨k + 1, by go_num, by omega, fun m hm => ?_, bgo HX.out.2.1 hb1⟩
            rw [List.take_add_one, HX.out.2.2] at hm
            rcases List.mem_append.1 hm with q | q
            · exact HX.out.1 m q
            · simp at q
              subst q
              rw [HW0.out, hem, hbb]
              rfl
          case measure => simp [intOf]; omega
        · rw [hbb] at HC
          go_wp2_with (go_at_call 53; (with_reducible refine HC.out.mono ?_); rintro r w1 ⟨rfl, hb1⟩)
          go_ret2
          exact ⟨.inl ⟨k, l, HX.out.2.2, by rw [HW0.out, hbb, Bool.or_true], HX.out.1, rfl⟩, bgo HX.out.2.1 hb1⟩
    · have hki : ¬ (k : Int) < (n : Int) := by omega
      rw [List.take_of_length_le (by have := hnn.out; omega)] at hall
      go_wp2
      go_ret2
      exact ⟨.inr ⟨hall, rfl⟩, hB⟩
theorem below_drewE (w : World) (o : Obj) : Below w.heap.size w (w.drew.alloc o) := ⟨(below_one w o).os, (below_one w o).tape, (below_one w o).output, (below_one w o).size, (below_one w o).block⟩
set_option maxHeartbeats 2000000 in
theorem growE (n : Nat) (w : World) (hn : n ≤ 64) :
    Calls Tryd.prog 56 #[.slice none 0 0, .int .i64 n] w fun r w' => ∃ v, r = .returned v ∧ OwnV v [] w' ∧ (∀ k, v.ownBlock = some k → w.heap.size ≤ k) ∧ Below w.heap.size w w' := by
  by_cases h : n = 0
  · subst h
    go_enter Tryd.func56, Tryd.ntmps56
    go_wp2
    go_ret
    exact ⟨_, rfl, OwnV.nil _, (fun k hk => (by cases hk)), Below.refl _ _⟩
  · obtain ⟨i0, hi, hz0, hz1, hz2⟩ := info_parts info_gs
    have h0 : 0 < n := by omega
    have hrz : ∀ ty, (Builtin.append_ #[27, 3] ty #[.slice none 0 0, .int .i64 (n : Int)]).run Tryd.prog w = _ := fun ty =>
      Lib.run_append_grow_zeros w 27 3 ty 33 i0 _ .i64 .i64 Tryd.underlying27 Tryd.underlying3 hi hz0 none 0 0 [] (run_firstCells_none w.drew i0.size 0 0 0) n h0 (by omega) (by omega) (by omega) (by rw [hz2]; omega)
        (growslice_fits (by omega) (by rw [hz2]; omega))
    have hGn : 0 + n ≤ grownCap w (0 + n) 0 33 := grownCap_ge w _ _ _
    have hG63 := grownCap_le_maxLen w (0 + n) 0 33 (by unfold maxLen; omega)
    obtain ⟨G, hG⟩ : ∃ G, grownCap w (0 + n) 0 33 = G := ⟨_, rfl⟩
    rw [hG] at hrz hGn hG63
    unfold maxLen at hG63
    have h1 : ¬ ((n : Int) < 0) := by omega
    have h4 : (0 : Int) < (n : Int) := by omega
    clear hG
    go_enter Tryd.func56, Tryd.ntmps56
    go_wp2_with (at_builtin; refine Lib.wpList_append_run _ rfl _ _ _ _ rfl _ _ rfl rfl _ _ (hrz _) ?_)
    go_ret
    refine ⟨_, rfl, ⟨⟨rfl, .inr ⟨w.heap.size, G, _, rfl, heap_alloc_last w.drew _, by simp, by unfold maxLen; omega, ?_, by simp⟩⟩, fun u hu => by cases hu⟩, (fun k hk => (by cases hk; exact Nat.le_refl _)), below_drewE w _⟩
    simp only [Array.size_append, size_zeroCells]
    show G * 1 ≤ _
    simp
    omega
end Go.Proofs.YtgkbgojgpomcdaaDoor
namespace Go.Proofs.YtgkbgojgpomcdaaDoor
open Go.RowKit Go.Extern.Stop Go.Stop Go.Extern
set_option maxRecDepth 100000

/-- What append takes of edits. -/
theorem SlE.so {w : World} {v : Value} {ls : List (List Xg)} (h : SlE w v ls) : ∃ us, So 1 v ls.length us w ∧ us.length = ls.length ∧ (∀ u ∈ us, ∃ a n c, u = .slice a n c) ∧ ∀ (i : Nat) (u : Value) (l : List Xg), us[i]? = some u → ls[i]? = some l → SlD w u l := by
  rcases h with ⟨rfl, a, c, rfl⟩ | ⟨g, o_, c, us, rfl, h1, h2, h3⟩
  · exact ⟨[], ⟨rfl, .inl ⟨rfl, _, _, rfl⟩⟩, rfl, (fun u hu => (by cases hu)), (fun i u l hu => (by simp at hu))⟩
  · refine ⟨us, ⟨by rw [h1, Nat.mul_one], .inr ⟨⟨g, o_, none⟩, c, rfl, fun j x hx => by rw [Addr.add_lit]; exact h2 j x hx⟩⟩, h1, fun u hu => ?_, h3⟩
    obtain ⟨i, hi⟩ := List.getElem?_of_mem hu
    have hlt := (List.getElem?_eq_some_iff.1 hi).1
    obtain ⟨a, c, e⟩ := (h3 i u _ hi (List.getElem?_eq_getElem (by omega))).form
    exact ⟨a, _, c, e⟩
theorem So.later'' {size : Nat} {v : Value} {n : Nat} {xs : List Value} {w w' : World} (h : So size v n xs w) (hb : Below w.heap.size w w') : So size v n xs w' := by
  refine ⟨h.1, ?_⟩
  rcases h.2 with q | ⟨a, c, rfl, q⟩
  · exact .inl q
  · exact .inr ⟨a, c, rfl, fun j x hx => by have := q j x hx; rw [hb.cell (World.block_lt_of_cell? _ _ this)]; exact this⟩
theorem slE_of {w : World} {v : Value} {us : List Value} {ls : List (List Xg)} (h : OwnV v us w) (hl : us.length = ls.length) (hs : ∀ (i : Nat) (u : Value) (l : List Xg), us[i]? = some u → ls[i]? = some l → SlD w u l) : SlE w v ls := by
  have h0 := h.1
  rcases h.1.2 with ⟨rfl, hn⟩ | ⟨g, cap, cur, rfl, hg, _⟩
  · exact .inl ⟨List.eq_nil_of_length_eq_zero (by omega), _, _, rfl⟩
  · exact .inr ⟨g, 0, cap, us, by rw [hl], hl, fun i u hu => h0.cells _ _ hu, hs⟩
theorem app_at {α β : Type} {P : α → β → Prop} {xa xb : List α} {cs ds : List β} (hl : xa.length = cs.length) (h1 : ∀ (i : Nat) (x : α) (y : β), xa[i]? = some x → cs[i]? = some y → P x y) (h2 : ∀ (i : Nat) (x : α) (y : β), xb[i]? = some x → ds[i]? = some y → P x y) : ∀ (i : Nat) (x : α) (y : β), (xa ++ xb)[i]? = some x → (cs ++ ds)[i]? = some y → P x y := fun i x y hx hy => by
  by_cases e : i < xa.length
  · rw [List.getElem?_append_left e] at hx
    rw [List.getElem?_append_left (by omega)] at hy
    exact h1 i x y hx hy
  · rw [List.getElem?_append_right (by omega)] at hx
    rw [List.getElem?_append_right (by omega), ← hl] at hy
    exact h2 _ x y hx hy
set_option maxHeartbeats 4000000 in
theorem concat_ok {w : World} {gb : Nat} {vd vu : Value} {ds us : List (List Xg)} (hr : RowAt gb #[vd, vu] 27 w) (hd : SlE w vd ds) (hu : SlE w vu us) (hn : ds.length + us.length ≤ 64) :
    Calls Tryd.prog 40 #[.slice (some ⟨gb, 0, none⟩) 2 2] w fun e w' => ∃ v, e = .returned v ∧ SlE w' v (ds ++ us) ∧ Below w.heap.size w w' := by
  obtain ⟨xs, hx1, hx2, hx3, hx4⟩ := hd.so
  obtain ⟨ys, hy1, hy2, hy3, hy4⟩ := hu.so
  obtain ⟨a0, c0, hv0⟩ := hd.form
  obtain ⟨a1, c1, hv1⟩ := hu.form
  obtain ⟨nd, hnd⟩ : ∃ nd, nd = ds.length := ⟨_, rfl⟩
  obtain ⟨nu, hnu⟩ : ∃ nu, nu = us.length := ⟨_, rfl⟩
  rw [← hnd] at hv0 hx1 hx2 hn
  rw [← hnu] at hv1 hy1 hy2 hn
  subst hv0 hv1
  have HX := hid_of' (And.intro hx1 (And.intro hx2 (And.intro hx3 (And.intro hx4 (And.intro hy1 (And.intro hy2 (And.intro hy3 (And.intro hy4 (And.intro hnd hnu)))))))))
  have HR := hid_of' hr
  have e0 : w.cell? ⟨gb, 0, none⟩ = some (.slice a0 nd c0) := hr.cellIs 0 rfl
  have e1 : w.cell? ⟨gb, 1, none⟩ = some (.slice a1 nu c1) := hr.cellIs 1 rfl
  have HG := hid_of' (fun x => growE (nd + nu) x hn)
  have hcast : (((nd + nu : Nat)) : Int) = (nd : Int) + (nu : Int) := by omega
  rw [hcast] at HG
  have hw1 : (nd : Int) ≤ 64 := by omega
  have hw2 : (nd : Int) + (nu : Int) ≤ 64 := by omega
  have g0 : ¬ (nd : Int) < 0 := by omega
  have g1 : ¬ (nd : Int) + (nu : Int) < 0 := by omega
  clear hr hd hu hx1 hx2 hx3 hx4 hy1 hy2 hy3 hy4 hnd hnu hcast
  have n1 : wrap64 (nd : Int) = (nd : Int) := wrapIs (by omega) (by omega)
  have n2 : wrap64 ((nd : Int) + (nu : Int)) = (nd : Int) + (nu : Int) := wrapIs (by omega) (by omega)
  go_enter Tryd.func40, Tryd.ntmps40
  go_wp2
  go_loopw [3, 11] (fun sv iv wr => wr = w ∧ ((iv = .int .i64 0 ∧ sv = .int .i64 0) ∨ (iv = .int .i64 1 ∧ sv = .int .i64 (nd : Int)) ∨ (iv = .int .i64 2 ∧ sv = .int .i64 ((nd : Int) + (nu : Int))))) (fun _ iv _ => 2 - (intOf iv).toNat)
  case atStart => exact ⟨rfl, .inl ⟨rfl, rfl⟩⟩
  case round =>
    obtain ⟨hwr, hst⟩ := hrel
    obtain rfl := hwr.symm
    rcases hst with ⟨rfl, rfl⟩ | ⟨rfl, rfl⟩ | ⟨rfl, rfl⟩
    · go_wp2
      go_roundw
      case rel => exact ⟨(by first | rfl | trivial), .inr (.inl ⟨rfl, rfl⟩)⟩
      case measure => simp [intOf]
    · go_wp2
      go_roundw
      case rel => exact ⟨(by first | rfl | trivial), .inr (.inr ⟨rfl, rfl⟩)⟩
      case measure => simp [intOf]
    · go_upto_region 11 with (go_at_call 56; (with_reducible refine (HG.out _).mono ?_); rintro e w1 ⟨v1, rfl, ho1, hw1', hb1⟩; clear HG; obtain ⟨a9, c9, hv9⟩ := ho1.form; generalize List.length _ = n9 at hv9; subst hv9; have H1 := hid_of' (And.intro ho1 (And.intro hw1' hb1)); clear ho1 hw1' hb1)
      clear e0 e1 n1 n2
      go_loopw [6, 27] (fun ov iv wr => ∃ (k : Nat) (zs : List Value), iv = .int .i64 (k : Int) ∧ k ≤ 2 ∧ OwnV ov zs wr ∧ zs = (if k = 0 then [] else if k = 1 then xs else xs ++ ys) ∧ (∀ k, ov.ownBlock = some k → w.heap.size ≤ k) ∧ Below w.heap.size w wr) (fun _ iv _ => 2 - (intOf iv).toNat)
      case atStart => exact ⟨0, [], rfl, by decide, H1.out.1, rfl, H1.out.2.1, H1.out.2.2⟩
      case round =>
        obtain ⟨k, zs, rfl, hk, hz, hzs, hzo, hB⟩ := hrel
        obtain ⟨hx1, hx2, hx3, hx4, hy1, hy2, hy3, hy4, hnd, hnu⟩ := HX.out
        obtain ⟨az, cz, hvz⟩ := hz.form
        match k, hk with
        | 0, _ =>
          have hzs : zs = [] := hzs
          have e0 : wr.cell? ⟨gb, 0, none⟩ = some (.slice a0 nd c0) := (HR.out.later hB).cellIs 0 rfl
          have HA := hid_of' (And.intro hz (And.intro (hx1.later'' hB) (And.intro hx3 (And.intro hzo (And.intro hB hzs)))))
          generalize zs.length = nz at hvz
          subst hvz
          clear hx1 hx2 hx3 hx4 hy1 hy2 hy3 hy4 hz hzo hB hzs hnd hnu
          go_wp2_with (at_builtin; refine wpL_appE (m := xs) rfl _ _ rfl rfl rfl HA.out.1 HA.out.2.1 HA.out.2.2.1 (by have := HA.out.2.2.2.2.2; rw [this]; simp only [List.length_nil]; omega) ?_; intro v6 w6 q1 q2 q3; obtain ⟨a6, c6, hv6⟩ := q1.form; generalize List.length _ = n6 at hv6; subst hv6; have HQ := hid_of' (And.intro q1 (And.intro q2 q3)); clear q1 q2 q3)
          go_roundw
          case rel =>
            obtain ⟨q1, q2, q3⟩ := HQ.out
            obtain ⟨hz, hs, h3, hzo, hB, hzs⟩ := HA.out
            rw [hzs, List.nil_append] at q1
            refine ⟨1, xs, rfl, by decide, q1, rfl, fun b hb => ?_, hB.grown q2 hB.size (fun b hb => hzo b hb)⟩
            rcases q3 b hb with q | q
            · exact hzo b q
            · have := hB.size; omega
          case measure => simp [intOf]
        | 1, _ =>
          have hzs : zs = xs := hzs
          have e1 : wr.cell? ⟨gb, 1, none⟩ = some (.slice a1 nu c1) := (HR.out.later hB).cellIs 1 rfl
          have HA := hid_of' (And.intro hz (And.intro (hy1.later'' hB) (And.intro hy3 (And.intro hzo (And.intro hB (And.intro hzs hx2))))))
          generalize zs.length = nz at hvz
          subst hvz
          clear hx1 hx2 hx3 hx4 hy1 hy2 hy3 hy4 hz hzo hB hzs hnd hnu
          go_wp2_with (at_builtin; refine wpL_appE (m := ys) rfl _ _ rfl rfl rfl HA.out.1 HA.out.2.1 HA.out.2.2.1 (by have h1 := HA.out.2.2.2.2.2.1; have h2 := HA.out.2.2.2.2.2.2; rw [h1]; omega) ?_; intro v6 w6 q1 q2 q3; obtain ⟨a6, c6, hv6⟩ := q1.form; generalize List.length _ = n6 at hv6; subst hv6; have HQ := hid_of' (And.intro q1 (And.intro q2 q3)); clear q1 q2 q3)
          go_roundw
          case rel =>
            obtain ⟨q1, q2, q3⟩ := HQ.out
            obtain ⟨hz, hs, h3, hzo, hB, hzs, _⟩ := HA.out
            rw [hzs] at q1
            refine ⟨2, xs ++ ys, rfl, by decide, q1, rfl, fun b hb => ?_, hB.grown q2 hB.size (fun b hb => hzo b hb)⟩
            rcases q3 b hb with q | q
            · exact hzo b q
            · have := hB.size; omega
          case measure => simp [intOf]
        | 2, _ =>
          have hzs : zs = xs ++ ys := hzs
          subst hzs
          have HA := hid_of' (And.intro (slE_of (ls := ds ++ us) hz (by rw [List.length_append, List.length_append, hx2, hy2, hnd, hnu]) (app_at (hx2.trans hnd) (fun i x y h1 h2 => (hx4 i x y h1 h2).later hB) (fun i x y h1 h2 => (hy4 i x y h1 h2).later hB))) hB)
          generalize (xs ++ ys).length = nz at hvz
          subst hvz
          clear hx1 hx2 hx3 hx4 hy1 hy2 hy3 hy4 hz hzo hB hnd hnu
          go_wp2
          go_ret
          exact ⟨_, rfl, HA.out.1, HA.out.2⟩
end Go.Proofs.YtgkbgojgpomcdaaDoor
namespace Go.Proofs.YtgkbgojgpomcdaaDoor
open Go.RowKit Go.Extern.Stop Go.Stop Go.Extern
set_option maxRecDepth 100000

def bLoad : ByteArray := ⟨#[76, 111, 97, 100]⟩
/-- The first wrong one. -/
def FirstW (ls : List (List Xg)) (i : Nat) : Prop := (∃ l, ls[i]? = some l ∧ wrongE l = true) ∧ ∀ m ∈ ls.take i, wrongE m = false
theorem first_split : ∀ ls : List (List Xg), (∀ m ∈ ls, wrongE m = false) ∨ ∃ i, FirstW ls i
  | [] => .inl fun m hm => by cases hm
  | l :: ls => by
    cases h : wrongE l
    · rcases first_split ls with q | ⟨i, ⟨x, h1, h2⟩, h3⟩
      · refine .inl fun m hm => ?_
        rcases List.mem_cons.1 hm with rfl | hm
        · exact h
        · exact q m hm
      · refine .inr ⟨i + 1, ⟨x, by simpa using h1, h2⟩, fun m hm => ?_⟩
        rw [List.take_succ_cons] at hm
        rcases List.mem_cons.1 hm with rfl | hm
        · exact h
        · exact h3 m hm
    · exact .inr ⟨0, ⟨l, rfl, h⟩, fun m hm => by simp at hm⟩
theorem FirstW.one {ls : List (List Xg)} {i j : Nat} (h : FirstW ls i) (k : FirstW ls j) : i = j := by
  have key : ∀ {i j : Nat}, FirstW ls i → FirstW ls j → ¬ i < j := fun {i j} h k hij => by
    obtain ⟨⟨l, h1, h2⟩, _⟩ := h
    have := k.2 l (List.mem_of_getElem? (i := i) (by rw [List.getElem?_take_of_lt hij]; exact h1))
    rw [h2] at this
    cases this
  rcases Nat.lt_trichotomy i j with q | q | q
  · exact absurd q (key h k)
  · exact q
  · exact absurd q (key k h)
theorem FirstW.not {ls : List (List Xg)} {i : Nat} (h : FirstW ls i) (k : ∀ m ∈ ls, wrongE m = false) : False := by
  obtain ⟨⟨l, h1, h2⟩, _⟩ := h
  have := k l (List.mem_of_getElem? h1)
  rw [h2] at this
  cases this
theorem firstWrong_yes {w : World} {v : Value} {ls : List (List Xg)} {i : Nat} (h : SlE w v ls) (hf : ∀ l ∈ ls, l.length ≤ 4398046510976) (hn : ls.length ≤ 100000) (hi : FirstW ls i) :
    Calls Tryd.prog 39 #[v] w fun r w' => r = .returned (.tuple #[.int .i64 (i : Int), .bool true]) ∧ Below w.heap.size w w' :=
  (firstWrong_is h hf hn).mono fun r w' ⟨q, hb⟩ => by
    rcases q with ⟨j, l, h1, h2, h3, rfl⟩ | ⟨h1, _⟩
    · rw [hi.one ⟨⟨l, h1, h2⟩, h3⟩]
      exact ⟨rfl, hb⟩
    · exact (hi.not h1).elim
theorem firstWrong_no {w : World} {v : Value} {ls : List (List Xg)} (h : SlE w v ls) (hf : ∀ l ∈ ls, l.length ≤ 4398046510976) (hn : ls.length ≤ 100000) (hi : ∀ m ∈ ls, wrongE m = false) :
    Calls Tryd.prog 39 #[v] w fun r w' => r = .returned (.tuple #[.int .i64 0, .bool false]) ∧ Below w.heap.size w w' :=
  (firstWrong_is h hf hn).mono fun r w' ⟨q, hb⟩ => by
    rcases q with ⟨j, l, h1, h2, h3, rfl⟩ | ⟨_, rfl⟩
    · exact (FirstW.not ⟨⟨l, h1, h2⟩, h3⟩ hi).elim
    · exact ⟨rfl, hb⟩
section
variable {ad : Nat → Addr} {w : World} {vd vu : Value} {ds us : List (List Xg)}
set_option maxHeartbeats 2000000 in
theorem load_arg (L : Laid ad w) (hd : SlE w vd ds) (hu : SlE w vu us) (h1 : ds.length ≤ 70) (h2 : us.length ≤ 70) (h : 64 < ds.length + us.length) :
    Calls Tryd.prog 14 #[vd, vu] w fun e w' => ∃ v, e = .returned (.tuple #[.pointer none, v]) ∧ ErrR ad w.heap.size (some (bLoad, (ds.length : Int) + (us.length : Int), 0)) v w' ∧ Below w.heap.size w w' := by
  obtain ⟨a0, c0, rfl⟩ := hd.form
  obtain ⟨a1, c1, rfl⟩ := hu.form
  have LV : w.cell? ⟨0, 0, none⟩ = some (.iface 156 (.pointer (some (ad 0)))) := L.var 0 (by omega)
  generalize ds.length = nd at *
  generalize us.length = nu at *
  have HF := hid_of' (newF (ad := ad) bU bLoad ((nd : Int) + (nu : Int)) 0 w)
  have g1 : 64 < (nd : Int) + (nu : Int) := by omega
  have n2 : wrap64 ((nd : Int) + (nu : Int)) = (nd : Int) + (nu : Int) := wrapIs (by omega) (by omega)
  clear L hd hu
  go_enter Tryd.func14, Tryd.ntmps14
  go_wp2_with (go_at_call 38; refine HF.out.mono ?_; rintro r w2 ⟨rfl, hf, hb1⟩)
  go_ret2
  exact ⟨_, rfl, ⟨_, rfl, Nat.le_refl _, by decide, hf⟩, hb1⟩
set_option maxHeartbeats 2000000 in
theorem load_form (L : Laid ad w) (hd : SlE w vd ds) (hu : SlE w vu us) (hf : ∀ l ∈ ds ++ us, l.length ≤ 4398046510976) (h : ds.length + us.length ≤ 64) {i : Nat} (hi : FirstW (ds ++ us) i) :
    Calls Tryd.prog 14 #[vd, vu] w fun e w' => ∃ v, e = .returned (.tuple #[.pointer none, v]) ∧ ErrR ad w.heap.size (some (bLoad, (i : Int), 5)) v w' ∧ Below w.heap.size w w' := by
  obtain ⟨a0, c0, hv0⟩ := hd.form
  obtain ⟨a1, c1, hv1⟩ := hu.form
  have b1 := below_one w (.cells #[vd, vu] 27)
  have HC := hid_of' (concat_ok (row_new w #[vd, vu] 27) (hd.later b1) (hu.later b1) h)
  have HI := hid_of' (And.intro hf (And.intro hi (show (ds ++ us).length ≤ 100000 by rw [List.length_append]; omega)))
  have HL := hid_of' L
  have HF := hid_of' (fun x => newF (ad := ad) bU bLoad (i : Int) 5 x)
  generalize ds.length = nd at hv0 h
  generalize us.length = nu at hv1 h
  subst hv0 hv1
  have g1 : ¬ 64 < (nd : Int) + (nu : Int) := by omega
  have n2 : wrap64 ((nd : Int) + (nu : Int)) = (nd : Int) + (nu : Int) := wrapIs (by omega) (by omega)
  have HB := hid_of' b1
  clear L hd hu hf hi b1
  go_enter Tryd.func14, Tryd.ntmps14
  go_upto_region 5 with (first | (go_at_call 40; (with_reducible refine HC.out.mono ?_); rintro e w2 ⟨v2, rfl, hs2, hb2⟩; clear HC; obtain ⟨a2, c2, hv2⟩ := hs2.form; have HW := hid_of' (firstWrong_yes hs2 HI.out.1 HI.out.2.2 HI.out.2.1); have H2 := hid_of' (bgo HB.out hb2); generalize List.length _ = n2' at hv2; subst hv2; clear hs2 hb2) | (go_at_call 39; (with_reducible refine HW.out.mono ?_); rintro e w3 ⟨rfl, hb3⟩; clear HW; have H3 := hid_of' (bgo H2.out hb3); clear hb3))
  have LV : w3.cell? ⟨1, 0, none⟩ = some (.iface 156 (.pointer (some (ad 5)))) := (HL.out.below H3.out).var 5 (by omega)
  go_wp2_with (go_at_call 38; refine (HF.out _).mono ?_; rintro r w4 ⟨rfl, hf4, hb4⟩)
  go_ret2
  exact ⟨_, rfl, ⟨_, rfl, H3.out.size, by decide, hf4⟩, bgo H3.out hb4⟩
theorem right_ne {l : List Xg} (h : wrongE l = false) : l ≠ [] := fun e => by rw [e] at h; cases h
set_option maxHeartbeats 2000000 in
theorem load_ok (hd : SlE w vd ds) (hu : SlE w vu us) (hf : ∀ l ∈ ds ++ us, l.length ≤ 4398046510976) (h : ds.length + us.length ≤ 64) (hi : ∀ m ∈ ds ++ us, wrongE m = false) :
    Calls Tryd.prog 14 #[vd, vu] w fun e w' => ∃ B vd9 vu9 F, e = .returned (.tuple #[.pointer (some ⟨B, 0, none⟩), .nilIface]) ∧ SkAt 68 B vd9 vu9 F ds us w' ∧ (∀ k, F k → w.heap.size ≤ k) ∧ Below w.heap.size w w' := by
  obtain ⟨a0, c0, hv0⟩ := hd.form
  obtain ⟨a1, c1, hv1⟩ := hu.form
  have b1 := below_one w (.cells #[vd, vu] 27)
  have HC := hid_of' (concat_ok (row_new w #[vd, vu] 27) (hd.later b1) (hu.later b1) h)
  have HI := hid_of' (And.intro hf (And.intro hi (And.intro (show (ds ++ us).length ≤ 100000 by rw [List.length_append]; omega) (And.intro (show ds.length ≤ 64 by omega) (show us.length ≤ 64 by omega)))))
  have HS := hid_of' (And.intro hd hu)
  generalize ds.length = nd at hv0 h
  generalize us.length = nu at hv1 h
  subst hv0 hv1
  have g1 : ¬ 64 < (nd : Int) + (nu : Int) := by omega
  have n2 : wrap64 ((nd : Int) + (nu : Int)) = (nd : Int) + (nu : Int) := wrapIs (by omega) (by omega)
  have HB := hid_of' b1
  clear hd hu hf hi b1
  go_enter Tryd.func14, Tryd.ntmps14
  go_upto_region 7 with (first | (go_at_call 40; (with_reducible refine HC.out.mono ?_); rintro e w2 ⟨v2, rfl, hs2, hb2⟩; clear HC; obtain ⟨a2, c2, hv2⟩ := hs2.form; have HW := hid_of' (firstWrong_no hs2 HI.out.1 HI.out.2.2.1 HI.out.2.1); have H2 := hid_of' (bgo HB.out hb2); generalize List.length _ = n2' at hv2; subst hv2; clear hs2 hb2) | (go_at_call 39; (with_reducible refine HW.out.mono ?_); rintro e w3 ⟨rfl, hb3⟩; clear HW; have H3 := hid_of' (bgo H2.out hb3); clear hb3))
  have HC1 := hid_of' (copied_ok (HS.out.1.later H3.out) (fun l hl => ⟨right_ne (HI.out.2.1 l (List.mem_append_left _ hl)), HI.out.1 l (List.mem_append_left _ hl)⟩) (Nat.le_trans HI.out.2.2.2.1 (by decide)))
  go_wp2_with (first | (go_at_call_of 41 (Value.slice a0 nd c0); (with_reducible refine HC1.out.mono ?_); rintro e w4 ⟨v4, rfl, hn4, hb4⟩; clear HC1; obtain ⟨us4, ho4, _⟩ := hn4.ex; obtain ⟨a4, c4, hv4⟩ := ho4.form; have H4 := hid_of' (And.intro hn4 (bgo H3.out hb4)); generalize List.length _ = n4 at hv4; subst hv4; clear hn4 hb4 ho4; have HC2 := hid_of' (copied_ok (HS.out.2.later H4.out.2) (fun l hl => ⟨right_ne (HI.out.2.1 l (List.mem_append_right _ hl)), HI.out.1 l (List.mem_append_right _ hl)⟩) (Nat.le_trans HI.out.2.2.2.2 (by decide)))) | (go_at_call 41; (with_reducible refine HC2.out.mono ?_); rintro e w5 ⟨v5, rfl, hn5, hb5⟩; clear HC2; obtain ⟨us5, ho5, _⟩ := hn5.ex; obtain ⟨a5, c5, hv5⟩ := ho5.form; have H5 := hid_of' (And.intro hn5 hb5); generalize List.length _ = n5 at hv5; subst hv5; clear hn5 hb5 ho5))
  go_ret2
  obtain ⟨hn4, hb4⟩ := H4.out
  obtain ⟨hn5, hb5⟩ := H5.out
  have b6 := below_one w5 (.cells #[.slice a4 n4 c4, .slice a5 n5 c5] 68)
  have r6 := row_new w5 #[.slice a4 n4 c4, .slice a5 n5 c5] 68
  have s3 := H3.out.size
  have s4 := hb4.size
  have s5 := hb5.size
  have hbW : Below w.heap.size w w5 := bgo hb4 hb5
  refine ⟨w5.heap.size, _, _, fun k => w.heap.size ≤ k ∧ k < (w5.alloc (.cells #[.slice a4 n4 c4, .slice a5 n5 c5] 68)).heap.size, rfl, ⟨r6, ((hn4.row.later hb5).later b6).mono (fun k hk hq => ⟨by have hk' : w3.heap.size ≤ k := hk; omega, hq⟩), (hn5.row.later b6).mono (fun k hk hq => ⟨by have hk' : w4.heap.size ≤ k := hk; omega, hq⟩), fun k hk hk' => ?_, HI.out.2.2.2.1, HI.out.2.2.2.2, ⟨hbW.size, r6.lt⟩, fun k hk => ?_, fun k hk => ?_, fun k hk => hk.2⟩, fun k hk => hk.1, bgo hbW b6⟩
  · have h1 := hn4.row.lt k hk
    have h2 := hn5.own k hk'
    omega
  · have h1 := hn4.own k hk
    have h2 := hn4.row.lt k hk
    exact ⟨by omega, by rw [World.size_alloc]; omega⟩
  · have h1 := hn5.own k hk
    have h2 := hn5.row.lt k hk
    exact ⟨by omega, by rw [World.size_alloc]; omega⟩
end
end Go.Proofs.YtgkbgojgpomcdaaDoor
namespace Go.Proofs.YtgkbgojgpomcdaaDoor
open Go.RowKit Go.Extern.Stop Go.Stop Go.Extern
set_option maxRecDepth 100000

set_option maxHeartbeats 2000000 in
theorem refLoad_arg {w : World} {vd vu : Value} {ds us : List (List Xg)} (hd : SlE w vd ds) (hu : SlE w vu us) (h1 : ds.length ≤ 70) (h2 : us.length ≤ 70) (h : 64 < ds.length + us.length) :
    Calls Tryd.prog 15 #[vd, vu] w fun e w' => ∃ v, e = .returned (.tuple #[.pointer none, v]) ∧ NoR w.heap.size (some (bLoad, (ds.length : Int) + (us.length : Int), 0)) v w' ∧ Below w.heap.size w w' := by
  obtain ⟨a0, c0, rfl⟩ := hd.form
  obtain ⟨a1, c1, rfl⟩ := hu.form
  generalize ds.length = nd at *
  generalize us.length = nu at *
  have g1 : 64 < (nd : Int) + (nu : Int) := by omega
  have n2 : wrap64 ((nd : Int) + (nu : Int)) = (nd : Int) + (nu : Int) := wrapIs (by omega) (by omega)
  have hY := fun x => say_is bLoad ((nd : Int) + (nu : Int)) 0 x
  rw [show (((0 : Nat) : Int) + 1) = 1 from rfl] at hY
  have HY := hid_of' hY
  clear hY
  clear hd hu
  have r0 := row_new w (nov 0 none 0 0 none 0 0) 47
  have b0 := below_one w (.cells (nov 0 none 0 0 none 0 0) 47)
  go_enter Tryd.func15, Tryd.ntmps15
  go_upto_region 1 with fail
  change Code.wp _ _ _ _ (w.alloc (.cells (nov 0 none 0 0 none 0 0) 47))
  generalize w.alloc (.cells (nov 0 none 0 0 none 0 0) 47) = X0 at r0 b0 ⊢
  generalize hnb5 : w.heap.size = nb5 at r0 ⊢
  have b1 := below_one X0 (.cells #[.slice none 0 0, .slice none 0 0] 29)
  go_upto_region 2 with fail
  generalize X0.alloc (.cells #[.slice none 0 0, .slice none 0 0] 29) = X1 at b1 ⊢
  have HLT : Hid (nb5 < X1.heap.size) := by show _ < _; have := r0.lt; have := b1.size; omega
  have HLE : Hid (w.heap.size ≤ X1.heap.size) := (bgo b0 b1).size
  have r1 := r0.later b1
  go_wp2_with (first | (go_at_call 29; refine (HY.out _).mono ?_; rintro e w4 ⟨v4, rfl, hn4, hb4⟩; clear HY; have HN9 := hid_of' (And.intro hn4 hb4); obtain ⟨g4, g4', rfl, _⟩ := hn4; clear hb4) | (refine wpL_storeNo rfl _ _ rfl rfl rfl (r1.later HN9.out.2) ?_))
  have k4 := Ch.row (S := fun k => k = nb5) (Ch.refl _ w4) (.inl rfl) (nov (((0 : Nat) : Int) + 1) (some ⟨g4', 0, none⟩) 1 1 (some ⟨g4, 0, none⟩) 1 1)
  have hn5 := NoR.ch HN9.out.1 k4 (fun s hs e => by have := HLT.out; have e' : s = nb5 := e; omega)
  have hn6 : NoR w.heap.size (some (bLoad, (nd : Int) + (nu : Int), 0)) (.agg (nov (((0 : Nat) : Int) + 1) (some ⟨g4', 0, none⟩) 1 1 (some ⟨g4, 0, none⟩) 1 1)) (w4.setRow nb5 (nov (((0 : Nat) : Int) + 1) (some ⟨g4', 0, none⟩) 1 1 (some ⟨g4, 0, none⟩) 1 1)) := by
    obtain ⟨x, x', e1, e2, e3, e4, e5⟩ := hn5
    exact ⟨x, x', e1, by have := HLE.out; omega, by have := HLE.out; omega, e4, e5⟩
  exact bodyPost_ret (v := .tuple #[.pointer none, .agg (nov (((0 : Nat) : Int) + 1) (some ⟨g4', 0, none⟩) 1 1 (some ⟨g4, 0, none⟩) 1 1)]) (results_tNo (fn := Tryd.f15) (t := 4) (u := 5) rfl rfl ((r1.later HN9.out.2).put (nov (((0 : Nat) : Int) + 1) (some ⟨g4', 0, none⟩) 1 1 (some ⟨g4, 0, none⟩) 1 1)) rfl) rfl ⟨_, rfl, hnb5 ▸ hn6, hnb5 ▸ below_row (bgo (bgo b0 b1) HN9.out.2) (by omega) _⟩
theorem world_d {sb : Nat} {vd vu v6 : Value} {F : Nat → Prop} {d u : List (List Xg)} {l : List Xg} {ws : List Value} {wr w6 : World} (hS : SkAt 29 sb vd vu F d u wr) (hE : EsAt F ws d wr) (hp : NwP wr.heap.size ws l v6 w6) (hb6 : Below wr.heap.size wr w6) :
    ∃ F9, SkAt 29 sb v6 vu F9 (nwL d l) u (w6.setCell ⟨sb, 0, none⟩ v6) ∧ (∀ b, F9 b → F b ∨ wr.heap.size ≤ b) ∧ Ch (fun b => b = sb) w6 (w6.setCell ⟨sb, 0, none⟩ v6) := by
  obtain ⟨⟨y, q1, q2⟩, q3⟩ := hp
  obtain ⟨zs, hO2, hE2⟩ := hS.ru.open
  have rX := hS.lies.later hb6
  have r2 : RowAt sb #[v6, vu] 29 (w6.setCell ⟨sb, 0, none⟩ v6) := rX.setc 0 v6
  have cB : Ch (fun b => b = sb) w6 (w6.setCell ⟨sb, 0, none⟩ v6) := (Ch.refl (fun b => b = sb) w6).set (p := ⟨sb, 0, none⟩) (.inl rfl) _
  have c2 : Ch (fun b => b = sb) wr (w6.setCell ⟨sb, 0, none⟩ v6) := (Ch.of hb6).go cB (fun s q => .inl q)
  have hsl := hS.lies.lt
  have q1' := q1.ch cB (fun b hb e => by have e' : b = sb := e; have := q3 b hb; omega)
  have q2' := q2.ch cB (fun b hb e => by have e' : b = sb := e; omega)
  have hTy : ∀ b, b = sb → b < wr.heap.size → ¬ ∃ cur, wr.heap[b]? = some (.cells cur 66 (0, 0)) := fun b hb _ hc => by
    obtain ⟨cur, hc⟩ := hc
    exact typ_ne hS.lies hc (by decide) hb
  have hEx := hE.apartOf c2 hTy
  have hE2' := hE2.apartOf c2 hTy
  have hO2' := hO2.ch c2 (fun b hb e => hS.une (by decide) b hb e)
  have hlt := q1'.1.lt
  exact ⟨fun b => (F b ∨ wr.heap.size ≤ b) ∧ b < (w6.setCell ⟨sb, 0, none⟩ v6).heap.size, ⟨r2, ERow.of q1' (EsAt.nw (hEx.mono (fun b hb hq => ⟨.inl hb, hq⟩)) (q2'.mono (fun b hb hq => ⟨.inr hb, hq⟩))), ERow.of hO2' (hE2'.mono (fun b hb hq => ⟨.inl hb, hq⟩)), fun b hb hb' => by have := q3 b hb; have := hS.lt b (hS.fu b hb'); omega, nwL_len d l hS.ld, hS.lu, ⟨.inl hS.fB, r2.lt⟩, fun b hb => ⟨.inr (q3 b hb), hlt b hb⟩, fun b hb => ⟨.inl (hS.fu b hb), hO2'.1.lt b hb⟩, fun b hb => hb.2⟩, fun b hb => hb.1, cB⟩
theorem world_u {sb : Nat} {vd vu v6 : Value} {F : Nat → Prop} {d u : List (List Xg)} {l : List Xg} {ws : List Value} {wr w6 : World} (hS : SkAt 29 sb vd vu F d u wr) (hE : EsAt F ws u wr) (hp : NwP wr.heap.size ws l v6 w6) (hb6 : Below wr.heap.size wr w6) :
    ∃ F9, SkAt 29 sb vd v6 F9 d (nwL u l) (w6.setCell ⟨sb, 1, none⟩ v6) ∧ (∀ b, F9 b → F b ∨ wr.heap.size ≤ b) ∧ Ch (fun b => b = sb) w6 (w6.setCell ⟨sb, 1, none⟩ v6) := by
  obtain ⟨⟨y, q1, q2⟩, q3⟩ := hp
  obtain ⟨zs, hO2, hE2⟩ := hS.rd.open
  have rX := hS.lies.later hb6
  have r2 : RowAt sb #[vd, v6] 29 (w6.setCell ⟨sb, 1, none⟩ v6) := rX.setc 1 v6
  have cB : Ch (fun b => b = sb) w6 (w6.setCell ⟨sb, 1, none⟩ v6) := (Ch.refl (fun b => b = sb) w6).set (p := ⟨sb, 1, none⟩) (.inl rfl) _
  have c2 : Ch (fun b => b = sb) wr (w6.setCell ⟨sb, 1, none⟩ v6) := (Ch.of hb6).go cB (fun s q => .inl q)
  have hsl := hS.lies.lt
  have q1' := q1.ch cB (fun b hb e => by have e' : b = sb := e; have := q3 b hb; omega)
  have q2' := q2.ch cB (fun b hb e => by have e' : b = sb := e; omega)
  have hTy : ∀ b, b = sb → b < wr.heap.size → ¬ ∃ cur, wr.heap[b]? = some (.cells cur 66 (0, 0)) := fun b hb _ hc => by
    obtain ⟨cur, hc⟩ := hc
    exact typ_ne hS.lies hc (by decide) hb
  have hEx := hE.apartOf c2 hTy
  have hE2' := hE2.apartOf c2 hTy
  have hO2' := hO2.ch c2 (fun b hb e => hS.dne (by decide) b hb e)
  have hlt := q1'.1.lt
  exact ⟨fun b => (F b ∨ wr.heap.size ≤ b) ∧ b < (w6.setCell ⟨sb, 1, none⟩ v6).heap.size, ⟨r2, ERow.of hO2' (hE2'.mono (fun b hb hq => ⟨.inl hb, hq⟩)), ERow.of q1' (EsAt.nw (hEx.mono (fun b hb hq => ⟨.inl hb, hq⟩)) (q2'.mono (fun b hb hq => ⟨.inr hb, hq⟩))), fun b hb hb' => by have := q3 b hb'; have := hS.lt b (hS.fd b hb); omega, hS.ld, nwL_len u l hS.lu, ⟨.inl hS.fB, r2.lt⟩, fun b hb => ⟨.inl (hS.fd b hb), hO2'.1.lt b hb⟩, fun b hb => ⟨.inr (q3 b hb), hlt b hb⟩, fun b hb => hb.2⟩, fun b hb => hb.1, cB⟩
/-- What the document's Load leaves of 64 edits or fewer. -/
def LdR (w : World) (ds us : List (List Xg)) (e : Ending) (w' : World) : Prop := ((∃ i, FirstW (ds ++ us) i ∧ ∃ v, e = .returned (.tuple #[.pointer none, v]) ∧ NoR w.heap.size (some (bLoad, (i : Int), 5)) v w') ∨ ((∀ m ∈ ds ++ us, wrongE m = false) ∧ ∃ B vd9 vu9 F, e = .returned (.tuple #[.pointer (some ⟨B, 0, none⟩), .agg (nov 0 none 0 0 none 0 0)]) ∧ SkAt 29 B vd9 vu9 F ds us w' ∧ (∀ k, F k → w.heap.size ≤ k))) ∧ Below w.heap.size w w'
theorem nwL_small {α : Type} (us : List α) (u : α) (h : us.length < 64) : nwL us u = us ++ [u] := by
  unfold nwL
  rw [show us.length + 1 - 64 = 0 by omega, List.drop_zero]
set_option maxHeartbeats 8000000 in
theorem refLoad_is {w : World} {vd vu : Value} {ds us : List (List Xg)} (hd : SlE w vd ds) (hu : SlE w vu us) (hf : ∀ l ∈ ds ++ us, l.length ≤ 4398046510976) (h : ds.length + us.length ≤ 64) :
    Calls Tryd.prog 15 #[vd, vu] w fun e w' => LdR w ds us e w' := by
  obtain ⟨a0, c0, hv0⟩ := hd.form
  obtain ⟨a1, c1, hv1⟩ := hu.form
  have HD := hid_of' (And.intro hd hu)
  have HF := hid_of' hf
  obtain ⟨nd, hnd⟩ : ∃ nd, nd = ds.length := ⟨_, rfl⟩
  obtain ⟨nu, hnu⟩ : ∃ nu, nu = us.length := ⟨_, rfl⟩
  rw [← hnd] at hv0 h
  rw [← hnu] at hv1 h
  subst hv0 hv1
  have HNd := hid_of' hnd
  have HNu := hid_of' hnu
  have HTot := hid_of' h
  have g1 : ¬ 64 < (nd : Int) + (nu : Int) := by omega
  have g2 : (nd : Int) + (nu : Int) ≤ 64 := by omega
  have g3 : (nd : Int) ≤ 64 := by omega
  clear hd hu hf hnd hnu
  have n2 : wrap64 ((nd : Int) + (nu : Int)) = (nd : Int) + (nu : Int) := wrapIs (by omega) (by omega)
  have r0 := row_new w (nov 0 none 0 0 none 0 0) 47
  have b0 := below_one w (.cells (nov 0 none 0 0 none 0 0) 47)
  go_enter Tryd.func15, Tryd.ntmps15
  go_upto_region 1 with fail
  change Code.wp _ _ _ _ (w.alloc (.cells (nov 0 none 0 0 none 0 0) 47))
  generalize w.alloc (.cells (nov 0 none 0 0 none 0 0) 47) = X0 at r0 b0 ⊢
  generalize hnb5 : w.heap.size = nb5 at r0 ⊢
  have HNb := hid_of' hnb5
  have b1 := below_one X0 (.cells #[.slice none 0 0, .slice none 0 0] 29)
  have rS := row_new X0 #[.slice none 0 0, .slice none 0 0] 29
  go_upto_region 2 with fail
  generalize X0.alloc (.cells #[.slice none 0 0, .slice none 0 0] 29) = X1 at b1 rS ⊢
  generalize hsb : X0.heap.size = sb at rS ⊢
  have h0 : SkAt 29 sb (.slice none 0 0) (.slice none 0 0) (fun k => k = sb) [] [] X1 := ⟨rS, ERow.nil _ _, ERow.nil _ _, fun k hk => (by cases hk), by simp, by simp, rfl, fun k hk => (by cases hk), fun k hk => (by cases hk), fun k hk => by have hk' : k = sb := hk; have := rS.lt; omega⟩
  have hl0 := r0.lt
  have HI0 := hid_of' (And.intro h0 (And.intro (bgo b0 b1) (And.intro (r0.later b1) (show nb5 < sb by omega))))
  clear h0 rS b1 r0 b0 hl0 hsb hnb5
  go_upto_region 5 with fail
  go_loopw [7] (fun iv wr => ∃ (k : Nat) (vd vu : Value) (F : Nat → Prop), iv = .int .i64 (k : Int) ∧ k ≤ nd + nu ∧ SkAt 29 sb vd vu F (ds.take k) (us.take (k - nd)) wr ∧ (∀ m ∈ (ds ++ us).take k, wrongE m = false) ∧ (∀ b, F b → ¬ b = nb5) ∧ (∀ b, F b → w.heap.size ≤ b) ∧ Below w.heap.size w wr ∧ RowAt nb5 (nov 0 none 0 0 none 0 0) 47 wr) (fun iv _ => nd + nu - (intOf iv).toNat)
  case atStart => exact ⟨0, _, _, _, rfl, Nat.zero_le _, by rw [List.take_zero, Nat.zero_sub, List.take_zero]; exact HI0.out.1, (fun m hm => by simp at hm), (fun b hb => by have hb' : b = sb := hb; have := HI0.out.2.2.2; omega), (fun b hb => by have hb' : b = sb := hb; have := HI0.out.2.2.2; have := HNb.out; omega), HI0.out.2.1, HI0.out.2.2.1⟩
  case round =>
    obtain ⟨k, vd, vu, F, rfl, hk, hS, hr, hF5, hF1, hB, r5⟩ := hrel
    by_cases hkn : k < nd + nu
    · have hki : (k : Int) < (nd : Int) + (nu : Int) := by omega
      by_cases hkd : k < nd
      · have hkdi : (k : Int) < (nd : Int) := by omega
        obtain ⟨l, hl⟩ : ∃ l, ds[k]? = some l := ⟨_, List.getElem?_eq_getElem (by rw [← HNd.out]; exact hkd)⟩
        have Hl := hid_of' hl
        have HlA : Hid ((ds ++ us)[k]? = some l) := by show _ = _; rw [List.getElem?_append_left (by rw [← HNd.out]; exact hkd)]; exact hl
        have HlM : Hid (l ∈ ds ++ us) := List.mem_of_getElem? HlA.out
        obtain ⟨gx, ox, x9, rfl, hcx, hs0⟩ := HD.out.1.at hl
        have cx : wr.cell? ⟨gx, ox + k, none⟩ = some x9 := by rw [hB.cell (World.block_lt_of_cell? _ _ hcx)]; exact hcx
        have hsx := hs0.later hB
        obtain ⟨a9, c9, hx9⟩ := hsx.form
        clear hl hcx hs0
        have hlen := HF.out l HlM.out
        obtain ⟨nl, hnl⟩ : ∃ nl, nl = l.length := ⟨_, rfl⟩
        have HNl := hid_of' hnl
        rw [← hnl] at hx9 hlen
        subst hx9
        have HSx := hid_of' hsx
        have HSk := hid_of' (And.intro hS (And.intro hr (And.intro hF5 (And.intro hF1 (And.intro hB r5)))))
        clear hsx hS hr hF5 hF1 hB r5 hnl
        go_upto_region 13 with fail
        clear cx
        go_loopw [9, 10] (fun okv jv wq => ∃ j : Nat, jv = .int .i64 (j : Int) ∧ j ≤ nl ∧ okv = .bool (!l.isEmpty && !badB (l.take j)) ∧ wq = wr) (fun _ jv _ => nl - (intOf jv).toNat)
        case atStart =>
          refine ⟨0, rfl, Nat.zero_le _, ?_, rfl⟩
          have e1 := HNl.out
          cases l with
          | nil => simp [badB] at e1 ⊢; omega
          | cons x xs => simp [badB] at e1 ⊢; omega
        case round =>
          obtain ⟨j, rfl, hj, rfl, hwq⟩ := hrel
          obtain rfl := hwq.symm
          by_cases hjn : j < nl
          · have hji : (j : Int) < (nl : Int) := by omega
            obtain ⟨e, he⟩ : ∃ e, l[j]? = some e := ⟨_, List.getElem?_eq_getElem (by rw [← HNl.out]; exact hjn)⟩
            have hemp : l.isEmpty = false := by cases l with | nil => simp at he | cons _ _ => rfl
            obtain ⟨_, g, o_, rfl, hcell⟩ := HSx.out.some' (by rintro rfl; simp at he)
            have c0 := g_kind (hcell j e he)
            have HT := hid_of' (And.intro (any_take he) hemp)
            rw [hemp]
            clear hcell he hemp
            cases hbd : badB (l.take j)
            · cases hok : okK e.k
              · have hno : e.k < 1 ∨ (1 ≤ e.k ∧ ¬ e.k ≤ 3) := by
                  simp only [okK, Bool.and_eq_false_iff, decide_eq_false_iff_not] at hok
                  omega
                generalize e.k = ek at c0 hno HT hok
                rcases hno with hno | ⟨hn1, hn2⟩
                · have hn1 : ¬ 1 ≤ ek := by omega
                  clear hno
                  go_wp2
                  go_roundw
                  case rel => exact ⟨j + 1, by go_num, by omega, by simp [HT.out.1, hbd, hok]⟩
                  case measure => simp [intOf]; omega
                · go_wp2
                  go_roundw
                  case rel => exact ⟨j + 1, by go_num, by omega, by simp [HT.out.1, hbd, hok]⟩
                  case measure => simp [intOf]; omega
              · have hok2 : 1 ≤ e.k ∧ e.k ≤ 3 := by
                  simp only [okK, Bool.and_eq_true, decide_eq_true_eq] at hok
                  exact hok
                generalize e.k = ek at c0 hok2 HT hok
                obtain ⟨hn1, hn2⟩ := hok2
                go_wp2
                go_roundw
                case rel => exact ⟨j + 1, by go_num, by omega, by simp [HT.out.1, hbd, hok]⟩
                case measure => simp [intOf]; omega
            · go_wp2
              go_roundw
              case rel => exact ⟨j + 1, by go_num, by omega, by simp [HT.out.1, hbd]⟩
              case measure => simp [intOf]; omega
          · have hji : ¬ (j : Int) < (nl : Int) := by omega
            have hjl : l.take j = l := List.take_of_length_le (by have := HNl.out; omega)
            rw [hjl]
            have hwe : (!l.isEmpty && !badB l) = !wrongE l := by unfold wrongE; cases l.isEmpty <;> cases badB l <;> rfl
            rw [hwe]
            obtain ⟨hS, hr, hF5, hF1, hB, r5⟩ := HSk.out
            cases hwl : wrongE l
            · have hne := right_ne hwl
              obtain ⟨ws, hO, hE⟩ := hS.rd.open
              obtain ⟨a7, c7, hv7⟩ := hO.form
              have h64 : ws.length ≤ 64 := by rw [hE.1]; exact hS.ld
              have HPu := hid_of' (push_ok hO HSx.out hne (HF.out l HlM.out) h64)
              generalize ws.length = n7 at hv7
              subst hv7
              have cS : wr.cell? ⟨sb, 0, none⟩ = some (.slice a7 n7 c7) := hS.lies.cellIs 0 rfl
              have HE := hid_of' (And.intro hE hwl)
              clear hS hr hF5 hF1 hB r5 hO hE h64 hjl hwe hwl
              go_upto_region 6 with (go_at_call 42; (with_reducible refine HPu.out.mono ?_); rintro e w6 ⟨v6, rfl, hp6, hb6⟩; clear HPu; obtain ⟨y6, hy6, _⟩ := hp6.ex; obtain ⟨a6, c6, hv6⟩ := hy6.form; have H6 := hid_of' (And.intro hp6 hb6); generalize List.length _ = n6 at hv6; subst hv6; have cS6 : w6.cell? ⟨sb, 0, none⟩ = some (.slice a7 n7 c7) := (by rw [hb6.cell (World.block_lt_of_cell? _ _ cS)]; exact cS); have fS6 : w6.frozen? ⟨sb, 0, none⟩ = false := (HSk.out.1.lies.later hb6).froz 0; clear hp6 hb6 hy6 cS)
              clear cS6 fS6
              have HN1 : Hid (∃ vd9 vu9 F9, SkAt 29 sb vd9 vu9 F9 (ds.take (k + 1)) (us.take (k + 1 - nd)) (w6.setCell ⟨sb, 0, none⟩ (.slice a6 n6 c6)) ∧ (∀ m ∈ (ds ++ us).take (k + 1), wrongE m = false) ∧ (∀ b, F9 b → ¬ b = nb5) ∧ (∀ b, F9 b → w.heap.size ≤ b) ∧ Below w.heap.size w (w6.setCell ⟨sb, 0, none⟩ (.slice a6 n6 c6)) ∧ RowAt nb5 (nov 0 none 0 0 none 0 0) 47 (w6.setCell ⟨sb, 0, none⟩ (.slice a6 n6 c6))) := by
                obtain ⟨hS, hr, hF5, hF1, hB, r5⟩ := HSk.out
                obtain ⟨F9, z1, z2, z3⟩ := world_d hS HE.out.1 H6.out.1 H6.out.2
                have hb6 := H6.out.2
                have hs6 := hb6.size
                have hw := hB.size
                have hr5 := r5.lt
                have e1 : nwL (ds.take k) l = (ds.take k ++ [l]) := nwL_small _ _ (by rw [List.length_take]; have := HTot.out; omega)
                rw [e1] at z1
                have q1 : ds.take (k + 1) = ds.take k ++ [l] := by rw [List.take_add_one, Hl.out]; rfl
                have q2 : us.take (k + 1 - nd) = us.take (k - nd) := by rw [show k + 1 - nd = 0 by omega, show k - nd = 0 by omega]
                rw [← q1, ← q2] at z1
                refine ⟨_, _, F9, z1, fun m hm => ?_, fun b hb e => ?_, fun b hb => ?_, ?_, ?_⟩
                · rw [List.take_add_one, HlA.out] at hm
                  rcases List.mem_append.1 hm with q | q
                  · exact hr m q
                  · simp at q
                    subst q
                    exact HE.out.2
                · rcases z2 b hb with q | q
                  · exact hF5 b q e
                  · omega
                · rcases z2 b hb with q | q
                  · exact hF1 b q
                  · omega
                · exact (bgo hB hb6).trans (z3.below (fun s hs q => by have q' : s = sb := q; have := hF1 sb hS.fB; omega) (bgo hB hb6).size)
                · exact (r5.later hb6).ch z3 (fun e => by have e' : nb5 = sb := e; exact hF5 sb hS.fB e'.symm)
              generalize w6.setCell ⟨sb, 0, none⟩ (.slice a6 n6 c6) = W9 at HN1 ⊢
              clear HSk H6
              go_wp2
              go_roundw
              case rel =>
                obtain ⟨vd9, vu9, F9, z1, z2, z3, z4, z5, z6⟩ := HN1.out
                exact ⟨k + 1, vd9, vu9, F9, by go_num, by omega, z1, z2, z3, z4, z5, z6⟩
              case measure => simp [intOf]; omega
            · have hY := fun x => say_is bLoad (k : Int) 5 x
              rw [show (((5 : Nat) : Int) + 1) = 6 from rfl] at hY
              have HY := hid_of' hY
              have HW := hid_of' (And.intro hwl (And.intro hr (And.intro hB (And.intro r5 r5.lt))))
              clear hY hS hr hF5 hF1 hB r5 hjl hwe hwl
              go_wp2_with (first | (go_at_call 29; refine (HY.out _).mono ?_; rintro e w4 ⟨v4, rfl, hn4, hb4⟩; clear HY; have HN9 := hid_of' (And.intro hn4 hb4); obtain ⟨g4, g4', rfl, _⟩ := hn4; clear hb4) | (refine wpL_storeNo rfl _ _ rfl rfl rfl (HW.out.2.2.2.1.later HN9.out.2) ?_))
              obtain ⟨hwl, hr, hB, r5, hr5⟩ := HW.out
              have k4 := Ch.row (S := fun k => k = nb5) (Ch.refl _ w4) (.inl rfl) (nov (((5 : Nat) : Int) + 1) (some ⟨g4', 0, none⟩) 1 1 (some ⟨g4, 0, none⟩) 1 1)
              have hn5 := NoR.ch HN9.out.1 k4 (fun s hs e => by have e' : s = nb5 := e; omega)
              have hw := hB.size
              have hn6 : NoR w.heap.size (some (bLoad, (k : Int), 5)) (.agg (nov (((5 : Nat) : Int) + 1) (some ⟨g4', 0, none⟩) 1 1 (some ⟨g4, 0, none⟩) 1 1)) (w4.setRow nb5 (nov (((5 : Nat) : Int) + 1) (some ⟨g4', 0, none⟩) 1 1 (some ⟨g4, 0, none⟩) 1 1)) := by
                obtain ⟨x, x', e1, e2, e3, e4, e5⟩ := hn5
                exact ⟨x, x', e1, by omega, by omega, e4, e5⟩
              exact bodyPost_ret (v := .tuple #[.pointer none, .agg (nov (((5 : Nat) : Int) + 1) (some ⟨g4', 0, none⟩) 1 1 (some ⟨g4, 0, none⟩) 1 1)]) (results_tNo (fn := Tryd.f15) (t := 4) (u := 5) rfl rfl ((r5.later HN9.out.2).put (nov (((5 : Nat) : Int) + 1) (some ⟨g4', 0, none⟩) 1 1 (some ⟨g4, 0, none⟩) 1 1)) rfl) rfl ⟨.inl ⟨k, ⟨⟨l, HlA.out, hwl⟩, hr⟩, _, rfl, hn6⟩, below_row (bgo hB HN9.out.2) (by have := HNb.out; omega) _⟩
      · have hkdi : ¬ (k : Int) < (nd : Int) := by omega
        have hi9u : (k : Int) - (nd : Int) < (nu : Int) := by omega
        have hi9n : k - nd < nu := by omega
        have hi90 : 0 ≤ (k : Int) - (nd : Int) := by omega
        have hw9 : -9223372036854775808 ≤ (k : Int) - (nd : Int) ∧ (k : Int) - (nd : Int) ≤ 9223372036854775807 := by omega
        obtain ⟨l, hl⟩ : ∃ l, us[k - nd]? = some l := ⟨_, List.getElem?_eq_getElem (by rw [← HNu.out]; omega)⟩
        have Hl := hid_of' hl
        have HlA : Hid ((ds ++ us)[k]? = some l) := by show _ = _; rw [List.getElem?_append_right (by rw [← HNd.out]; omega), ← HNd.out]; exact hl
        have HlM : Hid (l ∈ ds ++ us) := List.mem_of_getElem? HlA.out
        obtain ⟨gx, ox, x9, rfl, hcx, hs0⟩ := HD.out.2.at hl
        have cx : wr.cell? ⟨gx, ox + (k - nd), none⟩ = some x9 := by rw [hB.cell (World.block_lt_of_cell? _ _ hcx)]; exact hcx
        have hsx := hs0.later hB
        obtain ⟨a9, c9, hx9⟩ := hsx.form
        clear hl hcx hs0
        have hlen := HF.out l HlM.out
        obtain ⟨nl, hnl⟩ : ∃ nl, nl = l.length := ⟨_, rfl⟩
        have HNl := hid_of' hnl
        rw [← hnl] at hx9 hlen
        subst hx9
        have HSx := hid_of' hsx
        have HSk := hid_of' (And.intro hS (And.intro hr (And.intro hF5 (And.intro hF1 (And.intro hB r5)))))
        clear hsx hS hr hF5 hF1 hB r5 hnl
        have nsub : wrap64 ((k : Int) - (nd : Int)) = (k : Int) - (nd : Int) := wrapIs hw9.1 hw9.2
        clear hw9
        go_upto_region 13 with fail
        clear cx nsub
        go_loopw [9, 10] (fun okv jv wq => ∃ j : Nat, jv = .int .i64 (j : Int) ∧ j ≤ nl ∧ okv = .bool (!l.isEmpty && !badB (l.take j)) ∧ wq = wr) (fun _ jv _ => nl - (intOf jv).toNat)
        case atStart =>
          refine ⟨0, rfl, Nat.zero_le _, ?_, rfl⟩
          have e1 := HNl.out
          cases l with
          | nil => simp [badB] at e1 ⊢; omega
          | cons x xs => simp [badB] at e1 ⊢; omega
        case round =>
          obtain ⟨j, rfl, hj, rfl, hwq⟩ := hrel
          obtain rfl := hwq.symm
          by_cases hjn : j < nl
          · have hji : (j : Int) < (nl : Int) := by omega
            obtain ⟨e, he⟩ : ∃ e, l[j]? = some e := ⟨_, List.getElem?_eq_getElem (by rw [← HNl.out]; exact hjn)⟩
            have hemp : l.isEmpty = false := by cases l with | nil => simp at he | cons _ _ => rfl
            obtain ⟨_, g, o_, rfl, hcell⟩ := HSx.out.some' (by rintro rfl; simp at he)
            have c0 := g_kind (hcell j e he)
            have HT := hid_of' (And.intro (any_take he) hemp)
            rw [hemp]
            clear hcell he hemp
            cases hbd : badB (l.take j)
            · cases hok : okK e.k
              · have hno : e.k < 1 ∨ (1 ≤ e.k ∧ ¬ e.k ≤ 3) := by
                  simp only [okK, Bool.and_eq_false_iff, decide_eq_false_iff_not] at hok
                  omega
                generalize e.k = ek at c0 hno HT hok
                rcases hno with hno | ⟨hn1, hn2⟩
                · have hn1 : ¬ 1 ≤ ek := by omega
                  clear hno
                  go_wp2
                  go_roundw
                  case rel => exact ⟨j + 1, by go_num, by omega, by simp [HT.out.1, hbd, hok]⟩
                  case measure => simp [intOf]; omega
                · go_wp2
                  go_roundw
                  case rel => exact ⟨j + 1, by go_num, by omega, by simp [HT.out.1, hbd, hok]⟩
                  case measure => simp [intOf]; omega
              · have hok2 : 1 ≤ e.k ∧ e.k ≤ 3 := by
                  simp only [okK, Bool.and_eq_true, decide_eq_true_eq] at hok
                  exact hok
                generalize e.k = ek at c0 hok2 HT hok
                obtain ⟨hn1, hn2⟩ := hok2
                go_wp2
                go_roundw
                case rel => exact ⟨j + 1, by go_num, by omega, by simp [HT.out.1, hbd, hok]⟩
                case measure => simp [intOf]; omega
            · go_wp2
              go_roundw
              case rel => exact ⟨j + 1, by go_num, by omega, by simp [HT.out.1, hbd]⟩
              case measure => simp [intOf]; omega
          · have hji : ¬ (j : Int) < (nl : Int) := by omega
            have hjl : l.take j = l := List.take_of_length_le (by have := HNl.out; omega)
            rw [hjl]
            have hwe : (!l.isEmpty && !badB l) = !wrongE l := by unfold wrongE; cases l.isEmpty <;> cases badB l <;> rfl
            rw [hwe]
            obtain ⟨hS, hr, hF5, hF1, hB, r5⟩ := HSk.out
            cases hwl : wrongE l
            · have hne := right_ne hwl
              obtain ⟨ws, hO, hE⟩ := hS.ru.open
              obtain ⟨a7, c7, hv7⟩ := hO.form
              have h64 : ws.length ≤ 64 := by rw [hE.1]; exact hS.lu
              have HPu := hid_of' (push_ok hO HSx.out hne (HF.out l HlM.out) h64)
              generalize ws.length = n7 at hv7
              subst hv7
              have cS : wr.cell? ⟨sb, 1, none⟩ = some (.slice a7 n7 c7) := hS.lies.cellIs 1 rfl
              have HE := hid_of' (And.intro hE hwl)
              clear hS hr hF5 hF1 hB r5 hO hE h64 hjl hwe hwl
              go_upto_region 6 with (go_at_call 42; (with_reducible refine HPu.out.mono ?_); rintro e w6 ⟨v6, rfl, hp6, hb6⟩; clear HPu; obtain ⟨y6, hy6, _⟩ := hp6.ex; obtain ⟨a6, c6, hv6⟩ := hy6.form; have H6 := hid_of' (And.intro hp6 hb6); generalize List.length _ = n6 at hv6; subst hv6; have cS6 : w6.cell? ⟨sb, 1, none⟩ = some (.slice a7 n7 c7) := (by rw [hb6.cell (World.block_lt_of_cell? _ _ cS)]; exact cS); have fS6 : w6.frozen? ⟨sb, 1, none⟩ = false := (HSk.out.1.lies.later hb6).froz 1; clear hp6 hb6 hy6 cS)
              clear cS6 fS6
              have HN1 : Hid (∃ vd9 vu9 F9, SkAt 29 sb vd9 vu9 F9 (ds.take (k + 1)) (us.take (k + 1 - nd)) (w6.setCell ⟨sb, 1, none⟩ (.slice a6 n6 c6)) ∧ (∀ m ∈ (ds ++ us).take (k + 1), wrongE m = false) ∧ (∀ b, F9 b → ¬ b = nb5) ∧ (∀ b, F9 b → w.heap.size ≤ b) ∧ Below w.heap.size w (w6.setCell ⟨sb, 1, none⟩ (.slice a6 n6 c6)) ∧ RowAt nb5 (nov 0 none 0 0 none 0 0) 47 (w6.setCell ⟨sb, 1, none⟩ (.slice a6 n6 c6))) := by
                obtain ⟨hS, hr, hF5, hF1, hB, r5⟩ := HSk.out
                obtain ⟨F9, z1, z2, z3⟩ := world_u hS HE.out.1 H6.out.1 H6.out.2
                have hb6 := H6.out.2
                have hs6 := hb6.size
                have hw := hB.size
                have hr5 := r5.lt
                have e1 : nwL (us.take (k - nd)) l = (us.take (k - nd) ++ [l]) := nwL_small _ _ (by rw [List.length_take]; have := HTot.out; omega)
                rw [e1] at z1
                have q1 : ds.take (k + 1) = ds.take k := by rw [List.take_of_length_le (by have := HNd.out; omega), List.take_of_length_le (by have := HNd.out; omega)]
                have q2 : us.take (k + 1 - nd) = us.take (k - nd) ++ [l] := by rw [show k + 1 - nd = (k - nd) + 1 by omega, List.take_add_one, Hl.out]; rfl
                rw [← q1, ← q2] at z1
                refine ⟨_, _, F9, z1, fun m hm => ?_, fun b hb e => ?_, fun b hb => ?_, ?_, ?_⟩
                · rw [List.take_add_one, HlA.out] at hm
                  rcases List.mem_append.1 hm with q | q
                  · exact hr m q
                  · simp at q
                    subst q
                    exact HE.out.2
                · rcases z2 b hb with q | q
                  · exact hF5 b q e
                  · omega
                · rcases z2 b hb with q | q
                  · exact hF1 b q
                  · omega
                · exact (bgo hB hb6).trans (z3.below (fun s hs q => by have q' : s = sb := q; have := hF1 sb hS.fB; omega) (bgo hB hb6).size)
                · exact (r5.later hb6).ch z3 (fun e => by have e' : nb5 = sb := e; exact hF5 sb hS.fB e'.symm)
              generalize w6.setCell ⟨sb, 1, none⟩ (.slice a6 n6 c6) = W9 at HN1 ⊢
              clear HSk H6
              go_wp2
              go_roundw
              case rel =>
                obtain ⟨vd9, vu9, F9, z1, z2, z3, z4, z5, z6⟩ := HN1.out
                exact ⟨k + 1, vd9, vu9, F9, by go_num, by omega, z1, z2, z3, z4, z5, z6⟩
              case measure => simp [intOf]; omega
            · have hY := fun x => say_is bLoad (k : Int) 5 x
              rw [show (((5 : Nat) : Int) + 1) = 6 from rfl] at hY
              have HY := hid_of' hY
              have HW := hid_of' (And.intro hwl (And.intro hr (And.intro hB (And.intro r5 r5.lt))))
              clear hY hS hr hF5 hF1 hB r5 hjl hwe hwl
              go_wp2_with (first | (go_at_call 29; refine (HY.out _).mono ?_; rintro e w4 ⟨v4, rfl, hn4, hb4⟩; clear HY; have HN9 := hid_of' (And.intro hn4 hb4); obtain ⟨g4, g4', rfl, _⟩ := hn4; clear hb4) | (refine wpL_storeNo rfl _ _ rfl rfl rfl (HW.out.2.2.2.1.later HN9.out.2) ?_))
              obtain ⟨hwl, hr, hB, r5, hr5⟩ := HW.out
              have k4 := Ch.row (S := fun k => k = nb5) (Ch.refl _ w4) (.inl rfl) (nov (((5 : Nat) : Int) + 1) (some ⟨g4', 0, none⟩) 1 1 (some ⟨g4, 0, none⟩) 1 1)
              have hn5 := NoR.ch HN9.out.1 k4 (fun s hs e => by have e' : s = nb5 := e; omega)
              have hw := hB.size
              have hn6 : NoR w.heap.size (some (bLoad, (k : Int), 5)) (.agg (nov (((5 : Nat) : Int) + 1) (some ⟨g4', 0, none⟩) 1 1 (some ⟨g4, 0, none⟩) 1 1)) (w4.setRow nb5 (nov (((5 : Nat) : Int) + 1) (some ⟨g4', 0, none⟩) 1 1 (some ⟨g4, 0, none⟩) 1 1)) := by
                obtain ⟨x, x', e1, e2, e3, e4, e5⟩ := hn5
                exact ⟨x, x', e1, by omega, by omega, e4, e5⟩
              exact bodyPost_ret (v := .tuple #[.pointer none, .agg (nov (((5 : Nat) : Int) + 1) (some ⟨g4', 0, none⟩) 1 1 (some ⟨g4, 0, none⟩) 1 1)]) (results_tNo (fn := Tryd.f15) (t := 4) (u := 5) rfl rfl ((r5.later HN9.out.2).put (nov (((5 : Nat) : Int) + 1) (some ⟨g4', 0, none⟩) 1 1 (some ⟨g4, 0, none⟩) 1 1)) rfl) rfl ⟨.inl ⟨k, ⟨⟨l, HlA.out, hwl⟩, hr⟩, _, rfl, hn6⟩, below_row (bgo hB HN9.out.2) (by have := HNb.out; omega) _⟩
    · have hki : ¬ (k : Int) < (nd : Int) + (nu : Int) := by omega
      rw [List.take_of_length_le (by have := HNd.out; omega), List.take_of_length_le (by have := HNu.out; have := HNd.out; omega)] at hS
      rw [List.take_of_length_le (by rw [List.length_append]; have := HNu.out; have := HNd.out; omega)] at hr
      have HSk := hid_of' (And.intro hS (And.intro hr (And.intro hF5 (And.intro hF1 (And.intro hB r5)))))
      clear hS hr hF5 hF1 hB
      go_wp2_with (refine wpL_storeNo rfl _ _ rfl rfl rfl r5 ?_)
      obtain ⟨hS, hr, hF5, hF1, hB, r5⟩ := HSk.out
      have k4 := Ch.row (S := fun k => k = nb5) (Ch.refl _ wr) (.inl rfl) (nov 0 none 0 0 none 0 0)
      exact bodyPost_ret (v := .tuple #[.pointer (some ⟨sb, 0, none⟩), .agg (nov 0 none 0 0 none 0 0)]) (results_tNo (fn := Tryd.f15) (t := 4) (u := 5) rfl rfl (r5.put (nov 0 none 0 0 none 0 0)) rfl) rfl ⟨.inr ⟨hr, sb, vd, vu, F, rfl, hS.ch k4 hF5, hF1⟩, below_row hB (by have := HNb.out; omega) _⟩
end Go.Proofs.YtgkbgojgpomcdaaDoor
