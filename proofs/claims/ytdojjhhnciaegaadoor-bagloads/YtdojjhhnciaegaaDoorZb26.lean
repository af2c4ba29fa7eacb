
/-
  Package bag: allOwn, All; barrowkeep.Parcels.
-/
import Derived.Test.YtdojjhhnciaegaaDoorZb25
namespace Go.Proofs.YtdojjhhnciaegaaDoor
open Go.RowKit Go.Extern.Stop Go.Stop Go.Extern
set_option maxRecDepth 100000

/-- Parcels that are only read, their bytes anywhere. -/
def SlQ (w : World) (v : Value) (l : List Pl) : Prop := (l = [] ∧ ∃ a c, v = .slice a 0 c) ∨ ∃ (g o_ c : Nat) (ps : List Pc), v = .slice (some ⟨g, o_, none⟩) l.length c ∧ ps.length = l.length ∧ ∀ (i : Nat) (p : Pc) (q : Pl), ps[i]? = some p → l[i]? = some q → PcR p q w ∧ q.bs.length ≤ 140737488351232 ∧ CsIn g (o_ + i * 4) (pcv p) w
theorem SlQ.form {w : World} {v : Value} {l : List Pl} (h : SlQ w v l) : ∃ a c, v = .slice a l.length c := by
  rcases h with ⟨rfl, a, c, rfl⟩ | ⟨g, o_, c, ps, rfl, _⟩
  · exact ⟨a, c, rfl⟩
  · exact ⟨_, c, rfl⟩
theorem PRow.q {K : Nat → Prop} {v : Value} {l : List Pl} {w : World} (h : PRow K v l w) : SlQ w v l := by
  rcases h.sl with h | ⟨g, o_, c, ps, rfl, h1, h2⟩
  · exact .inl h
  · exact .inr ⟨g, o_, c, ps, rfl, h1.1, fun i p q hp hq => ⟨(h1.2 i p q hp hq).r, (h1.2 i p q hp hq).le, h2 i p hp⟩⟩
theorem SlQ.later {w w' : World} {v : Value} {l : List Pl} (h : SlQ w v l) (hb : Below w.heap.size w w') : SlQ w' v l := by
  rcases h with h | ⟨g, o_, c, ps, rfl, h1, h2⟩
  · exact .inl h
  · exact .inr ⟨g, o_, c, ps, rfl, h1, fun i p q hp hq => ⟨(h2 i p q hp hq).1.later hb, (h2 i p q hp hq).2.1, (h2 i p q hp hq).2.2.later hb⟩⟩
theorem SlQ.at {w : World} {a : Option Addr} {c : Nat} {l : List Pl} (h : SlQ w (.slice a l.length c) l) {i : Nat} {q : Pl} (hq : l[i]? = some q) : ∃ g o_ p, a = some ⟨g, o_, none⟩ ∧ PcR p q w ∧ q.bs.length ≤ 140737488351232 ∧ CsIn g (o_ + i * 4) (pcv p) w := by
  have hi := (List.getElem?_eq_some_iff.1 hq).1
  rcases h with ⟨e, _⟩ | ⟨g, o_, c', ps, e, h1, h2⟩
  · rw [e] at hi; simp at hi
  · cases e
    obtain ⟨p, hp⟩ : ∃ p, ps[i]? = some p := ⟨_, List.getElem?_eq_getElem (by omega)⟩
    exact ⟨g, o_, p, rfl, h2 i p q hp hq⟩
/-- One more parcel is laid behind the others. -/
theorem Rw.push {n c g : Nat} {ps : List Pc} {w : World} (h : Rw 65 4 (.slice (some ⟨g, 0, none⟩) n c) n (pcells ps) w) (hi : n < c) (x : Pc) : Rw 65 4 (.slice (some ⟨g, 0, none⟩) (n + 1) c) (n + 1) (pcells (ps ++ [x])) (w.setCells g (n * 4) (pcv x).toList) := by
  have hlen : ps.length = n := by have := h.1; rw [pcells_len] at this; omega
  have h0 : Rw 65 4 (.slice (some ⟨g, 0, none⟩) (n + 1) c) (n + 1) (pcells (ps ++ [x])) (w.setCells g (n * 4) (pcv x).toList) ∨ True := .inr trivial
  clear h0
  refine ⟨by rw [pcells_len, List.length_append, List.length_singleton, hlen], ?_⟩
  rcases h.2 with ⟨q, _⟩ | ⟨g', cap, cur, q, hg, h1, h2, h3, h4⟩
  · cases q
  · cases q
    refine .inr ⟨g, c, (((cur.setIfInBounds (n * 4) (.int .i64 x.s)).setIfInBounds (n * 4 + 1) (.int .i64 x.f)).setIfInBounds (n * 4 + 1 + 1) (.int .i64 x.t)).setIfInBounds (n * 4 + 1 + 1 + 1) x.b, rfl, ?_, by omega, h2, by simpa using h3, ?_⟩
    · exact RowAt.setc (RowAt.setc (RowAt.setc (RowAt.setc hg _ _) _ _) _ _) _ _
    · apply List.ext_getElem?
      intro k
      have hsz : n * 4 + 3 < cur.size := by omega
      by_cases hk : k < (n + 1) * 4
      · rw [List.getElem?_take_of_lt hk, Array.getElem?_toList]
        obtain ⟨u, hu⟩ : ∃ u, (pcells (ps ++ [x]))[k]? = some u := ⟨_, List.getElem?_eq_getElem (by rw [pcells_len, List.length_append, List.length_singleton, hlen]; exact hk)⟩
        obtain ⟨a, e, j, e1, rfl, e3⟩ := pcells_of _ _ _ hu
        rw [hu]
        have hj : j < 4 := (Array.getElem?_eq_some_iff.1 e3).1
        by_cases hai : a < n
        · rw [List.getElem?_append_left (by omega)] at e1
          have hh := pcells_at ps a e e1 j u e3
          rw [← h4, List.getElem?_take_of_lt (by omega), Array.getElem?_toList] at hh
          rw [Array.getElem?_setIfInBounds_ne (by omega), Array.getElem?_setIfInBounds_ne (by omega), Array.getElem?_setIfInBounds_ne (by omega), Array.getElem?_setIfInBounds_ne (by omega)]
          exact hh
        · have han : a = n := by omega
          subst han
          rw [List.getElem?_append_right (by omega), hlen, Nat.sub_self] at e1
          cases e1
          match j, hj, e3 with
          | 0, _, e3 => simp [pcv] at e3; subst e3; rw [Array.getElem?_setIfInBounds_ne (by omega), Array.getElem?_setIfInBounds_ne (by omega), Array.getElem?_setIfInBounds_ne (by omega)]; exact get_set _ _ _ (by omega)
          | 1, _, e3 => simp [pcv] at e3; subst e3; rw [Array.getElem?_setIfInBounds_ne (by omega), Array.getElem?_setIfInBounds_ne (by omega)]; exact get_set _ _ _ (by simp; omega)
          | 2, _, e3 => simp [pcv] at e3; subst e3; rw [Array.getElem?_setIfInBounds_ne (by omega)]; exact get_set _ _ _ (by simp; omega)
          | 3, _, e3 => simp [pcv] at e3; subst e3; exact get_set _ _ _ (by simp; omega)
      · rw [List.getElem?_eq_none (by rw [List.length_take]; omega), List.getElem?_eq_none (by rw [pcells_len, List.length_append, List.length_singleton, hlen]; omega)]
theorem take_one {α : Type} {l : List α} {k : Nat} {x : α} (h : l[k]? = some x) : l.take (k + 1) = l.take k ++ [x] := by rw [List.take_add_one, h]; rfl
set_option maxHeartbeats 4000000 in
theorem allOwn_any {w : World} {v : Value} {l : List Pl} (h : SlQ w v l) (hl : l.length ≤ 4096) :
    Calls Tryd.prog 48 #[v] w fun e w' => ∃ u, e = .returned u ∧ PRow (fun k => w.heap.size ≤ k) u l w' ∧ (∀ k, u.ownBlock = some k → w.heap.size ≤ k) ∧ Below w.heap.size w w' := by
  obtain ⟨a, c, rfl⟩ := h.form
  obtain ⟨i0, hi0, hz0, hz1, hz2⟩ := info_parts info_p
  have H := hid_of' h
  clear h
  go_enter Tryd.func48, Tryd.ntmps48
  go_upto_region 2 with (refine wpList_make_full _ rfl _ _ 45 rfl w.heap.size 65 i0 (.agg #[.int .i64 0, .int .i64 0, .int .i64 0, .slice none 0 0]) 4 Tryd.underlying45 hi0 hz0 hz1 .i64 .i64 _ _ l.length rfl rfl rfl rfl ?b2 ?b3 (Nat.le_refl _) ?_)
  case b2 => rw [hz2]; omega
  case b3 => unfold maxLen; omega
  intro w1 hown hgr
  have hb1 : Below w.heap.size w w1 := (Below.refl _ w).grown hgr (Nat.le_refl _) (by simp)
  have hrw : Rw 65 4 (.slice (some ⟨w.heap.size, 0, none⟩) 0 l.length) 0 (pcells []) w1 := by
    rcases hown.2 with ⟨hv, _⟩ | ⟨g, cap, cur, hv, _, hg, _, _, hc, _⟩
    · simp at hv
    · simp only [Value.slice.injEq, Option.some.injEq, Addr.mk.injEq, and_true, true_and] at hv
      obtain ⟨rfl, rfl⟩ := hv
      exact ⟨rfl, .inr ⟨w.heap.size, l.length, cur, rfl, hg, Nat.zero_le _, by unfold maxLen; omega, by rw [hc]; exact Nat.le_refl _, by simp [pcells]⟩⟩
  have HS := hid_of' (And.intro hrw hb1)
  clear hown hgr hrw hb1 hi0 hz0 hz1 hz2
  go_wp2
  go_loopw [11] (fun kv wr => ∃ (k : Nat) (qs : List Pc), kv = .int .i64 (k : Int) ∧ k ≤ l.length ∧ Rw 65 4 (.slice (some ⟨w.heap.size, 0, none⟩) k l.length) k (pcells qs) wr ∧ PsAt (fun b => w.heap.size < b) qs (l.take k) wr ∧ Below w.heap.size w wr) (fun kv _ => l.length - (intOf kv).toNat)
  case atStart => exact ⟨0, [], rfl, by omega, HS.out.1, by simpa using PsAt.nil _ _, HS.out.2⟩
  case round =>
    clear HS
    rename_i wr
    obtain ⟨k, qs, rfl, hk, hR, hP, hB⟩ := hrel
    by_cases hkl : k < l.length
    · have hki : (k : Int) < (l.length : Int) := by omega
      obtain ⟨q, hq⟩ : ∃ q, l[k]? = some q := ⟨_, List.getElem?_eq_getElem hkl⟩
      obtain ⟨g, o_, p, rfl, hpr, hle, hin⟩ := H.out.at hq
      have hin2 := hin.ch (S := fun k => w.heap.size ≤ k) (Ch.ofBelow hB) (by have := hin.1; omega)
      have hpr2 := hpr.low hB
      have HX := hid_of' (And.intro hR (And.intro hP (And.intro hB (And.intro hin2 (And.intro hpr2 (And.intro hle hq))))))
      have HP1 : p.b.oneCell' = true := hpr.b.one
      have hsz := hB.size
      have hRl := hR.lt w.heap.size rfl
      clear hR hP hB hin hin2 hpr hpr2 hle hq
      go_upto_region 5 with (first | (refine wpL_loadP (p := p) rfl _ rfl rfl HX.out.2.2.2.1 ?_) | (refine wpL_stNewP (p := p) rfl _ _ rfl rfl rfl rfl rfl rfl HP1 ?_; go_simp))
      have r5 := row_new wr (pcv p) 65
      have hb5 := below_one wr (.cells (pcv p) 65)
      have HO := hid_of' (own_any (HX.out.2.2.2.2.1.b.later hb5) (by have := HX.out.2.2.2.2.2.1; omega))
      have H5 := hid_of' (And.intro r5 hb5)
      have hs5 : (wr.alloc (.cells (pcv p) 65)).heap.size = wr.heap.size + 1 := World.size_alloc _ _
      have HS5 := hid_of' hs5
      clear r5 hb5 hs5
      generalize wr.alloc (.cells (pcv p) 65) = w5 at HO H5 HS5 ⊢
      go_upto_region 6 with (first | (refine wpL_loadP (p := p) rfl _ rfl rfl H5.out.1.in ?_) | (go_at_call 60; refine HO.out.mono ?_; rintro e w6 ⟨gn, hgn, rfl, hcells, hb6⟩; clear HO; have H6 := hid_of' (And.intro hgn (And.intro hcells (bgo H5.out.2 hb6))); clear hgn hcells hb6) | (refine wpL_storeP (p := ⟨p.s, p.f, p.t, .slice (some ⟨gn, 0, none⟩) q.bs.length q.bs.length⟩) rfl _ _ rfl rfl rfl rfl ((HX.out.1.later H6.out.2.2).room hkl) ?_; go_simp))
      have hgn := H6.out.1
      have hs5 := HS5.out
      have hR7 := (HX.out.1.later H6.out.2.2).push hkl ⟨p.s, p.f, p.t, .slice (some ⟨gn, 0, none⟩) q.bs.length q.bs.length⟩
      have c7 : Ch (fun k => k = w.heap.size) w6 (w6.setCells w.heap.size (k * 4) (pcv ⟨p.s, p.f, p.t, .slice (some ⟨gn, 0, none⟩) q.bs.length q.bs.length⟩).toList) := Ch.cells (S := fun k => k = w.heap.size) (.inl rfl) _ _ _ (Ch.refl _ _)
      have hB7 : Below w.heap.size w (w6.setCells w.heap.size (k * 4) (pcv ⟨p.s, p.f, p.t, .slice (some ⟨gn, 0, none⟩) q.bs.length q.bs.length⟩).toList) := by
        have hb : Below w.heap.size w w6 := HX.out.2.2.1.trans (H6.out.2.2.mono HX.out.2.2.1.size)
        exact hb.trans (c7.below (fun s hs e => by omega) hb.size)
      have hP7 : PsAt (fun b => w.heap.size < b) (qs ++ [⟨p.s, p.f, p.t, .slice (some ⟨gn, 0, none⟩) q.bs.length q.bs.length⟩]) (l.take (k + 1)) (w6.setCells w.heap.size (k * 4) (pcv ⟨p.s, p.f, p.t, .slice (some ⟨gn, 0, none⟩) q.bs.length q.bs.length⟩).toList) := by
        rw [take_one HX.out.2.2.2.2.2.2]
        refine ((HX.out.2.1.later H6.out.2.2).ch c7 (fun g hg e => by omega)).app (PsAt.one ⟨HX.out.2.2.2.2.1.s, HX.out.2.2.2.2.1.f, HX.out.2.2.2.2.1.t, bs_new (c7.heap H6.out.2.1 (by omega)) (by have := HX.out.2.2.2.2.2.1; omega) (by omega), HX.out.2.2.2.2.2.1⟩)
      have H7 := hid_of' (And.intro hR7 (And.intro hP7 hB7))
      clear hR7 hP7 hB7 c7
      generalize w6.setCells w.heap.size (k * 4) (pcv ⟨p.s, p.f, p.t, .slice (some ⟨gn, 0, none⟩) q.bs.length q.bs.length⟩).toList = w7 at H7 ⊢
      go_wp2
      go_roundw
      case rel => exact ⟨k + 1, _, by go_num, by omega, H7.out.1, H7.out.2.1, H7.out.2.2⟩
      case measure => simp [intOf]; omega
    · have hki : ¬ (k : Int) < (l.length : Int) := by omega
      have hkk : k = l.length := by omega
      have HX := hid_of' (And.intro hR (And.intro hP (And.intro hB hkk)))
      clear hR hP hB hkk
      go_wp2
      go_ret
      have hkk := HX.out.2.2.2
      refine ⟨_, rfl, ⟨qs, ?_, ?_⟩, fun k' hk' => by cases hk'; exact Nat.le_refl _, HX.out.2.2.1⟩
      · have := HX.out.1
        rw [hkk] at this
        exact this
      · have := HX.out.2.1
        rw [hkk, List.take_length] at this
        exact this.mono (fun g hg _ => by omega)
theorem all_is {B : Nat} {v : Value} {g : Bg} {K : Nat → Prop} {w : World} (h : BgAt B v g K w) :
    Calls Tryd.prog 44 #[.pointer (some ⟨B, 0, none⟩)] w fun e w' => ∃ u, e = .returned u ∧ PRow (fun k => w.heap.size ≤ k) u g.l w' ∧ (∀ k, u.ownBlock = some k → w.heap.size ≤ k) ∧ Below w.heap.size w w' := by
  have HA := hid_of' (allOwn_any h.row.q (by have := h.room; have := h.most1; omega))
  have c1 := h.lies.cellIs 1 rfl
  clear h
  go_enter Tryd.func44, Tryd.ntmps44
  go_wp2_with (go_at_call 48; refine HA.out.mono ?_; rintro e w1 ⟨u, rfl, h1, h2, h3⟩)
  go_ret
  exact ⟨u, rfl, h1, h2, h3⟩
set_option maxHeartbeats 4000000 in
theorem parcels_eq {w : World} {v u : Value} {l : List Pl} (hv : SlQ w v l) (hu : SlQ w u l) (hl : l.length ≤ 1000000) :
    Calls Tryd.prog 45 #[v, u] w fun e w' => e = .returned (.bool true) ∧ Below w.heap.size w w' := by
  obtain ⟨a, c, rfl⟩ := hv.form
  obtain ⟨a', c', rfl⟩ := hu.form
  have H := hid_of' (And.intro hv hu)
  clear hv hu
  go_enter Tryd.func45, Tryd.ntmps45
  go_wp2
  go_loopw [5] (fun kv wr => ∃ k : Nat, kv = .int .i64 (k : Int) ∧ k ≤ l.length ∧ Below w.heap.size w wr) (fun kv _ => l.length - (intOf kv).toNat)
  case atStart => exact ⟨0, rfl, by omega, Below.refl _ _⟩
  case round =>
    rename_i wr
    obtain ⟨k, rfl, hk, hB⟩ := hrel
    by_cases hkl : k < l.length
    · have hki : (k : Int) < (l.length : Int) := by omega
      obtain ⟨q, hq⟩ : ∃ q, l[k]? = some q := ⟨_, List.getElem?_eq_getElem hkl⟩
      obtain ⟨g, o_, p, rfl, hpr, _, hin⟩ := H.out.1.at hq
      obtain ⟨g', o', p', rfl, hpr', _, hin'⟩ := H.out.2.at hq
      have HL1 : ∀ x, (∃ s : Wld wr, x = wOf s) → CsIn g (o_ + k * 4) (pcv p) x := (hin.later hB).cls
      have HL2 : ∀ x, (∃ s : Wld wr, x = wOf s) → CsIn g' (o' + k * 4) (pcv p') x := (hin'.later hB).cls
      have HPQ := hid_of' (And.intro (hpr.later hB) (hpr'.later hB))
      clear hpr hpr' hin hin' hq
      go_upto_region 6 with fail
      refine wp_region_cls (by kernel_rfl) (by kernel_rfl) ?_
      repeat (first | go_big_quiet_skip | (go_big_quiet_want; first | (refine quiet_loadP _ rfl rfl HL1 ?_; simp only [Act.put, List.setIfInBounds_toArray, List.set_cons_succ, List.set_cons_zero]; go_big_quiet_on) | (refine quiet_loadP _ rfl rfl HL2 ?_; simp only [Act.put, List.setIfInBounds_toArray, List.set_cons_succ, List.set_cons_zero]; go_big_quiet_on) | (go_big_quiet_op; first | go_big_quiet_on | go_big_quiet_call ((go_at_call 64; exact cls_of (parcel_eq (HPQ.out.1.later (wOf_below _)) (HPQ.out.2.later (wOf_below _))))))))
      refine wpQuiet_nil ?_
      rintro w1 ⟨s1, e1⟩
      have hb1 := wOf_below s1
      rw [← e1] at hb1
      clear e1 s1
      replace hB := bgo hB hb1
      clear hb1
      go_wp2
      go_roundw
      case rel => exact ⟨k + 1, by go_num, by omega, hB⟩
      case measure => simp [intOf]; omega
    · have hki : ¬ (k : Int) < (l.length : Int) := by omega
      go_wp2
      go_ret
      exact ⟨rfl, hB⟩
end Go.Proofs.YtdojjhhnciaegaaDoor
